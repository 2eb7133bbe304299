/-
  A map whose keys are the beginnings of exits: what is looked up, entered and stored, from every world that holds the map.
-/
import Derived.WideKeyEntry
import Derived.DeepKeys4
import Derived.Test.YtaolallfmjjoeaaRC
namespace Go.Proofs.Ytaolallfmjjoeaa.RD
set_option maxRecDepth 100000
open Go Go.RowKit Go.MapKept Go.ChangeMaps Go.Proofs.Ytaolallfmjjoeaa

/-- Where an exit begins. -/
abbrev Ky := Int × Int × Int
def kv (k : Ky) : Value := .agg #[.int .i64 k.1, .int .i64 k.2.1, .int .i64 k.2.2]
theorem part33 (a b d : Int) (W : World) : (part 33 #[.int .i64 a, .int .i64 b, .int .i64 d] 0).run Try.prog W = .ok (.agg #[.int .i64 a, .int .i64 b]) W := by kernel_rfl
theorem part3 (a b d : Int) (W : World) : (part 3 #[.int .i64 a, .int .i64 b, .int .i64 d] 2).run Try.prog W = .ok (.int .i64 d) W := by kernel_rfl
theorem part3a (a b : Int) (W : World) : (part 3 #[.int .i64 a, .int .i64 b] 0).run Try.prog W = .ok (.int .i64 a) W := by kernel_rfl
theorem part3b (a b : Int) (W : World) : (part 3 #[.int .i64 a, .int .i64 b] 1).run Try.prog W = .ok (.int .i64 b) W := by kernel_rfl
theorem eq33 (n : Nat) (a b a' b' : Int) (W : World) : (Op.equalIn (n + 1 + 1) 33 (.agg #[.int .i64 a, .int .i64 b]) (.agg #[.int .i64 a', .int .i64 b'])).run Try.prog W = .ok (decide (a = a') && decide (b = b')) W := by
  have hS : Try.prog.underlying 33 = some (.struct (Try.prog.fieldsOf 33)) := by kernel_rfl
  have hp : Try.prog.stoodInHeld 33 = false := by kernel_rfl
  rw [run_equalIn_agg W (n + 1) 33 _ _ hS hp]
  simp only [Program.fieldsOf, Try.underlying33]
  by_cases h1 : a = a' <;> by_cases h2 : b = b' <;> simp [Op.eqFields, part3a, part3b, run_equalIn_int W n 3 .i64 .i64 _ _ Try.underlying3, Result.andThen, h1, h2]
theorem eq86 (n : Nat) (k k' : Ky) (W : World) : (Op.equalIn (n + 1 + 1 + 1) 86 (kv k) (kv k')).run Try.prog W = .ok (decide (k = k')) W := by
  obtain ⟨a, b, d⟩ := k
  obtain ⟨a', b', d'⟩ := k'
  have hS : Try.prog.underlying 86 = some (.struct (Try.prog.fieldsOf 86)) := by kernel_rfl
  have hp : Try.prog.stoodInHeld 86 = false := by kernel_rfl
  unfold kv
  rw [run_equalIn_agg W (n + 1 + 1) 86 _ _ hS hp]
  simp only [Program.fieldsOf, Try.underlying86]
  by_cases h1 : a = a' <;> by_cases h2 : b = b' <;> by_cases h3 : d = d' <;> simp [Op.eqFields, part33, part3, eq33, run_equalIn_int W (n + 1) 3 .i64 .i64 _ _ Try.underlying3, Result.andThen, h1, h2, h3]
theorem eqK (k k' : Ky) (W : World) : (Op.equal 86 (kv k) (kv k')).run Try.prog W = .ok (decide (k = k')) W := eq86 9997 k k' W
theorem fnow (n : TypeDesc) (hn : Try.prog.underlying 86 = some n) (k : Ky) (e : MapEntry) (es : List MapEntry) (i : Nat) : Instr.findNow n (kv k) (e :: es) i = none := by
  rw [Try.underlying86] at hn
  cases hn
  rfl
theorem sb (n : Nat) (q : IntKind) (a : Int) : Instr.sameBits (n + 1) (.int q a) (.int q a) = true := by unfold Instr.sameBits; simp
theorem stays (k : Ky) (W : World) : (Instr.keyThatStays (kv k) (kv k)).run Try.prog W = .ok (kv k) W := by
  have h (n : Nat) : Instr.sameBits (n + 1 + 1) (kv k) (kv k) = true := by
    unfold kv Instr.sameBits
    simp [sb]
  unfold Instr.keyThatStays
  rw [show (10000 : Nat) = 9998 + 1 + 1 from rfl, h]
  simp
theorem check (em : Bool) (k : Ky) (W : World) : (Instr.checkKey em 10000 86 (kv k)).run Try.prog W = .ok () W := by kernel_rfl
theorem zero (W : World) : (zeroValue 3).run Try.prog W = .ok (.int .i64 0) W := by kernel_rfl

/-- An entry: its key, its value, its birth. -/
def te (e : Ky × Int × Nat) : MapEntry := ⟨kv e.1, .int .i64 e.2.1, e.2.2⟩
/-- Where a key stands, and what stands there. -/
def fnd (k : Ky) : List (Ky × Int × Nat) → Nat → Option (Nat × Value)
  | [], _ => none
  | e :: r, i => if k = e.1 then some (i, .int .i64 e.2.1) else fnd k r (i + 1)
theorem run_ask (k : Ky) : ∀ (es : List (Ky × Int × Nat)) (i : Nat) (W : World), (Instr.findAsking 86 (kv k) (es.map te) i).run Try.prog W = .ok (fnd k es i) W
  | [], i, W => by simp [Instr.findAsking, fnd]
  | e :: r, i, W => by
    have ih := run_ask k r (i + 1) W
    rw [List.map_cons, Instr.findAsking, Sem.run_bind, show (te e).key = kv e.1 from rfl, eqK]
    unfold fnd
    by_cases h : k = e.1
    · simp [h, Result.andThen, te]
    · simp only [h, decide_false, Result.andThen, Bool.false_eq_true, if_false]
      exact ih
theorem run_find (k : Ky) (es : List (Ky × Int × Nat)) (W : World) : (Instr.findKey 86 (kv k) (es.map te)).run Try.prog W = .ok (fnd k es 0) W := by
  unfold Instr.findKey
  rw [Sem.run_bind, run_underlying Try.underlying86]
  simp only [Result.andThen_ok]
  cases es with
  | nil => simp [Instr.findNow, fnd]
  | cons e r =>
    rw [List.map_cons, fnow _ Try.underlying86]
    exact run_ask k (e :: r) 0 W
/-- A map with these entries. -/
def mo (es : List (Ky × Int × Nat)) (c : Nat) : Obj := .map (es.map te).toArray c
theorem run_look (k : Ky) (es : List (Ky × Int × Nat)) (c : Nat) {W : World} {b : Nat} (hb : W.heap[b]? = some (mo es c)) : (Instr.lookup 84 (.map (some b)) (kv k) false).run Try.prog W = .ok (match fnd k es 0 with | some (_, v) => v | none => .int .i64 0) W := by
  unfold mo at hb
  cases hf : fnd k es 0 with
  | none => simp [Instr.lookup, run_underlying Try.underlying84, MapKept.run_getObj_map hb, check, run_find, hf, zero, Result.andThen]
  | some p => simp [Instr.lookup, run_underlying Try.underlying84, MapKept.run_getObj_map hb, check, run_find, hf, Result.andThen]
theorem run_entry_new (k : Ky) (es : List (Ky × Int × Nat)) (c : Nat) (hf : fnd k es 0 = none) {W : World} {b : Nat} (hb : W.heap[b]? = some (mo es c)) : (Instr.mapEntry 84 (.map (some b)) (kv k)).run Try.prog W = .ok (.tuple #[.int .i64 0, .int .i64 c]) (setBlock W b (mo (es ++ [(k, 0, c)]) (c + 1))) := by
  unfold mo at hb ⊢
  simp [Instr.mapEntry, run_underlying Try.underlying84, MapKept.run_getObj_map hb, check, run_find, hf, zero, Result.andThen, MapKept.run_setObj_map _ hb, setBlock, te, goInt]
theorem run_entry_old (k : Ky) (es : List (Ky × Int × Nat)) (c j n : Nat) (x : Int) (hf : fnd k es 0 = some (j, .int .i64 x)) (hj : es[j]? = some (k, x, n)) {W : World} {b : Nat} (hb : W.heap[b]? = some (mo es c)) : (Instr.mapEntry 84 (.map (some b)) (kv k)).run Try.prog W = .ok (.tuple #[.int .i64 x, .int .i64 n]) (setBlock W b (mo es c)) := by
  unfold mo at hb ⊢
  have hj' : ((es.map te).toArray)[j]? = some (te (k, x, n)) := by simp [hj]
  have hm : (es.map te).toArray.modify j (fun e => { e with key := kv k }) = (es.map te).toArray := by
    apply Array.ext'
    rw [Array.toList_modify]
    apply List.ext_getElem?
    intro i
    rw [List.getElem?_modify]
    by_cases h : j = i
    · subst h
      simp [hj, te]
    · simp [h]
  have hk : (te (k, x, n)).key = kv k := rfl
  have hbn : (te (k, x, n)).born = n := rfl
  simp only [Instr.mapEntry, Sem.run_bind, run_underlying Try.underlying84, Result.andThen_ok, MapKept.run_getObj_map hb, check, run_find, hf, hj', Option.map_some, Option.getD_some, hk, hbn, stays, hm, MapKept.run_setObj_map _ hb, setBlock, Sem.run_pure, goInt]
theorem run_store (es : List (Ky × Int × Nat)) (c j n : Nat) (x y : Int) (hf : es.findIdx? (fun e => ((e.2.2 : Nat) : Int) == (n : Int)) = some j) {W : World} {b : Nat} (hb : W.heap[b]? = some (mo es c)) : (Instr.entryStore 84 (.map (some b)) (.int .i64 n) (.int .i64 y)).run Try.prog W = .ok () (setBlock W b (mo (es.modify j fun e => (e.1, y, e.2.2)) c)) := by
  unfold mo at hb ⊢
  have h1 : (es.map te).toArray.findIdx? (fun e => ((e.born : Nat) : Int) == (n : Int)) = some j := by
    rw [Go.WideElems.findIdx_arr, List.toList_toArray, List.findIdx?_map]
    exact hf
  have h2 : (es.map te).toArray.modify j (fun e => { e with val := .int .i64 y }) = ((es.modify j fun e => (e.1, y, e.2.2)).map te).toArray := by
    apply Array.ext'
    rw [Array.toList_modify]
    apply List.ext_getElem?
    intro i
    simp only [List.getElem?_modify, List.getElem?_map]
    by_cases h : j = i
    · subst h
      cases es[j]? <;> simp [te]
    · cases es[i]? <;> simp [h, te]
  simp [Instr.entryStore, MapKept.run_getObj_map hb, asInt, asIntOf, h1, h2, MapKept.run_setObj_map _ hb, Result.andThen, setBlock]

/-- The entries of these keys, one each. -/
def bas : Nat → List Ky → List (Ky × Int × Nat)
  | _, [] => []
  | n, k :: r => (k, 1, n) :: bas (n + 1) r
theorem bas_get : ∀ (ks : List Ky) (n j : Nat) (k : Ky), ks[j]? = some k → (bas n ks)[j]? = some (k, 1, n + j)
  | [], _, _, _, h => by simp at h
  | a :: r, n, 0, k, h => by simp at h; subst h; rfl
  | a :: r, n, j + 1, k, h => by
    have := bas_get r (n + 1) j k (by simpa using h)
    simp only [bas, List.getElem?_cons_succ, this]
    congr 3
    omega
theorem bas_add : ∀ (ks : List Ky) (n : Nat) (k : Ky), bas n (ks ++ [k]) = bas n ks ++ [(k, 1, n + ks.length)]
  | [], n, k => rfl
  | a :: r, n, k => by
    simp only [List.cons_append, bas, bas_add r, List.length_cons]
    rw [show n + 1 + r.length = n + (r.length + 1) from by omega]
theorem bas_len : ∀ (ks : List Ky) (n : Nat), (bas n ks).length = ks.length
  | [], _ => rfl
  | a :: r, n => by simp [bas, bas_len r]
theorem fnd_none (k : Ky) : ∀ (es : List (Ky × Int × Nat)) (i : Nat), (∀ e ∈ es, k ≠ e.1) → fnd k es i = none
  | [], _, _ => rfl
  | e :: r, i, h => by
    unfold fnd
    rw [if_neg (h e (List.mem_cons_self ..))]
    exact fnd_none k r (i + 1) fun x hx => h x (List.mem_cons_of_mem _ hx)
theorem fnd_app (k : Ky) (x : Int) (c : Nat) : ∀ (es : List (Ky × Int × Nat)) (i : Nat), (∀ e ∈ es, k ≠ e.1) → fnd k (es ++ [(k, x, c)]) i = some (i + es.length, .int .i64 x)
  | [], i, _ => by simp [fnd]
  | e :: r, i, h => by
    rw [List.cons_append]
    unfold fnd
    rw [if_neg (h e (List.mem_cons_self ..)), fnd_app k x c r (i + 1) fun y hy => h y (List.mem_cons_of_mem _ hy), List.length_cons]
    congr 2
    omega
theorem bas_key : ∀ (ks : List Ky) (n : Nat) (k : Ky), k ∉ ks → ∀ e ∈ bas n ks, k ≠ e.1
  | [], _, _, _, e, he => by simp [bas] at he
  | a :: r, n, k, h, e, he => by
    simp only [bas, List.mem_cons] at he
    rcases he with rfl | he
    · exact fun h' => h (by rw [h']; exact List.mem_cons_self ..)
    · exact bas_key r (n + 1) k (fun h' => h (List.mem_cons_of_mem _ h')) e he
theorem bas_find : ∀ (ks : List Ky) (n i : Nat) (k : Ky), k ∈ ks → ∃ j, fnd k (bas n ks) i = some (i + j, .int .i64 1) ∧ ks[j]? = some k
  | [], _, _, _, h => by cases h
  | a :: r, n, i, k, h => by
    by_cases e : k = a
    · subst e
      exact ⟨0, by simp [bas, fnd], rfl⟩
    · obtain ⟨j, h1, h2⟩ := bas_find r (n + 1) (i + 1) k ((List.mem_cons.1 h).resolve_left e)
      refine ⟨j + 1, ?_, by simpa using h2⟩
      simp only [bas, fnd, if_neg e, h1]
      congr 2
      omega
theorem bas_born : ∀ (ks : List Ky) (n j : Nat) (t : List (Ky × Int × Nat)), j < ks.length → (bas n ks ++ t).findIdx? (fun e => ((e.2.2 : Nat) : Int) == ((n + j : Nat) : Int)) = some j
  | [], _, _, _, h => by simp at h
  | a :: r, n, 0, t, _ => by simp [bas, List.findIdx?_cons]
  | a :: r, n, j + 1, t, h => by
    have ih := bas_born r (n + 1) j t (by simpa using h)
    have hb : (((n : Nat) : Int) == ((n + (j + 1) : Nat) : Int)) = false := by
      simp only [beq_eq_false_iff_ne, ne_eq, Int.natCast_inj]
      omega
    rw [show n + 1 + j = n + (j + 1) from by omega] at ih
    simp only [bas, List.cons_append, List.findIdx?_cons, hb, ih]
    simp
theorem bas_last : ∀ (ks : List Ky) (n : Nat) (k : Ky) (x : Int), (bas n ks ++ [(k, x, n + ks.length)]).findIdx? (fun e => ((e.2.2 : Nat) : Int) == ((n + ks.length : Nat) : Int)) = some ks.length
  | [], n, k, x => by simp [bas, List.findIdx?_cons]
  | a :: r, n, k, x => by
    have ih := bas_last r (n + 1) k x
    have hb : (((n : Nat) : Int) == ((n + (r.length + 1) : Nat) : Int)) = false := by
      simp only [beq_eq_false_iff_ne, ne_eq, Int.natCast_inj]
      omega
    rw [show n + 1 + r.length = n + (r.length + 1) from by omega] at ih
    simp only [bas, List.cons_append, List.findIdx?_cons, List.length_cons, hb, ih]
    simp
theorem mod_last {α : Type} (f : α → α) (a : α) : ∀ l : List α, (l ++ [a]).modify l.length f = l ++ [f a]
  | [] => rfl
  | b :: r => by simp [List.modify_succ_cons, mod_last f a r]
theorem fnd_mod (k : Ky) (y : Int) : ∀ (es : List (Ky × Int × Nat)) (i j : Nat) (v : Value), fnd k es i = some (i + j, v) → fnd k (es.modify j fun e => (e.1, y, e.2.2)) i = some (i + j, .int .i64 y)
  | [], i, j, v, h => by cases h
  | e :: r, i, 0, v, h => by
    unfold fnd at h
    by_cases hk : k = e.1
    · simp [fnd, ← hk]
    · rw [if_neg hk] at h
      exfalso
      have hi : ∀ (es : List (Ky × Int × Nat)) (i m : Nat) (v : Value), fnd k es i = some (m, v) → i ≤ m := by
        intro es
        induction es with
        | nil => intro i m v h; cases h
        | cons e r ih =>
          intro i m v h
          unfold fnd at h
          split at h
          · cases h; exact Nat.le_refl _
          · have := ih _ _ _ h; omega
      have := hi r (i + 1) (i + 0) v h
      omega
  | e :: r, i, j + 1, v, h => by
    unfold fnd at h
    by_cases hk : k = e.1
    · rw [if_pos hk] at h
      have := congrArg (fun o => o.map (·.1)) h
      simp only [Option.map_some, Option.some.injEq] at this
      omega
    · rw [if_neg hk] at h
      rw [List.modify_succ_cons]
      unfold fnd
      rw [if_neg hk]
      have := fnd_mod k y r (i + 1) j v (by rw [h]; congr 2; omega)
      rw [this]
      congr 2
      omega

/-- One turn of the map: what was there, what is entered, what is stored. -/
structure Turns (k : Ky) (o0 o1 o2 : Obj) (v v1 st : Int) : Prop where
  look0 : ∀ (W : World) (b : Nat), W.heap[b]? = some o0 → (Instr.lookup 84 (.map (some b)) (kv k) false).run Try.prog W = .ok (.int .i64 v) W
  entry : ∀ (W : World) (b : Nat), W.heap[b]? = some o0 → (Instr.mapEntry 84 (.map (some b)) (kv k)).run Try.prog W = .ok (.tuple #[.int .i64 v, .int .i64 st]) (setBlock W b o1)
  look1 : ∀ (W : World) (b : Nat), W.heap[b]? = some o1 → (Instr.lookup 84 (.map (some b)) (kv k) false).run Try.prog W = .ok (.int .i64 v) W
  store : ∀ (W : World) (b : Nat), W.heap[b]? = some o1 → (Instr.entryStore 84 (.map (some b)) (.int .i64 st) (.int .i64 v1)).run Try.prog W = .ok () (setBlock W b o2)
  look2 : ∀ (W : World) (b : Nat), W.heap[b]? = some o2 → (Instr.lookup 84 (.map (some b)) (kv k) false).run Try.prog W = .ok (.int .i64 v1) W
/-- The map of these keys. -/
def km (ks : List Ky) : Obj := mo (bas 0 ks) ks.length
theorem turn_new (ks : List Ky) (k : Ky) (h : k ∉ ks) : Turns k (km ks) (mo (bas 0 ks ++ [(k, 0, ks.length)]) (ks.length + 1)) (km (ks ++ [k])) 0 1 ks.length := by
  have hk := bas_key ks 0 k h
  have h0 := fnd_none k (bas 0 ks) 0 hk
  have e2 : km (ks ++ [k]) = mo (bas 0 ks ++ [(k, 1, ks.length)]) (ks.length + 1) := by
    unfold km
    rw [bas_add, List.length_append, Nat.zero_add]
    rfl
  rw [e2]
  refine ⟨fun W b hb => ?_, fun W b hb => run_entry_new k _ _ h0 hb, fun W b hb => ?_, fun W b hb => ?_, fun W b hb => ?_⟩
  · rw [run_look k _ _ hb, h0]
  · rw [run_look k _ _ hb, fnd_app k 0 _ _ 0 hk]
  · have hi := bas_last ks 0 k 0
    rw [Nat.zero_add] at hi
    rw [run_store _ _ ks.length ks.length 0 1 hi hb]
    have := mod_last (fun e : Ky × Int × Nat => (e.1, (1 : Int), e.2.2)) (k, 0, ks.length) (bas 0 ks)
    rw [bas_len] at this
    rw [this]
  · rw [run_look k _ _ hb, fnd_app k 1 _ _ 0 hk]
theorem turn_old (ks : List Ky) (k : Ky) (h : k ∈ ks) : ∃ o2 st, Turns k (km ks) (km ks) o2 1 2 st := by
  obtain ⟨j, h1, h2⟩ := bas_find ks 0 0 k h
  have hg := bas_get ks 0 j k h2
  have hj : j < ks.length := (List.getElem?_eq_some_iff.1 h2).1
  have hi := bas_born ks 0 j [] hj
  rw [List.append_nil] at hi
  rw [Nat.zero_add] at h1 hi hg
  have hm := fnd_mod k 2 (bas 0 ks) 0 j _ (by rw [Nat.zero_add]; exact h1)
  refine ⟨mo ((bas 0 ks).modify j fun e => (e.1, 2, e.2.2)) ks.length, j, fun W b hb => ?_, fun W b hb => run_entry_old k _ _ j j 1 h1 hg hb, fun W b hb => ?_, fun W b hb => run_store _ _ j j 1 2 hi hb, fun W b hb => ?_⟩
  · rw [run_look k _ _ hb, h1]
  · rw [run_look k _ _ hb, h1]
  · rw [run_look k _ _ hb, hm]
end Go.Proofs.Ytaolallfmjjoeaa.RD
