/-
  Slices of bytes in memory, as lists of bytes: what reads so goes on reading so while only new memory is laid; a conversion to a string and from one; an append behind a slice that has no room.
  Conditions: none beyond those that each lemma names.
-/
import Derived.Test.YthgigkklefaeeaaFacts
import Derived.WalkKit
import Derived.Lib.ConvBytes
import Derived.Lib.AppendStr
import Derived.Lib.Hide
import Derived.Deep.AppendLies
import Derived.Maps.AppendAt
import Derived.Laws.CopyOwn
namespace Go.Proofs.Ythgigkklefaeeaa.Bytes
set_option maxRecDepth 100000
set_option maxRecDepth 100000
set_option maxRecDepth 100000
open Go Go.RowKit Go.Proofs.Ythgigkklefaeeaa.Facts

def bv (l : List UInt8) : List Value := l.map fun b => .int .u8 (b.toNat : Int)
theorem bv_length (l : List UInt8) : (bv l).length = l.length := by simp [bv]
theorem bv_append (l m : List UInt8) : bv (l ++ m) = bv l ++ bv m := by simp [bv]
theorem bv_one (l : List UInt8) : ∀ u ∈ bv l, u.oneCell' = true := by
  intro u hu
  obtain ⟨b, _, rfl⟩ := List.mem_map.1 hu
  rfl
theorem bv_get (l : List UInt8) (j : Nat) (h : j < l.length) : (bv l)[j]? = some (.int .u8 ((l[j]?.getD 0).toNat : Int)) := by
  simp [bv, h]
theorem strCells_eq (s : ByteArray) : Lib.strCells s = bv s.data.toList := by
  simp [Lib.strCells, bv]

/-- The slice value v reads as the bytes l; its block (if it has any byte) is one of S. -/
def Rd (S : Nat → Prop) (w : World) (v : Value) (l : List UInt8) : Prop :=
  ∃ (A : Option Addr) (c : Nat), v = .slice A l.length c ∧ l.length ≤ c ∧ c ≤ maxLen ∧ (A = none → c = 0) ∧
    ∀ ad, A = some ad → (l ≠ [] → S ad.block) ∧ ∀ j u, (bv l)[j]? = some u → w.cell? (ad.add j) = some u

theorem block_add' (a : Addr) (n : Nat) : (a.add n).block = a.block := by unfold Addr.add; split <;> rfl
theorem add_add' (a : Addr) (i j : Nat) : (a.add i).add j = a.add (i + j) := by
  unfold Addr.add
  by_cases hi : i = 0 <;> by_cases hj : j = 0 <;> simp [hi, hj, Nat.add_assoc]

section
variable {S S' : Nat → Prop} {w w' : World} {v : Value} {l : List UInt8}

theorem Rd.mono (h : Rd S w v l) (hS : ∀ b, S b → S' b) : Rd S' w v l := by
  obtain ⟨A, c, e, h1, h2, h3, h4⟩ := h
  exact ⟨A, c, e, h1, h2, h3, fun ad ha => ⟨fun hl => hS _ ((h4 ad ha).1 hl), (h4 ad ha).2⟩⟩

theorem Rd.keep (h : Rd S w v l) (hk : ∀ b, b < w.heap.size → S b → w'.heap[b]? = w.heap[b]?) : Rd S w' v l := by
  obtain ⟨A, c, e, h1, h2, h3, h4⟩ := h
  refine ⟨A, c, e, h1, h2, h3, fun ad ha => ⟨(h4 ad ha).1, fun j u hu => ?_⟩⟩
  have hc := (h4 ad ha).2 j u hu
  have hne : l ≠ [] := by rintro rfl; simp [bv] at hu
  have hb := World.block_lt_of_cell? w _ hc
  rw [World.cell?_of_block (w := w) (hk _ hb (by rw [block_add']; exact (h4 ad ha).1 hne))]
  exact hc

theorem Rd.grew (h : Rd S w v l) (hg : Grew w w') : Rd S w' v l := h.keep fun b hb _ => hg.block b hb
theorem Rd.drew (h : Rd S w v l) : Rd S w.drew v l := h
theorem Rd.lt (h : Rd S w v l) : Rd (fun b => S b ∧ b < w.heap.size) w v l := by
  obtain ⟨A, c, e, h1, h2, h3, h4⟩ := h
  refine ⟨A, c, e, h1, h2, h3, fun ad ha => ⟨fun hl => ⟨(h4 ad ha).1 hl, ?_⟩, (h4 ad ha).2⟩⟩
  have hb := World.block_lt_of_cell? w _ ((h4 ad ha).2 0 _ (bv_get l 0 (by cases l <;> simp_all)))
  rwa [block_add'] at hb
theorem Rd.nil (S : Nat → Prop) (w : World) : Rd S w (.slice none 0 0) [] := ⟨none, 0, rfl, Nat.le_refl _, Nat.zero_le _, fun _ => rfl, fun _ h => by cases h⟩

theorem Rd.of_own {base e n : Nat} {l : List UInt8} (h : w.ownsRow base e 1 v n (bv l)) (hn : n = l.length) : Rd (fun b => base ≤ b ∧ b < w.heap.size) w v l := by
  subst hn
  rcases h.2 with ⟨rfl, h0⟩ | ⟨g, cap, cur, rfl, hb, hg, hnc, hcm, _, _⟩
  · have : l = [] := List.eq_nil_of_length_eq_zero h0
    subst this
    exact Rd.nil _ _
  · refine ⟨_, cap, rfl, hnc, hcm, (fun h => by cases h), fun ad ha => ?_⟩
    cases ha
    exact ⟨fun _ => ⟨hb, (Array.getElem?_eq_some_iff.1 hg).1⟩, h.cells (g := g) rfl⟩

/-- A cell inside a round. -/
theorem Rd.cell (h : Rd S w v l) {k : Nat} (hk : k < l.length) : ∃ ad c, v = .slice (some ad) l.length c ∧ l.length ≤ c ∧ w.cell? (ad.add k) = some (.int .u8 ((l[k]?.getD 0).toNat : Int)) := by
  obtain ⟨A, c, rfl, h1, h2, h3, h4⟩ := h
  cases A with
  | none => have := h3 rfl; omega
  | some ad => exact ⟨ad, c, rfl, h1, (h4 ad rfl).2 k _ (bv_get l k hk)⟩
end

section
variable {P : Program} (w : World)

theorem foldl_push (l : List UInt8) : ∀ (r : ByteArray), (l.map fun b => (b.toNat : Int)).foldl (fun r n => r.push (UInt8.ofNat n.toNat)) r = ⟨r.data ++ l.toArray⟩ := by
  induction l with
  | nil => intro r; simp
  | cons b l ih =>
    intro r
    simp only [List.map_cons, List.foldl_cons]
    rw [ih]
    simp [ByteArray.push]

theorem loadCells_of {a : Addr} {l : List Value} (h : ∀ j u, l[j]? = some u → w.cell? (a.add j) = some u) : (loadCells a l.length).run P w = .ok l.toArray w := by
  have h1 := run_firstCells_some (P := P) w 1 l.length a l.length l.length l (by simp) h
  simpa [Builtin.firstCells] using h1

/-- 'string(b)'. -/
theorem run_toString {S : Nat → Prop} {v : Value} {l : List UInt8} {src dst e : TypeId} (hs : P.underlying src = some (.slice e)) (he : P.underlying e = some (.int .u8)) (hd : P.underlying dst = some .string) (h : Rd S w v l) :
    (convert src dst v).run P w = .ok (.string ⟨l.toArray⟩) w := by
  obtain ⟨A, c, rfl, h1, h2, h3, h4⟩ := h
  rw [run_convert_bytes_string w src dst e A l.length c hs he hd]
  cases A with
  | none =>
    have : l = [] := List.eq_nil_of_length_eq_zero (by have := h3 rfl; omega)
    subst this
    simp [Conv.bytesToString]
    rfl
  | some a =>
    have hl := loadCells_of (P := P) w (h4 a rfl).2
    rw [bv_length] at hl
    have := run_bytesToString (P := P) w a l.length c (l.map fun b => (b.toNat : Int)) (by rw [hl]; simp [bv])
    rw [this, foldl_push]
    simp

/-- '[]byte(s)'. -/
theorem run_toBytes {src dst e : TypeId} (s : ByteArray) (hs : P.underlying src = some .string) (hd : P.underlying dst = some (.slice e)) (he : P.underlying e = some (.int .u8)) (hm : s.size ≤ maxLen) :
    ∃ v w', (convert src dst (.string s)).run P w = .ok v w' ∧ Rd (fun b => w.heap.size ≤ b) w' v s.data.toList ∧ Grew w w' := by
  refine ⟨_, _, Lib.run_convert_string_bytes w src dst e s hs hd he, ?_, ?_⟩
  · have hl : s.data.toList.length = s.size := by rw [Array.length_toList]; rfl
    refine ⟨_, grownCap w s.size 0 e, by rw [hl], by rw [hl]; exact grownCap_ge _ _ _ _, grownCap_le_maxLen _ _ _ _ hm, (fun h => by cases h), fun ad ha => ?_⟩
    cases ha
    refine ⟨fun _ => Nat.le_refl _, fun j u hu => ?_⟩
    have hj : j < s.data.toList.length := by
      have := (List.getElem?_eq_some_iff.1 hu).1
      rwa [bv_length] at this
    rw [bv_get _ _ hj] at hu
    cases hu
    rw [Addr.add_lit]
    have := Lib.bytesWorld_cell w e s j (by omega)
    simpa using this
  · refine ⟨rfl, rfl, rfl, ?_, fun k hk => Lib.bytesWorld_at_old w e s k hk⟩
    rw [Lib.bytesWorld_size]
    omega

/-- What an append may be made behind, so that what was there stays: a row of the call's own, or a slice without room. -/
def Rdy (base : Nat) (e : TypeId) (v : Value) (l : List Value) : Prop :=
  w.ownsRow base e 1 v l.length l ∨ (∃ A, v = .slice A l.length l.length ∧ (A = none → l = []) ∧ ∀ b, A = some b → ∀ j u, l[j]? = some u → w.cell? (b.add j) = some u)

theorem below_of_grown {base : Nat} {w' : World} {row : Option Nat} (hg : w.grownBy w' row) (hb : base ≤ w.heap.size) (hr : ∀ k, row = some k → base ≤ k) : Below base w w' :=
  (Below.refl base w).grown hg hb hr

theorem run_append_rdy (base : Nat) (t ty e : TypeId) (i : TypeInfo) (z : Value) (bytes : Nat) (ht : P.underlying t = some (.slice e)) (hi : P.info? e = some i) (hz : i.zero = some z)
    (hsize : i.size = 1) (hby : i.bytes = bytes) (hzs : z.cells.size = 1) (v : Value) (l : List Value) (h : Rdy w base e v l)
    (a : Addr) (c : Nat) (news : List Value) (hm : news ≠ []) (hnews : ∀ j u, news[j]? = some u → w.cell? (a.add j) = some u) (h1 : ∀ u ∈ news, u.oneCell' = true)
    (h63 : l.length + news.length ≤ maxLen) (hbytes : (l.length + news.length) * bytes ≤ 140737488355328) (hbase : base ≤ w.heap.size) :
    ∃ v' w', (Builtin.append_ #[t, t] ty #[v, .slice (some a) news.length c]).run P w = .ok v' w' ∧ w'.ownsRow base e 1 v' (l ++ news).length (l ++ news) ∧ Below base w w' := by
  have hpos : 0 < news.length := List.length_pos_iff.2 hm
  rw [List.length_append]
  rcases h with h | ⟨A, rfl, hA, hc⟩
  · obtain ⟨v', w', hr, h2, h3, _⟩ := run_append_own (P := P) w base t ty e i z 1 bytes ht hi hz hsize hby hzs Nat.one_pos v l.length l h a news.length c news (by simp) hnews h1 h63 hbytes hbase
    exact ⟨v', w', hr, h2, below_of_grown w h3 hbase fun k hk => (h.lt k hk).1⟩
  · cases A with
    | none =>
      have := hA rfl
      subst this
      obtain ⟨v', w', hr, h2, h3, _⟩ := run_append_own (P := P) w base t ty e i z 1 bytes ht hi hz hsize hby hzs Nat.one_pos (.slice none 0 0) 0 [] (World.ownsRow_nil w _ e 1) a news.length c news (by simp) hnews h1 (by simpa using h63) (by simpa using hbytes) hbase
      exact ⟨v', w', hr, h2, below_of_grown w h3 hbase fun k hk => by simp [Value.ownBlock] at hk⟩
    | some b =>
      obtain ⟨v', w', hr, h2, h3⟩ := run_append_arg_grows (P := P) w t ty e i z 1 bytes ht hi hz hsize hby hzs Nat.one_pos b l.length l.length l (by simp) (hc b rfl) a news.length c news (by simp) hnews (by omega) h63 hbytes
      refine ⟨v', w', hr, ?_, below_of_grown w h3 hbase fun k hk => by cases hk⟩
      obtain ⟨q1, q2⟩ := h2
      refine ⟨q1, q2.imp id fun ⟨g, cap, cur, r1, r2, r⟩ => ⟨g, cap, cur, r1, Nat.le_trans hbase r2, r⟩⟩

theorem wpList_append_rdy {ops : Array Oper} {rest : List Oper} {o : Oper} {ac : Act} {Q : Exit → Act → World → Prop} (hgd : o.guard = none) (s x : Operand) (t : TypeId)
    (ho : o.op = .call { callee := .builtin .append, args := #[s, x], argTypes := #[t, t] })
    (base : Nat) (e : TypeId) (i : TypeInfo) (z : Value) (bytes : Nat) (ht : P.underlying t = some (.slice e)) (hi : P.info? e = some i) (hz : i.zero = some z)
    (hsize : i.size = 1) (hby : i.bytes = bytes) (hzs : z.cells.size = 1) (v : Value) (l : List Value) (hs : ac.eval s = v) (h : Rdy w base e v l)
    (a : Addr) (c m : Nat) (news : List Value) (hx : ac.eval x = .slice (some a) m c) (hml : m = news.length) (hm : news ≠ []) (hnews : ∀ j u, news[j]? = some u → w.cell? (a.add j) = some u) (h1 : ∀ u ∈ news, u.oneCell' = true)
    (h63 : l.length + news.length ≤ maxLen) (hbytes : (l.length + news.length) * bytes ≤ 140737488355328) (hbase : base ≤ w.heap.size)
    (hK : ∀ v' w', w'.ownsRow base e 1 v' (l ++ news).length (l ++ news) → Below base w w' → wpList P ops Q rest (ac.put o.dst v') w') : wpList P ops Q (o :: rest) ac w := by
  refine wpList_plain hgd fun _ hK' => ?_
  subst hml
  obtain ⟨v', w', hr, h2, h3⟩ := run_append_rdy (P := P) w base t o.type e i z bytes ht hi hz hsize hby hzs v l h a c news hm hnews h1 h63 hbytes hbase
  unfold Oper.wp execOp
  simp only [ho, resolve, invoke, builtin, Sem.run_bind, Sem.run_pure, Result.andThen_ok, List.map_toArray, List.map_cons, List.map_nil, hs, hx, hr]
  exact hK' _ _ (hK v' w' h2 h3)

theorem Rd.rdy {S : Nat → Prop} {l : List UInt8} {A : Option Addr} {c : Nat} (h : Rd S w (.slice A l.length c) l) (base : Nat) (e : TypeId) : Rdy w base e (.slice A l.length l.length) (bv l) := by
  obtain ⟨A', c', e', h1, h2, h3, h4⟩ := h
  injection e' with e1 _ e3
  subst e1 e3
  refine .inr ⟨A, by rw [bv_length], fun hA => ?_, fun b hb => (h4 b hb).2⟩
  have := h3 hA
  have hl : l = [] := List.eq_nil_of_length_eq_zero (by omega)
  rw [hl]
  rfl
end
end Go.Proofs.Ythgigkklefaeeaa.Bytes
