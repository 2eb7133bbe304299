/-
  The bytes of a realm: read again they are the realm; cut anywhere something is missing; what is read is made of it again.
  Conditions: those that each lemma names.
-/
import Derived.Test.YtmegdgeiikhflaaGreatED
import Derived.Test.YtmegdgeiikhflaaGreatEB
namespace Go.Proofs.YtmegdgeiikhflaaGreat.EG
set_option maxRecDepth 100000
open Go Go.RowKit Go.Lib Go.Proofs.YtmegdgeiikhflaaGreat Go.Proofs.YtmegdgeiikhflaaGreat.Facts Go.Proofs.YtmegdgeiikhflaaGreat.Bytes Go.Proofs.YtmegdgeiikhflaaGreat.Plain Go.Proofs.YtmegdgeiikhflaaGreat.Ints Go.Proofs.YtmegdgeiikhflaaGreat.LBox Go.Proofs.YtmegdgeiikhflaaGreat.RRows Go.Proofs.YtmegdgeiikhflaaGreat.RSmall Go.Proofs.YtmegdgeiikhflaaGreat.RRules Go.Proofs.YtmegdgeiikhflaaGreat.RRule3 Go.Proofs.YtmegdgeiikhflaaGreat.RRule5 Go.Proofs.YtmegdgeiikhflaaGreat.RCaps Go.Proofs.YtmegdgeiikhflaaGreat.RRight Go.Proofs.YtmegdgeiikhflaaGreat.Puts Go.Proofs.YtmegdgeiikhflaaGreat.BA Go.Proofs.YtmegdgeiikhflaaGreat.BB Go.Proofs.YtmegdgeiikhflaaGreat.BC Go.Proofs.YtmegdgeiikhflaaGreat.BD Go.Proofs.YtmegdgeiikhflaaGreat.BE Go.Proofs.YtmegdgeiikhflaaGreat.Scan Go.Proofs.YtmegdgeiikhflaaGreat.Take Go.Proofs.YtmegdgeiikhflaaGreat.Nums Go.Proofs.YtmegdgeiikhflaaGreat.CA Go.Proofs.YtmegdgeiikhflaaGreat.CB Go.Proofs.YtmegdgeiikhflaaGreat.CC Go.Proofs.YtmegdgeiikhflaaGreat.CD Go.Proofs.YtmegdgeiikhflaaGreat.CE Go.Proofs.YtmegdgeiikhflaaGreat.ED

/-- What is taken off a scan is what was put: forth, stuck at a fault, cut short, and back. -/
structure Cod {T : Type} (one : Sc → T × Sc) (enc : T → List UInt8) (P Q : T → Prop) : Prop where
  forth : ∀ x rest, P x → one ⟨enc x ++ rest, 0⟩ = (x, ⟨rest, 0⟩)
  stick : ∀ s, s.e ≠ 0 → (one s).2 = s
  short : ∀ x n, P x → n < (enc x).length → (one ⟨(enc x).take n, 0⟩).2.e = 12
  back : ∀ s, (one s).2.e = 0 → s.e = 0 ∧ (Q (one s).1 → s.l = enc (one s).1 ++ (one s).2.l)
def seqP {A B : Type} (f : Sc → A × Sc) (g : A → Sc → B × Sc) : Sc → (A × B) × Sc := fun s => (((f s).1, (g (f s).1 (f s).2).1), (g (f s).1 (f s).2).2)
theorem Cod.seq {A B : Type} {f : Sc → A × Sc} {g : A → Sc → B × Sc} {ef : A → List UInt8} {eg : A → B → List UInt8} {Pf Qf : A → Prop} {Pg Qg : A → B → Prop} (hf : Cod f ef Pf Qf) (hg : ∀ a, Cod (g a) (eg a) (Pg a) (Qg a)) :
    Cod (seqP f g) (fun p => ef p.1 ++ eg p.1 p.2) (fun p => Pf p.1 ∧ Pg p.1 p.2) (fun p => Qf p.1 ∧ Qg p.1 p.2) where
  forth := fun x rest hP => by
    unfold seqP
    rw [List.append_assoc, hf.forth x.1 _ hP.1]
    simp only
    rw [(hg x.1).forth x.2 rest hP.2]
  stick := fun s hs => by
    unfold seqP
    have h1 := hf.stick s hs
    simp only
    rw [h1, (hg _).stick s hs]
  short := fun x n hP hn => by
    unfold seqP
    simp only
    rw [List.length_append] at hn
    by_cases h1 : n < (ef x.1).length
    · rw [List.take_append_of_le_length (by omega)]
      have h2 := hf.short x.1 n hP.1 h1
      rw [(hg _).stick _ (by rw [h2]; decide), h2]
    · obtain ⟨m, rfl⟩ : ∃ m, n = (ef x.1).length + m := ⟨n - (ef x.1).length, by omega⟩
      rw [List.take_length_add_append, hf.forth x.1 _ hP.1]
      simp only
      exact (hg x.1).short x.2 m hP.2 (by omega)
  back := fun s h => by
    obtain ⟨h1, h2⟩ := (hg (f s).1).back (f s).2 (show (g (f s).1 (f s).2).2.e = 0 from h)
    obtain ⟨h3, h4⟩ := hf.back s h1
    refine ⟨h3, fun hq => ?_⟩
    show s.l = (ef (f s).1 ++ eg (f s).1 (g (f s).1 (f s).2).1) ++ (g (f s).1 (f s).2).2.l
    rw [List.append_assoc, ← h2 hq.2]
    exact h4 hq.1

theorem Cod.map {T U : Type} {one : Sc → T × Sc} {enc : T → List UInt8} {P Q : T → Prop} (h : Cod one enc P Q) (φ : T → U) (enc' : U → List UInt8) (P' Q' : U → Prop) (hP : ∀ u, P' u → ∃ t, φ t = u ∧ P t ∧ enc' u = enc t) (hB : ∀ s, (one s).2.e = 0 → Q' (φ (one s).1) → Q (one s).1 ∧ enc' (φ (one s).1) = enc (one s).1) :
    Cod (fun s => (φ (one s).1, (one s).2)) enc' P' Q' where
  forth := fun u rest hu => by
    obtain ⟨t, rfl, ht, he⟩ := hP u hu
    try simp only
    rw [he, h.forth t rest ht]
  stick := fun s hs => h.stick s hs
  short := fun u n hu hn => by
    obtain ⟨t, rfl, ht, he⟩ := hP u hu
    try simp only
    rw [he] at hn ⊢
    exact h.short t n ht hn
  back := fun s hs => by
    obtain ⟨h1, h2⟩ := h.back s hs
    refine ⟨h1, fun hq => ?_⟩
    obtain ⟨h3, h4⟩ := hB s hs hq
    try simp only
    rw [h4]
    exact h2 h3
theorem take_stuck {s : Sc} (h : s.e ≠ 0) (n : Nat) : s.take n = ([], s) := by unfold Sc.take; rw [if_neg h]
theorem take_ok {l : List UInt8} {n : Nat} (h : n ≤ l.length) : (Sc.mk l 0).take n = (l.take n, ⟨l.drop n, 0⟩) := by unfold Sc.take; rw [if_pos rfl, if_pos h]
theorem take_no {l : List UInt8} {n : Nat} (h : ¬ n ≤ l.length) : (Sc.mk l 0).take n = ([], ⟨l, 12⟩) := by unfold Sc.take; rw [if_pos rfl, if_neg h]
theorem take_back {s : Sc} {n : Nat} (h : (s.take n).2.e = 0) : s.e = 0 ∧ n ≤ s.l.length ∧ s.take n = (s.l.take n, ⟨s.l.drop n, 0⟩) := by
  by_cases he : s.e = 0
  · by_cases hn : n ≤ s.l.length
    · exact ⟨he, hn, by unfold Sc.take; rw [if_pos he, if_pos hn]⟩
    · exfalso
      unfold Sc.take at h
      rw [if_pos he, if_neg hn] at h
      cases h
  · rw [take_stuck he] at h
    exact absurd h he
theorem rule_stuck {s : Sc} (h : s.e ≠ 0) (b : Bool) (x : Int) : s.rule b x = s := by unfold Sc.rule; rw [if_neg fun hh => h hh.2]
theorem rule_true (s : Sc) (x : Int) : s.rule true x = s := by unfold Sc.rule; rw [if_neg fun hh => by cases hh.1]
theorem rule_back {s : Sc} {b : Bool} (h : (s.rule b 2).e = 0) : s.e = 0 ∧ b = true := by
  unfold Sc.rule at h
  by_cases he : s.e = 0
  · cases b with
    | true => exact ⟨he, rfl⟩
    | false => rw [if_pos ⟨rfl, he⟩] at h; cases h
  · rw [if_neg fun hh => he hh.2] at h
    exact absurd h he
theorem be_snoc (k n : Nat) : Puts.be (k + 1) n = Puts.be k (n / 256) ++ [UInt8.ofNat n] := by
  apply List.ext_getElem?
  intro j
  by_cases hj : j < k
  · have h1 : (Puts.be (k + 1) n)[j]? = some (Puts.byteAt n (k - j)) := by
      simp [Puts.be, show j < k + 1 by omega]
    have h2 : (Puts.be k (n / 256) ++ [UInt8.ofNat n])[j]? = some (Puts.byteAt (n / 256) (k - 1 - j)) := by
      rw [List.getElem?_append_left (by rw [Puts.be_length]; exact hj)]
      simp [Puts.be, hj]
    rw [h1, h2]
    congr 1
    unfold Puts.byteAt
    congr 1
    rw [Nat.div_div_eq_div_mul]
    congr 1
    rw [show 8 * (k - j) = 8 + 8 * (k - 1 - j) from by omega, Nat.pow_add]
  · by_cases hj2 : j = k
    · subst hj2
      simp [Puts.be, Puts.byteAt]
    · rw [List.getElem?_eq_none (by rw [Puts.be_length]; omega), List.getElem?_eq_none (by simp [Puts.be_length]; omega)]
theorem val_be (n : Nat) : ∀ k, n < 256 ^ k → Sc.val (Puts.be k n) = n := by
  intro k
  induction k generalizing n with
  | zero => intro h; simp [Puts.be, Sc.val] at h ⊢; omega
  | succ k ih =>
    intro h
    rw [be_snoc, Nums.val_snoc, ih (n / 256) (by rw [Nat.pow_succ] at h; omega)]
    simp
    omega
theorem be_val_take (l : List UInt8) : ∀ k, k ≤ l.length → Puts.be k (Sc.val (l.take k)) = l.take k
  | 0, _ => by simp [Puts.be]
  | k + 1, h => by
    have ih := be_val_take l k (by omega)
    rw [Nums.take_snoc l k (by omega), be_snoc, Nums.val_snoc]
    have hb := (l[k]?.getD 0).toNat_lt
    rw [show (Sc.val (l.take k) * 256 + (l[k]?.getD 0).toNat) / 256 = Sc.val (l.take k) by omega, ih]
    congr 2
    apply UInt8.toNat_inj.1
    simp
theorem be_val (l : List UInt8) : Puts.be l.length (Sc.val l) = l := by
  have := be_val_take l l.length (Nat.le_refl _)
  rwa [List.take_length] at this
theorem be_val' (l : List UInt8) (k : Nat) (h : l.length = k) : Puts.be k (Sc.val l) = l := by subst h; exact be_val l
theorem cod_num (K : Nat) (_hK : 0 < K) : Cod (fun s : Sc => s.num K) (Puts.be K) (fun n => n < 256 ^ K) (fun _ => True) where
  forth := fun n rest hn => by
    unfold Sc.num
    have h1 : (Puts.be K n ++ rest).take K = Puts.be K n := List.take_left' (Puts.be_length K n)
    have h2 : (Puts.be K n ++ rest).drop K = rest := List.drop_left' (Puts.be_length K n)
    rw [take_ok (by rw [List.length_append, Puts.be_length]; omega), h1, h2]
    simp only
    rw [val_be n K hn]
  stick := fun s hs => by
    show (s.take K).2 = s
    rw [take_stuck hs]
  short := fun n m _ hm => by
    show ((Sc.mk _ 0).take K).2.e = 12
    rw [Puts.be_length] at hm
    rw [take_no (by rw [List.length_take, Puts.be_length]; omega)]
  back := fun s hs => by
    obtain ⟨h1, h2, h3⟩ := take_back (show (s.take K).2.e = 0 from hs)
    refine ⟨h1, fun _ => ?_⟩
    show s.l = Puts.be K (Sc.val (s.take K).1) ++ (s.take K).2.l
    rw [h3]
    simp only
    rw [be_val' (s.l.take K) K (by rw [List.length_take]; omega), List.take_append_drop]
theorem pb_nat {n : Nat} (h : n < 256) : pb (n : Int) = Puts.be 1 n := by
  unfold pb
  rw [show IntKind.u64.wrap (n : Int) = (n : Int) from IntWalk.u64_in _ (by omega)]
  rfl
theorem num1_lt' (s : Sc) : (s.num 1).1 < 256 := num1_lt s
abbrev PI (n : Int) : Prop := 0 ≤ n ∧ n < 256
theorem cod_int : Cod takeP pb PI (fun _ => True) :=
  (cod_num 1 (by decide)).map (fun n : Nat => (n : Int)) pb PI (fun _ => True)
    (fun n hn => ⟨n.toNat, by omega, by show n.toNat < 256 ^ 1; omega, by
      have : n = (n.toNat : Int) := by omega
      rw [this, Int.toNat_natCast]
      exact pb_nat (by omega)⟩)
    (fun s _ _ => ⟨trivial, pb_nat (num1_lt' s)⟩)
theorem cod_cap : Cod (fun s : Sc => (BitVec.ofNat 64 (s.num 8).1, (s.num 8).2)) (fun c : BitVec 64 => Puts.be 8 c.toNat) (fun _ => True) (fun _ => True) :=
  (cod_num 8 (by decide)).map (fun n : Nat => BitVec.ofNat 64 n) _ _ _
    (fun c _ => ⟨c.toNat, by simp, by have := c.isLt; show c.toNat < 256 ^ 8; omega, rfl⟩)
    (fun s _ _ => ⟨trivial, by
      have := num8_lt s
      simp only [BitVec.toNat_ofNat]
      rw [Nat.mod_eq_of_lt this]⟩)
theorem tx_small {t : List UInt8} (h : t.length ≤ 12) : tx t = Puts.be 1 t.length ++ t := by
  unfold tx
  rw [Nat.min_eq_left (by omega), List.take_of_length_le (by omega)]
  simp [Puts.be, Puts.byteAt]
theorem cod_text : Cod (fun s : Sc => s.text 12) tx (fun t => t.length ≤ 12) (fun _ => True) where
  forth := fun t rest ht => by
    unfold Sc.text
    rw [tx_small ht, List.append_assoc, (cod_num 1 (by decide)).forth t.length (t ++ rest) (by show t.length < 256 ^ 1; omega)]
    simp only
    rw [show decide ((t.length : Int) ≤ 12) = true from decide_eq_true (by omega), rule_true, take_ok (by rw [List.length_append]; omega), List.take_left, List.drop_left]
  stick := fun s hs => by
    unfold Sc.text
    have h1 : (s.num 1).2 = s := (cod_num 1 (by decide)).stick s hs
    rw [h1, rule_stuck hs, take_stuck hs]
  short := fun t n ht hn => by
    unfold Sc.text
    rw [tx_small ht] at hn ⊢
    rw [List.length_append, Puts.be_length] at hn
    by_cases h0 : n = 0
    · subst h0
      have h1 := (cod_num 1 (by decide)).short t.length 0 (by show t.length < 256 ^ 1; omega) (by rw [Puts.be_length]; decide)
      rw [List.take_zero] at h1 ⊢
      rw [rule_stuck (by rw [h1]; decide), take_stuck (by rw [h1]; decide)]
      exact h1
    · obtain ⟨m, rfl⟩ : ∃ m, n = 1 + m := ⟨n - 1, by omega⟩
      have e : (Puts.be 1 t.length ++ t).take (1 + m) = Puts.be 1 t.length ++ t.take m := by
        have := List.take_length_add_append (l₁ := Puts.be 1 t.length) (l₂ := t) m
        rwa [Puts.be_length] at this
      rw [e, (cod_num 1 (by decide)).forth t.length (t.take m) (by show t.length < 256 ^ 1; omega)]
      simp only
      rw [show decide ((t.length : Int) ≤ 12) = true from decide_eq_true (by omega), rule_true, take_no (by rw [List.length_take]; omega)]
  back := fun s hs => by
    obtain ⟨h1, h2, h3⟩ := take_back (show ((((s.num 1).2.rule (decide (((s.num 1).1 : Int) ≤ 12)) 2)).take (s.num 1).1).2.e = 0 from hs)
    obtain ⟨h4, h5⟩ := rule_back h1
    obtain ⟨h6, h7⟩ := (cod_num 1 (by decide)).back s h4
    refine ⟨h6, fun _ => ?_⟩
    have h8 : ((s.num 1).1 : Int) ≤ 12 := of_decide_eq_true h5
    rw [h5, rule_true] at h2 h3
    show s.l = tx (s.text 12).1 ++ (s.text 12).2.l
    unfold Sc.text
    rw [h5, rule_true, h3]
    simp only
    have hlen : ((s.num 1).2.l.take (s.num 1).1).length = (s.num 1).1 := by rw [List.length_take]; omega
    rw [tx_small (by rw [hlen]; omega), hlen, List.append_assoc, List.take_append_drop]
    exact h7 trivial
def oneM (s : Sc) : Bool × Sc := (decide ((takeP s).1 = 1), (takeP s).2.rule (decide ((takeP s).1 ≤ 1)) 2)
theorem cod_mints : Cod oneM (fun b => pb (if b = true then 1 else 0)) (fun _ => True) (fun _ => True) where
  forth := fun b rest _ => by
    unfold oneM
    rw [cod_int.forth (if b = true then 1 else 0) rest (by cases b <;> decide)]
    cases b <;> simp [rule_true]
  stick := fun s hs => by
    unfold oneM
    simp only
    rw [cod_int.stick s hs, rule_stuck hs]
  short := fun b n _ hn => by
    unfold oneM
    have h1 := cod_int.short (if b = true then 1 else 0) n (by cases b <;> decide) hn
    simp only
    rw [rule_stuck (by rw [h1]; decide), h1]
  back := fun s hs => by
    unfold oneM at *
    simp only at *
    obtain ⟨h1, h2⟩ := rule_back hs
    obtain ⟨h3, h4⟩ := cod_int.back s h1
    refine ⟨h3, fun _ => ?_⟩
    have h5 := of_decide_eq_true h2
    have h6 : 0 ≤ (takeP s).1 := by unfold takeP; simp
    rw [h2, rule_true]
    rw [show (if decide ((takeP s).1 = 1) = true then (1 : Int) else 0) = (takeP s).1 by
      by_cases h7 : (takeP s).1 = 1
      · rw [if_pos (decide_eq_true h7), h7]
      · rw [if_neg (by simpa using h7)]; omega]
    exact h4 trivial
theorem form_len {v : Int} {c : BitVec 64} (h : may v = true) : (LForm.form v c).length = 9 := by
  unfold LForm.form
  rw [if_pos h, List.length_cons, LForm.be_length]
theorem cod_label : Cod oneL encL (fun a => may a.lev = true) (fun a => may a.lev = true) where
  forth := fun a rest ha => by
    unfold oneL encL
    have hl := form_len (c := a.set) ha
    rw [take_ok (by rw [List.length_append, hl]; omega), List.take_left' hl, List.drop_left' hl]
    simp only
    obtain ⟨h1, h2, h3⟩ := LBytes.rd_form a.lev a.set ha
    rw [h3, if_pos rfl, h1, h2]
  stick := fun s hs => by
    show (s.take 9).2 = s
    rw [take_stuck hs]
  short := fun a n ha hn => by
    show ((Sc.mk _ 0).take 9).2.e = 12
    have hl := form_len (c := a.set) ha
    unfold encL at hn ⊢
    rw [take_no (by rw [List.length_take]; omega)]
  back := fun s hs => by
    obtain ⟨h1, h2, h3⟩ := take_back (show (s.take 9).2.e = 0 from hs)
    refine ⟨h1, fun hq => ?_⟩
    unfold oneL at hq ⊢
    rw [h3] at hq ⊢
    simp only at hq ⊢
    have hlen : (s.l.take 9).length = 9 := by rw [List.length_take]; omega
    by_cases hr : LBytes.rdE (s.l.take 9) = 0
    · rw [if_pos hr]
      have hok : LBytes.rdOk (s.l.take 9) = true := by
        by_cases hk : LBytes.rdOk (s.l.take 9) = true
        · exact hk
        · unfold LBytes.rdE at hr
          rw [if_neg hk, if_neg (by omega), if_neg (by omega)] at hr
          cases hr
      unfold encL
      simp only
      rw [LBytes.rd_back _ hok, List.take_append_drop]
    · rw [if_neg hr] at hq
      exact absurd hq (by decide)
section
variable {T : Type} {one : Sc → T × Sc} {enc : T → List UInt8} {P Q : T → Prop}
theorem goA_forth (h : Cod one enc P Q) : ∀ (xs acc : List T) (rest : List UInt8), (∀ x ∈ xs, P x) → goA one xs.length acc ⟨xs.flatMap enc ++ rest, 0⟩ = (acc ++ xs, ⟨rest, 0⟩)
  | [], acc, rest, _ => by simp [goA]
  | x :: xs, acc, rest, hp => by
    rw [List.length_cons, goA, if_pos rfl, List.flatMap_cons, List.append_assoc, h.forth x _ (hp x (List.mem_cons_self ..))]
    simp only
    rw [goA_forth h xs (acc ++ [x]) rest (fun y hy => hp y (List.mem_cons_of_mem _ hy)), List.append_assoc]
    rfl
theorem goA_stick : ∀ (f : Nat) (acc : List T) (s : Sc), s.e ≠ 0 → goA one f acc s = (acc, s)
  | 0, _, _, _ => rfl
  | f + 1, acc, s, hs => by rw [goA, if_neg hs]
theorem goA_short (h : Cod one enc P Q) : ∀ (xs acc : List T) (n : Nat), (∀ x ∈ xs, P x) → n < (xs.flatMap enc).length → (goA one xs.length acc ⟨(xs.flatMap enc).take n, 0⟩).2.e = 12
  | [], acc, n, _, hn => by simp at hn
  | x :: xs, acc, n, hp, hn => by
    rw [List.length_cons, goA, if_pos rfl, List.flatMap_cons]
    rw [List.flatMap_cons, List.length_append] at hn
    have hpx := hp x (List.mem_cons_self ..)
    by_cases h1 : n < (enc x).length
    · rw [List.take_append_of_le_length (by omega)]
      have h2 := h.short x n hpx h1
      rw [goA_stick _ _ _ (by rw [h2]; decide), h2]
    · obtain ⟨m, rfl⟩ : ∃ m, n = (enc x).length + m := ⟨n - (enc x).length, by omega⟩
      rw [List.take_length_add_append, h.forth x _ hpx]
      exact goA_short h xs _ m (fun y hy => hp y (List.mem_cons_of_mem _ hy)) (by omega)
theorem goA_back (h : Cod one enc P Q) : ∀ (f : Nat) (acc : List T) (s : Sc), (goA one f acc s).2.e = 0 → s.e = 0 ∧ ∃ xs, (goA one f acc s).1 = acc ++ xs ∧ xs.length = f ∧ ((∀ x ∈ xs, Q x) → s.l = xs.flatMap enc ++ (goA one f acc s).2.l)
  | 0, acc, s, hs => ⟨hs, [], by simp [goA], rfl, fun _ => rfl⟩
  | f + 1, acc, s, hs => by
    rw [goA] at hs ⊢
    by_cases he : s.e = 0
    · rw [if_pos he] at hs ⊢
      obtain ⟨h1, xs, h2, h3, h4⟩ := goA_back h f _ _ hs
      obtain ⟨_, h5⟩ := h.back s h1
      refine ⟨he, (one s).1 :: xs, by rw [h2, List.append_assoc]; rfl, by rw [List.length_cons, h3], fun hq => ?_⟩
      rw [List.flatMap_cons, List.append_assoc, ← h4 fun y hy => hq y (List.mem_cons_of_mem _ hy)]
      exact h5 (hq _ (List.mem_cons_self ..))
    · rw [if_neg he] at hs
      exact absurd hs he
theorem cod_all (h : Cod one enc P Q) : Cod (allP one) (fun l => pb (l.length : Int) ++ l.flatMap enc) (fun l => l.length ≤ 8 ∧ ∀ x ∈ l, P x) (fun l => ∀ x ∈ l, Q x) where
  forth := fun l rest hl => by
    unfold allP
    rw [pb_nat (by omega), List.append_assoc, (cod_num 1 (by decide)).forth l.length _ (by show l.length < 256 ^ 1; omega)]
    simp only
    rw [show decide ((l.length : Int) ≤ 8) = true from decide_eq_true (by omega), rule_true, goA_forth h l [] rest hl.2]
    rfl
  stick := fun s hs => by
    unfold allP
    have h1 : (s.num 1).2 = s := (cod_num 1 (by decide)).stick s hs
    rw [h1, rule_stuck hs, goA_stick _ _ _ hs]
  short := fun l n hl hn => by
    unfold allP
    rw [pb_nat (by omega)] at hn ⊢
    rw [List.length_append, Puts.be_length] at hn
    by_cases h0 : n = 0
    · subst h0
      have h1 := (cod_num 1 (by decide)).short l.length 0 (by show l.length < 256 ^ 1; omega) (by rw [Puts.be_length]; decide)
      rw [List.take_zero] at h1 ⊢
      rw [rule_stuck (by rw [h1]; decide), goA_stick _ _ _ (by rw [h1]; decide)]
      exact h1
    · obtain ⟨m, rfl⟩ : ∃ m, n = 1 + m := ⟨n - 1, by omega⟩
      have e : (Puts.be 1 l.length ++ l.flatMap enc).take (1 + m) = Puts.be 1 l.length ++ (l.flatMap enc).take m := by
        have := List.take_length_add_append (l₁ := Puts.be 1 l.length) (l₂ := l.flatMap enc) m
        rwa [Puts.be_length] at this
      rw [e, (cod_num 1 (by decide)).forth l.length _ (by show l.length < 256 ^ 1; omega)]
      simp only
      rw [show decide ((l.length : Int) ≤ 8) = true from decide_eq_true (by omega), rule_true]
      exact goA_short h l [] m hl.2 (by omega)
  back := fun s hs => by
    unfold allP at hs ⊢
    obtain ⟨h1, xs, h2, h3, h4⟩ := goA_back h _ _ _ hs
    obtain ⟨h5, h6⟩ := rule_back h1
    obtain ⟨h7, h8⟩ := (cod_num 1 (by decide)).back s h5
    refine ⟨h7, fun hq => ?_⟩
    rw [h2, List.nil_append] at hq ⊢
    rw [h3, pb_nat (num1_lt' s), List.append_assoc, ← h4 hq]
    rw [h6, rule_true]
    exact h8 trivial
end
theorem oneQ_seq (s : Sc) : oneQ s = ((fun t : (((((Int × Int) × Int) × Int) × Int) × BitVec 64) => (⟨t.1.1.1.1.1, t.1.1.1.1.2, t.1.1.1.2, t.1.1.2, t.1.2, t.2⟩ : Qu)) (seqP (seqP (seqP (seqP (seqP takeP (fun _ => takeP)) (fun _ => takeP)) (fun _ => takeP)) (fun _ => takeP)) (fun _ s => (BitVec.ofNat 64 (s.num 8).1, (s.num 8).2)) s).1,
    (seqP (seqP (seqP (seqP (seqP takeP (fun _ => takeP)) (fun _ => takeP)) (fun _ => takeP)) (fun _ => takeP)) (fun _ s => (BitVec.ofNat 64 (s.num 8).1, (s.num 8).2)) s).2) := rfl
abbrev PQ (q : Qu) : Prop := PI q.rooms ∧ PI q.exits ∧ PI q.items ∧ PI q.mails ∧ PI q.trades
theorem cod_quota : Cod oneQ encQ PQ (fun _ => True) := by
  have h := (((((cod_int.seq fun _ => cod_int).seq fun _ => cod_int).seq fun _ => cod_int).seq fun _ => cod_int).seq fun _ => cod_cap).map
    (fun t : (((((Int × Int) × Int) × Int) × Int) × BitVec 64) => (⟨t.1.1.1.1.1, t.1.1.1.1.2, t.1.1.1.2, t.1.1.2, t.1.2, t.2⟩ : Qu)) encQ PQ (fun _ => True)
    (fun u hu => ⟨(((((u.rooms, u.exits), u.items), u.mails), u.trades), u.cap), rfl, ⟨⟨⟨⟨⟨hu.1, hu.2.1⟩, hu.2.2.1⟩, hu.2.2.2.1⟩, hu.2.2.2.2⟩, trivial⟩, by simp [encQ, putP]⟩)
    (fun s _ _ => ⟨⟨⟨⟨⟨⟨trivial, trivial⟩, trivial⟩, trivial⟩, trivial⟩, trivial⟩, by simp [encQ, putP]⟩)
  exact h
theorem cod_guild : Cod oneG encG (fun g => PI g.bit ∧ PI g.founder) (fun _ => True) := by
  have h := (cod_int.seq fun _ => cod_int).map (fun t : Int × Int => (⟨t.1, t.2⟩ : Gu)) encG (fun g => PI g.bit ∧ PI g.founder) (fun _ => True)
    (fun u hu => ⟨(u.bit, u.founder), rfl, hu, rfl⟩) (fun s _ _ => ⟨⟨trivial, trivial⟩, rfl⟩)
  exact h
abbrev PA (x : Ac) : Prop := x.name.data.toList.length ≤ 12 ∧ x.secret.data.toList.length ≤ 12 ∧ PI x.lev
theorem cod_account : Cod oneA encA PA (fun _ => True) := by
  have h := (((cod_text.seq fun _ => cod_text).seq fun _ => cod_int).seq fun _ => cod_mints).map
    (fun t : ((List UInt8 × List UInt8) × Int) × Bool => (⟨⟨t.1.1.1.toArray⟩, ⟨t.1.1.2.toArray⟩, t.1.2, t.2⟩ : Ac)) encA PA (fun _ => True)
    (fun u hu => ⟨(((u.name.data.toList, u.secret.data.toList), u.lev), u.mints), by simp, ⟨⟨⟨hu.1, hu.2.1⟩, hu.2.2⟩, trivial⟩, by simp [encA]⟩)
    (fun s _ _ => ⟨⟨⟨⟨trivial, trivial⟩, trivial⟩, trivial⟩, by simp [encA]⟩)
  exact h
theorem goN_forth : ∀ (xs acc : List Qu) (rest : List UInt8), (∀ x ∈ xs, PQ x) → goN xs.length acc ⟨xs.flatMap encQ ++ rest, 0⟩ = (acc ++ xs, ⟨rest, 0⟩)
  | [], acc, rest, _ => by simp [goN]
  | x :: xs, acc, rest, hp => by
    rw [List.length_cons, goN, List.flatMap_cons, List.append_assoc, cod_quota.forth x _ (hp x (List.mem_cons_self ..))]
    simp only
    rw [goN_forth xs (acc ++ [x]) rest (fun y hy => hp y (List.mem_cons_of_mem _ hy)), List.append_assoc]
    rfl
theorem goN_stick : ∀ (f : Nat) (acc : List Qu) (s : Sc), s.e ≠ 0 → (goN f acc s).2 = s
  | 0, _, _, _ => rfl
  | f + 1, acc, s, hs => by
    have h := cod_quota.stick s hs
    rw [goN, h]
    exact goN_stick f _ s hs
theorem goN_short : ∀ (xs acc : List Qu) (n : Nat), (∀ x ∈ xs, PQ x) → n < (xs.flatMap encQ).length → (goN xs.length acc ⟨(xs.flatMap encQ).take n, 0⟩).2.e = 12
  | [], acc, n, _, hn => by simp at hn
  | x :: xs, acc, n, hp, hn => by
    rw [List.length_cons, goN, List.flatMap_cons]
    rw [List.flatMap_cons, List.length_append] at hn
    have hpx := hp x (List.mem_cons_self ..)
    by_cases h1 : n < (encQ x).length
    · rw [List.take_append_of_le_length (by omega)]
      have h2 := cod_quota.short x n hpx h1
      rw [goN_stick _ _ _ (by rw [h2]; decide), h2]
    · obtain ⟨m, rfl⟩ : ∃ m, n = (encQ x).length + m := ⟨n - (encQ x).length, by omega⟩
      rw [List.take_length_add_append, cod_quota.forth x _ hpx]
      exact goN_short xs _ m (fun y hy => hp y (List.mem_cons_of_mem _ hy)) (by omega)
theorem goN_back : ∀ (f : Nat) (acc : List Qu) (s : Sc), (goN f acc s).2.e = 0 → s.e = 0 ∧ ∃ xs, (goN f acc s).1 = acc ++ xs ∧ s.l = xs.flatMap encQ ++ (goN f acc s).2.l
  | 0, acc, s, hs => ⟨hs, [], by simp [goN], rfl⟩
  | f + 1, acc, s, hs => by
    rw [goN] at hs ⊢
    obtain ⟨h1, xs, h2, h4⟩ := goN_back f _ _ hs
    obtain ⟨he, h5⟩ := cod_quota.back s h1
    refine ⟨he, (oneQ s).1 :: xs, by rw [h2, List.append_assoc]; rfl, ?_⟩
    rw [List.flatMap_cons, List.append_assoc, ← h4]
    exact h5 trivial
theorem cod_goN (n : Nat) : Cod (goN n []) (fun l => l.flatMap encQ) (fun l => l.length = n ∧ ∀ x ∈ l, PQ x) (fun _ => True) where
  forth := fun l rest hl => by
    obtain ⟨rfl, hp⟩ := hl
    rw [goN_forth l [] rest hp]
    rfl
  stick := fun s hs => goN_stick _ _ s hs
  short := fun l m hl hm => by
    obtain ⟨rfl, hp⟩ := hl
    exact goN_short l [] m hp hm
  back := fun s hs => by
    obtain ⟨h1, xs, h2, h4⟩ := goN_back _ _ _ hs
    refine ⟨h1, fun _ => ?_⟩
    rw [h2, List.nil_append]
    exact h4
abbrev T9 : Type := ((((((((List La × List Int) × List Ac) × List Gu) × List Qu) × Int) × Int) × Int) × Int)
def toRe (t : T9) : Re := ⟨t.1.1.1.1.1.1.1.1, t.1.1.1.1.1.1.1.2, t.1.1.1.1.1.1.2, t.1.1.1.1.1.2, t.1.1.1.1.2, t.1.1.1.2, t.1.1.2, t.1.2, t.2⟩
def ofRe (r : Re) : T9 := ((((((((r.labels, r.lines), r.accounts), r.guilds), r.quotas), r.orders), r.audits), r.rate), r.rounds)
structure PR (r : Re) : Prop where
  la : r.labels.length ≤ 8 ∧ ∀ x ∈ r.labels, may x.lev = true
  li : r.lines.length ≤ 8 ∧ ∀ x ∈ r.lines, PI x
  ac : r.accounts.length ≤ 8 ∧ ∀ x ∈ r.accounts, PA x
  gu : r.guilds.length ≤ 8 ∧ ∀ x ∈ r.guilds, PI x.bit ∧ PI x.founder
  qu : r.quotas.length = r.labels.length ∧ ∀ x ∈ r.quotas, PQ x
  nu : PI r.orders ∧ PI r.audits ∧ PI r.rate ∧ PI r.rounds
def runR : Sc → T9 × Sc := seqP (seqP (seqP (seqP (seqP (seqP (seqP (seqP (allP oneL) (fun _ => allP takeP)) (fun _ => allP oneA)) (fun _ => allP oneG)) (fun a => goN a.1.1.1.length [])) (fun _ => takeP)) (fun _ => takeP)) (fun _ => takeP)) (fun _ => takeP)
theorem cod_realm : Cod (fun s => (toRe (runR s).1, (runR s).2)) bytesR PR (fun r => ∀ x ∈ r.labels, may x.lev = true) :=
  (((((((((cod_all cod_label).seq fun _ => cod_all cod_int).seq fun _ => cod_all cod_account).seq fun _ => cod_all cod_guild).seq fun a => cod_goN a.1.1.1.length).seq fun _ => cod_int).seq fun _ => cod_int).seq fun _ => cod_int).seq fun _ => cod_int).map toRe bytesR PR (fun r => ∀ x ∈ r.labels, may x.lev = true)
    (fun r hr => ⟨ofRe r, rfl, ⟨⟨⟨⟨⟨⟨⟨⟨hr.la, hr.li⟩, hr.ac⟩, hr.gu⟩, hr.qu⟩, hr.nu.1⟩, hr.nu.2.1⟩, hr.nu.2.2.1⟩, hr.nu.2.2.2⟩, by simp [bytesR, ofRe, putP]⟩)
    (fun s _ hq => ⟨⟨⟨⟨⟨⟨⟨⟨⟨hq, fun _ _ => trivial⟩, fun _ _ => trivial⟩, fun _ _ => trivial⟩, trivial⟩, trivial⟩, trivial⟩, trivial⟩, trivial⟩, by simp [bytesR, toRe, putP]⟩)
theorem seq_at {A B : Type} {f : Sc → A × Sc} {g : A → Sc → B × Sc} {s s1 s2 : Sc} {a : A} {b : B} (h1 : f s = (a, s1)) (h2 : g a s1 = (b, s2)) : seqP f g s = ((a, b), s2) := by
  unfold seqP
  rw [h1]
  simp only
  rw [h2]
theorem parts_run (l : List UInt8) : partsP l = (toRe (runR ⟨l, 0⟩).1, (runR ⟨l, 0⟩).2) := by
  unfold partsP
  rcases ha : allP oneL ⟨l, 0⟩ with ⟨a, s1⟩
  simp only
  rcases hb : allP takeP s1 with ⟨b, s2⟩
  simp only
  rcases hc : allP oneA s2 with ⟨c, s3⟩
  simp only
  rcases hd : allP oneG s3 with ⟨d, s4⟩
  simp only
  rcases hq : goN a.length [] s4 with ⟨q, s5⟩
  simp only
  rcases ho : takeP s5 with ⟨o, s6⟩
  simp only
  rcases hu : takeP s6 with ⟨u, s7⟩
  simp only
  rcases ht : takeP s7 with ⟨t, s8⟩
  simp only
  rcases hn : takeP s8 with ⟨n, s9⟩
  have h : runR ⟨l, 0⟩ = (((((((((a, b), c), d), q), o), u), t), n), s9) :=
    seq_at (seq_at (seq_at (seq_at (seq_at (seq_at (seq_at (seq_at ha hb) hc) hd) hq) ho) hu) ht) hn
  rw [h]
  rfl
theorem may_P {r : Re} (h : mayBe r = true) : PR r := by
  obtain ⟨b1, b2, b3, b4, b5, b6⟩ := may_bounds h
  unfold mayBe at h
  simp only [Bool.and_eq_true] at h
  obtain ⟨h7, h6, h5, h4, h3, h2, h1, _⟩ := h
  unfold rule7 wit at h7
  unfold rule6 wit at h6
  unfold rule5 at h5
  unfold rule4 RGuilds.guildsOk at h4
  unfold rule3 at h3
  unfold rule2 at h2
  simp only [Bool.and_eq_true, decide_eq_true_eq, List.all_eq_true, List.mem_range] at h2 h3 h4 h5 h6 h7
  refine ⟨⟨b1, b6⟩, ⟨b2, fun x hx => ?_⟩, ⟨b3, fun x hx => ?_⟩, ⟨b4, fun x hx => ?_⟩, ⟨h5.1, fun x hx => ?_⟩, ⟨by unfold PI; omega, by unfold PI; omega, by unfold PI; omega, by unfold PI; omega⟩⟩
  · have := h2.2 x hx
    unfold inn at this
    simp only [Bool.and_eq_true, decide_eq_true_eq] at this
    unfold PI
    omega
  · have := h3.2.1 x hx
    unfold accOk wit Chars.right at this
    simp only [Bool.and_eq_true, decide_eq_true_eq] at this
    obtain ⟨⟨⟨⟨_, k1⟩, _⟩, _⟩, ⟨⟨⟨_, k2⟩, _⟩, _⟩, k3⟩ := this
    exact ⟨k1, k2, by unfold PI; omega⟩
  · obtain ⟨k, hk⟩ := List.getElem?_of_mem hx
    have hkl := (List.getElem?_eq_some_iff.1 hk).1
    have := h4.2.1 k hkl
    rw [RGuilds.gk_at r k x hk] at this
    simp only [Bool.and_eq_true, decide_eq_true_eq] at this
    obtain ⟨k1, _, k3, _⟩ := this
    unfold inn at k3
    simp only [Bool.and_eq_true, decide_eq_true_eq] at k3
    have hb : 0 ≤ x.bit ∧ x.bit < 64 := by
      unfold hallErr at k1
      by_cases hh : 0 ≤ x.bit ∧ x.bit < 64
      · exact hh
      · rw [if_neg hh] at k1
        cases k1
    unfold PI
    omega
  · have := h5.2.1 x hx
    unfold quOk five wit at this
    simp only [List.all_cons, List.all_nil, Bool.and_true, Bool.and_eq_true, decide_eq_true_eq] at this
    unfold PQ PI
    omega
theorem fin_err {s : Sc} (h : s.e ≠ 0) : s.fin = s.e := by
  unfold Sc.fin Sc.left
  rw [if_neg h, if_neg (by decide)]
/-- There: the bytes of a realm are read as it. -/
theorem read_bytes {r : Re} (h : mayBe r = true) : readP (bytesP r) = (r, 0) := by
  have hp : partsP (bytesR r) = (r, ⟨[], 0⟩) := by
    rw [parts_run]
    have := cod_realm.forth r [] (may_P h)
    rwa [List.append_nil] at this
  unfold bytesP
  rw [if_pos h]
  unfold readP
  rw [hp]
  simp only
  rw [if_pos (by rfl), if_pos h]
/-- Cut: something is missing. -/
theorem read_cut {r : Re} (h : mayBe r = true) {n : Nat} (hn : n < (bytesP r).length) : readP ((bytesP r).take n) = (re0, 12) := by
  have hb : bytesP r = bytesR r := if_pos h
  rw [hb] at hn ⊢
  have hp : (partsP ((bytesR r).take n)).2.e = 12 := by
    rw [parts_run]
    exact cod_realm.short r n (may_P h) hn
  have hf : (partsP ((bytesR r).take n)).2.fin = 12 := by rw [fin_err (by rw [hp]; decide), hp]
  unfold readP
  rw [hf, if_neg (by decide)]
/-- Back: what is read is made of it again. -/
theorem bytes_read {b : List UInt8} {u : Re} (h : readP b = (u, 0)) : mayBe u = true ∧ bytesP u = b := by
  unfold readP at h
  by_cases hf : (partsP b).2.fin = 0
  · rw [if_pos hf] at h
    by_cases hm : mayBe (partsP b).1 = true
    · rw [if_pos hm] at h
      have hu : (partsP b).1 = u := congrArg Prod.fst h
      rw [hu] at hm
      refine ⟨hm, ?_⟩
      have he : (partsP b).2.e = 0 ∧ (partsP b).2.l = [] := by
        by_cases h1 : (partsP b).2.e = 0
        · by_cases h2 : (partsP b).2.l.length = 0
          · exact ⟨h1, List.eq_nil_of_length_eq_zero h2⟩
          · exfalso
            unfold Sc.fin Sc.left at hf
            rw [if_pos h1, if_pos (by omega)] at hf
            exact absurd hf (by decide)
        · exfalso
          rw [fin_err h1] at hf
          exact h1 hf
      have hr := parts_run b
      rw [hr] at he hu
      obtain ⟨_, h2⟩ := cod_realm.back ⟨b, 0⟩ he.1
      have h3 := h2 (by
        show ∀ x ∈ (toRe (runR ⟨b, 0⟩).1).labels, _
        rw [show toRe (runR ⟨b, 0⟩).1 = u from hu]
        exact (may_bounds hm).2.2.2.2.2)
      have h4 : b = bytesR (toRe (runR ⟨b, 0⟩).1) ++ (runR ⟨b, 0⟩).2.l := h3
      rw [show (runR ⟨b, 0⟩).2.l = [] from he.2, List.append_nil, show toRe (runR ⟨b, 0⟩).1 = u from hu] at h4
      unfold bytesP
      rw [if_pos hm]
      exact h4.symm
    · rw [if_neg hm] at h
      injection h with _ h2
      cases h2
  · rw [if_neg hf] at h
    injection h with _ h2
    exact absurd h2 hf
theorem bytes_none {r : Re} (h : mayBe r = false) : bytesP r = [] := if_neg (by rw [h]; decide)
end Go.Proofs.YtmegdgeiikhflaaGreat.EG
