/-
  Pure facts on deeds: what a deed leaves of a list that may be; how many there are.
  Conditions: those that each lemma names.
-/
import Derived.Test.YtaolallfmjjoeaaTL
namespace Go.Proofs.Ytaolallfmjjoeaa.TQ
set_option maxRecDepth 100000
open Go Go.RowKit Go.Lib Go.Proofs.Ytaolallfmjjoeaa Go.Proofs.Ytaolallfmjjoeaa.Facts Go.Proofs.Ytaolallfmjjoeaa.Ints Go.Proofs.Ytaolallfmjjoeaa.TI Go.Proofs.Ytaolallfmjjoeaa.TP Go.Proofs.Ytaolallfmjjoeaa.TB Go.Proofs.Ytaolallfmjjoeaa.TC Go.Proofs.Ytaolallfmjjoeaa.TD Go.Proofs.Ytaolallfmjjoeaa.TE Go.Proofs.Ytaolallfmjjoeaa.TF Go.Proofs.Ytaolallfmjjoeaa.TG Go.Proofs.Ytaolallfmjjoeaa.TH Go.Proofs.Ytaolallfmjjoeaa.TJ Go.Proofs.Ytaolallfmjjoeaa.TK Go.Proofs.Ytaolallfmjjoeaa.TL Go.Proofs.Ytaolallfmjjoeaa.Bytes


structure De where
  kind : Int
  i : Int
  who : Int
  to : Int
  lab : Int
  slot : Int
  name : ByteArray
def dcs (x : De) : List Value := [.int .i64 x.kind, .int .i64 x.i, .int .i64 x.who, .int .i64 x.to, .int .i64 x.lab, .int .i64 x.slot, .string x.name]
abbrev Ds (w : World) (v : Value) (l : List De) : Prop := Rw w v l.length (l.flatMap dcs)
def dv (x : De) : Value := .agg #[.int .i64 x.kind, .int .i64 x.i, .int .i64 x.who, .int .i64 x.to, .int .i64 x.lab, .int .i64 x.slot, .string x.name]
theorem Ds_at {w : World} {v : Value} {l : List De} (h : Ds w v l) {k : Nat} {x : De} (hk : l[k]? = some x) :
    ∃ ad c, v = .slice (some ad) l.length c ∧ l.length ≤ c ∧ w.cell? (ad.add (k * 7)) = some (.int .i64 x.kind) ∧ w.cell? ⟨(ad.add (k * 7)).block, (ad.add (k * 7)).off + 1, none⟩ = some (.int .i64 x.i) ∧
      w.cell? ⟨(ad.add (k * 7)).block, (ad.add (k * 7)).off + 2, none⟩ = some (.int .i64 x.who) ∧ w.cell? ⟨(ad.add (k * 7)).block, (ad.add (k * 7)).off + 3, none⟩ = some (.int .i64 x.to) ∧
      w.cell? ⟨(ad.add (k * 7)).block, (ad.add (k * 7)).off + 4, none⟩ = some (.int .i64 x.lab) ∧ w.cell? ⟨(ad.add (k * 7)).block, (ad.add (k * 7)).off + 5, none⟩ = some (.int .i64 x.slot) ∧
      w.cell? ⟨(ad.add (k * 7)).block, (ad.add (k * 7)).off + 6, none⟩ = some (.string x.name) := by
  obtain ⟨ad, c, e, hc, h0, h1⟩ := Rw.at (f := dcs) (n := 7) (fun _ => rfl) h hk (by decide)
  exact ⟨ad, c, e, hc, h0 _ rfl, h1 1 _ (by decide) rfl, h1 2 _ (by decide) rfl, h1 3 _ (by decide) rfl, h1 4 _ (by decide) rfl, h1 5 _ (by decide) rfl, h1 6 _ (by decide) rfl⟩

def doP (l : List It) (x : De) : List It × Int :=
  if x.kind = 0 then ((makeP l x.name x.who).1, (makeP l x.name x.who).2.2)
  else if x.kind = 1 then scrapP l x.i x.who
  else if x.kind = 2 then moveP l x.i (hand x.who) (floor x.lab x.slot)
  else if x.kind = 3 then moveP l x.i (floor x.lab x.slot) (hand x.who)
  else if x.kind = 4 then moveP l x.i (hand x.who) (hand x.to)
  else if x.kind = 5 then moveP l x.i (hand x.who) (deal x.to)
  else freeP l x.to x.who

def sumN (n : Nat) (F : Nat → Int) : Int := ((List.range n).map F).sum
theorem sum_zero (F : Nat → Int) : sumN 0 F = 0 := rfl
theorem sum_succ (n : Nat) (F : Nat → Int) : sumN (n + 1) F = sumN n F + F n := by
  unfold sumN
  rw [List.range_succ, List.map_append, List.sum_append]
  simp
theorem sum_congr {n : Nat} {F G : Nat → Int} (h : ∀ j, j < n → F j = G j) : sumN n F = sumN n G := by
  unfold sumN
  rw [List.map_congr_left fun j hj => h j (List.mem_range.1 hj)]
theorem sum_add (n : Nat) (F G : Nat → Int) : sumN n F + sumN n G = sumN n fun j => F j + G j := by
  induction n with
  | zero => rfl
  | succ n ih => rw [sum_succ, sum_succ, sum_succ, ← ih]; omega
theorem sum_if (n : Nat) (F : Nat → Int) (k : Nat) (a : Int) : sumN n (fun j => if j = k then a else F j) = if k < n then sumN n F - F k + a else sumN n F := by
  induction n with
  | zero => rfl
  | succ n ih =>
    rw [sum_succ, sum_succ, ih]
    by_cases h : k < n
    · rw [if_pos h, if_neg (by omega), if_pos (by omega)]
      omega
    · rw [if_neg h]
      by_cases h2 : n = k
      · subst h2
        rw [if_pos rfl, if_pos (by omega)]
        omega
      · rw [if_neg h2, if_neg (by omega)]
theorem sum_bound (n : Nat) (F : Nat → Int) (h : ∀ j, 0 ≤ F j ∧ F j ≤ 1) : 0 ≤ sumN n F ∧ sumN n F ≤ n := by
  induction n with
  | zero => exact ⟨by rw [sum_zero]; omega, by rw [sum_zero]; omega⟩
  | succ n ih => rw [sum_succ]; have := h n; omega
def b01 (b : Bool) : Int := if b = true then 1 else 0
theorem b01_le (b : Bool) : 0 ≤ b01 b ∧ b01 b ≤ 1 := by cases b <;> decide
/-- How many there are. -/
def cU (l : List It) : Int := sumN l.length fun j => b01 (el l j).used
theorem el_set (l : List It) (k : Nat) (x : It) (j : Nat) (hk : k < l.length) : el (l.set k x) j = if j = k then x else el l j := by
  unfold el
  rw [List.getElem?_set]
  by_cases h : k = j
  · subst h
    simp [hk]
  · rw [if_neg h, if_neg (fun e => h e.symm)]
theorem cU_set (l : List It) (k : Nat) (x : It) (hk : k < l.length) : cU (l.set k x) = cU l - b01 (el l k).used + b01 x.used := by
  unfold cU
  rw [List.length_set, sum_congr (G := fun j => if j = k then b01 x.used else b01 (el l j).used) (fun j _ => by
    rw [el_set l k x j hk]
    by_cases h : j = k
    · rw [if_pos h, if_pos h]
    · rw [if_neg h, if_neg h]), sum_if, if_pos hk]
theorem okL_set {l : List It} (h : okL l = true) (k : Nat) {x : It} (hx : okI x = true) : okL (l.set k x) = true := by
  unfold okL at *
  rw [List.all_eq_true] at *
  intro y hy
  rcases List.mem_or_eq_of_mem_set hy with h1 | h1
  · exact h y h1
  · rw [h1]; exact hx
theorem Sz_set {l : List It} (h : Sz l) (k : Nat) {x : It} (hx : x.name.size ≤ 9223372036854775807) : Sz (l.set k x) := by
  intro y hy
  rcases List.mem_or_eq_of_mem_set hy with h1 | h1
  · exact h y h1
  · rw [h1]; exact hx
theorem Sz_el {l : List It} (h : Sz l) (k : Nat) : (el l k).name.size ≤ 9223372036854775807 := by
  unfold el
  cases hx : l[k]? with
  | none => decide
  | some x => exact h x (List.mem_of_getElem? hx)
theorem okI_giv (h : Ho) (s : ByteArray) : okI (giv h s) = (Chars.right s.data.toList && okH h) := rfl
theorem name_ok {l : List It} (h : okL l = true) (k : Nat) (hu : (el l k).used = true) : Chars.right (el l k).name.data.toList = true := by
  have := okL_el h k
  unfold okI at this
  rw [hu] at this
  simp only [if_true, Bool.and_eq_true] at this
  exact this.1
theorem may_iff (l : List It) (hs : List Ho) : mayP l hs = true ↔ okL l = true ∧ ∀ h ∈ hs, okH h = true := by
  unfold mayP
  rw [Bool.and_eq_true, List.all_eq_true]

/-- What a deed leaves that was done: no error; a list that may be, of as many slots, with so many more items, the same names. -/
structure GoodD (l r : List It) (d : Int) (b : Bool) : Prop where
  ok : okL r = true
  len : r.length = l.length
  sz : Sz r
  cnt : cU r = cU l + d
  names : ∀ j, (el l j).used = true → (el r j).used = true → (el l j).name = (el r j).name
  same : b = true → ∀ j, (el l j).used = (el r j).used
theorem GoodD.set {l : List It} (hl : okL l = true) (hz : Sz l) {k : Nat} (hk : k < l.length) {x : It} (hx : okI x = true) (hs : x.name.size ≤ 9223372036854775807) (hn : (el l k).used = true → x.used = true → (el l k).name = x.name) {b : Bool} (hb : b = true → (el l k).used = x.used) : GoodD l (l.set k x) (b01 x.used - b01 (el l k).used) b where
  ok := okL_set hl k hx
  len := List.length_set
  sz := Sz_set hz k hs
  cnt := by rw [cU_set l k x hk]; omega
  names := fun j h1 h2 => by
    rw [el_set l k x j hk] at *
    by_cases h : j = k
    · rw [if_pos h] at *
      subst h
      exact hn h1 h2
    · rw [if_neg h]
  same := fun hbt j => by
    rw [el_set l k x j hk]
    by_cases h : j = k
    · rw [if_pos h]
      subst h
      exact hb hbt
    · rw [if_neg h]
theorem move_good {l : List It} (hz : Sz l) (i : Int) (f t : Ho) : ((moveP l i f t).2 ≠ 0 ∧ (moveP l i f t).1 = []) ∨ ((moveP l i f t).2 = 0 ∧ GoodD l (moveP l i f t).1 0 true) := by
  unfold moveP
  cases hm : mayP l [f, t] with
  | false => exact .inl ⟨by simp, by simp⟩
  | true =>
    cases hi : decide (i ∈ slotsOf l f) with
    | false => exact .inl ⟨by simp, by simp⟩
    | true =>
      obtain ⟨hok, hh⟩ := (may_iff _ _).1 hm
      obtain ⟨k, rfl, hk, hu, _⟩ := slots_lt (of_decide_eq_true hi)
      refine .inr ⟨rfl, ?_⟩
      simp only [Bool.true_eq_false, if_false, Int.toNat_natCast]
      have := GoodD.set hok hz hk (x := giv t (el l k).name) (by rw [okI_giv, name_ok hok k hu, hh t (by simp)]; rfl) (Sz_el hz k) (fun _ _ => rfl) (b := true) (fun _ => hu)
      rw [hu] at this
      exact this
theorem scrap_good {l : List It} (hz : Sz l) (i n : Int) : ((scrapP l i n).2 ≠ 0 ∧ (scrapP l i n).1 = []) ∨ ((scrapP l i n).2 = 0 ∧ GoodD l (scrapP l i n).1 (-1) false) := by
  unfold scrapP
  cases hm : mayP l [hand n] with
  | false => exact .inl ⟨by simp, by simp⟩
  | true =>
    cases hi : decide (i ∈ slotsOf l (hand n)) with
    | false => exact .inl ⟨by simp, by simp⟩
    | true =>
      obtain ⟨hok, _⟩ := (may_iff _ _).1 hm
      obtain ⟨k, rfl, hk, hu, _⟩ := slots_lt (of_decide_eq_true hi)
      refine .inr ⟨rfl, ?_⟩
      simp only [Bool.true_eq_false, if_false, Int.toNat_natCast]
      have := GoodD.set hok hz hk (x := zit) rfl (by decide) (fun _ h => by cases h) (b := false) (fun h => by cases h)
      rw [hu] at this
      exact this
theorem free_at {l : List It} {k : Nat} (h : free l = k) : k < l.length ∧ (el l k).used = false := by
  unfold free fidx at h
  cases hf : l.findIdx? (fun x => !x.used) with
  | none => rw [hf] at h; simp only at h; omega
  | some j =>
    rw [hf] at h
    simp only at h
    have hj : j = k := by omega
    subst hj
    obtain ⟨h1, h2, _⟩ := List.findIdx?_eq_some_iff_getElem.1 hf
    refine ⟨h1, ?_⟩
    unfold el
    rw [List.getElem?_eq_getElem h1]
    simpa using h2
theorem make_good {l : List It} (hz : Sz l) (s : ByteArray) (hs : s.size ≤ 9223372036854775807) (n : Int) : ((makeP l s n).2.2 ≠ 0 ∧ (makeP l s n).1 = []) ∨ ((makeP l s n).2.2 = 0 ∧ GoodD l (makeP l s n).1 1 false) := by
  unfold makeP
  cases hm : mayP l [hand n] with
  | false => exact .inl ⟨by simp, by simp⟩
  | true =>
    cases hr : Chars.right s.data.toList with
    | false => exact .inl ⟨by simp, by simp⟩
    | true =>
      simp only [Bool.true_eq_false, if_false]
      rcases free_cases l with e | ⟨k, e, _⟩
      · rw [if_pos e]
        exact .inl ⟨by simp, by simp⟩
      · obtain ⟨hk, hu⟩ := free_at e
        obtain ⟨hok, hh⟩ := (may_iff _ _).1 hm
        rw [e, if_neg (by omega), Int.toNat_natCast]
        refine .inr ⟨rfl, ?_⟩
        have := GoodD.set hok hz hk (x := giv (hand n) s) (by rw [okI_giv, hr, hh _ (by simp)]; rfl) hs (fun h => by rw [hu] at h; cases h) (b := false) (fun h => by cases h)
        rw [hu] at this
        exact this
theorem GoodD.refl {l : List It} (hl : okL l = true) (hz : Sz l) (b : Bool) : GoodD l l 0 b := ⟨hl, rfl, hz, by omega, fun _ _ _ => rfl, fun _ _ => rfl⟩
theorem fl_good {l : List It} (hok : okL l = true) (hz : Sz l) (t : Ho) (ht : okH t = true) (S : List Int) (hS : ∀ i ∈ S, ∃ j : Nat, i = j ∧ j < l.length ∧ (el l j).used = true) : ∀ k, k ≤ S.length → GoodD l (fl l t S k) 0 true ∧ ∀ j, (el (fl l t S k) j).name = (el l j).name
  | 0, _ => ⟨GoodD.refl hok hz true, fun _ => rfl⟩
  | k + 1, hk => by
    obtain ⟨ih, ihn⟩ := fl_good hok hz t ht S hS k (by omega)
    obtain ⟨j, e, hj, hu⟩ := hS S[k] (List.getElem_mem (by omega))
    rw [fl_succ l t S k (by omega), e, Int.toNat_natCast]
    have hjl : j < (fl l t S k).length := by rw [ih.len]; exact hj
    have g := GoodD.set ih.ok ih.sz hjl (x := giv t (el l j).name) (by rw [okI_giv, name_ok hok j hu, ht]; rfl) (Sz_el hz j) (fun _ _ => ihn j) (b := true) (fun _ => by rw [← ih.same rfl j, hu]; rfl)
    have hu2 : (el (fl l t S k) j).used = true := by rw [← ih.same rfl j]; exact hu
    have hn : ∀ m, (el ((fl l t S k).set j (giv t (el l j).name)) m).name = (el l m).name := fun m => by
      rw [el_set _ _ _ _ hjl]
      by_cases h : m = j
      · rw [if_pos h, h]; rfl
      · rw [if_neg h]; exact ihn m
    refine ⟨⟨g.ok, g.len.trans ih.len, g.sz, ?_, fun m _ _ => (hn m).symm, fun h m => (ih.same h m).trans (g.same rfl m)⟩, hn⟩
    have h1 := g.cnt
    have h2 := ih.cnt
    rw [hu2] at h1
    have e1 : b01 (giv t (el l j).name).used = 1 := rfl
    have e2 : b01 true = 1 := rfl
    rw [e1, e2] at h1
    omega
theorem free_good {l : List It} (hz : Sz l) (d n : Int) : ((freeP l d n).2 ≠ 0 ∧ (freeP l d n).1 = []) ∨ ((freeP l d n).2 = 0 ∧ GoodD l (freeP l d n).1 0 true) := by
  unfold freeP
  cases hm : mayP l [deal d, hand n] with
  | false => exact .inl ⟨by simp, by simp⟩
  | true =>
    obtain ⟨hok, hh⟩ := (may_iff _ _).1 hm
    refine .inr ⟨rfl, ?_⟩
    simp only [Bool.true_eq_false, if_false]
    exact (fl_good hok hz (hand n) (hh _ (by simp)) _ (fun i hi => by
      obtain ⟨j, e, hj, hu, _⟩ := slots_lt hi
      exact ⟨j, e, hj, hu⟩) _ (Nat.le_refl _)).1
/-- What a deed adds. -/
def adds (k : Int) : Int := if k = 0 then 1 else if k = 1 then -1 else 0
theorem do_good {l : List It} (hz : Sz l) (x : De) (hs : x.name.size ≤ 9223372036854775807) : ((doP l x).2 ≠ 0 ∧ (doP l x).1 = []) ∨ ((doP l x).2 = 0 ∧ GoodD l (doP l x).1 (adds x.kind) (decide (1 < x.kind))) := by
  have key : ∀ {r : List It × Int}, (r.2 ≠ 0 ∧ r.1 = []) ∨ (r.2 = 0 ∧ GoodD l r.1 0 true) → ¬ x.kind = 0 → ¬ x.kind = 1 → (r.2 ≠ 0 ∧ r.1 = []) ∨ (r.2 = 0 ∧ GoodD l r.1 (adds x.kind) (decide (1 < x.kind))) := fun h h0 h1 => by
    rcases h with h | ⟨h, g⟩
    · exact .inl h
    · have e : adds x.kind = 0 := by unfold adds; rw [if_neg h0, if_neg h1]
      exact .inr ⟨h, ⟨g.ok, g.len, g.sz, by rw [e]; exact g.cnt, g.names, fun _ => g.same rfl⟩⟩
  unfold doP
  by_cases h0 : x.kind = 0
  · rw [if_pos h0]
    have := make_good hz x.name hs x.who
    rw [h0]
    exact this
  rw [if_neg h0]
  by_cases h1 : x.kind = 1
  · rw [if_pos h1]
    have := scrap_good hz x.i x.who
    rw [h1]
    exact this
  rw [if_neg h1]
  by_cases h2 : x.kind = 2
  · rw [if_pos h2]; exact key (move_good hz ..) h0 h1
  rw [if_neg h2]
  by_cases h3 : x.kind = 3
  · rw [if_pos h3]; exact key (move_good hz ..) h0 h1
  rw [if_neg h3]
  by_cases h4 : x.kind = 4
  · rw [if_pos h4]; exact key (move_good hz ..) h0 h1
  rw [if_neg h4]
  by_cases h5 : x.kind = 5
  · rw [if_pos h5]; exact key (move_good hz ..) h0 h1
  rw [if_neg h5]
  exact key (free_good hz ..) h0 h1

theorem slots_len (l : List It) (h : Ho) : ((slotsOf l h).length : Int) = sumN l.length fun j => ind j (slotsOf l h) := by
  have hs : slotsOf l h = ((List.range l.length).filter fun j => (el l j).used && decide (hol (el l j) = h)).map Int.ofNat := by
    unfold slotsOf upto
    rw [List.filter_map, List.filter_filter]
    congr 1
    apply List.filter_congr
    intro j _
    simp [isH, Bool.and_comm]
  have key : ∀ (n : Nat) (p : Nat → Bool), (((List.range n).filter p).length : Int) = sumN n fun j => b01 (p j) := by
    intro n p
    induction n with
    | zero => rfl
    | succ n ih =>
      rw [List.range_succ, List.filter_append, List.length_append, sum_succ, ← ih]
      cases hp : p n <;> simp [hp, b01]
  rw [sum_congr (G := fun j => b01 ((el l j).used && decide (hol (el l j) = h))) (fun j hj => by
    have := slots_mem l h j hj
    unfold ind b01
    simp [this])]
  rw [← key, hs, List.length_map]
/-- Those that are not in a hand. -/
def out1 (l : List It) (j : Nat) : Int := if (el l j).used = true ∧ ¬ (el l j).kind = 1 then 1 else 0
theorem all_told {l : List It} (h : okL l = true) : sumN l.length (f1 l 128) + sumN l.length (out1 l) = cU l := by
  rw [sum_add]
  unfold cU
  refine sum_congr fun j _ => ?_
  unfold f1 out1 b01
  rcases kinds (okL_el h j) with ⟨h1, h2⟩ | ⟨h1, h2, _, h3, h4⟩ | ⟨h1, h2, _⟩ | ⟨h1, h2, _⟩
  · simp [h1]
  · have : (el l j).who < 128 := by omega
    simp [h1, h2, this]
  · simp [h1, h2]
  · simp [h1, h2]
theorem held_step {l : List It} (h : okL l = true) (who : Nat) : sumN l.length (f1 l who) + ((slotsOf l (hand who)).length : Int) = sumN l.length (f1 l (who + 1)) := by
  rw [slots_len, sum_add]
  exact sum_congr fun j hj => f1_step h who j hj
theorem held_zero {l : List It} (h : okL l = true) : sumN l.length (f1 l 0) = 0 := by
  rw [sum_congr (G := fun _ => 0) (fun j _ => f1_zero h j)]
  generalize l.length = n
  induction n with
  | zero => rfl
  | succ n ih => rw [sum_succ, ih]; rfl
theorem ok_zero (n : Nat) : okL (List.replicate n zit) = true := by
  unfold okL
  rw [List.all_eq_true]
  intro x hx
  rw [List.eq_of_mem_replicate hx]
  rfl
theorem sz_zero (n : Nat) : Sz (List.replicate n zit) := fun x hx => by
  rw [List.eq_of_mem_replicate hx]
  decide
theorem cU_zero (n : Nat) : cU (List.replicate n zit) = 0 := by
  unfold cU
  rw [List.length_replicate]
  have e : ∀ j, b01 (el (List.replicate n zit) j).used = 0 := fun j => by
    unfold el
    rw [List.getElem?_replicate]
    split <;> rfl
  rw [sum_congr (G := fun _ => 0) (fun j _ => e j)]
  induction n with
  | zero => rfl
  | succ n ih => rw [sum_succ, ih (fun j => by unfold el; rw [List.getElem?_replicate]; split <;> rfl)]; rfl
end Go.Proofs.Ytaolallfmjjoeaa.TQ
