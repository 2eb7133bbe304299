/-
  Pure facts on exits: what linking and closing leave of a list that may be; how many there are.
  Conditions: those that each lemma names.
-/
import Derived.Test.YtaolallfmjjoeaaRH
namespace Go.Proofs.Ytaolallfmjjoeaa.RM
set_option maxRecDepth 100000
open Go Go.RowKit Go.Lib Go.Proofs.Ytaolallfmjjoeaa Go.Proofs.Ytaolallfmjjoeaa.Facts Go.Proofs.Ytaolallfmjjoeaa.Ints Go.Proofs.Ytaolallfmjjoeaa.TI Go.Proofs.Ytaolallfmjjoeaa.TP Go.Proofs.Ytaolallfmjjoeaa.TB Go.Proofs.Ytaolallfmjjoeaa.TC Go.Proofs.Ytaolallfmjjoeaa.TD Go.Proofs.Ytaolallfmjjoeaa.TE Go.Proofs.Ytaolallfmjjoeaa.TF Go.Proofs.Ytaolallfmjjoeaa.TH Go.Proofs.Ytaolallfmjjoeaa.RA Go.Proofs.Ytaolallfmjjoeaa.RB Go.Proofs.Ytaolallfmjjoeaa.RC Go.Proofs.Ytaolallfmjjoeaa.RD Go.Proofs.Ytaolallfmjjoeaa.RE Go.Proofs.Ytaolallfmjjoeaa.RF Go.Proofs.Ytaolallfmjjoeaa.RG Go.Proofs.Ytaolallfmjjoeaa.Bytes

theorem fidx_none {α : Type} {l : List α} {p : α → Bool} (h : fidx l p = -1) : ∀ x ∈ l, p x = false := by
  unfold fidx at h
  split at h
  · omega
  · rename_i hn
    exact List.findIdx?_eq_none_iff.1 hn
theorem exq_iff : ∀ (l : List Ex) (ks : List Ky), exq ks l = true ↔ (∀ x ∈ l, okE x = true) ∧ (∀ x ∈ l, x.used = true → ky x ∉ ks) ∧ l.Pairwise (fun x y => x.used = true → y.used = true → ky x ≠ ky y)
  | [], ks => by simp [exq]
  | x :: r, ks => by
    rw [exq]
    by_cases h1 : okE x = false
    · rw [if_pos h1]
      simp [h1]
    rw [if_neg h1]
    have h1' : okE x = true := by simpa using h1
    by_cases h2 : x.used = false
    · rw [if_pos h2, exq_iff r ks]
      simp [h1', h2, List.pairwise_cons]
    rw [if_neg h2]
    have h2' : x.used = true := by simpa using h2
    by_cases h3 : ky x ∈ ks
    · rw [if_pos h3]
      simp [h2', h3]
    rw [if_neg h3, exq_iff r]
    simp only [List.mem_cons, forall_eq_or_imp, List.pairwise_cons, h1', h2', h3, List.mem_append, not_false_eq_true, true_and, not_or, List.not_mem_nil, or_false, forall_const, true_implies]
    constructor
    · rintro ⟨a, b, c⟩
      exact ⟨a, fun y hy hu => (b y hy hu).1, fun y hy hu e => (b y hy hu).2 e.symm, c⟩
    · rintro ⟨a, b, d, c⟩
      exact ⟨a, fun y hy hu => ⟨b y hy hu, fun e => d y hy hu e.symm⟩, c⟩
theorem exq_ix (l : List Ex) : exq [] l = true ↔ (∀ x ∈ l, okE x = true) ∧ ∀ (i j : Nat) (hi : i < l.length) (hj : j < l.length), i < j → l[i].used = true → l[j].used = true → ky l[i] ≠ ky l[j] := by
  rw [exq_iff, List.pairwise_iff_getElem]
  constructor
  · rintro ⟨a, _, c⟩
    exact ⟨a, c⟩
  · rintro ⟨a, c⟩
    exact ⟨a, fun _ _ _ h => by simp at h, c⟩
theorem exq_set {l : List Ex} (h : exq [] l = true) (k : Nat) (x : Ex) (hx : okE x = true) (hn : x.used = true → ∀ y ∈ l, y.used = true → ky y ≠ ky x) : exq [] (l.set k x) = true := by
  rw [exq_ix] at h ⊢
  obtain ⟨h1, h2⟩ := h
  refine ⟨fun y hy => ?_, fun i j hi hj hij hu hu2 => ?_⟩
  · rcases List.mem_or_eq_of_mem_set hy with hy | rfl
    · exact h1 y hy
    · exact hx
  · simp only [List.getElem_set] at hu hu2 ⊢
    rw [List.length_set] at hi hj
    by_cases e1 : k = i
    · by_cases e2 : k = j
      · omega
      · rw [if_pos e1] at hu ⊢
        rw [if_neg e2] at hu2 ⊢
        exact fun e => hn hu _ (List.getElem_mem hj) hu2 e.symm
    · by_cases e2 : k = j
      · rw [if_neg e1] at hu ⊢
        rw [if_pos e2] at hu2 ⊢
        exact hn hu2 _ (List.getElem_mem hi) hu
      · rw [if_neg e1] at hu ⊢
        rw [if_neg e2] at hu2 ⊢
        exact h2 i j hi hj hij hu hu2
def cE (l : List Ex) : Int := (l.countP fun x => x.used : Nat)
theorem cE_le (l : List Ex) : 0 ≤ cE l ∧ cE l ≤ l.length := by
  have := List.countP_le_length (p := fun x : Ex => x.used) (l := l)
  unfold cE
  omega
theorem cE_zero (m : Nat) : cE (List.replicate m zex) = 0 := by
  unfold cE
  rw [List.countP_replicate]
  rfl
theorem exq_zero (m : Nat) : exq [] (List.replicate m zex) = true := by
  rw [exq_ix]
  refine ⟨fun x hx => ?_, fun i j hi hj hij hu => ?_⟩
  · rw [List.eq_of_mem_replicate hx]
    decide
  · rw [List.getElem_replicate] at hu
    cases hu
theorem ee_lt {l : List Ex} {k : Nat} (hk : k < l.length) : ee l k = l[k] := by
  unfold ee
  rw [List.getElem?_eq_getElem hk]
  rfl
theorem lead_ky {x : Ex} {a b d : Int} : lead x a b d = true ↔ x.used = true ∧ ky x = (a, b, d) := by
  unfold lead ky
  simp [and_assoc]
theorem link_step (l : List Ex) (x : Ex) (hu : x.used = true) (h : exq [] l = true) :
    (okE x = false ∧ linkP l x = ([], 0, 1)) ∨ (slE l x.fl x.fs x.dir ≠ -1 ∧ linkP l x = ([], 0, 4)) ∨ (slE l x.fl x.fs x.dir = -1 ∧ linkP l x = ([], 0, 8) ∧ cE l = l.length) ∨
    (∃ k : Nat, slE l x.fl x.fs x.dir = -1 ∧ k < l.length ∧ (ee l k).used = false ∧ linkP l x = (l.set k x, (k : Int), 0) ∧ exq [] (l.set k x) = true ∧ findP (l.set k x) x.fl x.fs x.dir = ((x.tl, x.ts), true) ∧ cE (l.set k x) = cE l + 1) := by
  unfold linkP
  rw [if_neg (by rw [h]; decide)]
  cases hx : okE x with
  | false => exact .inl ⟨rfl, rfl⟩
  | true =>
    right
    rw [if_neg (by decide)]
    by_cases hs : slE l x.fl x.fs x.dir = -1
    · right
      rw [if_pos hs]
      have hno := fidx_none hs
      rcases fidx_cases l (fun x => !x.used) with ⟨hf, hall⟩ | ⟨k, hk, hf, hku, _⟩
      · left
        refine ⟨hs, ?_, ?_⟩
        · unfold exfree
          rw [hf]
          rfl
        · unfold cE
          rw [List.countP_eq_length.2]
          intro y hy
          have := fidx_none hf y hy
          simpa using this
      · right
        have hku' : l[k].used = false := by simpa using hku
        refine ⟨k, hs, hk, by rw [ee_lt hk]; exact hku', ?_, ?_, ?_, ?_⟩
        · unfold exfree
          rw [hf]
          have hne : ¬ (k : Int) = -1 := by omega
          rw [if_neg hne, if_neg hne, if_neg hne, Int.toNat_natCast]
        · refine exq_set h k x hx fun _ y hy hyu e => ?_
          have := hno y hy
          rw [(lead_ky (x := y) (a := x.fl) (b := x.fs) (d := x.dir)).2 ⟨hyu, e⟩] at this
          cases this
        · have hsl : slE (l.set k x) x.fl x.fs x.dir = k := by
            refine fidx_hit (x := x) (by rw [List.getElem?_set_self hk]) (lead_ky.2 ⟨hu, rfl⟩) fun j y hj hy => ?_
            rw [List.getElem?_set_ne (by omega)] at hy
            exact hno y (List.mem_of_getElem? hy)
          unfold findP
          rw [hsl, if_neg (by omega), Int.toNat_natCast]
          have : ee (l.set k x) k = x := by
            unfold ee
            rw [List.getElem?_set_self hk]
            rfl
          rw [this]
        · unfold cE
          rw [List.countP_set (h := hk)]
          simp only [hku', hu]
          simp
    · exact .inl ⟨hs, by rw [if_neg hs]⟩
theorem close_step (l : List Ex) (a b d : Int) (h : exq [] l = true) :
    (slE l a b d = -1 ∧ closeP l a b d = ([], 3)) ∨ (∃ k : Nat, slE l a b d = k ∧ k < l.length ∧ closeP l a b d = (l.set k zex, 0) ∧ exq [] (l.set k zex) = true ∧ cE (l.set k zex) = cE l - 1) := by
  unfold closeP
  rw [if_neg (by rw [h]; decide)]
  rcases slE_cases l a b d with hs | ⟨k, hs, hk, hl⟩
  · exact .inl ⟨hs, by rw [if_pos hs]⟩
  · right
    refine ⟨k, hs, hk, ?_, ?_, ?_⟩
    · rw [hs, if_neg (by omega), Int.toNat_natCast]
    · exact exq_set h k zex (by decide) (fun hu => by cases hu)
    · have hu := (lead_ky.1 hl).1
      rw [ee_lt hk] at hu
      have hpos : 0 < l.countP fun x => x.used := List.countP_pos_iff.2 ⟨_, List.getElem_mem hk, hu⟩
      unfold cE
      rw [List.countP_set (h := hk)]
      simp only [hu]
      simp [zex]
      omega
end Go.Proofs.Ytaolallfmjjoeaa.RM
