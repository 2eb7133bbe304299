/-
  A realm, ranks and acts that came in, as they are read.
  Conditions: none beyond those that each lemma names.
-/
import Derived.Test.YtmegdgeiikhflaaGreatHC
import Derived.Deep.Slices
import Derived.Deep.Fields
import Derived.Lib.SmallJoins
import Derived.OpenShut
namespace Go.Proofs.YtmegdgeiikhflaaGreat.HO
set_option maxRecDepth 100000
open Go.ChangeShapes Go.WideShapes Go.ChangeAt Go.Deep Go.Joins
open Go Go.RowKit Go.Lib Go.Proofs.YtmegdgeiikhflaaGreat Go.Proofs.YtmegdgeiikhflaaGreat.Facts Go.Proofs.YtmegdgeiikhflaaGreat.Plain Go.Proofs.YtmegdgeiikhflaaGreat.Ints Go.Proofs.YtmegdgeiikhflaaGreat.RRows Go.Proofs.YtmegdgeiikhflaaGreat.LBox Go.Proofs.YtmegdgeiikhflaaGreat.RSmall Go.Proofs.YtmegdgeiikhflaaGreat.RFind Go.Proofs.YtmegdgeiikhflaaGreat.RAll Go.Proofs.YtmegdgeiikhflaaGreat.RRules Go.Proofs.YtmegdgeiikhflaaGreat.RRule3 Go.Proofs.YtmegdgeiikhflaaGreat.RRight Go.Proofs.YtmegdgeiikhflaaGreat.HA Go.Proofs.YtmegdgeiikhflaaGreat.HB Go.Proofs.YtmegdgeiikhflaaGreat.HG Go.Proofs.YtmegdgeiikhflaaGreat.HC

theorem add_off (ad : Addr) (m k : Nat) : (ad.add m).add k = ad.add (m + k) := Go.Deep.add_add ..
theorem rw_of {α : Type} {f : α → List Value} {n : Nat} (hf : ∀ x, (f x).length = n) {w : World} {ad : Addr} {c : Nat} (l : List α) (hl : l.length ≤ c) (hc : c ≤ maxLen) (h : ∀ (i : Nat) x, l[i]? = some x → ∀ (k : Nat) u, (f x)[k]? = some u → w.cell? (ad.add (i * n + k)) = some u) : Rw w (.slice (some ad) l.length c) l.length (l.flatMap f) := by
  refine ⟨some ad, c, rfl, hl, hc, (fun h => by cases h), fun ad' ha j u hu => ?_⟩
  cases ha
  have hj := (List.getElem?_eq_some_iff.1 hu).1
  rw [flat_len f n hf] at hj
  have hn : 0 < n := by
    rcases Nat.eq_zero_or_pos n with rfl | h0
    · omega
    · exact h0
  have hi : j / n < l.length := by rw [Nat.div_lt_iff_lt_mul hn]; exact hj
  have e : j = j / n * n + j % n := by rw [Nat.mul_comm]; exact (Nat.div_add_mod j n).symm
  have hk : j % n < n := Nat.mod_lt _ hn
  have hx : l[j / n]? = some l[j / n] := List.getElem?_eq_getElem hi
  rw [e]
  refine h _ _ hx _ u ?_
  rw [← flat_get f n hf l _ _ _ hx hk, ← e]
  exact hu
section
variable {H : Type} {enc : TypeId × Value → H} {w : World} {r : Reach} {b0 : Nat} {v : Value} {d : DataW H} {p : List MemPlace}
abbrev TR (enc : TypeId × Value → H) (w : World) (n : Nat) (t : TypeId) (cs : List Value) (y : DataW H × List MemPlace) : Prop := DataW.trod enc Tryz.prog w 0 (fun _ => true) true n t cs = some y
theorem open_row {α : Type} [Inhabited α] {f : α → List Value} {n : Nat} {t e : TypeId} {P : α → Prop} (hf : ∀ x, (f x).length = n) (ht : Tryz.prog.underlying t = some (.slice e)) (hc : Tryz.prog.cellsOf e = n) (hel : ∀ n' cs' y, TR enc w n' e cs' y → ∃ x, cs' = f x ∧ P x) {fuel : Nat} {y : DataW H × List MemPlace} (h : TR enc w fuel t [v] y) : ∃ l : List α, Rw w v l.length (l.flatMap f) ∧ ∀ x ∈ l, P x := by
  rcases Go.Deep.open_slice ht h with ⟨hcs, hx⟩ | ⟨a, len, cap, m, n1, D, Pl, hcs, _, hlc, hm, hmm, hx, hi⟩
  · simp only [List.cons.injEq, and_true] at hcs
    subst hcs
    exact ⟨[], rw_none w, fun x hx => by cases hx⟩
  · simp only [List.cons.injEq, and_true] at hcs
    subst hcs
    simp only [if_true] at hmm
    have each : ∀ i, i < len → ∃ x : α, (∀ (k : Nat) u, (f x)[k]? = some u → w.cell? (a.add (i * n + k)) = some u) ∧ P x := fun i hil => by
      obtain ⟨cs', hcl, ht'⟩ := hi i (by omega)
      obtain ⟨x, rfl, hp⟩ := hel _ _ _ ht'
      rw [hc] at hcl
      obtain ⟨_, hlen, hat⟩ := World.cells?_some hcl
      refine ⟨x, fun k u hu => ?_, hp⟩
      have hk := (List.getElem?_eq_some_iff.1 hu).1
      have := hat k (by rw [hf] at hk; exact hk)
      rw [add_off] at this
      exact this.trans hu
    obtain ⟨g, hg⟩ := choose_lt each
    have hlen : ((List.range len).map g).length = len := by simp
    refine ⟨(List.range len).map g, ?_, fun x hx => ?_⟩
    · have := rw_of (w := w) (ad := a) (c := cap) hf ((List.range len).map g) (by rw [hlen]; exact hlc) hm fun i x hx k u hu => by
        have hil : i < len := by
          have := (List.getElem?_eq_some_iff.1 hx).1
          rwa [hlen] at this
        simp [hil] at hx
        subst hx
        exact (hg i hil).1 k u hu
      rw [hlen] at this ⊢
      exact this
    · obtain ⟨i, hi', rfl⟩ := List.mem_map.1 hx
      exact (hg i (List.mem_range.1 hi')).2
theorem fields {t : TypeId} {fs : Array Field} {n' : Nat} {cs' : List Value} {y : DataW H × List MemPlace} (hs : Tryz.prog.underlying t = some (.struct fs)) (hone : oneCellFields Tryz.prog fs = true) (hC : Tryz.prog.cellsOf t = fs.size) (h : TR enc w n' t cs' y) : cs'.length = fs.size ∧ ∀ i (hi : i < fs.size) c, cs'[i]? = some c → ∃ n y', TR enc w n (fs[i]).type [c] y' := by
  obtain ⟨xs, n, _, _, hl, hlen, hf⟩ := DataW.trod_struct hs h
  refine ⟨hl.trans hC, fun i hi c hc => ?_⟩
  obtain ⟨ho, hk⟩ := hone_of hone i (fs[i]) (Array.getElem?_eq_getElem hi)
  have h1 := hf i (fs[i]) (Array.getElem?_eq_getElem hi)
  rw [ho, hk] at h1
  have hcs : (cs'.drop i).take 1 = [c] := by
    have hi' := (List.getElem?_eq_some_iff.1 hc)
    obtain ⟨hlt, he⟩ := hi'
    rw [List.drop_eq_getElem_cons hlt, he]
    rfl
  rw [hcs] at h1
  exact ⟨n, xs[i]'(by rw [hlen]; exact hi), h1.trans (List.getElem?_eq_getElem _)⟩
theorem el_int {n' : Nat} {c : Value} {y : DataW H × List MemPlace} (h : TR enc w n' 3 [c] y) : ∃ z, c = .int .i64 z ∧ -9223372036854775808 ≤ z ∧ z ≤ 9223372036854775807 := by
  obtain ⟨z, e, _, wf⟩ := DataW.trod_int Tryz.underlying3 h
  cases e
  have : -9223372036854775808 ≤ z ∧ z ≤ 9223372036854775807 := by simpa [Lit.wf, IntKind.min, IntKind.max, IntKind.signed, IntKind.bits] using wf
  exact ⟨z, rfl, this⟩
theorem el_word {n' : Nat} {c : Value} {y : DataW H × List MemPlace} (h : TR enc w n' 29 [c] y) : ∃ z : BitVec 64, c = .int .u64 (z.toNat : Int) := by
  obtain ⟨z, e, _, wf⟩ := DataW.trod_int Tryz.underlying29 h
  cases e
  have hw : 0 ≤ z ∧ z ≤ 18446744073709551615 := by simpa [Lit.wf, IntKind.min, IntKind.max, IntKind.signed, IntKind.bits] using wf
  refine ⟨BitVec.ofNat 64 z.toNat, ?_⟩
  rw [BitVec.toNat_ofNat, Nat.mod_eq_of_lt (by omega)]
  congr 1
  omega
theorem el_text {n' : Nat} {c : Value} {y : DataW H × List MemPlace} (h : TR enc w n' 9 [c] y) : ∃ s : ByteArray, c = .string s ∧ s.size ≤ 9223372036854775807 := by
  obtain ⟨s, e, _, hs⟩ := DataW.trod_string Tryz.underlying9 h
  cases e
  exact ⟨s, rfl, by unfold maxLen at hs; omega⟩
theorem el_bool {n' : Nat} {c : Value} {y : DataW H × List MemPlace} (h : TR enc w n' 4 [c] y) : ∃ b, c = .bool b := by
  obtain ⟨b, e, _⟩ := DataW.trod_bool Tryz.underlying4 h
  cases e
  exact ⟨b, rfl⟩
theorem list2 {l : List Value} (h : l.length = 2) : ∃ a b, l = [a, b] := by
  match l, h with | [a, b], _ => exact ⟨a, b, rfl⟩
theorem list4 {l : List Value} (h : l.length = 4) : ∃ a b c d, l = [a, b, c, d] := by
  match l, h with | [a, b, c, d], _ => exact ⟨a, b, c, d, rfl⟩
theorem list6 {l : List Value} (h : l.length = 6) : ∃ a b c d e f, l = [a, b, c, d, e, f] := by
  match l, h with | [a, b, c, d, e, f], _ => exact ⟨a, b, c, d, e, f, rfl⟩
theorem list9 {l : List Value} (h : l.length = 9) : ∃ a b c d e f g i j, l = [a, b, c, d, e, f, g, i, j] := by
  match l, h with | [a, b, c, d, e, f, g, i, j], _ => exact ⟨a, b, c, d, e, f, g, i, j, rfl⟩
theorem open_ints' {fuel : Nat} {y : DataW H × List MemPlace} (h : TR enc w fuel 23 [v] y) : ∃ l, Is w v l ∧ ∀ x ∈ l, -9223372036854775808 ≤ x ∧ x ≤ 9223372036854775807 := by
  obtain ⟨l, hr, hp⟩ := open_row (f := fun x : Int => [Value.int .i64 x]) (n := 1) (e := 3) (P := fun x => -9223372036854775808 ≤ x ∧ x ≤ 9223372036854775807) (fun _ => rfl) Tryz.underlying23 (by kernel_rfl) (fun n' cs' y h => by
    obtain ⟨z, e, _, wf⟩ := DataW.trod_int Tryz.underlying3 h
    exact ⟨z, e, by simpa [Lit.wf, IntKind.min, IntKind.max, IntKind.signed, IntKind.bits] using wf⟩) h
  obtain ⟨A, c, rfl, h1, h2, h3, h4⟩ := hr
  refine ⟨l, ⟨A, c, rfl, h1, h2, h3, fun ad ha j u hu => h4 ad ha j u ?_⟩, hp⟩
  rw [← hu]
  unfold iv
  rw [show (l.flatMap fun x => [Value.int IntKind.i64 x]) = l.map (Value.int IntKind.i64) from (List.map_eq_flatMap ..).symm]
theorem open_ranks {fuel : Nat} {y : DataW H × List MemPlace} (h : TR enc w fuel 53 [v] y) : ∃ R, RK w v R := by
  obtain ⟨l, hr, hp⟩ := open_row (α := Value × List Int) (f := fun x => [x.1]) (n := 1) (e := 23) (P := fun x => Is w x.1 x.2) (fun _ => rfl) Tryz.underlying53 (by kernel_rfl) (fun n' cs' y h => by
    rcases Go.Deep.open_slice Tryz.underlying23 h with ⟨hcs, _⟩ | ⟨a, len, cap, m, n1, D, Pl, hcs, _⟩
    · subst hcs
      obtain ⟨l, hl, _⟩ := open_ints' h
      exact ⟨(_, l), rfl, hl⟩
    · subst hcs
      obtain ⟨l, hl, _⟩ := open_ints' h
      exact ⟨(_, l), rfl, hl⟩) h
  obtain ⟨A, c, rfl, h1, h2, h3, h4⟩ := hr
  refine ⟨l.map (·.2), A, c, by rw [List.length_map], by rw [List.length_map]; exact h1, h2, h3, fun ad ha j row hrow => ?_⟩
  rw [List.getElem?_map] at hrow
  obtain ⟨x, hx, rfl⟩ := Option.map_eq_some_iff.1 hrow
  refine ⟨x.1, h4 ad ha j x.1 ?_, hp x (List.mem_of_getElem? hx)⟩
  have := flat_get (fun x : Value × List Int => [x.1]) 1 (fun _ => rfl) l j 0 x hx (by omega)
  simpa using this
theorem open_labels {fuel : Nat} {y : DataW H × List MemPlace} (h : TR enc w fuel 22 [v] y) : ∃ l, Ls w v l := by
  haveI : Inhabited La := ⟨⟨0, 0#64⟩⟩
  obtain ⟨l, hr, _⟩ := open_row (α := La) (f := lcs) (n := 2) (e := 31) (P := fun _ => True) (fun _ => rfl) Tryz.underlying22 (by kernel_rfl) (fun n' cs' y h => by
    obtain ⟨hl, hf⟩ := fields Tryz.underlying31 (by kernel_rfl) (by kernel_rfl) h
    obtain ⟨a, b, rfl⟩ := list2 hl
    obtain ⟨_, _, g0⟩ := hf 0 (by decide) a rfl
    obtain ⟨_, _, g1⟩ := hf 1 (by decide) b rfl
    obtain ⟨z0, rfl, _⟩ := el_int g0
    obtain ⟨z1, rfl⟩ := el_word g1
    exact ⟨⟨z0, z1⟩, rfl, trivial⟩) h
  exact ⟨l, hr⟩
theorem open_accounts {fuel : Nat} {y : DataW H × List MemPlace} (h : TR enc w fuel 24 [v] y) : ∃ l, As w v l ∧ ∀ x ∈ l, x.name.size ≤ 9223372036854775807 ∧ x.secret.size ≤ 9223372036854775807 := by
  haveI : Inhabited Ac := ⟨⟨⟨#[]⟩, ⟨#[]⟩, 0, false⟩⟩
  obtain ⟨l, hr, hp⟩ := open_row (α := Ac) (f := acs) (n := 4) (e := 88) (P := fun x => x.name.size ≤ 9223372036854775807 ∧ x.secret.size ≤ 9223372036854775807) (fun _ => rfl) Tryz.underlying24 (by kernel_rfl) (fun n' cs' y h => by
    obtain ⟨hl, hf⟩ := fields Tryz.underlying88 (by kernel_rfl) (by kernel_rfl) h
    obtain ⟨a, b, c, d, rfl⟩ := list4 hl
    obtain ⟨_, _, g0⟩ := hf 0 (by decide) a rfl
    obtain ⟨_, _, g1⟩ := hf 1 (by decide) b rfl
    obtain ⟨_, _, g2⟩ := hf 2 (by decide) c rfl
    obtain ⟨_, _, g3⟩ := hf 3 (by decide) d rfl
    obtain ⟨z0, rfl, s0⟩ := el_text g0
    obtain ⟨z1, rfl, s1⟩ := el_text g1
    obtain ⟨z2, rfl, _⟩ := el_int g2
    obtain ⟨z3, rfl⟩ := el_bool g3
    exact ⟨⟨z0, z1, z2, z3⟩, rfl, s0, s1⟩) h
  exact ⟨l, hr, hp⟩
theorem open_guilds {fuel : Nat} {y : DataW H × List MemPlace} (h : TR enc w fuel 25 [v] y) : ∃ l, Gs w v l := by
  haveI : Inhabited Gu := ⟨⟨0, 0⟩⟩
  obtain ⟨l, hr, _⟩ := open_row (α := Gu) (f := gcs) (n := 2) (e := 52) (P := fun _ => True) (fun _ => rfl) Tryz.underlying25 (by kernel_rfl) (fun n' cs' y h => by
    obtain ⟨hl, hf⟩ := fields Tryz.underlying52 (by kernel_rfl) (by kernel_rfl) h
    obtain ⟨a, b, rfl⟩ := list2 hl
    obtain ⟨_, _, g0⟩ := hf 0 (by decide) a rfl
    obtain ⟨_, _, g1⟩ := hf 1 (by decide) b rfl
    obtain ⟨z0, rfl, _⟩ := el_int g0
    obtain ⟨z1, rfl, _⟩ := el_int g1
    exact ⟨⟨z0, z1⟩, rfl, trivial⟩) h
  exact ⟨l, hr⟩
theorem open_quotas {fuel : Nat} {y : DataW H × List MemPlace} (h : TR enc w fuel 26 [v] y) : ∃ l, Qs w v l := by
  haveI : Inhabited Qu := ⟨⟨0, 0, 0, 0, 0, 0#64⟩⟩
  obtain ⟨l, hr, _⟩ := open_row (α := Qu) (f := qcs) (n := 6) (e := 100) (P := fun _ => True) (fun _ => rfl) Tryz.underlying26 (by kernel_rfl) (fun n' cs' y h => by
    obtain ⟨hl, hf⟩ := fields Tryz.underlying100 (by kernel_rfl) (by kernel_rfl) h
    obtain ⟨a, b, c, d, e, f, rfl⟩ := list6 hl
    obtain ⟨_, _, g0⟩ := hf 0 (by decide) a rfl
    obtain ⟨_, _, g1⟩ := hf 1 (by decide) b rfl
    obtain ⟨_, _, g2⟩ := hf 2 (by decide) c rfl
    obtain ⟨_, _, g3⟩ := hf 3 (by decide) d rfl
    obtain ⟨_, _, g4⟩ := hf 4 (by decide) e rfl
    obtain ⟨_, _, g5⟩ := hf 5 (by decide) f rfl
    obtain ⟨z0, rfl, _⟩ := el_int g0
    obtain ⟨z1, rfl, _⟩ := el_int g1
    obtain ⟨z2, rfl, _⟩ := el_int g2
    obtain ⟨z3, rfl, _⟩ := el_int g3
    obtain ⟨z4, rfl, _⟩ := el_int g4
    obtain ⟨z5, rfl⟩ := el_word g5
    exact ⟨⟨z0, z1, z2, z3, z4, z5⟩, rfl, trivial⟩) h
  exact ⟨l, hr⟩
theorem open_realm (hv : Value.okWide Tryz.prog w r b0 28 v) (h : DataW.Trod enc Tryz.prog w 0 (fun _ => true) true 28 v d p) : ∃ R : Re, ReIs w v R ∧ Sized R := by
  obtain ⟨cs, rfl, hsz⟩ := okWide_struct Tryz.underlying28 hv
  obtain ⟨fuel, hf⟩ := h
  obtain ⟨hl, hg⟩ := fields Tryz.underlying28 (by kernel_rfl) (by kernel_rfl) (show TR enc w fuel 28 _ _ from hf)
  obtain ⟨cs⟩ := cs
  simp only [Value.cells] at hl hg
  obtain ⟨c0, c1, c2, c3, c4, c5, c6, c7, c8, rfl⟩ := list9 hl
  obtain ⟨_, _, g0⟩ := hg 0 (by decide) c0 rfl
  obtain ⟨_, _, g1⟩ := hg 1 (by decide) c1 rfl
  obtain ⟨_, _, g2⟩ := hg 2 (by decide) c2 rfl
  obtain ⟨_, _, g3⟩ := hg 3 (by decide) c3 rfl
  obtain ⟨_, _, g4⟩ := hg 4 (by decide) c4 rfl
  obtain ⟨_, _, g5⟩ := hg 5 (by decide) c5 rfl
  obtain ⟨_, _, g6⟩ := hg 6 (by decide) c6 rfl
  obtain ⟨_, _, g7⟩ := hg 7 (by decide) c7 rfl
  obtain ⟨_, _, g8⟩ := hg 8 (by decide) c8 rfl
  obtain ⟨l0, h0⟩ := open_labels g0
  obtain ⟨l1, h1, _⟩ := open_ints' g1
  obtain ⟨l2, h2, hs⟩ := open_accounts g2
  obtain ⟨l3, h3⟩ := open_guilds g3
  obtain ⟨l4, h4⟩ := open_quotas g4
  obtain ⟨z5, rfl, _⟩ := el_int g5
  obtain ⟨z6, rfl, _⟩ := el_int g6
  obtain ⟨z7, rfl, _⟩ := el_int g7
  obtain ⟨z8, rfl, _⟩ := el_int g8
  exact ⟨⟨l0, l1, l2, l3, l4, z5, z6, z7, z8⟩, ⟨_, _, _, _, _, rfl, h0, h1, h2, h3, h4⟩, hs⟩
theorem open_ranks' (hv : Value.okWide Tryz.prog w r b0 53 v) (h : DataW.Trod enc Tryz.prog w 0 (fun _ => true) true 53 v d p) : ∃ R, RK w v R := by
  obtain ⟨A, n, c, rfl⟩ := okWide_slice Tryz.underlying53 hv
  obtain ⟨fuel, hf⟩ := h
  exact open_ranks hf
end
end Go.Proofs.YtmegdgeiikhflaaGreat.HO
