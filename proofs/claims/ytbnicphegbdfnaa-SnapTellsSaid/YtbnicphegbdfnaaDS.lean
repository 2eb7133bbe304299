/-
  A disk, and rows of bytes that are kept beside it.
  Conditions: those that each lemma names.
-/
import Derived.Test.YtbnicphegbdfnaaAB
import Derived.Test.YtbnicphegbdfnaaJG
namespace Go.Proofs.Ytbnicphegbdfnaa.DS
set_option maxRecDepth 100000
open Go Go.RowKit Go.Proofs.Ytbnicphegbdfnaa Go.Proofs.Ytbnicphegbdfnaa.Facts Go.Proofs.Ytbnicphegbdfnaa.Bytes Go.Proofs.Ytbnicphegbdfnaa.DKeep Go.Proofs.Ytbnicphegbdfnaa.DSmall Go.Proofs.Ytbnicphegbdfnaa.Puts Go.Proofs.Ytbnicphegbdfnaa.SPure Go.Proofs.Ytbnicphegbdfnaa.JA Go.Proofs.Ytbnicphegbdfnaa.JD Go.Proofs.Ytbnicphegbdfnaa.AP Go.Proofs.Ytbnicphegbdfnaa.AQ Go.Proofs.Ytbnicphegbdfnaa.AA Go.Proofs.Ytbnicphegbdfnaa.AW Go.Proofs.Ytbnicphegbdfnaa.AV Go.Proofs.Ytbnicphegbdfnaa.AC

/-- What is kept beside a disk: a row of bytes, or a block. -/
inductive Cont where
  | bytes (l : List UInt8)
  | blk (b : Nat) (o : Obj)
instance : Coe (List UInt8) Cont := ⟨Cont.bytes⟩
/-- Block b is kept. -/
def BL (V : List (Value × Cont)) (b : Nat) : Prop := ∃ x o, (x, Cont.blk b o) ∈ V
theorem BL.sub {V V' : List (Value × Cont)} (hs : ∀ p ∈ V', p ∈ V) {b : Nat} (h : BL V' b) : BL V b := by
  obtain ⟨x, o, h⟩ := h
  exact ⟨x, o, hs _ h⟩
/-- A disk, and what is kept beside it. -/
structure DSD (w : World) (g : Nat) (d : Pd) (V : List (Value × Cont)) (y : World) (D : Nat → Prop) : Prop where
  dk : DK y g D d
  ab : DAlive.Above D w.heap.size
  gr : Grew w y
  row : ∀ v l, (v, Cont.bytes l) ∈ V → ∃ S, Rd S y v l ∧ ∀ b, S b → b < y.heap.size ∧ ¬ D b ∧ ¬ BL V b
  blk : ∀ x b o, (x, Cont.blk b o) ∈ V → y.heap[b]? = some o ∧ ¬ D b ∧ w.heap.size ≤ b
def DS (w : World) (g : Nat) (d : Pd) (V : List (Value × Cont)) (y : World) : Prop := ∃ D, DSD w g d V y D
section
variable {w y z : World} {g : Nat} {d : Pd} {V : List (Value × Cont)}
theorem DS.start {w1 : World} (h : DK w1 g (fun k => w.heap.size ≤ k ∧ k < w1.heap.size) d) (hg : Grew w w1) : DS w g d [] w1 := ⟨_, h, fun k hk => hk.1, hg, (fun v l hp => by cases hp), (fun x b o hp => by cases hp)⟩
theorem DS.gr (h : DS w g d V y) : Grew w y := by
  obtain ⟨D, h⟩ := h
  exact h.gr
theorem DSD.grew {D : Nat → Prop} (h : DSD w g d V y D) (hg : Grew y z) : DSD w g d V z D := by
  refine ⟨h.dk.grew hg, h.ab, h.gr.trans hg, fun v l hp => ?_, fun x b o hp => ?_⟩
  · obtain ⟨S, k1, k2⟩ := h.row v l hp
    exact ⟨S, k1.grew hg, fun b hb => ⟨Nat.lt_of_lt_of_le (k2 b hb).1 hg.size, (k2 b hb).2⟩⟩
  · obtain ⟨k1, k2⟩ := h.blk x b o hp
    exact ⟨(hg.block b (Array.getElem?_eq_some_iff.1 k1).1).trans k1, k2⟩
theorem DS.grew (h : DS w g d V y) (hg : Grew y z) : DS w g d V z := by
  obtain ⟨D, h⟩ := h
  exact ⟨D, h.grew hg⟩
theorem DS.rd (h : DS w g d V y) {v : Value} {l : List UInt8} (hp : (v, Cont.bytes l) ∈ V) : Rd (fun _ => True) y v l := by
  obtain ⟨D, h⟩ := h
  obtain ⟨S, k1, k2⟩ := h.row v l hp
  exact k1.mono fun _ _ => trivial
theorem DS.at_ (h : DS w g d V y) {x : Value} {b : Nat} {o : Obj} (hp : (x, Cont.blk b o) ∈ V) : y.heap[b]? = some o := by
  obtain ⟨D, h⟩ := h
  exact (h.blk x b o hp).1
theorem DS.sub {V' : List (Value × Cont)} (h : DS w g d V y) (hs : ∀ p ∈ V', p ∈ V) : DS w g d V' y := by
  obtain ⟨D, h⟩ := h
  refine ⟨D, h.dk, h.ab, h.gr, fun v l hp => ?_, fun x b o hp => h.blk x b o (hs _ hp)⟩
  obtain ⟨S, k1, k2⟩ := h.row v l (hs _ hp)
  exact ⟨S, k1, fun b hb => ⟨(k2 b hb).1, (k2 b hb).2.1, fun hbl => (k2 b hb).2.2 (hbl.sub hs)⟩⟩
theorem bl_row {V : List (Value × Cont)} {v : Value} {l : List UInt8} {b : Nat} (h : BL ((v, Cont.bytes l) :: V) b) : BL V b := by
  obtain ⟨x, o, h⟩ := h
  rcases List.mem_cons.1 h with h | h
  · cases h
  · exact ⟨x, o, h⟩
theorem DSD.bl_lt {D : Nat → Prop} (h : DSD w g d V y D) {b : Nat} (hb : BL V b) : b < y.heap.size ∧ w.heap.size ≤ b := by
  obtain ⟨x, o, hb⟩ := hb
  have := h.blk x b o hb
  exact ⟨(Array.getElem?_eq_some_iff.1 this.1).1, this.2.2⟩
theorem DS.add (h : DS w g d V y) (hg : Grew y z) {v : Value} {l : List UInt8} (hr : Rd (fun b => y.heap.size ≤ b) z v l) : DS w g d ((v, l) :: V) z := by
  obtain ⟨D, h⟩ := h
  have h2 := h.grew hg
  refine ⟨D, h2.dk, h2.ab, h2.gr, fun v' l' hp => ?_, fun x b o hp => ?_⟩
  · rcases List.mem_cons.1 hp with hp | hp
    · injection hp with e1 e2
      injection e2 with e2
      subst e1 e2
      exact ⟨_, hr.lt, fun b hb => ⟨hb.2, (fun hd => by have := h.dk.1 b hd; omega), fun hbl => by have := (h.bl_lt (bl_row hbl)).1; omega⟩⟩
    · obtain ⟨S, k1, k2⟩ := h2.row v' l' hp
      exact ⟨S, k1, fun b hb => ⟨(k2 b hb).1, (k2 b hb).2.1, fun hbl => (k2 b hb).2.2 (bl_row hbl)⟩⟩
  · rcases List.mem_cons.1 hp with hp | hp
    · cases hp
    · exact h2.blk x b o hp
theorem DS.arg (h : DS w g d V y) {v : Value} {l : List UInt8} (hr : Rd (fun b => b < w.heap.size) w v l) : DS w g d ((v, l) :: V) y := by
  obtain ⟨D, h⟩ := h
  refine ⟨D, h.dk, h.ab, h.gr, fun v' l' hp => ?_, fun x b o hp => ?_⟩
  · rcases List.mem_cons.1 hp with hp | hp
    · injection hp with e1 e2
      injection e2 with e2
      subst e1 e2
      exact ⟨_, hr.grew h.gr, fun b hb => ⟨Nat.lt_of_lt_of_le hb h.gr.size, (fun hd => by have := h.ab b hd; omega), fun hbl => by have := (h.bl_lt (bl_row hbl)).2; omega⟩⟩
    · obtain ⟨S, k1, k2⟩ := h.row v' l' hp
      exact ⟨S, k1, fun b hb => ⟨(k2 b hb).1, (k2 b hb).2.1, fun hbl => (k2 b hb).2.2 (bl_row hbl)⟩⟩
  · rcases List.mem_cons.1 hp with hp | hp
    · cases hp
    · exact h.blk x b o hp
theorem bl_cons {V : List (Value × Cont)} {x : Value} {c : Nat} {o : Obj} {b : Nat} (h : BL ((x, Cont.blk c o) :: V) b) : b = c ∨ BL V b := by
  obtain ⟨x', o', h⟩ := h
  rcases List.mem_cons.1 h with h | h
  · injection h with _ h
    injection h with h _
    exact .inl h
  · exact .inr ⟨x', o', h⟩
/-- A new block is kept, too. -/
theorem DS.new (h : DS w g d V y) (hg : Grew y z) (x : Value) {b : Nat} {o : Obj} (hb : y.heap.size ≤ b) (ho : z.heap[b]? = some o) : DS w g d ((x, Cont.blk b o) :: V) z := by
  obtain ⟨D, h⟩ := h
  have h2 := h.grew hg
  refine ⟨D, h2.dk, h2.ab, h2.gr, fun v' l' hp => ?_, fun x' b' o' hp => ?_⟩
  · rcases List.mem_cons.1 hp with hp | hp
    · cases hp
    · obtain ⟨S, k1, k2⟩ := h.row v' l' hp
      refine ⟨S, k1.grew hg, fun c hc => ⟨Nat.lt_of_lt_of_le (k2 c hc).1 hg.size, (k2 c hc).2.1, fun hbl => ?_⟩⟩
      rcases bl_cons hbl with e | e
      · have := (k2 c hc).1; omega
      · exact (k2 c hc).2.2 e
  · rcases List.mem_cons.1 hp with hp | hp
    · injection hp with _ hp
      injection hp with e1 e2
      subst e1 e2
      exact ⟨ho, fun hd => by have := h.dk.1 _ hd; omega, Nat.le_trans h.gr.size hb⟩
    · exact h2.blk x' b' o' hp
/-- A call that turns the disk, and block c alone. -/
theorem DS.turnB' {d' : Pd} {x : Value} {c : Nat} {o o' : Obj} {D D' : Nat → Prop} (h : DSD w g d ((x, Cont.blk c o) :: V) y D) (hn : ¬ BL V c) (k1 : DK z g D' d') (k2 : ∀ k, D' k → D k ∨ y.heap.size ≤ k) (k3 : Kept (fun k => D k ∨ k = c) y z) (ho : z.heap[c]? = some o') : DS w g d' ((x, Cont.blk c o') :: V) z := by
  have hc := h.blk x c o (List.mem_cons_self ..)
  refine ⟨D', k1, DAlive.above_sub h.ab k2 h.gr.size, DAlive.grew_kept h.gr k3 (fun k hk => by rcases hk with hk | rfl; exact h.ab k hk; exact hc.2.2), fun v l hp => ?_, fun x' b' o2 hp => ?_⟩
  · rcases List.mem_cons.1 hp with hp | hp
    · cases hp
    · obtain ⟨S, r1, r2⟩ := h.row v l (List.mem_cons_of_mem _ hp)
      have hne : ∀ b, S b → b ≠ c := fun b hS e => (r2 b hS).2.2 ⟨x, o, by rw [e]; exact List.mem_cons_self ..⟩
      refine ⟨S, r1.keep fun b hb hS => k3.block b hb (fun hd => hd.elim (r2 b hS).2.1 (hne b hS)), fun b hb => ⟨Nat.lt_of_lt_of_le (r2 b hb).1 k3.size, fun hd => ?_, fun hbl => ?_⟩⟩
      · rcases k2 b hd with q | q
        · exact (r2 b hb).2.1 q
        · have := (r2 b hb).1; omega
      · rcases bl_cons hbl with e | e
        · exact hne b hb e
        · exact (r2 b hb).2.2 (e.sub fun p hp => List.mem_cons_of_mem _ hp)
  · have hnd : ∀ b, b < y.heap.size → ¬ D b → ¬ D' b := fun b hb hd hd' => by
      rcases k2 b hd' with q | q
      · exact hd q
      · omega
    rcases List.mem_cons.1 hp with hp | hp
    · injection hp with _ hp
      injection hp with e1 e2
      subst e1 e2
      exact ⟨ho, hnd _ (Array.getElem?_eq_some_iff.1 hc.1).1 hc.2.1, hc.2.2⟩
    · have hb := h.blk x' b' o2 (List.mem_cons_of_mem _ hp)
      have hlt := (Array.getElem?_eq_some_iff.1 hb.1).1
      refine ⟨(k3.block b' hlt fun hd => ?_).trans hb.1, hnd b' hlt hb.2.1, hb.2.2⟩
      rcases hd with hd | hd
      · exact hb.2.1 hd
      · exact hn ⟨x', o2, by rw [← hd]; exact hp⟩
theorem DS.turnB {d' : Pd} {x : Value} {c : Nat} {o o' : Obj} (h : DS w g d ((x, Cont.blk c o) :: V) y) (hn : ¬ BL V c) (hz : ∀ D, DSD w g d ((x, Cont.blk c o) :: V) y D → ∃ D', DK z g D' d' ∧ (∀ k, D' k → D k ∨ y.heap.size ≤ k) ∧ Kept (fun k => D k ∨ k = c) y z) (ho : z.heap[c]? = some o') : DS w g d' ((x, Cont.blk c o') :: V) z := by
  obtain ⟨D, h⟩ := h
  obtain ⟨D', k1, k2, k3⟩ := hz D h
  exact DS.turnB' h hn k1 k2 k3 ho
/-- A call that turns the disk alone. -/
theorem DS.turn {d' : Pd} (h : DS w g d V y) {f : Nat} {args : Array Value} {Q : Ending → Prop} (hc : ∀ D, DK y g D d → DAlive.Above D w.heap.size → Calls Try.prog f args y fun e z => Q e ∧ ∃ D', DK z g D' d' ∧ (∀ k, D' k → D k ∨ y.heap.size ≤ k) ∧ Kept D y z) :
    Calls Try.prog f args y fun e z => Q e ∧ DS w g d' V z := by
  obtain ⟨D, h⟩ := h
  refine (hc D h.dk h.ab).mono ?_
  rintro e z ⟨hq, D', k1, k2, k3⟩
  have hnd : ∀ b, b < y.heap.size → ¬ D b → ¬ D' b := fun b hb hd hd' => by
    rcases k2 b hd' with q | q
    · exact hd q
    · omega
  refine ⟨hq, D', k1, DAlive.above_sub h.ab k2 h.gr.size, DAlive.grew_kept h.gr k3 (fun k hk => h.ab k hk), fun v l hp => ?_, fun x b o hp => ?_⟩
  · obtain ⟨S, r1, r2⟩ := h.row v l hp
    exact ⟨S, r1.keep fun b hb hS => k3.block b hb (r2 b hS).2.1, fun b hb => ⟨Nat.lt_of_lt_of_le (r2 b hb).1 k3.size, hnd b (r2 b hb).1 (r2 b hb).2.1, (r2 b hb).2.2⟩⟩
  · have hb := h.blk x b o hp
    have hlt := (Array.getElem?_eq_some_iff.1 hb.1).1
    exact ⟨(k3.block b hlt hb.2.1).trans hb.1, hnd b hlt hb.2.1, hb.2.2⟩
theorem DS.dk (h : DS w g d V y) : ∃ D, DK y g D d := by
  obtain ⟨D, h⟩ := h
  exact ⟨D, h.dk⟩
end
section
variable (w y : World) (g : Nat) (d : Pd) (V : List (Value × Cont))
theorem ds_new (n : Nat) (x : Int) (hx : x = (n : Int)) (h1 : 1 ≤ n) (h2 : n ≤ 16384) : Calls Try.prog 12 #[.int .i64 x] w fun e z => ∃ g, e = .returned (.tuple #[.pointer (some ⟨g, 0, none⟩), .int .i64 0]) ∧ DS w g (DNew.fresh n) [] z := by
  refine (DAlive.new_eq n x hx w h1 h2).mono ?_
  rintro e z ⟨g, rfl, hd, hg⟩
  exact ⟨g, rfl, DS.start hd hg⟩
theorem ds_awrite (h : DS w g d V y) (first m st : Nat) (x0 x1 x2 : Int) (hx0 : x0 = (first : Int)) (hx1 : x1 = (m : Int)) (hx2 : x2 = (st : Int)) (S : Nat → Prop) (v : Value) (b : List UInt8) (d' : Pd) (q : Int) (hr : Rd S y v b) (hq : arefus d (first : Int) (m : Int) = 0) (hs : may st = true) (hb : b.length + 4 ≤ 108 * m) (hw : d.waits.length ≤ 1000000000) (he : gw first (fun _ => st) m 0 (recB b) d = (d', q)) :
    Calls Try.prog 13 #[.pointer (some ⟨g, 0, none⟩), .int .i64 x0, .int .i64 x1, .int .u64 x2, v] y fun e z => e = .returned (.int .i64 q) ∧ DS w g d' V z := by
  subst hx0 hx1 hx2
  refine h.turn (Q := fun e => e = .returned (.int .i64 q)) fun D h1 h2 => ?_
  have := awrite_ok y g D d first m st S v b h1 hr hq hs hb hw
  rw [he] at this
  refine this.mono ?_
  rintro e z ⟨rfl, D', k1, k2, k3, k4⟩
  exact ⟨rfl, D', k1, k2, k3⟩
theorem ds_arefused (h : DS w g d V y) (first many st : Int) (x2 : Nat) (hx2 : st = (x2 : Int)) (A : Option Addr) (n c : Nat) (q : Int) (hm : many ≤ 9223372036854775807) (hq : arefus d first many = q) (h0 : ¬ q = 0) :
    Calls Try.prog 13 #[.pointer (some ⟨g, 0, none⟩), .int .i64 first, .int .i64 many, .int .u64 st, .slice A n c] y fun e z => e = .returned (.int .i64 q) ∧ DS w g d V z := by
  subst hx2
  obtain ⟨D, h1⟩ := h.dk
  refine (AF.awrite_refused y g D d first many x2 A n c q h1 hm hq h0).mono ?_
  rintro e z ⟨rfl, hg⟩
  exact ⟨rfl, h.grew hg⟩
theorem ds_astamp (h : DS w g d V y) (first many st : Int) (x2 : Nat) (hx2 : st = (x2 : Int)) (A : Option Addr) (n c : Nat) (hm : many ≤ 9223372036854775807) (hq : arefus d first many = 0) (hs : may x2 = false) :
    Calls Try.prog 13 #[.pointer (some ⟨g, 0, none⟩), .int .i64 first, .int .i64 many, .int .u64 st, .slice A n c] y fun e z => e = .returned (.int .i64 1) ∧ DS w g d V z := by
  subst hx2
  obtain ⟨D, h1⟩ := h.dk
  refine (AF.awrite_stamp y g D d first many x2 A n c h1 hm hq hs).mono ?_
  rintro e z ⟨rfl, hg⟩
  exact ⟨rfl, h.grew hg⟩
theorem ds_along (h : DS w g d V y) (first many st : Int) (x2 : Nat) (hx2 : st = (x2 : Int)) (A : Option Addr) (n c : Nat) (hm : many ≤ 9223372036854775807) (hq : arefus d first many = 0) (hs : may x2 = true) (hl : JA.room many < (n : Int)) :
    Calls Try.prog 13 #[.pointer (some ⟨g, 0, none⟩), .int .i64 first, .int .i64 many, .int .u64 st, .slice A n c] y fun e z => e = .returned (.int .i64 13) ∧ DS w g d V z := by
  subst hx2
  obtain ⟨D, h1⟩ := h.dk
  refine (AF.awrite_long y g D d first many x2 A n c h1 hm hq hs hl).mono ?_
  rintro e z ⟨rfl, hg⟩
  exact ⟨rfl, h.grew hg⟩
theorem ds_aread (h : DS w g d V y) (first m : Nat) (x0 x1 : Int) (hx0 : x0 = (first : Int)) (hx1 : x1 = (m : Int)) (s : Nat) (b : List UInt8) (q : Int) (hq : arefus d (first : Int) (m : Int) = 0) (he : ard d.last first m = (s, b, q)) :
    Calls Try.prog 17 #[.pointer (some ⟨g, 0, none⟩), .int .i64 x0, .int .i64 x1] y fun e z => ∃ v, e = .returned (.tuple #[.int .u64 (s : Int), v, .int .i64 q]) ∧ DS w g d ((v, b) :: V) z := by
  subst hx0 hx1
  obtain ⟨D, h1⟩ := h.dk
  have := AD.aread_ok y g D d first m h1 hq
  rw [he] at this
  refine this.mono ?_
  rintro e z ⟨v, rfl, hr, hg⟩
  exact ⟨v, rfl, h.add hg hr⟩
theorem ds_anewest (h : DS w g d V y) (first m : Nat) (x0 x1 : Int) (hx0 : x0 = (first : Int)) (hx1 : x1 = (m : Int)) (n : Nat) (hq : arefus d (first : Int) (m : Int) = 0) (hev : ∀ i, i < m → (d.last[first + i]?.getD []).length = 128) (he : anw d.last first m = n) :
    Calls Try.prog 18 #[.pointer (some ⟨g, 0, none⟩), .int .i64 x0, .int .i64 x1] y fun e z => e = .returned (.tuple #[.int .u64 (n : Int), .int .i64 0]) ∧ DS w g d V z := by
  subst hx0 hx1 he
  obtain ⟨D, h1⟩ := h.dk
  refine (AE.anewest_ok y g D d first m h1 hq hev).mono ?_
  rintro e z ⟨rfl, hg⟩
  exact ⟨rfl, h.grew hg⟩
theorem ds_flush (h : DS w g d V y) (d' : Pd) (q : Int) (hw : d.waits.length ≤ 1073741824) (he : DFlush.flushed d = (d', q)) :
    Calls Try.prog 20 #[.pointer (some ⟨g, 0, none⟩)] y fun e z => e = .returned (.int .i64 q) ∧ DS w g d' V z := by
  refine h.turn (Q := fun e => e = .returned (.int .i64 q)) fun D h1 h2 => (DAlive.flush_eq y g D d d' q h1 hw he).mono ?_
  rintro e z ⟨rfl, k1, k2⟩
  exact ⟨rfl, D, k1, fun k hk => .inl hk, k2⟩
theorem ds_crash (h : DS w g d V y) (S : Nat → Prop) (v : Value) (keep : List UInt8) (d' : Pd) (hw : d.waits.length ≤ 1073741824) (hr : Rd S w v keep) (hS : ∀ b, S b → b < w.heap.size) (he : DFlush.crashed d keep = d') :
    Calls Try.prog 21 #[.pointer (some ⟨g, 0, none⟩), v] y fun e z => e = .returned (.int .i64 0) ∧ DS w g d' V z := by
  subst he
  refine h.turn (Q := fun e => e = .returned (.int .i64 0)) fun D h1 h2 => (DFlush.crash_any y g D d S v keep h1 (hr.grew h.gr) (fun b hb hd => by have := h2 b hd; have := hS b hb; omega) hw).mono ?_
  rintro e z ⟨rfl, k1, k2⟩
  exact ⟨rfl, D, k1, fun k hk => .inl hk, k2⟩
theorem ds_fuse (h : DS w g d V y) (n : Int) (d' : Pd) (hn : n ≤ 9223372036854775807) (he : DTurn.fused d n = d') :
    Calls Try.prog 30 #[.pointer (some ⟨g, 0, none⟩), .int .i64 n] y fun e z => e = .returned (.tuple #[]) ∧ DS w g d' V z := by
  subst he
  refine h.turn (Q := fun e => e = .returned (.tuple #[])) fun D h1 h2 => (DTurn.fuse_any y g D d n hn h1).mono ?_
  rintro e z ⟨rfl, k1, k2⟩
  exact ⟨rfl, D, k1, fun k hk => .inl hk, k2⟩
theorem ds_write (h : DS w g d V y) (n : Int) (v : Value) (S : Nat → Prop) (l : Sec) (d' : Pd) (q : Int) (hr : Rd S y v l) (hw : d.waits.length ≤ 1073741823) (he : DWrite.written d n l = (d', q)) :
    Calls Try.prog 32 #[.pointer (some ⟨g, 0, none⟩), .int .i64 n, v] y fun e z => e = .returned (.int .i64 q) ∧ DS w g d' V z := by
  refine h.turn (Q := fun e => e = .returned (.int .i64 q)) fun D h1 h2 => DAlive.write_eq y g D d n v S l d' q h1 hr hw he
theorem ds_waits (h : DS w g d V y) (n : Nat) (he : d.waits.length = n) : Calls Try.prog 15 #[.pointer (some ⟨g, 0, none⟩)] y fun e z => e = .returned (.int .i64 (n : Int)) ∧ y = z := by
  subst he
  obtain ⟨D, h1⟩ := h.dk
  exact DSmall.waits_any y g D d h1
theorem ds_off (h : DS w g d V y) (o : Bool) (he : d.off = o) : Calls Try.prog 45 #[.pointer (some ⟨g, 0, none⟩)] y fun e z => e = .returned (.bool o) ∧ y = z := by
  subst he
  obtain ⟨D, h1⟩ := h.dk
  exact DSmall.off_any y g D d h1
theorem ds_size (h : DS w g d V y) (n : Nat) (he : d.safe.length = n) : Calls Try.prog 100 #[.pointer (some ⟨g, 0, none⟩)] y fun e z => e = .returned (.int .i64 (n : Int)) ∧ y = z := by
  subst he
  obtain ⟨D, h1⟩ := h.dk
  exact DSmall.size_any y g D d h1
theorem ds_read (h : DS w g d V y) (n : Int) (l : Sec) (q : Int) (he : DRead.readOf d n = (l, q)) : Calls Try.prog 19 #[.pointer (some ⟨g, 0, none⟩), .int .i64 n] y fun e z => ∃ v, e = .returned (.tuple #[v, .int .i64 q]) ∧ DS w g d ((v, l) :: V) z := by
  obtain ⟨D, h1⟩ := h.dk
  refine (DAlive.read_eq y g D d n l q h1 he).mono ?_
  rintro e z ⟨v, rfl, hr, hg⟩
  exact ⟨v, rfl, h.add hg hr⟩
end
end Go.Proofs.Ytbnicphegbdfnaa.DS
namespace Go.Proofs.Ytbnicphegbdfnaa.AU
set_option maxRecDepth 100000
open Go Go.RowKit Go.Proofs.Ytbnicphegbdfnaa Go.Proofs.Ytbnicphegbdfnaa.Facts Go.Proofs.Ytbnicphegbdfnaa.Bytes Go.Proofs.Ytbnicphegbdfnaa.DKeep Go.Proofs.Ytbnicphegbdfnaa.DSmall Go.Proofs.Ytbnicphegbdfnaa.DNew Go.Proofs.Ytbnicphegbdfnaa.Puts Go.Proofs.Ytbnicphegbdfnaa.SPure Go.Proofs.Ytbnicphegbdfnaa.JA Go.Proofs.Ytbnicphegbdfnaa.JD Go.Proofs.Ytbnicphegbdfnaa.JH Go.Proofs.Ytbnicphegbdfnaa.JQ Go.Proofs.Ytbnicphegbdfnaa.AP Go.Proofs.Ytbnicphegbdfnaa.AQ Go.Proofs.Ytbnicphegbdfnaa.AA Go.Proofs.Ytbnicphegbdfnaa.AW Go.Proofs.Ytbnicphegbdfnaa.AV Go.Proofs.Ytbnicphegbdfnaa.AC Go.Proofs.Ytbnicphegbdfnaa.DS

/-- What an area was written to. -/
def wrote (first s m : Nat) (b : List UInt8) (L : List Sec) : Pd := ⟨L, sets L (ws first (fun _ => s) m 0 (recB b)), ws first (fun _ => s) m 0 (recB b), -1, false⟩
theorem gw_wrote (first s m : Nat) (b : List UInt8) (L : List Sec) (hf : first + m ≤ L.length) : gw first (fun _ => s) m 0 (recB b) (calm L) = (wrote first s m b L, 0) := gw_none first m s L (recB b) hf
theorem wrote_waits (first s m : Nat) (b : List UInt8) (L : List Sec) : (wrote first s m b L).waits.length = m := ws_length _ _ _ _ _
theorem blank_ne (n : Nat) (a : Nat) : stampOf ((DNew.blank n)[a]?.getD []) = 0 ∧ againOf ((DNew.blank n)[a]?.getD []) = 0 := by
  unfold DNew.blank
  rw [List.getElem?_replicate]
  split
  · exact ⟨by kernel_rfl, by kernel_rfl⟩
  · exact ⟨by kernel_rfl, by kernel_rfl⟩
theorem back (m st : Nat) (b : List UInt8) (hs : may st = true) (hm : 1 ≤ m) (hm7 : m ≤ 7) (hb : b.length + 4 ≤ 108 * m) :
    ard (wrote 1 st m b (DNew.blank 8)).last 1 m = (st, b, 0) ∧ anw (wrote 1 st m b (DNew.blank 8)).last 0 8 = st ∧ DRead.readOf (wrote 1 st m b (DNew.blank 8)) 0 = (zsec, 0) ∧ Ev (wrote 1 st m b (DNew.blank 8)).last := by
  have hl : (DNew.blank 8).length = 8 := DNew.blank_length 8
  obtain ⟨hc, h1, h2⟩ := came_put (DNew.blank 8) 1 m st b hs (Ev.blank 8) (by omega) hm hb (by omega)
  have hz : ∀ i, (i < 1 ∨ 1 + m ≤ i) → stampOf ((wrote 1 st m b (DNew.blank 8)).last[i]?.getD []) = 0 ∧ againOf ((wrote 1 st m b (DNew.blank 8)).last[i]?.getD []) = 0 := fun i hi => by
    rw [show (wrote 1 st m b (DNew.blank 8)).last[i]? = (DNew.blank 8)[i]? from hc.out i hi]
    exact blank_ne 8 i
  refine ⟨h1, anw_is _ 0 8 st (fun i hi => ?_) ⟨1, by omega, by rw [Nat.zero_add]; exact (h2 0 (by omega)).1⟩, ?_, hc.ev⟩
  · rw [Nat.zero_add]
    by_cases hi1 : i < 1 ∨ 1 + m ≤ i
    · have := hz i hi1; omega
    · have := h2 (i - 1) (by omega)
      rw [show 1 + (i - 1) = i by omega] at this
      have h3 : stampOf ((wrote 1 st m b (DNew.blank 8)).last[i]?.getD []) = st ∧ againOf ((wrote 1 st m b (DNew.blank 8)).last[i]?.getD []) = st := this
      omega
  · have h0 : DSmall.refus (wrote 1 st m b (DNew.blank 8)) 0 = 0 := by
      unfold DSmall.refus wrote
      rfl
    unfold DRead.readOf
    rw [if_pos h0, show (wrote 1 st m b (DNew.blank 8)).last[(0 : Int).toNat]? = (DNew.blank 8)[0]? from hc.out 0 (by omega)]
    rfl
/-- What may be of three sectors that are written with a stamp one above the newest number. -/
structure Stp (L L' : List Sec) (n : Nat) (b : List UInt8) : Prop where
  ev : Ev L'
  len : L'.length = 3
  is : L' = L ∨ (anw L' 0 3 = n + 1 ∧ (ard L' 0 3 = (0, [], 2) ∨ ard L' 0 3 = (n + 1, b, 0)))
theorem Stp.of {L L' : List Sec} {n : Nat} {b : List UInt8} (hl : L.length = 3) (h : Came L L' 0 3 (n + 1) b) : Stp L L' n b := by
  refine ⟨h.ev, by rw [h.len, hl], ?_⟩
  rcases h.is with h1 | ⟨⟨i, hi, h1⟩, h2, h3⟩
  · exact .inl h1
  · exact .inr ⟨anw_is L' 0 3 (n + 1) h2 ⟨i, hi, h1⟩, h3⟩
theorem lows (L : List Sec) (n : Nat) (hn : anw L 0 3 = n) : ∀ i, i < 3 → stampOf (L[0 + i]?.getD []) < n + 1 ∧ againOf (L[0 + i]?.getD []) < n + 1 := fun i hi => by
  have := anw_ge L 0 3 i hi
  rw [hn] at this
  omega
theorem lost (L : List Sec) (n : Nat) (b : List UInt8) (hev : Ev L) (hl : L.length = 3) (hn : anw L 0 3 = n) (hs : may (n + 1) = true) (hb : b.length ≤ 320) (keep : List UInt8) :
    ∃ L', DFlush.crashed (wrote 0 (n + 1) 3 b L) keep = calm L' ∧ Stp L L' n b := by
  obtain ⟨L', h1, h2⟩ := came_lost L 0 3 (n + 1) b hs hev (by omega) (by omega) (by omega) (by omega) (lows L n hn) 3 (-1) false keep
  have ht : (ws 0 (fun _ => n + 1) 3 0 (recB b)).take 3 = ws 0 (fun _ => n + 1) 3 0 (recB b) := List.take_of_length_le (by rw [ws_length]; omega)
  rw [ht] at h1
  exact ⟨L', h1, Stp.of hl h2⟩
theorem sure (L : List Sec) (n : Nat) (b : List UInt8) (hev : Ev L) (hl : L.length = 3) (hs : may (n + 1) = true) (hb : b.length ≤ 320) :
    DFlush.flushed (wrote 0 (n + 1) 3 b L) = (calm (wrote 0 (n + 1) 3 b L).last, 0) ∧ Stp L (wrote 0 (n + 1) 3 b L).last n b ∧ anw (wrote 0 (n + 1) 3 b L).last 0 3 = n + 1 ∧ ard (wrote 0 (n + 1) 3 b L).last 0 3 = (n + 1, b, 0) := by
  obtain ⟨hc, h1, h2⟩ := came_put L 0 3 (n + 1) b hs hev (by omega) (by omega) (by omega) (by omega)
  refine ⟨?_, Stp.of hl hc, anw_is _ 0 3 (n + 1) (fun i hi => ?_) ⟨0, by omega, (h2 0 (by omega)).1⟩, h1⟩
  · exact flushed_sets L _ (ws_wq L 0 (fun _ => n + 1) 3 (recB b) hev (by omega)) (-1) (.inl rfl)
  · have h3 : stampOf ((wrote 0 (n + 1) 3 b L).last[0 + i]?.getD []) = n + 1 ∧ againOf ((wrote 0 (n + 1) 3 b L).last[0 + i]?.getD []) = n + 1 := h2 i hi
    omega
theorem calm_refus (L : List Sec) (first m : Nat) (hm : 1 ≤ m) (hf : first + m ≤ L.length) : arefus (calm L) (first : Int) (m : Int) = 0 := by
  unfold arefus calm
  simp only
  rw [if_neg (by omega)]
  rfl
theorem ev_at {L : List Sec} (h : Ev L) (first m : Nat) (hf : first + m ≤ L.length) : ∀ i, i < m → (L[first + i]?.getD []).length = 128 := fun i hi => by
  rw [List.getElem?_eq_getElem (by omega), Option.getD_some]
  exact h _ _ (List.getElem?_eq_getElem (by omega))
end Go.Proofs.Ytbnicphegbdfnaa.AU
namespace Go.Proofs.Ytbnicphegbdfnaa.AH
set_option maxRecDepth 100000
open Go Go.RowKit Go.Proofs.Ytbnicphegbdfnaa Go.Proofs.Ytbnicphegbdfnaa.Facts Go.Proofs.Ytbnicphegbdfnaa.Bytes Go.Proofs.Ytbnicphegbdfnaa.DKeep Go.Proofs.Ytbnicphegbdfnaa.DSmall Go.Proofs.Ytbnicphegbdfnaa.DNew Go.Proofs.Ytbnicphegbdfnaa.Puts Go.Proofs.Ytbnicphegbdfnaa.SPure Go.Proofs.Ytbnicphegbdfnaa.JA Go.Proofs.Ytbnicphegbdfnaa.JD Go.Proofs.Ytbnicphegbdfnaa.JH Go.Proofs.Ytbnicphegbdfnaa.JQ Go.Proofs.Ytbnicphegbdfnaa.AP Go.Proofs.Ytbnicphegbdfnaa.AQ Go.Proofs.Ytbnicphegbdfnaa.AA Go.Proofs.Ytbnicphegbdfnaa.AW Go.Proofs.Ytbnicphegbdfnaa.AV Go.Proofs.Ytbnicphegbdfnaa.AC Go.Proofs.Ytbnicphegbdfnaa.DS Go.Proofs.Ytbnicphegbdfnaa.AU

def d0 : Pd := DNew.fresh 4
def d1 : Pd := (gw 1 (fun _ => 7) 2 0 (recB [97, 98, 99]) d0).1
def d2 : Pd := (DFlush.flushed d1).1
theorem A1 : gw 1 (fun _ => 7) 2 0 (recB [97, 98, 99]) d0 = (d1, 0) := by kernel_rfl
theorem A2 : DFlush.flushed d1 = (d2, 0) := by kernel_rfl
theorem A3 : ard d2.last 1 2 = (7, [97, 98, 99], 0) := by kernel_rfl
theorem A4 : anw d2.last 0 4 = 7 := by kernel_rfl
theorem A5 : ard d2.last 0 2 = (0, [], 2) := by kernel_rfl
theorem R0 : arefus d0 ((1 : Nat) : Int) ((2 : Nat) : Int) = 0 := by kernel_rfl
theorem R1 : arefus d2 ((1 : Nat) : Int) ((2 : Nat) : Int) = 0 := by kernel_rfl
theorem R2 : arefus d2 ((0 : Nat) : Int) ((4 : Nat) : Int) = 0 := by kernel_rfl
theorem R3 : arefus d2 ((0 : Nat) : Int) ((2 : Nat) : Int) = 0 := by kernel_rfl
theorem R4 : arefus d2 3 2 = 1 := by kernel_rfl
theorem R5 : arefus d2 0 1 = 0 := by kernel_rfl
theorem W0 : d0.waits.length ≤ 1000000000 := by
  have h : d0.waits.length = 0 := by kernel_rfl
  omega
theorem W1 : d1.waits.length ≤ 1073741824 := by
  have h : d1.waits.length = 2 := by kernel_rfl
  omega
theorem E2_0 : (d2.last[0 + 0]?.getD []).length = 128 := by kernel_rfl
theorem E2_1 : (d2.last[0 + 1]?.getD []).length = 128 := by kernel_rfl
theorem E2_2 : (d2.last[0 + 2]?.getD []).length = 128 := by kernel_rfl
theorem E2_3 : (d2.last[0 + 3]?.getD []).length = 128 := by kernel_rfl
theorem E2 : ∀ i, i < 4 → (d2.last[0 + i]?.getD []).length = 128 := fun i hi =>
  match i, hi with
  | 0, _ => E2_0
  | 1, _ => E2_1
  | 2, _ => E2_2
  | 3, _ => E2_3
theorem room_neg : JA.room (-1) = 0 := by kernel_rfl
theorem room_two : JA.room 2 = 212 := by kernel_rfl
theorem mk105 (u : World) : (Instr.makeSlice 23 (.int .i64 105) (.int .i64 105)).run Try.prog u =
      .ok (.slice (some ⟨u.heap.size, 0, none⟩) 105 105) (u.alloc (.cells (madeCells #[.int .u8 0] 105) 5)) := by
  obtain ⟨i0, hi, hx⟩ := Option.map_eq_some_iff.1 Puts.info5
  simp only [Prod.mk.injEq] at hx
  obtain ⟨hz0, hz1, hz2⟩ := hx
  have h := run_make (P := Try.prog) u 23 5 i0 (.int .u8 0) Try.underlying23 hi hz0 .i64 .i64 105 105 (by omega) (Int.le_refl _) (by rw [hz2]; omega) (by omega)
  simpa [hz1, Value.cells] using h
set_option maxHeartbeats 4000000 in
theorem alive_any (w : World) : Calls Try.prog 14 #[] w fun e w' => e = .returned (.bool true) ∧ Grew w w' := by
  go_enter Try.func14, Try.ntmps14
  go_wp2_with fail
  refine (ds_new w 4 4 rfl (by omega) (by omega)).mono ?_
  rintro e w1 ⟨g, rfl, hd⟩
  have HD : Hid (DS w g d0 [] w1) := Lib.hid hd
  clear hd
  have kc := fun (w : World) (C : Array Value) (n c : Nat) => Lib.run_convert_bytes_const (P := Try.prog) w 23 5 C n c Try.underlying23 Try.underlying5
  go_wp2_with fail
  have hg1 : Grew w1 (w1.alloc (.cells #[.int .u8 97, .int .u8 98, .int .u8 99] 5 (3, 4))) := (Below.refl _ w1).alloc (Nat.le_refl _) _
  refine (ds_awrite w _ g d0 [] (HD.out.grew hg1) 1 2 7 1 2 7 rfl rfl rfl _ _ [97, 98, 99] d1 0 (JG.lit_rd w1 [97, 98, 99] (3, 4) (by decide)) R0 (by decide) (by decide) W0 A1).mono ?_
  rintro e w2 ⟨rfl, hd⟩
  have HD2 := Lib.hid hd
  clear hd HD hg1 kc
  go_wp2_with fail
  refine (ds_flush w w2 g d1 [] HD2.out d2 0 W1 A2).mono ?_
  rintro e w3 ⟨rfl, hd⟩
  have HD3 := Lib.hid hd
  clear hd HD2
  go_wp2_with fail
  refine (ds_aread w w3 g d2 [] HD3.out 1 2 1 2 rfl rfl 7 [97, 98, 99] 0 R1 A3).mono ?_
  rintro e w4 ⟨v4, rfl, hd⟩
  have HR4 := Lib.hid (hd.rd (List.mem_cons_self ..))
  obtain ⟨A4', c4, rfl, _⟩ := id HR4.out
  have HD4 := Lib.hid hd
  clear hd HD3 HR4
  go_wp2_with fail
  refine (ds_anewest w w4 g d2 _ HD4.out 0 4 0 4 rfl rfl 7 R2 E2 A4).mono ?_
  rintro e w5 ⟨rfl, hd⟩
  have HD5 := Lib.hid hd
  clear hd HD4
  go_wp2_with fail
  refine (ds_aread w w5 g d2 _ HD5.out 0 2 0 2 rfl rfl 0 [] 2 R3 A5).mono ?_
  rintro e w6 ⟨v6, rfl, hd⟩
  obtain ⟨A6', c6, rfl, _⟩ := id (hd.rd (List.mem_cons_self ..))
  have HD6 := Lib.hid hd
  clear hd HD5
  go_wp2_with fail
  refine (AF.aread_nil w6 0 2).mono ?_
  rintro e w7 ⟨rfl, hg⟩
  have HD7 := Lib.hid (HD6.out.grew hg)
  clear hg HD6
  go_wp2_with fail
  refine (JA.room_any 2 _).mono ?_
  rintro e w' ⟨rfl, rfl⟩
  rw [room_two]
  go_wp2_with fail
  refine (JA.room_any (-1) _).mono ?_
  rintro e w' ⟨rfl, rfl⟩
  rw [room_neg]
  have ks := Nums.conv22 (HD7.out.rd (v := .slice A4' 3 c4) (l := [97, 98, 99]) (by simp))
  go_wp2_with fail
  refine (ds_arefused w _ g d2 _ HD7.out 3 2 7 7 rfl none 0 0 1 (by omega) R4 (by omega)).mono ?_
  rintro e w8 ⟨rfl, hd⟩
  have HD8 := Lib.hid hd
  clear hd HD7 ks
  have kmk := mk105
  go_wp2_with fail
  refine (ds_along w _ g d2 _ (HD8.out.grew ((Below.refl _ w8).alloc (Nat.le_refl _) _)) 0 1 7 7 rfl _ 105 105 (by omega) R5 (by decide) (by decide)).mono ?_
  rintro e w9 ⟨rfl, hd⟩
  have HD9 := Lib.hid hd
  clear hd HD8 kmk
  go_wp2
  go_returns
  exact ⟨rfl, HD9.out.gr⟩
end Go.Proofs.Ytbnicphegbdfnaa.AH
