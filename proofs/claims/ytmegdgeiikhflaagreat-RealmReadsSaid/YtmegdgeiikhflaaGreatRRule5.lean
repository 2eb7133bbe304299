/-
  The rule of quotas, as the program asks it.
  Conditions: none.
-/
import Derived.Test.YtmegdgeiikhflaaGreatRRules
namespace Go.Proofs.YtmegdgeiikhflaaGreat.RRule5
set_option maxRecDepth 100000
open Go Go.RowKit Go.Lib Go.Proofs.YtmegdgeiikhflaaGreat Go.Proofs.YtmegdgeiikhflaaGreat.Facts Go.Proofs.YtmegdgeiikhflaaGreat.Plain Go.Proofs.YtmegdgeiikhflaaGreat.Ints Go.Proofs.YtmegdgeiikhflaaGreat.RRows Go.Proofs.YtmegdgeiikhflaaGreat.LBox Go.Proofs.YtmegdgeiikhflaaGreat.RSmall Go.Proofs.YtmegdgeiikhflaaGreat.RFind Go.Proofs.YtmegdgeiikhflaaGreat.RAll Go.Proofs.YtmegdgeiikhflaaGreat.RRules

theorem slots134 (x : Int) (w : World) : Calls Tryz.prog 163 #[.int .i64 x] w fun e w' => e = .returned (.bool (wit x 0 12)) ∧ Grew w w' := by
  have HW := Lib.hid (fun W => within_any x 0 12 W)
  generalize wit x 0 12 = b at *
  cases b
  all_goals
    go_enter Tryz.func163, Tryz.ntmps163
    go_wp2_with fail
    refine (HW.out _).mono ?_
    rintro e w2 ⟨rfl, hg⟩
    have G2 := Lib.hid hg
    clear hg
    go_wp2
    go_returns
    exact ⟨rfl, G2.out⟩
theorem clo_slots (x : Int) (B : Nat) (w : World) (h : w.cell? ⟨B, 0, none⟩ = some (.func (.func 163) #[] #[])) :
    Calls Tryz.prog 150 #[.int .i64 x, .pointer (some ⟨B, 0, none⟩)] w fun e w' => e = .returned (.bool (!wit x 0 12)) ∧ Grew w w' := by
  have HIN := Lib.hid (fun W => slots134 x W)
  generalize wit x 0 12 = b at *
  cases b
  all_goals
    go_enter Tryz.func150, Tryz.ntmps150
    go_wp2_with fail
    refine (HIN.out _).mono ?_
    rintro e w2 ⟨rfl, hg⟩
    have G2 := Lib.hid hg
    clear hg
    go_wp2
    go_returns
    exact ⟨rfl, G2.out⟩
def five (q : Qu) : List Int := [q.rooms, q.exits, q.items, q.mails, q.trades]
def quOk (q : Qu) : Bool := (five q).all fun x => wit x 0 12
theorem five_is {W : World} {B : Nat} (q : Qu) (h : W.heap[B]? = some (.cells #[.int .i64 q.rooms, .int .i64 q.exits, .int .i64 q.items, .int .i64 q.mails, .int .i64 q.trades] 3 (0, 0))) : Is W (.slice (some ⟨B, 0, none⟩) 5 5) (five q) := by
  refine ⟨_, 5, rfl, by simp [five], by unfold maxLen; omega, (fun h => by cases h), fun ad ha j u hu => ?_⟩
  cases ha
  have e : (⟨B, 0, none⟩ : Addr).add j = ⟨B, j, none⟩ := by
    unfold Addr.add
    by_cases h0 : j = 0
    · subst h0; simp
    · simp [h0]
  rw [e, cell_of_row _ _ _ _ _ _ h]
  unfold five iv at hu
  have : (#[Value.int .i64 q.rooms, .int .i64 q.exits, .int .i64 q.items, .int .i64 q.mails, .int .i64 q.trades] : Array Value) = ([q.rooms, q.exits, q.items, q.mails, q.trades].map (Value.int .i64)).toArray := rfl
  rw [this, List.getElem?_toArray]
  exact hu
set_option maxRecDepth 100000 in
theorem quota_any (q : Qu) (w : World) : Calls Tryz.prog 122 #[.agg #[.int .i64 q.rooms, .int .i64 q.exits, .int .i64 q.items, .int .i64 q.mails, .int .i64 q.trades, .int .u64 (q.cap.toNat : Int)]] w fun e w' => e = .returned (.bool (quOk q)) ∧ Grew w w' := by
  have HAL : Hid (∀ W B, W.heap[B]? = some (.cells #[.int .i64 q.rooms, .int .i64 q.exits, .int .i64 q.items, .int .i64 q.mails, .int .i64 q.trades] 3 (0, 0)) → Calls Tryz.prog 112 #[.slice (some ⟨B, 0, none⟩) 5 5, .func (.func 163) #[] #[]] W fun e w' => e = .returned (.bool (quOk q)) ∧ Grew W w') := Lib.hid fun W B hb =>
    allI_any _ _ _ _ (five q) (fun x => wit x 0 12) W (five_is q hb) fun x _ W2 B2 _ hB => clo_slots x B2 W2 hB
  have HB := Lib.hid (heap_alloc2_new w (Obj.cells #[.int .i64 q.rooms, .int .i64 q.exits, .int .i64 q.items, .int .i64 q.mails, .int .i64 q.trades, .int .u64 (q.cap.toNat : Int)] 100) (Obj.cells #[.int .i64 q.rooms, .int .i64 q.exits, .int .i64 q.items, .int .i64 q.mails, .int .i64 q.trades] 3))
  have G0 : Hid (Grew w ((w.alloc (Obj.cells #[.int .i64 q.rooms, .int .i64 q.exits, .int .i64 q.items, .int .i64 q.mails, .int .i64 q.trades, .int .u64 (q.cap.toNat : Int)] 100)).alloc (Obj.cells #[.int .i64 q.rooms, .int .i64 q.exits, .int .i64 q.items, .int .i64 q.mails, .int .i64 q.trades] 3))) := Lib.hid (by unfold Grew; go_grown)
  generalize quOk q = b at *
  cases b
  all_goals
    go_enter Tryz.func122, Tryz.ntmps122
    go_wp2_with fail
    with_reducible refine (HAL.out _ _ HB.out).mono ?_
    rintro e w2 ⟨rfl, hg⟩
    have G2 := Lib.hid (G0.out.trans hg)
    clear hg
    go_wp2
    go_returns
    exact ⟨rfl, G2.out⟩
end Go.Proofs.YtmegdgeiikhflaaGreat.RRule5
