/-
  Frames that are taken as they were wrapped, purely.
  Conditions: those that each lemma names.
-/
import Derived.Test.YthgigkklefaeeaaFX
namespace Go.Proofs.Ythgigkklefaeeaa.FK
set_option maxRecDepth 100000
set_option maxRecDepth 100000
open Go Go.RowKit Go.Lib Go.Proofs.Ythgigkklefaeeaa Go.Proofs.Ythgigkklefaeeaa.Facts Go.Proofs.Ythgigkklefaeeaa.Bytes Go.Proofs.Ythgigkklefaeeaa.Puts Go.Proofs.Ythgigkklefaeeaa.Scan Go.Proofs.Ythgigkklefaeeaa.Take Go.Proofs.Ythgigkklefaeeaa.Nums Go.Proofs.Ythgigkklefaeeaa.SumPure Go.Proofs.Ythgigkklefaeeaa.Sum Go.Proofs.Ythgigkklefaeeaa.FP Go.Proofs.Ythgigkklefaeeaa.FW Go.Proofs.Ythgigkklefaeeaa.FX

theorem fst_fr (b t : List UInt8) (h : b.length ≤ 255) : fst (fr b ++ t) = b.length := by
  unfold fst fr hd
  simp
  omega
/-- A frame is taken as it was wrapped, whatever stands behind it. -/
theorem take_fr (b t : List UInt8) (most : Int) (h : b.length ≤ lim most) : takeP (fr b ++ t) most = (b, b.length + 3, 0) := by
  have hl := lim_le most
  have hf := fst_fr b t (by omega)
  have hlen : (fr b ++ t).length = b.length + 3 + t.length := by rw [List.length_append, fr_length]
  unfold takeP
  rw [hf, if_neg (by omega), if_neg (by omega), if_neg (by omega)]
  have e1 : (fr b ++ t).take (b.length + 1) = hd b := by
    unfold fr
    rw [List.append_assoc, List.take_left' (by rw [hd_length])]
  have e2 : ((fr b ++ t).drop (b.length + 1)).take 2 = be 2 (sh (hd b)) := by
    unfold fr
    rw [List.append_assoc, List.drop_left' (by rw [hd_length]), List.take_left' (by rw [be_length])]
  have e3 : ((fr b ++ t).drop 1).take b.length = b := by
    have : (fr b ++ t).drop 1 = b ++ (be 2 (sh (hd b)) ++ t) := by simp [fr, hd]
    rw [this, List.take_left' rfl]
  rw [e1, e2, e3, val_be _ (sh_lt _), if_pos rfl]
theorem take_cut (b : List UInt8) (k : Nat) (h : b.length ≤ 255) (hk : k < b.length + 3) : takeP ((fr b).take k) 255 = ([], 0, 12) := by
  have hlen : ((fr b).take k).length = k := by rw [List.length_take, fr_length]; omega
  unfold takeP
  by_cases h0 : k = 0
  · rw [if_pos (by omega)]
  · have hf : fst ((fr b).take k) = b.length := by
      cases k with
      | zero => omega
      | succ k => unfold fst fr hd; simp; omega
    have hl : lim 255 = 255 := by decide
    rw [hf, if_neg (by omega), if_neg (by omega), if_pos (by omega)]

/-- A byte that tells more than 60. -/
def jb (b : UInt8) : UInt8 := UInt8.ofNat (61 + b.toNat % 195)
theorem jb_toNat (b : UInt8) : (jb b).toNat = 61 + b.toNat % 195 := by
  unfold jb
  simp
  omega
theorem take_junk (b : UInt8) (t : List UInt8) : takeP (jb b :: t) 60 = ([], 1, 13) := by
  unfold takeP
  have hf : fst (jb b :: t) = 61 + b.toNat % 195 := by unfold fst; simp [jb_toNat]
  have hl : lim 60 = 60 := by decide
  rw [hf, hl, if_neg (by simp), if_pos (by omega)]
end Go.Proofs.Ythgigkklefaeeaa.FK
