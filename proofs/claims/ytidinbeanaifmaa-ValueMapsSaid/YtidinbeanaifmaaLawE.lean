/-
  The walk of WireRound.
-/
import Derived.Test.YtidinbeanaifmaaLawC
namespace Go.Proofs.Ytidinbeanaifmaa
open Go.RowKit

theorem textR_enc (s r : List UInt8) (most : Int) (h : (s.length : Int) ≤ most) (hs : s.length ≤ 9223372036854775807) : textR (encText s ++ r) most = (s, r, 0) := by
  have hi := intR_enc (low := 0) (high := most) (n := (s.length : Int)) (by omega) (by omega) (s ++ r)
  rw [if_neg (by omega)] at hi
  unfold textR encText
  rw [List.append_assoc, hi]
  simp only [ne_eq, not_true_eq_false, ↓reduceIte, Int.toNat_natCast]
  rw [if_neg (by rw [List.length_append]; omega), List.take_left, List.drop_left]
theorem boolR_enc (y : Bool) (r : List UInt8) : boolR (boolBytes y ++ r) = (y, r, 0) := by
  cases y <;> rfl
theorem str_back (s : ByteArray) : (⟨s.data.toList.toArray⟩ : ByteArray) = s := by
  cases s; simp

end Go.Proofs.Ytidinbeanaifmaa
