/-
  Order: cmp.Compare, compare and compareItems of the code.
-/
import Derived.Test.YtidinbeanaifmaaVsm
import Derived.Test.YtidinbeanaifmaaVcm
namespace Go.Proofs.Ytidinbeanaifmaa
open Go.RowKit

set_option maxHeartbeats 400000 in
theorem cmpInt_any (a b : Int) (w : World) : Calls Try.prog 96 #[.int .i64 a, .int .i64 b] w (Says (.int .i64 (cmpI a b)) w) := by
  by_cases h1 : a < b
  · have e : cmpI a b = -1 := by unfold cmpI; rw [if_pos h1]
    rw [e]
    have f1 : decide (a < b) = true := decide_eq_true h1
    clear e h1
    go_enter Try.func96, Try.ntmps96
    go_wp2
    go_ret
    exact ⟨rfl, rfl⟩
  · by_cases h2 : b < a
    · have e : cmpI a b = 1 := by unfold cmpI; rw [if_neg h1, if_pos h2]
      rw [e]
      have f1 : decide (a < b) = false := decide_eq_false h1
      have f2 : decide (b < a) = true := decide_eq_true h2
      clear e h1 h2
      go_enter Try.func96, Try.ntmps96
      go_wp2
      go_ret
      exact ⟨rfl, rfl⟩
    · have e : cmpI a b = 0 := by unfold cmpI; rw [if_neg h1, if_neg h2]
      rw [e]
      have f1 : decide (a < b) = false := decide_eq_false h1
      have f2 : decide (b < a) = false := decide_eq_false h2
      clear e h1 h2
      go_enter Try.func96, Try.ntmps96
      go_wp2
      go_ret
      exact ⟨rfl, rfl⟩

set_option maxHeartbeats 400000 in
theorem cmpStr_any (a b : ByteArray) (w : World) : Calls Try.prog 59 #[.string a, .string b] w (Says (.int .i64 (cmpS a b)) w) := by
  have e := cmpS_ways a b
  rcases str_ways a b with ⟨s1, s2, s3, s4, hne⟩ | ⟨he, s1, s2, s3, s4⟩ | ⟨s1, s2, s3, s4, hne⟩
  · have e1 : cmpS a b = -1 := by unfold cmpS less; rw [if_pos s1]
    rw [e1]
    clear e e1 hne
    go_enter Try.func59, Try.ntmps59
    go_wp2
    go_ret
    exact ⟨rfl, rfl⟩
  · have e1 : cmpS a b = 0 := cmpS_zero.2 he
    rw [e1]
    clear e e1 he
    go_enter Try.func59, Try.ntmps59
    go_wp2
    go_ret
    exact ⟨rfl, rfl⟩
  · have e1 : cmpS a b = 1 := by unfold cmpS less; rw [s1, if_neg (by decide), if_pos s4]
    rw [e1]
    clear e e1 hne
    go_enter Try.func59, Try.ntmps59
    go_wp2
    go_ret
    exact ⟨rfl, rfl⟩
end Go.Proofs.Ytidinbeanaifmaa
