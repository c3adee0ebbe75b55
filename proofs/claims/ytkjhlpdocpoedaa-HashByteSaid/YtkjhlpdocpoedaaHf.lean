/-
  The walks of HashFnv, HashCrc, HashMix and HashBucket.
-/
import Derived.Test.YtkjhlpdocpoedaaHe
namespace Go.Proofs.Ytkjhlpdocpoedaa
open Go.RowKit

/-- what every law's walk says: true, and nothing that was there has turned -/
def Holds (w : World) (e : Ending) (w' : World) : Prop := e = .returned (.bool true) ∧ Below w.heap.size w w'
theorem works_below (w w0 : World) (hb : Below w0.heap.size w0 w) : Calls Try.prog 9 #[] w (Holds w0) :=
  (works_any w).mono fun _ _ h => ⟨h.1, hb.trans (h.2.mono hb.size)⟩

set_option maxHeartbeats 400000 in
theorem HashFnv_walk (s : ByteArray) (w : World) (hs : s.size ≤ maxLen) : Calls Try.prog 3 #[.string s] w (Holds w) := by
  have HS := Lib.hid hs
  have hs' := hs
  unfold maxLen at hs'
  clear hs
  by_cases hb : 2000 < s.size
  · go_enter Try.func3, Try.ntmps3
    go_wp2_with fail
    refine (works_below _ _ (Below.refl _ _)).mono ?_
    rintro e w' ⟨rfl, hb⟩
    have HB := Lib.hid hb
    clear hb
    go_wp2
    go_ret
    exact ⟨rfl, HB.out⟩
  · go_enter Try.func3, Try.ntmps3
    go_wp2_with fail
    refine (Fnv_any s _ HS.out).mono ?_
    rintro e w' ⟨rfl, rfl⟩
    go_wp2_with fail
    refine (refFnv_any s _ HS.out).mono ?_
    rintro e w' ⟨rfl, rfl⟩
    go_wp2_with fail
    refine (works_below _ _ (Below.refl _ _)).mono ?_
    rintro e w' ⟨rfl, hb⟩
    have HB := Lib.hid hb
    clear hb
    go_wp2
    go_ret
    exact ⟨rfl, HB.out⟩

set_option maxHeartbeats 400000 in
theorem HashCrc_walk (A : Option Addr) (n c : Nat) (l : List UInt8) (w : World) (hr : Rb w w.heap.size A n l) (_ : n ≤ c) (_ : c ≤ maxLen) : Calls Try.prog 4 #[.slice A n c] w (Holds w) := by
  have HR := Lib.hid hr
  clear hr
  by_cases hb : 1000 < n
  · go_enter Try.func4, Try.ntmps4
    go_wp2_with fail
    refine (works_below _ _ (Below.refl _ _)).mono ?_
    rintro e w' ⟨rfl, hb⟩
    have HB := Lib.hid hb
    clear hb
    go_wp2
    go_ret
    exact ⟨rfl, HB.out⟩
  · go_enter Try.func4, Try.ntmps4
    go_wp2_with fail
    refine (Crc_any HR.out (by omega)).mono ?_
    rintro e w' ⟨rfl, rfl⟩
    go_wp2_with fail
    refine (refCrc_any HR.out (by omega)).mono ?_
    rintro e w' ⟨rfl, rfl⟩
    go_wp2_with fail
    refine (works_below _ _ (Below.refl _ _)).mono ?_
    rintro e w' ⟨rfl, hb⟩
    have HB := Lib.hid hb
    clear hb
    go_wp2
    go_ret
    exact ⟨rfl, HB.out⟩

theorem mix_lt (a b : Int) : mix a b < 2147483648 := Nat.mod_lt _ (by decide)

set_option maxHeartbeats 400000 in
theorem HashMix_walk (a b : Int) (w : World) (h1 : -9223372036854775808 ≤ a) (h2 : a ≤ 9223372036854775807) (h3 : -9223372036854775808 ≤ b) (h4 : b ≤ 9223372036854775807) :
    Calls Try.prog 5 #[.int .i64 a, .int .i64 b] w (Holds w) := by
  have hm := mix_lt a b
  have t1 : decide (((mix a b : Nat) : Int) < 2147483648) = true := by rw [decide_eq_true_eq]; omega
  have t2 : decide (0 ≤ ((mix a b : Nat) : Int)) = true := by rw [decide_eq_true_eq]; omega
  have M1 := Lib.hid (fun (W : World) => Mix_any a b W h1 h2 h3 h4)
  have M2 := Lib.hid (fun (W : World) => refMix_any a b W h1 h2 h3 h4)
  generalize ((mix a b : Nat) : Int) = m at *
  clear hm h1 h2 h3 h4
  go_enter Try.func5, Try.ntmps5
  go_wp2_with fail
  refine (M1.out _).mono ?_
  rintro e w' ⟨rfl, rfl⟩
  go_wp2_with fail
  refine (M2.out _).mono ?_
  rintro e w1 ⟨rfl, hb⟩
  have HB := Lib.hid hb
  clear hb
  go_wp2_with fail
  refine (works_below _ _ HB.out).mono ?_
  rintro e w' ⟨rfl, hb⟩
  have HB := Lib.hid hb
  clear hb
  go_wp2
  go_ret
  exact ⟨rfl, HB.out⟩

set_option maxHeartbeats 400000 in
theorem HashBucket_walk (s : ByteArray) (n : Int) (w : World) (hs : s.size ≤ maxLen) (h1 : -9223372036854775808 ≤ n) (h2 : n ≤ 9223372036854775807) :
    Calls Try.prog 6 #[.string s, .int .i64 n] w (Holds w) := by
  have HS := Lib.hid hs
  have hs' := hs
  unfold maxLen at hs'
  clear hs
  by_cases hb : 1000 < s.size
  · go_enter Try.func6, Try.ntmps6
    go_wp2_with fail
    refine (works_below _ _ (Below.refl _ _)).mono ?_
    rintro e w' ⟨rfl, hb⟩
    have HB := Lib.hid hb
    clear hb
    go_wp2
    go_ret
    exact ⟨rfl, HB.out⟩
  · obtain ⟨hb1, hb2⟩ := buck_bd (l := s.data.toList) (n := n)
    have HC := Lib.hid (Bucket_any s n w HS.out h1 h2)
    have HD := Lib.hid (refBucket_any s n w HS.out h1 h2)
    generalize buck s.data.toList n = m at *
    rcases Int.lt_or_le n 1 with hn | hn
    · have ht : decide (n < 1) = true := by rw [decide_eq_true_eq]; exact hn
      clear hb2
      go_enter Try.func6, Try.ntmps6
      go_wp2_with fail
      refine HC.out.mono ?_
      rintro e w' ⟨rfl, rfl⟩
      go_wp2_with fail
      refine HD.out.mono ?_
      rintro e w' ⟨rfl, rfl⟩
      go_wp2_with fail
      refine (works_below _ _ (Below.refl _ _)).mono ?_
      rintro e w' ⟨rfl, hb⟩
      have HB := Lib.hid hb
      clear hb
      go_wp2
      go_ret
      exact ⟨rfl, HB.out⟩
    · have ht : decide (n < 1) = false := by rw [decide_eq_false_iff_not]; omega
      have ht2 : m < n := by omega
      clear hb2
      go_enter Try.func6, Try.ntmps6
      go_wp2_with fail
      refine HC.out.mono ?_
      rintro e w' ⟨rfl, rfl⟩
      go_wp2_with fail
      refine HD.out.mono ?_
      rintro e w' ⟨rfl, rfl⟩
      go_wp2_with fail
      refine (works_below _ _ (Below.refl _ _)).mono ?_
      rintro e w' ⟨rfl, hb⟩
      have HB := Lib.hid hb
      clear hb
      go_wp2
      go_ret
      exact ⟨rfl, HB.out⟩
end Go.Proofs.Ytkjhlpdocpoedaa
