/-
  The chapter's examples of layer 5, and the walks of DrawNumbers, DrawSeeds.
-/
import Derived.Test.YtenpeolaikimbaaDc
import Derived.Lib.SlBytesConst
namespace Go.Proofs.Ytenpeolaikimbaa
open Go.RowKit

/-- what every law's walk says: true, and nothing that was there has turned -/
def Holds (w : World) (e : Ending) (w' : World) : Prop := e = .returned (.bool true) ∧ Below w.heap.size w w'

theorem jex1 : jit 1 2 50 0 = 50 := by decide +kernel
theorem jex2 : jit 1 2 (-5) 10 = -5 := by decide +kernel
theorem bex : belw 3 4 1 = 0 := by decide +kernel

set_option maxHeartbeats 1000000 in
theorem works_any (w : World) : Calls Try.prog 11 #[] w fun e w' => e = .returned (.bool true) ∧ Below w.heap.size w w' := by
  have kc := fun (w : World) (C : Array Value) (n c : Nat) => Lib.run_convert_bytes_const (P := Try.prog) w 32 5 C n c Try.underlying32 Try.underlying5
  have E1 := Lib.hid (fun (W : World) => Below_any 3 4 1 W (by omega) (by omega) (by omega) (by omega) (by omega) (by omega))
  have E2 := Lib.hid (fun (W : World) => Jitter_any 1 2 50 0 W (by omega) (by omega) (by omega) (by omega) (by omega) (by omega) (by omega) (by omega))
  have E3 := Lib.hid (fun (W : World) => Jitter_any 1 2 (-5) 10 W (by omega) (by omega) (by omega) (by omega) (by omega) (by omega) (by omega) (by omega))
  have E4 := Lib.hid (fun (W : World) => Seed_any ⟨#[]⟩ ⟨#[]⟩ W (by decide) (by decide))
  have E5 := Lib.hid (fun (W : World) => Draw_any 1 2 W (by omega) (by omega) (by omega) (by omega))
  have E6 := Lib.hid (fun (W : World) => refDraw_any 1 2 W (by omega) (by omega) (by omega) (by omega))
  rw [bex] at E1
  rw [jex1] at E2
  rw [jex2] at E3
  generalize ((mix 1 2 : Nat) : Int) = m at *
  go_enter Try.func11, Try.ntmps11
  go_wp2_with fail
  refine (E1.out _).mono ?_
  rintro e w' ⟨rfl, rfl⟩
  go_wp2_with fail
  refine (E2.out _).mono ?_
  rintro e w' ⟨rfl, rfl⟩
  go_wp2_with fail
  refine (E3.out _).mono ?_
  rintro e w' ⟨rfl, rfl⟩
  go_wp2_with fail
  refine (E4.out _).mono ?_
  rintro e w' ⟨rfl, rfl⟩
  go_wp2_with fail
  refine (refFnv_any (Rb.marked w 5 (1, 2) [47]) (by decide)).mono ?_
  rintro e w' ⟨rfl, rfl⟩
  go_wp2_with fail
  refine (E5.out _).mono ?_
  rintro e w' ⟨rfl, rfl⟩
  go_wp2_with fail
  refine (E6.out _).mono ?_
  rintro e w' ⟨rfl, hb⟩
  have HB := Lib.hid ((((Below.refl w.heap.size w).alloc (Nat.le_refl _) _)).trans (hb.mono (by rw [World.size_alloc]; omega)))
  clear hb
  go_wp2
  go_ret
  exact ⟨rfl, HB.out⟩

theorem works_below (w w0 : World) (hb : Below w0.heap.size w0 w) : Calls Try.prog 11 #[] w (Holds w0) :=
  (works_any w).mono fun _ _ h => ⟨h.1, hb.trans (h.2.mono hb.size)⟩

set_option maxHeartbeats 400000 in
theorem DrawNumbers_walk (a b n : Int) (w : World) (h1 : -9223372036854775808 ≤ a) (h2 : a ≤ 9223372036854775807) (h3 : -9223372036854775808 ≤ b) (h4 : b ≤ 9223372036854775807)
    (h5 : -9223372036854775808 ≤ n) (h6 : n ≤ 9223372036854775807) :
    Calls Try.prog 3 #[.int .i64 a, .int .i64 b, .int .i64 n] w (Holds w) := by
  have M1 := Lib.hid (fun (W : World) => Draw_any a b W h1 h2 h3 h4)
  have M2 := Lib.hid (fun (W : World) => refDraw_any a b W h1 h2 h3 h4)
  have M3 := Lib.hid (fun (W : World) => Below_any a b n W h1 h2 h3 h4 h5 h6)
  have M4 := Lib.hid (fun (W : World) => refBelow_any a b n W h1 h2 h3 h4 h5 h6)
  generalize ((mix a b : Nat) : Int) = m at *
  generalize belw a b n = q at *
  clear h1 h2 h3 h4
  go_enter Try.func3, Try.ntmps3
  go_wp2_with fail
  refine (M1.out _).mono ?_
  rintro e w' ⟨rfl, rfl⟩
  go_wp2_with fail
  refine (M2.out _).mono ?_
  rintro e w1 ⟨rfl, hb⟩
  have HB := Lib.hid hb
  clear hb
  go_wp2_with fail
  refine (M3.out _).mono ?_
  rintro e w' ⟨rfl, rfl⟩
  go_wp2_with fail
  refine (M4.out _).mono ?_
  rintro e w2 ⟨rfl, hb⟩
  have HB2 := Lib.hid (HB.out.trans (hb.mono HB.out.size))
  clear hb
  go_wp2_with fail
  refine (works_below _ _ HB2.out).mono ?_
  rintro e w' ⟨rfl, hb⟩
  have HB := Lib.hid hb
  clear hb
  go_wp2
  go_ret
  exact ⟨rfl, HB.out⟩

set_option maxHeartbeats 400000 in
theorem DrawSeeds_walk (s t : ByteArray) (w : World) (hs : s.size ≤ maxLen) (ht : t.size ≤ maxLen) : Calls Try.prog 6 #[.string s, .string t] w (Holds w) := by
  unfold maxLen at hs ht
  by_cases hin : 200 < s.size ∨ 200 < t.size
  · rcases Nat.lt_or_ge 200 s.size with h | h
    · clear hin
      go_enter Try.func6, Try.ntmps6
      go_wp2_with fail
      refine (works_below _ _ (Below.refl _ _)).mono ?_
      rintro e w' ⟨rfl, hb⟩
      have HB := Lib.hid hb
      clear hb
      go_wp2
      go_ret
      exact ⟨rfl, HB.out⟩
    · have h2 : 200 < t.size := by omega
      clear hin
      go_enter Try.func6, Try.ntmps6
      go_wp2_with fail
      refine (works_below _ _ (Below.refl _ _)).mono ?_
      rintro e w' ⟨rfl, hb⟩
      have HB := Lib.hid hb
      clear hb
      go_wp2
      go_ret
      exact ⟨rfl, HB.out⟩
  · obtain ⟨hs2, ht2⟩ : s.size ≤ 200 ∧ t.size ≤ 200 := by omega
    have M1 := Lib.hid (fun (W : World) => Seed_any s t W hs2 ht2)
    have M2 := Lib.hid (fun (W : World) => refSeed_any s t W hs2 ht2)
    clear hin
    generalize ((fnv (s.data.toList ++ 47 :: t.data.toList) : Nat) : Int) = m at *
    go_enter Try.func6, Try.ntmps6
    go_wp2_with fail
    refine (M1.out _).mono ?_
    rintro e w' ⟨rfl, rfl⟩
    go_wp2_with fail
    refine (M2.out _).mono ?_
    rintro e w1 ⟨rfl, hb⟩
    have HB := Lib.hid hb
    clear hb
    go_wp2_with fail
    refine (works_below _ _ HB.out).mono ?_
    rintro e w' ⟨rfl, hb⟩
    have HB := Lib.hid hb
    clear hb
    go_wp2
    go_ret
    exact ⟨rfl, HB.out⟩
end Go.Proofs.Ytenpeolaikimbaa
