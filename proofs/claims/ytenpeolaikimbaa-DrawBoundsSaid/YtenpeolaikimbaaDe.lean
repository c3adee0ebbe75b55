/-
  The walks of DrawJitters and DrawBounds; an argument that is an array of two integers, opened.
-/
import Derived.Test.YtenpeolaikimbaaDd
import Derived.Test.YtenpeolaikimbaaFrame
import Derived.Deep.RegionHeld3
namespace Go.Proofs.Ytenpeolaikimbaa
open Go.RowKit

set_option maxHeartbeats 1000000 in
theorem DrawJitters_walk (a k b p : Int) (w : World) (h1 : -9223372036854775808 ≤ a) (h2 : a ≤ 9223372036854775807) (h3 : -9223372036854775808 ≤ k) (h4 : k ≤ 9223372036854775807)
    (h5 : -9223372036854775808 ≤ b) (h6 : b ≤ 9223372036854775807) (h7 : -9223372036854775808 ≤ p) (h8 : p ≤ 9223372036854775807) :
    Calls Try.prog 4 #[.agg #[.int .i64 a, .int .i64 k], .int .i64 b, .int .i64 p] w (Holds w) := by
  have M1 := Lib.hid (fun (W : World) => Jitter_any a k b p W h1 h2 h3 h4 h5 h6 h7 h8)
  have M2 := Lib.hid (fun (W : World) => refJitter_any a k b p W h1 h2 h3 h4 h5 h6 h7 h8)
  generalize jit a k b p = m at *
  clear h1 h2 h3 h4
  go_enter Try.func4, Try.ntmps4
  go_wp2_with fail
  have B0 : Hid (Below w.heap.size w (w.alloc (.cells #[.int .i64 a, .int .i64 k] 26))) := Lib.hid ((Below.refl _ _).alloc (Nat.le_refl _) _)
  have hlt : w.heap.size < (w.alloc (.cells #[.int .i64 a, .int .i64 k] 26)).heap.size := by rw [World.size_alloc]; omega
  have c1 : (w.alloc (.cells #[.int .i64 a, .int .i64 k] 26)).cell? ⟨w.heap.size, 0, none⟩ = some (.int .i64 a) := by rw [World.cell?_alloc_at _ _ _ _ rfl]; rfl
  have c2 : (w.alloc (.cells #[.int .i64 a, .int .i64 k] 26)).cell? ⟨w.heap.size, 1, none⟩ = some (.int .i64 k) := by rw [World.cell?_alloc_at _ _ _ _ rfl]; rfl
  generalize w.alloc (.cells #[.int .i64 a, .int .i64 k] 26) = W at *
  go_region_held3 (fun w' => w'.cell? ⟨w.heap.size, 0, none⟩ = some (.int .i64 a) ∧ w'.cell? ⟨w.heap.size, 1, none⟩ = some (.int .i64 k))
    (first
      | go_keep
      | exact kA
      | exact kB)
    (first
      | (go_at_call 12; refine (M1.out _).mono ?_; rintro _ w' ⟨rfl, rfl⟩)
      | (go_at_call 13; refine (M2.out _).mono ?_; rintro _ wA ⟨rfl, hbA⟩; have kA := And.intro ((hbA.cell (p := ⟨w.heap.size, 0, none⟩) hlt).trans c1) ((hbA.cell (p := ⟨w.heap.size, 1, none⟩) hlt).trans c2); have BA := Lib.hid hbA; clear hbA)
      | (go_at_call 11; refine (works_any _).mono ?_; rintro _ wB ⟨rfl, hbB⟩; have kB := And.intro ((hbB.cell (p := ⟨w.heap.size, 0, none⟩) (Nat.lt_of_lt_of_le hlt BA.out.size)).trans kA.1) ((hbB.cell (p := ⟨w.heap.size, 1, none⟩) (Nat.lt_of_lt_of_le hlt BA.out.size)).trans kA.2); have BB := Lib.hid hbB; clear hbB))
  have BF := Lib.hid ((B0.out.drew.trans (BA.out.mono (Nat.le_of_lt hlt))).trans (BB.out.mono (Nat.le_trans (Nat.le_of_lt hlt) BA.out.size)))
  clear kA kB
  go_wp2
  go_ret
  exact ⟨rfl, BF.out⟩

theorem jit_out {a k b p : Int} (h : b < 0 ∨ 1099511627776 < b ∨ p < 0 ∨ 100 < p) : jit a k b p = b := by unfold jit; rw [if_pos h]
theorem jit_in {a k b p : Int} (hb1 : 0 ≤ b) (hb2 : b ≤ 1099511627776) (hp1 : 0 ≤ p) (hp2 : p ≤ 100) : b * (100 - p) / 100 ≤ jit a k b p ∧ jit a k b p ≤ b * (100 + p) / 100 := by
  obtain ⟨l1, l2⟩ := belw_bd (s := a) (k := k) (n := 2 * p + 1)
  unfold jit
  rw [if_neg (by omega)]
  generalize belw a k (2 * p + 1) = m at *
  constructor
  · exact Int.ediv_le_ediv (by omega) (Int.mul_le_mul_of_nonneg_left (by omega) hb1)
  · exact Int.ediv_le_ediv (by omega) (Int.mul_le_mul_of_nonneg_left (by omega) hb1)
set_option maxHeartbeats 1000000 in
theorem DrawBounds_walk (a k n b p : Int) (w : World) (h1 : -9223372036854775808 ≤ a) (h2 : a ≤ 9223372036854775807) (h3 : -9223372036854775808 ≤ k) (h4 : k ≤ 9223372036854775807)
    (h5 : -9223372036854775808 ≤ n) (h6 : n ≤ 9223372036854775807) (h7 : -9223372036854775808 ≤ b) (h8 : b ≤ 9223372036854775807) (h9 : -9223372036854775808 ≤ p) (h10 : p ≤ 9223372036854775807) :
    Calls Try.prog 5 #[.agg #[.int .i64 a, .int .i64 k], .int .i64 n, .agg #[.int .i64 b, .int .i64 p]] w (Holds w) := by
  have M1 := Lib.hid (fun (W : World) => Below_any a k n W h1 h2 h3 h4 h5 h6)
  have M2 := Lib.hid (fun (W : World) => Jitter_any a k b p W h1 h2 h3 h4 h7 h8 h9 h10)
  obtain ⟨l1, l2⟩ := belw_bd (s := a) (k := k) (n := n)
  have l3 : n < 1 ∧ belw a k n = 0 ∨ 1 ≤ n ∧ belw a k n < n := by
    rcases Int.lt_or_le n 1 with h | h
    · exact .inl ⟨h, belw_0 h⟩
    · exact .inr ⟨h, by omega⟩
  generalize belw a k n = x at *
  have ho : (b < 0 ∨ 0 ≤ b ∧ 1099511627776 < b ∨ (0 ≤ b ∧ b ≤ 1099511627776) ∧ p < 0 ∨ (0 ≤ b ∧ b ≤ 1099511627776) ∧ 0 ≤ p ∧ 100 < p) ∧ jit a k b p = b ∨
      (0 ≤ b ∧ b ≤ 1099511627776 ∧ 0 ≤ p ∧ p ≤ 100) ∧ b * (100 - p) / 100 ≤ jit a k b p ∧ jit a k b p ≤ b * (100 + p) / 100 := by
    by_cases hin : b < 0 ∨ 1099511627776 < b ∨ p < 0 ∨ 100 < p
    · exact .inl ⟨by omega, jit_out hin⟩
    · exact .inr ⟨by omega, jit_in (by omega) (by omega) (by omega) (by omega)⟩
  have hj : ∃ m, m = jit a k b p := ⟨_, rfl⟩
  obtain ⟨j, hj⟩ := hj
  rw [← hj] at ho M2
  clear h1 h2 h3 h4 l2 hj
  rcases ho with ⟨ho, hjb⟩ | ⟨ho, hlo, hhi⟩
  · subst hjb
    rcases l3 with ⟨hn, hx⟩ | ⟨hn, hx⟩
    · subst hx
      rcases ho with hb | hb | ⟨hb, hp⟩ | ⟨hb, hp1, hp2⟩
      all_goals (
        go_enter Try.func5, Try.ntmps5
        go_wp2_with fail
        refine (M1.out _).mono ?_
        rintro e w' ⟨rfl, rfl⟩
        go_wp2_with fail
        go_region
        go_wp2_with fail
        refine (M2.out _).mono ?_
        rintro e w' ⟨rfl, rfl⟩
        go_wp2_with fail
        refine (works_below _ w (((Below.refl _ _).alloc (Nat.le_refl _) _).alloc (by simp) _).drew).mono ?_
        rintro e w' ⟨rfl, hb⟩
        have HB := Lib.hid hb
        clear hb
        go_wp2
        go_ret
        exact ⟨rfl, HB.out⟩)
    · rcases ho with hb | hb | ⟨hb, hp⟩ | ⟨hb, hp1, hp2⟩
      all_goals (
        go_enter Try.func5, Try.ntmps5
        go_wp2_with fail
        refine (M1.out _).mono ?_
        rintro e w' ⟨rfl, rfl⟩
        go_wp2_with fail
        go_region
        go_wp2_with fail
        refine (M2.out _).mono ?_
        rintro e w' ⟨rfl, rfl⟩
        go_wp2_with fail
        refine (works_below _ w (((Below.refl _ _).alloc (Nat.le_refl _) _).alloc (by simp) _).drew).mono ?_
        rintro e w' ⟨rfl, hb⟩
        have HB := Lib.hid hb
        clear hb
        go_wp2
        go_ret
        exact ⟨rfl, HB.out⟩)
  · obtain ⟨q1, q2⟩ := jit_mul (f := 100 - p) ho.1 ho.2.1 (by omega) (by omega)
    obtain ⟨q3, q4⟩ := jit_mul (f := 100 + p) ho.1 ho.2.1 (by omega) (by omega)
    rcases l3 with ⟨hn, hx⟩ | ⟨hn, hx⟩
    · subst hx
      go_enter Try.func5, Try.ntmps5
      go_wp2_with fail
      refine (M1.out _).mono ?_
      rintro e w' ⟨rfl, rfl⟩
      go_wp2_with fail
      go_region
      go_wp2_with fail
      refine (M2.out _).mono ?_
      rintro e w' ⟨rfl, rfl⟩
      go_wp2_with fail
      refine (works_below _ w (((Below.refl _ _).alloc (Nat.le_refl _) _).alloc (by simp) _).drew).mono ?_
      rintro e w' ⟨rfl, hb⟩
      have HB := Lib.hid hb
      clear hb
      go_wp2
      go_ret
      exact ⟨rfl, HB.out⟩
    ·
      go_enter Try.func5, Try.ntmps5
      go_wp2_with fail
      refine (M1.out _).mono ?_
      rintro e w' ⟨rfl, rfl⟩
      go_wp2_with fail
      go_region
      go_wp2_with fail
      refine (M2.out _).mono ?_
      rintro e w' ⟨rfl, rfl⟩
      go_wp2_with fail
      refine (works_below _ w (((Below.refl _ _).alloc (Nat.le_refl _) _).alloc (by simp) _).drew).mono ?_
      rintro e w' ⟨rfl, hb⟩
      have HB := Lib.hid hb
      clear hb
      go_wp2
      go_ret
      exact ⟨rfl, HB.out⟩

open Go.ChangeShapes Go.WideShapes Go.ChangeAt in
theorem opens.pair {H : Type} {enc : TypeId × Value → H} {W : World} {base : Nat} {spare : Nat → Bool} {held : Bool} {r : Reach} {b0 : Nat} {v : Value} {d : DataW H} {ps : List MemPlace}
    (hval : Value.okWide Try.prog W r b0 26 v) (hd : DataW.Trod enc Try.prog W base spare held 26 v d ps) :
    ∃ a b : Int, v = .agg #[.int .i64 a, .int .i64 b] ∧ (-9223372036854775808 ≤ a ∧ a ≤ 9223372036854775807) ∧ (-9223372036854775808 ≤ b ∧ b ≤ 9223372036854775807) := by
  have hu : Try.prog.underlying 26 = some (.array 2 3) := by kernel_rfl
  have hone : Try.prog.cellsOf 3 = 1 := by kernel_rfl
  have hC : Try.prog.cellsOf 26 = 2 := by kernel_rfl
  have hform : ∃ xs : Array Value, v = .agg xs ∧ xs.size = 2 := by
    simp only [Value.okWide, hu] at hval
    obtain ⟨cs, h1, h2, _⟩ := hval
    exact ⟨cs, h1, by rw [h2, hC]⟩
  obtain ⟨cs, rfl, hs⟩ := hform
  obtain ⟨c0, c1, rfl⟩ : ∃ c0 c1, cs = #[c0, c1] := by
    rcases cs with ⟨l⟩
    match l, hs with
    | [c0, c1], _ => exact ⟨c0, c1, rfl⟩
  obtain ⟨fuel, hf⟩ := hd
  obtain ⟨xs, m, _, _, _, hl, hx⟩ := DataW.trod_array hu hf
  have h0 := hx 0 (by omega)
  have h1 := hx 1 (by omega)
  rw [hone] at h0 h1
  simp only [Value.cells] at h0 h1
  rw [List.getElem?_eq_getElem (by omega)] at h0 h1
  obtain ⟨a, ea, _, wa⟩ := DataW.trod_int Try.underlying3 h0
  obtain ⟨b, eb, _, wb⟩ := DataW.trod_int Try.underlying3 h1
  simp at ea eb
  subst ea eb
  exact ⟨a, b, rfl, opens.int64 wa, opens.int64 wb⟩
end Go.Proofs.Ytenpeolaikimbaa
