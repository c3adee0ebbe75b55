/-
  The walks of WireRange and WirePuts.
-/
import Derived.Test.YtlhloebpppmgdaaLawC
namespace Go.Proofs.Ytlhloebpppmgdaa
open Go.RowKit

set_option maxHeartbeats 1000000 in
theorem WireRange_walk (n low high : Int) (w : World) (h1 : -9223372036854775808 ≤ n) (h2 : n ≤ 9223372036854775807) (_ : -9223372036854775808 ≤ low) (_ : low ≤ 9223372036854775807) (_ : -9223372036854775808 ≤ high) (_ : high ≤ 9223372036854775807) :
    Calls Try.prog 8 #[.int .i64 n, .int .i64 low, .int .i64 high] w (Holds w) := by
  have hel := enc_len n
  have HI := Lib.hid (intR_enc (low := low) (high := high) h1 h2 [])
  rw [List.append_nil] at HI
  have H12 : Hid (-9223372036854775808 ≤ n ∧ n ≤ 9223372036854775807) := Lib.hid ⟨h1, h2⟩
  clear h1 h2
  go_enter Try.func8, Try.ntmps8
  go_wp2_with fail
  refine (refPutInt_nil n _ H12.out.1 H12.out.2).mono ?_
  rintro e w1 ⟨v1, rfl, hown, hb1⟩
  obtain ⟨A1, c1, rfl, hc1, _⟩ := own_form hown
  have R1 := Lib.hid (Rb.own hown)
  have B1 := Lib.hid hb1
  clear hown hb1
  go_wp2_with fail
  refine (wOpen_any R1.out (Nat.le_refl _) (by omega)).mono ?_
  rintro e w2 ⟨p, rfl, hp, hpl, hb⟩
  have P2 := Lib.hid hp
  have L2 : Hid (w.heap.size ≤ p) := Lib.hid (by have := B1.out.size; omega)
  have B2 := Lib.hid (B1.out.trans (hb.mono B1.out.size))
  clear hp hb hpl
  go_wp2_with fail
  refine (wInt_ok low high P2.out).mono ?_
  rw [HI.out]
  by_cases hr : n < low ∨ high < n
  · rw [if_pos hr]
    rintro e w3 ⟨rfl, hg, hq⟩
    have P3 := Lib.hid hq
    have B3 := Lib.hid (below_only B2.out hg B2.out.size L2.out)
    clear hg hq
    have T : Hid (decide (low ≤ n) = false ∨ (decide (low ≤ n) = true ∧ decide (n ≤ high) = false)) := Lib.hid (by
      rcases Int.lt_or_le n low with h | h
      · left; rw [decide_eq_false_iff_not]; omega
      · right; exact ⟨by rw [decide_eq_true_eq]; omega, by rw [decide_eq_false_iff_not]; omega⟩)
    clear hr
    rcases T.out with t1 | ⟨t1, t2⟩
    · go_wp2_with fail
      refine (wErr_any P3.out).mono ?_
      rintro e w' ⟨rfl, rfl⟩
      go_wp2_with fail
      refine (wLeft_err P3.out (by decide)).mono ?_
      rintro e w' ⟨rfl, rfl⟩
      go_wp2_with fail
      refine (works_below _ _ B3.out).mono ?_
      rintro e w4 ⟨rfl, hb4⟩
      have B4 := Lib.hid hb4
      clear hb4
      go_wp2
      go_ret
      exact ⟨rfl, B4.out⟩
    · go_wp2_with fail
      refine (wErr_any P3.out).mono ?_
      rintro e w' ⟨rfl, rfl⟩
      go_wp2_with fail
      refine (wLeft_err P3.out (by decide)).mono ?_
      rintro e w' ⟨rfl, rfl⟩
      go_wp2_with fail
      refine (works_below _ _ B3.out).mono ?_
      rintro e w4 ⟨rfl, hb4⟩
      have B4 := Lib.hid hb4
      clear hb4
      go_wp2
      go_ret
      exact ⟨rfl, B4.out⟩
  · rw [if_neg hr]
    have t1 : decide (low ≤ n) = true := by rw [decide_eq_true_eq]; omega
    have t2 : decide (n ≤ high) = true := by rw [decide_eq_true_eq]; omega
    clear hr
    rintro e w3 ⟨rfl, hg, hq⟩
    have P3 := Lib.hid hq
    have B3 := Lib.hid (below_only B2.out hg B2.out.size L2.out)
    clear hg hq
    go_wp2_with fail
    refine (wErr_any P3.out).mono ?_
    rintro e w' ⟨rfl, rfl⟩
    go_wp2_with fail
    refine (works_below _ _ B3.out).mono ?_
    rintro e w4 ⟨rfl, hb4⟩
    have B4 := Lib.hid hb4
    clear hb4
    go_wp2
    go_ret
    exact ⟨rfl, B4.out⟩

set_option maxHeartbeats 2000000 in
theorem WirePuts_walk (A : Option Addr) (n c : Nat) (l : List UInt8) (x : Int) (s : ByteArray) (y : Bool) (w : World) (hr : Rb w w.heap.size A n l) (_ : n ≤ c) (_ : c ≤ maxLen) (h1 : -9223372036854775808 ≤ x) (h2 : x ≤ 9223372036854775807) (_ : s.size ≤ maxLen) :
    Calls Try.prog 3 #[.slice A n c, .int .i64 x, .string s, .bool y] w (Holds w) := by
  have HR := Lib.hid hr
  have H12 : Hid (-9223372036854775808 ≤ x ∧ x ≤ 9223372036854775807) := Lib.hid ⟨h1, h2⟩
  clear hr h1 h2
  by_cases hbig : 100 < n ∨ 300 < s.size
  · have T : Hid (decide ((100 : Int) < (n : Int)) = true ∨ (decide ((100 : Int) < (n : Int)) = false ∧ decide ((300 : Int) < (s.size : Int)) = true)) := Lib.hid (by
      rcases Nat.lt_or_ge 100 n with h | h
      · left; rw [decide_eq_true_eq]; omega
      · right; exact ⟨by rw [decide_eq_false_iff_not]; omega, by rw [decide_eq_true_eq]; omega⟩)
    clear hbig
    rcases T.out with t1 | ⟨t1, t2⟩
    all_goals
      go_enter Try.func3, Try.ntmps3
      go_wp2_with fail
      refine (works_below _ _ (Below.refl _ _)).mono ?_
      rintro e w4 ⟨rfl, hb4⟩
      have B4 := Lib.hid hb4
      clear hb4
      go_wp2
      go_ret
      exact ⟨rfl, B4.out⟩
  · have t1 : decide ((100 : Int) < (n : Int)) = false := by rw [decide_eq_false_iff_not]; omega
    have t2 : decide ((300 : Int) < (s.size : Int)) = false := by rw [decide_eq_false_iff_not]; omega
    have hn : n ≤ 100 := by omega
    have hs : s.size ≤ 300 := by omega
    have HN := Lib.hid hn
    have HS := Lib.hid hs
    have hxl := enc_len x
    have HXL := Lib.hid hxl
    clear hbig hn hs hxl
    go_enter Try.func3, Try.ntmps3
    go_wp2_with fail
    refine (PutInt_any A n c l w.heap.size w x HR.out (Nat.le_refl _) (by have := HN.out; omega) H12.out.1 H12.out.2).mono ?_
    intro e w1 hres
    obtain ⟨A1, n1, c1, rfl, N1, i1, j1, R1, _, hb⟩ := own_named hres
    clear hres
    have B1 := Lib.hid hb.out
    clear hb
    go_wp2_with fail
    refine (refPutInt_any A n c l w.heap.size w1 x (HR.out.below B1.out) B1.out.size (by have := HN.out; omega) H12.out.1 H12.out.2).mono ?_
    intro e w2 hres
    obtain ⟨A2, n2, c2, rfl, N2, i2, j2, R2, _, hb⟩ := own_named hres
    clear hres
    have R1 := Lib.hid (R1.out.below hb.out)
    have B2 := Lib.hid (B1.out.trans (hb.out.mono B1.out.size))
    clear hb
    go_wp2_with fail
    refine (equal_yes R1.out R2.out (by omega) rfl).mono ?_
    rintro e w3 ⟨rfl, k3, rfl⟩
    obtain ⟨w3, hw3⟩ : ∃ w3, w3 = w2.drewN k3 := ⟨_, rfl⟩
    have B3 : Hid (Below w.heap.size w w3) := Lib.hid (by rw [hw3]; exact below_drewN B2.out _)
    rw [← hw3]
    clear hw3 R1 R2
    go_wp2_with fail
    refine (PutText_any A n c l w.heap.size w3 s (HR.out.below B3.out) B3.out.size (by have := HN.out; omega) (by have := HS.out; omega)).mono ?_
    intro e w4 hres
    obtain ⟨A4, n4, c4, rfl, N4, i4, j4, R4, _, hb⟩ := own_named hres
    clear hres
    have B4 := Lib.hid (B3.out.trans (hb.out.mono B3.out.size))
    clear hb
    go_wp2_with fail
    refine (refPutText_any A n c l w.heap.size w4 s (HR.out.below B4.out) B4.out.size (by have := HN.out; omega) (by have := HS.out; omega)).mono ?_
    intro e w5 hres
    obtain ⟨A5, n5, c5, rfl, N5, i5, j5, R5, _, hb⟩ := own_named hres
    clear hres
    have R4 := Lib.hid (R4.out.below hb.out)
    have B5 := Lib.hid (B4.out.trans (hb.out.mono B4.out.size))
    clear hb
    go_wp2_with fail
    refine (equal_yes R4.out R5.out (by omega) rfl).mono ?_
    rintro e w6 ⟨rfl, k6, rfl⟩
    obtain ⟨w6, hw6⟩ : ∃ w6, w6 = w5.drewN k6 := ⟨_, rfl⟩
    have B6 : Hid (Below w.heap.size w w6) := Lib.hid (by rw [hw6]; exact below_drewN B5.out _)
    rw [← hw6]
    clear hw6 R4 R5
    go_wp2_with fail
    refine (PutBool_any A n c l w.heap.size w6 y (HR.out.below B6.out) B6.out.size (by have := HN.out; omega)).mono ?_
    intro e w7 hres
    obtain ⟨A7, n7, c7, rfl, N7, i7, j7, R7, _, hb⟩ := own_named hres
    clear hres
    have B7 := Lib.hid (B6.out.trans (hb.out.mono B6.out.size))
    clear hb
    go_wp2_with fail
    refine (refPutBool_any A n c l w.heap.size w7 y (HR.out.below B7.out) B7.out.size (by have := HN.out; omega)).mono ?_
    intro e w8 hres
    obtain ⟨A8, n8, c8, rfl, N8, i8, j8, R8, _, hb⟩ := own_named hres
    clear hres
    have R7 := Lib.hid (R7.out.below hb.out)
    have B8 := Lib.hid (B7.out.trans (hb.out.mono B7.out.size))
    clear hb
    go_wp2_with fail
    refine (equal_yes R7.out R8.out (by omega) rfl).mono ?_
    rintro e w9 ⟨rfl, k9, rfl⟩
    obtain ⟨w9, hw9⟩ : ∃ w9, w9 = w8.drewN k9 := ⟨_, rfl⟩
    have B9 : Hid (Below w.heap.size w w9) := Lib.hid (by rw [hw9]; exact below_drewN B8.out _)
    rw [← hw9]
    clear hw9 R7 R8
    go_wp2_with fail
    refine (works_below _ _ B9.out).mono ?_
    rintro e w10 ⟨rfl, hb10⟩
    have B10 := Lib.hid hb10
    clear hb10
    go_wp2
    go_ret
    exact ⟨rfl, B10.out⟩
end Go.Proofs.Ytlhloebpppmgdaa
