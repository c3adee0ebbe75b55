/-
  The walk of WireRound.
-/
import Derived.Test.YtlhloebpppmgdaaLawC
namespace Go.Proofs.Ytlhloebpppmgdaa
open Go.RowKit

theorem textR_enc (s r : List UInt8) (most : Int) (h : (s.length : Int) ≤ most) (hs : s.length ≤ 9223372036854775807) : textR (encText s ++ r) most = (s, r, 0) := by
  have hi := intR_enc (low := 0) (high := most) (n := (s.length : Int)) (by omega) (by omega) (s ++ r)
  rw [if_neg (by omega)] at hi
  unfold textR encText
  rw [List.append_assoc, hi]
  simp only [ne_eq, not_true_eq_false, ↓reduceIte, Int.toNat_natCast]
  rw [if_neg (by rw [List.length_append]; omega), List.take_left, List.drop_left]
theorem boolR_enc (y : Bool) (r : List UInt8) : boolR (boolBytes y ++ r) = (y, r, 0) := by
  cases y <;> rfl
theorem str_back (s : ByteArray) : (⟨s.data.toList.toArray⟩ : ByteArray) = s := by
  cases s; simp

set_option maxHeartbeats 2000000 in
theorem WireRound_walk (x : Int) (s : ByteArray) (y : Bool) (A : Option Addr) (n c : Nat) (l : List UInt8) (w : World) (h1 : -9223372036854775808 ≤ x) (h2 : x ≤ 9223372036854775807) (_ : s.size ≤ maxLen) (hr : Rb w w.heap.size A n l) (_ : n ≤ c) (_ : c ≤ maxLen) :
    Calls Try.prog 5 #[.int .i64 x, .string s, .bool y, .slice A n c] w (Holds w) := by
  have HR := Lib.hid hr
  have H12 : Hid (-9223372036854775808 ≤ x ∧ x ≤ 9223372036854775807) := Lib.hid ⟨h1, h2⟩
  clear hr h1 h2
  by_cases hbig : 300 < s.size ∨ 50 < n
  · have T : Hid (decide ((300 : Int) < (s.size : Int)) = true ∨ (decide ((300 : Int) < (s.size : Int)) = false ∧ decide ((50 : Int) < (n : Int)) = true)) := Lib.hid (by
      rcases Nat.lt_or_ge 300 s.size with h | h
      · left; rw [decide_eq_true_eq]; omega
      · right; exact ⟨by rw [decide_eq_false_iff_not]; omega, by rw [decide_eq_true_eq]; omega⟩)
    clear hbig
    rcases T.out with t1 | ⟨t1, t2⟩
    all_goals
      go_enter Try.func5, Try.ntmps5
      go_wp2_with fail
      refine (works_below _ _ (Below.refl _ _)).mono ?_
      rintro e w4 ⟨rfl, hb4⟩
      have B4 := Lib.hid hb4
      clear hb4
      go_wp2
      go_ret
      exact ⟨rfl, B4.out⟩
  · have t1 : decide ((300 : Int) < (s.size : Int)) = false := by rw [decide_eq_false_iff_not]; omega
    have t2 : decide ((50 : Int) < (n : Int)) = false := by rw [decide_eq_false_iff_not]; omega
    have HN : Hid (n ≤ 50) := Lib.hid (by omega)
    have HS : Hid (s.size ≤ 300) := Lib.hid (by omega)
    have HXL := Lib.hid (enc_len x)
    have HSL := Lib.hid (enc_len (s.size : Nat))
    obtain ⟨i, hi, hz, hs, hb⟩ := info_parts Try.infob
    clear hbig
    go_enter Try.func5, Try.ntmps5
    go_wp2_with fail
    refine (PutInt_nil x w H12.out.1 H12.out.2).mono ?_
    intro e w1 hres
    obtain ⟨A1, n1, c1, rfl, N1, i1, j1, R1, _, hb1⟩ := own_named hres
    clear hres
    have B1 := Lib.hid hb1.out
    clear hb1
    go_wp2_with fail
    refine (PutText_any A1 n1 c1 (enc x) _ w1 s R1.out (Nat.le_refl _) (by have := N1.out; have := HXL.out; omega) (by have := HS.out; omega)).mono ?_
    intro e w2 hres
    obtain ⟨A2, n2, c2, rfl, N2, i2, j2, R2, _, hb2⟩ := own_named hres
    clear hres
    have B2 := Lib.hid (B1.out.trans (hb2.out.mono B1.out.size))
    clear hb2
    have M2 : Hid (n2 ≤ 400) := Lib.hid (by
      have h := N2.out
      have e1 : s.data.toList.length = s.size := by rw [Array.length_toList]; rfl
      unfold encText at h
      rw [List.length_append, List.length_append, e1] at h
      have := HXL.out; have := HSL.out; have := HS.out
      omega)
    go_wp2_with fail
    refine (PutBool_any A2 n2 c2 _ _ w2 y R2.out (Nat.le_refl _) (by have := M2.out; omega)).mono ?_
    intro e w3 hres
    obtain ⟨A3, n3, c3, rfl, N3, i3, j3, R3, O3, hb3⟩ := own_named hres
    clear hres
    have B3 := Lib.hid (B2.out.trans (hb3.out.mono B2.out.size))
    have M3 : Hid (n3 ≤ 401) := Lib.hid (by
      have h := N3.out
      have h2 := N2.out
      rw [List.length_append, h2] at h
      have : (boolBytes y).length = 1 := rfl
      have := M2.out
      omega)
    go_wp2_with (at_builtin; refine wpList_append_b8 rfl _ _ 22 rfl w2.heap.size 5 i (.int .u8 0) Try.underlying22 hi hz hs hb rfl _ n3 _ rfl O3.out w.heap.size A n c l rfl (HR.out.below B3.out) ?_ ?_ ?_)
    · have := HN.out; have := M3.out; omega
    · exact hb3.out.size
    · intro v4 w4 hown hg
      obtain ⟨L, hL⟩ : ∃ L, L = enc x ++ (encText s.data.toList ++ (boolBytes y ++ l)) := ⟨_, rfl⟩
      have hown4 : w4.ownsRow w2.heap.size 5 1 v4 (n3 + n) (L.map b8) := by
        rw [hL]
        simpa using hown
      have B4 : Hid (Below w.heap.size w w4) := Lib.hid (B3.out.grown hg B3.out.size (fun k hk => Nat.le_trans B2.out.size ((O3.out.lt k hk).1)))
      obtain ⟨n4, hn4⟩ : ∃ n4, n4 = n3 + n := ⟨_, rfl⟩
      rw [← hn4] at hown4
      obtain ⟨A4, c4, rfl, i4, _⟩ := own_form hown4
      have R4 := Lib.hid (Rb.own hown4)
      have M4 : Hid (n4 ≤ 451) := Lib.hid (by have := HN.out; have := M3.out; omega)
      have HL := Lib.hid hL
      clear hown hown4 hg hb3 hn4 hL
      go_wp2_with fail
      refine (wOpen_any R4.out (Nat.le_refl _) (by have := M4.out; omega)).mono ?_
      rintro e w5 ⟨p, rfl, hp, hpl, hb5⟩
      have P5 := Lib.hid hp
      have L5 : Hid (w.heap.size ≤ p) := Lib.hid (by have := B4.out.size; omega)
      have B5 := Lib.hid (B4.out.trans (hb5.mono B4.out.size))
      clear hp hb5 hpl
      have HI : Hid (intR L x x = (x, encText s.data.toList ++ (boolBytes y ++ l), 0)) := Lib.hid (by rw [HL.out, intR_enc H12.out.1 H12.out.2, if_neg (by omega)])
      go_wp2_with fail
      refine (wInt_ok x x P5.out).mono ?_
      rw [HI.out]
      rintro e w6 ⟨rfl, hg, hq⟩
      have P6 := Lib.hid hq
      have B6 := Lib.hid (below_only B5.out hg B5.out.size L5.out)
      clear hg hq
      have HT : Hid (textR (encText s.data.toList ++ (boolBytes y ++ l)) (s.size : Nat) = (s.data.toList, boolBytes y ++ l, 0)) := Lib.hid (by
        have e1 : s.data.toList.length = s.size := by rw [Array.length_toList]; rfl
        exact textR_enc _ _ _ (by omega) (by have := HS.out; omega))
      go_wp2_with fail
      refine (wText_ok (s.size : Nat) P6.out).mono ?_
      rw [HT.out, str_back]
      rintro e w7 ⟨rfl, hg, hq⟩
      have P7 := Lib.hid hq
      have B7 := Lib.hid (below_only B6.out hg B6.out.size L5.out)
      clear hg hq
      go_wp2_with fail
      refine (wBool_ok P7.out).mono ?_
      rw [boolR_enc]
      rintro e w8 ⟨rfl, hg, hq⟩
      have P8 := Lib.hid hq
      have B8 := Lib.hid (below_only B7.out hg B7.out.size L5.out)
      clear hg hq
      go_wp2_with fail
      refine (wErr_any P8.out).mono ?_
      rintro e w' ⟨rfl, rfl⟩
      go_wp2_with fail
      refine (wLeft_ok P8.out).mono ?_
      rintro e w' ⟨rfl, rfl⟩
      rw [HR.out.len]
      go_wp2_with fail
      refine (works_below _ _ B8.out).mono ?_
      rintro e w10 ⟨rfl, hb10⟩
      have B10 := Lib.hid hb10
      clear hb10
      go_wp2
      go_ret
      exact ⟨rfl, B10.out⟩
end Go.Proofs.Ytlhloebpppmgdaa
