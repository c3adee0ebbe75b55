/-
  The walk of WireCanonical.
-/
import Derived.Test.YtlhloebpppmgdaaLawE
namespace Go.Proofs.Ytlhloebpppmgdaa
open Go.RowKit

/-- what a read of an integer leaves: an error, or exactly an encoding -/
theorem int_out (l : List UInt8) (low high : Int) : ∃ a r e, intR l low high = (a, r, e) ∧ (e ≠ 0 ∨ (e = 0 ∧ ∃ k m, k ≤ l.length ∧ m + k = l.length ∧ r.length = m ∧ enc a = l.take k ∧ -9223372036854775808 ≤ a ∧ a ≤ 9223372036854775807)) := by
  rcases intR_ways l low high with (h | h | h) | ⟨k, hk, _, _, h, _, _, he, hv⟩
  · exact ⟨_, _, _, h, .inl (by decide)⟩
  · exact ⟨_, _, _, h, .inl (by decide)⟩
  · exact ⟨_, _, _, h, .inl (by decide)⟩
  · exact ⟨_, _, _, h, .inr ⟨rfl, k, l.length - k, hk, by omega, by rw [List.length_drop], he, (unz_in hv).1, (unz_in hv).2⟩⟩
theorem text_out (l : List UInt8) (most : Int) : ∃ s r e, textR l most = (s, r, e) ∧ (e ≠ 0 ∨ (e = 0 ∧ ∃ k m, k ≤ l.length ∧ m + k = l.length ∧ r.length = m ∧ encText s = l.take k ∧ s.length ≤ l.length)) := by
  rcases intR_ways l 0 most with h | ⟨k, hk, _, _, h, h0, _, he, _⟩
  · have hT : textR l most = ([], [], (intR l 0 most).2.2) ∧ (intR l 0 most).2.2 ≠ 0 := by
      rcases h with h | h | h <;> simp [textR, h]
    exact ⟨_, _, _, hT.1, .inl hT.2⟩
  · obtain ⟨x, hx⟩ : ∃ x : Nat, unz (val (l.take k)) = (x : Int) := ⟨(unz (val (l.take k))).toNat, by omega⟩
    rw [hx] at h he
    by_cases hlen : (l.drop k).length < x
    · have hT : textR l most = ([], [], 4) := by
        unfold textR
        rw [h]
        simp only [ne_eq, not_true_eq_false, ↓reduceIte]
        rw [if_pos (by omega)]
      exact ⟨_, _, _, hT, .inl (by decide)⟩
    · have hT : textR l most = ((l.drop k).take x, (l.drop k).drop x, 0) := by
        unfold textR
        rw [h]
        simp only [ne_eq, not_true_eq_false, ↓reduceIte]
        rw [if_neg (by omega)]
        simp
      have hle : x ≤ l.length - k := by rw [List.length_drop] at hlen; omega
      refine ⟨_, _, _, hT, .inr ⟨rfl, k + x, l.length - (k + x), by omega, by omega, by rw [List.length_drop, List.length_drop]; omega, ?_, by rw [List.length_take, List.length_drop]; omega⟩⟩
      unfold encText
      have hl : ((l.drop k).take x).length = x := by rw [List.length_take, List.length_drop]; omega
      rw [hl, he, List.take_add]
theorem bool_out (l : List UInt8) : ∃ y r e, boolR l = (y, r, e) ∧ (e ≠ 0 ∨ (e = 0 ∧ ∃ k m, k ≤ l.length ∧ m + k = l.length ∧ r.length = m ∧ boolBytes y = l.take k)) := by
  cases l with
  | nil => exact ⟨_, _, _, rfl, .inl (by decide)⟩
  | cons x r =>
    by_cases hx : 1 < x.toNat
    · exact ⟨false, [], 3, show (if 1 < x.toNat then (false, [], 3) else (x.toNat == 1, r, 0)) = _ by rw [if_pos hx], .inl (by decide)⟩
    · refine ⟨x.toNat == 1, r, 0, show (if 1 < x.toNat then (false, [], 3) else (x.toNat == 1, r, 0)) = _ by rw [if_neg hx], .inr ⟨rfl, 1, r.length, by simp, by simp, rfl, ?_⟩⟩
      have h01 : x.toNat = 0 ∨ x.toNat = 1 := by omega
      rcases h01 with h | h
      · obtain rfl : x = 0 := u8_eq (by simpa using h)
        rfl
      · obtain rfl : x = 1 := u8_eq (by simpa using h)
        rfl
theorem PutText_nil (s : List UInt8) (w : World) (hs : s.length ≤ 30368744177000) : Calls Try.prog 14 #[.slice none 0 0, .string ⟨s.toArray⟩] w (OwnRes w (encText s)) := by
  have h := PutText_any none 0 0 [] 0 w ⟨s.toArray⟩ (Rb.nil0 _ _) (Nat.zero_le _) (by omega) (by show s.toArray.size ≤ _; simpa using hs)
  simpa using h
theorem PutBool_nil (y : Bool) (w : World) : Calls Try.prog 16 #[.slice none 0 0, .bool y] w (OwnRes w (boolBytes y)) :=
  PutBool_any none 0 0 [] 0 w y (Rb.nil0 _ _) (Nat.zero_le _) (by omega)

set_option maxHeartbeats 4000000 in
theorem WireCanonical_walk (A : Option Addr) (n c : Nat) (l : List UInt8) (w : World) (hr : Rb w w.heap.size A n l) (hnc : n ≤ c) (_ : c ≤ maxLen) :
    Calls Try.prog 6 #[.slice A n c] w (Holds w) := by
  have HR := Lib.hid hr
  clear hr
  by_cases hbig : 300 < n
  · have t1 : decide ((300 : Int) < (n : Int)) = true := by rw [decide_eq_true_eq]; omega
    clear hbig
    go_enter Try.func6, Try.ntmps6
    go_wp2_with fail
    refine (works_below _ _ (Below.refl _ _)).mono ?_
    rintro e w4 ⟨rfl, hb4⟩
    have B4 := Lib.hid hb4
    clear hb4
    go_wp2
    go_ret
    exact ⟨rfl, B4.out⟩
  have t1 : decide ((300 : Int) < (n : Int)) = false := by rw [decide_eq_false_iff_not]; omega
  have HN : Hid (n ≤ 300) := Lib.hid (by omega)
  clear hbig
  go_enter Try.func6, Try.ntmps6
  go_wp2_with fail
  refine (wOpen_any HR.out (Nat.le_refl _) (by have := HN.out; omega)).mono ?_
  rintro e w1 ⟨p, rfl, hp, hpl, hb⟩
  have P1 := Lib.hid hp
  have LP := Lib.hid hpl
  have B1 := Lib.hid hb
  clear hp hb hpl
  go_wp2_with fail
  refine (wOpen_any (HR.out.below B1.out) B1.out.size (by have := HN.out; omega)).mono ?_
  rintro e w2 ⟨q, rfl, hq, hql, hb⟩
  have NPQ : Hid (p ≠ q) := Lib.hid (by have := P1.out.lt; omega)
  have P2 := Lib.hid (P1.out.below hb)
  have Q2 := Lib.hid hq
  have LQ : Hid (w.heap.size ≤ q) := Lib.hid (by have := B1.out.size; omega)
  have B2 := Lib.hid (B1.out.trans (hb.mono B1.out.size))
  clear hq hb hql P1 B1
  go_wp2_with fail
  refine (wOpen_any (HR.out.below B2.out) B2.out.size (by have := HN.out; omega)).mono ?_
  rintro e w3 ⟨z, rfl, hz, hzl, hb⟩
  have NPZ : Hid (p ≠ z) := Lib.hid (by have := P2.out.lt; omega)
  have NQZ : Hid (q ≠ z) := Lib.hid (by have := Q2.out.lt; omega)
  have P3 := Lib.hid (P2.out.below hb)
  have Q3 := Lib.hid (Q2.out.below hb)
  have Z3 := Lib.hid hz
  have LZ : Hid (w.heap.size ≤ z) := Lib.hid (by have := B2.out.size; omega)
  have B3 := Lib.hid (B2.out.trans (hb.mono B2.out.size))
  clear hz hb hzl P2 Q2 B2
  obtain ⟨a, rx, ex, hx, hxo⟩ := int_out l (-9223372036854775808) 9223372036854775807
  obtain ⟨s, ry, ey, hy, hyo⟩ := text_out l 9223372036854775807
  obtain ⟨b, rz, ez, hz, hzo⟩ := bool_out l
  have HX := Lib.hid hx
  have HY := Lib.hid hy
  have HZ := Lib.hid hz
  have HXO := Lib.hid hxo
  have HYO := Lib.hid hyo
  have HZO := Lib.hid hzo
  clear hx hy hz hxo hyo hzo
  go_wp2_with fail
  refine (wInt_ok _ _ P3.out).mono ?_
  rw [HX.out]
  rintro e w4 ⟨rfl, hg, hq⟩
  have P4 := Lib.hid hq
  have Q4 := Lib.hid (Q3.out.otherW P3.out (fun h => NPQ.out h.symm) hg)
  have Z4 := Lib.hid (Z3.out.otherW P3.out (fun h => NPZ.out h.symm) hg)
  have B4 := Lib.hid (below_only B3.out hg B3.out.size LP.out)
  clear hg hq P3 Q3 Z3 B3
  go_wp2_with fail
  refine (wText_ok _ Q4.out).mono ?_
  rw [HY.out]
  rintro e w5 ⟨rfl, hg, hq⟩
  have P5 := Lib.hid (P4.out.otherW Q4.out NPQ.out hg)
  have Q5 := Lib.hid hq
  have Z5 := Lib.hid (Z4.out.otherW Q4.out (fun h => NQZ.out h.symm) hg)
  have B5 := Lib.hid (below_only B4.out hg B4.out.size LQ.out)
  clear hg hq P4 Q4 Z4 B4
  go_wp2_with fail
  refine (wBool_ok Z5.out).mono ?_
  rw [HZ.out]
  rintro e w6 ⟨rfl, hg, hq⟩
  have P := Lib.hid (P5.out.otherW Z5.out NPZ.out hg)
  have Q := Lib.hid (Q5.out.otherW Z5.out NQZ.out hg)
  have Z := Lib.hid hq
  have BB := Lib.hid (below_only B5.out hg B5.out.size LZ.out)
  clear hg hq P5 Q5 Z5 B5
  rcases HXO.out with hout | ⟨he0, hout⟩
  · have hne : (ex == 0) = false := by rw [beq_eq_false_iff_ne]; exact hout
    have hne2 : (ex != 0) = true := by rw [bne_iff_ne]; exact hout
    clear hout
    go_wp2_with fail
    refine (wErr_any P.out).mono ?_
    rintro e w' ⟨rfl, rfl⟩
    rcases HYO.out with hout | ⟨he0, hout⟩
    · have hne : (ey == 0) = false := by rw [beq_eq_false_iff_ne]; exact hout
      have hne2 : (ey != 0) = true := by rw [bne_iff_ne]; exact hout
      clear hout
      go_wp2_with fail
      refine (wErr_any Q.out).mono ?_
      rintro e w' ⟨rfl, rfl⟩
      rcases HZO.out with hout | ⟨he0, hout⟩
      · have hne : (ez == 0) = false := by rw [beq_eq_false_iff_ne]; exact hout
        have hne2 : (ez != 0) = true := by rw [bne_iff_ne]; exact hout
        clear hout
        go_wp2_with fail
        refine (wErr_any Z.out).mono ?_
        rintro e w' ⟨rfl, rfl⟩
        go_wp2_with fail
        refine (works_below _ _ BB.out).mono ?_
        rintro e wz ⟨rfl, hbz⟩
        have BZ := Lib.hid hbz
        clear hbz
        go_wp2
        go_ret
        exact ⟨rfl, BZ.out⟩
      · obtain ⟨k, m, hk, hm, hrm, henc⟩ := hout
        obtain rfl := he0
        have hnl := HR.out.len
        have hkc : k ≤ c := by omega
        have hkn : k ≤ n := by omega
        have hk3 : k ≤ 300 := by have := HN.out; omega
        have hsub : (n : Int) - (m : Int) = (k : Int) := by omega
        have HM : Hid ((rz.length : Nat) = m) := Lib.hid hrm
        have HE := Lib.hid henc
        clear hk hm hrm henc hnl
        go_wp2_with fail
        refine (wErr_any Z.out).mono ?_
        rintro e w' ⟨rfl, rfl⟩
        go_wp2_with fail
        refine (PutBool_nil b _).mono ?_
        intro e wa hres
        obtain ⟨Aa, na, ca, rfl, Na, ia, ja, Ra, _, hb⟩ := own_named hres
        clear hres
        have P := Lib.hid (P.out.below hb.out)
        have Q := Lib.hid (Q.out.below hb.out)
        have Z := Lib.hid (Z.out.below hb.out)
        have BB := Lib.hid (BB.out.trans (hb.out.mono BB.out.size))
        clear hb
        go_wp2_with fail
        refine (wLeft_ok Z.out).mono ?_
        rintro e w' ⟨rfl, rfl⟩
        rw [HM.out]
        go_wp2_with fail
        refine (equal_yes Ra.out ((HR.out.below BB.out).front hkn) (by omega) HE.out).mono ?_
        rintro e wb ⟨rfl, kb, rfl⟩
        obtain ⟨wb, hwb⟩ : ∃ wb, wb = wa.drewN kb := ⟨_, rfl⟩
        have hbd : Below wa.heap.size wa wb := by rw [hwb]; exact below_drewN (Below.refl _ _) _
        rw [← hwb]
        have P := Lib.hid (P.out.below hbd)
        have Q := Lib.hid (Q.out.below hbd)
        have Z := Lib.hid (Z.out.below hbd)
        have BB := Lib.hid (BB.out.trans (hbd.mono BB.out.size))
        clear hbd hwb Ra hsub hkc hkn hk3
        go_wp2_with fail
        refine (works_below _ _ BB.out).mono ?_
        rintro e wz ⟨rfl, hbz⟩
        have BZ := Lib.hid hbz
        clear hbz
        go_wp2
        go_ret
        exact ⟨rfl, BZ.out⟩
    · obtain ⟨k, m, hk, hm, hrm, henc, hmore⟩ := hout
      obtain rfl := he0
      have hnl := HR.out.len
      have hkc : k ≤ c := by omega
      have hkn : k ≤ n := by omega
      have hk3 : k ≤ 300 := by have := HN.out; omega
      have hsub : (n : Int) - (m : Int) = (k : Int) := by omega
      have HM : Hid ((ry.length : Nat) = m) := Lib.hid hrm
      have HE := Lib.hid henc
      have HO := Lib.hid hmore
      clear hk hm hrm henc hmore hnl
      go_wp2_with fail
      refine (wErr_any Q.out).mono ?_
      rintro e w' ⟨rfl, rfl⟩
      go_wp2_with fail
      refine (PutText_nil s _ (by have := HO.out; have := HR.out.len; have := HN.out; omega)).mono ?_
      intro e wa hres
      obtain ⟨Aa, na, ca, rfl, Na, ia, ja, Ra, _, hb⟩ := own_named hres
      clear hres
      have P := Lib.hid (P.out.below hb.out)
      have Q := Lib.hid (Q.out.below hb.out)
      have Z := Lib.hid (Z.out.below hb.out)
      have BB := Lib.hid (BB.out.trans (hb.out.mono BB.out.size))
      clear hb
      go_wp2_with fail
      refine (wLeft_ok Q.out).mono ?_
      rintro e w' ⟨rfl, rfl⟩
      rw [HM.out]
      go_wp2_with fail
      refine (equal_yes Ra.out ((HR.out.below BB.out).front hkn) (by omega) HE.out).mono ?_
      rintro e wb ⟨rfl, kb, rfl⟩
      obtain ⟨wb, hwb⟩ : ∃ wb, wb = wa.drewN kb := ⟨_, rfl⟩
      have hbd : Below wa.heap.size wa wb := by rw [hwb]; exact below_drewN (Below.refl _ _) _
      rw [← hwb]
      have P := Lib.hid (P.out.below hbd)
      have Q := Lib.hid (Q.out.below hbd)
      have Z := Lib.hid (Z.out.below hbd)
      have BB := Lib.hid (BB.out.trans (hbd.mono BB.out.size))
      clear hbd hwb Ra hsub hkc hkn hk3
      rcases HZO.out with hout | ⟨he0, hout⟩
      · have hne : (ez == 0) = false := by rw [beq_eq_false_iff_ne]; exact hout
        have hne2 : (ez != 0) = true := by rw [bne_iff_ne]; exact hout
        clear hout
        go_wp2_with fail
        refine (wErr_any Z.out).mono ?_
        rintro e w' ⟨rfl, rfl⟩
        go_wp2_with fail
        refine (works_below _ _ BB.out).mono ?_
        rintro e wz ⟨rfl, hbz⟩
        have BZ := Lib.hid hbz
        clear hbz
        go_wp2
        go_ret
        exact ⟨rfl, BZ.out⟩
      · obtain ⟨k, m, hk, hm, hrm, henc⟩ := hout
        obtain rfl := he0
        have hnl := HR.out.len
        have hkc : k ≤ c := by omega
        have hkn : k ≤ n := by omega
        have hk3 : k ≤ 300 := by have := HN.out; omega
        have hsub : (n : Int) - (m : Int) = (k : Int) := by omega
        have HM : Hid ((rz.length : Nat) = m) := Lib.hid hrm
        have HE := Lib.hid henc
        clear hk hm hrm henc hnl
        go_wp2_with fail
        refine (wErr_any Z.out).mono ?_
        rintro e w' ⟨rfl, rfl⟩
        go_wp2_with fail
        refine (PutBool_nil b _).mono ?_
        intro e wa hres
        obtain ⟨Aa, na, ca, rfl, Na, ia, ja, Ra, _, hb⟩ := own_named hres
        clear hres
        have P := Lib.hid (P.out.below hb.out)
        have Q := Lib.hid (Q.out.below hb.out)
        have Z := Lib.hid (Z.out.below hb.out)
        have BB := Lib.hid (BB.out.trans (hb.out.mono BB.out.size))
        clear hb
        go_wp2_with fail
        refine (wLeft_ok Z.out).mono ?_
        rintro e w' ⟨rfl, rfl⟩
        rw [HM.out]
        go_wp2_with fail
        refine (equal_yes Ra.out ((HR.out.below BB.out).front hkn) (by omega) HE.out).mono ?_
        rintro e wb ⟨rfl, kb, rfl⟩
        obtain ⟨wb, hwb⟩ : ∃ wb, wb = wa.drewN kb := ⟨_, rfl⟩
        have hbd : Below wa.heap.size wa wb := by rw [hwb]; exact below_drewN (Below.refl _ _) _
        rw [← hwb]
        have P := Lib.hid (P.out.below hbd)
        have Q := Lib.hid (Q.out.below hbd)
        have Z := Lib.hid (Z.out.below hbd)
        have BB := Lib.hid (BB.out.trans (hbd.mono BB.out.size))
        clear hbd hwb Ra hsub hkc hkn hk3
        go_wp2_with fail
        refine (works_below _ _ BB.out).mono ?_
        rintro e wz ⟨rfl, hbz⟩
        have BZ := Lib.hid hbz
        clear hbz
        go_wp2
        go_ret
        exact ⟨rfl, BZ.out⟩
  · obtain ⟨k, m, hk, hm, hrm, henc, hmore⟩ := hout
    obtain rfl := he0
    have hnl := HR.out.len
    have hkc : k ≤ c := by omega
    have hkn : k ≤ n := by omega
    have hk3 : k ≤ 300 := by have := HN.out; omega
    have hsub : (n : Int) - (m : Int) = (k : Int) := by omega
    have HM : Hid ((rx.length : Nat) = m) := Lib.hid hrm
    have HE := Lib.hid henc
    have HO := Lib.hid hmore
    clear hk hm hrm henc hmore hnl
    go_wp2_with fail
    refine (wErr_any P.out).mono ?_
    rintro e w' ⟨rfl, rfl⟩
    go_wp2_with fail
    refine (PutInt_nil a _ HO.out.1 HO.out.2).mono ?_
    intro e wa hres
    obtain ⟨Aa, na, ca, rfl, Na, ia, ja, Ra, _, hb⟩ := own_named hres
    clear hres
    have P := Lib.hid (P.out.below hb.out)
    have Q := Lib.hid (Q.out.below hb.out)
    have Z := Lib.hid (Z.out.below hb.out)
    have BB := Lib.hid (BB.out.trans (hb.out.mono BB.out.size))
    clear hb
    go_wp2_with fail
    refine (wLeft_ok P.out).mono ?_
    rintro e w' ⟨rfl, rfl⟩
    rw [HM.out]
    go_wp2_with fail
    refine (equal_yes Ra.out ((HR.out.below BB.out).front hkn) (by omega) HE.out).mono ?_
    rintro e wb ⟨rfl, kb, rfl⟩
    obtain ⟨wb, hwb⟩ : ∃ wb, wb = wa.drewN kb := ⟨_, rfl⟩
    have hbd : Below wa.heap.size wa wb := by rw [hwb]; exact below_drewN (Below.refl _ _) _
    rw [← hwb]
    have P := Lib.hid (P.out.below hbd)
    have Q := Lib.hid (Q.out.below hbd)
    have Z := Lib.hid (Z.out.below hbd)
    have BB := Lib.hid (BB.out.trans (hbd.mono BB.out.size))
    clear hbd hwb Ra hsub hkc hkn hk3
    rcases HYO.out with hout | ⟨he0, hout⟩
    · have hne : (ey == 0) = false := by rw [beq_eq_false_iff_ne]; exact hout
      have hne2 : (ey != 0) = true := by rw [bne_iff_ne]; exact hout
      clear hout
      go_wp2_with fail
      refine (wErr_any Q.out).mono ?_
      rintro e w' ⟨rfl, rfl⟩
      rcases HZO.out with hout | ⟨he0, hout⟩
      · have hne : (ez == 0) = false := by rw [beq_eq_false_iff_ne]; exact hout
        have hne2 : (ez != 0) = true := by rw [bne_iff_ne]; exact hout
        clear hout
        go_wp2_with fail
        refine (wErr_any Z.out).mono ?_
        rintro e w' ⟨rfl, rfl⟩
        go_wp2_with fail
        refine (works_below _ _ BB.out).mono ?_
        rintro e wz ⟨rfl, hbz⟩
        have BZ := Lib.hid hbz
        clear hbz
        go_wp2
        go_ret
        exact ⟨rfl, BZ.out⟩
      · obtain ⟨k, m, hk, hm, hrm, henc⟩ := hout
        obtain rfl := he0
        have hnl := HR.out.len
        have hkc : k ≤ c := by omega
        have hkn : k ≤ n := by omega
        have hk3 : k ≤ 300 := by have := HN.out; omega
        have hsub : (n : Int) - (m : Int) = (k : Int) := by omega
        have HM : Hid ((rz.length : Nat) = m) := Lib.hid hrm
        have HE := Lib.hid henc
        clear hk hm hrm henc hnl
        go_wp2_with fail
        refine (wErr_any Z.out).mono ?_
        rintro e w' ⟨rfl, rfl⟩
        go_wp2_with fail
        refine (PutBool_nil b _).mono ?_
        intro e wa hres
        obtain ⟨Aa, na, ca, rfl, Na, ia, ja, Ra, _, hb⟩ := own_named hres
        clear hres
        have P := Lib.hid (P.out.below hb.out)
        have Q := Lib.hid (Q.out.below hb.out)
        have Z := Lib.hid (Z.out.below hb.out)
        have BB := Lib.hid (BB.out.trans (hb.out.mono BB.out.size))
        clear hb
        go_wp2_with fail
        refine (wLeft_ok Z.out).mono ?_
        rintro e w' ⟨rfl, rfl⟩
        rw [HM.out]
        go_wp2_with fail
        refine (equal_yes Ra.out ((HR.out.below BB.out).front hkn) (by omega) HE.out).mono ?_
        rintro e wb ⟨rfl, kb, rfl⟩
        obtain ⟨wb, hwb⟩ : ∃ wb, wb = wa.drewN kb := ⟨_, rfl⟩
        have hbd : Below wa.heap.size wa wb := by rw [hwb]; exact below_drewN (Below.refl _ _) _
        rw [← hwb]
        have P := Lib.hid (P.out.below hbd)
        have Q := Lib.hid (Q.out.below hbd)
        have Z := Lib.hid (Z.out.below hbd)
        have BB := Lib.hid (BB.out.trans (hbd.mono BB.out.size))
        clear hbd hwb Ra hsub hkc hkn hk3
        go_wp2_with fail
        refine (works_below _ _ BB.out).mono ?_
        rintro e wz ⟨rfl, hbz⟩
        have BZ := Lib.hid hbz
        clear hbz
        go_wp2
        go_ret
        exact ⟨rfl, BZ.out⟩
    · obtain ⟨k, m, hk, hm, hrm, henc, hmore⟩ := hout
      obtain rfl := he0
      have hnl := HR.out.len
      have hkc : k ≤ c := by omega
      have hkn : k ≤ n := by omega
      have hk3 : k ≤ 300 := by have := HN.out; omega
      have hsub : (n : Int) - (m : Int) = (k : Int) := by omega
      have HM : Hid ((ry.length : Nat) = m) := Lib.hid hrm
      have HE := Lib.hid henc
      have HO := Lib.hid hmore
      clear hk hm hrm henc hmore hnl
      go_wp2_with fail
      refine (wErr_any Q.out).mono ?_
      rintro e w' ⟨rfl, rfl⟩
      go_wp2_with fail
      refine (PutText_nil s _ (by have := HO.out; have := HR.out.len; have := HN.out; omega)).mono ?_
      intro e wa hres
      obtain ⟨Aa, na, ca, rfl, Na, ia, ja, Ra, _, hb⟩ := own_named hres
      clear hres
      have P := Lib.hid (P.out.below hb.out)
      have Q := Lib.hid (Q.out.below hb.out)
      have Z := Lib.hid (Z.out.below hb.out)
      have BB := Lib.hid (BB.out.trans (hb.out.mono BB.out.size))
      clear hb
      go_wp2_with fail
      refine (wLeft_ok Q.out).mono ?_
      rintro e w' ⟨rfl, rfl⟩
      rw [HM.out]
      go_wp2_with fail
      refine (equal_yes Ra.out ((HR.out.below BB.out).front hkn) (by omega) HE.out).mono ?_
      rintro e wb ⟨rfl, kb, rfl⟩
      obtain ⟨wb, hwb⟩ : ∃ wb, wb = wa.drewN kb := ⟨_, rfl⟩
      have hbd : Below wa.heap.size wa wb := by rw [hwb]; exact below_drewN (Below.refl _ _) _
      rw [← hwb]
      have P := Lib.hid (P.out.below hbd)
      have Q := Lib.hid (Q.out.below hbd)
      have Z := Lib.hid (Z.out.below hbd)
      have BB := Lib.hid (BB.out.trans (hbd.mono BB.out.size))
      clear hbd hwb Ra hsub hkc hkn hk3
      rcases HZO.out with hout | ⟨he0, hout⟩
      · have hne : (ez == 0) = false := by rw [beq_eq_false_iff_ne]; exact hout
        have hne2 : (ez != 0) = true := by rw [bne_iff_ne]; exact hout
        clear hout
        go_wp2_with fail
        refine (wErr_any Z.out).mono ?_
        rintro e w' ⟨rfl, rfl⟩
        go_wp2_with fail
        refine (works_below _ _ BB.out).mono ?_
        rintro e wz ⟨rfl, hbz⟩
        have BZ := Lib.hid hbz
        clear hbz
        go_wp2
        go_ret
        exact ⟨rfl, BZ.out⟩
      · obtain ⟨k, m, hk, hm, hrm, henc⟩ := hout
        obtain rfl := he0
        have hnl := HR.out.len
        have hkc : k ≤ c := by omega
        have hkn : k ≤ n := by omega
        have hk3 : k ≤ 300 := by have := HN.out; omega
        have hsub : (n : Int) - (m : Int) = (k : Int) := by omega
        have HM : Hid ((rz.length : Nat) = m) := Lib.hid hrm
        have HE := Lib.hid henc
        clear hk hm hrm henc hnl
        go_wp2_with fail
        refine (wErr_any Z.out).mono ?_
        rintro e w' ⟨rfl, rfl⟩
        go_wp2_with fail
        refine (PutBool_nil b _).mono ?_
        intro e wa hres
        obtain ⟨Aa, na, ca, rfl, Na, ia, ja, Ra, _, hb⟩ := own_named hres
        clear hres
        have P := Lib.hid (P.out.below hb.out)
        have Q := Lib.hid (Q.out.below hb.out)
        have Z := Lib.hid (Z.out.below hb.out)
        have BB := Lib.hid (BB.out.trans (hb.out.mono BB.out.size))
        clear hb
        go_wp2_with fail
        refine (wLeft_ok Z.out).mono ?_
        rintro e w' ⟨rfl, rfl⟩
        rw [HM.out]
        go_wp2_with fail
        refine (equal_yes Ra.out ((HR.out.below BB.out).front hkn) (by omega) HE.out).mono ?_
        rintro e wb ⟨rfl, kb, rfl⟩
        obtain ⟨wb, hwb⟩ : ∃ wb, wb = wa.drewN kb := ⟨_, rfl⟩
        have hbd : Below wa.heap.size wa wb := by rw [hwb]; exact below_drewN (Below.refl _ _) _
        rw [← hwb]
        have P := Lib.hid (P.out.below hbd)
        have Q := Lib.hid (Q.out.below hbd)
        have Z := Lib.hid (Z.out.below hbd)
        have BB := Lib.hid (BB.out.trans (hbd.mono BB.out.size))
        clear hbd hwb Ra hsub hkc hkn hk3
        go_wp2_with fail
        refine (works_below _ _ BB.out).mono ?_
        rintro e wz ⟨rfl, hbz⟩
        have BZ := Lib.hid hbz
        clear hbz
        go_wp2
        go_ret
        exact ⟨rfl, BZ.out⟩
end Go.Proofs.Ytlhloebpppmgdaa
