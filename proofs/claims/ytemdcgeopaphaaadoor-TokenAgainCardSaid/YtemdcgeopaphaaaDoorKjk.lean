/-
  The walk of TokenAgain.
-/
import Derived.Test.YtemdcgeopaphaaaDoorKjj
import Derived.Test.YtemdcgeopaphaaaDoorKsm
namespace Go.Proofs.YtemdcgeopaphaaaDoor
open Go.RowKit

set_option maxRecDepth 100000 in
set_option maxHeartbeats 4000000 in
theorem usame_any {w : World} {A A' : Option Addr} {c c' : Nat} {l : List Tok} (h : URow w A l) (h' : URow w A' l) (hl : l.length ≤ 9223372036854775807) :
    Calls Tryd.prog 20 #[.slice A l.length c, .slice A' l.length c'] w fun e w' => e = .returned (.bool true) ∧ Dr w w' := by
  have H := Lib.hid h
  have H' := Lib.hid h'
  obtain ⟨n, hn⟩ : ∃ n, n = l.length := ⟨_, rfl⟩
  rw [← hn]
  rw [← hn] at hl
  have HN := Lib.hid hn
  have tn : ((n : Int) == (n : Int)) = true := by simp
  have tnn : ((n : Int) != (n : Int)) = false := by simp
  clear h h' hn
  go_enter Tryd.func20, Tryd.ntmps20
  go_wp2_with fail
  go_loopw [13] (fun i wr => ∃ j : Nat, j ≤ n ∧ i = .int .i64 j ∧ Hid (Dr w wr)) (fun i _ => n - (intOf i).toNat)
  case atStart => exact ⟨0, Nat.zero_le _, rfl, Lib.hid (Dr.refl _)⟩
  case round =>
    obtain ⟨j, hj, rfl, HD⟩ := hrel
    by_cases hlt : j < n
    · obtain ⟨x, hx⟩ : ∃ x, l[j]? = some x := ⟨_, List.getElem?_eq_getElem (by rw [← HN.out]; exact hlt)⟩
      obtain ⟨g, o, z, rfl, _, a0, a1, a2, a3⟩ := H.out j x hx
      obtain ⟨g', o', z', rfl, _, b0, b1, b2, b3⟩ := H'.out j x hx
      have hd := fun (a : Addr) => HD.out.cell a
      rw [← hd] at a0 a2 a3 b0 b2 b3
      unfold strV at a2 b2
      have hji : (j : Int) < (n : Int) := by omega
      have k0 : (x.kind != x.kind) = false := by simp
      have k3 : (x.int != x.int) = false := by simp
      clear hx hd a1 b1
      go_wp2_with fail
      go_quiet (fail)
      go_wp2
      go_roundw
      case rel => exact ⟨j + 1, hlt, by go_num, Lib.hid (HD.out.trans (Dr.next _ _))⟩
      case measure => simp [intOf]; omega
    · go_wp2
      go_ret
      exact ⟨rfl, HD.out⟩
set_option maxRecDepth 100000 in
set_option maxHeartbeats 8000000 in
theorem TokenAgain_walk (s : ByteArray) (w : World) (hm : s.size ≤ maxLen) (hE : NStd w) : Calls Tryd.prog 6 #[.string s] w fun e w' => e = .returned (.bool true) ∧ Below w.heap.size w w' := by
  have HE := Lib.hid hE
  clear hE
  have hm9 : s.size ≤ 9223372036854775807 := by unfold maxLen at hm; omega
  clear hm
  by_cases hbig : 400 < s.size
  · have g1 : (400 : Int) < (s.size : Int) := by omega
    have HW := Lib.hid (works_any HE.out)
    go_enter Tryd.func6, Tryd.ntmps6
    go_wp2_with fail
    refine (HW.out).mono ?_
    rintro _ w1 ⟨rfl, hb1⟩
    go_wp2
    go_ret
    exact ⟨rfl, hb1⟩
  have g1 : ¬ (400 : Int) < (s.size : Int) := by omega
  have hls : s.data.toList.length = s.size := by simp
  have SC := Lib.hid (fun V h => Scan_any s V (by omega) h)
  have RC := Lib.hid (fun V => rScan_any s V (by omega))
  go_enter Tryd.func6, Tryd.ntmps6
  go_wp2_with fail
  refine (SC.out _ HE.out).mono ?_
  rintro _ w1 ⟨hb1, ⟨L, A, c1, hL, rfl, ho⟩ | ⟨i, x, hL, rfl⟩⟩
  · have B1 := Lib.hid hb1
    have U1 : Hid (URow w1 A L) := Lib.hid (TRow.of_own ho).u
    obtain ⟨hM, hag⟩ := scanT_again (by omega) hL
    have HM := Lib.hid hM
    have HAG := Lib.hid hag
    obtain ⟨n, hn⟩ : ∃ n, n = L.length := ⟨_, rfl⟩
    have HN := Lib.hid hn
    have SP := Lib.hid (fun (V : World) (hU : URow V A L) (hE : NStd V) => Spell_any (c0 := c1) hU HM.out hE)
    have HSL := Lib.hid (spL_len hM)
    obtain ⟨r, hr⟩ : ∃ r : ByteArray, r = ⟨(spL L).toArray⟩ := ⟨_, rfl⟩
    have HR : Hid (r.data.toList = spL L) := Lib.hid (by rw [hr])
    have HRS : Hid (r.size = (spL L).length) := Lib.hid (by rw [hr]; simp [ByteArray.size])
    have hrz : r.size ≤ 4003000 := by rw [HRS.out]; exact HSL.out
    rw [← hr] at SP
    rw [← hn] at SP ⊢
    clear hb1 ho hL hM hag hn RC hr
    go_wp2_with fail
    refine (SP.out _ U1.out (HE.out.on B1.out)).mono ?_
    rintro _ w2 ⟨rfl, hb2⟩
    have B2 := Lib.hid (lnk B1.out hb2)
    have U2 := Lib.hid (U1.out.below hb2)
    clear hb2
    by_cases hs : 16384 < r.size
    · have g2 : (16384 : Int) < (r.size : Int) := by omega
      clear hs
      have HW := Lib.hid (works_any (HE.out.on B2.out))
      go_wp2_with fail
      refine (HW.out).mono ?_
      rintro _ w3 ⟨rfl, hb3⟩
      have B3 := Lib.hid (lnk B2.out hb3)
      clear hb3
      go_wp2
      go_ret
      exact ⟨rfl, B3.out⟩
    have g2 : ¬ (16384 : Int) < (r.size : Int) := by omega
    obtain ⟨M, hM1, hM2⟩ := HAG.out (by rw [← HRS.out]; omega)
    have HKE := Lib.hid hM2
    have S2 := Lib.hid (Scan_any r w2 (by omega) (HE.out.on B2.out))
    rw [HR.out, hM1] at S2
    clear hM1 hM2 hs
    go_wp2_with fail
    refine (S2.out).mono ?_
    rintro _ w3 ⟨hb3, ⟨M', A2, c2, hM3, rfl, ho2⟩ | ⟨i2, x2, hM3, _⟩⟩
    case inr => cases hM3
    injection hM3 with hM3
    subst hM3
    have B3 := Lib.hid (lnk B2.out hb3)
    have U3 := Lib.hid (U2.out.below hb3)
    have V3 : Hid (URow w3 A2 L) := Lib.hid (URow.same HKE.out (TRow.of_own ho2).u)
    have SM := Lib.hid (usame_any (c := c1) (c' := c2) U3.out V3.out (by have := HM.out.len; omega))
    have SQ := Lib.hid (fun (V : World) (hU : URow V A2 L) (hE : NStd V) => Spell_any (c0 := c2) hU HM.out hE)
    rw [show (⟨(spL L).toArray⟩ : ByteArray) = r from ByteArray.ext (by rw [← HR.out])] at SQ
    have ml : M.length = n := by rw [key_len HKE.out, HN.out]
    rw [← HN.out] at SM SQ
    rw [ml]
    have tr : (r.toList == r.toList) = true := by simp
    clear hb3 ho2 S2 ml
    go_wp2_with fail
    refine (SM.out).mono ?_
    rintro _ w4 ⟨rfl, d4⟩
    have B4 := Lib.hid (lnk B3.out (Dr.below d4))
    have V4 := Lib.hid (V3.out.below (Dr.below d4))
    clear d4
    go_wp2_with fail
    refine (SQ.out _ V4.out (HE.out.on B4.out)).mono ?_
    rintro _ w5 ⟨rfl, hb5⟩
    have B5 := Lib.hid (lnk B4.out hb5)
    clear hb5
    go_wp2_with fail
    refine (works_any (HE.out.on B5.out)).mono ?_
    rintro _ w6 ⟨rfl, hb6⟩
    have B6 := Lib.hid (lnk B5.out hb6)
    clear hb6
    go_wp2
    go_ret
    exact ⟨rfl, B6.out⟩
  · have B1 := Lib.hid hb1
    have x0 : (x != 0) = true := bne_iff_ne.2 (scanT_ne hL)
    have x00 : (x == 0) = false := beq_eq_false_iff_ne.2 (scanT_ne hL)
    rw [hL] at RC
    clear hb1 hL
    have tx : (x == x) = true := by simp
    go_wp2_with fail
    refine (RC.out _).mono ?_
    rintro _ w2 ⟨hb2, ⟨M, A2, c2, hM, rfl, ho2⟩ | ⟨i2, x2, hM, rfl⟩⟩
    case inl => cases hM
    injection hM with h1 h2
    subst h1 h2
    have B2 := Lib.hid (lnk B1.out hb2)
    clear hb2
    go_wp2_with fail
    refine (works_any (HE.out.on B2.out)).mono ?_
    rintro _ w3 ⟨rfl, hb3⟩
    have B3 := Lib.hid (lnk B2.out hb3)
    clear hb3
    go_wp2
    go_ret
    exact ⟨rfl, B3.out⟩
end Go.Proofs.YtemdcgeopaphaaaDoor
