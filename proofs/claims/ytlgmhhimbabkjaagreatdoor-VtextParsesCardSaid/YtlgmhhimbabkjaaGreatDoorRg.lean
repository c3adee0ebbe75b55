/-
  The reference's parser: word, more.
-/
import Derived.Test.YtlgmhhimbabkjaaGreatDoorRb
import Derived.Test.YtlgmhhimbabkjaaGreatDoorRc
import Derived.Test.YtlgmhhimbabkjaaGreatDoorRd
import Derived.Deep.RegionLaw
namespace Go.Proofs.YtlgmhhimbabkjaaGreatDoor
open Go.RowKit

section
variable {w : World} {p : Nat} {s : ByteArray} {i n : Nat}
theorem rpeek_some {c : UInt8} (h : Rn w p s i n) (hc : s.data.toList[i]? = some c) (W : World) (hW : Dr w W) : Calls Tryz.prog 51 #[.pointer (some ⟨p, 0, none⟩)] W fun e w' => e = .returned (.int .u8 (c.toNat : Int)) ∧ Dr w w' := by
  refine (rpeek_run (h.dr hW)).mono ?_
  rintro e w' (⟨d, hd, rfl, h1⟩ | ⟨hn, _⟩)
  · rw [hc] at hd
    injection hd with hd
    exact ⟨by rw [hd], hW.trans h1⟩
  · rw [List.getElem?_eq_none hn] at hc
    cases hc
theorem rpeek_none (h : Rn w p s i n) (hn : s.data.toList.length ≤ i) (W : World) (hW : Dr w W) : Calls Tryz.prog 51 #[.pointer (some ⟨p, 0, none⟩)] W fun e w' => e = .returned (.int .u8 0) ∧ Bad w' p s i 4 ∧ FrS (One p) w w' := by
  refine (rpeek_run (h.dr hW)).mono ?_
  rintro e w' (⟨d, hd, _⟩ | ⟨_, rfl, h1, h2⟩)
  · rw [List.getElem?_eq_none hn] at hd
    cases hd
  · exact ⟨rfl, h1, hW.frs.trans h2⟩

/-- what word gives back -/
def WrdR (r : PR Unit) (p : Nat) (s : ByteArray) (n : Nat) (w : World) (e : Ending) (w' : World) : Prop :=
  e = .returned (.tuple #[]) ∧ FrS (One p) w w' ∧ ((∃ j, Hid (r = .ok () j) ∧ Rn w' p s j n) ∨ ∃ j c, Hid (r = .err j c) ∧ Bad w' p s j c)

set_option maxRecDepth 100000 in
set_option maxHeartbeats 4000000 in
theorem word_any (W : ByteArray) (h : Rn w p s i n) (hW : W.size ≤ 100) (hz : ∀ k (hk : k < W.size), W[k].toNat ≠ 0) :
    Calls Tryz.prog 53 #[.pointer (some ⟨p, 0, none⟩), .string W] w (WrdR (wrdP s.data.toList W.data.toList i) p s n w) := by
  have HP := Lib.hid h
  have H1 := h.2.2.1
  clear h
  go_enter Tryz.func53, Tryz.ntmps53
  go_wp2_with fail
  go_loopw [4] (fun t wr => ∃ k q : Nat, k ≤ W.size ∧ t = .int .i64 k ∧ q ≤ s.size ∧ Hid (Rn wr p s q n) ∧ Hid (FrS (One p) w wr) ∧ Hid (wrdP s.data.toList W.data.toList i = wrdP s.data.toList (W.data.toList.drop k) q)) (fun t _ => W.size - (intOf t).toNat)
  case atStart => exact ⟨0, i, Nat.zero_le _, rfl, HP.out.2.1, HP, Lib.hid (FrS.refl _ _), Lib.hid rfl⟩
  case round =>
    obtain ⟨k, q, hk, rfl, hq, HJ, HF, HR⟩ := hrel
    by_cases hlt : k < W.size
    · have HDk : Hid (W.data.toList.drop k = W[k] :: W.data.toList.drop (k + 1)) := Lib.hid (by rw [List.drop_eq_getElem_cons (by simpa using hlt)]; rfl)
      have hbw : W[k].toNat < 256 := W[k].toNat_lt
      cases hx : s.data.toList[q]? with
      | none =>
        have hn := List.getElem?_eq_none_iff.1 hx
        have P1 := Lib.hid (rpeek_none HJ.out hn)
        have HE : Hid (wrdP s.data.toList W.data.toList i = .err q 4) := Lib.hid (by rw [HR.out, HDk.out, wrdP, tkP_none hn]; rfl)
        clear hx hn
        go_wp2_with fail
        go_region_law (first
          | (go_simp; go_at_call 51; (refine (P1.out _ (by first | exact Dr.refl _ | exact Dr.drew _)).mono ?_); rintro _ w2 ⟨rfl, hb, hf⟩))
        all_goals (
          have HB := Lib.hid hb
          have HF2 := Lib.hid (HF.out.trans hf)
          have t0 : ((0 : Int) == (W[k].toNat : Int)) = false := by rw [beq_eq_false_iff_ne]; have := hz k hlt; omega
          have t0n : ((0 : Int) != (W[k].toNat : Int)) = true := by rw [bne_iff_ne]; have := hz k hlt; omega
          obtain ⟨i2, n2, hb2, _, _, _⟩ := hb
          have c1 := hb2.cell 1
          have HQ := Lib.hid hb2
          clear hb2 hf
          go_wp2_with fail
          refine (fail_bad HQ.out (by decide) _ 3).mono ?_
          rintro _ _ ⟨rfl, rfl⟩
          go_wp2
          refine bodyPost_end (results_none rfl _ _ _) rfl ?_
          exact ⟨rfl, HF2.out, .inr ⟨_, _, HE, HB.out⟩⟩)
      | some x =>
        have P1 := Lib.hid (rpeek_some HJ.out hx)
        have hxb : x.toNat < 256 := x.toNat_lt
        have HX := Lib.hid hx
        clear hx
        go_wp2_with fail
        go_region_law (first
          | (go_simp; go_at_call 51; (refine (P1.out _ (by first | exact Dr.refl _ | exact Dr.drew _)).mono ?_); rintro _ w2 ⟨rfl, hd⟩))
        all_goals (
          have HJ2 := Lib.hid (HJ.out.dr hd)
          have HF2 := Lib.hid (HF.out.trans hd.frs)
          have c1 := HJ2.out.1.cell 1
          have f1 := HJ2.out.1.frozen 1
          have hq2 := at_lt HX.out
          by_cases hxw : x.toNat = W[k].toNat
          · have t0 : ((x.toNat : Int) == (W[k].toNat : Int)) = true := by rw [beq_iff_eq]; omega
            have t0n : ((x.toNat : Int) != (W[k].toNat : Int)) = false := by rw [bne_eq_false_iff_eq]; omega
            have HR2 : Hid (wrdP s.data.toList W.data.toList i = wrdP s.data.toList (W.data.toList.drop (k + 1)) (q + 1)) := Lib.hid (by
              rw [HR.out, HDk.out, wrdP, tkP_ok HX.out (by rw [show x = W[k] from UInt8.toNat_inj.1 hxw]; simp)]; rfl)
            have HJ3 := Lib.hid (HJ2.out.to (q + 1) hq2)
            have HF3 := Lib.hid (HF2.out.trans (FrS.one w2 p 1 (.int .i64 ((q + 1 : Nat) : Int))))
            have e1 : ((q + 1 : Nat) : Int) = (q : Int) + 1 := by omega
            rw [e1] at HJ3 HF3
            clear hd hxw
            go_wp2_with fail
            generalize w2.setCell ⟨p, 1, none⟩ (.int .i64 ((q : Int) + 1)) = w3 at *
            go_roundw
            case rel => exact ⟨k + 1, q + 1, by omega, by go_num, hq2, HJ3, HF3, HR2⟩
            case measure => simp [intOf]; omega
          · have t0 : ((x.toNat : Int) == (W[k].toNat : Int)) = false := by rw [beq_eq_false_iff_ne]; omega
            have t0n : ((x.toNat : Int) != (W[k].toNat : Int)) = true := by rw [bne_iff_ne]; omega
            have HE : Hid (wrdP s.data.toList W.data.toList i = .err q 3) := Lib.hid (by
              rw [HR.out, HDk.out, wrdP, tkP_no HX.out]
              · rfl
              · rw [beq_eq_false_iff_ne]
                exact fun e => hxw (by rw [e]))
            clear hd hxw
            go_wp2_with fail
            refine (fail_run HJ2.out.1 _ 3).mono ?_
            rintro _ w3 ⟨rfl, hbb, hff⟩
            have HB := Lib.hid hbb
            have HF3 := Lib.hid (HF2.out.trans hff)
            clear hbb hff c1 f1
            go_wp2
            refine bodyPost_end (results_none rfl _ _ _) rfl ?_
            exact ⟨rfl, HF3.out, .inr ⟨_, _, HE, ⟨_, _, HB.out, by decide, by omega, by omega⟩⟩⟩)
    · have HE : Hid (wrdP s.data.toList W.data.toList i = .ok () q) := Lib.hid (by rw [HR.out, List.drop_of_length_le (by rw [list_len]; omega)]; rfl)
      go_wp2_with fail
      refine bodyPost_end (results_none rfl _ _ _) rfl ?_
      exact ⟨rfl, HF.out, .inl ⟨q, HE, HJ.out⟩⟩

/-- what more gives back: is there a comma, behind the blanks -/
def MorR (e0 : UInt8) (p : Nat) (s : ByteArray) (i n : Nat) (w : World) (e : Ending) (w' : World) : Prop :=
  FrS (One p) w w' ∧ ((∃ c j, Hid (tkP (fun x => x == 44 || x == e0) s.data.toList (skip s.data.toList i) = .ok c j) ∧ e = .returned (.bool (decide (c = 44))) ∧ Rn w' p s j n) ∨ ∃ j c, Hid (tkP (fun x => x == 44 || x == e0) s.data.toList (skip s.data.toList i) = .err j c) ∧ e = .returned (.bool false) ∧ Bad w' p s j c)
set_option maxRecDepth 100000 in
set_option maxHeartbeats 4000000 in
theorem more_any (e0 : UInt8) (h : Rn w p s i n) (he : e0.toNat ≠ 0) :
    Calls Tryz.prog 82 #[.pointer (some ⟨p, 0, none⟩), .int .u8 (e0.toNat : Int)] w (MorR e0 p s i n w) := by
  have BL := Lib.hid (rblank_run h)
  have H1 := h.2.2.1
  unfold MorR
  generalize skip s.data.toList i = q at *
  clear h
  have hle : e0.toNat < 256 := e0.toNat_lt
  go_enter Tryz.func82, Tryz.ntmps82
  go_wp2_with fail
  refine (BL.out).mono ?_
  rintro _ w1 ⟨rfl, hr1, hf1⟩
  have HP1 := Lib.hid hr1
  have HF1 := Lib.hid hf1
  clear hr1 hf1
  go_wp2_with fail
  refine (rpeek_run HP1.out).mono ?_
  rintro _ w2 (⟨c, hc, rfl, hd⟩ | ⟨hn, rfl, hb, hf⟩)
  · have HC := Lib.hid hc
    have HP2 := Lib.hid (HP1.out.dr hd)
    have HF2 := Lib.hid (HF1.out.trans hd.frs)
    have hq2 := at_lt hc
    have hlc : c.toNat < 256 := c.toNat_lt
    have c1 := HP2.out.1.cell 1
    have f1 := HP2.out.1.frozen 1
    have HJ3 := Lib.hid (HP2.out.to (q + 1) hq2)
    have HF3 := Lib.hid (HF2.out.trans (FrS.one w2 p 1 (.int .i64 ((q + 1 : Nat) : Int))))
    have e1 : ((q + 1 : Nat) : Int) = (q : Int) + 1 := by omega
    rw [e1] at HJ3 HF3
    clear hd hc
    by_cases h44 : c.toNat = 44
    · have hc44 : c = 44 := UInt8.toNat_inj.1 h44
      have HE : Hid (tkP (fun x => x == 44 || x == e0) s.data.toList q = .ok c (q + 1)) := Lib.hid (tkP_ok HC.out (by rw [hc44]; rfl))
      have HT : Hid (decide (c = 44) = true) := Lib.hid (decide_eq_true hc44)
      have t44 : ((c.toNat : Int) == 44) = true := by rw [h44]; rfl
      have t44n : ((c.toNat : Int) != 44) = false := by rw [h44]; rfl
      clear h44 hc44
      go_wp2_with fail
      go_ret
      exact ⟨HF3.out, .inl ⟨_, _, HE, congrArg (fun b => Ending.returned (.bool b)) HT.out.symm, HJ3.out⟩⟩
    · have hc44 : c ≠ 44 := fun e => h44 (by rw [e]; rfl)
      have HT : Hid (decide (c = 44) = false) := Lib.hid (decide_eq_false hc44)
      have t44 : ((c.toNat : Int) == 44) = false := by rw [beq_eq_false_iff_ne]; omega
      have t44n : ((c.toNat : Int) != 44) = true := by rw [bne_iff_ne]; omega
      by_cases hce : c.toNat = e0.toNat
      · have HE : Hid (tkP (fun x => x == 44 || x == e0) s.data.toList q = .ok c (q + 1)) := Lib.hid (tkP_ok HC.out (by rw [show c = e0 from UInt8.toNat_inj.1 hce]; simp))
        have te : ((c.toNat : Int) == (e0.toNat : Int)) = true := by rw [beq_iff_eq]; omega
        have ten : ((c.toNat : Int) != (e0.toNat : Int)) = false := by rw [bne_eq_false_iff_eq]; omega
        clear h44 hc44 hce
        go_wp2_with fail
        go_ret
        exact ⟨HF3.out, .inl ⟨_, _, HE, congrArg (fun b => Ending.returned (.bool b)) HT.out.symm, HJ3.out⟩⟩
      · have HE : Hid (tkP (fun x => x == 44 || x == e0) s.data.toList q = .err q 3) := Lib.hid (tkP_no HC.out (by
          rw [Bool.or_eq_false_iff, beq_eq_false_iff_ne, beq_eq_false_iff_ne]
          exact ⟨hc44, fun e => hce (by rw [e])⟩))
        have te : ((c.toNat : Int) == (e0.toNat : Int)) = false := by rw [beq_eq_false_iff_ne]; omega
        have ten : ((c.toNat : Int) != (e0.toNat : Int)) = true := by rw [bne_iff_ne]; omega
        clear h44 hc44 hce HJ3 HF3 e1
        go_wp2_with fail
        refine (fail_run HP2.out.1 _ 3).mono ?_
        rintro _ w3 ⟨rfl, hbb, hff⟩
        have HB := Lib.hid hbb
        have HF3 := Lib.hid (HF2.out.trans hff)
        clear hbb hff c1 f1
        go_wp2
        go_ret
        exact ⟨HF3.out, .inr ⟨_, _, HE, rfl, ⟨_, _, HB.out, by decide, by omega, by omega⟩⟩⟩
  · have HB := Lib.hid hb
    have HF2 := Lib.hid (HF1.out.trans hf)
    have HE : Hid (tkP (fun x => x == 44 || x == e0) s.data.toList q = .err q 4) := Lib.hid (tkP_none hn)
    have te : ((0 : Int) == (e0.toNat : Int)) = false := by rw [beq_eq_false_iff_ne]; omega
    have ten : ((0 : Int) != (e0.toNat : Int)) = true := by rw [bne_iff_ne]; omega
    obtain ⟨i2, n2, hb2, _, _, _⟩ := hb
    have c1 := hb2.cell 1
    have HQ := Lib.hid hb2
    clear hb2 hf hn
    go_wp2_with fail
    refine (fail_bad HQ.out (by decide) _ 3).mono ?_
    rintro _ _ ⟨rfl, rfl⟩
    go_wp2
    go_ret
    exact ⟨HF2.out, .inr ⟨_, _, HE, rfl, HB.out⟩⟩
end
end Go.Proofs.YtlgmhhimbabkjaaGreatDoor
