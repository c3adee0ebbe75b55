/-
  The parser's value at every depth. (Written by gen_tv.py.)
-/
import Derived.Test.YtjblchdfkcbodaaGreatDoorTl
namespace Go.Proofs.YtjblchdfkcbodaaGreatDoor
open Go.RowKit

theorem BoolT (w : World) : Calls Tryz.prog 44 #[.bool true] w (Gives (.agg #[.int .i64 1, .int .i64 1, .string ⟨#[]⟩, .slice none 0 0, .slice none 0 0]) w) := Bool_any true w
theorem BoolF (w : World) : Calls Tryz.prog 44 #[.bool false] w (Gives (.agg #[.int .i64 1, .int .i64 0, .string ⟨#[]⟩, .slice none 0 0, .slice none 0 0]) w) := Bool_any false w
theorem numE_bounds {l : List UInt8} {a j j2 : Nat} {v : Int} (h : numE l a j = .ok v j2) : -9223372036854775808 ≤ v ∧ v ≤ 9223372036854775807 := by
  unfold numE at h
  split at h
  · rename_i x hx
    injection h with h _
    subst h
    exact Lib.atoiAll_bounds hx
  · cases h
theorem intP_bounds {l : List UInt8} {c : UInt8} {i j : Nat} {v : Int} (h : intP l c i = .ok v j) : -9223372036854775808 ≤ v ∧ v ≤ 9223372036854775807 := by
  unfold intP at h
  split at h
  · cases hc : tkP dig1 l i with
    | err b e => rw [hc] at h; cases h
    | ok x j2 => rw [hc, PR.bind_ok] at h; exact numE_bounds h
  · split at h
    · cases h
    · exact numE_bounds h
theorem Ps.up {w : World} {p : Nat} {s : ByteArray} {i n : Nat} (h : Ps w p s i n) (hn : n < 1000) : Ps (w.setCell ⟨p, 2, none⟩ (.int .i64 ((n : Int) + 1))) p s i (n + 1) := by
  refine ⟨?_, h.2.1, h.2.2.1, hn⟩
  have := h.1.put 2 (.int .i64 ((n : Int) + 1))
  simpa using this

set_option maxRecDepth 100000 in
set_option maxHeartbeats 4000000 in
theorem value_0 : ValC 0 := by
  intro w p s i n d hd hd0 h hE
  have HP := Lib.hid h
  have NQ : Hid (w.heap.size ≠ p) := Lib.hid (by have := h.1.lt; omega)
  clear h hE
  go_enter Tryz.func24, Tryz.ntmps24
  go_upto_region 1 with (fail)
  obtain ⟨w1, hw1⟩ : ∃ w1, w1 = w.alloc (.cells #[.int .i64 0, .int .i64 0, .string ⟨#[]⟩, .slice none 0 0, .slice none 0 0] 25) := ⟨_, rfl⟩
  have KR1 : Hid (Bk w1 w.heap.size 25 #[.int .i64 0, .int .i64 0, .string ⟨#[]⟩, .slice none 0 0, .slice none 0 0]) := Lib.hid (by rw [hw1]; exact Bk.new _ _ _)
  have F1 : Hid (FrS (One p) w w1) := Lib.hid (by rw [hw1]; exact FrS.of_below ((Below.refl _ _).alloc (Nat.le_refl _) _))
  have P1 : Hid (Ps w1 p s i n) := Lib.hid ⟨by rw [hw1]; exact HP.out.1.alloc _, HP.out.2⟩
  rw [← hw1]
  clear hw1
  go_wp2_with fail
  refine (blanks_any P1.out).mono ?_
  rintro _ w2 ⟨rfl, hp2, hf2⟩
  have P2 := Lib.hid hp2
  have F2 := Lib.hid (F1.out.trans hf2)
  have KR2 := Lib.hid (hf2.bk KR1.out (fun e => NQ.out e))
  have c1 := P2.out.1.cell 1
  clear hp2 hf2
  go_wp2_with fail
  refine (take_any P2.out set_sta).mono ?_
  rintro _ w3 (⟨c, j, hr3, rfl, hp3, hf3⟩ | ⟨j, e3, hr3, rfl, hf3⟩)
  · have F3 := Lib.hid (F2.out.trans hf3.out)
    have KR3 := Lib.hid (hf3.out.bk KR2.out (fun e => NQ.out e))
    have c2 := hp3.out.1.cell 2
    have fz := hp3.out.1.frozen 2
    unfold byteV
    clear c1
    have t16 : decide (d ≤ 16) = false := by rw [decide_eq_false_iff_not]; omega
    go_wp2_with fail
    refine (require_any _ _ (skip s.data.toList i) 7 _).mono ?_
    rintro _ _ (⟨hb, rfl, rfl⟩ | ⟨hb, rfl, rfl⟩)
    · simp at hb
    · exact ⟨rfl, .inr ⟨_, 7, Lib.hid (by rw [valP, hr3.out]; rfl), rfl, F3⟩⟩
  · exact ⟨rfl, .inr ⟨j, e3, Lib.hid (by rw [valP, hr3.out]; rfl), rfl, Lib.hid (F2.out.trans hf3.out)⟩⟩

set_option maxRecDepth 100000 in
set_option maxHeartbeats 32000000 in
theorem value_s {k : Nat} (hv : ValC k) : ValC (k + 1) := by
  intro w p s i n d hd0 hd00 h hE
  have HV := Lib.hid hv
  have HD : Hid (d + 1 + (k : Int) = 17) := Lib.hid (by omega)
  clear hv
  have hd1 : 0 ≤ d := by omega
  have HP := Lib.hid h
  have HE := Lib.hid hE
  have NQ : Hid (w.heap.size ≠ p) := Lib.hid (by have := h.1.lt; omega)
  clear h hE
  go_enter Tryz.func24, Tryz.ntmps24
  go_upto_region 1 with (fail)
  obtain ⟨w1, hw1⟩ : ∃ w1, w1 = w.alloc (.cells #[.int .i64 0, .int .i64 0, .string ⟨#[]⟩, .slice none 0 0, .slice none 0 0] 25) := ⟨_, rfl⟩
  have KR1 : Hid (Bk w1 w.heap.size 25 #[.int .i64 0, .int .i64 0, .string ⟨#[]⟩, .slice none 0 0, .slice none 0 0]) := Lib.hid (by rw [hw1]; exact Bk.new _ _ _)
  have F1 : Hid (FrS (One p) w w1) := Lib.hid (by rw [hw1]; exact FrS.of_below ((Below.refl _ _).alloc (Nat.le_refl _) _))
  have P1 : Hid (Ps w1 p s i n) := Lib.hid ⟨by rw [hw1]; exact HP.out.1.alloc _, HP.out.2⟩
  rw [← hw1]
  clear hw1
  go_wp2_with fail
  refine (blanks_any P1.out).mono ?_
  rintro _ w2 ⟨rfl, hp2, hf2⟩
  have P2 := Lib.hid hp2
  have F2 := Lib.hid (F1.out.trans hf2)
  have KR2 := Lib.hid (hf2.bk KR1.out (fun e => NQ.out e))
  have c1 := P2.out.1.cell 1
  clear hp2 hf2
  go_wp2_with fail
  refine (take_any P2.out set_sta).mono ?_
  rintro _ w3 (⟨c, j, hr3, rfl, hp3, hf3⟩ | ⟨j, e3, hr3, rfl, hf3⟩)
  · have F3 := Lib.hid (F2.out.trans hf3.out)
    have KR3 := Lib.hid (hf3.out.bk KR2.out (fun e => NQ.out e))
    have c2 := hp3.out.1.cell 2
    have fz := hp3.out.1.frozen 2
    unfold byteV
    clear c1
    have HJ1 : Hid (1 ≤ j) := Lib.hid (by have := (tkP_in hr3.out).2.1; omega)
    have t16 : decide (d ≤ 16) = true := by rw [decide_eq_true_eq]; omega
    go_wp2_with fail
    refine (require_any _ _ (skip s.data.toList i) 7 _).mono ?_
    rintro _ _ (⟨hb, rfl, rfl⟩ | ⟨hb, rfl, rfl⟩)
    · clear hb t16
      go_wp2_with fail
      refine (require_any _ _ (skip s.data.toList i) 6 _).mono ?_
      rintro _ _ (⟨hb, rfl, rfl⟩ | ⟨hb, rfl, rfl⟩)
      · have hn : n < 1000 := by have := of_decide_eq_true hb; omega
        obtain ⟨w4, hw4⟩ : ∃ w4, w4 = w3.setCell ⟨p, 2, none⟩ (.int .i64 ((n : Int) + 1)) := ⟨_, rfl⟩
        have P4 : Hid (Ps w4 p s j (n + 1)) := Lib.hid (by rw [hw4]; exact hp3.out.up hn)
        have F34 : Hid (FrS (One p) w3 w4) := Lib.hid (by rw [hw4]; exact FrS.one w3 p 2 _)
        have F4 := Lib.hid (F3.out.trans F34.out)
        have KR4 := Lib.hid (F34.out.bk KR3.out (fun e => NQ.out e))
        have E4 := Lib.hid (HE.out.one F4.out)
        have HVA : Hid (valP s.data.toList (k + 1) i n = bodP (valP s.data.toList k) s.data.toList c j (n + 1)) := Lib.hid (by rw [valP, hr3.out, PR.bind_ok, if_neg (by omega)])
        have HW4 := Lib.hid hw4
        clear hb hw4
        go_upto_region 7 with (fail)
        rw [← HW4.out]
        clear HW4 c2 fz
        by_cases hc110 : c = 110
        · have h110 : ((c.toNat : Int) == 110) = true := by rw [hc110]; rfl
          have HVB : Hid (valP s.data.toList (k + 1) i n = (wrdP s.data.toList [117, 108, 108] j).bind fun _ j => .ok (nullT, n + 1) j) := Lib.hid (by rw [HVA.out]; unfold bodP; rw [if_pos hc110])
          clear hc110 
          go_wp2_with fail
          refine (rest_any ⟨#[117, 108, 108]⟩ P4.out (by decide)).mono ?_
          rintro _ w5 (⟨_, j5, hr5, rfl, hp5, hf5⟩ | ⟨j5, e5, hr5, rfl, hf5⟩)
          · go_wp2_with fail
            refine (Null_any _).mono ?_
            rintro _ wX ⟨rfl, hbX⟩
            unfold zeroV
            have PX : Hid (Ps wX p s j5 (n + 1)) := Lib.hid (hp5.out.frs (S := fun _ => False) (FrS.of_below hbX) (fun h => h))
            have FX : Hid (FrS (One p) w wX) := Lib.hid (F4.out.trans (hf5.out.trans (FrS.of_below hbX)))
            have KRX := Lib.hid ((hf5.out.trans (FrS.of_below hbX)).bk KR4.out (fun e => NQ.out e))
            clear hbX
            have d0 := KRX.out.cell 0
            have d1 := KRX.out.cell 1
            have d2 := KRX.out.cell 2
            have d3 := KRX.out.cell 3
            have d4 := KRX.out.cell 4
            have f0 := KRX.out.frozen 0
            have f1 := KRX.out.frozen 1
            have f2 := KRX.out.frozen 2
            have f3 := KRX.out.frozen 3
            have f4 := KRX.out.frozen 4
            go_wp2
            obtain ⟨wf, hwf⟩ : ∃ wf, wf = put5 wX w.heap.size 0 (.int .i64 0) (.int .i64 0) (.string ⟨#[]⟩) (.slice none 0 0) (.slice none 0 0) := ⟨_, rfl⟩
            have QF : Hid (Bk wf w.heap.size 25 #[.int .i64 0, .int .i64 0, .string ⟨#[]⟩, .slice none 0 0, .slice none 0 0]) := Lib.hid (by rw [hwf]; exact put5_bk KRX.out)
            have PF : Hid (Ps wf p s j5 (n + 1)) := Lib.hid (by rw [hwf]; exact PX.out.bk (put5_bk_far PX.out.1 (by have := NQ.out; omega)))
            have FF : Hid (FrS (One p) w wf) := Lib.hid (by rw [hwf]; exact frs_put5 FX.out (Nat.le_refl _))
            have LF : Hid (Lies wf (New w wf) (nullT) (.agg #[.int .i64 0, .int .i64 0, .string ⟨#[]⟩, .slice none 0 0, .slice none 0 0])) := Lib.hid (by
              exact zero_lies _ _)
            have HRR : Hid (valP s.data.toList (k + 1) i n = .ok (nullT, (n + 1)) j5) := Lib.hid (by
              rw [HVB.out]; show (wrdP s.data.toList [117, 108, 108] j).bind _ = _; rw [hr5.out]; rfl)
            change bodyPost _ _ _ _ _ (put5 wX w.heap.size 0 (.int .i64 0) (.int .i64 0) (.string ⟨#[]⟩) (.slice none 0 0) (.slice none 0 0))
            rw [← hwf]
            refine bodyPost_ret (results_cell_row rfl _ _ w.heap.size 25 _ (0, 0) _ rfl QF.out Tryz.underlying25 rfl (by kernel_rfl)) rfl ?_
            exact .inl ⟨_, _, _, _, _, _, _, _, _, nullT, (n + 1), j5, rfl, HRR, LF, PF, FF⟩

          · exact ⟨rfl, .inr ⟨j5, e5, Lib.hid (by rw [HVB.out]; show (wrdP s.data.toList [117, 108, 108] j).bind _ = _; rw [hr5.out]; rfl), rfl, Lib.hid (F4.out.trans hf5.out)⟩⟩
        · have h110 : ((c.toNat : Int) == 110) = false := by
            rw [beq_eq_false_iff_ne]
            intro e
            exact hc110 (UInt8.toNat_inj.1 (by show c.toNat = 110; omega))
          by_cases hc116 : c = 116
          · have h116 : ((c.toNat : Int) == 116) = true := by rw [hc116]; rfl
            have HVB : Hid (valP s.data.toList (k + 1) i n = (wrdP s.data.toList [114, 117, 101] j).bind fun _ j => .ok (.mk 1 1 ⟨#[]⟩ [] [], n + 1) j) := Lib.hid (by rw [HVA.out]; unfold bodP; rw [if_neg hc110]; rw [if_pos hc116])
            clear hc116 hc110
            go_wp2_with fail
            refine (rest_any ⟨#[114, 117, 101]⟩ P4.out (by decide)).mono ?_
            rintro _ w5 (⟨_, j5, hr5, rfl, hp5, hf5⟩ | ⟨j5, e5, hr5, rfl, hf5⟩)
            · go_wp2_with fail
              refine (BoolT _).mono ?_
              rintro _ wX ⟨rfl, hbX⟩
              have PX : Hid (Ps wX p s j5 (n + 1)) := Lib.hid (hp5.out.frs (S := fun _ => False) (FrS.of_below hbX) (fun h => h))
              have FX : Hid (FrS (One p) w wX) := Lib.hid (F4.out.trans (hf5.out.trans (FrS.of_below hbX)))
              have KRX := Lib.hid ((hf5.out.trans (FrS.of_below hbX)).bk KR4.out (fun e => NQ.out e))
              clear hbX
              have d0 := KRX.out.cell 0
              have d1 := KRX.out.cell 1
              have d2 := KRX.out.cell 2
              have d3 := KRX.out.cell 3
              have d4 := KRX.out.cell 4
              have f0 := KRX.out.frozen 0
              have f1 := KRX.out.frozen 1
              have f2 := KRX.out.frozen 2
              have f3 := KRX.out.frozen 3
              have f4 := KRX.out.frozen 4
              go_wp2
              obtain ⟨wf, hwf⟩ : ∃ wf, wf = put5 wX w.heap.size 0 (.int .i64 1) (.int .i64 1) (.string ⟨#[]⟩) (.slice none 0 0) (.slice none 0 0) := ⟨_, rfl⟩
              have QF : Hid (Bk wf w.heap.size 25 #[.int .i64 1, .int .i64 1, .string ⟨#[]⟩, .slice none 0 0, .slice none 0 0]) := Lib.hid (by rw [hwf]; exact put5_bk KRX.out)
              have PF : Hid (Ps wf p s j5 (n + 1)) := Lib.hid (by rw [hwf]; exact PX.out.bk (put5_bk_far PX.out.1 (by have := NQ.out; omega)))
              have FF : Hid (FrS (One p) w wf) := Lib.hid (by rw [hwf]; exact frs_put5 FX.out (Nat.le_refl _))
              have LF : Hid (Lies wf (New w wf) (VT.mk 1 1 ⟨#[]⟩ [] []) (.agg #[.int .i64 1, .int .i64 1, .string ⟨#[]⟩, .slice none 0 0, .slice none 0 0])) := Lib.hid (by
                exact leaf_lies (by omega) (by omega) (by decide))
              have HRR : Hid (valP s.data.toList (k + 1) i n = .ok (VT.mk 1 1 ⟨#[]⟩ [] [], (n + 1)) j5) := Lib.hid (by
                rw [HVB.out]; show (wrdP s.data.toList [114, 117, 101] j).bind _ = _; rw [hr5.out]; rfl)
              change bodyPost _ _ _ _ _ (put5 wX w.heap.size 0 (.int .i64 1) (.int .i64 1) (.string ⟨#[]⟩) (.slice none 0 0) (.slice none 0 0))
              rw [← hwf]
              refine bodyPost_ret (results_cell_row rfl _ _ w.heap.size 25 _ (0, 0) _ rfl QF.out Tryz.underlying25 rfl (by kernel_rfl)) rfl ?_
              exact .inl ⟨_, _, _, _, _, _, _, _, _, VT.mk 1 1 ⟨#[]⟩ [] [], (n + 1), j5, rfl, HRR, LF, PF, FF⟩

            · exact ⟨rfl, .inr ⟨j5, e5, Lib.hid (by rw [HVB.out]; show (wrdP s.data.toList [114, 117, 101] j).bind _ = _; rw [hr5.out]; rfl), rfl, Lib.hid (F4.out.trans hf5.out)⟩⟩
          · have h116 : ((c.toNat : Int) == 116) = false := by
              rw [beq_eq_false_iff_ne]
              intro e
              exact hc116 (UInt8.toNat_inj.1 (by show c.toNat = 116; omega))
            by_cases hc102 : c = 102
            · have h102 : ((c.toNat : Int) == 102) = true := by rw [hc102]; rfl
              have HVB : Hid (valP s.data.toList (k + 1) i n = (wrdP s.data.toList [97, 108, 115, 101] j).bind fun _ j => .ok (.mk 1 0 ⟨#[]⟩ [] [], n + 1) j) := Lib.hid (by rw [HVA.out]; unfold bodP; rw [if_neg hc110]; rw [if_neg hc116]; rw [if_pos hc102])
              clear hc102 hc110 hc116
              go_wp2_with fail
              refine (rest_any ⟨#[97, 108, 115, 101]⟩ P4.out (by decide)).mono ?_
              rintro _ w5 (⟨_, j5, hr5, rfl, hp5, hf5⟩ | ⟨j5, e5, hr5, rfl, hf5⟩)
              · go_wp2_with fail
                refine (BoolF _).mono ?_
                rintro _ wX ⟨rfl, hbX⟩
                have PX : Hid (Ps wX p s j5 (n + 1)) := Lib.hid (hp5.out.frs (S := fun _ => False) (FrS.of_below hbX) (fun h => h))
                have FX : Hid (FrS (One p) w wX) := Lib.hid (F4.out.trans (hf5.out.trans (FrS.of_below hbX)))
                have KRX := Lib.hid ((hf5.out.trans (FrS.of_below hbX)).bk KR4.out (fun e => NQ.out e))
                clear hbX
                have d0 := KRX.out.cell 0
                have d1 := KRX.out.cell 1
                have d2 := KRX.out.cell 2
                have d3 := KRX.out.cell 3
                have d4 := KRX.out.cell 4
                have f0 := KRX.out.frozen 0
                have f1 := KRX.out.frozen 1
                have f2 := KRX.out.frozen 2
                have f3 := KRX.out.frozen 3
                have f4 := KRX.out.frozen 4
                go_wp2
                obtain ⟨wf, hwf⟩ : ∃ wf, wf = put5 wX w.heap.size 0 (.int .i64 1) (.int .i64 0) (.string ⟨#[]⟩) (.slice none 0 0) (.slice none 0 0) := ⟨_, rfl⟩
                have QF : Hid (Bk wf w.heap.size 25 #[.int .i64 1, .int .i64 0, .string ⟨#[]⟩, .slice none 0 0, .slice none 0 0]) := Lib.hid (by rw [hwf]; exact put5_bk KRX.out)
                have PF : Hid (Ps wf p s j5 (n + 1)) := Lib.hid (by rw [hwf]; exact PX.out.bk (put5_bk_far PX.out.1 (by have := NQ.out; omega)))
                have FF : Hid (FrS (One p) w wf) := Lib.hid (by rw [hwf]; exact frs_put5 FX.out (Nat.le_refl _))
                have LF : Hid (Lies wf (New w wf) (VT.mk 1 0 ⟨#[]⟩ [] []) (.agg #[.int .i64 1, .int .i64 0, .string ⟨#[]⟩, .slice none 0 0, .slice none 0 0])) := Lib.hid (by
                  exact leaf_lies (by omega) (by omega) (by decide))
                have HRR : Hid (valP s.data.toList (k + 1) i n = .ok (VT.mk 1 0 ⟨#[]⟩ [] [], (n + 1)) j5) := Lib.hid (by
                  rw [HVB.out]; show (wrdP s.data.toList [97, 108, 115, 101] j).bind _ = _; rw [hr5.out]; rfl)
                change bodyPost _ _ _ _ _ (put5 wX w.heap.size 0 (.int .i64 1) (.int .i64 0) (.string ⟨#[]⟩) (.slice none 0 0) (.slice none 0 0))
                rw [← hwf]
                refine bodyPost_ret (results_cell_row rfl _ _ w.heap.size 25 _ (0, 0) _ rfl QF.out Tryz.underlying25 rfl (by kernel_rfl)) rfl ?_
                exact .inl ⟨_, _, _, _, _, _, _, _, _, VT.mk 1 0 ⟨#[]⟩ [] [], (n + 1), j5, rfl, HRR, LF, PF, FF⟩

              · exact ⟨rfl, .inr ⟨j5, e5, Lib.hid (by rw [HVB.out]; show (wrdP s.data.toList [97, 108, 115, 101] j).bind _ = _; rw [hr5.out]; rfl), rfl, Lib.hid (F4.out.trans hf5.out)⟩⟩
            · have h102 : ((c.toNat : Int) == 102) = false := by
                rw [beq_eq_false_iff_ne]
                intro e
                exact hc102 (UInt8.toNat_inj.1 (by show c.toNat = 102; omega))
              by_cases hc34 : c = 34
              · have h34 : ((c.toNat : Int) == 34) = true := by rw [hc34]; rfl
                have HVB : Hid (valP s.data.toList (k + 1) i n = (litP s.data.toList j).bind fun s j => .ok (.mk 3 0 s [] [], n + 1) j) := Lib.hid (by rw [HVA.out]; unfold bodP; rw [if_neg hc110]; rw [if_neg hc116]; rw [if_neg hc102]; rw [if_pos hc34])
                clear hc34 hc110 hc116 hc102
                go_wp2_with fail
                refine (literal_any P4.out HJ1.out).mono ?_
                rintro _ w5 (⟨t, j5, hr5, rfl, hp5, hf5⟩ | ⟨j5, e5, hr5, rfl, hf5⟩)
                · unfold strV
                  go_wp2_with fail
                  refine (Text_any t _).mono ?_
                  rintro _ wX ⟨rfl, hbX⟩
                  have PX : Hid (Ps wX p s j5 (n + 1)) := Lib.hid (hp5.out.frs (S := fun _ => False) (FrS.of_below hbX) (fun h => h))
                  have FX : Hid (FrS (One p) w wX) := Lib.hid (F4.out.trans (hf5.out.trans (FrS.of_below hbX)))
                  have KRX := Lib.hid ((hf5.out.trans (FrS.of_below hbX)).bk KR4.out (fun e => NQ.out e))
                  clear hbX
                  have d0 := KRX.out.cell 0
                  have d1 := KRX.out.cell 1
                  have d2 := KRX.out.cell 2
                  have d3 := KRX.out.cell 3
                  have d4 := KRX.out.cell 4
                  have f0 := KRX.out.frozen 0
                  have f1 := KRX.out.frozen 1
                  have f2 := KRX.out.frozen 2
                  have f3 := KRX.out.frozen 3
                  have f4 := KRX.out.frozen 4
                  go_wp2
                  obtain ⟨wf, hwf⟩ : ∃ wf, wf = put5 wX w.heap.size 0 (.int .i64 3) (.int .i64 0) (.string t) (.slice none 0 0) (.slice none 0 0) := ⟨_, rfl⟩
                  have QF : Hid (Bk wf w.heap.size 25 #[.int .i64 3, .int .i64 0, .string t, .slice none 0 0, .slice none 0 0]) := Lib.hid (by rw [hwf]; exact put5_bk KRX.out)
                  have PF : Hid (Ps wf p s j5 (n + 1)) := Lib.hid (by rw [hwf]; exact PX.out.bk (put5_bk_far PX.out.1 (by have := NQ.out; omega)))
                  have FF : Hid (FrS (One p) w wf) := Lib.hid (by rw [hwf]; exact frs_put5 FX.out (Nat.le_refl _))
                  have LF : Hid (Lies wf (New w wf) (VT.mk 3 0 t [] []) (.agg #[.int .i64 3, .int .i64 0, .string t, .slice none 0 0, .slice none 0 0])) := Lib.hid (by
                    exact leaf_lies (by omega) (by omega) (by have := litP_size hr5.out; omega))
                  have HRR : Hid (valP s.data.toList (k + 1) i n = .ok (VT.mk 3 0 t [] [], (n + 1)) j5) := Lib.hid (by
                    rw [HVB.out]; show (litP s.data.toList j).bind _ = _; rw [hr5.out]; rfl)
                  change bodyPost _ _ _ _ _ (put5 wX w.heap.size 0 (.int .i64 3) (.int .i64 0) (.string t) (.slice none 0 0) (.slice none 0 0))
                  rw [← hwf]
                  refine bodyPost_ret (results_cell_row rfl _ _ w.heap.size 25 _ (0, 0) _ rfl QF.out Tryz.underlying25 rfl (by kernel_rfl)) rfl ?_
                  exact .inl ⟨_, _, _, _, _, _, _, _, _, VT.mk 3 0 t [] [], (n + 1), j5, rfl, HRR, LF, PF, FF⟩

                · exact ⟨rfl, .inr ⟨j5, e5, Lib.hid (by rw [HVB.out]; show (litP s.data.toList j).bind _ = _; rw [hr5.out]; rfl), rfl, Lib.hid (F4.out.trans hf5.out)⟩⟩
              · have h34 : ((c.toNat : Int) == 34) = false := by
                  rw [beq_eq_false_iff_ne]
                  intro e
                  exact hc34 (UInt8.toNat_inj.1 (by show c.toNat = 34; omega))
                by_cases hc91 : c = 91
                · have h91 : ((c.toNat : Int) == 91) = true := by rw [hc91]; rfl
                  have HVB : Hid (valP s.data.toList (k + 1) i n = (elemsP (elL (valP s.data.toList k)) 93 s.data.toList j ([], n + 1)).bind fun st j => .ok (VT.mk 4 0 ⟨#[]⟩ st.1 [], st.2) j) := Lib.hid (by rw [HVA.out]; unfold bodP; rw [if_neg hc110]; rw [if_neg hc116]; rw [if_neg hc102]; rw [if_neg hc34]; rw [if_pos hc91])
                  clear hc91 hc110 hc116 hc102 hc34
                  go_wp2_with fail
                  refine (list_any HV.out HD.out hd1 P4.out E4.out).mono ?_
                  rintro _ wX (⟨k5, i5, t5, A5, m5, c5, A6, m6, c6, x, n5, j5, rfl, hr5, hl5, PX, hf5⟩ | ⟨j5, e5, hr5, rfl, hf5⟩)
                  · skip
                    have FX : Hid (FrS (One p) w wX) := Lib.hid (F4.out.trans (hf5.out))
                    have KRX := Lib.hid ((hf5.out).bk KR4.out (fun e => NQ.out e))
                    have d0 := KRX.out.cell 0
                    have d1 := KRX.out.cell 1
                    have d2 := KRX.out.cell 2
                    have d3 := KRX.out.cell 3
                    have d4 := KRX.out.cell 4
                    have f0 := KRX.out.frozen 0
                    have f1 := KRX.out.frozen 1
                    have f2 := KRX.out.frozen 2
                    have f3 := KRX.out.frozen 3
                    have f4 := KRX.out.frozen 4
                    go_wp2
                    obtain ⟨wf, hwf⟩ : ∃ wf, wf = put5 wX w.heap.size 0 (.int .i64 k5) (.int .i64 i5) (.string t5) (.slice A5 m5 c5) (.slice A6 m6 c6) := ⟨_, rfl⟩
                    have QF : Hid (Bk wf w.heap.size 25 #[.int .i64 k5, .int .i64 i5, .string t5, .slice A5 m5 c5, .slice A6 m6 c6]) := Lib.hid (by rw [hwf]; exact put5_bk KRX.out)
                    have PF : Hid (Ps wf p s j5 n5) := Lib.hid (by rw [hwf]; exact PX.out.bk (put5_bk_far PX.out.1 (by have := NQ.out; omega)))
                    have FF : Hid (FrS (One p) w wf) := Lib.hid (by rw [hwf]; exact frs_put5 FX.out (Nat.le_refl _))
                    have LF : Hid (Lies wf (New w wf) (x) (.agg #[.int .i64 k5, .int .i64 i5, .string t5, .slice A5 m5 c5, .slice A6 m6 c6])) := Lib.hid (by
                      rw [hwf]; exact hl5.out.keep (fun q hq => World.cell?_of_block (put5_far (by have := hq.1; have := KR4.out.lt; omega))) (fun b hb => ⟨by have := hb.1; have := F4.out.size; omega, by rw [put5_size]; exact hb.2⟩))
                    have HRR : Hid (valP s.data.toList (k + 1) i n = .ok (x, n5) j5) := Lib.hid (by
                      rw [HVB.out]; exact hr5.out)
                    change bodyPost _ _ _ _ _ (put5 wX w.heap.size 0 (.int .i64 k5) (.int .i64 i5) (.string t5) (.slice A5 m5 c5) (.slice A6 m6 c6))
                    rw [← hwf]
                    refine bodyPost_ret (results_cell_row rfl _ _ w.heap.size 25 _ (0, 0) _ rfl QF.out Tryz.underlying25 rfl (by kernel_rfl)) rfl ?_
                    exact .inl ⟨_, _, _, _, _, _, _, _, _, x, n5, j5, rfl, HRR, LF, PF, FF⟩

                  · exact ⟨rfl, .inr ⟨j5, e5, Lib.hid (by rw [HVB.out]; exact hr5.out), rfl, Lib.hid (F4.out.trans hf5.out)⟩⟩
                · have h91 : ((c.toNat : Int) == 91) = false := by
                    rw [beq_eq_false_iff_ne]
                    intro e
                    exact hc91 (UInt8.toNat_inj.1 (by show c.toNat = 91; omega))
                  by_cases hc123 : c = 123
                  · have h123 : ((c.toNat : Int) == 123) = true := by rw [hc123]; rfl
                    have HVB : Hid (valP s.data.toList (k + 1) i n = (elemsP (elM s.data.toList (valP s.data.toList k)) 125 s.data.toList j ([], [], n + 1)).bind fun st j => .ok (VT.mk 5 0 ⟨#[]⟩ st.2.1 st.1, st.2.2) j) := Lib.hid (by rw [HVA.out]; unfold bodP; rw [if_neg hc110]; rw [if_neg hc116]; rw [if_neg hc102]; rw [if_neg hc34]; rw [if_neg hc91]; rw [if_pos hc123])
                    clear hc123 hc110 hc116 hc102 hc34 hc91
                    go_wp2_with fail
                    refine (pairs_any HV.out HD.out hd1 P4.out E4.out).mono ?_
                    rintro _ wX (⟨k5, i5, t5, A5, m5, c5, A6, m6, c6, x, n5, j5, rfl, hr5, hl5, PX, hf5⟩ | ⟨j5, e5, hr5, rfl, hf5⟩)
                    · skip
                      have FX : Hid (FrS (One p) w wX) := Lib.hid (F4.out.trans (hf5.out))
                      have KRX := Lib.hid ((hf5.out).bk KR4.out (fun e => NQ.out e))
                      have d0 := KRX.out.cell 0
                      have d1 := KRX.out.cell 1
                      have d2 := KRX.out.cell 2
                      have d3 := KRX.out.cell 3
                      have d4 := KRX.out.cell 4
                      have f0 := KRX.out.frozen 0
                      have f1 := KRX.out.frozen 1
                      have f2 := KRX.out.frozen 2
                      have f3 := KRX.out.frozen 3
                      have f4 := KRX.out.frozen 4
                      go_wp2
                      obtain ⟨wf, hwf⟩ : ∃ wf, wf = put5 wX w.heap.size 0 (.int .i64 k5) (.int .i64 i5) (.string t5) (.slice A5 m5 c5) (.slice A6 m6 c6) := ⟨_, rfl⟩
                      have QF : Hid (Bk wf w.heap.size 25 #[.int .i64 k5, .int .i64 i5, .string t5, .slice A5 m5 c5, .slice A6 m6 c6]) := Lib.hid (by rw [hwf]; exact put5_bk KRX.out)
                      have PF : Hid (Ps wf p s j5 n5) := Lib.hid (by rw [hwf]; exact PX.out.bk (put5_bk_far PX.out.1 (by have := NQ.out; omega)))
                      have FF : Hid (FrS (One p) w wf) := Lib.hid (by rw [hwf]; exact frs_put5 FX.out (Nat.le_refl _))
                      have LF : Hid (Lies wf (New w wf) (x) (.agg #[.int .i64 k5, .int .i64 i5, .string t5, .slice A5 m5 c5, .slice A6 m6 c6])) := Lib.hid (by
                        rw [hwf]; exact hl5.out.keep (fun q hq => World.cell?_of_block (put5_far (by have := hq.1; have := KR4.out.lt; omega))) (fun b hb => ⟨by have := hb.1; have := F4.out.size; omega, by rw [put5_size]; exact hb.2⟩))
                      have HRR : Hid (valP s.data.toList (k + 1) i n = .ok (x, n5) j5) := Lib.hid (by
                        rw [HVB.out]; exact hr5.out)
                      change bodyPost _ _ _ _ _ (put5 wX w.heap.size 0 (.int .i64 k5) (.int .i64 i5) (.string t5) (.slice A5 m5 c5) (.slice A6 m6 c6))
                      rw [← hwf]
                      refine bodyPost_ret (results_cell_row rfl _ _ w.heap.size 25 _ (0, 0) _ rfl QF.out Tryz.underlying25 rfl (by kernel_rfl)) rfl ?_
                      exact .inl ⟨_, _, _, _, _, _, _, _, _, x, n5, j5, rfl, HRR, LF, PF, FF⟩

                    · exact ⟨rfl, .inr ⟨j5, e5, Lib.hid (by rw [HVB.out]; exact hr5.out), rfl, Lib.hid (F4.out.trans hf5.out)⟩⟩
                  · have h123 : ((c.toNat : Int) == 123) = false := by
                      rw [beq_eq_false_iff_ne]
                      intro e
                      exact hc123 (UInt8.toNat_inj.1 (by show c.toNat = 123; omega))
                    have HVB : Hid (valP s.data.toList (k + 1) i n = (intP s.data.toList c j).bind fun v j => .ok (.mk 2 v ⟨#[]⟩ [] [], n + 1) j) := Lib.hid (by rw [HVA.out]; unfold bodP; rw [if_neg hc110]; rw [if_neg hc116]; rw [if_neg hc102]; rw [if_neg hc34]; rw [if_neg hc91]; rw [if_neg hc123])
                    clear hc110
                    clear hc116
                    clear hc102
                    clear hc34
                    clear hc91
                    clear hc123

                    go_wp2_with fail
                    refine (integer_any c P4.out HJ1.out E4.out).mono ?_
                    rintro _ wX (⟨v, j5, hr5, rfl, PX, hf5⟩ | ⟨j5, e5, hr5, rfl, hf5⟩)
                    · unfold intV
                      have FX : Hid (FrS (One p) w wX) := Lib.hid (F4.out.trans (hf5.out))
                      have KRX := Lib.hid ((hf5.out).bk KR4.out (fun e => NQ.out e))
                      have d0 := KRX.out.cell 0
                      have d1 := KRX.out.cell 1
                      have d2 := KRX.out.cell 2
                      have d3 := KRX.out.cell 3
                      have d4 := KRX.out.cell 4
                      have f0 := KRX.out.frozen 0
                      have f1 := KRX.out.frozen 1
                      have f2 := KRX.out.frozen 2
                      have f3 := KRX.out.frozen 3
                      have f4 := KRX.out.frozen 4
                      go_wp2
                      obtain ⟨wf, hwf⟩ : ∃ wf, wf = put5 wX w.heap.size 0 (.int .i64 2) (.int .i64 v) (.string ⟨#[]⟩) (.slice none 0 0) (.slice none 0 0) := ⟨_, rfl⟩
                      have QF : Hid (Bk wf w.heap.size 25 #[.int .i64 2, .int .i64 v, .string ⟨#[]⟩, .slice none 0 0, .slice none 0 0]) := Lib.hid (by rw [hwf]; exact put5_bk KRX.out)
                      have PF : Hid (Ps wf p s j5 (n + 1)) := Lib.hid (by rw [hwf]; exact PX.out.bk (put5_bk_far PX.out.1 (by have := NQ.out; omega)))
                      have FF : Hid (FrS (One p) w wf) := Lib.hid (by rw [hwf]; exact frs_put5 FX.out (Nat.le_refl _))
                      have LF : Hid (Lies wf (New w wf) (VT.mk 2 v ⟨#[]⟩ [] []) (.agg #[.int .i64 2, .int .i64 v, .string ⟨#[]⟩, .slice none 0 0, .slice none 0 0])) := Lib.hid (by
                        exact leaf_lies (by omega) (intP_bounds hr5.out) (by decide))
                      have HRR : Hid (valP s.data.toList (k + 1) i n = .ok (VT.mk 2 v ⟨#[]⟩ [] [], (n + 1)) j5) := Lib.hid (by
                        rw [HVB.out]; show (intP s.data.toList c j).bind _ = _; rw [hr5.out]; rfl)
                      change bodyPost _ _ _ _ _ (put5 wX w.heap.size 0 (.int .i64 2) (.int .i64 v) (.string ⟨#[]⟩) (.slice none 0 0) (.slice none 0 0))
                      rw [← hwf]
                      refine bodyPost_ret (results_cell_row rfl _ _ w.heap.size 25 _ (0, 0) _ rfl QF.out Tryz.underlying25 rfl (by kernel_rfl)) rfl ?_
                      exact .inl ⟨_, _, _, _, _, _, _, _, _, VT.mk 2 v ⟨#[]⟩ [] [], (n + 1), j5, rfl, HRR, LF, PF, FF⟩

                    · exact ⟨rfl, .inr ⟨j5, e5, Lib.hid (by rw [HVB.out]; show (intP s.data.toList c j).bind _ = _; rw [hr5.out]; rfl), rfl, Lib.hid (F4.out.trans hf5.out)⟩⟩
      · have hn : 1000 ≤ n := by have := of_decide_eq_false hb; omega
        exact ⟨rfl, .inr ⟨_, 6, Lib.hid (by rw [valP, hr3.out, PR.bind_ok, if_pos hn]), rfl, F3⟩⟩
    · simp at hb
  · exact ⟨rfl, .inr ⟨j, e3, Lib.hid (by rw [valP, hr3.out]; rfl), rfl, Lib.hid (F2.out.trans hf3.out)⟩⟩

theorem value_any : ∀ k, ValC k
  | 0 => value_0
  | k + 1 => value_s (value_any k)
end Go.Proofs.YtjblchdfkcbodaaGreatDoor
