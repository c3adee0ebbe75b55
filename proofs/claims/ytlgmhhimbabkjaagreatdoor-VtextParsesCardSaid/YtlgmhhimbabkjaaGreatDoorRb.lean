/-
  The reference's parser: blank.
-/
import Derived.Test.YtlgmhhimbabkjaaGreatDoorRa
import Derived.Lib.QuietBelow
namespace Go.Proofs.YtlgmhhimbabkjaaGreatDoor
open Go.RowKit Go.Sort
section
variable {w : World} {p : Nat} {s : ByteArray} {i n : Nat}
set_option maxRecDepth 100000 in
set_option maxHeartbeats 4000000 in
theorem rblank_run (h : Rn w p s i n) :
    Calls Tryz.prog 28 #[.pointer (some ⟨p, 0, none⟩)] w fun e w' => e = .returned (.tuple #[]) ∧ Rn w' p s (skip s.data.toList i) n ∧ FrS (One p) w w' := by
  have HP := Lib.hid h
  have hi0 := h.2.1
  have H1 := h.2.2.1
  clear h
  go_enter Tryz.func28, Tryz.ntmps28
  go_wp2_with fail
  go_loopg [] (s.size - i) (fun gh wr => ∃ j, j ≤ s.size ∧ gh = s.size - j ∧ Hid (Rn wr p s j n) ∧ Hid (FrS (One p) w wr) ∧ Hid (skip s.data.toList j = skip s.data.toList i))
  case atStart => exact ⟨i, hi0, rfl, HP, Lib.hid (FrS.refl _ _), Lib.hid rfl⟩
  case round =>
    obtain ⟨j, hj, rfl, HJ, HF, HR⟩ := hrel
    have c0 := HJ.out.1.cell 0
    have c1 := HJ.out.1.cell 1
    have c4 := HJ.out.1.cell 4
    by_cases hlt : j < s.size
    · have ht : decide ((j : Int) < (s.size : Int)) = true := by rw [decide_eq_true_eq]; omega
      have HA := Lib.hid (in_at hlt)
      by_cases h32 : s[j].toNat = 32
      · have hbk : blk s[j] = true := by rw [show s[j] = 32 from UInt8.toNat_inj.1 h32]; rfl
        have t32 : ((s[j].toNat : Int) == 32) = true := by rw [beq_iff_eq]; omega
        go_wp2_with fail
        simp only [List.append]
        go_region
        have HP2 := Lib.hid (HJ.out.dr (Dr.drew wr))
        have HF2 := Lib.hid (HF.out.trans (Dr.drew wr).frs)
        clear c0 c1 c4 ht
        generalize wr.drew = w2 at *
        have HN := Lib.hid ((run_on (p := blk) HA.out hbk).symm.trans HR.out)
        have c1 := HP2.out.1.cell 1
        have fz := HP2.out.1.frozen 1
        have HP3 := Lib.hid (HP2.out.to (j + 1) hlt)
        have HF3 := Lib.hid (HF2.out.trans (FrS.one w2 p 1 (.int .i64 ((j + 1 : Nat) : Int))))
        clear hbk
        go_wp2
        go_roundg (s.size - (j + 1))
        case measure => omega
        case rel => exact ⟨j + 1, hlt, rfl, HP3, HF3, HN⟩
      by_cases h9 : s[j].toNat = 9
      · have hbk : blk s[j] = true := by rw [show s[j] = 9 from UInt8.toNat_inj.1 h9]; rfl
        have t32 : ((s[j].toNat : Int) == 32) = false := by rw [beq_eq_false_iff_ne]; omega
        have t9 : ((s[j].toNat : Int) == 9) = true := by rw [beq_iff_eq]; omega
        go_wp2_with fail
        simp only [List.append]
        go_region
        have HP2 := Lib.hid (HJ.out.dr (Dr.drew wr))
        have HF2 := Lib.hid (HF.out.trans (Dr.drew wr).frs)
        clear c0 c1 c4 ht
        generalize wr.drew = w2 at *
        have HN := Lib.hid ((run_on (p := blk) HA.out hbk).symm.trans HR.out)
        have c1 := HP2.out.1.cell 1
        have fz := HP2.out.1.frozen 1
        have HP3 := Lib.hid (HP2.out.to (j + 1) hlt)
        have HF3 := Lib.hid (HF2.out.trans (FrS.one w2 p 1 (.int .i64 ((j + 1 : Nat) : Int))))
        clear hbk
        go_wp2
        go_roundg (s.size - (j + 1))
        case measure => omega
        case rel => exact ⟨j + 1, hlt, rfl, HP3, HF3, HN⟩
      by_cases h10 : s[j].toNat = 10
      · have hbk : blk s[j] = true := by rw [show s[j] = 10 from UInt8.toNat_inj.1 h10]; rfl
        have t32 : ((s[j].toNat : Int) == 32) = false := by rw [beq_eq_false_iff_ne]; omega
        have t9 : ((s[j].toNat : Int) == 9) = false := by rw [beq_eq_false_iff_ne]; omega
        have t10 : ((s[j].toNat : Int) == 10) = true := by rw [beq_iff_eq]; omega
        go_wp2_with fail
        simp only [List.append]
        go_region
        have HP2 := Lib.hid (HJ.out.dr (Dr.drew wr))
        have HF2 := Lib.hid (HF.out.trans (Dr.drew wr).frs)
        clear c0 c1 c4 ht
        generalize wr.drew = w2 at *
        have HN := Lib.hid ((run_on (p := blk) HA.out hbk).symm.trans HR.out)
        have c1 := HP2.out.1.cell 1
        have fz := HP2.out.1.frozen 1
        have HP3 := Lib.hid (HP2.out.to (j + 1) hlt)
        have HF3 := Lib.hid (HF2.out.trans (FrS.one w2 p 1 (.int .i64 ((j + 1 : Nat) : Int))))
        clear hbk
        go_wp2
        go_roundg (s.size - (j + 1))
        case measure => omega
        case rel => exact ⟨j + 1, hlt, rfl, HP3, HF3, HN⟩
      by_cases h13 : s[j].toNat = 13
      · have hbk : blk s[j] = true := by rw [show s[j] = 13 from UInt8.toNat_inj.1 h13]; rfl
        have t32 : ((s[j].toNat : Int) == 32) = false := by rw [beq_eq_false_iff_ne]; omega
        have t9 : ((s[j].toNat : Int) == 9) = false := by rw [beq_eq_false_iff_ne]; omega
        have t10 : ((s[j].toNat : Int) == 10) = false := by rw [beq_eq_false_iff_ne]; omega
        have t13 : ((s[j].toNat : Int) == 13) = true := by rw [beq_iff_eq]; omega
        go_wp2_with fail
        simp only [List.append]
        go_region
        have HP2 := Lib.hid (HJ.out.dr (Dr.drew wr))
        have HF2 := Lib.hid (HF.out.trans (Dr.drew wr).frs)
        clear c0 c1 c4 ht
        generalize wr.drew = w2 at *
        have HN := Lib.hid ((run_on (p := blk) HA.out hbk).symm.trans HR.out)
        have c1 := HP2.out.1.cell 1
        have fz := HP2.out.1.frozen 1
        have HP3 := Lib.hid (HP2.out.to (j + 1) hlt)
        have HF3 := Lib.hid (HF2.out.trans (FrS.one w2 p 1 (.int .i64 ((j + 1 : Nat) : Int))))
        clear hbk
        go_wp2
        go_roundg (s.size - (j + 1))
        case measure => omega
        case rel => exact ⟨j + 1, hlt, rfl, HP3, HF3, HN⟩
      · have hbk : blk s[j] = false := by
          unfold blk
          rw [Bool.eq_false_iff]
          intro e
          simp only [Bool.or_eq_true, beq_iff_eq] at e
          rcases e with ((e | e) | e) | e <;> (rw [e] at h32 h9 h10 h13; first | exact h32 rfl | exact h9 rfl | exact h10 rfl | exact h13 rfl)
        have t32 : ((s[j].toNat : Int) == 32) = false := by rw [beq_eq_false_iff_ne]; omega
        have t9 : ((s[j].toNat : Int) == 9) = false := by rw [beq_eq_false_iff_ne]; omega
        have t10 : ((s[j].toNat : Int) == 10) = false := by rw [beq_eq_false_iff_ne]; omega
        have t13 : ((s[j].toNat : Int) == 13) = false := by rw [beq_eq_false_iff_ne]; omega
        go_wp2_with fail
        simp only [List.append]
        go_region
        have HP2 := Lib.hid (HJ.out.dr (Dr.drew wr))
        have HF2 := Lib.hid (HF.out.trans (Dr.drew wr).frs)
        clear c0 c1 c4 ht
        generalize wr.drew = w2 at *
        have HN := Lib.hid ((run_off (p := blk) HA.out hbk).symm.trans HR.out)
        clear hbk
        go_wp2
        refine bodyPost_end (results_none rfl _ _ _) rfl ?_
        exact ⟨rfl, by rw [← HN.out]; exact HP2.out, HF2.out⟩
    · have ht : decide ((j : Int) < (s.size : Int)) = false := by rw [decide_eq_false_iff_not]; omega
      go_wp2_with fail
      simp only [List.append]
      go_region
      have HP2 := Lib.hid (HJ.out.dr (Dr.drew wr))
      have HF2 := Lib.hid (HF.out.trans (Dr.drew wr).frs)
      have HN := Lib.hid ((run_end (p := blk) (l := s.data.toList) (i := j) (by rw [list_len]; omega)).symm.trans HR.out)
      go_wp2
      refine bodyPost_end (results_none rfl _ _ _) rfl ?_
      exact ⟨rfl, by rw [← HN.out]; exact HP2.out, HF2.out⟩
end
end Go.Proofs.YtlgmhhimbabkjaaGreatDoor
