/-
  Contract of number, of the reference. (gen_kn.py)
-/
import Derived.Test.YtemdcgeopaphaaaDoorKy
namespace Go.Proofs.YtemdcgeopaphaaaDoor
open Go.RowKit

/-- what the reference's number hands back -/
def numV : TR → Value
  | .ok _ _ v n => .tuple #[.int .i64 v, .int .i64 (n : Nat), .int .i64 0]
  | .err e => .tuple #[.int .i64 0, .int .i64 0, .int .i64 e]
theorem ret_num {a b : TR} (h : a = b) : Ending.returned (numV a) = .returned (numV b) := by rw [h]
theorem fst_dropno {t : ByteArray} {n : Nat} (h : ¬ n < t.size) : fst letT (t.data.toList.drop n) = false := by
  rw [List.drop_of_length_le (by simp; omega)]; rfl
theorem fst_dropat {t : ByteArray} {n : Nat} (h : n < t.size) : fst letT (t.data.toList.drop n) = letT t[n] := by
  rw [drop_at h]; rfl
set_option maxRecDepth 100000 in
set_option maxHeartbeats 16000000 in
theorem rnumber_any (t : ByteArray) (w : World) (h1 : 0 < spn dgtT t.data.toList) (hz : t.size ≤ 1000000) :
    Calls Tryd.prog 39 #[.string t] w fun e w' => e = .returned (numV (intT t.data.toList)) ∧ Dr w w' := by
  have hl : t.data.toList.length = t.size := by simp
  obtain ⟨m, hm⟩ : ∃ m, m = spn dgtT t.data.toList := ⟨_, rfl⟩
  have hms : m ≤ t.size := by rw [hm, ← hl]; exact spn_le _ _
  rw [← hm] at h1
  have h0 : 0 < t.size := by omega
  have hmi : (m : Int) ≤ (t.size : Int) := by omega
  have h0i : (0 : Int) < (t.size : Int) := by omega
  have HM := Lib.hid hm
  have HL := Lib.hid hl
  have HBD := Lib.hid (badT_of h0 hm)
  obtain ⟨bad, hbad⟩ : ∃ bad, bad = badT t.data.toList := ⟨_, rfl⟩
  have HBAD := Lib.hid hbad
  clear hm hbad hl
  go_enter Tryd.func39, Tryd.ntmps39
  go_wp2_with fail
  go_loopw [5] (fun nv wr => ∃ j : Nat, j ≤ m ∧ nv = .int .i64 j ∧ Hid (Dr w wr)) (fun nv _ => m - (intOf nv).toNat)
  case atStart => exact ⟨0, Nat.zero_le _, rfl, Lib.hid (Dr.refl _)⟩
  case round =>
    obtain ⟨j, hj, rfl, HD⟩ := hrel
    by_cases hlt : j < m
    · have hjs : j < t.size := by omega
      have hji : (j : Int) < (t.size : Int) := by omega
      have hdj := spn_at (by rw [← HM.out]; exact hlt) (in_at hjs)
      have RD := Lib.hid (fun V => rdigit_any t[j] V)
      rw [hdj] at RD
      clear hdj
      go_wp2_with fail
      refine (RD.out _).mono ?_
      rintro _ wr ⟨rfl, rfl⟩
      go_wp2_with fail
      go_roundw
      case rel => exact ⟨j + 1, hlt, by go_num, HD⟩
      case measure => simp [intOf]; omega
    · obtain rfl : j = m := by omega
      clear hlt hj
      by_cases hjs : j < t.size
      · have hd : dgtT t[j] = false := spn_end (l := t.data.toList) (by rw [← HM.out]; exact in_at hjs)
        have RD := Lib.hid (fun V => rdigit_any t[j] V)
        rw [hd] at RD
        have hji : (j : Int) < (t.size : Int) := by omega
        clear hd
        have HF : Hid (bad = ((decide (1 < j) && decide (t[0].toNat = 48)) || letT t[j])) := Lib.hid (by rw [HBAD.out, HBD.out, fst_dropat hjs])
        have RL := Lib.hid (fun V => rletter_any t[j] V)
        obtain ⟨lt, hlt⟩ : ∃ b, letT t[j] = b := ⟨_, rfl⟩
        rw [hlt] at RL HF
        clear hlt
        go_wp2_with fail
        refine (RD.out _).mono ?_
        rintro _ wr ⟨rfl, rfl⟩
        go_upto_region 4 with (fail)
        go_cut [39] from 21 to 40 (fun v wx => v = .bool bad ∧ Hid (Dr w wx))
        case first =>
          by_cases hn1 : 1 < j
          · have g1 : (1 : Int) < (j : Int) := by omega
            by_cases h48 : t[0].toNat = 48
            · have t48 : ((t[0].toNat : Int) == 48) = true := by rw [beq_iff_eq]; omega
              have HV : Hid (bad = true) := Lib.hid (by rw [HF.out, decide_eq_true hn1, decide_eq_true h48]; rfl)
              clear hn1 h48
              go_wp2_with fail
              go_meet
              exact ⟨by rw [HV.out], HD⟩
            · have t48 : ((t[0].toNat : Int) == 48) = false := by rw [beq_eq_false_iff_ne]; omega
              have HV : Hid (bad = lt) := Lib.hid (by rw [HF.out, decide_eq_false h48, Bool.and_false, Bool.false_or])
              clear hn1 h48
              go_wp2_with fail
              refine (RL.out _).mono ?_
              rintro _ wr ⟨rfl, rfl⟩
              go_wp2_with fail
              go_meet
              exact ⟨by rw [HV.out], HD⟩
          · have g1 : ¬ (1 : Int) < (j : Int) := by omega
            have HV : Hid (bad = lt) := Lib.hid (by rw [HF.out, decide_eq_false hn1, Bool.false_and, Bool.false_or])
            clear hn1
            go_wp2_with fail
            refine (RL.out _).mono ?_
            rintro _ wr ⟨rfl, rfl⟩
            go_wp2_with fail
            go_meet
            exact ⟨by rw [HV.out], HD⟩
        case rest =>
          obtain ⟨rfl, HC⟩ := hcut
          cases bad with
          | true =>
            have HR : Hid (intT t.data.toList = .err 3) := Lib.hid (by unfold intT; rw [← HBAD.out]; rfl)
            go_wp2_with fail
            go_ret3
            exact ⟨ret_num HR.out.symm, HC.out⟩
          | false =>
            go_wp2_with fail
            go_loopw [6, 7] (fun xv iv wr => ∃ (i x : Nat), i ≤ j ∧ x ≤ 9223372036854775807 ∧ xv = .int .i64 x ∧ iv = .int .i64 i ∧ Hid (x = dval 0 (t.data.toList.take i)) ∧ Hid (Dr w wr)) (fun _ iv _ => j - (intOf iv).toNat)
            case atStart => exact ⟨0, 0, Nat.zero_le _, by omega, rfl, rfl, Lib.hid rfl, HC⟩
            case round =>
              obtain ⟨i, x, hi, hx, rfl, rfl, HX, HD2⟩ := hrel
              by_cases hlt : i < j
              · have his : i < t.size := by omega
                have hii : (i : Int) < (t.size : Int) := by omega
                have hdi := spn_at (by rw [← HM.out]; exact hlt) (in_at his)
                rw [dgt_nat, decide_eq_true_iff] at hdi
                obtain ⟨hd1, hd2⟩ := hdi
                obtain ⟨d, hd⟩ : ∃ d : Nat, t[i].toNat = d + 48 := ⟨t[i].toNat - 48, by omega⟩
                have HDV := Lib.hid (dval_take (in_at his))
                rw [← HX.out, show t[i].toNat - 48 = d by omega] at HDV
                have hd9 : d ≤ 9 := by omega
                have HDD := Lib.hid hd
                by_cases hov : 9223372036854775807 < 10 * x + d
                · have HR : Hid (intT t.data.toList = .err 14) := Lib.hid (int_over HBAD.out.symm (by rw [← HM.out]; exact hlt) (in_at his) (by rw [← HX.out, HDD.out]; omega))
                  have gq : (9223372036854775807 - (d : Int)) / 10 < (x : Int) := by omega
                  clear hov
                  go_wp2_with fail
                  go_ret3
                  exact ⟨ret_num HR.out.symm, HD2.out⟩
                · have gq : ¬ (9223372036854775807 - (d : Int)) / 10 < (x : Int) := by omega
                  have gs : (10 * (x : Int) + (d : Int)) ≤ 9223372036854775807 := by omega
                  clear hov
                  go_wp2_with fail
                  go_roundw
                  case rel => exact ⟨i + 1, 10 * x + d, hlt, by omega, by go_num, by go_num, Lib.hid HDV.out.symm, HD2⟩
                  case measure => simp [intOf]; omega
              · obtain rfl : i = j := by omega
                have HR : Hid (intT t.data.toList = .ok 3 [] x i) := Lib.hid (by
                  have := int_fits HBAD.out.symm (by rw [← HM.out]; exact h1) (by rw [← HM.out, HL.out]; exact hms) (by rw [← HM.out, ← HX.out]; exact hx)
                  rw [this, ← HM.out, ← HX.out])
                clear hlt hi
                go_wp2_with fail
                go_ret3
                exact ⟨ret_num HR.out.symm, HD2.out⟩
      · have hji : ¬ (j : Int) < (t.size : Int) := by omega
        have HF : Hid (bad = (decide (1 < j) && decide (t[0].toNat = 48))) := Lib.hid (by rw [HBAD.out, HBD.out, fst_dropno hjs, Bool.or_false])
        clear hjs
        go_upto_region 4 with (fail)
        go_cut [39] from 21 to 40 (fun v wx => v = .bool bad ∧ Hid (Dr w wx))
        case first =>
          by_cases hn1 : 1 < j
          · have g1 : (1 : Int) < (j : Int) := by omega
            by_cases h48 : t[0].toNat = 48
            · have t48 : ((t[0].toNat : Int) == 48) = true := by rw [beq_iff_eq]; omega
              have HV : Hid (bad = true) := Lib.hid (by rw [HF.out, decide_eq_true hn1, decide_eq_true h48]; rfl)
              clear hn1 h48
              go_wp2_with fail
              go_meet
              exact ⟨by rw [HV.out], HD⟩
            · have t48 : ((t[0].toNat : Int) == 48) = false := by rw [beq_eq_false_iff_ne]; omega
              have HV : Hid (bad = false) := Lib.hid (by rw [HF.out, decide_eq_false h48, Bool.and_false])
              clear hn1 h48
              go_wp2_with fail
              go_meet
              exact ⟨by rw [HV.out], HD⟩
          · have g1 : ¬ (1 : Int) < (j : Int) := by omega
            have HV : Hid (bad = false) := Lib.hid (by rw [HF.out, decide_eq_false hn1, Bool.false_and])
            clear hn1
            go_wp2_with fail
            go_meet
            exact ⟨by rw [HV.out], HD⟩
        case rest =>
          obtain ⟨rfl, HC⟩ := hcut
          cases bad with
          | true =>
            have HR : Hid (intT t.data.toList = .err 3) := Lib.hid (by unfold intT; rw [← HBAD.out]; rfl)
            go_wp2_with fail
            go_ret3
            exact ⟨ret_num HR.out.symm, HC.out⟩
          | false =>
            go_wp2_with fail
            go_loopw [6, 7] (fun xv iv wr => ∃ (i x : Nat), i ≤ j ∧ x ≤ 9223372036854775807 ∧ xv = .int .i64 x ∧ iv = .int .i64 i ∧ Hid (x = dval 0 (t.data.toList.take i)) ∧ Hid (Dr w wr)) (fun _ iv _ => j - (intOf iv).toNat)
            case atStart => exact ⟨0, 0, Nat.zero_le _, by omega, rfl, rfl, Lib.hid rfl, HC⟩
            case round =>
              obtain ⟨i, x, hi, hx, rfl, rfl, HX, HD2⟩ := hrel
              by_cases hlt : i < j
              · have his : i < t.size := by omega
                have hii : (i : Int) < (t.size : Int) := by omega
                have hdi := spn_at (by rw [← HM.out]; exact hlt) (in_at his)
                rw [dgt_nat, decide_eq_true_iff] at hdi
                obtain ⟨hd1, hd2⟩ := hdi
                obtain ⟨d, hd⟩ : ∃ d : Nat, t[i].toNat = d + 48 := ⟨t[i].toNat - 48, by omega⟩
                have HDV := Lib.hid (dval_take (in_at his))
                rw [← HX.out, show t[i].toNat - 48 = d by omega] at HDV
                have hd9 : d ≤ 9 := by omega
                have HDD := Lib.hid hd
                by_cases hov : 9223372036854775807 < 10 * x + d
                · have HR : Hid (intT t.data.toList = .err 14) := Lib.hid (int_over HBAD.out.symm (by rw [← HM.out]; exact hlt) (in_at his) (by rw [← HX.out, HDD.out]; omega))
                  have gq : (9223372036854775807 - (d : Int)) / 10 < (x : Int) := by omega
                  clear hov
                  go_wp2_with fail
                  go_ret3
                  exact ⟨ret_num HR.out.symm, HD2.out⟩
                · have gq : ¬ (9223372036854775807 - (d : Int)) / 10 < (x : Int) := by omega
                  have gs : (10 * (x : Int) + (d : Int)) ≤ 9223372036854775807 := by omega
                  clear hov
                  go_wp2_with fail
                  go_roundw
                  case rel => exact ⟨i + 1, 10 * x + d, hlt, by omega, by go_num, by go_num, Lib.hid HDV.out.symm, HD2⟩
                  case measure => simp [intOf]; omega
              · obtain rfl : i = j := by omega
                have HR : Hid (intT t.data.toList = .ok 3 [] x i) := Lib.hid (by
                  have := int_fits HBAD.out.symm (by rw [← HM.out]; exact h1) (by rw [← HM.out, HL.out]; exact hms) (by rw [← HM.out, ← HX.out]; exact hx)
                  rw [this, ← HM.out, ← HX.out])
                clear hlt hi
                go_wp2_with fail
                go_ret3
                exact ⟨ret_num HR.out.symm, HD2.out⟩
end Go.Proofs.YtemdcgeopaphaaaDoor
