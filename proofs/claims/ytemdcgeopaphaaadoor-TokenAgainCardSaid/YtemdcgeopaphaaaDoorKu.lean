/-
  The reference: digit, letter, hex.
-/
import Derived.Test.YtemdcgeopaphaaaDoorKq
namespace Go.Proofs.YtemdcgeopaphaaaDoor
open Go.RowKit

set_option maxHeartbeats 1000000 in
theorem rdigit_any (c : UInt8) (w : World) : Calls Tryd.prog 38 #[.int .u8 (c.toNat : Int)] w fun e w' => e = .returned (.bool (dgtT c)) ∧ w' = w := by
  have hlt := c.toNat_lt
  by_cases h1 : 48 ≤ c.toNat
  · have g1 : (48 : Int) ≤ (c.toNat : Int) := by omega
    by_cases h2 : c.toNat ≤ 57
    · have g2 : (c.toNat : Int) ≤ 57 := by omega
      have HV : Hid (dgtT c = true) := Lib.hid (decide_eq_true ⟨h1, h2⟩)
      go_enter Tryd.func38, Tryd.ntmps38
      go_wp2
      go_ret
      exact ⟨ret_bool HV.out.symm, rfl⟩
    · have g2 : ¬ (c.toNat : Int) ≤ 57 := by omega
      have HV : Hid (dgtT c = false) := Lib.hid (decide_eq_false (fun h => h2 h.2))
      go_enter Tryd.func38, Tryd.ntmps38
      go_wp2
      go_ret
      exact ⟨ret_bool HV.out.symm, rfl⟩
  · have g1 : ¬ (48 : Int) ≤ (c.toNat : Int) := by omega
    have HV : Hid (dgtT c = false) := Lib.hid (decide_eq_false (fun h => h1 h.1))
    go_enter Tryd.func38, Tryd.ntmps38
    go_wp2
    go_ret
    exact ⟨ret_bool HV.out.symm, rfl⟩
theorem let_of (c : UInt8) (a b d : Bool) (h1 : decide (97 ≤ c.toNat ∧ c.toNat ≤ 122) = a) (h2 : decide (65 ≤ c.toNat ∧ c.toNat ≤ 90) = b) (h3 : decide (c.toNat = 95) = d) : letT c = (a || b || d) := by
  unfold letT
  rw [h1, h2, h3]
set_option maxHeartbeats 2000000 in
theorem rletter_any (c : UInt8) (w : World) : Calls Tryd.prog 37 #[.int .u8 (c.toNat : Int)] w fun e w' => e = .returned (.bool (letT c)) ∧ w' = w := by
  have hlt := c.toNat_lt
  by_cases h1 : 97 ≤ c.toNat
  · have g1 : (97 : Int) ≤ (c.toNat : Int) := by omega
    by_cases h2 : c.toNat ≤ 122
    · have g2 : (c.toNat : Int) ≤ 122 := by omega
      have HV : Hid (letT c = true) := Lib.hid ((let_of c true _ _ (decide_eq_true ⟨h1, h2⟩) rfl rfl).trans rfl)
      go_enter Tryd.func37, Tryd.ntmps37
      go_wp2
      go_ret
      exact ⟨ret_bool HV.out.symm, rfl⟩
    · have g2 : ¬ (c.toNat : Int) ≤ 122 := by omega
      have g3 : (65 : Int) ≤ (c.toNat : Int) := by omega
      have g4 : ¬ (c.toNat : Int) ≤ 90 := by omega
      have g5 : ((c.toNat : Int) == 95) = false := by rw [beq_eq_false_iff_ne]; omega
      have HV : Hid (letT c = false) := Lib.hid ((let_of c false false false (decide_eq_false (by omega)) (decide_eq_false (by omega)) (decide_eq_false (by omega))).trans rfl)
      go_enter Tryd.func37, Tryd.ntmps37
      go_wp2
      go_ret
      exact ⟨ret_bool HV.out.symm, rfl⟩
  · have g1 : ¬ (97 : Int) ≤ (c.toNat : Int) := by omega
    by_cases h3 : 65 ≤ c.toNat
    · have g3 : (65 : Int) ≤ (c.toNat : Int) := by omega
      by_cases h4 : c.toNat ≤ 90
      · have g4 : (c.toNat : Int) ≤ 90 := by omega
        have HV : Hid (letT c = true) := Lib.hid ((let_of c false true _ (decide_eq_false (by omega)) (decide_eq_true ⟨h3, h4⟩) rfl).trans rfl)
        go_enter Tryd.func37, Tryd.ntmps37
        go_wp2
        go_ret
        exact ⟨ret_bool HV.out.symm, rfl⟩
      · have g4 : ¬ (c.toNat : Int) ≤ 90 := by omega
        by_cases h5 : c.toNat = 95
        · have g5 : ((c.toNat : Int) == 95) = true := by rw [beq_iff_eq]; omega
          have HV : Hid (letT c = true) := Lib.hid ((let_of c false false true (decide_eq_false (by omega)) (decide_eq_false (by omega)) (decide_eq_true h5)).trans rfl)
          clear h5
          go_enter Tryd.func37, Tryd.ntmps37
          go_wp2
          go_ret
          exact ⟨ret_bool HV.out.symm, rfl⟩
        · have g5 : ((c.toNat : Int) == 95) = false := by rw [beq_eq_false_iff_ne]; omega
          have HV : Hid (letT c = false) := Lib.hid ((let_of c false false false (decide_eq_false (by omega)) (decide_eq_false (by omega)) (decide_eq_false h5)).trans rfl)
          clear h5
          go_enter Tryd.func37, Tryd.ntmps37
          go_wp2
          go_ret
          exact ⟨ret_bool HV.out.symm, rfl⟩
    · have g3 : ¬ (65 : Int) ≤ (c.toNat : Int) := by omega
      have g5 : ((c.toNat : Int) == 95) = false := by rw [beq_eq_false_iff_ne]; omega
      have HV : Hid (letT c = false) := Lib.hid ((let_of c false false false (decide_eq_false (by omega)) (decide_eq_false (by omega)) (decide_eq_false (by omega))).trans rfl)
      go_enter Tryd.func37, Tryd.ntmps37
      go_wp2
      go_ret
      exact ⟨ret_bool HV.out.symm, rfl⟩
theorem hex_of (c : UInt8) : (if hexT c then (hexV c : Int) else -1) = if 48 ≤ c.toNat ∧ c.toNat ≤ 57 then (c.toNat : Int) - 48 else if 97 ≤ c.toNat ∧ c.toNat ≤ 102 then (c.toNat : Int) - 97 + 10 else -1 := by
  have h : ((List.range 256).all fun n => decide ((if hexT (UInt8.ofNat n) then (hexV (UInt8.ofNat n) : Int) else -1) = if 48 ≤ (UInt8.ofNat n).toNat ∧ (UInt8.ofNat n).toNat ≤ 57 then ((UInt8.ofNat n).toNat : Int) - 48 else if 97 ≤ (UInt8.ofNat n).toNat ∧ (UInt8.ofNat n).toNat ≤ 102 then ((UInt8.ofNat n).toNat : Int) - 97 + 10 else -1)) = true := by decide +kernel
  have := allN h c.toNat c.toNat_lt
  rw [UInt8.ofNat_toNat] at this
  exact of_decide_eq_true this
set_option maxHeartbeats 2000000 in
theorem rhex_any (c : UInt8) (w : World) : Calls Tryd.prog 50 #[.int .u8 (c.toNat : Int)] w fun e w' => e = .returned (.int .i64 (if hexT c then (hexV c : Int) else -1)) ∧ w' = w := by
  have hlt := c.toNat_lt
  rw [hex_of]
  have HD := Lib.hid (fun V => rdigit_any c V)
  by_cases h1 : 48 ≤ c.toNat ∧ c.toNat ≤ 57
  · rw [if_pos h1]
    have hd : dgtT c = true := decide_eq_true h1
    rw [hd] at HD
    obtain ⟨ha, hb⟩ := h1
    go_enter Tryd.func50, Tryd.ntmps50
    go_wp2_with fail
    refine (HD.out _).mono ?_
    rintro _ _ ⟨rfl, rfl⟩
    go_wp2_with fail
    go_ret
    exact ⟨rfl, rfl⟩
  · rw [if_neg h1]
    have hd : dgtT c = false := decide_eq_false h1
    rw [hd] at HD
    clear hd h1
    by_cases h2 : 97 ≤ c.toNat
    · have g2 : (97 : Int) ≤ (c.toNat : Int) := by omega
      by_cases h3 : c.toNat ≤ 102
      · have g3 : (c.toNat : Int) ≤ 102 := by omega
        rw [if_pos ⟨h2, h3⟩]
        go_enter Tryd.func50, Tryd.ntmps50
        go_wp2_with fail
        refine (HD.out _).mono ?_
        rintro _ _ ⟨rfl, rfl⟩
        go_wp2_with fail
        go_ret
        exact ⟨rfl, rfl⟩
      · have g3 : ¬ (c.toNat : Int) ≤ 102 := by omega
        rw [if_neg (fun h => h3 h.2)]
        go_enter Tryd.func50, Tryd.ntmps50
        go_wp2_with fail
        refine (HD.out _).mono ?_
        rintro _ _ ⟨rfl, rfl⟩
        go_wp2_with fail
        go_ret
        exact ⟨rfl, rfl⟩
    · have g2 : ¬ (97 : Int) ≤ (c.toNat : Int) := by omega
      rw [if_neg (fun h => h2 h.1)]
      go_enter Tryd.func50, Tryd.ntmps50
      go_wp2_with fail
      refine (HD.out _).mono ?_
      rintro _ _ ⟨rfl, rfl⟩
      go_wp2_with fail
      go_ret
      exact ⟨rfl, rfl⟩
end Go.Proofs.YtemdcgeopaphaaaDoor
