/-
  The reference's parser: digit, value16, starts, escape.
-/
import Derived.Test.YtlgmhhimbabkjaaGreatDoorRa
import Derived.Test.YtlgmhhimbabkjaaGreatDoorTc
namespace Go.Proofs.YtlgmhhimbabkjaaGreatDoor
open Go.RowKit

theorem rret_bool {a b : Bool} (h : a = b) : Ending.returned (.bool a) = .returned (.bool b) := by rw [h]
theorem dig_nat9 (c : UInt8) : dig c = decide (48 ≤ c.toNat ∧ c.toNat ≤ 57) := by
  unfold dig
  rw [Bool.eq_iff_iff, Bool.and_eq_true, decide_eq_true_iff, decide_eq_true_iff, decide_eq_true_iff, UInt8.le_iff_toNat_le, UInt8.le_iff_toNat_le]
  exact Iff.rfl
set_option maxRecDepth 100000 in
theorem rdigit_any (c : UInt8) (w : World) : Calls Tryz.prog 80 #[.int .u8 (c.toNat : Int)] w fun e w' => e = .returned (.bool (dig c)) ∧ w = w' := by
  have hc : c.toNat < 256 := c.toNat_lt
  have HD := Lib.hid (dig_nat9 c)
  generalize c.toNat = n at *
  by_cases h1 : 48 ≤ n
  · go_enter Tryz.func80, Tryz.ntmps80
    go_wp2
    go_ret
    exact ⟨rret_bool (by rw [HD.out]; exact decide_eq_decide.2 (by omega)), rfl⟩
  · go_enter Tryz.func80, Tryz.ntmps80
    go_wp2
    go_ret
    exact ⟨rret_bool (by rw [HD.out]; exact (decide_eq_false (by omega)).symm), rfl⟩
/-- what a byte stands for as a hexadecimal digit; below 0: none -/
def v16 (c : UInt8) : Int := if hxd c = true then (hxv c : Int) else -1
theorem hxd_nat (c : UInt8) : hxd c = (decide (48 ≤ c.toNat ∧ c.toNat ≤ 57) || decide (97 ≤ c.toNat ∧ c.toNat ≤ 102)) := by
  unfold hxd
  rw [dig_nat9, Bool.eq_iff_iff]
  simp only [Bool.or_eq_true, Bool.and_eq_true, decide_eq_true_iff, UInt8.le_iff_toNat_le]
  exact Iff.rfl
theorem v16_dig {c : UInt8} (h : 48 ≤ c.toNat ∧ c.toNat ≤ 57) : v16 c = (c.toNat : Int) - 48 := by
  unfold v16 hxv
  rw [hxd_nat, decide_eq_true h, Bool.true_or, if_pos rfl, if_pos (UInt8.le_iff_toNat_le.2 h.2)]
  omega
theorem v16_let {c : UInt8} (h : 97 ≤ c.toNat ∧ c.toNat ≤ 102) : v16 c = (c.toNat : Int) - 97 + 10 := by
  unfold v16 hxv
  rw [hxd_nat, decide_eq_true h, Bool.or_true, if_pos rfl, if_neg (fun e => by have := UInt8.le_iff_toNat_le.1 e; have e2 : (57 : UInt8).toNat = 57 := rfl; omega)]
  omega
theorem v16_no {c : UInt8} (h1 : ¬(48 ≤ c.toNat ∧ c.toNat ≤ 57)) (h2 : ¬(97 ≤ c.toNat ∧ c.toNat ≤ 102)) : v16 c = -1 := by
  unfold v16
  rw [hxd_nat, decide_eq_false h1, decide_eq_false h2]
  rfl
theorem rret_i64 {a b : Int} (h : a = b) : Ending.returned (.int .i64 a) = .returned (.int .i64 b) := by rw [h]
set_option maxRecDepth 100000 in
theorem value16_any (c : UInt8) (w : World) : Calls Tryz.prog 97 #[.int .u8 (c.toNat : Int)] w fun e w' => e = .returned (.int .i64 (v16 c)) ∧ w = w' := by
  have hc : c.toNat < 256 := c.toNat_lt
  by_cases h1 : 48 ≤ c.toNat ∧ c.toNat ≤ 57
  · have HV := Lib.hid (v16_dig h1)
    have HD := Lib.hid (rdigit_any c w)
    have hd : dig c = true := by rw [dig_nat9]; exact decide_eq_true h1
    rw [hd] at HD
    clear hd
    generalize c.toNat = n at *
    go_enter Tryz.func97, Tryz.ntmps97
    go_wp2_with fail
    refine HD.out.mono ?_
    rintro e w' ⟨rfl, rfl⟩
    go_wp2
    go_ret
    exact ⟨rret_i64 (by rw [HV.out]), rfl⟩
  · have HD := Lib.hid (rdigit_any c w)
    have hd : dig c = false := by rw [dig_nat9]; exact decide_eq_false h1
    rw [hd] at HD
    clear hd
    by_cases h2 : 97 ≤ c.toNat ∧ c.toNat ≤ 102
    · have HV := Lib.hid (v16_let h2)
      obtain ⟨h3, h4⟩ := h2
      clear h1
      generalize c.toNat = n at *
      go_enter Tryz.func97, Tryz.ntmps97
      go_wp2_with fail
      refine HD.out.mono ?_
      rintro e w' ⟨rfl, rfl⟩
      go_wp2
      go_ret
      exact ⟨rret_i64 (by rw [HV.out]), rfl⟩
    · have HV := Lib.hid (v16_no h1 h2)
      clear h1
      have h5 : ¬ 97 ≤ c.toNat ∨ (97 ≤ c.toNat ∧ ¬ c.toNat ≤ 102) := by omega
      clear h2
      generalize c.toNat = n at *
      rcases h5 with h5 | ⟨h5, h6⟩
      all_goals (
        go_enter Tryz.func97, Tryz.ntmps97
        go_wp2_with fail
        refine HD.out.mono ?_
        rintro e w' ⟨rfl, rfl⟩
        go_wp2
        go_ret
        exact ⟨rret_i64 HV.out.symm, rfl⟩)
theorem sta_nat (c : UInt8) : sta c = (decide (c.toNat = 110) || decide (c.toNat = 116) || decide (c.toNat = 102) || decide (c.toNat = 34) || decide (c.toNat = 91) || decide (c.toNat = 123) || decide (c.toNat = 45) || dig c) := by
  have e : ∀ n : Nat, n < 256 → (c == UInt8.ofNat n) = decide (c.toNat = n) := fun n hn => by
    rw [Bool.eq_iff_iff, beq_iff_eq, decide_eq_true_iff]
    constructor
    · intro h; rw [h, UInt8.toNat_ofNat']; omega
    · intro h; apply UInt8.toNat_inj.1; rw [UInt8.toNat_ofNat']; omega
  unfold sta
  rw [← e 110 (by decide), ← e 116 (by decide), ← e 102 (by decide), ← e 34 (by decide), ← e 91 (by decide), ← e 123 (by decide), ← e 45 (by decide)]
  rfl
set_option maxRecDepth 100000 in
theorem starts_any (c : UInt8) (w : World) : Calls Tryz.prog 52 #[.int .u8 (c.toNat : Int)] w fun e w' => e = .returned (.bool (sta c)) ∧ w = w' := by
  have HD := Lib.hid (rdigit_any c w)
  have HS := Lib.hid (sta_nat c)
  generalize dig c = d at *
  generalize c.toNat = n at *
  go_enter Tryz.func52, Tryz.ntmps52
  go_wp2_with (first | (refine HD.out.mono ?_; rintro e w' ⟨rfl, rfl⟩))
  all_goals (
    go_ret
    exact ⟨rret_bool (by rw [HS.out, Bool.eq_iff_iff]; cases d <;> simp <;> first | omega | contradiction | simp_all), rfl⟩)
end Go.Proofs.YtlgmhhimbabkjaaGreatDoor
