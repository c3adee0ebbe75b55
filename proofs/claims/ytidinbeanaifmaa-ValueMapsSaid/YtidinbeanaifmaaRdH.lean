/-
  Contracts of count and Int (the reference).
-/
import Derived.Test.YtidinbeanaifmaaRdG
namespace Go.Proofs.Ytidinbeanaifmaa
open Go.RowKit

section
variable {w : World} {p : Nat} {l : List UInt8} {e : Int}

set_option maxHeartbeats 2000000 in
theorem rCount_any (h : RRd w p l 0) : Calls Try.prog 152 #[.pointer (some ⟨p, 0, none⟩)] w (Says (.tuple #[.int .i64 ((szAt 0 l).1 : Nat), .int .i64 (szAt 0 l).2]) w) := by
  obtain ⟨A, n, c, l0, hb, ho, hn, hc, hl⟩ := h
  obtain rfl := hl rfl
  have h0 : w.cell? ⟨p, 1, none⟩ = some (.slice A n c) := hb.cell 1
  have HR := Lib.hid ho.rb
  clear hb ho hl hn hc
  go_enter Try.func152, Try.ntmps152
  go_wp2
  go_loop [4] (fun i => ∃ k : Nat, k ≤ n ∧ k ≤ 10 ∧ i = .int .i64 ((k : Int) + 1) ∧ Hid (szAt 0 l0 = szAt k (l0.drop k))) (fun i => 11 - (intOf i).toNat)
  case atStart => exact ⟨0, by omega, by omega, rfl, rfl⟩
  case round =>
    obtain ⟨k, hkn, hk10, rfl, hs⟩ := hrel
    by_cases h10 : k = 10
    · subst h10
      have HX2 : Hid (szAt 0 l0 = (0, 3)) := Lib.hid (by rw [hs.out, szAt_end (by omega)])
      clear hs
      go_wp2
      go_ret2
      exact ⟨ret_2 (by rw [HX2.out]; rfl) (by rw [HX2.out]), rfl⟩
    have hlt10 : k < 10 := by omega
    clear h10
    have t0 : decide ((k : Int) + 1 ≤ 10) = true := by rw [decide_eq_true_eq]; omega
    by_cases hlt : k < n
    · obtain ⟨g, o, x, rfl, _, hx, hcell⟩ := HR.out.at_ hlt
      unfold b8 at hcell
      have HX : Hid (szAt 0 l0 = szAt k (x :: l0.drop (k + 1))) := Lib.hid (by rw [hs.out, drop_at hx])
      have ti : decide ((n : Int) < (k : Int) + 1) = false := by rw [decide_eq_false_iff_not]; omega
      have tk : ((k : Int) + 1 - 1) = (k : Int) := by omega
      clear hx hs HR
      by_cases h128 : 128 ≤ x.toNat
      · have HX2 : Hid (szAt 0 l0 = szAt (k + 1) (l0.drop (k + 1))) := Lib.hid (by rw [HX.out, szAt_on hlt10 h128])
        have t1 : decide ((x.toNat : Int) < 128) = false := by rw [decide_eq_false_iff_not]; omega
        clear HX h128
        go_wp2
        go_round
        case rel => exact ⟨k + 1, by omega, by omega, by go_num, HX2⟩
        case measure => simp [intOf]; omega
      · have t1 : decide ((x.toNat : Int) < 128) = true := by rw [decide_eq_true_eq]; omega
        rcases Nat.eq_zero_or_pos k with h0 | h0
        · subst h0
          have HX2 : Hid (szAt 0 l0 = (0 + 1, 0)) := Lib.hid (by rw [HX.out, szAt_ok hlt10 (by omega) (by omega)])
          have hcell0 : w.cell? ⟨g, o, none⟩ = some (.int .u8 (x.toNat : Int)) := hcell
          have ti0 : decide ((n : Int) < 1) = false := by rw [decide_eq_false_iff_not]; omega
          clear HX hcell ti t0 tk
          go_wp2
          go_ret2
          exact ⟨ret_2 (by rw [HX2.out]; rfl) (by rw [HX2.out]), rfl⟩
        · have hk0 : decide ((1 : Int) < (k : Int) + 1) = true := by rw [decide_eq_true_eq]; omega
          by_cases hx0 : x.toNat = 0
          · have HX2 : Hid (szAt 0 l0 = (0, 3)) := Lib.hid (by rw [HX.out, szAt_bad hlt10 (by omega) (by omega)])
            have hb : ((x.toNat : Int) == 0) = true := by simp [hx0]
            clear HX hx0
            go_wp2
            go_ret2
            exact ⟨ret_2 (by rw [HX2.out]; rfl) (by rw [HX2.out]), rfl⟩
          · have hb : ((x.toNat : Int) == 0) = false := by rw [beq_eq_false_iff_ne]; omega
            by_cases h9 : k = 9
            · subst h9
              have ti9 : decide ((n : Int) < 10) = false := by rw [decide_eq_false_iff_not]; omega
              by_cases h1 : 1 < x.toNat
              · have HX2 : Hid (szAt 0 l0 = (0, 3)) := Lib.hid (by rw [HX.out, szAt_bad hlt10 (by omega) (by omega)])
                have t2 : decide ((1 : Int) < (x.toNat : Int)) = true := by rw [decide_eq_true_eq]; omega
                clear HX h1
                go_wp2
                all_goals (go_ret2; exact ⟨ret_2 (by rw [HX2.out]; rfl) (by rw [HX2.out]), rfl⟩)
              · have HX2 : Hid (szAt 0 l0 = (9 + 1, 0)) := Lib.hid (by rw [HX.out, szAt_ok hlt10 (by omega) (by omega)])
                have t2 : decide ((1 : Int) < (x.toNat : Int)) = false := by rw [decide_eq_false_iff_not]; omega
                clear HX h1
                go_wp2
                all_goals (go_ret2; exact ⟨ret_2 (by rw [HX2.out]; rfl) (by rw [HX2.out]), rfl⟩)
            · have hb9 : ((k : Int) + 1 == 10) = false := by rw [beq_eq_false_iff_ne]; omega
              have HX2 : Hid (szAt 0 l0 = (k + 1, 0)) := Lib.hid (by rw [HX.out, szAt_ok hlt10 (by omega) (by omega)])
              clear HX
              go_wp2
              go_ret2
              exact ⟨ret_2 (by rw [HX2.out]; rfl) (by rw [HX2.out]), rfl⟩
    · have hl := HR.out.len
      have HX2 : Hid (szAt 0 l0 = (0, 4)) := Lib.hid (by rw [hs.out, List.drop_eq_nil_of_le (by omega), szAt_nil hlt10])
      have ti : decide ((n : Int) < (k : Int) + 1) = true := by rw [decide_eq_true_eq]; omega
      clear hs hl
      go_wp2
      go_ret2
      exact ⟨ret_2 (by rw [HX2.out]; rfl) (by rw [HX2.out]), rfl⟩
end
end Go.Proofs.Ytidinbeanaifmaa
