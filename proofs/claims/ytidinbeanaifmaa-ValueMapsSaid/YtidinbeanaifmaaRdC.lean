/-
  Contracts of intSize and joinGroups (package wire).
-/
import Derived.Test.YtidinbeanaifmaaRdB
namespace Go.Proofs.Ytidinbeanaifmaa
open Go.RowKit

theorem drop_at {l : List UInt8} {k : Nat} {x : UInt8} (h : l[k]? = some x) : l.drop k = x :: l.drop (k + 1) := by
  obtain ⟨hk, rfl⟩ := List.getElem?_eq_some_iff.1 h
  exact List.drop_eq_getElem_cons hk
theorem take_at {l : List UInt8} {k : Nat} {x : UInt8} (h : l[k]? = some x) : l.take (k + 1) = l.take k ++ [x] := by
  obtain ⟨hk, rfl⟩ := List.getElem?_eq_some_iff.1 h
  exact List.take_succ_eq_append_getElem hk

theorem ret_2 {a b a' b' : Int} (h : a = a') (h' : b = b') : Ending.returned (.tuple #[.int .i64 a, .int .i64 b]) = .returned (.tuple #[.int .i64 a', .int .i64 b']) := by rw [h, h']

section
variable {w : World} {B : Nat} {A : Option Addr} {n c : Nat} {l : List UInt8}

set_option maxHeartbeats 2000000 in
theorem intSize_any (hr : Rb w B A n l) (hn : n ≤ c) :
    Calls Try.prog 148 #[.slice A n c] w (Says (.tuple #[.int .i64 ((szAt 0 l).1 : Nat), .int .i64 (szAt 0 l).2]) w) := by
  have HR := Lib.hid hr
  clear hr
  have hcase : n < 10 ∨ (n ≤ 10 ∧ 10 ≤ n) ∨ 10 < n := by omega
  rcases hcase with hcase | ⟨hca, hcb⟩ | hcase
  all_goals
    go_enter Try.func148, Try.ntmps148
    go_wp2
    go_loop [12] (fun i => ∃ k : Nat, k ≤ n ∧ k ≤ 10 ∧ i = .int .i64 k ∧ Hid (szAt 0 l = szAt k (l.drop k))) (fun i => 10 - (intOf i).toNat)
    case atStart => exact ⟨0, by omega, by omega, rfl, rfl⟩
    case round =>
      obtain ⟨k, hkn, hk10, rfl, hs⟩ := hrel
      by_cases hlt : k < n ∧ k < 10
      · obtain ⟨hlt, hlt10⟩ := hlt
        obtain ⟨g, o, x, rfl, _, hx, hcell⟩ := HR.out.at_ hlt
        unfold b8 at hcell
        have hx8 := x.toNat_lt
        have HX : Hid (szAt 0 l = szAt k (x :: l.drop (k + 1))) := Lib.hid (by rw [hs.out, drop_at hx])
        clear hx hs HR hn
        by_cases h128 : 128 ≤ x.toNat
        · have HX2 : Hid (szAt 0 l = szAt (k + 1) (l.drop (k + 1))) := Lib.hid (by rw [HX.out, szAt_on hlt10 h128])
          have t1 : decide ((128 : Int) ≤ (x.toNat : Int)) = true := by rw [decide_eq_true_eq]; omega
          clear HX h128
          go_wp2
          go_round
          case rel => exact ⟨k + 1, by omega, by omega, by go_num, HX2⟩
          case measure => simp [intOf]; omega
        · have t1 : decide ((128 : Int) ≤ (x.toNat : Int)) = false := by rw [decide_eq_false_iff_not]; omega
          rcases Nat.eq_zero_or_pos k with h0 | h0
          · subst h0
            have HX2 : Hid (szAt 0 l = (0 + 1, 0)) := Lib.hid (by rw [HX.out, szAt_ok hlt10 (by omega) (by omega)])
            have hcell0 : w.cell? ⟨g, o, none⟩ = some (.int .u8 (x.toNat : Int)) := hcell
            clear HX hcell
            go_wp2
            go_ret2
            exact ⟨ret_2 (by rw [HX2.out]; rfl) (by rw [HX2.out]), rfl⟩
          · have hk0 : decide ((0 : Int) < (k : Int)) = true := by rw [decide_eq_true_eq]; omega
            by_cases hx0 : x.toNat = 0
            · have HX2 : Hid (szAt 0 l = (0, 3)) := Lib.hid (by rw [HX.out, szAt_bad hlt10 (by omega) (by omega)])
              have hb : ((x.toNat : Int) == 0) = true := by simp [hx0]
              clear HX hx0
              go_wp2
              go_ret2
              exact ⟨ret_2 (by rw [HX2.out]; rfl) (by rw [HX2.out]), rfl⟩
            · have hb : ((x.toNat : Int) == 0) = false := by rw [beq_eq_false_iff_ne]; omega
              by_cases h9 : k = 9
              · subst h9
                by_cases h1 : 1 < x.toNat
                · have HX2 : Hid (szAt 0 l = (0, 3)) := Lib.hid (by rw [HX.out, szAt_bad hlt10 (by omega) (by omega)])
                  have t2 : decide ((1 : Int) < (x.toNat : Int)) = true := by rw [decide_eq_true_eq]; omega
                  clear HX h1
                  go_wp2
                  all_goals (go_ret2; exact ⟨ret_2 (by rw [HX2.out]; rfl) (by rw [HX2.out]), rfl⟩)
                · have HX2 : Hid (szAt 0 l = (9 + 1, 0)) := Lib.hid (by rw [HX.out, szAt_ok hlt10 (by omega) (by omega)])
                  have t2 : decide ((1 : Int) < (x.toNat : Int)) = false := by rw [decide_eq_false_iff_not]; omega
                  clear HX h1
                  go_wp2
                  all_goals (go_ret2; exact ⟨ret_2 (by rw [HX2.out]; rfl) (by rw [HX2.out]), rfl⟩)
              · have hb9 : ((k : Int) == 9) = false := by rw [beq_eq_false_iff_ne]; omega
                have HX2 : Hid (szAt 0 l = (k + 1, 0)) := Lib.hid (by rw [HX.out, szAt_ok hlt10 (by omega) (by omega)])
                clear HX
                go_wp2
                go_ret2
                exact ⟨ret_2 (by rw [HX2.out]; rfl) (by rw [HX2.out]), rfl⟩
      · have hl := HR.out.len
        have HX2 : Hid (szAt 0 l = if 10 ≤ n then (0, 3) else (0, 4)) := Lib.hid (by
          rw [hs.out]
          rcases Nat.lt_or_ge n 10 with h10 | h10
          · rw [if_neg (by omega), List.drop_eq_nil_of_le (by omega), szAt_nil (by omega)]
          · rw [if_pos h10, szAt_end (by omega)])
        clear hs hl
        go_wp2
        go_ret2
        exact ⟨ret_2 (by rw [HX2.out]; split <;> rfl) (by rw [HX2.out]; split <;> first | rfl | omega), rfl⟩
end
end Go.Proofs.Ytidinbeanaifmaa
