/-
  Contracts of Right of the reference, of the decimal digits, and of Run.
-/
import Derived.Test.YtegiicbbmkjplaaDoorNa
import Derived.Laws.IdiomStrings
namespace Go.Proofs.YtegiicbbmkjplaaDoor
open Go.RowKit

set_option maxHeartbeats 1000000 in
theorem refRight_any (s : ByteArray) (w : World) (hs : s.size ≤ maxLen) : Calls Tryd.prog 8 #[.string s] w fun e w' => e = .returned (.bool (nameB s.data.toList)) ∧ w = w' := by
  unfold maxLen at hs
  rcases Nat.eq_zero_or_pos s.size with h0 | h0
  · have HN := Lib.hid (name_nil h0)
    go_enter Tryd.func8, Tryd.ntmps8
    go_wp2_with fail
    go_ret
    exact ⟨ret_bool HN.out.symm, rfl⟩
  · by_cases h64 : 64 < s.size
    · have HN := Lib.hid (name_long h64)
      go_enter Tryd.func8, Tryd.ntmps8
      go_wp2_with fail
      go_ret
      exact ⟨ret_bool HN.out.symm, rfl⟩
    · by_cases hd : 48 ≤ s[0].toNat ∧ s[0].toNat ≤ 57
      · have HN := Lib.hid (name_dig h0 (decide_eq_true hd))
        obtain ⟨h1, h2⟩ := hd
        go_enter Tryd.func8, Tryd.ntmps8
        go_wp2_with fail
        go_ret
        exact ⟨ret_bool HN.out.symm, rfl⟩
      · have HD := Lib.hid (show digB s[0] = false from decide_eq_false hd)
        go_enter Tryd.func8, Tryd.ntmps8
        go_wp2_with fail
        all_goals (
          go_loop [3] (fun i => ∃ k : Nat, k ≤ s.size ∧ i = .int .i64 k ∧ Hid (∀ j c, j < k → s.data.toList[j]? = some c → wordB c = true)) (fun i => s.size - (intOf i).toNat)
          case atStart => exact ⟨0, Nat.zero_le _, rfl, Lib.hid (fun j c hj => absurd hj (Nat.not_lt_zero _))⟩
          case round =>
            obtain ⟨k, hk, rfl, HR⟩ := hrel
            by_cases hlt : k < s.size
            · cases hw : wordB s[k] with
              | true =>
                have HN := Lib.hid (upto_next hlt hw HR.out)
                have HW := Lib.hid hw
                clear hw HR
                go_wp2_with fail
                refine (letter_any _ _).mono ?_
                rw [HW.out]
                rintro e w' ⟨rfl, rfl⟩
                go_wp2
                go_round
                case rel => exact ⟨k + 1, by omega, by go_num, HN⟩
                case measure => simp [intOf]; omega
              | false =>
                have HN := Lib.hid (name_word hlt hw)
                have HW := Lib.hid hw
                clear hw HR
                go_wp2_with fail
                refine (letter_any _ _).mono ?_
                rw [HW.out]
                rintro e w' ⟨rfl, rfl⟩
                go_wp2
                go_ret
                exact ⟨ret_bool HN.out.symm, rfl⟩
            · have HN := Lib.hid (name_end (by omega) h0 (by omega) HD.out HR.out)
              clear HR
              go_wp2
              go_ret
              exact ⟨ret_bool HN.out.symm, rfl⟩)

theorem run_str {P : Program} {w : World} {B : Nat} {A : Option Addr} {n c : Nat} {l : List UInt8} (src dst e : TypeId) (hs : P.underlying src = some (.slice e)) (he : P.underlying e = some (.int .u8)) (hd : P.underlying dst = some .string)
    (h : Rb w B A n l) : (convert src dst (.slice A n c)).run P w = .ok (.string ⟨l.toArray⟩) w := by
  obtain rfl := h.1
  cases A with
  | none =>
    have hl : l = [] := by
      rcases List.eq_nil_or_concat l with h0 | ⟨r, x, h0⟩
      · exact h0
      · obtain ⟨_, _, ha, _⟩ := h.2 (by rw [h0]; simp)
        cases ha
    subst hl
    rw [run_convert_bytes_string w src dst e _ _ c hs he hd]
    simp [Conv.bytesToString, Sem.run_pure]
    rfl
  | some a =>
    refine run_convert_bytes_back w src dst e a c l hs he hd fun j hj => ?_
    obtain ⟨g, o, ha, _, hc⟩ := h.2 (by intro h0; subst h0; simp at hj)
    injection ha with ha
    subst ha
    rw [Addr.add_lit]
    exact hc j _ (List.getElem?_eq_getElem hj)
theorem Rb.lit (w : World) (t : TypeId) (l : List UInt8) : Rb (w.alloc (.cells (l.map b8).toArray t)) (w.heap.size + 1) (some ⟨w.heap.size, 0, none⟩) l.length l := by
  refine ⟨rfl, fun _ => ⟨w.heap.size, 0, rfl, by omega, fun j d hj => ?_⟩⟩
  rw [Nat.zero_add, World.cell?_alloc_at _ _ _ _ rfl]
  simp [hj]
/-- one byte as a string -/
theorem conv_one (w : World) (c : UInt8) : (convert 32 9 (.slice (some ⟨w.heap.size, 0, none⟩) 1 1)).run Tryd.prog (w.alloc (.cells #[.int .u8 (c.toNat : Int)] 5)) = .ok (.string ⟨#[c]⟩) (w.alloc (.cells #[.int .u8 (c.toNat : Int)] 5)) :=
  run_str (P := Tryd.prog) (c := 1) 32 9 5 Tryd.underlying32 Tryd.underlying5 Tryd.underlying9 (Rb.lit w 5 [c])
theorem conv_dig (w : World) (u : Nat) : (convert 32 9 (.slice (some ⟨w.heap.size, 0, none⟩) 1 1)).run Tryd.prog (w.alloc (.cells #[.int .u8 (48 + (u : Int) % 10)] 5)) = .ok (.string ⟨#[UInt8.ofNat (48 + u % 10)]⟩) (w.alloc (.cells #[.int .u8 (48 + (u : Int) % 10)] 5)) := by
  have h := conv_one w (UInt8.ofNat (48 + u % 10))
  rw [dig_nat _ (Nat.mod_lt _ (by decide)), show ((48 + u % 10 : Nat) : Int) = 48 + (u : Int) % 10 by omega] at h
  exact h
theorem dec_small {u : Nat} (h : u < 10) : Lib.decDigits u = [UInt8.ofNat (48 + u % 10)] := by
  rw [Lib.decDigits, dif_pos h, Nat.mod_eq_of_lt h]
theorem dec_big {u : Nat} (h : ¬ u < 10) : Lib.decDigits u = Lib.decDigits (u / 10) ++ [UInt8.ofNat (48 + u % 10)] := by
  rw [Lib.decDigits, dif_neg h]
theorem ret_str {a b : List UInt8} (h : a = b) : Ending.returned (.string ⟨a.toArray⟩) = .returned (.string ⟨b.toArray⟩) := by rw [h]
theorem dec_len (u : Nat) (h : u ≤ 9223372036854775808) : (Lib.decDigits u).length ≤ 19 := by
  rw [Lib.decDigits_length]
  exact nd_le 18 u (by omega)
theorem str_app (a b : List UInt8) : (⟨a.toArray⟩ : ByteArray) ++ (⟨b.toArray⟩ : ByteArray) = ⟨(a ++ b).toArray⟩ := by
  apply ByteArray.ext
  rw [ByteArray.data_append]
  simp

set_option maxHeartbeats 1000000 in
theorem digits_any (u : Nat) : ∀ (w : World), u ≤ 9223372036854775808 → Calls Tryd.prog 31 #[.int .i64 (-(u : Int))] w fun e w' => e = .returned (.string ⟨(Lib.decDigits u).toArray⟩) ∧ Below w.heap.size w w' := by
  induction u using Nat.strongRecOn with
  | ind u ih =>
    intro w hu
    have kc := conv_dig w u
    obtain ⟨c, hc⟩ : ∃ c, c = UInt8.ofNat (48 + u % 10) := ⟨_, rfl⟩
    rw [← hc] at kc
    by_cases hs : u < 10
    · have HS : Hid (Lib.decDigits u = [c]) := Lib.hid (by rw [hc]; exact dec_small hs)
      clear hc
      clear ih
      go_enter Tryd.func31, Tryd.ntmps31
      go_wp2_with fail
      go_ret
      exact ⟨ret_str HS.out.symm, (Below.refl _ _).alloc (Nat.le_refl _) _⟩
    · have HS : Hid (Lib.decDigits u = Lib.decDigits (u / 10) ++ [c]) := Lib.hid (by rw [hc]; exact dec_big hs)
      clear hc
      have HI := Lib.hid (fun W => ih (u / 10) (by omega) W (by omega))
      have hsz : ¬ 9223372036854775807 < (Lib.decDigits (u / 10)).length + 1 := by have := dec_len (u / 10) (by omega); omega
      have hq : Int.tdiv (-(u : Int)) 10 = -((u / 10 : Nat) : Int) := by rw [Int.neg_tdiv]; rfl
      clear ih
      go_enter Tryd.func31, Tryd.ntmps31
      go_wp2_with fail
      refine (HI.out _).mono ?_
      rintro e w' ⟨rfl, hb⟩
      have HB : Hid (Below w.heap.size w w') := Lib.hid (((Below.refl _ _).alloc (Nat.le_refl _) _).trans (hb.mono (by simp)))
      clear hb
      go_wp2_with fail
      go_ret
      exact ⟨by rw [HS.out]; exact congrArg (fun x => Ending.returned (.string x)) (str_app _ _), HB.out⟩

theorem itoa_neg' {n : Int} (h : n < 0) : Lib.itoa n = 45 :: Lib.decDigits n.natAbs := by unfold Lib.itoa; rw [if_pos h]
theorem itoa_pos' {n : Int} (h : ¬ n < 0) : Lib.itoa n = Lib.decDigits n.natAbs := by unfold Lib.itoa; rw [if_neg h]; congr 1; omega
set_option maxHeartbeats 1000000 in
theorem refDec_any (n : Int) (w : World) (h0 : -9223372036854775808 ≤ n) (h1 : n ≤ 9223372036854775807) : Calls Tryd.prog 24 #[.int .i64 n] w fun e w' => e = .returned (.string ⟨(Lib.itoa n).toArray⟩) ∧ Below w.heap.size w w' := by
  have HI := Lib.hid (digits_any n.natAbs)
  have hb : n.natAbs ≤ 9223372036854775808 := by omega
  have hsz : ¬ 9223372036854775807 < 1 + (Lib.decDigits n.natAbs).length := by have := dec_len n.natAbs hb; omega
  by_cases hn : n < 0
  · have HS := Lib.hid (itoa_neg' hn)
    have hq : n = -((n.natAbs : Nat) : Int) := by omega
    generalize n.natAbs = u at *
    subst hq
    go_enter Tryd.func24, Tryd.ntmps24
    go_wp2_with fail
    refine (HI.out _ hb).mono ?_
    rintro e w' ⟨rfl, hb⟩
    have HB := Lib.hid hb
    clear hb
    go_wp2_with fail
    go_ret
    exact ⟨by rw [HS.out]; exact congrArg (fun x => Ending.returned (.string x)) (str_app [45] _), HB.out⟩
  · have HS := Lib.hid (itoa_pos' hn)
    have hq : n = ((n.natAbs : Nat) : Int) := by omega
    generalize n.natAbs = u at *
    subst hq
    go_enter Tryd.func24, Tryd.ntmps24
    go_wp2_with fail
    refine (HI.out _ hb).mono ?_
    rintro e w' ⟨rfl, hb⟩
    have HB := Lib.hid hb
    clear hb
    go_wp2_with fail
    go_ret
    exact ⟨ret_str HS.out.symm, HB.out⟩
end Go.Proofs.YtegiicbbmkjplaaDoor
