/-
  Contracts of isDigit, isWord, Right, of package name and of the reference; what the library's variables hold.
-/
import Derived.Test.YtegiicbbmkjplaaDoorBytes
import Derived.Test.YtegiicbbmkjplaaDoorNm
import Derived.Test.YtegiicbbmkjplaaDoorSh
import Derived.Lib.Hide
import Derived.Lib.Walk
import Derived.Deep.RegionLaw
namespace Go.Proofs.YtegiicbbmkjplaaDoor
open Go.RowKit

theorem u8_le (c : UInt8) (n : Nat) : decide ((n : Int) ≤ (c.toNat : Int)) = decide (n ≤ c.toNat) := by
  rw [decide_eq_decide]; omega
theorem digB_in {c : UInt8} (h1 : 48 ≤ c.toNat) (h2 : c.toNat ≤ 57) : digB c = true := decide_eq_true ⟨h1, h2⟩
theorem ret_bool {a b : Bool} (h : a = b) : Ending.returned (.bool a) = .returned (.bool b) := by rw [h]
theorem wordB_of (c : UInt8) : wordB c = (decide (97 ≤ c.toNat ∧ c.toNat ≤ 122) || decide (65 ≤ c.toNat ∧ c.toNat ≤ 90) || decide (c.toNat = 95) || digB c) := rfl

theorem isDigit_any (c : UInt8) (w : World) : Calls Tryd.prog 18 #[.int .u8 (c.toNat : Int)] w fun e w' => e = .returned (.bool (digB c)) ∧ w = w' := by
  have hc := c.toNat_lt
  have HD : Hid (digB c = decide (48 ≤ c.toNat ∧ c.toNat ≤ 57)) := Lib.hid rfl
  generalize c.toNat = n at *
  by_cases h1 : 48 ≤ n
  · go_enter Tryd.func18, Tryd.ntmps18
    go_wp2
    go_ret
    exact ⟨ret_bool (by rw [HD.out]; exact decide_eq_decide.2 (by omega)), rfl⟩
  · go_enter Tryd.func18, Tryd.ntmps18
    go_wp2
    go_ret
    exact ⟨ret_bool (by rw [HD.out]; exact (decide_eq_false (by omega)).symm), rfl⟩

theorem wordB_in {c : UInt8} (h : (97 ≤ c.toNat ∧ c.toNat ≤ 122) ∨ (65 ≤ c.toNat ∧ c.toNat ≤ 90) ∨ c.toNat = 95) : wordB c = true := by
  unfold wordB
  rcases h with h | h | h <;> simp [h]
theorem wordB_no {c : UInt8} (h : ¬((97 ≤ c.toNat ∧ c.toNat ≤ 122) ∨ (65 ≤ c.toNat ∧ c.toNat ≤ 90) ∨ c.toNat = 95)) : wordB c = digB c := by
  unfold wordB
  rw [decide_eq_false (by omega), decide_eq_false (by omega), decide_eq_false (by omega)]
  simp

set_option maxHeartbeats 400000 in
theorem isWord_any (c : UInt8) (w : World) : Calls Tryd.prog 19 #[.int .u8 (c.toNat : Int)] w fun e w' => e = .returned (.bool (wordB c)) ∧ w = w' := by
  have hc := c.toNat_lt
  have CD := Lib.hid (isDigit_any c)
  by_cases h1 : 97 ≤ c.toNat ∧ c.toNat ≤ 122
  · have HY := Lib.hid (wordB_in (.inl h1))
    obtain ⟨h2, h3⟩ := h1
    generalize c.toNat = n at *
    go_enter Tryd.func19, Tryd.ntmps19
    go_wp2_with fail
    go_ret
    exact ⟨ret_bool HY.out.symm, rfl⟩
  · by_cases h2 : 65 ≤ c.toNat ∧ c.toNat ≤ 90
    · have HY := Lib.hid (wordB_in (.inr (.inl h2)))
      obtain ⟨h3, h4⟩ := h2
      have h5 : ¬ 97 ≤ c.toNat := by omega
      generalize c.toNat = n at *
      go_enter Tryd.func19, Tryd.ntmps19
      go_wp2_with fail
      go_ret
      exact ⟨ret_bool HY.out.symm, rfl⟩
    · by_cases h3 : c.toNat = 95
      · have HY := Lib.hid (wordB_in (.inr (.inr h3)))
        generalize c.toNat = n at *
        subst h3
        go_enter Tryd.func19, Tryd.ntmps19
        go_wp2_with fail
        go_ret
        exact ⟨ret_bool HY.out.symm, rfl⟩
      · have HY := Lib.hid (wordB_no (c := c) (by omega))
        generalize c.toNat = n at *
        go_enter Tryd.func19, Tryd.ntmps19
        go_wp2_with fail
        all_goals (
          refine (CD.out _).mono ?_
          rintro e w' ⟨rfl, rfl⟩
          go_wp2
          go_ret
          exact ⟨ret_bool (by rw [HY.out]; cases digB c <;> simp <;> omega), rfl⟩)

set_option maxHeartbeats 400000 in
theorem letter_any (c : UInt8) (w : World) : Calls Tryd.prog 20 #[.int .u8 (c.toNat : Int)] w fun e w' => e = .returned (.bool (wordB c)) ∧ w = w' := by
  have hc := c.toNat_lt
  have HY : Hid (wordB c = (decide (97 ≤ c.toNat ∧ c.toNat ≤ 122) || decide (65 ≤ c.toNat ∧ c.toNat ≤ 90) || decide (c.toNat = 95) || decide (48 ≤ c.toNat ∧ c.toNat ≤ 57))) := Lib.hid rfl
  generalize c.toNat = n at *
  go_enter Tryd.func20, Tryd.ntmps20
  go_wp2_with fail
  all_goals (
    go_ret
    exact ⟨ret_bool (by rw [HY.out, Bool.eq_iff_iff]; simp <;> omega), rfl⟩)

theorem nameB_nil : nameB [] = false := rfl
theorem nameB_long {l : List UInt8} (h : 64 < l.length) : nameB l = false := by
  unfold nameB
  rw [decide_eq_false (by omega)]; rfl
theorem nameB_dig {c : UInt8} {r : List UInt8} (h : digB c = true) : nameB (c :: r) = false := by
  unfold nameB
  rw [List.headD_cons, h]; simp
theorem nameB_word {l : List UInt8} {c : UInt8} (h1 : c ∈ l) (h2 : wordB c = false) : nameB l = false := by
  unfold nameB
  rw [show l.all wordB = false from by rw [List.all_eq_false]; exact ⟨c, h1, by rw [h2]; simp⟩]; simp
theorem nameB_yes {c : UInt8} {r : List UInt8} (h : (c :: r).length ≤ 64) (hd : digB c = false) (hw : ∀ x ∈ c :: r, wordB x = true) : nameB (c :: r) = true := by
  unfold nameB
  rw [List.headD_cons, hd, decide_eq_true ⟨by simp, h⟩, List.all_eq_true.2 hw]; rfl

theorem byte_at (s : ByteArray) {k : Nat} (h : k < s.size) : s.data.toList[k]? = some s[k] := by
  rw [List.getElem?_eq_getElem (by simpa using h)]; rfl
theorem upto_next {p : UInt8 → Bool} {s : ByteArray} {k : Nat} (h : k < s.size) (hp : p s[k] = true) (hr : ∀ j c, j < k → s.data.toList[j]? = some c → p c = true) : ∀ j c, j < k + 1 → s.data.toList[j]? = some c → p c = true := by
  intro j c hj hc
  rcases Nat.lt_or_ge j k with h1 | h1
  · exact hr j c h1 hc
  · obtain rfl : j = k := by omega
    rw [byte_at s h] at hc
    injection hc with hc
    rw [← hc]; exact hp
/-- what the walks of Right need of a string -/
theorem name_end {s : ByteArray} {k : Nat} (hk : s.size ≤ k) (h0 : 0 < s.size) (h64 : s.size ≤ 64) (hd : digB s[0] = false) (hr : ∀ j c, j < k → s.data.toList[j]? = some c → wordB c = true) : nameB s.data.toList = true := by
  have hl : s.data.toList.length = s.size := by simp
  obtain ⟨c, r, e⟩ : ∃ c r, s.data.toList = c :: r := by
    cases h : s.data.toList with
    | nil => rw [h] at hl; simp at hl; omega
    | cons c r => exact ⟨c, r, rfl⟩
  have hc : s[0] = c := by
    have := byte_at s h0
    rw [e] at this
    simpa using this.symm
  rw [e]
  refine nameB_yes (by rw [← e, hl]; exact h64) (hc ▸ hd) fun x hx => ?_
  obtain ⟨j, hj⟩ := List.getElem?_of_mem hx
  have hjl := (List.getElem?_eq_some_iff.1 hj).1
  rw [← e, hl] at hjl
  exact hr j x (by omega) (e ▸ hj)
theorem name_dig {s : ByteArray} (h0 : 0 < s.size) (hd : digB s[0] = true) : nameB s.data.toList = false := by
  have := byte_at s h0
  cases h : s.data.toList with
  | nil => rw [h] at this; cases this
  | cons c r =>
    rw [h] at this
    have hc : c = s[0] := by simpa using this
    exact nameB_dig (hc ▸ hd)
theorem name_word {s : ByteArray} {k : Nat} (h : k < s.size) (hw : wordB s[k] = false) : nameB s.data.toList = false :=
  nameB_word (List.mem_of_getElem? (byte_at s h)) hw
theorem name_nil {s : ByteArray} (h : s.size = 0) : nameB s.data.toList = false := by
  have : s.data.toList = [] := List.length_eq_zero_iff.1 (by simpa using h)
  rw [this]; rfl
theorem name_long {s : ByteArray} (h : 64 < s.size) : nameB s.data.toList = false := nameB_long (by simpa using h)

set_option maxHeartbeats 1000000 in
theorem Right_any (s : ByteArray) (w : World) (hs : s.size ≤ maxLen) : Calls Tryd.prog 7 #[.string s] w fun e w' => e = .returned (.bool (nameB s.data.toList)) ∧ w = w' := by
  unfold maxLen at hs
  rcases Nat.eq_zero_or_pos s.size with h0 | h0
  · have HN := Lib.hid (name_nil h0)
    obtain rfl : s = ⟨#[]⟩ := by
      have : s.data = #[] := Array.eq_empty_of_size_eq_zero h0
      cases s; cases this; rfl
    go_enter Tryd.func7, Tryd.ntmps7
    go_wp2_with fail
    go_ret
    exact ⟨ret_bool HN.out.symm, rfl⟩
  · have hne : s.toList.isEmpty = false := by
      rw [ByteArray.toList_eq]
      cases hl : s.data.toList with
      | nil => have : s.data.toList.length = 0 := by rw [hl]; rfl
               have h2 : s.size = 0 := by simpa using this
               omega
      | cons _ _ => rfl
    by_cases h64 : 64 < s.size
    · have HN := Lib.hid (name_long h64)
      go_enter Tryd.func7, Tryd.ntmps7
      go_wp2_with fail
      go_ret
      exact ⟨ret_bool HN.out.symm, rfl⟩
    · cases hd : digB s[0] with
      | true =>
        have HN := Lib.hid (name_dig h0 hd)
        have HD := Lib.hid hd
        clear hd
        go_enter Tryd.func7, Tryd.ntmps7
        go_wp2_with fail
        refine (isDigit_any _ _).mono ?_
        rw [HD.out]
        rintro e w' ⟨rfl, rfl⟩
        go_wp2_with fail
        go_ret
        exact ⟨ret_bool HN.out.symm, rfl⟩
      | false =>
        have HD := Lib.hid hd
        clear hd
        go_enter Tryd.func7, Tryd.ntmps7
        go_wp2_with fail
        refine (isDigit_any _ _).mono ?_
        rw [HD.out]
        rintro e w' ⟨rfl, rfl⟩
        go_wp2_with fail
        go_loop [18] (fun i => ∃ k : Nat, k ≤ s.size ∧ i = .int .i64 k ∧ Hid (∀ j c, j < k → s.data.toList[j]? = some c → wordB c = true)) (fun i => s.size - (intOf i).toNat)
        case atStart => exact ⟨0, Nat.zero_le _, rfl, Lib.hid (fun j c hj => absurd hj (Nat.not_lt_zero _))⟩
        case round =>
          obtain ⟨k, hk, rfl, HR⟩ := hrel
          by_cases hlt : k < s.size
          · cases hw : wordB s[k] with
            | true =>
              have HN := Lib.hid (upto_next hlt hw HR.out)
              have HW := Lib.hid hw
              clear hw HR
              go_wp2_with fail
              refine (isWord_any _ _).mono ?_
              rw [HW.out]
              rintro e w' ⟨rfl, rfl⟩
              go_wp2
              go_round
              case rel => exact ⟨k + 1, by omega, by go_num, HN⟩
              case measure => simp [intOf]; omega
            | false =>
              have HN := Lib.hid (name_word hlt hw)
              have HW := Lib.hid hw
              clear hw HR
              go_wp2_with fail
              refine (isWord_any _ _).mono ?_
              rw [HW.out]
              rintro e w' ⟨rfl, rfl⟩
              go_wp2
              go_ret
              exact ⟨ret_bool HN.out.symm, rfl⟩
          · have HN := Lib.hid (name_end (by omega) h0 (by omega) HD.out HR.out)
            clear HR
            go_wp2
            go_ret
            exact ⟨ret_bool HN.out.symm, rfl⟩
end Go.Proofs.YtegiicbbmkjplaaDoor
