/-
  The fields of a kind: rightFields of the code. (Written by gen_rf.py.)
-/
import Derived.Test.YtlgmhhimbabkjaaGreatDoorVasc
namespace Go.Proofs.YtlgmhhimbabkjaaGreatDoor
open Go.RowKit

theorem tl_empty (t : ByteArray) : (t.toList == []) = decide (t.size = 0) := by
  rw [ByteArray.toList_eq]
  cases t with | mk a =>
  by_cases h : a.size = 0
  · have : a = #[] := Array.eq_empty_of_size_eq_zero h
    subst this
    rfl
  · rw [decide_eq_false (by simpa [ByteArray.size] using h), beq_eq_false_iff_ne]
    intro e
    exact h (by have := congrArg List.length e; simpa using this)

set_option maxHeartbeats 2000000 in
set_option linter.unusedVariables false in
theorem rf_0 (i : Int) (t : ByteArray) (its : List VT) (ks : List ByteArray) (A : Option Addr) (c : Nat) (A' : Option Addr) (c' : Nat) (w : World) (hS : LiesS w (Lo w) A' ks) (hkc : ks.length ≤ c') (hcm' : c' ≤ 9223372036854775807) :
    Calls Tryz.prog 63 #[vag 0 i t A its.length c A' ks.length c'] w (Gives (.bool (okF (.mk 0 i t its ks))) w) := by
  unfold vag
  have HS := Lib.hid hS
  clear hS
  by_cases hI0 : i = 0
  · have fhI0 : (i == 0) = true := by rw [beq_iff_eq]; omega
    by_cases hT : t.size = 0
    · have fhT : (t.toList == []) = true := by rw [tl_empty]; exact decide_eq_true hT
      by_cases hN : its.length = 0
      · have fhN : (((its.length : Nat) : Int) == 0) = true := by rw [beq_iff_eq]; omega
        by_cases hK : ks.length = 0
        · have fhK : (((ks.length : Nat) : Int) == 0) = true := by rw [beq_iff_eq]; omega
          have key : okF (.mk 0 i t its ks) = true := by rw [okF_0]; simp [*]
          rw [key]
          clear hI0 hT hN hK key
          go_enter Tryz.func63, Tryz.ntmps63
          go_wp2
          go_quiet (fail)
          go_wp2
          go_quiet (fail)
          go_wp2
          go_ret
          exact ⟨rfl, below_drew (below_one _ _) _⟩
        · have fhK : (((ks.length : Nat) : Int) == 0) = false := by rw [beq_eq_false_iff_ne]; omega
          have key : okF (.mk 0 i t its ks) = false := by rw [okF_0]; simp [*]
          rw [key]
          clear hI0 hT hN hK key
          go_enter Tryz.func63, Tryz.ntmps63
          go_wp2
          go_quiet (fail)
          go_wp2
          go_quiet (fail)
          go_wp2
          go_ret
          exact ⟨rfl, below_drew (below_one _ _) _⟩
      · have fhN : (((its.length : Nat) : Int) == 0) = false := by rw [beq_eq_false_iff_ne]; omega
        have key : okF (.mk 0 i t its ks) = false := by rw [okF_0]; simp [*]
        rw [key]
        clear hI0 hT hN key
        go_enter Tryz.func63, Tryz.ntmps63
        go_wp2
        go_quiet (fail)
        go_wp2
        go_quiet (fail)
        go_wp2
        go_ret
        exact ⟨rfl, below_drew (below_one _ _) _⟩
    · have fhT : (t.toList == []) = false := by rw [tl_empty]; exact decide_eq_false hT
      have key : okF (.mk 0 i t its ks) = false := by rw [okF_0]; simp [*]
      rw [key]
      clear hI0 hT key
      go_enter Tryz.func63, Tryz.ntmps63
      go_wp2
      go_quiet (fail)
      go_wp2
      go_quiet (fail)
      go_wp2
      go_ret
      exact ⟨rfl, below_drew (below_one _ _) _⟩
  · have fhI0 : (i == 0) = false := by rw [beq_eq_false_iff_ne]; omega
    have key : okF (.mk 0 i t its ks) = false := by rw [okF_0]; simp [*]
    rw [key]
    clear hI0 key
    go_enter Tryz.func63, Tryz.ntmps63
    go_wp2
    go_quiet (fail)
    go_wp2
    go_quiet (fail)
    go_wp2
    go_ret
    exact ⟨rfl, below_drew (below_one _ _) _⟩

set_option maxHeartbeats 2000000 in
set_option linter.unusedVariables false in
theorem rf_1 (i : Int) (t : ByteArray) (its : List VT) (ks : List ByteArray) (A : Option Addr) (c : Nat) (A' : Option Addr) (c' : Nat) (w : World) (hS : LiesS w (Lo w) A' ks) (hkc : ks.length ≤ c') (hcm' : c' ≤ 9223372036854775807) :
    Calls Tryz.prog 63 #[vag 1 i t A its.length c A' ks.length c'] w (Gives (.bool (okF (.mk 1 i t its ks))) w) := by
  unfold vag
  have HS := Lib.hid hS
  clear hS
  by_cases hI0 : i = 0
  · have fhI0 : (i == 0) = true := by rw [beq_iff_eq]; omega
    by_cases hT : t.size = 0
    · have fhT : (t.toList == []) = true := by rw [tl_empty]; exact decide_eq_true hT
      by_cases hN : its.length = 0
      · have fhN : (((its.length : Nat) : Int) == 0) = true := by rw [beq_iff_eq]; omega
        by_cases hK : ks.length = 0
        · have fhK : (((ks.length : Nat) : Int) == 0) = true := by rw [beq_iff_eq]; omega
          have key : okF (.mk 1 i t its ks) = true := by rw [okF_1]; simp [*]
          rw [key]
          clear hI0 hT hN hK key
          go_enter Tryz.func63, Tryz.ntmps63
          go_wp2
          go_quiet (fail)
          go_wp2
          go_quiet (fail)
          go_wp2
          go_ret
          exact ⟨rfl, below_drew (below_one _ _) _⟩
        · have fhK : (((ks.length : Nat) : Int) == 0) = false := by rw [beq_eq_false_iff_ne]; omega
          have key : okF (.mk 1 i t its ks) = false := by rw [okF_1]; simp [*]
          rw [key]
          clear hI0 hT hN hK key
          go_enter Tryz.func63, Tryz.ntmps63
          go_wp2
          go_quiet (fail)
          go_wp2
          go_quiet (fail)
          go_wp2
          go_ret
          exact ⟨rfl, below_drew (below_one _ _) _⟩
      · have fhN : (((its.length : Nat) : Int) == 0) = false := by rw [beq_eq_false_iff_ne]; omega
        have key : okF (.mk 1 i t its ks) = false := by rw [okF_1]; simp [*]
        rw [key]
        clear hI0 hT hN key
        go_enter Tryz.func63, Tryz.ntmps63
        go_wp2
        go_quiet (fail)
        go_wp2
        go_quiet (fail)
        go_wp2
        go_ret
        exact ⟨rfl, below_drew (below_one _ _) _⟩
    · have fhT : (t.toList == []) = false := by rw [tl_empty]; exact decide_eq_false hT
      have key : okF (.mk 1 i t its ks) = false := by rw [okF_1]; simp [*]
      rw [key]
      clear hI0 hT key
      go_enter Tryz.func63, Tryz.ntmps63
      go_wp2
      go_quiet (fail)
      go_wp2
      go_quiet (fail)
      go_wp2
      go_ret
      exact ⟨rfl, below_drew (below_one _ _) _⟩
  · have fhI0 : (i == 0) = false := by rw [beq_eq_false_iff_ne]; omega
    by_cases hI1 : i = 1
    · have fhI1 : (i == 1) = true := by rw [beq_iff_eq]; omega
      by_cases hT : t.size = 0
      · have fhT : (t.toList == []) = true := by rw [tl_empty]; exact decide_eq_true hT
        by_cases hN : its.length = 0
        · have fhN : (((its.length : Nat) : Int) == 0) = true := by rw [beq_iff_eq]; omega
          by_cases hK : ks.length = 0
          · have fhK : (((ks.length : Nat) : Int) == 0) = true := by rw [beq_iff_eq]; omega
            have key : okF (.mk 1 i t its ks) = true := by rw [okF_1]; simp [*]
            rw [key]
            clear hI0 hI1 hT hN hK key
            go_enter Tryz.func63, Tryz.ntmps63
            go_wp2
            go_quiet (fail)
            go_wp2
            go_quiet (fail)
            go_wp2
            go_ret
            exact ⟨rfl, below_drew (below_one _ _) _⟩
          · have fhK : (((ks.length : Nat) : Int) == 0) = false := by rw [beq_eq_false_iff_ne]; omega
            have key : okF (.mk 1 i t its ks) = false := by rw [okF_1]; simp [*]
            rw [key]
            clear hI0 hI1 hT hN hK key
            go_enter Tryz.func63, Tryz.ntmps63
            go_wp2
            go_quiet (fail)
            go_wp2
            go_quiet (fail)
            go_wp2
            go_ret
            exact ⟨rfl, below_drew (below_one _ _) _⟩
        · have fhN : (((its.length : Nat) : Int) == 0) = false := by rw [beq_eq_false_iff_ne]; omega
          have key : okF (.mk 1 i t its ks) = false := by rw [okF_1]; simp [*]
          rw [key]
          clear hI0 hI1 hT hN key
          go_enter Tryz.func63, Tryz.ntmps63
          go_wp2
          go_quiet (fail)
          go_wp2
          go_quiet (fail)
          go_wp2
          go_ret
          exact ⟨rfl, below_drew (below_one _ _) _⟩
      · have fhT : (t.toList == []) = false := by rw [tl_empty]; exact decide_eq_false hT
        have key : okF (.mk 1 i t its ks) = false := by rw [okF_1]; simp [*]
        rw [key]
        clear hI0 hI1 hT key
        go_enter Tryz.func63, Tryz.ntmps63
        go_wp2
        go_quiet (fail)
        go_wp2
        go_quiet (fail)
        go_wp2
        go_ret
        exact ⟨rfl, below_drew (below_one _ _) _⟩
    · have fhI1 : (i == 1) = false := by rw [beq_eq_false_iff_ne]; omega
      have key : okF (.mk 1 i t its ks) = false := by rw [okF_1]; simp [*]
      rw [key]
      clear hI0 hI1 key
      go_enter Tryz.func63, Tryz.ntmps63
      go_wp2
      go_quiet (fail)
      go_wp2
      go_quiet (fail)
      go_wp2
      go_ret
      exact ⟨rfl, below_drew (below_one _ _) _⟩

set_option maxHeartbeats 2000000 in
set_option linter.unusedVariables false in
theorem rf_2 (i : Int) (t : ByteArray) (its : List VT) (ks : List ByteArray) (A : Option Addr) (c : Nat) (A' : Option Addr) (c' : Nat) (w : World) (hS : LiesS w (Lo w) A' ks) (hkc : ks.length ≤ c') (hcm' : c' ≤ 9223372036854775807) :
    Calls Tryz.prog 63 #[vag 2 i t A its.length c A' ks.length c'] w (Gives (.bool (okF (.mk 2 i t its ks))) w) := by
  unfold vag
  have HS := Lib.hid hS
  clear hS
  by_cases hT : t.size = 0
  · have fhT : (t.toList == []) = true := by rw [tl_empty]; exact decide_eq_true hT
    by_cases hN : its.length = 0
    · have fhN : (((its.length : Nat) : Int) == 0) = true := by rw [beq_iff_eq]; omega
      by_cases hK : ks.length = 0
      · have fhK : (((ks.length : Nat) : Int) == 0) = true := by rw [beq_iff_eq]; omega
        have key : okF (.mk 2 i t its ks) = true := by rw [okF_2]; simp [*]
        rw [key]
        clear hT hN hK key
        go_enter Tryz.func63, Tryz.ntmps63
        go_wp2
        go_quiet (fail)
        go_wp2
        go_quiet (fail)
        go_wp2
        go_ret
        exact ⟨rfl, below_drew (below_one _ _) _⟩
      · have fhK : (((ks.length : Nat) : Int) == 0) = false := by rw [beq_eq_false_iff_ne]; omega
        have key : okF (.mk 2 i t its ks) = false := by rw [okF_2]; simp [*]
        rw [key]
        clear hT hN hK key
        go_enter Tryz.func63, Tryz.ntmps63
        go_wp2
        go_quiet (fail)
        go_wp2
        go_quiet (fail)
        go_wp2
        go_ret
        exact ⟨rfl, below_drew (below_one _ _) _⟩
    · have fhN : (((its.length : Nat) : Int) == 0) = false := by rw [beq_eq_false_iff_ne]; omega
      have key : okF (.mk 2 i t its ks) = false := by rw [okF_2]; simp [*]
      rw [key]
      clear hT hN key
      go_enter Tryz.func63, Tryz.ntmps63
      go_wp2
      go_quiet (fail)
      go_wp2
      go_quiet (fail)
      go_wp2
      go_ret
      exact ⟨rfl, below_drew (below_one _ _) _⟩
  · have fhT : (t.toList == []) = false := by rw [tl_empty]; exact decide_eq_false hT
    have key : okF (.mk 2 i t its ks) = false := by rw [okF_2]; simp [*]
    rw [key]
    clear hT key
    go_enter Tryz.func63, Tryz.ntmps63
    go_wp2
    go_quiet (fail)
    go_wp2
    go_quiet (fail)
    go_wp2
    go_ret
    exact ⟨rfl, below_drew (below_one _ _) _⟩

set_option maxHeartbeats 2000000 in
set_option linter.unusedVariables false in
theorem rf_3 (i : Int) (t : ByteArray) (its : List VT) (ks : List ByteArray) (A : Option Addr) (c : Nat) (A' : Option Addr) (c' : Nat) (w : World) (hS : LiesS w (Lo w) A' ks) (hkc : ks.length ≤ c') (hcm' : c' ≤ 9223372036854775807) :
    Calls Tryz.prog 63 #[vag 3 i t A its.length c A' ks.length c'] w (Gives (.bool (okF (.mk 3 i t its ks))) w) := by
  unfold vag
  have HS := Lib.hid hS
  clear hS
  by_cases hI0 : i = 0
  · have fhI0 : (i == 0) = true := by rw [beq_iff_eq]; omega
    by_cases hN : its.length = 0
    · have fhN : (((its.length : Nat) : Int) == 0) = true := by rw [beq_iff_eq]; omega
      by_cases hK : ks.length = 0
      · have fhK : (((ks.length : Nat) : Int) == 0) = true := by rw [beq_iff_eq]; omega
        have key : okF (.mk 3 i t its ks) = true := by rw [okF_3]; simp [*]
        rw [key]
        clear hI0 hN hK key
        go_enter Tryz.func63, Tryz.ntmps63
        go_wp2
        go_quiet (fail)
        go_wp2
        go_quiet (fail)
        go_wp2
        go_ret
        exact ⟨rfl, below_drew (below_one _ _) _⟩
      · have fhK : (((ks.length : Nat) : Int) == 0) = false := by rw [beq_eq_false_iff_ne]; omega
        have key : okF (.mk 3 i t its ks) = false := by rw [okF_3]; simp [*]
        rw [key]
        clear hI0 hN hK key
        go_enter Tryz.func63, Tryz.ntmps63
        go_wp2
        go_quiet (fail)
        go_wp2
        go_quiet (fail)
        go_wp2
        go_ret
        exact ⟨rfl, below_drew (below_one _ _) _⟩
    · have fhN : (((its.length : Nat) : Int) == 0) = false := by rw [beq_eq_false_iff_ne]; omega
      have key : okF (.mk 3 i t its ks) = false := by rw [okF_3]; simp [*]
      rw [key]
      clear hI0 hN key
      go_enter Tryz.func63, Tryz.ntmps63
      go_wp2
      go_quiet (fail)
      go_wp2
      go_quiet (fail)
      go_wp2
      go_ret
      exact ⟨rfl, below_drew (below_one _ _) _⟩
  · have fhI0 : (i == 0) = false := by rw [beq_eq_false_iff_ne]; omega
    have key : okF (.mk 3 i t its ks) = false := by rw [okF_3]; simp [*]
    rw [key]
    clear hI0 key
    go_enter Tryz.func63, Tryz.ntmps63
    go_wp2
    go_quiet (fail)
    go_wp2
    go_quiet (fail)
    go_wp2
    go_ret
    exact ⟨rfl, below_drew (below_one _ _) _⟩

set_option maxHeartbeats 2000000 in
set_option linter.unusedVariables false in
theorem rf_4 (i : Int) (t : ByteArray) (its : List VT) (ks : List ByteArray) (A : Option Addr) (c : Nat) (A' : Option Addr) (c' : Nat) (w : World) (hS : LiesS w (Lo w) A' ks) (hkc : ks.length ≤ c') (hcm' : c' ≤ 9223372036854775807) :
    Calls Tryz.prog 63 #[vag 4 i t A its.length c A' ks.length c'] w (Gives (.bool (okF (.mk 4 i t its ks))) w) := by
  unfold vag
  have HS := Lib.hid hS
  clear hS
  by_cases hI0 : i = 0
  · have fhI0 : (i == 0) = true := by rw [beq_iff_eq]; omega
    by_cases hT : t.size = 0
    · have fhT : (t.toList == []) = true := by rw [tl_empty]; exact decide_eq_true hT
      by_cases hK : ks.length = 0
      · have fhK : (((ks.length : Nat) : Int) == 0) = true := by rw [beq_iff_eq]; omega
        have key : okF (.mk 4 i t its ks) = true := by rw [okF_4]; simp [*]
        rw [key]
        clear hI0 hT hK key
        go_enter Tryz.func63, Tryz.ntmps63
        go_wp2
        go_quiet (fail)
        go_wp2
        go_quiet (fail)
        go_wp2
        go_ret
        exact ⟨rfl, below_drew (below_one _ _) _⟩
      · have fhK : (((ks.length : Nat) : Int) == 0) = false := by rw [beq_eq_false_iff_ne]; omega
        have key : okF (.mk 4 i t its ks) = false := by rw [okF_4]; simp [*]
        rw [key]
        clear hI0 hT hK key
        go_enter Tryz.func63, Tryz.ntmps63
        go_wp2
        go_quiet (fail)
        go_wp2
        go_quiet (fail)
        go_wp2
        go_ret
        exact ⟨rfl, below_drew (below_one _ _) _⟩
    · have fhT : (t.toList == []) = false := by rw [tl_empty]; exact decide_eq_false hT
      have key : okF (.mk 4 i t its ks) = false := by rw [okF_4]; simp [*]
      rw [key]
      clear hI0 hT key
      go_enter Tryz.func63, Tryz.ntmps63
      go_wp2
      go_quiet (fail)
      go_wp2
      go_quiet (fail)
      go_wp2
      go_ret
      exact ⟨rfl, below_drew (below_one _ _) _⟩
  · have fhI0 : (i == 0) = false := by rw [beq_eq_false_iff_ne]; omega
    have key : okF (.mk 4 i t its ks) = false := by rw [okF_4]; simp [*]
    rw [key]
    clear hI0 key
    go_enter Tryz.func63, Tryz.ntmps63
    go_wp2
    go_quiet (fail)
    go_wp2
    go_quiet (fail)
    go_wp2
    go_ret
    exact ⟨rfl, below_drew (below_one _ _) _⟩

set_option maxHeartbeats 2000000 in
set_option linter.unusedVariables false in
theorem rf_5 (i : Int) (t : ByteArray) (its : List VT) (ks : List ByteArray) (A : Option Addr) (c : Nat) (A' : Option Addr) (c' : Nat) (w : World) (hS : LiesS w (Lo w) A' ks) (hkc : ks.length ≤ c') (hcm' : c' ≤ 9223372036854775807) :
    Calls Tryz.prog 63 #[vag 5 i t A its.length c A' ks.length c'] w (Gives (.bool (okF (.mk 5 i t its ks))) w) := by
  unfold vag
  have HS := Lib.hid hS
  clear hS
  by_cases hI0 : i = 0
  · have fhI0 : (i == 0) = true := by rw [beq_iff_eq]; omega
    by_cases hT : t.size = 0
    · have fhT : (t.toList == []) = true := by rw [tl_empty]; exact decide_eq_true hT
      by_cases hL : ks.length = its.length
      · have fhL : (((ks.length : Nat) : Int) == ((its.length : Nat) : Int)) = true := by rw [beq_iff_eq]; omega
        by_cases hR : rising ks = true
        · have fhR : rising ks = true := by simpa using hR
          have key : okF (.mk 5 i t its ks) = true := by rw [okF_5]; simp [*]
          rw [key]
          clear hI0 hT hL hR key
          go_enter Tryz.func63, Tryz.ntmps63
          go_wp2
          go_quiet (fail)
          go_wp2
          go_quiet (fail)
          go_wp2_with fail
          refine (ascending_any _ _ _ _ (HS.out.below (below_drew (below_one _ _) _)) hkc hcm').mono ?_
          rintro e w' ⟨rfl, hb⟩
          have HB := Lib.hid ((below_drew (below_one _ _) _).trans (hb.mono (by simp)))
          clear hb
          rw [fhR]
          go_wp2
          go_ret
          exact ⟨rfl, HB.out⟩
        · have fhR : rising ks = false := by simpa using hR
          have key : okF (.mk 5 i t its ks) = false := by rw [okF_5]; simp [*]
          rw [key]
          clear hI0 hT hL hR key
          go_enter Tryz.func63, Tryz.ntmps63
          go_wp2
          go_quiet (fail)
          go_wp2
          go_quiet (fail)
          go_wp2_with fail
          refine (ascending_any _ _ _ _ (HS.out.below (below_drew (below_one _ _) _)) hkc hcm').mono ?_
          rintro e w' ⟨rfl, hb⟩
          have HB := Lib.hid ((below_drew (below_one _ _) _).trans (hb.mono (by simp)))
          clear hb
          rw [fhR]
          go_wp2
          go_ret
          exact ⟨rfl, HB.out⟩
      · have fhL : (((ks.length : Nat) : Int) == ((its.length : Nat) : Int)) = false := by rw [beq_eq_false_iff_ne]; omega
        have key : okF (.mk 5 i t its ks) = false := by rw [okF_5]; simp [*]
        rw [key]
        clear hI0 hT hL key
        go_enter Tryz.func63, Tryz.ntmps63
        go_wp2
        go_quiet (fail)
        go_wp2
        go_quiet (fail)
        go_wp2
        go_ret
        exact ⟨rfl, below_drew (below_one _ _) _⟩
    · have fhT : (t.toList == []) = false := by rw [tl_empty]; exact decide_eq_false hT
      have key : okF (.mk 5 i t its ks) = false := by rw [okF_5]; simp [*]
      rw [key]
      clear hI0 hT key
      go_enter Tryz.func63, Tryz.ntmps63
      go_wp2
      go_quiet (fail)
      go_wp2
      go_quiet (fail)
      go_wp2
      go_ret
      exact ⟨rfl, below_drew (below_one _ _) _⟩
  · have fhI0 : (i == 0) = false := by rw [beq_eq_false_iff_ne]; omega
    have key : okF (.mk 5 i t its ks) = false := by rw [okF_5]; simp [*]
    rw [key]
    clear hI0 key
    go_enter Tryz.func63, Tryz.ntmps63
    go_wp2
    go_quiet (fail)
    go_wp2
    go_quiet (fail)
    go_wp2
    go_ret
    exact ⟨rfl, below_drew (below_one _ _) _⟩

set_option maxHeartbeats 2000000 in
set_option linter.unusedVariables false in
theorem rf_6 (i : Int) (t : ByteArray) (its : List VT) (ks : List ByteArray) (A : Option Addr) (c : Nat) (A' : Option Addr) (c' : Nat) (w : World) (hS : LiesS w (Lo w) A' ks) (hkc : ks.length ≤ c') (hcm' : c' ≤ 9223372036854775807) :
    Calls Tryz.prog 63 #[vag 6 i t A its.length c A' ks.length c'] w (Gives (.bool (okF (.mk 6 i t its ks))) w) := by
  unfold vag
  have HS := Lib.hid hS
  clear hS
  by_cases hP : 0 ≤ i
  · have fhP : decide ((0 : Int) ≤ i) = true := decide_eq_true hP
    by_cases hT : t.size = 0
    · have fhT : (t.toList == []) = true := by rw [tl_empty]; exact decide_eq_true hT
      by_cases hN : its.length = 0
      · have fhN : (((its.length : Nat) : Int) == 0) = true := by rw [beq_iff_eq]; omega
        by_cases hK : ks.length = 0
        · have fhK : (((ks.length : Nat) : Int) == 0) = true := by rw [beq_iff_eq]; omega
          have key : okF (.mk 6 i t its ks) = true := by rw [okF_6]; simp [*]
          rw [key]
          clear hP hT hN hK key
          go_enter Tryz.func63, Tryz.ntmps63
          go_wp2
          go_quiet (fail)
          go_wp2
          go_quiet (fail)
          go_wp2
          go_ret
          exact ⟨rfl, below_drew (below_one _ _) _⟩
        · have fhK : (((ks.length : Nat) : Int) == 0) = false := by rw [beq_eq_false_iff_ne]; omega
          have key : okF (.mk 6 i t its ks) = false := by rw [okF_6]; simp [*]
          rw [key]
          clear hP hT hN hK key
          go_enter Tryz.func63, Tryz.ntmps63
          go_wp2
          go_quiet (fail)
          go_wp2
          go_quiet (fail)
          go_wp2
          go_ret
          exact ⟨rfl, below_drew (below_one _ _) _⟩
      · have fhN : (((its.length : Nat) : Int) == 0) = false := by rw [beq_eq_false_iff_ne]; omega
        have key : okF (.mk 6 i t its ks) = false := by rw [okF_6]; simp [*]
        rw [key]
        clear hP hT hN key
        go_enter Tryz.func63, Tryz.ntmps63
        go_wp2
        go_quiet (fail)
        go_wp2
        go_quiet (fail)
        go_wp2
        go_ret
        exact ⟨rfl, below_drew (below_one _ _) _⟩
    · have fhT : (t.toList == []) = false := by rw [tl_empty]; exact decide_eq_false hT
      have key : okF (.mk 6 i t its ks) = false := by rw [okF_6]; simp [*]
      rw [key]
      clear hP hT key
      go_enter Tryz.func63, Tryz.ntmps63
      go_wp2
      go_quiet (fail)
      go_wp2
      go_quiet (fail)
      go_wp2
      go_ret
      exact ⟨rfl, below_drew (below_one _ _) _⟩
  · have fhP : decide ((0 : Int) ≤ i) = false := decide_eq_false hP
    have key : okF (.mk 6 i t its ks) = false := by rw [okF_6]; simp [*]
    rw [key]
    clear hP key
    go_enter Tryz.func63, Tryz.ntmps63
    go_wp2
    go_quiet (fail)
    go_wp2
    go_quiet (fail)
    go_wp2
    go_ret
    exact ⟨rfl, below_drew (below_one _ _) _⟩

set_option maxHeartbeats 2000000 in
theorem rf_o (k i : Int) (t : ByteArray) (its : List VT) (ks : List ByteArray) (A : Option Addr) (c : Nat) (A' : Option Addr) (c' : Nat) (w : World) (hk : ¬ (0 ≤ k ∧ k ≤ 6)) :
    Calls Tryz.prog 63 #[vag k i t A its.length c A' ks.length c'] w (Gives (.bool (okF (.mk k i t its ks))) w) := by
  unfold vag
  have f0 : (k == 0) = false := by rw [beq_eq_false_iff_ne]; omega
  have f1 : (k == 1) = false := by rw [beq_eq_false_iff_ne]; omega
  have f2 : (k == 2) = false := by rw [beq_eq_false_iff_ne]; omega
  have f3 : (k == 3) = false := by rw [beq_eq_false_iff_ne]; omega
  have f4 : (k == 4) = false := by rw [beq_eq_false_iff_ne]; omega
  have f5 : (k == 5) = false := by rw [beq_eq_false_iff_ne]; omega
  have f6 : (k == 6) = false := by rw [beq_eq_false_iff_ne]; omega
  have key : okF (.mk k i t its ks) = false := by
    simp only [beq_eq_false_iff_ne] at f0 f1 f2 f3 f4 f5 f6
    simp [okF, VT.k, f0, f1, f2, f3, f4, f5, f6]
  rw [key]
  clear key hk
  go_enter Tryz.func63, Tryz.ntmps63
  go_wp2
  go_quiet (fail)
  go_wp2
  go_quiet (fail)
  go_wp2
  go_ret
  exact ⟨rfl, below_drew (below_one _ _) _⟩

theorem rf_any {x : VT} {v : Value} {w : World} (h : Lies w (Lo w) x v) : Calls Tryz.prog 63 #[v] w (Gives (.bool (okF x)) w) := by
  obtain ⟨k, i, t, its, ks⟩ := x
  obtain ⟨A, c, A', c', rfl, _, _, _, _, _, _, h1, h2, hS⟩ := h.open
  by_cases hk : 0 ≤ k ∧ k ≤ 6
  · obtain rfl | rfl | rfl | rfl | rfl | rfl | rfl : k = 0 ∨ k = 1 ∨ k = 2 ∨ k = 3 ∨ k = 4 ∨ k = 5 ∨ k = 6 := by omega
    · exact rf_0 i t its ks A c A' c' w hS h1 h2
    · exact rf_1 i t its ks A c A' c' w hS h1 h2
    · exact rf_2 i t its ks A c A' c' w hS h1 h2
    · exact rf_3 i t its ks A c A' c' w hS h1 h2
    · exact rf_4 i t its ks A c A' c' w hS h1 h2
    · exact rf_5 i t its ks A c A' c' w hS h1 h2
    · exact rf_6 i t its ks A c A' c' w hS h1 h2
  · exact rf_o k i t its ks A c A' c' w hk
end Go.Proofs.YtlgmhhimbabkjaaGreatDoor
