/-
  Texts of layers 1 and 2, part E: contracts of the code's functions and what they lean on.
-/
import Derived.Test.YtjbjoalinfhahaaBD
import Derived.Test.YtjbjoalinfhahaaBC
import Derived.WalkLawsBesides
import Derived.WalkSpells
import Derived.Deep.QuietTactic
import Derived.BigQuiet
namespace Go.Proofs.Ytjbjoalinfhahaa
open Go.RowKit

theorem LiesS.at_ {w : World} {R : Nat → Prop} {A : Option Addr} {ks : List ByteArray} {j : Nat} (h : LiesS w R A ks) (hj : j < ks.length) :
    (ks.getD j ByteArray.empty).size ≤ 9223372036854775807 ∧ ∃ g o, A = some ⟨g, o, none⟩ ∧ R g ∧ w.cell? ⟨g, o + j, none⟩ = some (.string (ks.getD j ByteArray.empty)) := by
  have e : ks[j]? = some (ks.getD j ByteArray.empty) := by rw [List.getD_eq_getElem?_getD, List.getElem?_eq_getElem hj]; rfl
  exact h j _ e

set_option maxHeartbeats 400000 in
theorem ascending_any (A : Option Addr) (c : Nat) (ks : List ByteArray) (w : World) (hS : LiesS w (Lo w) A ks) (hc : ks.length ≤ c) (hm : c ≤ 9223372036854775807) :
    Calls Try.prog 60 #[.slice A ks.length c] w (Gives (.bool (rising ks)) w) := by
  have HS := Lib.hid hS
  clear hS
  obtain ⟨n, hn⟩ : ∃ n, n = ks.length := ⟨_, rfl⟩
  rw [← hn] at hc ⊢
  have HN := Lib.hid hn
  clear hn
  go_enter Try.func60, Try.ntmps60
  go_wp2
  go_loopw [3] (fun t wr => ∃ j q : Nat, 1 ≤ j ∧ (j ≤ n ∨ j = 1) ∧ t = .int .i64 j ∧ wr = w.drewN q ∧ Hid (risingTo ks (j - 1) = true)) (fun t _ => n - (intOf t).toNat)
  case atStart => exact ⟨1, 0, by omega, by omega, rfl, rfl, Lib.hid rfl⟩
  case round =>
    obtain ⟨j, q, h1, hjn, rfl, rfl, hr⟩ := hrel
    by_cases hlt : j < n
    · obtain ⟨_, g, o, rfl, hg, e0⟩ := HS.out.at_ (j := j) (by rw [← HN.out]; exact hlt)
      obtain ⟨_, g', o', he, hg', e1⟩ := HS.out.at_ (j := j - 1) (by rw [← HN.out]; omega)
      injection he with he
      injection he with he1 he2
      subst he1 he2
      obtain ⟨i, rfl⟩ : ∃ i, j = i + 1 := ⟨j - 1, by omega⟩
      rw [show i + 1 - 1 = i by omega] at e1
      have hs := risingTo_succ ks i
      unfold less at hs
      rw [show i + 1 - 1 = i by omega] at hr
      rw [hr.out, Bool.true_and] at hs
      generalize ks.getD (i + 1) ByteArray.empty = y at *
      generalize ks.getD i ByteArray.empty = x at *
      rcases str_ways x y with ⟨s1, s2, s3, s4, _⟩ | ⟨he, s1, s2, s3, s4⟩ | ⟨s1, s2, s3, s4, _⟩
      · rw [s1] at hs
        have HR := Lib.hid hs
        clear hs hr
        go_wp2_with fail
        go_quiet (fail)
        go_wp2
        go_roundw
        case rel => exact ⟨i + 1 + 1, _, by omega, by omega, by go_num, rfl, Lib.hid (by simpa using HR.out)⟩
        case measure => simp [intOf]; omega
      · rw [s1] at hs
        have HR := Lib.hid (risingTo_false hs (m := ks.length - 1) (by rw [← HN.out]; omega))
        clear hs hr he
        go_wp2_with fail
        go_quiet (fail)
        go_wp2
        go_ret
        exact ⟨ret_bool HR.out.symm, below_drew (below_drew (Below.refl _ _) _) _⟩
      · rw [s1] at hs
        have HR := Lib.hid (risingTo_false hs (m := ks.length - 1) (by rw [← HN.out]; omega))
        clear hs hr
        go_wp2_with fail
        go_quiet (fail)
        go_wp2
        go_ret
        exact ⟨ret_bool HR.out.symm, below_drew (below_drew (Below.refl _ _) _) _⟩
    · have HR : Hid (rising ks = true) := Lib.hid (by
        unfold rising
        rcases hjn with hjn | hjn
        · rw [← HN.out, ← hr.out]; congr 1; omega
        · rw [← HN.out, ← hr.out]; congr 1; omega)
      go_wp2
      go_ret
      exact ⟨ret_bool HR.out.symm, below_drew (Below.refl _ _) _⟩
set_option maxHeartbeats 400000 in
theorem rising_any (A : Option Addr) (c : Nat) (ks : List ByteArray) (w : World) (hS : LiesS w (Lo w) A ks) (hc : ks.length ≤ c) (hm : c ≤ 9223372036854775807) :
    Calls Try.prog 76 #[.slice A ks.length c] w (Gives (.bool (rising ks)) w) := by
  have HS := Lib.hid hS
  clear hS
  obtain ⟨n, hn⟩ : ∃ n, n = ks.length := ⟨_, rfl⟩
  rw [← hn] at hc ⊢
  have HN := Lib.hid hn
  clear hn
  go_enter Try.func76, Try.ntmps76
  go_wp2
  go_loopw [3] (fun t wr => ∃ j q : Nat, 1 ≤ j ∧ (j ≤ n ∨ j = 1) ∧ t = .int .i64 j ∧ wr = w.drewN q ∧ Hid (risingTo ks (j - 1) = true)) (fun t _ => n - (intOf t).toNat)
  case atStart => exact ⟨1, 0, by omega, by omega, rfl, rfl, Lib.hid rfl⟩
  case round =>
    obtain ⟨j, q, h1, hjn, rfl, rfl, hr⟩ := hrel
    by_cases hlt : j < n
    · obtain ⟨_, g, o, rfl, hg, e0⟩ := HS.out.at_ (j := j) (by rw [← HN.out]; exact hlt)
      obtain ⟨_, g', o', he, hg', e1⟩ := HS.out.at_ (j := j - 1) (by rw [← HN.out]; omega)
      injection he with he
      injection he with he1 he2
      subst he1 he2
      obtain ⟨i, rfl⟩ : ∃ i, j = i + 1 := ⟨j - 1, by omega⟩
      rw [show i + 1 - 1 = i by omega] at e1
      have hs := risingTo_succ ks i
      unfold less at hs
      rw [show i + 1 - 1 = i by omega] at hr
      rw [hr.out, Bool.true_and] at hs
      generalize ks.getD (i + 1) ByteArray.empty = y at *
      generalize ks.getD i ByteArray.empty = x at *
      rcases str_ways x y with ⟨s1, s2, s3, s4, _⟩ | ⟨he, s1, s2, s3, s4⟩ | ⟨s1, s2, s3, s4, _⟩
      · rw [s1] at hs
        have HR := Lib.hid hs
        clear hs hr
        go_wp2_with fail
        go_quiet (fail)
        go_wp2
        go_roundw
        case rel => exact ⟨i + 1 + 1, _, by omega, by omega, by go_num, rfl, Lib.hid (by simpa using HR.out)⟩
        case measure => simp [intOf]; omega
      · rw [s1] at hs
        have HR := Lib.hid (risingTo_false hs (m := ks.length - 1) (by rw [← HN.out]; omega))
        clear hs hr he
        go_wp2_with fail
        go_quiet (fail)
        go_wp2
        go_ret
        exact ⟨ret_bool HR.out.symm, below_drew (below_drew (Below.refl _ _) _) _⟩
      · rw [s1] at hs
        have HR := Lib.hid (risingTo_false hs (m := ks.length - 1) (by rw [← HN.out]; omega))
        clear hs hr
        go_wp2_with fail
        go_quiet (fail)
        go_wp2
        go_ret
        exact ⟨ret_bool HR.out.symm, below_drew (below_drew (Below.refl _ _) _) _⟩
    · have HR : Hid (rising ks = true) := Lib.hid (by
        unfold rising
        rcases hjn with hjn | hjn
        · rw [← HN.out, ← hr.out]; congr 1; omega
        · rw [← HN.out, ← hr.out]; congr 1; omega)
      go_wp2
      go_ret
      exact ⟨ret_bool HR.out.symm, below_drew (Below.refl _ _) _⟩
end Go.Proofs.Ytjbjoalinfhahaa
namespace Go.Proofs.Ytjbjoalinfhahaa
open Go.RowKit

theorem tl_empty (t : ByteArray) : (t.toList == []) = decide (t.size = 0) := by
  rw [ByteArray.toList_eq]
  cases t with | mk a =>
  by_cases h : a.size = 0
  · have : a = #[] := Array.eq_empty_of_size_eq_zero h
    subst this
    rfl
  · rw [decide_eq_false (by simpa [ByteArray.size] using h), beq_eq_false_iff_ne]
    intro e
    exact h (by have := congrArg List.length e; simpa using this)

set_option maxHeartbeats 2000000 in
set_option linter.unusedVariables false in
theorem rf_0 (i : Int) (t : ByteArray) (its : List VT) (ks : List ByteArray) (A : Option Addr) (c : Nat) (A' : Option Addr) (c' : Nat) (w : World) (hS : LiesS w (Lo w) A' ks) (hkc : ks.length ≤ c') (hcm' : c' ≤ 9223372036854775807) :
    Calls Try.prog 95 #[vag 0 i t A its.length c A' ks.length c'] w (Gives (.bool (okF (.mk 0 i t its ks))) w) := by
  unfold vag
  have HS := Lib.hid hS
  clear hS
  by_cases hI0 : i = 0
  · have fhI0 : (i == 0) = true := by rw [beq_iff_eq]; omega
    by_cases hT : t.size = 0
    · have fhT : (t.toList == []) = true := by rw [tl_empty]; exact decide_eq_true hT
      by_cases hN : its.length = 0
      · have fhN : (((its.length : Nat) : Int) == 0) = true := by rw [beq_iff_eq]; omega
        by_cases hK : ks.length = 0
        · have fhK : (((ks.length : Nat) : Int) == 0) = true := by rw [beq_iff_eq]; omega
          have key : okF (.mk 0 i t its ks) = true := by rw [okF_0]; simp [*]
          rw [key]
          clear hI0 hT hN hK key
          go_enter Try.func95, Try.ntmps95
          go_wp2
          go_quiet (fail)
          go_wp2
          go_quiet (fail)
          go_wp2
          go_ret
          exact ⟨rfl, below_drew (below_one _ _) _⟩
        · have fhK : (((ks.length : Nat) : Int) == 0) = false := by rw [beq_eq_false_iff_ne]; omega
          have key : okF (.mk 0 i t its ks) = false := by rw [okF_0]; simp [*]
          rw [key]
          clear hI0 hT hN hK key
          go_enter Try.func95, Try.ntmps95
          go_wp2
          go_quiet (fail)
          go_wp2
          go_quiet (fail)
          go_wp2
          go_ret
          exact ⟨rfl, below_drew (below_one _ _) _⟩
      · have fhN : (((its.length : Nat) : Int) == 0) = false := by rw [beq_eq_false_iff_ne]; omega
        have key : okF (.mk 0 i t its ks) = false := by rw [okF_0]; simp [*]
        rw [key]
        clear hI0 hT hN key
        go_enter Try.func95, Try.ntmps95
        go_wp2
        go_quiet (fail)
        go_wp2
        go_quiet (fail)
        go_wp2
        go_ret
        exact ⟨rfl, below_drew (below_one _ _) _⟩
    · have fhT : (t.toList == []) = false := by rw [tl_empty]; exact decide_eq_false hT
      have key : okF (.mk 0 i t its ks) = false := by rw [okF_0]; simp [*]
      rw [key]
      clear hI0 hT key
      go_enter Try.func95, Try.ntmps95
      go_wp2
      go_quiet (fail)
      go_wp2
      go_quiet (fail)
      go_wp2
      go_ret
      exact ⟨rfl, below_drew (below_one _ _) _⟩
  · have fhI0 : (i == 0) = false := by rw [beq_eq_false_iff_ne]; omega
    have key : okF (.mk 0 i t its ks) = false := by rw [okF_0]; simp [*]
    rw [key]
    clear hI0 key
    go_enter Try.func95, Try.ntmps95
    go_wp2
    go_quiet (fail)
    go_wp2
    go_quiet (fail)
    go_wp2
    go_ret
    exact ⟨rfl, below_drew (below_one _ _) _⟩

set_option maxHeartbeats 2000000 in
set_option linter.unusedVariables false in
theorem rf_1 (i : Int) (t : ByteArray) (its : List VT) (ks : List ByteArray) (A : Option Addr) (c : Nat) (A' : Option Addr) (c' : Nat) (w : World) (hS : LiesS w (Lo w) A' ks) (hkc : ks.length ≤ c') (hcm' : c' ≤ 9223372036854775807) :
    Calls Try.prog 95 #[vag 1 i t A its.length c A' ks.length c'] w (Gives (.bool (okF (.mk 1 i t its ks))) w) := by
  unfold vag
  have HS := Lib.hid hS
  clear hS
  by_cases hI0 : i = 0
  · have fhI0 : (i == 0) = true := by rw [beq_iff_eq]; omega
    by_cases hT : t.size = 0
    · have fhT : (t.toList == []) = true := by rw [tl_empty]; exact decide_eq_true hT
      by_cases hN : its.length = 0
      · have fhN : (((its.length : Nat) : Int) == 0) = true := by rw [beq_iff_eq]; omega
        by_cases hK : ks.length = 0
        · have fhK : (((ks.length : Nat) : Int) == 0) = true := by rw [beq_iff_eq]; omega
          have key : okF (.mk 1 i t its ks) = true := by rw [okF_1]; simp [*]
          rw [key]
          clear hI0 hT hN hK key
          go_enter Try.func95, Try.ntmps95
          go_wp2
          go_quiet (fail)
          go_wp2
          go_quiet (fail)
          go_wp2
          go_ret
          exact ⟨rfl, below_drew (below_one _ _) _⟩
        · have fhK : (((ks.length : Nat) : Int) == 0) = false := by rw [beq_eq_false_iff_ne]; omega
          have key : okF (.mk 1 i t its ks) = false := by rw [okF_1]; simp [*]
          rw [key]
          clear hI0 hT hN hK key
          go_enter Try.func95, Try.ntmps95
          go_wp2
          go_quiet (fail)
          go_wp2
          go_quiet (fail)
          go_wp2
          go_ret
          exact ⟨rfl, below_drew (below_one _ _) _⟩
      · have fhN : (((its.length : Nat) : Int) == 0) = false := by rw [beq_eq_false_iff_ne]; omega
        have key : okF (.mk 1 i t its ks) = false := by rw [okF_1]; simp [*]
        rw [key]
        clear hI0 hT hN key
        go_enter Try.func95, Try.ntmps95
        go_wp2
        go_quiet (fail)
        go_wp2
        go_quiet (fail)
        go_wp2
        go_ret
        exact ⟨rfl, below_drew (below_one _ _) _⟩
    · have fhT : (t.toList == []) = false := by rw [tl_empty]; exact decide_eq_false hT
      have key : okF (.mk 1 i t its ks) = false := by rw [okF_1]; simp [*]
      rw [key]
      clear hI0 hT key
      go_enter Try.func95, Try.ntmps95
      go_wp2
      go_quiet (fail)
      go_wp2
      go_quiet (fail)
      go_wp2
      go_ret
      exact ⟨rfl, below_drew (below_one _ _) _⟩
  · have fhI0 : (i == 0) = false := by rw [beq_eq_false_iff_ne]; omega
    by_cases hI1 : i = 1
    · have fhI1 : (i == 1) = true := by rw [beq_iff_eq]; omega
      by_cases hT : t.size = 0
      · have fhT : (t.toList == []) = true := by rw [tl_empty]; exact decide_eq_true hT
        by_cases hN : its.length = 0
        · have fhN : (((its.length : Nat) : Int) == 0) = true := by rw [beq_iff_eq]; omega
          by_cases hK : ks.length = 0
          · have fhK : (((ks.length : Nat) : Int) == 0) = true := by rw [beq_iff_eq]; omega
            have key : okF (.mk 1 i t its ks) = true := by rw [okF_1]; simp [*]
            rw [key]
            clear hI0 hI1 hT hN hK key
            go_enter Try.func95, Try.ntmps95
            go_wp2
            go_quiet (fail)
            go_wp2
            go_quiet (fail)
            go_wp2
            go_ret
            exact ⟨rfl, below_drew (below_one _ _) _⟩
          · have fhK : (((ks.length : Nat) : Int) == 0) = false := by rw [beq_eq_false_iff_ne]; omega
            have key : okF (.mk 1 i t its ks) = false := by rw [okF_1]; simp [*]
            rw [key]
            clear hI0 hI1 hT hN hK key
            go_enter Try.func95, Try.ntmps95
            go_wp2
            go_quiet (fail)
            go_wp2
            go_quiet (fail)
            go_wp2
            go_ret
            exact ⟨rfl, below_drew (below_one _ _) _⟩
        · have fhN : (((its.length : Nat) : Int) == 0) = false := by rw [beq_eq_false_iff_ne]; omega
          have key : okF (.mk 1 i t its ks) = false := by rw [okF_1]; simp [*]
          rw [key]
          clear hI0 hI1 hT hN key
          go_enter Try.func95, Try.ntmps95
          go_wp2
          go_quiet (fail)
          go_wp2
          go_quiet (fail)
          go_wp2
          go_ret
          exact ⟨rfl, below_drew (below_one _ _) _⟩
      · have fhT : (t.toList == []) = false := by rw [tl_empty]; exact decide_eq_false hT
        have key : okF (.mk 1 i t its ks) = false := by rw [okF_1]; simp [*]
        rw [key]
        clear hI0 hI1 hT key
        go_enter Try.func95, Try.ntmps95
        go_wp2
        go_quiet (fail)
        go_wp2
        go_quiet (fail)
        go_wp2
        go_ret
        exact ⟨rfl, below_drew (below_one _ _) _⟩
    · have fhI1 : (i == 1) = false := by rw [beq_eq_false_iff_ne]; omega
      have key : okF (.mk 1 i t its ks) = false := by rw [okF_1]; simp [*]
      rw [key]
      clear hI0 hI1 key
      go_enter Try.func95, Try.ntmps95
      go_wp2
      go_quiet (fail)
      go_wp2
      go_quiet (fail)
      go_wp2
      go_ret
      exact ⟨rfl, below_drew (below_one _ _) _⟩

set_option maxHeartbeats 2000000 in
set_option linter.unusedVariables false in
theorem rf_2 (i : Int) (t : ByteArray) (its : List VT) (ks : List ByteArray) (A : Option Addr) (c : Nat) (A' : Option Addr) (c' : Nat) (w : World) (hS : LiesS w (Lo w) A' ks) (hkc : ks.length ≤ c') (hcm' : c' ≤ 9223372036854775807) :
    Calls Try.prog 95 #[vag 2 i t A its.length c A' ks.length c'] w (Gives (.bool (okF (.mk 2 i t its ks))) w) := by
  unfold vag
  have HS := Lib.hid hS
  clear hS
  by_cases hT : t.size = 0
  · have fhT : (t.toList == []) = true := by rw [tl_empty]; exact decide_eq_true hT
    by_cases hN : its.length = 0
    · have fhN : (((its.length : Nat) : Int) == 0) = true := by rw [beq_iff_eq]; omega
      by_cases hK : ks.length = 0
      · have fhK : (((ks.length : Nat) : Int) == 0) = true := by rw [beq_iff_eq]; omega
        have key : okF (.mk 2 i t its ks) = true := by rw [okF_2]; simp [*]
        rw [key]
        clear hT hN hK key
        go_enter Try.func95, Try.ntmps95
        go_wp2
        go_quiet (fail)
        go_wp2
        go_quiet (fail)
        go_wp2
        go_ret
        exact ⟨rfl, below_drew (below_one _ _) _⟩
      · have fhK : (((ks.length : Nat) : Int) == 0) = false := by rw [beq_eq_false_iff_ne]; omega
        have key : okF (.mk 2 i t its ks) = false := by rw [okF_2]; simp [*]
        rw [key]
        clear hT hN hK key
        go_enter Try.func95, Try.ntmps95
        go_wp2
        go_quiet (fail)
        go_wp2
        go_quiet (fail)
        go_wp2
        go_ret
        exact ⟨rfl, below_drew (below_one _ _) _⟩
    · have fhN : (((its.length : Nat) : Int) == 0) = false := by rw [beq_eq_false_iff_ne]; omega
      have key : okF (.mk 2 i t its ks) = false := by rw [okF_2]; simp [*]
      rw [key]
      clear hT hN key
      go_enter Try.func95, Try.ntmps95
      go_wp2
      go_quiet (fail)
      go_wp2
      go_quiet (fail)
      go_wp2
      go_ret
      exact ⟨rfl, below_drew (below_one _ _) _⟩
  · have fhT : (t.toList == []) = false := by rw [tl_empty]; exact decide_eq_false hT
    have key : okF (.mk 2 i t its ks) = false := by rw [okF_2]; simp [*]
    rw [key]
    clear hT key
    go_enter Try.func95, Try.ntmps95
    go_wp2
    go_quiet (fail)
    go_wp2
    go_quiet (fail)
    go_wp2
    go_ret
    exact ⟨rfl, below_drew (below_one _ _) _⟩

set_option maxHeartbeats 2000000 in
set_option linter.unusedVariables false in
theorem rf_3 (i : Int) (t : ByteArray) (its : List VT) (ks : List ByteArray) (A : Option Addr) (c : Nat) (A' : Option Addr) (c' : Nat) (w : World) (hS : LiesS w (Lo w) A' ks) (hkc : ks.length ≤ c') (hcm' : c' ≤ 9223372036854775807) :
    Calls Try.prog 95 #[vag 3 i t A its.length c A' ks.length c'] w (Gives (.bool (okF (.mk 3 i t its ks))) w) := by
  unfold vag
  have HS := Lib.hid hS
  clear hS
  by_cases hI0 : i = 0
  · have fhI0 : (i == 0) = true := by rw [beq_iff_eq]; omega
    by_cases hN : its.length = 0
    · have fhN : (((its.length : Nat) : Int) == 0) = true := by rw [beq_iff_eq]; omega
      by_cases hK : ks.length = 0
      · have fhK : (((ks.length : Nat) : Int) == 0) = true := by rw [beq_iff_eq]; omega
        have key : okF (.mk 3 i t its ks) = true := by rw [okF_3]; simp [*]
        rw [key]
        clear hI0 hN hK key
        go_enter Try.func95, Try.ntmps95
        go_wp2
        go_quiet (fail)
        go_wp2
        go_quiet (fail)
        go_wp2
        go_ret
        exact ⟨rfl, below_drew (below_one _ _) _⟩
      · have fhK : (((ks.length : Nat) : Int) == 0) = false := by rw [beq_eq_false_iff_ne]; omega
        have key : okF (.mk 3 i t its ks) = false := by rw [okF_3]; simp [*]
        rw [key]
        clear hI0 hN hK key
        go_enter Try.func95, Try.ntmps95
        go_wp2
        go_quiet (fail)
        go_wp2
        go_quiet (fail)
        go_wp2
        go_ret
        exact ⟨rfl, below_drew (below_one _ _) _⟩
    · have fhN : (((its.length : Nat) : Int) == 0) = false := by rw [beq_eq_false_iff_ne]; omega
      have key : okF (.mk 3 i t its ks) = false := by rw [okF_3]; simp [*]
      rw [key]
      clear hI0 hN key
      go_enter Try.func95, Try.ntmps95
      go_wp2
      go_quiet (fail)
      go_wp2
      go_quiet (fail)
      go_wp2
      go_ret
      exact ⟨rfl, below_drew (below_one _ _) _⟩
  · have fhI0 : (i == 0) = false := by rw [beq_eq_false_iff_ne]; omega
    have key : okF (.mk 3 i t its ks) = false := by rw [okF_3]; simp [*]
    rw [key]
    clear hI0 key
    go_enter Try.func95, Try.ntmps95
    go_wp2
    go_quiet (fail)
    go_wp2
    go_quiet (fail)
    go_wp2
    go_ret
    exact ⟨rfl, below_drew (below_one _ _) _⟩

set_option maxHeartbeats 2000000 in
set_option linter.unusedVariables false in
theorem rf_4 (i : Int) (t : ByteArray) (its : List VT) (ks : List ByteArray) (A : Option Addr) (c : Nat) (A' : Option Addr) (c' : Nat) (w : World) (hS : LiesS w (Lo w) A' ks) (hkc : ks.length ≤ c') (hcm' : c' ≤ 9223372036854775807) :
    Calls Try.prog 95 #[vag 4 i t A its.length c A' ks.length c'] w (Gives (.bool (okF (.mk 4 i t its ks))) w) := by
  unfold vag
  have HS := Lib.hid hS
  clear hS
  by_cases hI0 : i = 0
  · have fhI0 : (i == 0) = true := by rw [beq_iff_eq]; omega
    by_cases hT : t.size = 0
    · have fhT : (t.toList == []) = true := by rw [tl_empty]; exact decide_eq_true hT
      by_cases hK : ks.length = 0
      · have fhK : (((ks.length : Nat) : Int) == 0) = true := by rw [beq_iff_eq]; omega
        have key : okF (.mk 4 i t its ks) = true := by rw [okF_4]; simp [*]
        rw [key]
        clear hI0 hT hK key
        go_enter Try.func95, Try.ntmps95
        go_wp2
        go_quiet (fail)
        go_wp2
        go_quiet (fail)
        go_wp2
        go_ret
        exact ⟨rfl, below_drew (below_one _ _) _⟩
      · have fhK : (((ks.length : Nat) : Int) == 0) = false := by rw [beq_eq_false_iff_ne]; omega
        have key : okF (.mk 4 i t its ks) = false := by rw [okF_4]; simp [*]
        rw [key]
        clear hI0 hT hK key
        go_enter Try.func95, Try.ntmps95
        go_wp2
        go_quiet (fail)
        go_wp2
        go_quiet (fail)
        go_wp2
        go_ret
        exact ⟨rfl, below_drew (below_one _ _) _⟩
    · have fhT : (t.toList == []) = false := by rw [tl_empty]; exact decide_eq_false hT
      have key : okF (.mk 4 i t its ks) = false := by rw [okF_4]; simp [*]
      rw [key]
      clear hI0 hT key
      go_enter Try.func95, Try.ntmps95
      go_wp2
      go_quiet (fail)
      go_wp2
      go_quiet (fail)
      go_wp2
      go_ret
      exact ⟨rfl, below_drew (below_one _ _) _⟩
  · have fhI0 : (i == 0) = false := by rw [beq_eq_false_iff_ne]; omega
    have key : okF (.mk 4 i t its ks) = false := by rw [okF_4]; simp [*]
    rw [key]
    clear hI0 key
    go_enter Try.func95, Try.ntmps95
    go_wp2
    go_quiet (fail)
    go_wp2
    go_quiet (fail)
    go_wp2
    go_ret
    exact ⟨rfl, below_drew (below_one _ _) _⟩

set_option maxHeartbeats 2000000 in
set_option linter.unusedVariables false in
theorem rf_5 (i : Int) (t : ByteArray) (its : List VT) (ks : List ByteArray) (A : Option Addr) (c : Nat) (A' : Option Addr) (c' : Nat) (w : World) (hS : LiesS w (Lo w) A' ks) (hkc : ks.length ≤ c') (hcm' : c' ≤ 9223372036854775807) :
    Calls Try.prog 95 #[vag 5 i t A its.length c A' ks.length c'] w (Gives (.bool (okF (.mk 5 i t its ks))) w) := by
  unfold vag
  have HS := Lib.hid hS
  clear hS
  by_cases hI0 : i = 0
  · have fhI0 : (i == 0) = true := by rw [beq_iff_eq]; omega
    by_cases hT : t.size = 0
    · have fhT : (t.toList == []) = true := by rw [tl_empty]; exact decide_eq_true hT
      by_cases hL : ks.length = its.length
      · have fhL : (((ks.length : Nat) : Int) == ((its.length : Nat) : Int)) = true := by rw [beq_iff_eq]; omega
        by_cases hR : rising ks = true
        · have fhR : rising ks = true := by simpa using hR
          have key : okF (.mk 5 i t its ks) = true := by rw [okF_5]; simp [*]
          rw [key]
          clear hI0 hT hL hR key
          go_enter Try.func95, Try.ntmps95
          go_wp2
          go_quiet (fail)
          go_wp2
          go_quiet (fail)
          go_wp2_with fail
          refine (ascending_any _ _ _ _ (HS.out.below (below_drew (below_one _ _) _)) hkc hcm').mono ?_
          rintro e w' ⟨rfl, hb⟩
          have HB := Lib.hid ((below_drew (below_one _ _) _).trans (hb.mono (by simp)))
          clear hb
          rw [fhR]
          go_wp2
          go_ret
          exact ⟨rfl, HB.out⟩
        · have fhR : rising ks = false := by simpa using hR
          have key : okF (.mk 5 i t its ks) = false := by rw [okF_5]; simp [*]
          rw [key]
          clear hI0 hT hL hR key
          go_enter Try.func95, Try.ntmps95
          go_wp2
          go_quiet (fail)
          go_wp2
          go_quiet (fail)
          go_wp2_with fail
          refine (ascending_any _ _ _ _ (HS.out.below (below_drew (below_one _ _) _)) hkc hcm').mono ?_
          rintro e w' ⟨rfl, hb⟩
          have HB := Lib.hid ((below_drew (below_one _ _) _).trans (hb.mono (by simp)))
          clear hb
          rw [fhR]
          go_wp2
          go_ret
          exact ⟨rfl, HB.out⟩
      · have fhL : (((ks.length : Nat) : Int) == ((its.length : Nat) : Int)) = false := by rw [beq_eq_false_iff_ne]; omega
        have key : okF (.mk 5 i t its ks) = false := by rw [okF_5]; simp [*]
        rw [key]
        clear hI0 hT hL key
        go_enter Try.func95, Try.ntmps95
        go_wp2
        go_quiet (fail)
        go_wp2
        go_quiet (fail)
        go_wp2
        go_ret
        exact ⟨rfl, below_drew (below_one _ _) _⟩
    · have fhT : (t.toList == []) = false := by rw [tl_empty]; exact decide_eq_false hT
      have key : okF (.mk 5 i t its ks) = false := by rw [okF_5]; simp [*]
      rw [key]
      clear hI0 hT key
      go_enter Try.func95, Try.ntmps95
      go_wp2
      go_quiet (fail)
      go_wp2
      go_quiet (fail)
      go_wp2
      go_ret
      exact ⟨rfl, below_drew (below_one _ _) _⟩
  · have fhI0 : (i == 0) = false := by rw [beq_eq_false_iff_ne]; omega
    have key : okF (.mk 5 i t its ks) = false := by rw [okF_5]; simp [*]
    rw [key]
    clear hI0 key
    go_enter Try.func95, Try.ntmps95
    go_wp2
    go_quiet (fail)
    go_wp2
    go_quiet (fail)
    go_wp2
    go_ret
    exact ⟨rfl, below_drew (below_one _ _) _⟩

set_option maxHeartbeats 2000000 in
set_option linter.unusedVariables false in
theorem rf_6 (i : Int) (t : ByteArray) (its : List VT) (ks : List ByteArray) (A : Option Addr) (c : Nat) (A' : Option Addr) (c' : Nat) (w : World) (hS : LiesS w (Lo w) A' ks) (hkc : ks.length ≤ c') (hcm' : c' ≤ 9223372036854775807) :
    Calls Try.prog 95 #[vag 6 i t A its.length c A' ks.length c'] w (Gives (.bool (okF (.mk 6 i t its ks))) w) := by
  unfold vag
  have HS := Lib.hid hS
  clear hS
  by_cases hP : 0 ≤ i
  · have fhP : decide ((0 : Int) ≤ i) = true := decide_eq_true hP
    by_cases hT : t.size = 0
    · have fhT : (t.toList == []) = true := by rw [tl_empty]; exact decide_eq_true hT
      by_cases hN : its.length = 0
      · have fhN : (((its.length : Nat) : Int) == 0) = true := by rw [beq_iff_eq]; omega
        by_cases hK : ks.length = 0
        · have fhK : (((ks.length : Nat) : Int) == 0) = true := by rw [beq_iff_eq]; omega
          have key : okF (.mk 6 i t its ks) = true := by rw [okF_6]; simp [*]
          rw [key]
          clear hP hT hN hK key
          go_enter Try.func95, Try.ntmps95
          go_wp2
          go_quiet (fail)
          go_wp2
          go_quiet (fail)
          go_wp2
          go_ret
          exact ⟨rfl, below_drew (below_one _ _) _⟩
        · have fhK : (((ks.length : Nat) : Int) == 0) = false := by rw [beq_eq_false_iff_ne]; omega
          have key : okF (.mk 6 i t its ks) = false := by rw [okF_6]; simp [*]
          rw [key]
          clear hP hT hN hK key
          go_enter Try.func95, Try.ntmps95
          go_wp2
          go_quiet (fail)
          go_wp2
          go_quiet (fail)
          go_wp2
          go_ret
          exact ⟨rfl, below_drew (below_one _ _) _⟩
      · have fhN : (((its.length : Nat) : Int) == 0) = false := by rw [beq_eq_false_iff_ne]; omega
        have key : okF (.mk 6 i t its ks) = false := by rw [okF_6]; simp [*]
        rw [key]
        clear hP hT hN key
        go_enter Try.func95, Try.ntmps95
        go_wp2
        go_quiet (fail)
        go_wp2
        go_quiet (fail)
        go_wp2
        go_ret
        exact ⟨rfl, below_drew (below_one _ _) _⟩
    · have fhT : (t.toList == []) = false := by rw [tl_empty]; exact decide_eq_false hT
      have key : okF (.mk 6 i t its ks) = false := by rw [okF_6]; simp [*]
      rw [key]
      clear hP hT key
      go_enter Try.func95, Try.ntmps95
      go_wp2
      go_quiet (fail)
      go_wp2
      go_quiet (fail)
      go_wp2
      go_ret
      exact ⟨rfl, below_drew (below_one _ _) _⟩
  · have fhP : decide ((0 : Int) ≤ i) = false := decide_eq_false hP
    have key : okF (.mk 6 i t its ks) = false := by rw [okF_6]; simp [*]
    rw [key]
    clear hP key
    go_enter Try.func95, Try.ntmps95
    go_wp2
    go_quiet (fail)
    go_wp2
    go_quiet (fail)
    go_wp2
    go_ret
    exact ⟨rfl, below_drew (below_one _ _) _⟩

set_option maxHeartbeats 2000000 in
theorem rf_o (k i : Int) (t : ByteArray) (its : List VT) (ks : List ByteArray) (A : Option Addr) (c : Nat) (A' : Option Addr) (c' : Nat) (w : World) (hk : ¬ (0 ≤ k ∧ k ≤ 6)) :
    Calls Try.prog 95 #[vag k i t A its.length c A' ks.length c'] w (Gives (.bool (okF (.mk k i t its ks))) w) := by
  unfold vag
  have f0 : (k == 0) = false := by rw [beq_eq_false_iff_ne]; omega
  have f1 : (k == 1) = false := by rw [beq_eq_false_iff_ne]; omega
  have f2 : (k == 2) = false := by rw [beq_eq_false_iff_ne]; omega
  have f3 : (k == 3) = false := by rw [beq_eq_false_iff_ne]; omega
  have f4 : (k == 4) = false := by rw [beq_eq_false_iff_ne]; omega
  have f5 : (k == 5) = false := by rw [beq_eq_false_iff_ne]; omega
  have f6 : (k == 6) = false := by rw [beq_eq_false_iff_ne]; omega
  have key : okF (.mk k i t its ks) = false := by
    simp only [beq_eq_false_iff_ne] at f0 f1 f2 f3 f4 f5 f6
    simp [okF, VT.k, f0, f1, f2, f3, f4, f5, f6]
  rw [key]
  clear key hk
  go_enter Try.func95, Try.ntmps95
  go_wp2
  go_quiet (fail)
  go_wp2
  go_quiet (fail)
  go_wp2
  go_ret
  exact ⟨rfl, below_drew (below_one _ _) _⟩

theorem rf_any {x : VT} {v : Value} {w : World} (h : Lies w (Lo w) x v) : Calls Try.prog 95 #[v] w (Gives (.bool (okF x)) w) := by
  obtain ⟨k, i, t, its, ks⟩ := x
  obtain ⟨A, c, A', c', rfl, _, _, _, _, _, _, h1, h2, hS⟩ := h.open
  by_cases hk : 0 ≤ k ∧ k ≤ 6
  · obtain rfl | rfl | rfl | rfl | rfl | rfl | rfl : k = 0 ∨ k = 1 ∨ k = 2 ∨ k = 3 ∨ k = 4 ∨ k = 5 ∨ k = 6 := by omega
    · exact rf_0 i t its ks A c A' c' w hS h1 h2
    · exact rf_1 i t its ks A c A' c' w hS h1 h2
    · exact rf_2 i t its ks A c A' c' w hS h1 h2
    · exact rf_3 i t its ks A c A' c' w hS h1 h2
    · exact rf_4 i t its ks A c A' c' w hS h1 h2
    · exact rf_5 i t its ks A c A' c' w hS h1 h2
    · exact rf_6 i t its ks A c A' c' w hS h1 h2
  · exact rf_o k i t its ks A c A' c' w hk
end Go.Proofs.Ytjbjoalinfhahaa
namespace Go.Proofs.Ytjbjoalinfhahaa
open Go.RowKit

set_option maxHeartbeats 400000 in
theorem notFuture_any {x : VT} {v : Value} {w : World} (h : Lies w (Lo w) x v) : Calls Try.prog 70 #[v] w (Gives (.bool (noFut x)) w) := by
  obtain ⟨k, i, t, its, ks⟩ := x
  obtain ⟨A, c, A', c', rfl, _, _, _, _, _, _, _, _, _⟩ := h.open
  have e : noFut (.mk k i t its ks) = (k != 6) := by
    unfold noFut VT.k
    by_cases hk : k = 6 <;> simp [hk]
  rw [e]
  clear h e
  unfold vag
  go_enter Try.func70, Try.ntmps70
  go_wp2
  go_ret
  exact ⟨rfl, below_one _ _⟩

set_option maxHeartbeats 1000000 in
theorem everyRf_all (m : Nat) : ∀ (x : VT) (w : World) (v : Value), x.size ≤ m → Lies w (Lo w) x v → Calls Try.prog 69 #[v, .func (.func 95) #[] #[]] w (Gives (.bool (x.all okF)) w) := by
  induction m with
  | zero => intro x _ _ h; have := size_pos x; omega
  | succ m ih =>
    intro x w v hsz hv
    have hp := fun (w' : World) (hb : Below w.heap.size w w') => rf_any (hv.below hb)
    obtain ⟨k, i, t, its, ks⟩ := x
    obtain ⟨A, c, A', c', rfl, _, _, _, hlc, hcm, hL, _, _, _⟩ := hv.open
    rw [VT.size_mk] at hsz
    rw [VT.all_mk]
    generalize okF (.mk k i t its ks) = p0 at *
    have HL := Lib.hid hL
    have IH := Lib.hid ih
    have HP := Lib.hid hp
    clear hL ih hv hp
    obtain ⟨n, hn⟩ : ∃ n, n = its.length := ⟨_, rfl⟩
    rw [← hn] at hlc HP ⊢
    have HN := Lib.hid hn
    clear hn
    unfold vag at HP ⊢
    go_enter Try.func69, Try.ntmps69
    obtain ⟨w1, hw1⟩ : ∃ w1, w1 = w.alloc (.cells #[.int .i64 k, .int .i64 i, .string t, .slice A n c, .slice A' ks.length c'] 26) := ⟨_, rfl⟩
    have B0 : Hid (Below w.heap.size w w1) := Lib.hid (by rw [hw1]; exact below_one _ _)
    have HP1 := Lib.hid (HP.out w1 B0.out)
    have HW := Lib.hid hw1
    clear hw1 HP
    go_wp2_with fail
    rw [← HW.out]
    refine (HP1.out).mono ?_
    rintro e w2 ⟨rfl, hb⟩
    cases p0 with
    | false =>
      have HB := Lib.hid (below_next B0.out hb)
      clear hb
      go_wp2
      go_ret
      exact ⟨rfl, HB.out⟩
    | true =>
      have C3 : w2.cell? ⟨w.heap.size, 3, none⟩ = some (.slice A n c) := by
        rw [hb.cell (p := ⟨w.heap.size, 3, none⟩) (by rw [HW.out]; simp), HW.out, World.cell?_alloc_at _ _ _ _ rfl]; rfl
      have B2 := Lib.hid (below_next B0.out hb)
      clear hb
      go_wp2
      go_loopw [14, 6] (fun t _ wr => ∃ j : Nat, j ≤ n ∧ t = .int .i64 j ∧ Hid (alls okF (its.take j) = true) ∧ Hid (Below w2.heap.size w2 wr)) (fun t _ _ => n - (intOf t).toNat)
      case atStart => exact ⟨0, by omega, rfl, Lib.hid rfl, Lib.hid (Below.refl _ _)⟩
      case round =>
        obtain ⟨j, hjn, rfl, ha, hb⟩ := hrel
        by_cases hlt : j < n
        · obtain ⟨g, o, k', i', t', B, n', c1, B', n1, c2, rfl, hg, e0, e1, e2, e3, e4, hx⟩ := (HL.out).at_ (j := j) (x := its[j]'(by rw [← HN.out]; exact hlt)) (List.getElem?_eq_getElem _)
          have hj := alls_take (p := okF) (List.getElem?_eq_getElem (l := its) (i := j) (by rw [← HN.out]; exact hlt))
          have hle := size_at (List.getElem?_eq_getElem (l := its) (i := j) (by rw [← HN.out]; exact hlt))
          have hfl := fun h => alls_false (p := okF) (List.getElem?_eq_getElem (l := its) (i := j) (by rw [← HN.out]; exact hlt)) h
          have hb' : Below w.heap.size w wr := below_next B2.out hb.out
          have cc := fun (q : Nat) => hb'.cell (p := ⟨g, q, none⟩) hg
          rw [Nat.zero_add] at e0 e1 e2 e3 e4
          rw [← cc] at e0 e1 e2 e3 e4
          have hc := IH.out (its[j]'(by rw [← HN.out]; exact hlt)) (wr.alloc (.cells #[.int .i64 k', .int .i64 i', .string t', .slice B n' c1, .slice B' n1 c2] 26)) _ (by omega) (hx.below (hb'.alloc hb'.size _))
          generalize its[j]'(by rw [← HN.out]; exact hlt) = x at *
          have HC := Lib.hid hc
          rw [ha.out, Bool.true_and] at hj
          have HJ := Lib.hid hj
          have HF := Lib.hid hfl
          clear hc hx hb' cc C3 hj hfl
          unfold vag at HC
          go_wp2_with fail
          refine (HC.out).mono ?_
          rintro e w' ⟨rfl, hb2⟩
          have HB2 := Lib.hid (below_via hb.out hb2)
          clear hb2
          cases hxx : x.all okF with
          | true =>
            have HXX := Lib.hid hxx
            clear hxx
            go_wp2
            go_roundw
            case rel => exact ⟨j + 1, by omega, by go_num, Lib.hid (by rw [HJ.out, HXX.out]), HB2⟩
            case measure => simp [intOf]; omega
          | false =>
            have HXX := Lib.hid (HF.out hxx)
            clear hxx
            go_wp2
            go_ret
            exact ⟨ret_bool (by rw [Bool.true_and, HXX.out]), below_next B2.out HB2.out⟩
        · obtain rfl : j = n := by omega
          go_wp2
          go_ret
          refine ⟨ret_bool ?_, below_next B2.out hb.out⟩
          rw [Bool.true_and, ← ha.out, HN.out, List.take_length]
set_option maxHeartbeats 1000000 in
theorem everyNf_all (m : Nat) : ∀ (x : VT) (w : World) (v : Value), x.size ≤ m → Lies w (Lo w) x v → Calls Try.prog 69 #[v, .func (.func 70) #[] #[]] w (Gives (.bool (x.all noFut)) w) := by
  induction m with
  | zero => intro x _ _ h; have := size_pos x; omega
  | succ m ih =>
    intro x w v hsz hv
    have hp := fun (w' : World) (hb : Below w.heap.size w w') => notFuture_any (hv.below hb)
    obtain ⟨k, i, t, its, ks⟩ := x
    obtain ⟨A, c, A', c', rfl, _, _, _, hlc, hcm, hL, _, _, _⟩ := hv.open
    rw [VT.size_mk] at hsz
    rw [VT.all_mk]
    generalize noFut (.mk k i t its ks) = p0 at *
    have HL := Lib.hid hL
    have IH := Lib.hid ih
    have HP := Lib.hid hp
    clear hL ih hv hp
    obtain ⟨n, hn⟩ : ∃ n, n = its.length := ⟨_, rfl⟩
    rw [← hn] at hlc HP ⊢
    have HN := Lib.hid hn
    clear hn
    unfold vag at HP ⊢
    go_enter Try.func69, Try.ntmps69
    obtain ⟨w1, hw1⟩ : ∃ w1, w1 = w.alloc (.cells #[.int .i64 k, .int .i64 i, .string t, .slice A n c, .slice A' ks.length c'] 26) := ⟨_, rfl⟩
    have B0 : Hid (Below w.heap.size w w1) := Lib.hid (by rw [hw1]; exact below_one _ _)
    have HP1 := Lib.hid (HP.out w1 B0.out)
    have HW := Lib.hid hw1
    clear hw1 HP
    go_wp2_with fail
    rw [← HW.out]
    refine (HP1.out).mono ?_
    rintro e w2 ⟨rfl, hb⟩
    cases p0 with
    | false =>
      have HB := Lib.hid (below_next B0.out hb)
      clear hb
      go_wp2
      go_ret
      exact ⟨rfl, HB.out⟩
    | true =>
      have C3 : w2.cell? ⟨w.heap.size, 3, none⟩ = some (.slice A n c) := by
        rw [hb.cell (p := ⟨w.heap.size, 3, none⟩) (by rw [HW.out]; simp), HW.out, World.cell?_alloc_at _ _ _ _ rfl]; rfl
      have B2 := Lib.hid (below_next B0.out hb)
      clear hb
      go_wp2
      go_loopw [14, 6] (fun t _ wr => ∃ j : Nat, j ≤ n ∧ t = .int .i64 j ∧ Hid (alls noFut (its.take j) = true) ∧ Hid (Below w2.heap.size w2 wr)) (fun t _ _ => n - (intOf t).toNat)
      case atStart => exact ⟨0, by omega, rfl, Lib.hid rfl, Lib.hid (Below.refl _ _)⟩
      case round =>
        obtain ⟨j, hjn, rfl, ha, hb⟩ := hrel
        by_cases hlt : j < n
        · obtain ⟨g, o, k', i', t', B, n', c1, B', n1, c2, rfl, hg, e0, e1, e2, e3, e4, hx⟩ := (HL.out).at_ (j := j) (x := its[j]'(by rw [← HN.out]; exact hlt)) (List.getElem?_eq_getElem _)
          have hj := alls_take (p := noFut) (List.getElem?_eq_getElem (l := its) (i := j) (by rw [← HN.out]; exact hlt))
          have hle := size_at (List.getElem?_eq_getElem (l := its) (i := j) (by rw [← HN.out]; exact hlt))
          have hfl := fun h => alls_false (p := noFut) (List.getElem?_eq_getElem (l := its) (i := j) (by rw [← HN.out]; exact hlt)) h
          have hb' : Below w.heap.size w wr := below_next B2.out hb.out
          have cc := fun (q : Nat) => hb'.cell (p := ⟨g, q, none⟩) hg
          rw [Nat.zero_add] at e0 e1 e2 e3 e4
          rw [← cc] at e0 e1 e2 e3 e4
          have hc := IH.out (its[j]'(by rw [← HN.out]; exact hlt)) (wr.alloc (.cells #[.int .i64 k', .int .i64 i', .string t', .slice B n' c1, .slice B' n1 c2] 26)) _ (by omega) (hx.below (hb'.alloc hb'.size _))
          generalize its[j]'(by rw [← HN.out]; exact hlt) = x at *
          have HC := Lib.hid hc
          rw [ha.out, Bool.true_and] at hj
          have HJ := Lib.hid hj
          have HF := Lib.hid hfl
          clear hc hx hb' cc C3 hj hfl
          unfold vag at HC
          go_wp2_with fail
          refine (HC.out).mono ?_
          rintro e w' ⟨rfl, hb2⟩
          have HB2 := Lib.hid (below_via hb.out hb2)
          clear hb2
          cases hxx : x.all noFut with
          | true =>
            have HXX := Lib.hid hxx
            clear hxx
            go_wp2
            go_roundw
            case rel => exact ⟨j + 1, by omega, by go_num, Lib.hid (by rw [HJ.out, HXX.out]), HB2⟩
            case measure => simp [intOf]; omega
          | false =>
            have HXX := Lib.hid (HF.out hxx)
            clear hxx
            go_wp2
            go_ret
            exact ⟨ret_bool (by rw [Bool.true_and, HXX.out]), below_next B2.out HB2.out⟩
        · obtain rfl : j = n := by omega
          go_wp2
          go_ret
          refine ⟨ret_bool ?_, below_next B2.out hb.out⟩
          rw [Bool.true_and, ← ha.out, HN.out, List.take_length]
set_option maxHeartbeats 400000 in
theorem wf_any {x : VT} {v : Value} {w : World} (h : Lies w (Lo w) x v) : Calls Try.prog 68 #[v] w (Gives (.bool x.wf) w) := by
  have hc := everyRf_all x.size x (w.alloc (.cells v.cells 26)) v (Nat.le_refl _) (h.below (below_one _ _))
  unfold VT.wf
  obtain ⟨k, i, t, its, ks⟩ := x
  obtain ⟨A, c, A', c', rfl, _, _, _, _, _, _, _, _, _⟩ := h.open
  generalize (VT.mk k i t its ks).all okF = b at *
  unfold vag Value.cells at hc
  unfold vag
  have HC := Lib.hid hc
  clear hc h
  go_enter Try.func68, Try.ntmps68
  go_wp2_with fail
  refine (HC.out).mono ?_
  rintro e w' ⟨rfl, hb⟩
  have HB := Lib.hid (below_via (Below.refl _ _) hb)
  clear hb
  go_wp2
  go_ret
  exact ⟨rfl, HB.out⟩
end Go.Proofs.Ytjbjoalinfhahaa
