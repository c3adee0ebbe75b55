/-
  Ascending keys: ascending of the code, Rising of the reference.
-/
import Derived.Test.YtlgmhhimbabkjaaGreatDoorVsz
import Derived.Test.YtlgmhhimbabkjaaGreatDoorVpre
import Derived.WalkLawsBesides
import Derived.WalkSpells
import Derived.Deep.QuietTactic
import Derived.BigQuiet
namespace Go.Proofs.YtlgmhhimbabkjaaGreatDoor
open Go.RowKit

theorem LiesS.at_ {w : World} {R : Nat → Prop} {A : Option Addr} {ks : List ByteArray} {j : Nat} (h : LiesS w R A ks) (hj : j < ks.length) :
    (ks.getD j ByteArray.empty).size ≤ 9223372036854775807 ∧ ∃ g o, A = some ⟨g, o, none⟩ ∧ R g ∧ w.cell? ⟨g, o + j, none⟩ = some (.string (ks.getD j ByteArray.empty)) := by
  have e : ks[j]? = some (ks.getD j ByteArray.empty) := by rw [List.getD_eq_getElem?_getD, List.getElem?_eq_getElem hj]; rfl
  exact h j _ e

set_option maxHeartbeats 400000 in
theorem ascending_any (A : Option Addr) (c : Nat) (ks : List ByteArray) (w : World) (hS : LiesS w (Lo w) A ks) (hc : ks.length ≤ c) (hm : c ≤ 9223372036854775807) :
    Calls Tryz.prog 85 #[.slice A ks.length c] w (Gives (.bool (rising ks)) w) := by
  have HS := Lib.hid hS
  clear hS
  obtain ⟨n, hn⟩ : ∃ n, n = ks.length := ⟨_, rfl⟩
  rw [← hn] at hc ⊢
  have HN := Lib.hid hn
  clear hn
  go_enter Tryz.func85, Tryz.ntmps85
  go_wp2
  go_loopw [3] (fun t wr => ∃ j q : Nat, 1 ≤ j ∧ (j ≤ n ∨ j = 1) ∧ t = .int .i64 j ∧ wr = w.drewN q ∧ Hid (risingTo ks (j - 1) = true)) (fun t _ => n - (intOf t).toNat)
  case atStart => exact ⟨1, 0, by omega, by omega, rfl, rfl, Lib.hid rfl⟩
  case round =>
    obtain ⟨j, q, h1, hjn, rfl, rfl, hr⟩ := hrel
    by_cases hlt : j < n
    · obtain ⟨_, g, o, rfl, hg, e0⟩ := HS.out.at_ (j := j) (by rw [← HN.out]; exact hlt)
      obtain ⟨_, g', o', he, hg', e1⟩ := HS.out.at_ (j := j - 1) (by rw [← HN.out]; omega)
      injection he with he
      injection he with he1 he2
      subst he1 he2
      obtain ⟨i, rfl⟩ : ∃ i, j = i + 1 := ⟨j - 1, by omega⟩
      rw [show i + 1 - 1 = i by omega] at e1
      have hs := risingTo_succ ks i
      unfold less at hs
      rw [show i + 1 - 1 = i by omega] at hr
      rw [hr.out, Bool.true_and] at hs
      generalize ks.getD (i + 1) ByteArray.empty = y at *
      generalize ks.getD i ByteArray.empty = x at *
      rcases str_ways x y with ⟨s1, s2, s3, s4, _⟩ | ⟨he, s1, s2, s3, s4⟩ | ⟨s1, s2, s3, s4, _⟩
      · rw [s1] at hs
        have HR := Lib.hid hs
        clear hs hr
        go_wp2_with fail
        go_quiet (fail)
        go_wp2
        go_roundw
        case rel => exact ⟨i + 1 + 1, _, by omega, by omega, by go_num, rfl, Lib.hid (by simpa using HR.out)⟩
        case measure => simp [intOf]; omega
      · rw [s1] at hs
        have HR := Lib.hid (risingTo_false hs (m := ks.length - 1) (by rw [← HN.out]; omega))
        clear hs hr he
        go_wp2_with fail
        go_quiet (fail)
        go_wp2
        go_ret
        exact ⟨ret_bool HR.out.symm, below_drew (below_drew (Below.refl _ _) _) _⟩
      · rw [s1] at hs
        have HR := Lib.hid (risingTo_false hs (m := ks.length - 1) (by rw [← HN.out]; omega))
        clear hs hr
        go_wp2_with fail
        go_quiet (fail)
        go_wp2
        go_ret
        exact ⟨ret_bool HR.out.symm, below_drew (below_drew (Below.refl _ _) _) _⟩
    · have HR : Hid (rising ks = true) := Lib.hid (by
        unfold rising
        rcases hjn with hjn | hjn
        · rw [← HN.out, ← hr.out]; congr 1; omega
        · rw [← HN.out, ← hr.out]; congr 1; omega)
      go_wp2
      go_ret
      exact ⟨ret_bool HR.out.symm, below_drew (Below.refl _ _) _⟩
set_option maxHeartbeats 400000 in
theorem rising_any (A : Option Addr) (c : Nat) (ks : List ByteArray) (w : World) (hS : LiesS w (Lo w) A ks) (hc : ks.length ≤ c) (hm : c ≤ 9223372036854775807) :
    Calls Tryz.prog 58 #[.slice A ks.length c] w (Gives (.bool (rising ks)) w) := by
  have HS := Lib.hid hS
  clear hS
  obtain ⟨n, hn⟩ : ∃ n, n = ks.length := ⟨_, rfl⟩
  rw [← hn] at hc ⊢
  have HN := Lib.hid hn
  clear hn
  go_enter Tryz.func58, Tryz.ntmps58
  go_wp2
  go_loopw [3] (fun t wr => ∃ j q : Nat, 1 ≤ j ∧ (j ≤ n ∨ j = 1) ∧ t = .int .i64 j ∧ wr = w.drewN q ∧ Hid (risingTo ks (j - 1) = true)) (fun t _ => n - (intOf t).toNat)
  case atStart => exact ⟨1, 0, by omega, by omega, rfl, rfl, Lib.hid rfl⟩
  case round =>
    obtain ⟨j, q, h1, hjn, rfl, rfl, hr⟩ := hrel
    by_cases hlt : j < n
    · obtain ⟨_, g, o, rfl, hg, e0⟩ := HS.out.at_ (j := j) (by rw [← HN.out]; exact hlt)
      obtain ⟨_, g', o', he, hg', e1⟩ := HS.out.at_ (j := j - 1) (by rw [← HN.out]; omega)
      injection he with he
      injection he with he1 he2
      subst he1 he2
      obtain ⟨i, rfl⟩ : ∃ i, j = i + 1 := ⟨j - 1, by omega⟩
      rw [show i + 1 - 1 = i by omega] at e1
      have hs := risingTo_succ ks i
      unfold less at hs
      rw [show i + 1 - 1 = i by omega] at hr
      rw [hr.out, Bool.true_and] at hs
      generalize ks.getD (i + 1) ByteArray.empty = y at *
      generalize ks.getD i ByteArray.empty = x at *
      rcases str_ways x y with ⟨s1, s2, s3, s4, _⟩ | ⟨he, s1, s2, s3, s4⟩ | ⟨s1, s2, s3, s4, _⟩
      · rw [s1] at hs
        have HR := Lib.hid hs
        clear hs hr
        go_wp2_with fail
        go_quiet (fail)
        go_wp2
        go_roundw
        case rel => exact ⟨i + 1 + 1, _, by omega, by omega, by go_num, rfl, Lib.hid (by simpa using HR.out)⟩
        case measure => simp [intOf]; omega
      · rw [s1] at hs
        have HR := Lib.hid (risingTo_false hs (m := ks.length - 1) (by rw [← HN.out]; omega))
        clear hs hr he
        go_wp2_with fail
        go_quiet (fail)
        go_wp2
        go_ret
        exact ⟨ret_bool HR.out.symm, below_drew (below_drew (Below.refl _ _) _) _⟩
      · rw [s1] at hs
        have HR := Lib.hid (risingTo_false hs (m := ks.length - 1) (by rw [← HN.out]; omega))
        clear hs hr
        go_wp2_with fail
        go_quiet (fail)
        go_wp2
        go_ret
        exact ⟨ret_bool HR.out.symm, below_drew (below_drew (Below.refl _ _) _) _⟩
    · have HR : Hid (rising ks = true) := Lib.hid (by
        unfold rising
        rcases hjn with hjn | hjn
        · rw [← HN.out, ← hr.out]; congr 1; omega
        · rw [← HN.out, ← hr.out]; congr 1; omega)
      go_wp2
      go_ret
      exact ⟨ret_bool HR.out.symm, below_drew (Below.refl _ _) _⟩
end Go.Proofs.YtlgmhhimbabkjaaGreatDoor
