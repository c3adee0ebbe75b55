/-
  slices.BinarySearch at strings, where the keys are ascending.
-/
import Derived.Test.YtlgmhhimbabkjaaGreatDoorVcp
namespace Go.Proofs.YtlgmhhimbabkjaaGreatDoor
open Go.RowKit

theorem rising_lt {ks : List ByteArray} (h : rising ks = true) : ∀ {j i : Nat}, i < j → j < ks.length → less (ks.getD i ByteArray.empty) (ks.getD j ByteArray.empty) = true := by
  have step : ∀ i, i + 1 < ks.length → less (ks.getD i ByteArray.empty) (ks.getD (i + 1) ByteArray.empty) = true := fun i hi => by
    unfold rising risingTo at h
    rw [List.all_eq_true] at h
    exact h i (List.mem_range.2 (by omega))
  intro j
  induction j with
  | zero => intro i h; omega
  | succ j ih =>
    intro i hij hj
    by_cases h1 : i = j
    · subst h1; exact step i hj
    · exact bl_trans _ _ _ (ih (by omega) (by omega)) (step j hj)
/-- where a key stands, or would stand -/
def Pos (ks : List ByteArray) (t : ByteArray) (p : Nat) : Prop := p ≤ ks.length ∧ (∀ q, q < p → less (ks.getD q ByteArray.empty) t = true) ∧ (∀ q, p ≤ q → q < ks.length → less (ks.getD q ByteArray.empty) t = false)
/-- is it there -/
def isAt (ks : List ByteArray) (t : ByteArray) (p : Nat) : Bool := decide (p < ks.length) && decide (ks.getD p ByteArray.empty = t)

set_option maxHeartbeats 400000 in
theorem lessStr_any (a b : ByteArray) (w : World) : Calls Tryz.prog 88 #[.string a, .string b] w (Says (.bool (less a b)) w) := by
  unfold less
  generalize hl : Op.bytesLess a.toList b.toList = r
  go_enter Tryz.func88, Tryz.ntmps88
  go_wp2
  go_ret
  exact ⟨rfl, rfl⟩
theorem isNaN_any (a : ByteArray) (w : World) : Calls Tryz.prog 89 #[.string a] w (Says (.bool false) w) := by
  go_enter Tryz.func89, Tryz.ntmps89
  go_wp2
  go_ret
  exact ⟨rfl, rfl⟩

set_option maxRecDepth 100000 in
set_option maxHeartbeats 2000000 in
theorem search_any (A : Option Addr) (c : Nat) (ks : List ByteArray) (t : ByteArray) (w : World) (hS : LiesS w (Lo w) A ks) (hn2 : ks.length ≤ 4611686018427387904) (hr : rising ks = true) :
    Calls Tryz.prog 73 #[.slice A ks.length c, .string t] w fun e w' => ∃ p, Pos ks t p ∧ e = .returned (.tuple #[.int .i64 (p : Nat), .bool (isAt ks t p)]) ∧ w = w' := by
  have HS := Lib.hid hS
  have HR := Lib.hid (fun (j i : Nat) (h : i < j) (h' : j < ks.length) => rising_lt hr h h')
  clear hS hr
  obtain ⟨n, hn⟩ : ∃ n, n = ks.length := ⟨_, rfl⟩
  rw [← hn] at hn2 ⊢
  have HN := Lib.hid hn
  clear hn
  go_enter Tryz.func73, Tryz.ntmps73
  go_wp2
  go_loopw [7, 8, 9] (fun x y _ wr => w = wr ∧ ∃ i j : Nat, x = .int .i64 i ∧ y = .int .i64 j ∧ i ≤ j ∧ j ≤ n ∧ Hid (∀ q, q < i → less (ks.getD q ByteArray.empty) t = true) ∧ Hid (∀ q, j ≤ q → q < n → less (ks.getD q ByteArray.empty) t = false)) (fun x y _ _ => (intOf y).toNat - (intOf x).toNat)
  case atStart => exact ⟨rfl, 0, n, rfl, rfl, by omega, by omega, Lib.hid (fun q h => by omega), Lib.hid (fun q h h' => by omega)⟩
  case round =>
    obtain ⟨rfl, i, j, rfl, rfl, hij, hjn, HL, HG⟩ := hrel
    by_cases hlt : i < j
    · have hh : (i + j) / 2 < n := by omega
      have hi2 : i ≤ (i + j) / 2 := by omega
      have hj2 : (i + j) / 2 < j := by omega
      obtain ⟨hks, g, o, rfl, hg, k0⟩ := HS.out.at_ (j := (i + j) / 2) (by rw [← HN.out]; exact hh)
      have HLT := Lib.hid (fun (h : less (ks.getD ((i + j) / 2) ByteArray.empty) t = true) (q : Nat) (hq : q < (i + j) / 2 + 1) => (by
        by_cases h1 : q = (i + j) / 2
        · subst h1; exact h
        · exact bl_trans _ _ _ (HR.out ((i + j) / 2) q (by omega) (by rw [← HN.out]; exact hh)) h : less (ks.getD q ByteArray.empty) t = true))
      have HGT := Lib.hid (fun (h : less (ks.getD ((i + j) / 2) ByteArray.empty) t = false) (q : Nat) (h1 : (i + j) / 2 ≤ q) (h2 : q < n) => (by
        by_cases h3 : q = (i + j) / 2
        · subst h3; exact h
        · cases h4 : less (ks.getD q ByteArray.empty) t with
          | false => rfl
          | true => rw [← h]; exact (bl_trans _ _ _ (HR.out q ((i + j) / 2) (by omega) (by rw [← HN.out]; exact h2)) h4).symm : less (ks.getD q ByteArray.empty) t = false))
      generalize ks.getD ((i + j) / 2) ByteArray.empty = s at *
      have HC := Lib.hid (lessStr_any s t w)
      cases hl : less s t with
      | true =>
        have HQ := Lib.hid (HLT.out hl)
        have HLL := Lib.hid hl
        clear hl
        go_wp2_with fail
        refine (HC.out).mono ?_
        rw [HLL.out]
        rintro e w' ⟨rfl, rfl⟩
        go_wp2
        go_roundw
        case rel => exact ⟨trivial, (i + j) / 2 + 1, j, by go_num, rfl, by omega, by omega, HQ, HG⟩
        case measure => simp [intOf]; omega
      | false =>
        have HQ := Lib.hid (HGT.out hl)
        have HLL := Lib.hid hl
        clear hl
        go_wp2_with fail
        refine (HC.out).mono ?_
        rw [HLL.out]
        rintro e w' ⟨rfl, rfl⟩
        go_wp2
        go_roundw
        case rel => exact ⟨trivial, i, (i + j) / 2, rfl, by go_num, by omega, by omega, HL, HQ⟩
        case measure => simp [intOf]; omega
    · obtain rfl : i = j := by omega
      have HP : Hid (Pos ks t i) := Lib.hid ⟨by rw [← HN.out]; exact hjn, HL.out, fun q h1 h2 => HG.out q h1 (by rw [HN.out]; exact h2)⟩
      by_cases hin : i < n
      · obtain ⟨hks, g, o, rfl, hg, k0⟩ := HS.out.at_ (j := i) (by rw [← HN.out]; exact hin)
        have t1 : decide ((i : Int) < (n : Int)) = true := decide_eq_true (by omega)
        have HY := Lib.hid (fun (h : ks.getD i ByteArray.empty = t) => (by unfold isAt; rw [decide_eq_true (by rw [← HN.out]; exact hin), decide_eq_true h]; rfl : isAt ks t i = true))
        have HX := Lib.hid (fun (h : ks.getD i ByteArray.empty ≠ t) => (by unfold isAt; rw [decide_eq_false h, Bool.and_false] : isAt ks t i = false))
        generalize ks.getD i ByteArray.empty = s at *
        have HC := Lib.hid (isNaN_any s w)
        by_cases hst : s = t
        · have HE := Lib.hid (HY.out hst)
          subst hst
          go_wp2_with fail
          go_ret2
          exact ⟨i, HP.out, by rw [HE.out]; rfl, rfl⟩
        · have HE := Lib.hid (HX.out hst)
          have t2 : (s.toList == t.toList) = false := by rw [beq_eq_false_iff_ne]; exact fun e => hst (str_inj e)
          clear hst
          go_wp2_with fail
          refine (HC.out).mono ?_
          rintro e w' ⟨rfl, rfl⟩
          go_wp2
          go_ret2
          exact ⟨i, HP.out, by rw [HE.out]; rfl, rfl⟩
      · have t1 : decide ((i : Int) < (n : Int)) = false := decide_eq_false (by omega)
        have HE : Hid (isAt ks t i = false) := Lib.hid (by unfold isAt; rw [decide_eq_false (by rw [← HN.out]; exact hin)]; rfl)
        go_wp2
        go_ret2
        exact ⟨i, HP.out, by rw [HE.out]; rfl, rfl⟩
end Go.Proofs.YtlgmhhimbabkjaaGreatDoor
