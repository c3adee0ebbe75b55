/-
  The reference's parser: how its loop over digits goes on; plain mathematics.
-/
import Derived.Test.YtlgmhhimbabkjaaGreatDoorRn
import Derived.Test.YtlgmhhimbabkjaaGreatDoorMf
import Derived.Test.YtlgmhhimbabkjaaGreatDoorTe
namespace Go.Proofs.YtlgmhhimbabkjaaGreatDoor
open Go.RowKit

/-- the digits between F and q spell U -/
def DS (l : List UInt8) (F q U : Nat) : Prop := U = dval 0 ((l.drop F).take (q - F)) ∧ (∀ c ∈ (l.drop F).take (q - F), dig c = true) ∧ F ≤ q ∧ q ≤ l.length
theorem DS.start {l : List UInt8} {F : Nat} (h : F ≤ l.length) : DS l F F 0 := by
  refine ⟨?_, fun c hc => ?_, Nat.le_refl _, h⟩
  · rw [Nat.sub_self, List.take_zero]; rfl
  · rw [Nat.sub_self, List.take_zero] at hc; cases hc
theorem DS.step {l : List UInt8} {F q U : Nat} {x : UInt8} (h : DS l F q U) (hx : l[q]? = some x) (hd : dig x = true) : DS l F (q + 1) (10 * U + (x.toNat - 48)) := by
  obtain ⟨h1, h2, h3, h4⟩ := h
  have hl := (List.getElem?_eq_some_iff.1 hx).1
  have e : (l.drop F).take (q + 1 - F) = (l.drop F).take (q - F) ++ [x] := by
    have hx2 : (l.drop F)[q - F]? = some x := by rw [List.getElem?_drop, show F + (q - F) = q by omega]; exact hx
    obtain ⟨hi, hv⟩ := List.getElem?_eq_some_iff.1 hx2
    rw [show q + 1 - F = (q - F) + 1 by omega, List.take_succ_eq_append_getElem hi, hv]
  refine ⟨by rw [e, dval_snoc, ← h1], fun c hc => ?_, by omega, by omega⟩
  rw [e] at hc
  rcases List.mem_append.1 hc with h | h
  · exact h2 c h
  · rw [List.mem_singleton.1 h]; exact hd
/-- is it over, and else the number -/
def Ovi (ov : Bool) (z : Int) (U : Nat) : Prop := (ov = false ∧ z = -(U : Int) ∧ U ≤ 9223372036854775808) ∨ (ov = true ∧ 9223372036854775808 < U)
theorem num_pos {l : List UInt8} {i E U : Nat} (h : DS l i E U) (hE : i < E) : numE l i E = if U < 9223372036854775808 then .ok (U : Int) E else .err i 14 := by
  obtain ⟨h1, h2, h3, h4⟩ := h
  obtain ⟨c, r, e⟩ : ∃ c r, (l.drop i).take (E - i) = c :: r := by
    cases h : (l.drop i).take (E - i) with
    | nil => have := congrArg List.length h; rw [List.length_take, List.length_drop] at this; simp at this; omega
    | cons c r => exact ⟨c, r, rfl⟩
  rw [e] at h1 h2
  have ha := atoi_digs h2
  rw [← h1] at ha
  split
  · rename_i hu
    exact numE_ok (by rw [e]; exact (ha _).2 ⟨hu, rfl⟩)
  · rename_i hu
    exact numE_no (fun v hv => by rw [e] at hv; exact hu ((ha v).1 hv).1)
theorem num_min {l : List UInt8} {i E U : Nat} (hc : l[i]? = some 45) (h : DS l (i + 1) E U) (hE : i + 1 < E) : numE l i E = if U ≤ 9223372036854775808 then .ok (-(U : Int)) E else .err i 14 := by
  obtain ⟨h1, h2, h3, h4⟩ := h
  obtain ⟨c, r, e⟩ : ∃ c r, (l.drop (i + 1)).take (E - (i + 1)) = c :: r := by
    cases h : (l.drop (i + 1)).take (E - (i + 1)) with
    | nil => have := congrArg List.length h; rw [List.length_take, List.length_drop] at this; simp at this; omega
    | cons c r => exact ⟨c, r, rfl⟩
  obtain ⟨hi, hv⟩ := List.getElem?_eq_some_iff.1 hc
  have e2 : (l.drop i).take (E - i) = 45 :: c :: r := by
    rw [List.drop_eq_getElem_cons hi, hv, show E - i = (E - (i + 1)) + 1 by omega, List.take_succ_cons, e]
  rw [e] at h1 h2
  have ha := atoi_min h2
  rw [← h1] at ha
  split
  · rename_i hu
    exact numE_ok (by rw [e2]; exact (ha _).2 ⟨hu, rfl⟩)
  · rename_i hu
    exact numE_no (fun v hv => by rw [e2] at hv; exact hu ((ha v).1 hv).1)
/-- what the integer is, by the end of its digits -/
theorem int_pos {l : List UInt8} {i E : Nat} {c : UInt8} (hc : l[i]? = some c) (hd : dig c = true) (hE : run dig l i = E) (h48 : c = 48 → E ≤ i + 1) : intP l c (i + 1) = numE l i E := by
  have hr := (run_on hc hd).symm.trans hE
  unfold intP
  rw [if_neg (fun e => by rw [e] at hd; exact absurd hd (by decide))]
  rw [if_neg, Nat.add_sub_cancel, hr]
  rintro ⟨h1, h2⟩
  have h3 := h48 h1
  cases hx : l[i + 1]? with
  | none => rw [hx] at h2; cases h2
  | some x =>
    rw [hx] at h2
    have := run_on (p := dig) hx h2
    have hg := run_ge dig l (i + 1 + 1)
    omega
theorem int_min {l : List UInt8} {i E : Nat} {d : UInt8} (hc : l[i + 1]? = some d) (hd : dig d = true) (h48 : d ≠ 48) (hE : run dig l (i + 1) = E) : intP l 45 (i + 1) = numE l i E := by
  have hr := (run_on hc hd).symm.trans hE
  have h1 : dig1 d = true := by
    have h2 := hd
    rw [dig_nat9, decide_eq_true_iff] at h2
    have h3 : d.toNat ≠ 48 := fun e => h48 (UInt8.toNat_inj.1 e)
    unfold dig1
    rw [Bool.and_eq_true, decide_eq_true_iff, decide_eq_true_iff, UInt8.le_iff_toNat_le, UInt8.le_iff_toNat_le]
    exact ⟨by show 49 ≤ d.toNat; omega, by show d.toNat ≤ 57; omega⟩
  unfold intP
  rw [if_pos rfl, tkP_ok hc h1, PR.bind_ok, Nat.add_sub_cancel, hr]
theorem int_min_no {l : List UInt8} {i : Nat} {d : UInt8} (hc : l[i + 1]? = some d) (h : dig d = false ∨ d = 48) : intP l 45 (i + 1) = .err (i + 1) 3 := by
  unfold intP
  rw [if_pos rfl, tkP_no hc]
  · rfl
  · rcases h with h | rfl
    · rw [Bool.eq_false_iff]
      intro e
      unfold dig1 at e
      rw [Bool.and_eq_true, decide_eq_true_iff, decide_eq_true_iff, UInt8.le_iff_toNat_le, UInt8.le_iff_toNat_le] at e
      have e1 : (49 : UInt8).toNat = 49 := rfl
      have e2 : (57 : UInt8).toNat = 57 := rfl
      rw [dig_nat9, decide_eq_false_iff_not] at h
      omega
    · rfl
theorem int_min_short {l : List UInt8} {i : Nat} (hn : l.length ≤ i + 1) : intP l 45 (i + 1) = .err (i + 1) 4 := by
  unfold intP
  rw [if_pos rfl, tkP_none hn]; rfl
end Go.Proofs.YtlgmhhimbabkjaaGreatDoor
