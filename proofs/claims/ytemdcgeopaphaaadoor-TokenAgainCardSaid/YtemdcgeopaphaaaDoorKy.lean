/-
  The number that digits spell, and what the reference's number makes of them; plain mathematics.
-/
import Derived.Test.YtemdcgeopaphaaaDoorKu
namespace Go.Proofs.YtemdcgeopaphaaaDoor
open Go.RowKit

theorem dgt_nat (c : UInt8) : dgtT c = decide (48 ≤ c.toNat ∧ c.toNat ≤ 57) := rfl
def dval (a : Nat) (l : List UInt8) : Nat := l.foldl (fun a c => 10 * a + (c.toNat - 48)) a
theorem dval_snoc (a : Nat) (l : List UInt8) (c : UInt8) : dval a (l ++ [c]) = 10 * dval a l + (c.toNat - 48) := by
  unfold dval
  rw [List.foldl_append]; rfl
theorem dval_ge : ∀ (l : List UInt8) (a : Nat), a ≤ dval a l
  | [], a => Nat.le_refl _
  | c :: r, a => by
    have := dval_ge r (10 * a + (c.toNat - 48))
    show a ≤ dval (10 * a + (c.toNat - 48)) r
    omega
theorem par10_val : ∀ (l : List UInt8) (a : Nat), (∀ c ∈ l, dgtT c = true) → a < 18446744073709551616 → Lib.parseUint10 a l = if dval a l < 18446744073709551616 then .ok (dval a l) else .range
  | [], a, _, ha => by
    rw [show dval a [] = a from rfl, if_pos ha]; rfl
  | c :: r, a, h, ha => by
    have hc := h c List.mem_cons_self
    rw [dgt_nat, decide_eq_true_iff] at hc
    have hd : dval a (c :: r) = dval (10 * a + (c.toNat - 48)) r := rfl
    have hg := dval_ge r (10 * a + (c.toNat - 48))
    rw [hd]
    simp only [Lib.parseUint10]
    rw [if_pos hc]
    split
    · rw [if_neg (by omega)]
    · split
      · rw [if_neg (by omega)]
      · rw [show a * 10 + (c.toNat - 48) = 10 * a + (c.toNat - 48) by omega]
        exact par10_val r _ (fun x hx => h x (List.mem_cons_of_mem _ hx)) (by omega)
theorem atoi_digs {c : UInt8} {r : List UInt8} (h : ∀ x ∈ c :: r, dgtT x = true) : (∀ v, Lib.atoiAll (c :: r) = .ok v ↔ (dval 0 (c :: r) < 9223372036854775808 ∧ v = (dval 0 (c :: r) : Int))) := by
  intro v
  have hc := h c List.mem_cons_self
  rw [dgt_nat, decide_eq_true_iff] at hc
  have hp := par10_val (c :: r) 0 h (by decide)
  unfold Lib.atoiAll
  simp only
  rw [if_neg (by omega), show Lib.parseMag (c :: r) = Lib.parseUint10 0 (c :: r) from by unfold Lib.parseMag; rw [if_neg (by simp)], hp]
  split
  · simp at *
    rename_i heq
    split at heq <;> cases heq
  · rename_i heq
    split at heq
    · cases heq
    · rename_i hlt
      constructor
      · intro e; cases e
      · rintro ⟨h1, _⟩; omega
  · rename_i u heq
    split at heq
    · injection heq with heq
      subst heq
      by_cases h1 : 9223372036854775808 ≤ dval 0 (c :: r)
      · rw [if_pos ⟨by omega, h1⟩]
        constructor
        · intro e; cases e
        · rintro ⟨h2, _⟩; omega
      · rw [if_neg (by omega), if_neg (by omega), if_neg (by omega)]
        constructor
        · intro e; injection e with e; exact ⟨by omega, e.symm⟩
        · rintro ⟨_, rfl⟩; rfl
    · cases heq
theorem spn_all (p : UInt8 → Bool) : ∀ l : List UInt8, ∀ c ∈ l.take (spn p l), p c = true
  | [], c, h => by cases h
  | a :: r, c, h => by
    cases ha : p a with
    | false => rw [spn_no r ha] at h; cases h
    | true =>
      rw [spn_yes r ha, List.take_succ_cons] at h
      rcases List.mem_cons.1 h with h | h
      · rw [h]; exact ha
      · exact spn_all p r c h
theorem dval_take {l : List UInt8} {i : Nat} {c : UInt8} (h : l[i]? = some c) : dval 0 (l.take (i + 1)) = 10 * dval 0 (l.take i) + (c.toNat - 48) := by
  obtain ⟨hi, hv⟩ := List.getElem?_eq_some_iff.1 h
  rw [List.take_succ_eq_append_getElem hi, hv, dval_snoc]
theorem dval_mono (l : List UInt8) (i : Nat) : ∀ j, dval 0 (l.take i) ≤ dval 0 (l.take (i + j))
  | 0 => Nat.le_refl _
  | j + 1 => by
    have ih := dval_mono l i j
    cases h : l[i + j]? with
    | none =>
      have hn := List.getElem?_eq_none_iff.1 h
      rw [List.take_of_length_le (show l.length ≤ i + (j + 1) by omega)]
      rw [List.take_of_length_le hn] at ih
      exact ih
    | some c =>
      have := dval_take h
      rw [← Nat.add_assoc, this]
      omega
/-- too large at the digit i: too large as a whole -/
theorem int_over {l : List UInt8} {i : Nat} {c : UInt8} (hb : badT l = false) (hi : i < spn dgtT l) (h : l[i]? = some c) (ho : 9223372036854775807 < 10 * dval 0 (l.take i) + (c.toNat - 48)) : intT l = .err 14 := by
  have hm := dval_mono l (i + 1) (spn dgtT l - (i + 1))
  rw [show i + 1 + (spn dgtT l - (i + 1)) = spn dgtT l by omega, dval_take h] at hm
  unfold intT
  rw [if_neg (by rw [hb]; decide)]
  cases ht : l.take (spn dgtT l) with
  | nil =>
    have := congrArg List.length ht
    rw [List.length_take, List.length_nil] at this
    have := (List.getElem?_eq_some_iff.1 h).1
    omega
  | cons a r =>
    have hd := atoi_digs (c := a) (r := r) (by rw [← ht]; exact spn_all dgtT l)
    cases hA : Lib.atoiAll (a :: r) with
    | ok v => have := ((hd v).1 hA).1; rw [← ht] at this; omega
    | _ => rfl
/-- no digit was too large -/
theorem int_fits {l : List UInt8} (hb : badT l = false) (h0 : 0 < spn dgtT l) (hl : spn dgtT l ≤ l.length) (h : dval 0 (l.take (spn dgtT l)) ≤ 9223372036854775807) : intT l = .ok 3 [] (dval 0 (l.take (spn dgtT l))) (spn dgtT l) := by
  unfold intT
  rw [if_neg (by rw [hb]; decide)]
  cases ht : l.take (spn dgtT l) with
  | nil =>
    have := congrArg List.length ht
    rw [List.length_take, List.length_nil] at this
    omega
  | cons a r =>
    have hd := atoi_digs (c := a) (r := r) (by rw [← ht]; exact spn_all dgtT l)
    rw [ht] at h
    rw [(hd _).2 ⟨by omega, rfl⟩]
end Go.Proofs.YtemdcgeopaphaaaDoor
