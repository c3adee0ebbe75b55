/-
  The number that digits spell, and how Atoi ends at them; plain mathematics.
-/
import Derived.Test.YtlgmhhimbabkjaaGreatDoorRd
namespace Go.Proofs.YtlgmhhimbabkjaaGreatDoor

def dval (a : Nat) (l : List UInt8) : Nat := l.foldl (fun a c => 10 * a + (c.toNat - 48)) a
theorem dval_snoc (a : Nat) (l : List UInt8) (c : UInt8) : dval a (l ++ [c]) = 10 * dval a l + (c.toNat - 48) := by
  unfold dval
  rw [List.foldl_append]; rfl
theorem dval_ge : ∀ (l : List UInt8) (a : Nat), a ≤ dval a l
  | [], a => Nat.le_refl _
  | c :: r, a => by
    have := dval_ge r (10 * a + (c.toNat - 48))
    show a ≤ dval (10 * a + (c.toNat - 48)) r
    omega
theorem par10_val : ∀ (l : List UInt8) (a : Nat), (∀ c ∈ l, dig c = true) → a < 18446744073709551616 → Lib.parseUint10 a l = if dval a l < 18446744073709551616 then .ok (dval a l) else .range
  | [], a, _, ha => by
    rw [show dval a [] = a from rfl, if_pos ha]; rfl
  | c :: r, a, h, ha => by
    have hc := h c List.mem_cons_self
    rw [dig_nat9, decide_eq_true_iff] at hc
    have hd : dval a (c :: r) = dval (10 * a + (c.toNat - 48)) r := rfl
    have hg := dval_ge r (10 * a + (c.toNat - 48))
    rw [hd]
    simp only [Lib.parseUint10]
    rw [if_pos hc]
    split
    · rw [if_neg (by omega)]
    · split
      · rw [if_neg (by omega)]
      · rw [show a * 10 + (c.toNat - 48) = 10 * a + (c.toNat - 48) by omega]
        exact par10_val r _ (fun x hx => h x (List.mem_cons_of_mem _ hx)) (by omega)
theorem atoi_digs {c : UInt8} {r : List UInt8} (h : ∀ x ∈ c :: r, dig x = true) : (∀ v, Lib.atoiAll (c :: r) = .ok v ↔ (dval 0 (c :: r) < 9223372036854775808 ∧ v = (dval 0 (c :: r) : Int))) := by
  intro v
  have hc := h c List.mem_cons_self
  rw [dig_nat9, decide_eq_true_iff] at hc
  have hp := par10_val (c :: r) 0 h (by decide)
  unfold Lib.atoiAll
  simp only
  rw [if_neg (by omega), show Lib.parseMag (c :: r) = Lib.parseUint10 0 (c :: r) from by unfold Lib.parseMag; rw [if_neg (by simp)], hp]
  split
  · simp at *
    rename_i heq
    split at heq <;> cases heq
  · rename_i heq
    split at heq
    · cases heq
    · rename_i hlt
      constructor
      · intro e; cases e
      · rintro ⟨h1, _⟩; omega
  · rename_i u heq
    split at heq
    · injection heq with heq
      subst heq
      by_cases h1 : 9223372036854775808 ≤ dval 0 (c :: r)
      · rw [if_pos ⟨by omega, h1⟩]
        constructor
        · intro e; cases e
        · rintro ⟨h2, _⟩; omega
      · rw [if_neg (by omega), if_neg (by omega), if_neg (by omega)]
        constructor
        · intro e; injection e with e; exact ⟨by omega, e.symm⟩
        · rintro ⟨_, rfl⟩; rfl
    · cases heq
theorem atoi_min {c : UInt8} {r : List UInt8} (h : ∀ x ∈ c :: r, dig x = true) : (∀ v, Lib.atoiAll (45 :: c :: r) = .ok v ↔ (dval 0 (c :: r) ≤ 9223372036854775808 ∧ v = -(dval 0 (c :: r) : Int))) := by
  intro v
  have hp := par10_val (c :: r) 0 h (by decide)
  unfold Lib.atoiAll
  simp only
  rw [if_pos (by decide), show Lib.parseMag (c :: r) = Lib.parseUint10 0 (c :: r) from by unfold Lib.parseMag; rw [if_neg (by simp)], hp]
  split
  · rename_i heq
    split at heq <;> cases heq
  · rename_i heq
    split at heq
    · cases heq
    · rename_i hlt
      constructor
      · intro e; cases e
      · rintro ⟨h1, _⟩; omega
  · rename_i u heq
    split at heq
    · injection heq with heq
      subst heq
      by_cases h1 : 9223372036854775808 < dval 0 (c :: r)
      · rw [if_neg (by simp), if_pos ⟨by decide, h1⟩]
        constructor
        · intro e; cases e
        · rintro ⟨h2, _⟩; omega
      · rw [if_neg (by simp), if_neg (by omega), if_pos (by decide)]
        constructor
        · intro e; injection e with e; exact ⟨by omega, e.symm⟩
        · rintro ⟨_, rfl⟩; rfl
    · cases heq
end Go.Proofs.YtlgmhhimbabkjaaGreatDoor
