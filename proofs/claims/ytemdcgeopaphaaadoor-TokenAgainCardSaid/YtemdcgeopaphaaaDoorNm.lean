/-
  Names, run identifiers and keys, as functions on lists of bytes.
-/
import Derived.Lib.AtoiAll
import Derived.Lib.ItoaNum
import Derived.Lib.ItoaMem
namespace Go.Proofs.YtemdcgeopaphaaaDoor
open Go

theorem par10_app (m : List UInt8) : ∀ (l : List UInt8) (a v : Nat), Lib.parseUint10 a l = .ok v → Lib.parseUint10 a (l ++ m) = Lib.parseUint10 v m
  | [], a, v, h => by
    simp only [Lib.parseUint10] at h
    injection h with h
    subst h; rfl
  | c :: r, a, v, h => by
    rw [List.cons_append]
    simp only [Lib.parseUint10] at h ⊢
    split at h
    · rename_i h1
      rw [if_pos h1]
      split at h
      · cases h
      · rename_i h2
        rw [if_neg h2]
        split at h
        · cases h
        · rename_i h3
          rw [if_neg h3]
          exact par10_app m r _ v h
    · cases h
theorem dig_nat (d : Nat) (h : d < 10) : (UInt8.ofNat (48 + d)).toNat = 48 + d := by
  rw [UInt8.toNat_ofNat']
  omega
theorem par10_dec (u : Nat) : u < 18446744073709551616 → Lib.parseUint10 0 (Lib.decDigits u) = .ok u := by
  induction u using Nat.strongRecOn with
  | ind u ih =>
    intro hu
    rw [Lib.decDigits]
    split
    · rename_i h
      simp only [Lib.parseUint10, dig_nat u h]
      rw [if_pos (by omega), if_neg (by omega), if_neg (by omega)]
      congr 1; omega
    · rename_i h
      rw [par10_app _ _ _ _ (ih (u / 10) (by omega) (by omega))]
      simp only [Lib.parseUint10, dig_nat (u % 10) (by omega)]
      rw [if_pos (by omega), if_neg (by omega), if_neg (by omega)]
      congr 1; omega
theorem dec_all (u : Nat) : ∀ c ∈ Lib.decDigits u, 48 ≤ c.toNat ∧ c.toNat ≤ 57 := by
  induction u using Nat.strongRecOn with
  | ind u ih =>
    intro c hc
    rw [Lib.decDigits] at hc
    split at hc
    · rename_i h
      rw [List.mem_singleton.1 hc, dig_nat u h]; omega
    · rename_i h
      rcases List.mem_append.1 hc with h1 | h1
      · exact ih (u / 10) (by omega) c h1
      · rw [List.mem_singleton.1 h1, dig_nat (u % 10) (by omega)]; omega
theorem dec_cons (u : Nat) : ∃ c r, Lib.decDigits u = c :: r := by
  rw [Lib.decDigits]
  split
  · exact ⟨_, _, rfl⟩
  · cases Lib.decDigits (u / 10) with
    | nil => exact ⟨_, _, rfl⟩
    | cons c r => exact ⟨_, _, rfl⟩
theorem atoi_dec {u : Nat} (h : u < 9223372036854775808) : Lib.atoiAll (Lib.decDigits u) = .ok (u : Int) := by
  obtain ⟨c, r, e⟩ := dec_cons u
  have hc := dec_all u c (by rw [e]; exact List.mem_cons_self)
  have hp := par10_dec u (by omega)
  rw [e] at hp ⊢
  unfold Lib.atoiAll
  simp only
  rw [if_neg (by omega), show Lib.parseMag (c :: r) = .ok u from by unfold Lib.parseMag; rw [if_neg (by simp)]; exact hp]
  simp only
  rw [if_neg (by omega), if_neg (by omega), if_neg (by omega)]
theorem atoi_neg {u : Nat} (h1 : 1 ≤ u) (h : u ≤ 9223372036854775808) : Lib.atoiAll (45 :: Lib.decDigits u) = .ok (-(u : Int)) := by
  obtain ⟨c, r, e⟩ := dec_cons u
  have hp := par10_dec u (by omega)
  unfold Lib.atoiAll
  simp only
  rw [if_pos (by decide), show Lib.parseMag (Lib.decDigits u) = .ok u from by unfold Lib.parseMag; rw [if_neg (by rw [e]; simp)]; exact hp]
  simp only
  rw [if_neg (by simp), if_neg (by omega), if_pos (by decide)]
theorem atoi_itoa {n : Int} (h0 : -9223372036854775808 ≤ n) (h1 : n ≤ 9223372036854775807) : Lib.atoiAll (Lib.itoa n) = .ok n := by
  by_cases h : n < 0
  · obtain ⟨u, rfl⟩ : ∃ u : Nat, n = -(u : Int) := ⟨n.natAbs, by omega⟩
    rw [Lib.itoa_neg u (by omega)]
    exact atoi_neg (by omega) (by omega)
  · obtain ⟨u, rfl⟩ : ∃ u : Nat, n = (u : Int) := ⟨n.natAbs, by omega⟩
    rw [Lib.itoa_nonneg]
    exact atoi_dec (by omega)

/-- digits read loosely -/
def loose (l : List UInt8) : Int := l.foldl (fun a c => 10 * a + (c.toNat : Int) - 48) 0
theorem loose_snoc (l : List UInt8) (c : UInt8) : loose (l ++ [c]) = 10 * loose l + (c.toNat : Int) - 48 := by
  unfold loose
  rw [List.foldl_append]; rfl
theorem loose_dec (u : Nat) : loose (Lib.decDigits u) = u := by
  induction u using Nat.strongRecOn with
  | ind u ih =>
    rw [Lib.decDigits]
    split
    · rename_i h
      show 10 * 0 + ((UInt8.ofNat (48 + u)).toNat : Int) - 48 = u
      rw [dig_nat u h]; omega
    · rename_i h
      rw [loose_snoc, ih (u / 10) (by omega), dig_nat (u % 10) (by omega)]
      omega

/-- the identifier of the run n -/
def runS (n : Int) : List UInt8 := if n < 1 then [] else 114 :: Lib.itoa n
/-- n stands for a run -/
def InR (n : Int) : Prop := 1 ≤ n ∧ n ≤ 9223372036854775807
theorem runS_dec {n : Int} (h : InR n) : runS n = 114 :: Lib.decDigits n.toNat := by
  have h1 := h.1
  unfold runS
  rw [if_neg (by omega)]
  unfold Lib.itoa
  rw [if_neg (by omega)]
theorem runS_atoi {n : Int} (h : InR n) : Lib.atoiAll ((runS n).drop 1) = .ok n := by
  obtain ⟨h1, h2⟩ := h
  rw [runS_dec ⟨h1, h2⟩, List.drop_one, List.tail_cons, atoi_dec (by omega)]
  congr 1; omega
theorem runS_loose {n : Int} (h : InR n) : loose ((runS n).drop 1) = n := by
  obtain ⟨h1, h2⟩ := h
  rw [runS_dec ⟨h1, h2⟩, List.drop_one, List.tail_cons, loose_dec]
  omega
theorem nd_le : ∀ (k u : Nat), u < 10 ^ (k + 1) → Lib.nDigits u ≤ k + 1
  | 0, u, h => by rw [Lib.nDigits_small (by simpa using h)]; omega
  | k + 1, u, h => by
    by_cases hu : u < 10
    · rw [Lib.nDigits_small hu]; omega
    · rw [Lib.nDigits_big hu]
      have := nd_le k (u / 10) (Nat.div_lt_of_lt_mul (by rw [Nat.pow_succ, Nat.mul_comm] at h; exact h))
      omega
theorem runS_len {n : Int} (h : InR n) : (runS n).length ≤ 20 := by
  obtain ⟨h1, h2⟩ := h
  rw [runS_dec ⟨h1, h2⟩, List.length_cons, Lib.decDigits_length]
  have := nd_le 18 n.toNat (by omega)
  omega
theorem runS_inj {n m : Int} (h : InR n) (hm : InR m) (e : runS n = runS m) : n = m := by
  have := runS_loose h
  rw [e, runS_loose hm] at this
  exact this.symm
/-- what Number gives -/
def NumP (l : List UInt8) (v : Int) (b : Bool) : Prop := (b = true ∧ InR v ∧ runS v = l) ∨ (b = false ∧ v = 0 ∧ ∀ n, InR n → runS n ≠ l)
theorem NumP.one {l : List UInt8} {v v' : Int} {b b' : Bool} (h : NumP l v b) (h' : NumP l v' b') : v = v' ∧ b = b' := by
  rcases h with ⟨rfl, h1, h2⟩ | ⟨rfl, rfl, h2⟩ <;> rcases h' with ⟨rfl, h3, h4⟩ | ⟨rfl, rfl, h4⟩
  · exact ⟨runS_inj h1 h3 (h2.trans h4.symm), rfl⟩
  · exact absurd h2 (h4 _ h1)
  · exact absurd h4 (h2 _ h3)
  · exact ⟨rfl, rfl⟩

/-- what Split gives -/
def SplP (l u v : List UInt8) (b : Bool) : Prop := (b = true ∧ l = u ++ 47 :: v ∧ (47 : UInt8) ∉ u ∧ (47 : UInt8) ∉ v) ∨ (b = false ∧ u = [] ∧ v = [] ∧ ∀ x y, l = x ++ 47 :: y → (47 : UInt8) ∉ x → (47 : UInt8) ∈ y)
theorem cut_one : ∀ {u u' v v' : List UInt8}, u ++ (47 : UInt8) :: v = u' ++ 47 :: v' → (47 : UInt8) ∉ u → (47 : UInt8) ∉ u' → u = u' ∧ v = v'
  | [], [], v, v', e, _, _ => by injection e with _ e; exact ⟨rfl, e⟩
  | [], c :: r, v, v', e, _, h => by
    injection e with e _
    exact absurd (by rw [← e]; exact List.mem_cons_self) h
  | c :: r, [], v, v', e, h, _ => by
    injection e with e _
    exact absurd (by rw [e]; exact List.mem_cons_self) h
  | c :: r, c' :: r', v, v', e, h, h' => by
    injection e with e1 e2
    obtain ⟨h1, h2⟩ := cut_one e2 (fun m => h (List.mem_cons_of_mem _ m)) (fun m => h' (List.mem_cons_of_mem _ m))
    exact ⟨by rw [e1, h1], h2⟩
theorem SplP.one {l u v u' v' : List UInt8} {b b' : Bool} (h : SplP l u v b) (h' : SplP l u' v' b') : u = u' ∧ v = v' ∧ b = b' := by
  rcases h with ⟨rfl, h1, h2, h3⟩ | ⟨rfl, rfl, rfl, h3⟩ <;> rcases h' with ⟨rfl, k1, k2, k3⟩ | ⟨rfl, rfl, rfl, k3⟩
  · obtain ⟨e1, e2⟩ := cut_one (h1.symm.trans k1) h2 k2
    exact ⟨e1, e2, rfl⟩
  · exact absurd (k3 _ _ h1 h2) h3
  · exact absurd (h3 _ _ k1 k2) k3
  · exact ⟨rfl, rfl, rfl⟩

/-- names -/
def digB (c : UInt8) : Bool := decide (48 ≤ c.toNat ∧ c.toNat ≤ 57)
def wordB (c : UInt8) : Bool := decide (97 ≤ c.toNat ∧ c.toNat ≤ 122) || decide (65 ≤ c.toNat ∧ c.toNat ≤ 90) || decide (c.toNat = 95) || digB c
def nameB (l : List UInt8) : Bool := decide (1 ≤ l.length ∧ l.length ≤ 64) && !(digB (l.headD 48)) && l.all wordB
end Go.Proofs.YtemdcgeopaphaaaDoor
