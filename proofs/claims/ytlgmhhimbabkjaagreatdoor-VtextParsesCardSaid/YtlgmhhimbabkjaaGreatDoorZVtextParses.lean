/-
  VtextParses returns true for every input, and its arguments read afterwards as they read before: the walk and what is nearest to it.
-/
import Derived.Lib.AtoiAll
import Derived.Lib.ItoaNum
import Derived.Lib.ItoaMem
import Derived.Test.YtlgmhhimbabkjaaGreatDoorYGVtextParses
import Derived.Test.YtlgmhhimbabkjaaGreatDoorTq
import Derived.Test.YtlgmhhimbabkjaaGreatDoorTn
import Derived.Test.YtlgmhhimbabkjaaGreatDoorTc
import Derived.Lib.ItoaLen
import Derived.Test.YtlgmhhimbabkjaaGreatDoorMf
import Derived.Test.YtlgmhhimbabkjaaGreatDoorVcp
import Derived.Test.YtlgmhhimbabkjaaGreatDoorVsm
import Derived.Test.YtlgmhhimbabkjaaGreatDoorYFVtextParses
import Derived.Deep.CutRange
import Derived.Test.YtlgmhhimbabkjaaGreatDoorBytes
import Derived.ProofKit
import Derived.OpenShut
import Derived.ShutString
import Derived.ChangeOld
import Derived.Below
import Derived.Test.YtlgmhhimbabkjaaGreatDoorRows
import Derived.Stop.LaidErr
import Derived.Lib.LaidTab
import Derived.MakeChecks
import Derived.LaidMore
import Derived.LaidLaws
import Derived.Test.YtlgmhhimbabkjaaGreatDoorCards
import Derived.Test.YtlgmhhimbabkjaaGreatDoorTie
import Derived.Lay
import Derived.LaidOnce
import Derived.SevenTiedAt
namespace Go.Proofs.YtlgmhhimbabkjaaGreatDoor
open Go

theorem par10_app (m : List UInt8) : ∀ (l : List UInt8) (a v : Nat), Lib.parseUint10 a l = .ok v → Lib.parseUint10 a (l ++ m) = Lib.parseUint10 v m
  | [], a, v, h => by
    simp only [Lib.parseUint10] at h
    injection h with h
    subst h; rfl
  | c :: r, a, v, h => by
    rw [List.cons_append]
    simp only [Lib.parseUint10] at h ⊢
    split at h
    · rename_i h1
      rw [if_pos h1]
      split at h
      · cases h
      · rename_i h2
        rw [if_neg h2]
        split at h
        · cases h
        · rename_i h3
          rw [if_neg h3]
          exact par10_app m r _ v h
    · cases h
theorem dig_nat (d : Nat) (h : d < 10) : (UInt8.ofNat (48 + d)).toNat = 48 + d := by
  rw [UInt8.toNat_ofNat']
  omega
theorem par10_dec (u : Nat) : u < 18446744073709551616 → Lib.parseUint10 0 (Lib.decDigits u) = .ok u := by
  induction u using Nat.strongRecOn with
  | ind u ih =>
    intro hu
    rw [Lib.decDigits]
    split
    · rename_i h
      simp only [Lib.parseUint10, dig_nat u h]
      rw [if_pos (by omega), if_neg (by omega), if_neg (by omega)]
      congr 1; omega
    · rename_i h
      rw [par10_app _ _ _ _ (ih (u / 10) (by omega) (by omega))]
      simp only [Lib.parseUint10, dig_nat (u % 10) (by omega)]
      rw [if_pos (by omega), if_neg (by omega), if_neg (by omega)]
      congr 1; omega
theorem dec_all (u : Nat) : ∀ c ∈ Lib.decDigits u, 48 ≤ c.toNat ∧ c.toNat ≤ 57 := by
  induction u using Nat.strongRecOn with
  | ind u ih =>
    intro c hc
    rw [Lib.decDigits] at hc
    split at hc
    · rename_i h
      rw [List.mem_singleton.1 hc, dig_nat u h]; omega
    · rename_i h
      rcases List.mem_append.1 hc with h1 | h1
      · exact ih (u / 10) (by omega) c h1
      · rw [List.mem_singleton.1 h1, dig_nat (u % 10) (by omega)]; omega
theorem dec_cons (u : Nat) : ∃ c r, Lib.decDigits u = c :: r := by
  rw [Lib.decDigits]
  split
  · exact ⟨_, _, rfl⟩
  · cases Lib.decDigits (u / 10) with
    | nil => exact ⟨_, _, rfl⟩
    | cons c r => exact ⟨_, _, rfl⟩
theorem atoi_dec {u : Nat} (h : u < 9223372036854775808) : Lib.atoiAll (Lib.decDigits u) = .ok (u : Int) := by
  obtain ⟨c, r, e⟩ := dec_cons u
  have hc := dec_all u c (by rw [e]; exact List.mem_cons_self)
  have hp := par10_dec u (by omega)
  rw [e] at hp ⊢
  unfold Lib.atoiAll
  simp only
  rw [if_neg (by omega), show Lib.parseMag (c :: r) = .ok u from by unfold Lib.parseMag; rw [if_neg (by simp)]; exact hp]
  simp only
  rw [if_neg (by omega), if_neg (by omega), if_neg (by omega)]
theorem atoi_neg {u : Nat} (h1 : 1 ≤ u) (h : u ≤ 9223372036854775808) : Lib.atoiAll (45 :: Lib.decDigits u) = .ok (-(u : Int)) := by
  obtain ⟨c, r, e⟩ := dec_cons u
  have hp := par10_dec u (by omega)
  unfold Lib.atoiAll
  simp only
  rw [if_pos (by decide), show Lib.parseMag (Lib.decDigits u) = .ok u from by unfold Lib.parseMag; rw [if_neg (by rw [e]; simp)]; exact hp]
  simp only
  rw [if_neg (by simp), if_neg (by omega), if_pos (by decide)]
theorem atoi_itoa {n : Int} (h0 : -9223372036854775808 ≤ n) (h1 : n ≤ 9223372036854775807) : Lib.atoiAll (Lib.itoa n) = .ok n := by
  by_cases h : n < 0
  · obtain ⟨u, rfl⟩ : ∃ u : Nat, n = -(u : Int) := ⟨n.natAbs, by omega⟩
    rw [Lib.itoa_neg u (by omega)]
    exact atoi_neg (by omega) (by omega)
  · obtain ⟨u, rfl⟩ : ∃ u : Nat, n = (u : Int) := ⟨n.natAbs, by omega⟩
    rw [Lib.itoa_nonneg]
    exact atoi_dec (by omega)

/-- digits read loosely -/
def loose (l : List UInt8) : Int := l.foldl (fun a c => 10 * a + (c.toNat : Int) - 48) 0
theorem loose_snoc (l : List UInt8) (c : UInt8) : loose (l ++ [c]) = 10 * loose l + (c.toNat : Int) - 48 := by
  unfold loose
  rw [List.foldl_append]; rfl
theorem loose_dec (u : Nat) : loose (Lib.decDigits u) = u := by
  induction u using Nat.strongRecOn with
  | ind u ih =>
    rw [Lib.decDigits]
    split
    · rename_i h
      show 10 * 0 + ((UInt8.ofNat (48 + u)).toNat : Int) - 48 = u
      rw [dig_nat u h]; omega
    · rename_i h
      rw [loose_snoc, ih (u / 10) (by omega), dig_nat (u % 10) (by omega)]
      omega

/-- the identifier of the run n -/
def runS (n : Int) : List UInt8 := if n < 1 then [] else 114 :: Lib.itoa n
/-- n stands for a run -/
def InR (n : Int) : Prop := 1 ≤ n ∧ n ≤ 9223372036854775807
theorem runS_dec {n : Int} (h : InR n) : runS n = 114 :: Lib.decDigits n.toNat := by
  have h1 := h.1
  unfold runS
  rw [if_neg (by omega)]
  unfold Lib.itoa
  rw [if_neg (by omega)]
theorem runS_atoi {n : Int} (h : InR n) : Lib.atoiAll ((runS n).drop 1) = .ok n := by
  obtain ⟨h1, h2⟩ := h
  rw [runS_dec ⟨h1, h2⟩, List.drop_one, List.tail_cons, atoi_dec (by omega)]
  congr 1; omega
theorem runS_loose {n : Int} (h : InR n) : loose ((runS n).drop 1) = n := by
  obtain ⟨h1, h2⟩ := h
  rw [runS_dec ⟨h1, h2⟩, List.drop_one, List.tail_cons, loose_dec]
  omega
theorem nd_le : ∀ (k u : Nat), u < 10 ^ (k + 1) → Lib.nDigits u ≤ k + 1
  | 0, u, h => by rw [Lib.nDigits_small (by simpa using h)]; omega
  | k + 1, u, h => by
    by_cases hu : u < 10
    · rw [Lib.nDigits_small hu]; omega
    · rw [Lib.nDigits_big hu]
      have := nd_le k (u / 10) (Nat.div_lt_of_lt_mul (by rw [Nat.pow_succ, Nat.mul_comm] at h; exact h))
      omega
theorem runS_len {n : Int} (h : InR n) : (runS n).length ≤ 20 := by
  obtain ⟨h1, h2⟩ := h
  rw [runS_dec ⟨h1, h2⟩, List.length_cons, Lib.decDigits_length]
  have := nd_le 18 n.toNat (by omega)
  omega
theorem runS_inj {n m : Int} (h : InR n) (hm : InR m) (e : runS n = runS m) : n = m := by
  have := runS_loose h
  rw [e, runS_loose hm] at this
  exact this.symm
/-- what Number gives -/
def NumP (l : List UInt8) (v : Int) (b : Bool) : Prop := (b = true ∧ InR v ∧ runS v = l) ∨ (b = false ∧ v = 0 ∧ ∀ n, InR n → runS n ≠ l)
theorem NumP.one {l : List UInt8} {v v' : Int} {b b' : Bool} (h : NumP l v b) (h' : NumP l v' b') : v = v' ∧ b = b' := by
  rcases h with ⟨rfl, h1, h2⟩ | ⟨rfl, rfl, h2⟩ <;> rcases h' with ⟨rfl, h3, h4⟩ | ⟨rfl, rfl, h4⟩
  · exact ⟨runS_inj h1 h3 (h2.trans h4.symm), rfl⟩
  · exact absurd h2 (h4 _ h1)
  · exact absurd h4 (h2 _ h3)
  · exact ⟨rfl, rfl⟩

/-- what Split gives -/
def SplP (l u v : List UInt8) (b : Bool) : Prop := (b = true ∧ l = u ++ 47 :: v ∧ (47 : UInt8) ∉ u ∧ (47 : UInt8) ∉ v) ∨ (b = false ∧ u = [] ∧ v = [] ∧ ∀ x y, l = x ++ 47 :: y → (47 : UInt8) ∉ x → (47 : UInt8) ∈ y)
theorem cut_one : ∀ {u u' v v' : List UInt8}, u ++ (47 : UInt8) :: v = u' ++ 47 :: v' → (47 : UInt8) ∉ u → (47 : UInt8) ∉ u' → u = u' ∧ v = v'
  | [], [], v, v', e, _, _ => by injection e with _ e; exact ⟨rfl, e⟩
  | [], c :: r, v, v', e, _, h => by
    injection e with e _
    exact absurd (by rw [← e]; exact List.mem_cons_self) h
  | c :: r, [], v, v', e, h, _ => by
    injection e with e _
    exact absurd (by rw [e]; exact List.mem_cons_self) h
  | c :: r, c' :: r', v, v', e, h, h' => by
    injection e with e1 e2
    obtain ⟨h1, h2⟩ := cut_one e2 (fun m => h (List.mem_cons_of_mem _ m)) (fun m => h' (List.mem_cons_of_mem _ m))
    exact ⟨by rw [e1, h1], h2⟩
theorem SplP.one {l u v u' v' : List UInt8} {b b' : Bool} (h : SplP l u v b) (h' : SplP l u' v' b') : u = u' ∧ v = v' ∧ b = b' := by
  rcases h with ⟨rfl, h1, h2, h3⟩ | ⟨rfl, rfl, rfl, h3⟩ <;> rcases h' with ⟨rfl, k1, k2, k3⟩ | ⟨rfl, rfl, rfl, k3⟩
  · obtain ⟨e1, e2⟩ := cut_one (h1.symm.trans k1) h2 k2
    exact ⟨e1, e2, rfl⟩
  · exact absurd (k3 _ _ h1 h2) h3
  · exact absurd (h3 _ _ k1 k2) k3
  · exact ⟨rfl, rfl, rfl⟩

/-- names -/
def digB (c : UInt8) : Bool := decide (48 ≤ c.toNat ∧ c.toNat ≤ 57)
def wordB (c : UInt8) : Bool := decide (97 ≤ c.toNat ∧ c.toNat ≤ 122) || decide (65 ≤ c.toNat ∧ c.toNat ≤ 90) || decide (c.toNat = 95) || digB c
def nameB (l : List UInt8) : Bool := decide (1 ≤ l.length ∧ l.length ≤ 64) && !(digB (l.headD 48)) && l.all wordB
end Go.Proofs.YtlgmhhimbabkjaaGreatDoor
namespace Go.Proofs.YtlgmhhimbabkjaaGreatDoor
open Go.RowKit

/-- every integer of a value fits -/
def inF (x : VT) : Bool := decide (-9223372036854775808 ≤ x.i) && decide (x.i ≤ 9223372036854775807)
theorem ba_size (s : ByteArray) : s.data.toList.length = s.size := rfl
/-- all that a payload is, but its depth and its number of nodes -/
def goodF (x : VT) : Bool := okF x && (shortF x && (noFut x && inF x))
theorem alls_mem {p : VT → Bool} {l : List VT} {x : VT} (h : alls p l = true) (hx : x ∈ l) : x.all p = true := by
  obtain ⟨j, hj, rfl⟩ := List.getElem_of_mem hx
  exact all_at h (List.getElem?_eq_getElem hj)
theorem depths_mem {l : List VT} {x : VT} (hx : x ∈ l) : x.depth ≤ depths l := by
  obtain ⟨j, hj, rfl⟩ := List.getElem_of_mem hx
  exact depth_at (List.getElem?_eq_getElem hj)
theorem len_sizes (l : List VT) : l.length ≤ sizes l := by
  have := sizes_room l 0
  simp [sizes] at this
  exact this
theorem ba_nil {t : ByteArray} (h : t.size = 0) : t = ⟨#[]⟩ := by
  cases t with
  | mk d => cases d with | mk l => simp [ByteArray.size] at h; subst h; rfl
theorem good_mk {k i : Int} {t : ByteArray} {its : List VT} {ks : List ByteArray} (h1 : okF (.mk k i t its ks) = true) (h2 : t.size ≤ 4096) (h2k : ∀ s ∈ ks, s.size ≤ 4096) (h3 : k ≠ 6) (h4 : -9223372036854775808 ≤ i) (h5 : i ≤ 9223372036854775807) (h6 : alls goodF its = true) : (VT.mk k i t its ks).all goodF = true := by
  rw [VT.all_mk, h6, Bool.and_true]
  unfold goodF
  rw [h1, Bool.true_and]
  have e1 : shortF (.mk k i t its ks) = true := by
    unfold shortF
    simp only [Bool.and_eq_true, decide_eq_true_eq, List.all_eq_true]
    exact ⟨h2, h2k⟩
  have e2 : noFut (.mk k i t its ks) = true := by
    unfold noFut
    simp only [decide_eq_true_eq]
    exact h3
  have e3 : inF (.mk k i t its ks) = true := by
    unfold inF
    simp only [Bool.and_eq_true, decide_eq_true_eq]
    exact ⟨h4, h5⟩
  rw [e1, e2, e3]
  rfl

theorem alls_of {p : VT → Bool} : ∀ {l : List VT}, (∀ x ∈ l, x.all p = true) → alls p l = true
  | [], _ => by simp [alls]
  | x :: r, h => by
    rw [alls, h x List.mem_cons_self, alls_of fun y hy => h y (List.mem_cons_of_mem _ hy)]
    rfl
theorem size_mem {l : List VT} {x : VT} (hx : x ∈ l) : x.size ≤ sizes l := by
  obtain ⟨j, hj, rfl⟩ := List.getElem_of_mem hx
  exact size_at (List.getElem?_eq_getElem hj)
theorem all_mono {p q : VT → Bool} (hpq : ∀ x, p x = true → q x = true) : ∀ (m : Nat) (x : VT), x.size ≤ m → x.all p = true → x.all q = true
  | 0, x, h, _ => by have := size_pos x; omega
  | m + 1, .mk k i t its ks, h, hp => by
    rw [VT.size_mk] at h
    rw [VT.all_mk, Bool.and_eq_true] at hp ⊢
    exact ⟨hpq _ hp.1, alls_of fun x hx => all_mono hpq m x (by have := size_mem hx; omega) (alls_mem hp.2 hx)⟩
theorem all_good : ∀ (m : Nat) (x : VT), x.size ≤ m → x.all okF = true → x.all shortF = true → x.all noFut = true → x.all inF = true → x.all goodF = true
  | 0, x, h, _, _, _, _ => by have := size_pos x; omega
  | m + 1, .mk k i t its ks, h, h1, h2, h3, h4 => by
    rw [VT.size_mk] at h
    rw [VT.all_mk, Bool.and_eq_true] at h1 h2 h3 h4 ⊢
    refine ⟨?_, alls_of fun x hx => all_good m x (by have := size_mem hx; omega) (alls_mem h1.2 hx) (alls_mem h2.2 hx) (alls_mem h3.2 hx) (alls_mem h4.2 hx)⟩
    unfold goodF
    rw [h1.1, h2.1, h3.1, h4.1]
    rfl
theorem lies_in {w : World} {R : Nat → Prop} : ∀ (m : Nat) (x : VT) (v : Value), x.size ≤ m → Lies w R x v → x.all inF = true
  | 0, x, _, h, _ => by have := size_pos x; omega
  | m + 1, .mk k i t its ks, v, h, hv => by
    rw [VT.size_mk] at h
    obtain ⟨A, c, A', c', _, _, hi, _, _, _, hl, _, _, _⟩ := hv.open
    rw [VT.all_mk, Bool.and_eq_true]
    refine ⟨?_, alls_of fun x hx => ?_⟩
    · unfold inF
      simp only [Bool.and_eq_true, decide_eq_true_eq]
      exact hi
    · obtain ⟨j, hj, rfl⟩ := List.getElem_of_mem hx
      obtain ⟨_, _, _, _, _, _, _, _, _, _, _, _, _, _, _, _, _, _, hxl⟩ := hl.at_ (List.getElem?_eq_getElem hj)
      exact lies_in m _ _ (by have := size_mem hx; omega) hxl
/-- a payload, by its parts -/
theorem right_parts {x : VT} (h : x.right = true) : x.all okF = true ∧ x.all shortF = true ∧ x.all noFut = true ∧ x.depth ≤ 16 ∧ x.size ≤ 1000 := by
  unfold VT.right VT.wf VT.within at h
  simp only [Bool.and_eq_true, decide_eq_true_eq] at h
  exact ⟨h.1, h.2.1.1, h.2.2, h.2.1.2.1, h.2.1.2.2⟩
theorem right_good {x : VT} (h : x.all goodF = true) (hd : x.depth ≤ 16) (hs : x.size ≤ 1000) : x.right = true := by
  have g1 : ∀ y, goodF y = true → okF y = true := fun y hy => by unfold goodF at hy; simp only [Bool.and_eq_true] at hy; exact hy.1
  have g2 : ∀ y, goodF y = true → shortF y = true := fun y hy => by unfold goodF at hy; simp only [Bool.and_eq_true] at hy; exact hy.2.1
  have g3 : ∀ y, goodF y = true → noFut y = true := fun y hy => by unfold goodF at hy; simp only [Bool.and_eq_true] at hy; exact hy.2.2.1
  have h1 := all_mono g1 _ x (Nat.le_refl _) h
  have h2 := all_mono g2 _ x (Nat.le_refl _) h
  have h3 := all_mono g3 _ x (Nat.le_refl _) h
  unfold VT.right VT.wf VT.within
  rw [h1, h2, h3, decide_eq_true hd, decide_eq_true hs]
  rfl
theorem short_keys {k i : Int} {t : ByteArray} {its : List VT} {ks : List ByteArray} (h : shortF (.mk k i t its ks) = true) : t.size ≤ 4096 ∧ ∀ s ∈ ks, s.size ≤ 4096 := by
  unfold shortF at h
  simp only [Bool.and_eq_true, decide_eq_true_eq, List.all_eq_true] at h
  exact h

theorem good_kind {k i : Int} {t : ByteArray} {its : List VT} {ks : List ByteArray} (h5 : okF (.mk k i t its ks) = true) (h3 : k ≠ 6) : k = 0 ∨ k = 1 ∨ k = 2 ∨ k = 3 ∨ k = 4 ∨ k = 5 := by
  unfold okF at h5
  have e : (VT.mk k i t its ks).k = k := rfl
  rw [e] at h5
  by_cases k0 : k = 0
  · exact Or.inl k0
  by_cases k1 : k = 1
  · exact Or.inr (Or.inl k1)
  by_cases k2 : k = 2
  · exact Or.inr (Or.inr (Or.inl k2))
  by_cases k3 : k = 3
  · exact Or.inr (Or.inr (Or.inr (Or.inl k3)))
  by_cases k4 : k = 4
  · exact Or.inr (Or.inr (Or.inr (Or.inr (Or.inl k4))))
  by_cases k5 : k = 5
  · exact Or.inr (Or.inr (Or.inr (Or.inr (Or.inr k5))))
  rw [if_neg k0, if_neg k1, if_neg k2, if_neg k3, if_neg k4, if_neg k5, if_neg h3] at h5
  cases h5

/-- what follows is no digit -/
def ND (l : List UInt8) : Prop := ∀ c r, l = c :: r → dig c = false
theorem nd_cons {c : UInt8} {r : List UInt8} (h : dig c = false) : ND (c :: r) := fun _ _ e => by injection e with e _; rw [← e]; exact h
theorem nd_nil : ND [] := fun _ _ e => by cases e
theorem at_pre {l pre post : List UInt8} {c : UInt8} (h : l = pre ++ c :: post) : l[pre.length]? = some c := by subst h; simp
theorem skip_at {l pre post : List UInt8} {c : UInt8} (h : l = pre ++ c :: post) (hb : blk c = false) : skip l pre.length = pre.length := run_off (at_pre h) hb
theorem run_all (p : UInt8 → Bool) : ∀ (mid pre post : List UInt8), (∀ c ∈ mid, p c = true) → (∀ c r, post = c :: r → p c = false) → run p (pre ++ (mid ++ post)) pre.length = pre.length + mid.length
  | [], pre, post, _, h => by
    cases post with
    | nil => exact run_end (by simp)
    | cons c r => exact run_off (c := c) (by simp) (h c r rfl)
  | c :: mid, pre, post, h1, h2 => by
    have e : pre ++ (c :: mid ++ post) = (pre ++ [c]) ++ (mid ++ post) := by simp
    rw [run_on (c := c) (by simp) (h1 c List.mem_cons_self)]
    have ih := run_all p mid (pre ++ [c]) post (fun x hx => h1 x (List.mem_cons_of_mem _ hx)) h2
    rw [← e, List.length_append, List.length_singleton] at ih
    rw [ih, List.length_cons]
    omega
theorem wrd_ok : ∀ (w pre post : List UInt8), wrdP (pre ++ (w ++ post)) w pre.length = .ok () (pre.length + w.length)
  | [], _, _ => rfl
  | c :: r, pre, post => by
    have e : pre ++ (c :: r ++ post) = (pre ++ [c]) ++ (r ++ post) := by simp
    rw [wrdP, tkP_ok (c := c) (by simp) (by simp), PR.bind_ok]
    have ih := wrd_ok r (pre ++ [c]) post
    rw [← e, List.length_append, List.length_singleton] at ih
    rw [ih, List.length_cons, show pre.length + 1 + r.length = pre.length + (r.length + 1) by omega]
theorem lit_ok (s : ByteArray) (pre post : List UInt8) (h : s.size ≤ 4096) : litP (pre ++ (s.data.toList.flatMap escB ++ 34 :: post)) pre.length = .ok s (pre.length + (s.data.toList.flatMap escB).length + 1) := by
  have hl : s.data.toList.length ≤ (s.data.toList.flatMap escB).length := by
    have h1 := quoL_len s.data.toList
    have h2 : (quoL s.data.toList).length = (s.data.toList.flatMap escB).length + 2 := by unfold quoL; simp
    omega
  unfold litP
  rw [litL_quo (pre.length - 1) post s.data.toList pre [] _ (by rw [List.length_append, List.length_append]; omega), List.nil_append, if_pos (by rw [ba_size]; exact h), PR.bind_ok]

theorem dig_nat' {c : UInt8} : dig c = decide (48 ≤ c.toNat ∧ c.toNat ≤ 57) := by
  unfold dig
  rw [Bool.eq_iff_iff, Bool.and_eq_true, decide_eq_true_iff, decide_eq_true_iff, decide_eq_true_iff, UInt8.le_iff_toNat_le, UInt8.le_iff_toNat_le]
  exact Iff.rfl
theorem dig1_nat {c : UInt8} : dig1 c = decide (49 ≤ c.toNat ∧ c.toNat ≤ 57) := by
  unfold dig1
  rw [Bool.eq_iff_iff, Bool.and_eq_true, decide_eq_true_iff, decide_eq_true_iff, decide_eq_true_iff, UInt8.le_iff_toNat_le, UInt8.le_iff_toNat_le]
  exact Iff.rfl
theorem dec_digs (u : Nat) : ∀ c ∈ Lib.decDigits u, dig c = true := fun c hc => by rw [dig_nat']; exact decide_eq_true (dec_all u c hc)
theorem dec_first (u : Nat) : 1 ≤ u → ∃ c r, Lib.decDigits u = c :: r ∧ 49 ≤ c.toNat ∧ c.toNat ≤ 57 := by
  induction u using Nat.strongRecOn with
  | ind u ih =>
    intro hu
    rw [Lib.decDigits]
    split
    · rename_i h
      exact ⟨_, [], rfl, by rw [dig_nat u h]; omega, by rw [dig_nat u h]; omega⟩
    · rename_i h
      obtain ⟨c, r, e, h1, h2⟩ := ih (u / 10) (by omega) (by omega)
      rw [e]
      exact ⟨c, _, rfl, h1, h2⟩
theorem dec_zero : Lib.decDigits 0 = [48] := by rw [Lib.decDigits, dif_pos (by decide)]; rfl
theorem slice_mid (pre m post : List UInt8) : ((pre ++ (m ++ post)).drop pre.length).take (pre.length + m.length - pre.length) = m := by
  rw [List.drop_left, show pre.length + m.length - pre.length = m.length by omega, List.take_left]
theorem num_ok {pre m post : List UInt8} {v : Int} (h : Lib.atoiAll m = .ok v) : numE (pre ++ (m ++ post)) pre.length (pre.length + m.length) = .ok v (pre.length + m.length) := by
  unfold numE
  rw [slice_mid, h]
/-- the first byte of an integer, and what is read behind it -/
theorem int_ok {v : Int} (h0 : -9223372036854775808 ≤ v) (h1 : v ≤ 9223372036854775807) {post : List UInt8} (hp : ND post) : ∃ c r, Lib.itoa v = c :: r ∧ (c = 45 ∨ dig c = true) ∧ ∀ pre, intP (pre ++ (Lib.itoa v ++ post)) c (pre.length + 1) = .ok v (pre.length + (Lib.itoa v).length) := by
  have ha := atoi_itoa h0 h1
  by_cases hn : v < 0
  · obtain ⟨u, rfl⟩ : ∃ u : Nat, v = -(u : Int) := ⟨v.natAbs, by omega⟩
    rw [Lib.itoa_neg u (by omega)] at ha ⊢
    refine ⟨45, _, rfl, .inl rfl, fun pre => ?_⟩
    obtain ⟨d, r, e, e1, e2⟩ := dec_first u (by omega)
    have hd := dec_digs u
    rw [e] at ha hd ⊢
    have hl : pre ++ (45 :: d :: r ++ post) = (pre ++ [45, d]) ++ (r ++ post) := by simp
    unfold intP
    rw [if_pos rfl, tkP_ok (c := d) (by rw [show pre ++ (45 :: d :: r ++ post) = (pre ++ [45]) ++ d :: (r ++ post) by simp, show pre.length + 1 = (pre ++ [45]).length by simp]; simp) (by rw [dig1_nat]; exact decide_eq_true ⟨e1, e2⟩), PR.bind_ok]
    have hr := run_all dig r (pre ++ [45, d]) post (fun c hc => hd c (List.mem_cons_of_mem _ hc)) hp
    rw [← hl] at hr
    rw [show pre.length + 1 + 1 = (pre ++ [45, d]).length by simp, hr, Nat.add_sub_cancel, show (pre ++ [45, d]).length + r.length = pre.length + (45 :: d :: r).length by simp; omega]
    exact num_ok ha
  · obtain ⟨u, rfl⟩ : ∃ u : Nat, v = (u : Int) := ⟨v.natAbs, by omega⟩
    rw [Lib.itoa_nonneg] at ha ⊢
    obtain ⟨c, r, e⟩ := dec_cons u
    have hd := dec_digs u
    have hz : c = 48 → r = [] := fun hc => by
      rcases Nat.eq_zero_or_pos u with h | h
      · subst h
        rw [dec_zero] at e
        injection e with _ e
        exact e.symm
      · obtain ⟨d, q, e', e1, _⟩ := dec_first u h
        rw [e'] at e
        injection e with e _
        subst e hc
        exact absurd e1 (by decide)
    rw [e] at ha hd ⊢
    have hc := hd c List.mem_cons_self
    refine ⟨c, r, rfl, .inr hc, fun pre => ?_⟩
    have hl : pre ++ (c :: r ++ post) = (pre ++ [c]) ++ (r ++ post) := by simp
    unfold intP
    rw [if_neg (fun e => by rw [e] at hc; exact absurd hc (by decide))]
    rw [if_neg]
    · have hr := run_all dig r (pre ++ [c]) post (fun c hc => hd c (List.mem_cons_of_mem _ hc)) hp
      rw [← hl] at hr
      rw [show pre.length + 1 = (pre ++ [c]).length by simp, hr, show (pre ++ [c]).length - 1 = pre.length by simp, show (pre ++ [c]).length + r.length = pre.length + (c :: r).length by simp; omega]
      exact num_ok ha
    · rintro ⟨h48, h⟩
      have hr := hz h48
      subst hr
      rw [hl, List.nil_append, show pre.length + 1 = (pre ++ [c]).length by simp] at h
      cases post with
      | nil => simp at h
      | cons d q =>
        rw [at_pre rfl] at h
        have := hp d q rfl
        simp only [Option.elim] at h
        rw [this] at h
        cases h
end Go.Proofs.YtlgmhhimbabkjaaGreatDoor
namespace Go.Proofs.YtlgmhhimbabkjaaGreatDoor
open Go.RowKit

/-- val reads the texts of these values in l -/
def RdsT (l : List UInt8) (val : Nat → Nat → PR (VT × Nat)) (x : VT) : Prop :=
  ∀ (pre post : List UInt8) (n i : Nat), l = pre ++ (x.txt ++ post) → ND post → skip l i = pre.length → n + x.size ≤ 1000 → val i n = .ok (x, n + x.size) (pre.length + x.txt.length)
/-- the first byte of a text -/
def Opens (l : List UInt8) : Prop := ∃ c r, l = c :: r ∧ sta c = true ∧ blk c = false ∧ c ≠ 93 ∧ c ≠ 125
theorem opens_dig {c : UInt8} (h : c = 45 ∨ dig c = true) : sta c = true ∧ blk c = false ∧ c ≠ 93 ∧ c ≠ 125 := by
  rcases h with rfl | h
  · decide
  · have h2 := h
    rw [dig_nat', decide_eq_true_iff] at h2
    refine ⟨by unfold sta; rw [h]; simp, ?_, fun e => by subst e; exact absurd h (by decide), fun e => by subst e; exact absurd h (by decide)⟩
    unfold blk
    rw [Bool.eq_false_iff]
    intro e
    simp only [Bool.or_eq_true, beq_iff_eq] at e
    rcases e with ((e | e) | e) | e <;> (subst e; exact absurd h (by decide))
theorem txt_opens (x : VT) (hg : x.all goodF = true) : Opens x.txt := by
  obtain ⟨k, i, t, its, ks⟩ := x
  rw [VT.all_mk, Bool.and_eq_true] at hg
  obtain ⟨hg, _⟩ := hg
  unfold goodF inF at hg
  simp only [Bool.and_eq_true, decide_eq_true_eq] at hg
  have h4a : -9223372036854775808 ≤ i := hg.2.2.2.1
  have h4b : i ≤ 9223372036854775807 := hg.2.2.2.2
  rw [VT.txt_mk]
  repeat' split
  · unfold boolL
    split
    · exact ⟨116, _, rfl, by decide⟩
    · exact ⟨102, _, rfl, by decide⟩
  · obtain ⟨c, r, e, h, _⟩ := int_ok h4a h4b nd_nil
    exact ⟨c, r, e, opens_dig h⟩
  · exact ⟨34, _, rfl, by decide⟩
  · exact ⟨91, _, rfl, by decide⟩
  · exact ⟨123, _, rfl, by decide⟩
  · exact ⟨110, _, rfl, by decide⟩
theorem Opens.skip {m pre post : List UInt8} (h : Opens m) : skip (pre ++ (m ++ post)) pre.length = pre.length := by
  obtain ⟨c, r, rfl, _, hb, _⟩ := h
  exact skip_at (c := c) (post := r ++ post) (by simp) hb
theorem quo_opens (s : List UInt8) : Opens (quoL s) := ⟨34, _, rfl, by decide⟩
theorem tk_at {p : UInt8 → Bool} {l pre post : List UInt8} {c : UInt8} (h : l = pre ++ c :: post) (hp : p c = true) : tkP p l pre.length = .ok c (pre.length + 1) := tkP_ok (at_pre h) hp

theorem more_list {val : Nat → Nat → PR (VT × Nat)} {l post : List UInt8} : ∀ (r : List VT) (x : VT) (pre : List UInt8) (acc : List VT) (n f i : Nat) (ks : List ByteArray),
    (∀ y ∈ x :: r, RdsT l val y ∧ Opens y.txt) → l = pre ++ (x.txt ++ (txts false false r ks ++ 93 :: post)) → skip l i = pre.length → n + sizes (x :: r) ≤ 1000 → r.length < f →
    moreP (elL val) 93 l f i (acc, n) = .ok (acc ++ x :: r, n + sizes (x :: r)) (pre.length + x.txt.length + (txts false false r ks).length + 1)
  | [], x, pre, acc, n, f, i, ks, hr, hl, hi, hn, hf => by
    obtain ⟨g, rfl⟩ : ∃ g, f = g + 1 := ⟨f - 1, by simp at hf; omega⟩
    obtain ⟨hx, ho⟩ := hr x List.mem_cons_self
    have hl2 : l = pre ++ (x.txt ++ 93 :: post) := by rw [hl]; simp [txts]
    have hv := hx pre (93 :: post) n pre.length hl2 (nd_cons (by decide)) (by rw [hl2]; exact ho.skip) (by simp [sizes] at hn; omega)
    have hl3 : l = (pre ++ x.txt) ++ 93 :: post := by rw [hl2]; simp
    have hs := skip_at hl3 (by decide)
    have ht := tk_at (p := fun x => x == 44 || x == 93) hl3 (by decide)
    rw [List.length_append] at hs ht
    rw [moreP, hi]
    unfold elL
    rw [hv, PR.bind_ok, PR.bind_ok, hs, ht, PR.bind_ok, if_neg (by decide)]
    simp [sizes, txts]
  | y :: r, x, pre, acc, n, f, i, ks, hr, hl, hi, hn, hf => by
    obtain ⟨g, rfl⟩ : ∃ g, f = g + 1 := ⟨f - 1, by simp at hf; omega⟩
    obtain ⟨hx, ho⟩ := hr x List.mem_cons_self
    obtain ⟨_, ho2⟩ := hr y (List.mem_cons_of_mem _ List.mem_cons_self)
    have ht0 : txts false false (y :: r) ks = [44, 32] ++ (y.txt ++ txts false false r ks.tail) := by rw [txts]; simp
    rw [ht0] at hl
    have hl2 : l = pre ++ (x.txt ++ 44 :: (32 :: (y.txt ++ (txts false false r ks.tail ++ 93 :: post)))) := by rw [hl]; simp
    have hsz : sizes (x :: y :: r) = x.size + sizes (y :: r) := by rw [sizes]
    have hv := hx pre _ n pre.length hl2 (nd_cons (by decide)) (by rw [hl2]; exact ho.skip) (by omega)
    have hl3 : l = (pre ++ x.txt) ++ 44 :: (32 :: (y.txt ++ (txts false false r ks.tail ++ 93 :: post))) := by rw [hl2]; simp
    have hs := skip_at hl3 (by decide)
    have ht := tk_at (p := fun x => x == 44 || x == 93) hl3 (by decide)
    rw [List.length_append] at hs ht
    have hl4 : l = (pre ++ x.txt ++ [44, 32]) ++ (y.txt ++ (txts false false r ks.tail ++ 93 :: post)) := by rw [hl2]; simp
    have hs4 : skip l (pre.length + x.txt.length + 1) = (pre ++ x.txt ++ [44, 32]).length := by
      have h32 : l[pre.length + x.txt.length + 1]? = some 32 := by
        have e : l = (pre ++ x.txt ++ [44]) ++ 32 :: (y.txt ++ (txts false false r ks.tail ++ 93 :: post)) := by rw [hl2]; simp
        have := at_pre e
        have e_1 : (pre ++ x.txt ++ [44]).length = pre.length + x.txt.length + 1 := by simp <;> omega
        rw [e_1] at this
        exact this
      have hk : skip l (pre ++ x.txt ++ [44, 32]).length = (pre ++ x.txt ++ [44, 32]).length := by
        rw [hl4]; exact ho2.skip
      have e_2 : (pre ++ x.txt ++ [44, 32]).length = pre.length + x.txt.length + 1 + 1 := by simp <;> omega
      rw [e_2] at hk ⊢
      unfold skip
      rw [run_on h32 (by decide)]
      exact hk
    have ih := more_list r y (pre ++ x.txt ++ [44, 32]) (acc ++ [x]) (n + x.size) g _ ks.tail (fun z hz => hr z (List.mem_cons_of_mem _ hz)) hl4 hs4 (by omega) (by simp at hf; omega)
    rw [moreP, hi]
    unfold elL at ih ⊢
    rw [hv, PR.bind_ok, PR.bind_ok, hs, ht, PR.bind_ok, if_pos rfl, ih, ht0, hsz]
    simp [Nat.add_assoc, Nat.add_left_comm]
    omega

theorem posOf_last {ks kr : List ByteArray} {t : ByteArray} (h : rising (ks ++ t :: kr) = true) : Pos ks t ks.length := by
  refine ⟨Nat.le_refl _, fun q hq => ?_, fun q h1 h2 => absurd h1 (by omega)⟩
  have := rising_lt h (i := q) (j := ks.length) hq (by simp)
  have e1 : (ks ++ t :: kr).getD q ByteArray.empty = ks.getD q ByteArray.empty := by
    rw [List.getD_eq_getElem?_getD, List.getElem?_append_left hq, List.getD_eq_getElem?_getD]
  have e2 : (ks ++ t :: kr).getD ks.length ByteArray.empty = t := by
    rw [List.getD_eq_getElem?_getD, List.getElem?_append_right (Nat.le_refl _)]; simp
  rw [e1, e2] at this
  exact this
theorem rising_front {a b : List ByteArray} (h : rising (a ++ b) = true) : rising a = true := by
  refine rising_of fun i hi => ?_
  have := rising_lt h (i := i) (j := i + 1) (by omega) (by rw [List.length_append]; omega)
  rw [List.getD_eq_getElem?_getD, List.getElem?_append_left (by omega), List.getD_eq_getElem?_getD, List.getElem?_append_left (by omega)] at this
  rw [List.getD_eq_getElem?_getD, List.getD_eq_getElem?_getD]
  exact this
theorem el_map {val : Nat → Nat → PR (VT × Nat)} {l pre post : List UInt8} {x : VT} {key : ByteArray} {ks kr : List ByteArray} {its : List VT} {n : Nat} (hx : RdsT l val x) (ho : Opens x.txt)
    (hl : l = pre ++ (quoL key.data.toList ++ 58 :: (32 :: (x.txt ++ post)))) (hp : ND post) (hk : key.size ≤ 4096) (hr : rising (ks ++ key :: kr) = true) (hi : its.length = ks.length) (hn : n + x.size ≤ 1000) :
    elM l val (ks, its, n) pre.length = .ok (ks ++ [key], its ++ [x], n + x.size) (pre.length + (quoL key.data.toList).length + 2 + x.txt.length) := by
  have hpos := posOf_last hr
  have hdup : (ks.any fun q => decide (q = key)) = false := by
    rw [found_eq (rising_front hr) hpos]
    unfold isAt
    rw [decide_eq_false (by omega)]; rfl
  have hq : (quoL key.data.toList).length = (key.data.toList.flatMap escB).length + 2 := by unfold quoL; simp
  have hl2 : l = pre ++ 34 :: (key.data.toList.flatMap escB ++ 34 :: (58 :: (32 :: (x.txt ++ post)))) := by rw [hl]; unfold quoL; simp
  have hl3 : l = (pre ++ [34]) ++ (key.data.toList.flatMap escB ++ 34 :: (58 :: (32 :: (x.txt ++ post)))) := by rw [hl2]; simp
  have hlit := lit_ok key (pre ++ [34]) (58 :: (32 :: (x.txt ++ post))) hk
  rw [← hl3, List.length_append, List.length_singleton] at hlit
  have hj : pre.length + 1 + (key.data.toList.flatMap escB).length + 1 = (pre ++ quoL key.data.toList).length := by rw [List.length_append, hq]; omega
  have hl4 : l = (pre ++ quoL key.data.toList) ++ 58 :: (32 :: (x.txt ++ post)) := by rw [hl]; simp
  have hs4 := skip_at hl4 (by decide)
  have ht4 := tk_at (p := fun x => x == 58) hl4 (by decide)
  have hl5 : l = (pre ++ quoL key.data.toList ++ [58, 32]) ++ (x.txt ++ post) := by rw [hl]; simp
  have hs5 : skip l ((pre ++ quoL key.data.toList).length + 1) = (pre ++ quoL key.data.toList ++ [58, 32]).length := by
    have e : l = (pre ++ quoL key.data.toList ++ [58]) ++ 32 :: (x.txt ++ post) := by rw [hl]; simp
    have h32 := at_pre e
    have e_3 : (pre ++ quoL key.data.toList ++ [58]).length = (pre ++ quoL key.data.toList).length + 1 := by simp <;> omega
    rw [e_3] at h32
    have hk : skip l (pre ++ quoL key.data.toList ++ [58, 32]).length = (pre ++ quoL key.data.toList ++ [58, 32]).length := by
      rw [hl5]; exact ho.skip
    have e_4 : (pre ++ quoL key.data.toList ++ [58, 32]).length = (pre ++ quoL key.data.toList).length + 1 + 1 := by simp <;> omega
    rw [e_4] at hk ⊢
    unfold skip
    rw [run_on h32 (by decide)]
    exact hk
  have hv := hx _ post n _ hl5 hp hs5 hn
  unfold elM
  rw [tk_at hl2 (by decide), PR.bind_ok, hlit, PR.bind_ok]
  simp only
  rw [hdup, if_neg (by decide), hj, hs4, ht4, PR.bind_ok, hv, PR.bind_ok, posOf_eq hpos]
  unfold insAt
  rw [List.take_length, List.drop_length, ← hi, List.take_length, List.drop_length]
  congr 1
  simp
  omega
theorem more_map {val : Nat → Nat → PR (VT × Nat)} {l post : List UInt8} : ∀ (r : List VT) (x : VT) (key : ByteArray) (kr : List ByteArray) (pre : List UInt8) (kacc : List ByteArray) (acc : List VT) (n f i : Nat),
    (∀ y ∈ x :: r, RdsT l val y ∧ Opens y.txt) → l = pre ++ (quoL key.data.toList ++ 58 :: (32 :: (x.txt ++ (txts true false r kr ++ 125 :: post)))) → skip l i = pre.length → n + sizes (x :: r) ≤ 1000 → r.length < f →
    rising (kacc ++ key :: kr) = true → acc.length = kacc.length → kr.length = r.length → (∀ s ∈ key :: kr, s.size ≤ 4096) →
    moreP (elM l val) 125 l f i (kacc, acc, n) = .ok (kacc ++ key :: kr, acc ++ x :: r, n + sizes (x :: r)) (pre.length + (quoL key.data.toList).length + 2 + x.txt.length + (txts true false r kr).length + 1)
  | [], x, key, kr, pre, kacc, acc, n, f, i, hr, hl, hi, hn, hf, hris, hlen, hkr, hks => by
    obtain ⟨g, rfl⟩ : ∃ g, f = g + 1 := ⟨f - 1, by simp at hf; omega⟩
    obtain rfl := List.eq_nil_of_length_eq_zero hkr
    obtain ⟨hx, ho⟩ := hr x List.mem_cons_self
    have hl2 : l = pre ++ (quoL key.data.toList ++ 58 :: (32 :: (x.txt ++ 125 :: post))) := by rw [hl]; simp [txts]
    have he := el_map hx ho hl2 (nd_cons (by decide)) (hks key List.mem_cons_self) hris hlen (by simp [sizes] at hn; omega)
    have hl3 : l = (pre ++ quoL key.data.toList ++ [58, 32] ++ x.txt) ++ 125 :: post := by rw [hl2]; simp
    have hs := skip_at hl3 (by decide)
    have ht := tk_at (p := fun x => x == 44 || x == 125) hl3 (by decide)
    have e_5 : (pre ++ quoL key.data.toList ++ [58, 32] ++ x.txt).length = pre.length + (quoL key.data.toList).length + 2 + x.txt.length := by simp <;> omega
    rw [e_5] at hs ht
    rw [moreP, hi, he, PR.bind_ok, hs, ht, PR.bind_ok, if_neg (by decide)]
    simp [sizes, txts]
  | y :: r, x, key, kr, pre, kacc, acc, n, f, i, hr, hl, hi, hn, hf, hris, hlen, hkr, hks => by
    obtain ⟨g, rfl⟩ : ∃ g, f = g + 1 := ⟨f - 1, by simp at hf; omega⟩
    obtain ⟨key2, kr, rfl⟩ : ∃ a b, kr = a :: b := by
      cases kr with
      | nil => simp at hkr
      | cons a b => exact ⟨a, b, rfl⟩
    obtain ⟨hx, ho⟩ := hr x List.mem_cons_self
    have ht0 : txts true false (y :: r) (key2 :: kr) = [44, 32] ++ (quoL key2.data.toList ++ 58 :: (32 :: (y.txt ++ txts true false r kr))) := by rw [txts]; simp
    rw [ht0] at hl
    have hl2 : l = pre ++ (quoL key.data.toList ++ 58 :: (32 :: (x.txt ++ 44 :: (32 :: (quoL key2.data.toList ++ 58 :: (32 :: (y.txt ++ (txts true false r kr ++ 125 :: post)))))))) := by rw [hl]; simp
    have hsz : sizes (x :: y :: r) = x.size + sizes (y :: r) := by rw [sizes]
    have he := el_map (n := n) hx ho hl2 (nd_cons (by decide)) (hks key List.mem_cons_self) hris hlen (by omega)
    have hl3 : l = (pre ++ quoL key.data.toList ++ [58, 32] ++ x.txt) ++ 44 :: (32 :: (quoL key2.data.toList ++ 58 :: (32 :: (y.txt ++ (txts true false r kr ++ 125 :: post))))) := by rw [hl2]; simp
    have hs := skip_at hl3 (by decide)
    have ht := tk_at (p := fun x => x == 44 || x == 125) hl3 (by decide)
    have hl4 : l = (pre ++ quoL key.data.toList ++ [58, 32] ++ x.txt ++ [44, 32]) ++ (quoL key2.data.toList ++ 58 :: (32 :: (y.txt ++ (txts true false r kr ++ 125 :: post)))) := by rw [hl2]; simp
    have hs4 : skip l ((pre ++ quoL key.data.toList ++ [58, 32] ++ x.txt).length + 1) = (pre ++ quoL key.data.toList ++ [58, 32] ++ x.txt ++ [44, 32]).length := by
      have e : l = (pre ++ quoL key.data.toList ++ [58, 32] ++ x.txt ++ [44]) ++ 32 :: (quoL key2.data.toList ++ 58 :: (32 :: (y.txt ++ (txts true false r kr ++ 125 :: post)))) := by rw [hl2]; simp
      have h32 := at_pre e
      have e_6 : (pre ++ quoL key.data.toList ++ [58, 32] ++ x.txt ++ [44]).length = (pre ++ quoL key.data.toList ++ [58, 32] ++ x.txt).length + 1 := by simp <;> omega
      rw [e_6] at h32
      have hk : skip l (pre ++ quoL key.data.toList ++ [58, 32] ++ x.txt ++ [44, 32]).length = (pre ++ quoL key.data.toList ++ [58, 32] ++ x.txt ++ [44, 32]).length := by
        rw [hl4]; exact (quo_opens _).skip
      have e_7 : (pre ++ quoL key.data.toList ++ [58, 32] ++ x.txt ++ [44, 32]).length = (pre ++ quoL key.data.toList ++ [58, 32] ++ x.txt).length + 1 + 1 := by simp <;> omega
      rw [e_7] at hk ⊢
      unfold skip
      rw [run_on h32 (by decide)]
      exact hk
    have ih := more_map r y key2 kr (pre ++ quoL key.data.toList ++ [58, 32] ++ x.txt ++ [44, 32]) (kacc ++ [key]) (acc ++ [x]) (n + x.size) g _ (fun z hz => hr z (List.mem_cons_of_mem _ hz)) hl4 hs4 (by omega) (by simp at hf; omega) (by simpa using hris) (by simpa using hlen) (by simpa using hkr) (fun s h => hks s (List.mem_cons_of_mem _ h))
    have hle : (pre ++ quoL key.data.toList ++ [58, 32] ++ x.txt).length = pre.length + (quoL key.data.toList).length + 2 + x.txt.length := by simp; omega
    rw [moreP, hi, he, PR.bind_ok, ← hle, hs, ht, PR.bind_ok, if_pos rfl, ih, ht0, hsz]
    simp [Nat.add_assoc, Nat.add_left_comm]
    omega

theorem elems_list {val : Nat → Nat → PR (VT × Nat)} {l pre post : List UInt8} {its : List VT} {ks : List ByteArray} {n : Nat} (hr : ∀ y ∈ its, RdsT l val y ∧ Opens y.txt) (hl : l = pre ++ (txts false true its ks ++ 93 :: post)) (hn : n + sizes its ≤ 1000) :
    elemsP (elL val) 93 l pre.length ([], n) = .ok (its, n + sizes its) (pre.length + (txts false true its ks).length + 1) := by
  cases its with
  | nil =>
    have hl2 : l = pre ++ 93 :: post := by rw [hl]; simp [txts]
    unfold elemsP
    rw [skip_at hl2 (by decide), at_pre hl2]
    simp [sizes, txts]
  | cons x r =>
    have ht0 : txts false true (x :: r) ks = x.txt ++ txts false false r ks.tail := by rw [txts]; simp
    rw [ht0] at hl ⊢
    have hl2 : l = pre ++ (x.txt ++ (txts false false r ks.tail ++ 93 :: post)) := by rw [hl]; simp
    obtain ⟨c, q, hc, _, hb, h93, _⟩ := (hr x List.mem_cons_self).2
    have hl3 : l = pre ++ c :: (q ++ (txts false false r ks.tail ++ 93 :: post)) := by rw [hl2, hc]; simp
    have hs := skip_at hl3 hb
    have hm := more_list r x pre [] n (l.length + 1) pre.length ks.tail hr hl2 hs hn (by
      have h1 := len_sizes (x :: r)
      have h2 : r.length ≤ (txts false false r ks.tail).length := by
        have : ∀ (r : List VT) (ks : List ByteArray), r.length ≤ (txts false false r ks).length := fun r => by
          induction r with
          | nil => intro ks; simp
          | cons y r ih => intro ks; rw [txts]; have := ih ks.tail; simp; omega
        exact this r _
      rw [hl2]; simp; omega)
    unfold elemsP
    rw [hs, at_pre hl3]
    show (if c = 93 then _ else _) = _
    rw [if_neg h93, hm]
    simp [Nat.add_assoc]
theorem elems_map {val : Nat → Nat → PR (VT × Nat)} {l pre post : List UInt8} {its : List VT} {ks : List ByteArray} {n : Nat} (hr : ∀ y ∈ its, RdsT l val y ∧ Opens y.txt) (hl : l = pre ++ (txts true true its ks ++ 125 :: post)) (hn : n + sizes its ≤ 1000)
    (hk : ks.length = its.length) (hris : rising ks = true) (hks : ∀ s ∈ ks, s.size ≤ 4096) :
    elemsP (elM l val) 125 l pre.length ([], [], n) = .ok (ks, its, n + sizes its) (pre.length + (txts true true its ks).length + 1) := by
  cases its with
  | nil =>
    obtain rfl := List.eq_nil_of_length_eq_zero hk
    have hl2 : l = pre ++ 125 :: post := by rw [hl]; simp [txts]
    unfold elemsP
    rw [skip_at hl2 (by decide), at_pre hl2]
    simp [sizes, txts]
  | cons x r =>
    obtain ⟨key, kr, rfl⟩ : ∃ a b, ks = a :: b := by
      cases ks with
      | nil => simp at hk
      | cons a b => exact ⟨a, b, rfl⟩
    have ht0 : txts true true (x :: r) (key :: kr) = quoL key.data.toList ++ 58 :: (32 :: (x.txt ++ txts true false r kr)) := by rw [txts]; simp
    rw [ht0] at hl ⊢
    have hl2 : l = pre ++ (quoL key.data.toList ++ 58 :: (32 :: (x.txt ++ (txts true false r kr ++ 125 :: post)))) := by rw [hl]; simp
    have hl3 : l = pre ++ 34 :: (key.data.toList.flatMap escB ++ 34 :: (58 :: (32 :: (x.txt ++ (txts true false r kr ++ 125 :: post))))) := by rw [hl2]; unfold quoL; simp
    have hs := skip_at hl3 (by decide)
    have hm := more_map r x key kr pre [] [] n (l.length + 1) pre.length hr hl2 hs hn (by
      have h2 : r.length ≤ (txts true false r kr).length := by
        have : ∀ (r : List VT) (ks : List ByteArray), r.length ≤ (txts true false r ks).length := fun r => by
          induction r with
          | nil => intro ks; simp
          | cons y r ih => intro ks; rw [txts]; have := ih ks.tail; simp; omega
        exact this r _
      rw [hl2]; simp; omega) hris rfl (by simpa using hk) hks
    unfold elemsP
    rw [hs, at_pre hl3]
    show (if (34 : UInt8) = 125 then _ else _) = _
    rw [if_neg (by decide), hm]
    simp [Nat.add_assoc]
    omega

theorem valP_txt {l : List UInt8} : ∀ (f : Nat) (x : VT), x.all goodF = true → x.depth ≤ f → RdsT l (valP l f) x
  | 0, x, _, hd => by have := depth_pos x; omega
  | f + 1, .mk k i t its ks, hg0, hd => by
    intro pre post n i0 hl hp hsk hn
    have hop := txt_opens _ hg0
    have hg := hg0
    rw [VT.all_mk, Bool.and_eq_true] at hg
    obtain ⟨hg, hgs⟩ := hg
    rw [VT.depth_mk] at hd
    rw [VT.size_mk] at hn ⊢
    unfold goodF at hg
    simp only [Bool.and_eq_true] at hg
    obtain ⟨h1, h2, h3, h4⟩ := hg
    have ih : ∀ y ∈ its, RdsT l (valP l f) y ∧ Opens y.txt := fun y hy =>
      ⟨valP_txt f y (alls_mem hgs hy) (by have := depths_mem hy; omega), txt_opens y (alls_mem hgs hy)⟩
    have h2' := short_keys h2
    clear h2
    obtain ⟨h2, h2k⟩ := h2'
    unfold inF at h4
    simp only [Bool.and_eq_true, decide_eq_true_eq] at h4
    have h4a : -9223372036854775808 ≤ i := h4.1
    have h4b : i ≤ 9223372036854775807 := h4.2
    unfold noFut at h3
    have h3 : k ≠ 6 := of_decide_eq_true h3
    have hk := good_kind h1 h3
    obtain ⟨c, q, hc, hst, hb, _, _⟩ := hop
    have hl1 : l = pre ++ c :: (q ++ post) := by rw [hl, hc]; simp
    rw [valP, hsk, tk_at hl1 hst, PR.bind_ok, if_neg (by omega)]
    have hi1 : pre.length + 1 = (pre ++ [c]).length := by simp
    have hl5 : l = (pre ++ [c]) ++ (q ++ post) := by rw [hl1]; simp
    rw [VT.txt_mk] at hc hl ⊢
    rcases hk with rfl | rfl | rfl | rfl | rfl | rfl
    · rw [okF_0] at h1
      simp only [Bool.and_eq_true, decide_eq_true_eq] at h1
      obtain ⟨rfl, ht, hi, hks⟩ := h1
      obtain rfl := ba_nil ht
      obtain rfl := List.eq_nil_of_length_eq_zero hi
      obtain rfl := List.eq_nil_of_length_eq_zero hks
      have hc' : [110, 117, 108, 108] = c :: q := hc
      injection hc' with e1 e2
      subst e1 e2
      have hw := wrd_ok [117, 108, 108] (pre ++ [110]) post
      rw [← hl5] at hw
      rw [hi1]
      unfold bodP
      rw [if_pos rfl, hw, PR.bind_ok]
      simp [sizes]
      rfl
    · rw [okF_1] at h1
      simp only [Bool.and_eq_true, Bool.or_eq_true, decide_eq_true_eq] at h1
      obtain ⟨h01, ht, hi, hks⟩ := h1
      obtain rfl := ba_nil ht
      obtain rfl := List.eq_nil_of_length_eq_zero hi
      obtain rfl := List.eq_nil_of_length_eq_zero hks
      rcases h01 with rfl | rfl
      · have hc' : [102, 97, 108, 115, 101] = c :: q := hc
        injection hc' with e1 e2
        subst e1 e2
        have hw := wrd_ok [97, 108, 115, 101] (pre ++ [102]) post
        rw [← hl5] at hw
        rw [hi1]
        unfold bodP
        rw [if_neg (by decide), if_neg (by decide), if_pos rfl, hw, PR.bind_ok]
        simp [sizes, boolL]
      · have hc' : [116, 114, 117, 101] = c :: q := hc
        injection hc' with e1 e2
        subst e1 e2
        have hw := wrd_ok [114, 117, 101] (pre ++ [116]) post
        rw [← hl5] at hw
        rw [hi1]
        unfold bodP
        rw [if_neg (by decide), if_pos rfl, hw, PR.bind_ok]
        simp [sizes, boolL]
    · rw [okF_2] at h1
      simp only [Bool.and_eq_true, decide_eq_true_eq] at h1
      obtain ⟨ht, hi, hks⟩ := h1
      obtain rfl := ba_nil ht
      obtain rfl := List.eq_nil_of_length_eq_zero hi
      obtain rfl := List.eq_nil_of_length_eq_zero hks
      have hc' : Lib.itoa i = c :: q := hc
      obtain ⟨c', q', e, hcd, hint⟩ := int_ok h4a h4b hp
      rw [hc'] at e
      injection e with e1 e2
      subst e1 e2
      have hl' : l = pre ++ (Lib.itoa i ++ post) := hl
      have hint := hint pre
      rw [← hl'] at hint
      have ho := opens_dig hcd
      have hx : c ≠ 110 ∧ c ≠ 116 ∧ c ≠ 102 ∧ c ≠ 34 ∧ c ≠ 91 ∧ c ≠ 123 := by
        rcases hcd with rfl | hcd
        · decide
        · refine ⟨?_, ?_, ?_, ?_, ?_, ?_⟩ <;> (rintro rfl; exact absurd hcd (by decide))
      obtain ⟨x1, x2, x3, x4, x5, x6⟩ := hx
      unfold bodP
      rw [if_neg x1, if_neg x2, if_neg x3, if_neg x4, if_neg x5, if_neg x6, hint, PR.bind_ok]
      simp [sizes]
    · rw [okF_3] at h1
      simp only [Bool.and_eq_true, decide_eq_true_eq] at h1
      obtain ⟨rfl, hi, hks⟩ := h1
      obtain rfl := List.eq_nil_of_length_eq_zero hi
      obtain rfl := List.eq_nil_of_length_eq_zero hks
      have hc' : 34 :: (t.data.toList.flatMap escB ++ [34]) = c :: q := hc
      injection hc' with e1 e2
      subst e1 e2
      have hlit := lit_ok t (pre ++ [34]) post h2
      have hl6 : l = (pre ++ [34]) ++ (t.data.toList.flatMap escB ++ 34 :: post) := by rw [hl5]; simp
      rw [← hl6] at hlit
      rw [hi1]
      unfold bodP
      rw [if_neg (by decide), if_neg (by decide), if_neg (by decide), if_pos rfl, hlit, PR.bind_ok]
      simp [sizes, quoL]
      omega
    · rw [okF_4] at h1
      simp only [Bool.and_eq_true, decide_eq_true_eq] at h1
      obtain ⟨rfl, ht, hks⟩ := h1
      obtain rfl := ba_nil ht
      obtain rfl := List.eq_nil_of_length_eq_zero hks
      have hc' : 91 :: (txts false true its [] ++ [93]) = c :: q := hc
      injection hc' with e1 e2
      subst e1 e2
      have hl6 : l = (pre ++ [91]) ++ (txts false true its [] ++ 93 :: post) := by rw [hl5]; simp
      have he := elems_list (n := n + 1) ih hl6 (by omega)
      rw [hi1]
      unfold bodP
      rw [if_neg (by decide), if_neg (by decide), if_neg (by decide), if_neg (by decide), if_pos rfl, he, PR.bind_ok]
      simp [Nat.add_assoc]
      omega
    · rw [okF_5] at h1
      simp only [Bool.and_eq_true, decide_eq_true_eq] at h1
      obtain ⟨rfl, ht, hkl, hris⟩ := h1
      obtain rfl := ba_nil ht
      have hc' : 123 :: (txts true true its ks ++ [125]) = c :: q := hc
      injection hc' with e1 e2
      subst e1 e2
      have hl6 : l = (pre ++ [123]) ++ (txts true true its ks ++ 125 :: post) := by rw [hl5]; simp
      have he := elems_map (n := n + 1) ih hl6 (by omega) hkl hris h2k
      rw [hi1]
      unfold bodP
      rw [if_neg (by decide), if_neg (by decide), if_neg (by decide), if_neg (by decide), if_neg (by decide), if_pos rfl, he, PR.bind_ok]
      simp [Nat.add_assoc]
      omega
theorem skip_all : ∀ (b pre : List UInt8), (∀ c ∈ b, blk c = true) → skip (pre ++ b) pre.length = (pre ++ b).length := fun b pre h => by
  have := run_all blk b pre [] h (fun _ _ e => by cases e)
  rw [List.append_nil] at this
  rw [List.length_append]
  exact this
/-- a payload's text, with blanks around it, is read as the payload -/
theorem par_txt {x : VT} (hg : x.all goodF = true) (hd : x.depth ≤ 16) (hs : x.size ≤ 1000) (a b : List UInt8) (ha : ∀ c ∈ a, blk c = true) (hb : ∀ c ∈ b, blk c = true) : parP (a ++ (x.txt ++ b)) = .ok x (a ++ (x.txt ++ b)).length := by
  have ho := txt_opens x hg
  have hsk : skip (a ++ (x.txt ++ b)) 0 = a.length := by
    obtain ⟨c, r, e, _, hbk, _⟩ := ho
    have := run_all blk a [] (x.txt ++ b) ha (fun d q e2 => by rw [e] at e2; injection e2 with e2 _; rw [← e2]; exact hbk)
    have e0 : skip (a ++ (x.txt ++ b)) 0 = run blk ([] ++ (a ++ (x.txt ++ b))) ([] : List UInt8).length := rfl
    rw [e0, this]
    simp
  have hnd : ND b := fun c r e => by
    have := hb c (by rw [e]; exact List.mem_cons_self)
    cases h : dig c with
    | false => rfl
    | true => have := (opens_dig (.inr h)).2.1; simp_all
  have hv := valP_txt (l := a ++ (x.txt ++ b)) 16 x hg hd a b 0 0 rfl hnd hsk (by omega)
  have he := skip_all b (a ++ x.txt) hb
  rw [List.append_assoc, List.length_append] at he
  unfold parP
  rw [hv, PR.bind_ok, he, if_pos rfl]
end Go.Proofs.YtlgmhhimbabkjaaGreatDoor
namespace Go.Proofs.YtlgmhhimbabkjaaGreatDoor
open Go.RowKit

/-! ### bytes and nodes -/
def klen (ks : List ByteArray) : Nat := (ks.map ByteArray.size).sum
mutual
def VT.bw : VT → Nat
  | .mk _ _ t its ks => 1 + t.size + klen ks + bws its
def bws : List VT → Nat
  | [] => 0
  | x :: r => x.bw + bws r
end
theorem VT.bw_mk (k i : Int) (t : ByteArray) (its : List VT) (ks : List ByteArray) : (VT.mk k i t its ks).bw = 1 + t.size + klen ks + bws its := by rw [VT.bw]
theorem bws_append (a b : List VT) : bws (a ++ b) = bws a + bws b := by
  induction a with
  | nil => simp [bws]
  | cons x r ih => simp [bws, ih]; omega
theorem klen_append (a b : List ByteArray) : klen (a ++ b) = klen a + klen b := by unfold klen; simp
theorem klen_cons (s : ByteArray) (r : List ByteArray) : klen (s :: r) = s.size + klen r := by unfold klen; simp
theorem ins_sizes (p : Nat) (x : VT) (l : List VT) : sizes (insAt p x l) = sizes l + x.size := by
  unfold insAt
  have := sizes_append (l.take p) (l.drop p)
  rw [List.take_append_drop] at this
  rw [sizes_append, sizes, this]; omega
theorem ins_bws (p : Nat) (x : VT) (l : List VT) : bws (insAt p x l) = bws l + x.bw := by
  unfold insAt
  have := bws_append (l.take p) (l.drop p)
  rw [List.take_append_drop] at this
  rw [bws_append, bws, this]; omega
theorem ins_klen (p : Nat) (s : ByteArray) (l : List ByteArray) : klen (insAt p s l) = klen l + s.size := by
  unfold insAt
  have := klen_append (l.take p) (l.drop p)
  rw [List.take_append_drop] at this
  rw [klen_append, klen_cons, this]; omega
theorem ins_depths (p : Nat) (x : VT) (l : List VT) : depths (insAt p x l) = max (depths l) x.depth := by
  unfold insAt
  have := depths_append (l.take p) (l.drop p)
  rw [List.take_append_drop] at this
  rw [depths_append, depths, this]; omega
theorem ins_mem {α : Type} {p : Nat} {x y : α} {l : List α} (h : y ∈ insAt p x l) : y = x ∨ y ∈ l := by
  unfold insAt at h
  rcases List.mem_append.1 h with h | h
  · exact .inr (List.mem_of_mem_take h)
  · rcases List.mem_cons.1 h with h | h
    · exact .inl h
    · exact .inr (List.mem_of_mem_drop h)
theorem ins_alls {q : VT → Bool} (p : Nat) {x : VT} {l : List VT} (hl : alls q l = true) (hx : x.all q = true) : alls q (insAt p x l) = true :=
  alls_of fun y hy => by
    rcases ins_mem hy with rfl | h
    · exact hx
    · exact alls_mem hl h
theorem pos_of {ks : List ByteArray} (hr : rising ks = true) (t : ByteArray) : Pos ks t (posOf ks t) := by
  have gen : ∀ l : List ByteArray, (∀ q, q < (l.takeWhile fun q => less q t).length → less (l.getD q ByteArray.empty) t = true) ∧ ((l.takeWhile fun q => less q t).length < l.length → less (l.getD (l.takeWhile fun q => less q t).length ByteArray.empty) t = false) ∧ (l.takeWhile fun q => less q t).length ≤ l.length := fun l => by
    induction l with
    | nil => exact ⟨fun q hq => by simp at hq, fun h => by simp at h, by simp⟩
    | cons a r ih =>
      obtain ⟨h1, h2, h3⟩ := ih
      cases ha : less a t with
      | true =>
        rw [List.takeWhile_cons, if_pos ha]
        refine ⟨fun q hq => ?_, fun h => ?_, by simpa using h3⟩
        · cases q with
          | zero => exact ha
          | succ q => rw [List.getD_cons_succ]; exact h1 q (by simpa using hq)
        · rw [List.length_cons, List.getD_cons_succ]; exact h2 (by simpa using h)
      | false =>
        rw [List.takeWhile_cons, if_neg (by rw [ha]; simp)]
        exact ⟨fun q hq => by simp at hq, fun _ => ha, by simp⟩
  obtain ⟨h1, h2, h3⟩ := gen ks
  refine ⟨h3, h1, fun q hq hl => ?_⟩
  have hp : (ks.takeWhile fun q => less q t).length < ks.length := by
    have : posOf ks t ≤ q := hq
    have e : posOf ks t = (ks.takeWhile fun q => less q t).length := rfl
    omega
  rcases Nat.lt_or_ge (ks.takeWhile fun q => less q t).length q with h | h
  · cases hc : less (ks.getD q ByteArray.empty) t with
    | false => rfl
    | true =>
      have h4 : less (ks.getD (ks.takeWhile fun q => less q t).length ByteArray.empty) t = true := bl_trans _ _ _ (rising_lt hr h hl) hc
      rw [h2 hp] at h4; cases h4
  · have e : q = (ks.takeWhile fun q => less q t).length := by
      have : posOf ks t ≤ q := hq
      have e : posOf ks t = (ks.takeWhile fun q => less q t).length := rfl
      omega
    rw [e]; exact h2 hp

/-! ### what is read -/
theorem litL_wt {l : List UInt8} {a : Nat} : ∀ {f i : Nat} {o r : List UInt8} {j : Nat}, litL l a f i o = .ok r j → i + r.length + 1 ≤ j + o.length ∧ r.length ≤ 4096
  | 0, _, _, _, _, e => by cases e
  | f + 1, i, o, r, j, e => by
    cases hc : l[i]? with
    | none => rw [litL_none (List.getElem?_eq_none_iff.1 hc)] at e; cases e
    | some c =>
      by_cases hq : c = 34
      · subst hq
        rw [litL_quote hc] at e
        split at e
        · injection e with e1 e2
          subst e1
          rename_i h
          exact ⟨by omega, h⟩
        · cases e
      · rw [litL_char hc hq] at e
        cases hx : chrP l i with
        | err j c => rw [hx, PR.bind_err] at e; cases e
        | ok y q =>
          rw [hx, PR.bind_ok] at e
          have h1 := (chrP_to hx).1
          have h2 := litL_wt e
          rw [List.length_append, List.length_singleton] at h2
          exact ⟨by omega, h2.2⟩
theorem bind_of {α β : Type} {r : PR α} {f : α → Nat → PR β} {b : β} {j : Nat} (h : r.bind f = .ok b j) : ∃ a k, r = .ok a k ∧ f a k = .ok b j := by
  cases r with
  | ok a k => exact ⟨a, k, rfl, h⟩
  | err k c => cases h
theorem litP_wt {l : List UInt8} {i j : Nat} {s : ByteArray} (h : litP l i = .ok s j) : i + s.size + 1 ≤ j ∧ s.size ≤ 4096 := by
  obtain ⟨o, k, h1, h2⟩ := bind_of h
  injection h2 with h2 h3
  subst h2 h3
  have h4 := litL_wt h1
  have e : (⟨o.toArray⟩ : ByteArray).size = o.length := by simp [ByteArray.size]
  rw [e]
  simp at h4
  omega
theorem intP_rg {l : List UInt8} {c : UInt8} {i j : Nat} {v : Int} (h : intP l c i = .ok v j) : (-9223372036854775808 ≤ v ∧ v ≤ 9223372036854775807) ∧ i ≤ j := by
  refine ⟨?_, intP_mono l c i v j h⟩
  have hn : ∀ {a k : Nat}, numE l a k = .ok v j → -9223372036854775808 ≤ v ∧ v ≤ 9223372036854775807 := fun {a k} e => by
    unfold numE at e
    split at e
    · rename_i x hx
      injection e with e _
      subst e
      exact Lib.atoiAll_bounds hx
    · cases e
  unfold intP at h
  split at h
  · obtain ⟨_, _, _, h2⟩ := bind_of h
    exact hn h2
  · split at h
    · cases h
    · exact hn h
theorem more_inv {σ : Type} {P : σ → Nat → Prop} {el : σ → Nat → PR σ} {e : UInt8} {l : List UInt8} (hm : ∀ s i j, P s i → i ≤ j → P s j) (he : ∀ s i s' j, P s i → el s i = .ok s' j → P s' j) : ∀ (f i : Nat) (s : σ) (s' : σ) (j : Nat), P s i → moreP el e l f i s = .ok s' j → P s' j
  | 0, _, _, _, _, _, h => by cases h
  | f + 1, i, s, s', j, hp, h => by
    rw [moreP] at h
    obtain ⟨s2, k, h1, h2⟩ := bind_of h
    obtain ⟨c, k2, h3, h4⟩ := bind_of h2
    have hp2 := he _ _ _ _ (hm _ _ _ hp (skip_ge l i)) h1
    have hk := tkP_mono _ _ _ _ _ h3
    have hk2 := skip_ge l k
    have hp3 := hm _ _ k2 hp2 (by omega)
    split at h4
    · exact more_inv hm he f k2 s2 s' j hp3 h4
    · injection h4 with e1 e2
      subst e1 e2
      exact hp3
theorem elems_inv {σ : Type} {P : σ → Nat → Prop} {el : σ → Nat → PR σ} {e : UInt8} {l : List UInt8} (hm : ∀ s i j, P s i → i ≤ j → P s j) (he : ∀ s i s' j, P s i → el s i = .ok s' j → P s' j) {i : Nat} {s s' : σ} {j : Nat} (hp : P s i) (h : elemsP el e l i s = .ok s' j) : P s' j := by
  unfold elemsP at h
  have hp2 := hm _ _ _ hp (skip_ge l i)
  split at h
  · cases h
  · split at h
    · injection h with e1 e2
      subst e1 e2
      exact hm _ _ _ hp2 (Nat.le_succ _)
    · exact more_inv hm he _ _ _ _ _ hp2 h

/-- what is known of a value that was read between i and j: so many nodes had begun, so many have -/
def Good (k n m i j : Nat) (x : VT) : Prop := x.all goodF = true ∧ x.depth ≤ k ∧ m = n + x.size ∧ m ≤ 1000 ∧ i + x.bw ≤ j
def PL (k n i : Nat) (s : List VT × Nat) (p : Nat) : Prop := alls goodF s.1 = true ∧ depths s.1 ≤ k ∧ s.2 = n + sizes s.1 ∧ s.2 ≤ 1000 ∧ i + bws s.1 ≤ p
def PM (k n i : Nat) (s : List ByteArray × List VT × Nat) (p : Nat) : Prop := alls goodF s.2.1 = true ∧ depths s.2.1 ≤ k ∧ s.2.2 = n + sizes s.2.1 ∧ s.2.2 ≤ 1000 ∧ i + bws s.2.1 + klen s.1 ≤ p ∧ s.1.length = s.2.1.length ∧ rising s.1 = true ∧ ∀ t ∈ s.1, t.size ≤ 4096

theorem val_good {l : List UInt8} : ∀ (k i n : Nat) (x : VT) (m j : Nat), valP l k i n = .ok (x, m) j → Good k n m i j x
  | 0, i, n, x, m, j, h => by
    rw [valP] at h
    obtain ⟨_, _, _, h2⟩ := bind_of h
    cases h2
  | k + 1, i, n, x, m, j, h => by
    rw [valP] at h
    obtain ⟨c, p, h1, h2⟩ := bind_of h
    have hs := skip_ge l i
    have hp := tkP_mono _ _ _ _ _ h1
    split at h2
    · cases h2
    rename_i hn
    unfold bodP at h2
    split at h2
    · obtain ⟨_, q, h3, h4⟩ := bind_of h2
      injection h4 with e1 e2
      injection e1 with e1 e3
      subst e1 e2 e3
      have := wrdP_mono _ _ _ _ _ h3
      exact ⟨by decide +kernel, by show 0 + 1 ≤ k + 1; omega, rfl, by omega, by show i + 1 ≤ q; omega⟩
    split at h2
    · obtain ⟨_, q, h3, h4⟩ := bind_of h2
      injection h4 with e1 e2
      injection e1 with e1 e3
      subst e1 e2 e3
      have := wrdP_mono _ _ _ _ _ h3
      exact ⟨by decide +kernel, by show 0 + 1 ≤ k + 1; omega, rfl, by omega, by show i + 1 ≤ q; omega⟩
    split at h2
    · obtain ⟨_, q, h3, h4⟩ := bind_of h2
      injection h4 with e1 e2
      injection e1 with e1 e3
      subst e1 e2 e3
      have := wrdP_mono _ _ _ _ _ h3
      exact ⟨by decide +kernel, by show 0 + 1 ≤ k + 1; omega, rfl, by omega, by show i + 1 ≤ q; omega⟩
    split at h2
    · obtain ⟨s, q, h3, h4⟩ := bind_of h2
      injection h4 with e1 e2
      injection e1 with e1 e3
      subst e1 e2 e3
      have hl := litP_wt h3
      refine ⟨good_mk rfl hl.2 (fun s hs => by cases hs) (by decide) (by decide) (by decide) (by simp [alls]), by show 0 + 1 ≤ k + 1; omega, rfl, by omega, ?_⟩
      rw [VT.bw_mk]
      simp [klen, bws]
      omega
    split at h2
    · obtain ⟨s, q, h3, h4⟩ := bind_of h2
      injection h4 with e1 e2
      injection e1 with e1 e3
      subst e1 e2 e3
      have hP : PL k (n + 1) p s q := elems_inv (P := PL k (n + 1) p) (fun s i j hp hij => ⟨hp.1, hp.2.1, hp.2.2.1, hp.2.2.2.1, Nat.le_trans hp.2.2.2.2 hij⟩) (fun s i s' j hp he => by
        obtain ⟨y, q2, h5, h6⟩ := bind_of he
        injection h6 with e1 e2
        subst e1 e2
        obtain ⟨x, m⟩ := y
        have hg := val_good k i s.2 x m q2 h5
        obtain ⟨g1, g2, g3, g4, g5⟩ := hg
        obtain ⟨p1, p2, p3, p4, p5⟩ := hp
        refine ⟨by rw [alls_append, p1, alls, g1]; simp [alls], ?_, ?_, g4, ?_⟩
        · rw [depths_append, depths, depths]; show max _ (max x.depth 0) ≤ k; omega
        · rw [sizes_append, sizes, sizes]; show m = n + 1 + (sizes s.1 + (x.size + 0)); omega
        · rw [bws_append, bws, bws]; show p + (bws s.1 + (x.bw + 0)) ≤ q2; omega) ⟨by simp [alls], by simp [depths], by simp [sizes], by show n + 1 ≤ 1000; omega, by simp [bws]⟩ h3
      obtain ⟨p1, p2, p3, p4, p5⟩ := hP
      refine ⟨good_mk rfl (by decide) (fun s hs => by cases hs) (by decide) (by decide) (by decide) p1, by rw [VT.depth_mk]; omega, by rw [VT.size_mk]; omega, p4, ?_⟩
      rw [VT.bw_mk]
      have : (⟨#[]⟩ : ByteArray).size = 0 := rfl
      simp only [klen, List.map_nil, List.sum_nil, this]
      omega
    split at h2
    · obtain ⟨s, q, h3, h4⟩ := bind_of h2
      injection h4 with e1 e2
      injection e1 with e1 e3
      subst e1 e2 e3
      have hP : PM k (n + 1) p s q := elems_inv (P := PM k (n + 1) p) (fun s i j hp hij => ⟨hp.1, hp.2.1, hp.2.2.1, hp.2.2.2.1, Nat.le_trans hp.2.2.2.2.1 hij, hp.2.2.2.2.2⟩) (fun s i s' j hp he => by
        unfold elM at he
        obtain ⟨_, q2, h5, he⟩ := bind_of he
        obtain ⟨key, q3, h6, he⟩ := bind_of he
        split at he
        · cases he
        rename_i hdup
        obtain ⟨_, q4, h7, he⟩ := bind_of he
        obtain ⟨y, q5, h8, he⟩ := bind_of he
        injection he with e1 e2
        subst e1 e2
        obtain ⟨x, m⟩ := y
        have hg := val_good k q4 s.2.2 x m q5 h8
        have m1 := tkP_mono _ _ _ _ _ h5
        have m2 := litP_wt h6
        have m3 := tkP_mono _ _ _ _ _ h7
        have m4 := skip_ge l q3
        obtain ⟨g1, g2, g3, g4, g5⟩ := hg
        obtain ⟨p1, p2, p3, p4, p5, p6, p7, p8⟩ := hp
        have hpos := pos_of p7 key
        have hat : isAt s.1 key (posOf s.1 key) = false := by
          rw [← found_eq p7 hpos]
          exact Bool.eq_false_iff.2 hdup
        refine ⟨ins_alls _ p1 g1, ?_, ?_, g4, ?_, ?_, rising_ins p7 hpos hat, fun t ht => ?_⟩
        · rw [ins_depths]; show max _ x.depth ≤ k; omega
        · rw [ins_sizes]; show m = n + 1 + (sizes s.2.1 + x.size); omega
        · rw [ins_bws, ins_klen]; show p + (bws s.2.1 + x.bw) + (klen s.1 + key.size) ≤ q5; omega
        · rw [ins_len hpos.1, ins_len (by rw [← p6]; exact hpos.1), p6]
        · rcases ins_mem ht with rfl | h
          · exact m2.2
          · exact p8 t h) ⟨by simp [alls], by simp [depths], by simp [sizes], by show n + 1 ≤ 1000; omega, by simp [bws, klen], rfl, rfl, fun t ht => by cases ht⟩ h3
      obtain ⟨p1, p2, p3, p4, p5, p6, p7, p8⟩ := hP
      refine ⟨good_mk (by rw [okF_5, decide_eq_true p6, p7]; rfl) (by decide) p8 (by decide) (by decide) (by decide) p1, by rw [VT.depth_mk]; omega, by rw [VT.size_mk]; omega, p4, ?_⟩
      rw [VT.bw_mk]
      have : (⟨#[]⟩ : ByteArray).size = 0 := rfl
      rw [this]
      omega
    · obtain ⟨v, q, h3, h4⟩ := bind_of h2
      injection h4 with e1 e2
      injection e1 with e1 e3
      subst e1 e2 e3
      have hv := intP_rg h3
      refine ⟨good_mk rfl (by decide) (fun s hs => by cases hs) (by decide) hv.1.1 hv.1.2 (by simp [alls]), by show 0 + 1 ≤ k + 1; omega, rfl, by omega, ?_⟩
      rw [VT.bw_mk]
      have : (⟨#[]⟩ : ByteArray).size = 0 := rfl
      simp only [klen, List.map_nil, List.sum_nil, this, bws]
      omega
/-- a text that is accepted: its payload -/
theorem par_good {l : List UInt8} {x : VT} {j : Nat} (h : parP l = .ok x j) : x.all goodF = true ∧ x.depth ≤ 16 ∧ x.size ≤ 1000 ∧ x.bw ≤ l.length := by
  unfold parP at h
  obtain ⟨y, q, h1, h2⟩ := bind_of h
  split at h2
  · rename_i he
    injection h2 with e1 _
    subst e1
    obtain ⟨x, m⟩ := y
    obtain ⟨g1, g2, g3, g4, g5⟩ := val_good 16 0 0 x m q h1
    have := skip_ge l q
    exact ⟨g1, g2, by show x.size ≤ 1000; omega, by show x.bw ≤ l.length; omega⟩
  · cases h2

/-! ### how long a text is -/
theorem quo_le (s : ByteArray) : (quoL s.data.toList).length ≤ 4 * s.size + 2 := by
  unfold quoL
  rw [List.length_cons, List.length_append]
  have : (s.data.toList.flatMap escB).length ≤ 4 * s.data.toList.length := by
    generalize s.data.toList = l
    induction l with
    | nil => simp
    | cons c r ih =>
      rw [List.flatMap_cons, List.length_append, List.length_cons]
      have := escB_len c
      omega
  have e : s.data.toList.length = s.size := rfl
  have e2 : ([34] : List UInt8).length = 1 := rfl
  omega
theorem txts_len {m : Bool} : ∀ (its : List VT) (ks : List ByteArray) (f : Bool), (∀ x ∈ its, x.txt.length + 8 ≤ 30 * x.bw) → (m = true → ks.length = its.length) → (txts m f its ks).length ≤ 30 * bws its + 4 * klen ks
  | [], _, _, _, _ => by simp [txts]
  | x :: r, ks, f, h, hk => by
    rw [txts, bws]
    have hx := h x List.mem_cons_self
    have hf : (if f = true then ([] : List UInt8) else [44, 32]).length ≤ 2 := by split <;> simp
    cases m with
    | false =>
      have ih := txts_len (m := false) r ks.tail false (fun y hy => h y (List.mem_cons_of_mem _ hy)) (fun e => by cases e)
      have ht : klen ks.tail ≤ klen ks := by cases ks with
        | nil => simp
        | cons a b => rw [klen_cons]; simp
      simp only [List.length_append]
      simp only [Bool.false_eq_true, if_false, List.length_nil]
      omega
    | true =>
      obtain ⟨key, kr, rfl⟩ : ∃ a b, ks = a :: b := by
        have := hk rfl
        cases ks with
        | nil => simp at this
        | cons a b => exact ⟨a, b, rfl⟩
      have ih := txts_len (m := true) r kr false (fun y hy => h y (List.mem_cons_of_mem _ hy)) (fun _ => by simpa using hk rfl)
      have hq := quo_le key
      rw [klen_cons]
      simp only [List.length_append, if_true, List.headD_cons, List.tail_cons, List.length_cons, List.length_nil]
      omega
theorem txt_len : ∀ (m : Nat) (x : VT), x.size ≤ m → x.all goodF = true → x.txt.length + 8 ≤ 30 * x.bw
  | 0, x, h, _ => by have := size_pos x; omega
  | m + 1, .mk k i t its ks, h, hg => by
    rw [VT.size_mk] at h
    rw [VT.all_mk, Bool.and_eq_true] at hg
    obtain ⟨hg, hgs⟩ := hg
    unfold goodF inF at hg
    simp only [Bool.and_eq_true, decide_eq_true_eq] at hg
    obtain ⟨h1, h2, h3, h4⟩ := hg
    have h4a : -9223372036854775808 ≤ i := h4.1
    have h4b : i ≤ 9223372036854775807 := h4.2
    have ih : ∀ x ∈ its, x.txt.length + 8 ≤ 30 * x.bw := fun x hx => txt_len m x (by have := size_mem hx; omega) (alls_mem hgs hx)
    rw [VT.txt_mk, VT.bw_mk]
    split
    · unfold boolL
      split <;> (simp only [List.length_cons, List.length_nil]; omega)
    · split
      · have : (Lib.itoa i).length ≤ 21 := Lib.itoa_length_le i h4a h4b
        omega
      · split
        · have := quo_le t
          omega
        · split
          · have := txts_len (m := false) its ks true ih (fun e => by cases e)
            simp only [List.length_append, List.length_cons, List.length_nil]
            omega
          · split
            · rename_i h5
              have := txts_len (m := true) its ks true ih (fun _ => by subst h5; rw [okF_5] at h1; simp only [Bool.and_eq_true, decide_eq_true_eq] at h1; exact h1.2.2.1)
              simp only [List.length_append, List.length_cons, List.length_nil]
              omega
            · simp only [List.length_cons, List.length_nil]
              omega
end Go.Proofs.YtlgmhhimbabkjaaGreatDoor
namespace Go.Proofs.YtlgmhhimbabkjaaGreatDoor

theorem par_same {l l' : List UInt8} {j : Nat} (h : Agr (j + 1) l l') (e : parP l = .err j 3) : parP l' = .err j 3 := by
  have K := h.valK 16 0 0
  unfold parP at e ⊢
  cases hv : valP l 16 0 0 with
  | err k c =>
    rw [hv, PR.bind_err] at e
    injection e with e1 e2
    subst e1 e2
    rw [(K.er k hv).2 (by omega), PR.bind_err]
  | ok x q =>
    rw [hv, PR.bind_ok] at e
    split at e
    · cases e
    · injection e with e1 _
      have hq := skip_ge l q
      rw [(K.ok x q hv).2 (by omega), PR.bind_ok]
      have hr : skip l' q = j := by
        have := h.runEq blk (j - q) q (by show skip l q = _; omega) (by omega)
        show run blk l' q = _
        omega
      have hl := h.lt (i := j) (by omega)
      rw [hr, if_neg (by omega)]

/-- a fault of form stands at a byte of the text -/
def E3 {α : Type} (l : List UInt8) (r : PR α) : Prop := ∀ j, r = .err j 3 → j < l.length
section
variable {l : List UInt8}
theorem E3.bind {α β : Type} {r : PR α} {f : α → Nat → PR β} (h : E3 l r) (hf : ∀ a k, E3 l (f a k)) : E3 l (r.bind f) := by
  intro j e
  cases hr : r with
  | ok a k => rw [hr, PR.bind_ok] at e; exact hf a k j e
  | err k c => rw [hr, PR.bind_err] at e; injection e with e1 e2; subst e1 e2; exact h k hr
theorem E3.ok {α : Type} {a : α} {k : Nat} : E3 l (.ok a k) := fun _ e => by cases e
theorem E3.no {α : Type} {k : Nat} {c : Int} (h : c ≠ 3) : E3 l (.err k c : PR α) := fun _ e => by injection e with _ e; exact absurd e h
theorem tk3 (p : UInt8 → Bool) (i : Nat) : E3 l (tkP p l i) := by
  intro j e
  unfold tkP at e
  split at e
  · injection e with _ e; exact absurd e (by decide)
  · rename_i c hc
    split at e
    · cases e
    · injection e with e _
      subst e
      exact (List.getElem?_eq_some_iff.1 hc).1
theorem esc3 (i : Nat) : E3 l (escP l i) := by
  unfold escP
  refine (tk3 esq i).bind fun c k => ?_
  repeat' split
  · exact E3.ok
  · exact E3.ok
  · exact (tk3 hxd k).bind fun a k2 => (tk3 hxd k2).bind fun d k3 => E3.ok
  · exact E3.ok
theorem chr3 (i : Nat) : E3 l (chrP l i) := by
  unfold chrP
  refine (tk3 pln i).bind fun c k => ?_
  split
  · exact esc3 k
  · exact E3.ok
theorem lit3 (a : Nat) : ∀ (f i : Nat) (o : List UInt8), E3 l (litL l a f i o)
  | 0, _, _ => E3.no (by decide)
  | f + 1, i, o => by
    cases hc : l[i]? with
    | none => rw [litL_none (List.getElem?_eq_none_iff.1 hc)]; exact E3.no (by decide)
    | some c =>
      by_cases hq : c = 34
      · subst hq
        rw [litL_quote hc]
        split
        · exact E3.ok
        · exact E3.no (by decide)
      · rw [litL_char hc hq]
        exact (chr3 i).bind fun x k => lit3 a f k _
theorem litP3 (i : Nat) : E3 l (litP l i) := (lit3 _ _ _ _).bind fun _ _ => E3.ok
theorem wrd3 : ∀ (w : List UInt8) (i : Nat), E3 l (wrdP l w i)
  | [], _ => E3.ok
  | _ :: r, i => (tk3 _ i).bind fun _ k => wrd3 r k
theorem int3 (c : UInt8) (i : Nat) : E3 l (intP l c i) := by
  have hn : ∀ a j, E3 l (numE l a j) := fun a j k e => absurd e numE_er
  unfold intP
  split
  · exact (tk3 dig1 i).bind fun _ k => hn _ _
  · split
    · rename_i h
      intro j e
      injection e with e _
      subst e
      cases hc : l[i]? with
      | none => rw [hc] at h; exact absurd h.2 (by decide)
      | some c => exact (List.getElem?_eq_some_iff.1 hc).1
    · exact hn _ _
theorem more3 {σ : Type} {el : σ → Nat → PR σ} (hel : ∀ s i, E3 l (el s i)) (e : UInt8) : ∀ (f i : Nat) (s : σ), E3 l (moreP el e l f i s)
  | 0, _, _ => E3.no (by decide)
  | f + 1, i, s => by
    rw [moreP]
    refine (hel s _).bind fun s2 j => (tk3 _ _).bind fun c j2 => ?_
    split
    · exact more3 hel e f j2 s2
    · exact E3.ok
theorem elems3 {σ : Type} {el : σ → Nat → PR σ} (hel : ∀ s i, E3 l (el s i)) (e : UInt8) (i : Nat) (s : σ) : E3 l (elemsP el e l i s) := by
  unfold elemsP
  split
  · exact E3.no (by decide)
  · split
    · exact E3.ok
    · exact more3 hel e _ _ _
theorem elM3 {val : Nat → Nat → PR (VT × Nat)} (hv : ∀ i m, E3 l (val i m)) (s : List ByteArray × List VT × Nat) (i : Nat) : E3 l (elM l val s i) := by
  unfold elM
  refine (tk3 _ i).bind fun _ j => (litP3 j).bind fun key j2 => ?_
  split
  · exact E3.no (by decide)
  · exact (tk3 _ _).bind fun _ j3 => (hv j3 s.2.2).bind fun _ _ => E3.ok
theorem bod3 {val : Nat → Nat → PR (VT × Nat)} (hv : ∀ i m, E3 l (val i m)) (c : UInt8) (i m : Nat) : E3 l (bodP val l c i m) := by
  have hL : ∀ (s : List VT × Nat) i, E3 l (elL val s i) := fun s i => (hv i s.2).bind fun _ _ => E3.ok
  unfold bodP
  split
  · exact (wrd3 _ i).bind fun _ _ => E3.ok
  · split
    · exact (wrd3 _ i).bind fun _ _ => E3.ok
    · split
      · exact (wrd3 _ i).bind fun _ _ => E3.ok
      · split
        · exact (litP3 i).bind fun _ _ => E3.ok
        · split
          · exact (elems3 hL 93 i _).bind fun _ _ => E3.ok
          · split
            · exact (elems3 (elM3 hv) 125 i _).bind fun _ _ => E3.ok
            · exact (int3 c i).bind fun _ _ => E3.ok
theorem val3 : ∀ (k i m : Nat), E3 l (valP l k i m)
  | 0, i, m => by
    rw [valP]
    exact (tk3 sta _).bind fun _ _ => E3.no (by decide)
  | k + 1, i, m => by
    rw [valP]
    refine (tk3 sta _).bind fun c j => ?_
    split
    · exact E3.no (by decide)
    · exact bod3 (val3 k) c j (m + 1)
end
end Go.Proofs.YtlgmhhimbabkjaaGreatDoor
namespace Go.Proofs.YtlgmhhimbabkjaaGreatDoor

/-- what begins within the text ends within it -/
def Bd {α : Type} (l : List UInt8) (i : Nat) (r : PR α) : Prop := i ≤ l.length → ∀ a k, r = .ok a k → k ≤ l.length
section
variable {l : List UInt8}
theorem Bd.bind {α β : Type} {i : Nat} {r : PR α} {f : α → Nat → PR β} (h : Bd l i r) (hf : ∀ a k, Bd l k (f a k)) : Bd l i (r.bind f) := by
  intro hi b k e
  cases hr : r with
  | ok a m => rw [hr, PR.bind_ok] at e; exact hf a m (h hi a m hr) b k e
  | err m c => rw [hr, PR.bind_err] at e; cases e
theorem Bd.ok {α : Type} {i : Nat} {a : α} : Bd l i (.ok a i) := fun hi _ _ e => by injection e with _ e; omega
theorem Bd.no {α : Type} {i k : Nat} {c : Int} : Bd l i (.err k c : PR α) := fun _ _ _ e => by cases e
theorem tkB (p : UInt8 → Bool) (i : Nat) : Bd l i (tkP p l i) := by
  intro _ a k e
  unfold tkP at e
  split at e
  · cases e
  · rename_i c hc
    split at e
    · injection e with _ e
      have := (List.getElem?_eq_some_iff.1 hc).1
      omega
    · cases e
theorem skipB {α : Type} {G : Nat → PR α} (hG : ∀ k, Bd l k (G k)) (i : Nat) : Bd l i (G (skip l i)) :=
  fun hi => hG _ (run_le blk l i hi)
theorem escB' (i : Nat) : Bd l i (escP l i) := by
  unfold escP
  refine (tkB esq i).bind fun c k => ?_
  repeat' split
  · exact Bd.ok
  · exact Bd.ok
  · exact (tkB hxd k).bind fun a k2 => (tkB hxd k2).bind fun d k3 => Bd.ok
  · exact Bd.ok
theorem chrB (i : Nat) : Bd l i (chrP l i) := by
  unfold chrP
  refine (tkB pln i).bind fun c k => ?_
  split
  · exact escB' k
  · exact Bd.ok
theorem litB (a : Nat) : ∀ (f i : Nat) (o : List UInt8), Bd l i (litL l a f i o)
  | 0, _, _ => Bd.no
  | f + 1, i, o => by
    cases hc : l[i]? with
    | none => rw [litL_none (List.getElem?_eq_none_iff.1 hc)]; exact Bd.no
    | some c =>
      have hl := (List.getElem?_eq_some_iff.1 hc).1
      by_cases hq : c = 34
      · subst hq
        rw [litL_quote hc]
        split
        · exact fun _ _ _ e => by injection e with _ e; omega
        · exact Bd.no
      · rw [litL_char hc hq]
        exact (chrB i).bind fun x k => litB a f k _
theorem litPB (i : Nat) : Bd l i (litP l i) := (litB _ _ _ _).bind fun _ _ => Bd.ok
theorem wrdB : ∀ (w : List UInt8) (i : Nat), Bd l i (wrdP l w i)
  | [], _ => Bd.ok
  | _ :: r, i => (tkB _ i).bind fun _ k => wrdB r k
theorem intB (c : UInt8) (i : Nat) : Bd l i (intP l c i) := by
  have hn : ∀ a j, Bd l j (numE l a (run dig l j)) := fun a j hj v k e => by
    rw [numE_ok_at e]
    exact run_le dig l j hj
  unfold intP
  split
  · exact (tkB dig1 i).bind fun _ k => hn _ _
  · split
    · exact Bd.no
    · exact hn _ _
theorem moreB {σ : Type} {el : σ → Nat → PR σ} (hel : ∀ s i, Bd l i (el s i)) (e : UInt8) : ∀ (f i : Nat) (s : σ), Bd l i (moreP el e l f i s)
  | 0, _, _ => Bd.no
  | f + 1, i, s => by
    rw [moreP]
    have hE : ∀ k, Bd l k (el s k) := hel s
    refine (skipB hE i).bind fun s2 j => ?_
    have hT : ∀ k, Bd l k (tkP (fun x => x == 44 || x == e) l k) := tkB _
    refine (skipB hT j).bind fun c j2 => ?_
    split
    · exact moreB hel e f j2 s2
    · exact Bd.ok
theorem elemsB {σ : Type} {el : σ → Nat → PR σ} (hel : ∀ s i, Bd l i (el s i)) (e : UInt8) (i : Nat) (s : σ) : Bd l i (elemsP el e l i s) := by
  have H : ∀ k, Bd l k (match l[k]? with | none => .err k 4 | some c => if c = e then .ok s (k + 1) else moreP el e l (l.length + 1) k s) := fun k => by
    cases hc : l[k]? with
    | none => exact Bd.no
    | some c =>
      have hl := (List.getElem?_eq_some_iff.1 hc).1
      show Bd l k (if c = e then _ else _)
      split
      · exact fun _ _ _ e => by injection e with _ e; omega
      · exact moreB hel e _ _ _
  exact skipB H i
theorem elMB {val : Nat → Nat → PR (VT × Nat)} (hv : ∀ i m, Bd l i (val i m)) (s : List ByteArray × List VT × Nat) (i : Nat) : Bd l i (elM l val s i) := by
  unfold elM
  refine (tkB _ i).bind fun _ j => (litPB j).bind fun key j2 => ?_
  split
  · exact Bd.no
  · have hT : ∀ k, Bd l k (tkP (fun x => x == 58) l k) := tkB _
    exact (skipB hT j2).bind fun _ j3 => (hv j3 s.2.2).bind fun _ _ => Bd.ok
theorem bodB {val : Nat → Nat → PR (VT × Nat)} (hv : ∀ i m, Bd l i (val i m)) (c : UInt8) (i m : Nat) : Bd l i (bodP val l c i m) := by
  have hL : ∀ (s : List VT × Nat) i, Bd l i (elL val s i) := fun s i => (hv i s.2).bind fun _ _ => Bd.ok
  unfold bodP
  split
  · exact (wrdB _ i).bind fun _ _ => Bd.ok
  · split
    · exact (wrdB _ i).bind fun _ _ => Bd.ok
    · split
      · exact (wrdB _ i).bind fun _ _ => Bd.ok
      · split
        · exact (litPB i).bind fun _ _ => Bd.ok
        · split
          · exact (elemsB hL 93 i _).bind fun _ _ => Bd.ok
          · split
            · exact (elemsB (elMB hv) 125 i _).bind fun _ _ => Bd.ok
            · exact (intB c i).bind fun _ _ => Bd.ok
theorem valB : ∀ (k i m : Nat), Bd l i (valP l k i m)
  | 0, i, m => by
    rw [valP]
    have H : ∀ q, Bd l q ((tkP sta l q).bind fun _ _ => (.err (skip l i) 7 : PR (VT × Nat))) := fun q => (tkB sta q).bind fun _ _ => Bd.no
    exact skipB H i
  | k + 1, i, m => by
    rw [valP]
    have H : ∀ q, Bd l q ((tkP sta l q).bind fun c j => if 1000 ≤ m then .err (skip l i) 6 else bodP (valP l k) l c j (m + 1)) := fun q => (tkB sta q).bind fun c j => by
      split
      · exact Bd.no
      · exact bodB (valB k) c j (m + 1)
    exact skipB H i
theorem par_lt {j : Nat} (e : parP l = .err j 3) : j < l.length := by
  unfold parP at e
  cases hv : valP l 16 0 0 with
  | err k c =>
    rw [hv, PR.bind_err] at e
    injection e with e1 e2
    subst e1 e2
    exact val3 16 0 0 k hv
  | ok x q =>
    have hq := valB 16 0 0 (Nat.zero_le _) x q hv
    have hs := run_le blk l q hq
    rw [hv, PR.bind_ok] at e
    split at e
    · cases e
    · rename_i hne
      injection e with e1 _
      have : skip l q ≤ l.length := hs
      omega
end
end Go.Proofs.YtlgmhhimbabkjaaGreatDoor
namespace Go.Proofs.YtlgmhhimbabkjaaGreatDoor

/-- an error's offset lies within the text, and its code is none that says all is well -/
def Eb {α : Type} (l : List UInt8) (i : Nat) (r : PR α) : Prop := i ≤ l.length → ∀ j c, r = .err j c → j ≤ l.length ∧ c ≠ 0
section
variable {l : List UInt8}
theorem Eb.bind {α β : Type} {i : Nat} {r : PR α} {f : α → Nat → PR β} (hb : Bd l i r) (h : Eb l i r) (hf : ∀ a k, Eb l k (f a k)) : Eb l i (r.bind f) := by
  intro hi j c e
  cases hr : r with
  | ok a m => rw [hr, PR.bind_ok] at e; exact hf a m (hb hi a m hr) j c e
  | err m d => rw [hr, PR.bind_err] at e; injection e with e1 e2; subst e1 e2; exact h hi m d hr
theorem Eb.ok {α : Type} {i k : Nat} {a : α} : Eb l i (.ok a k) := fun _ _ _ e => by cases e
theorem Eb.no {α : Type} {i k : Nat} {c : Int} (hk : i ≤ l.length → k ≤ l.length) (hc : c ≠ 0) : Eb l i (.err k c : PR α) := fun hi _ _ e => by injection e with e1 e2; subst e1 e2; exact ⟨hk hi, hc⟩
theorem tkE (p : UInt8 → Bool) (i : Nat) : Eb l i (tkP p l i) := by
  intro hi j c e
  unfold tkP at e
  split at e
  · injection e with e1 e2; subst e1 e2; exact ⟨hi, by decide⟩
  · split at e
    · cases e
    · injection e with e1 e2; subst e1 e2; exact ⟨hi, by decide⟩
theorem skipE {α : Type} {G : Nat → PR α} (hG : ∀ k, Eb l k (G k)) (i : Nat) : Eb l i (G (skip l i)) := fun hi => hG _ (run_le blk l i hi)
theorem escE (i : Nat) : Eb l i (escP l i) := by
  unfold escP
  refine (tkE esq i).bind (tkB esq i) fun c k => ?_
  repeat' split
  · exact Eb.ok
  · exact Eb.ok
  · exact (tkE hxd k).bind (tkB hxd k) fun a k2 => (tkE hxd k2).bind (tkB hxd k2) fun d k3 => Eb.ok
  · exact Eb.ok
theorem chrE (i : Nat) : Eb l i (chrP l i) := by
  unfold chrP
  refine (tkE pln i).bind (tkB pln i) fun c k => ?_
  split
  · exact escE k
  · exact Eb.ok
theorem litE (a : Nat) (ha : a ≤ l.length) : ∀ (f i : Nat) (o : List UInt8), Eb l i (litL l a f i o)
  | 0, _, _ => Eb.no (fun h => h) (by decide)
  | f + 1, i, o => by
    cases hc : l[i]? with
    | none => rw [litL_none (List.getElem?_eq_none_iff.1 hc)]; exact Eb.no (fun h => h) (by decide)
    | some c =>
      by_cases hq : c = 34
      · subst hq
        rw [litL_quote hc]
        split
        · exact Eb.ok
        · exact Eb.no (fun _ => ha) (by decide)
      · rw [litL_char hc hq]
        exact (chrE i).bind (chrB i) fun x k => litE a ha f k _
theorem litPE (i : Nat) : Eb l i (litP l i) := fun hi => ((litE (i - 1) (by omega) _ _ _).bind (litB _ _ _ _) fun _ _ => Eb.ok) hi
theorem wrdE : ∀ (w : List UInt8) (i : Nat), Eb l i (wrdP l w i)
  | [], _ => Eb.ok
  | _ :: r, i => (tkE _ i).bind (tkB _ i) fun _ k => wrdE r k
theorem intE (c : UInt8) (i : Nat) : Eb l i (intP l c i) := by
  intro hi
  have hn : ∀ j k, Eb l j (numE l (i - 1) k) := fun j k _ q c e => by
    unfold numE at e
    split at e
    · cases e
    · injection e with e1 e2; subst e1 e2; exact ⟨by omega, by decide⟩
  have hb : Bd l i (tkP dig1 l i) := tkB dig1 i
  have main : Eb l i (intP l c i) := by
    unfold intP
    split
    · exact (tkE dig1 i).bind (tkB dig1 i) fun _ k => hn _ _
    · split
      · exact Eb.no (fun h => h) (by decide)
      · exact hn _ _
  exact main hi
theorem moreE {σ : Type} {el : σ → Nat → PR σ} (hB : ∀ s i, Bd l i (el s i)) (hel : ∀ s i, Eb l i (el s i)) (e : UInt8) : ∀ (f i : Nat) (s : σ), Eb l i (moreP el e l f i s)
  | 0, _, _ => Eb.no (fun h => h) (by decide)
  | f + 1, i, s => by
    rw [moreP]
    have hE : ∀ k, Eb l k (el s k) := hel s
    have hE' : ∀ k, Bd l k (el s k) := hB s
    refine (skipE hE i).bind (skipB hE' i) fun s2 j => ?_
    have hT : ∀ k, Eb l k (tkP (fun x => x == 44 || x == e) l k) := tkE _
    have hT' : ∀ k, Bd l k (tkP (fun x => x == 44 || x == e) l k) := tkB _
    refine (skipE hT j).bind (skipB hT' j) fun c j2 => ?_
    split
    · exact moreE hB hel e f j2 s2
    · exact Eb.ok
theorem elemsE {σ : Type} {el : σ → Nat → PR σ} (hB : ∀ s i, Bd l i (el s i)) (hel : ∀ s i, Eb l i (el s i)) (e : UInt8) (i : Nat) (s : σ) : Eb l i (elemsP el e l i s) := by
  have H : ∀ k, Eb l k (match l[k]? with | none => .err k 4 | some c => if c = e then .ok s (k + 1) else moreP el e l (l.length + 1) k s) := fun k => by
    cases hc : l[k]? with
    | none => exact Eb.no (fun h => h) (by decide)
    | some c =>
      show Eb l k (if c = e then _ else _)
      split
      · exact Eb.ok
      · exact moreE hB hel e _ _ _
  exact skipE H i
theorem elME {val : Nat → Nat → PR (VT × Nat)} (hB : ∀ i m, Bd l i (val i m)) (hv : ∀ i m, Eb l i (val i m)) (s : List ByteArray × List VT × Nat) (i : Nat) : Eb l i (elM l val s i) := by
  intro hi
  have main : Eb l i (elM l val s i) := by
    unfold elM
    refine (tkE _ i).bind (tkB _ i) fun _ j => (litPE j).bind (litPB j) fun key j2 => ?_
    split
    · exact Eb.no (fun _ => hi) (by decide)
    · have hT : ∀ k, Eb l k (tkP (fun x => x == 58) l k) := tkE _
      have hT' : ∀ k, Bd l k (tkP (fun x => x == 58) l k) := tkB _
      exact (skipE hT j2).bind (skipB hT' j2) fun _ j3 => (hv j3 s.2.2).bind (hB j3 s.2.2) fun _ _ => Eb.ok
  exact main hi
theorem bodE {val : Nat → Nat → PR (VT × Nat)} (hB : ∀ i m, Bd l i (val i m)) (hv : ∀ i m, Eb l i (val i m)) (c : UInt8) (i m : Nat) : Eb l i (bodP val l c i m) := by
  have hL : ∀ (s : List VT × Nat) i, Eb l i (elL val s i) := fun s i => (hv i s.2).bind (hB i s.2) fun _ _ => Eb.ok
  have hL' : ∀ (s : List VT × Nat) i, Bd l i (elL val s i) := fun s i => (hB i s.2).bind fun _ _ => Bd.ok
  unfold bodP
  split
  · exact (wrdE _ i).bind (wrdB _ i) fun _ _ => Eb.ok
  · split
    · exact (wrdE _ i).bind (wrdB _ i) fun _ _ => Eb.ok
    · split
      · exact (wrdE _ i).bind (wrdB _ i) fun _ _ => Eb.ok
      · split
        · exact (litPE i).bind (litPB i) fun _ _ => Eb.ok
        · split
          · exact (elemsE hL' hL 93 i _).bind (elemsB hL' 93 i _) fun _ _ => Eb.ok
          · split
            · exact (elemsE (elMB hB) (elME hB hv) 125 i _).bind (elemsB (elMB hB) 125 i _) fun _ _ => Eb.ok
            · exact (intE c i).bind (intB c i) fun _ _ => Eb.ok
theorem valE : ∀ (k i m : Nat), Eb l i (valP l k i m)
  | 0, i, m => by
    rw [valP]
    have H : ∀ q, Eb l q ((tkP sta l q).bind fun _ _ => (.err q 7 : PR (VT × Nat))) := fun q hq => ((tkE sta q).bind (tkB sta q) fun _ _ => Eb.no (fun _ => hq) (by decide)) hq
    exact skipE H i
  | k + 1, i, m => by
    rw [valP]
    have H : ∀ q, Eb l q ((tkP sta l q).bind fun c j => if 1000 ≤ m then .err q 6 else bodP (valP l k) l c j (m + 1)) := fun q hq => ((tkE sta q).bind (tkB sta q) fun c j => by
      split
      · exact Eb.no (fun _ => hq) (by decide)
      · exact bodE (valB k) (valE k) c j (m + 1)) hq
    exact skipE H i
/-- where the error of a text stands -/
theorem par_err {j : Nat} {c : Int} (e : parP l = .err j c) : j ≤ l.length ∧ c ≠ 0 := by
  unfold parP at e
  cases hv : valP l 16 0 0 with
  | err k d =>
    rw [hv, PR.bind_err] at e
    injection e with e1 e2
    subst e1 e2
    exact valE 16 0 0 (Nat.zero_le _) k d hv
  | ok x q =>
    have hq := valB 16 0 0 (Nat.zero_le _) x q hv
    have hs := run_le blk l q hq
    rw [hv, PR.bind_ok] at e
    split at e
    · cases e
    · injection e with e1 e2
      subst e1 e2
      exact ⟨hs, by decide⟩
end
end Go.Proofs.YtlgmhhimbabkjaaGreatDoor
namespace Go.Proofs.YtlgmhhimbabkjaaGreatDoor
open Go.RowKit

theorem BelowBy.cell {w : World} {p : Addr} {v : Value} (h : w.cell? p = some v) : ∀ q : BelowBy w, q.val.cell? p = some v := fun q => (q.below.cell (World.block_lt_of_cell? w p h)).trans h
theorem cmps_drop {M : Bool} {xs ys : List VT} {ks ls : List ByteArray} {j : Nat} {x y : VT} (h1 : xs[j]? = some x) (h2 : ys[j]? = some y) :
    cmps M (xs.drop j) (ks.drop j) (ys.drop j) (ls.drop j) = thn (if M then cmpS (ks.getD j ByteArray.empty) (ls.getD j ByteArray.empty) else 0) (thn (x.cmp y) (cmps M (xs.drop (j + 1)) (ks.drop (j + 1)) (ys.drop (j + 1)) (ls.drop (j + 1)))) := by
  obtain ⟨hx, rfl⟩ := List.getElem?_eq_some_iff.1 h1
  obtain ⟨hy, rfl⟩ := List.getElem?_eq_some_iff.1 h2
  rw [List.drop_eq_getElem_cons hx, List.drop_eq_getElem_cons hy, cmps_cons, List.tail_drop, List.tail_drop]
  have e : ∀ l : List ByteArray, (l.drop j).headD ByteArray.empty = l.getD j ByteArray.empty := fun l => by
    rw [List.headD_eq_head?_getD, List.head?_drop, List.getD_eq_getElem?_getD]
  rw [e, e]
theorem cmps_end {M : Bool} {xs ys : List VT} {ks ls : List ByteArray} {j : Nat} (h : j = xs.length ∧ j ≤ ys.length ∨ j = ys.length ∧ j ≤ xs.length) : cmps M (xs.drop j) ks (ys.drop j) ls = cmpI (xs.length : Nat) (ys.length : Nat) := by
  rcases h with ⟨rfl, h⟩ | ⟨rfl, h⟩
  · rw [List.drop_length, cmps_nil, List.length_drop]
    unfold cmpI
    repeat' split <;> omega
  · rw [List.drop_length]
    cases hx : xs.drop ys.length with
    | nil =>
      have := congrArg List.length hx
      rw [List.length_drop, List.length_nil] at this
      rw [cmps_nil]
      unfold cmpI
      repeat' split <;> first | omega | simp at *
    | cons x r =>
      have := congrArg List.length hx
      rw [List.length_drop, List.length_cons] at this
      rw [cmps_out]
      unfold cmpI
      repeat' split <;> omega
theorem thn_ne {c d : Int} (h : c ≠ 0) : thn c d = c := by unfold thn; rw [if_neg h]
theorem thn_eq {c d : Int} (h : c = 0) : thn c d = d := by unfold thn; rw [if_pos h]

end Go.Proofs.YtlgmhhimbabkjaaGreatDoor
namespace Go.Proofs.YtlgmhhimbabkjaaGreatDoor
open Go.RowKit

end Go.Proofs.YtlgmhhimbabkjaaGreatDoor
namespace Go.Proofs.YtlgmhhimbabkjaaGreatDoor
open Go.RowKit

def RSameUpto (m : Nat) : Prop := ∀ (x y : VT) (w : World) (v u : Value), x.size ≤ m → Lies w (Lo w) x v → Lies w (Lo w) y u → Calls Tryz.prog 15 #[v, u] w (Gives (.bool (eqB x y)) w)

set_option maxRecDepth 100000 in
set_option maxHeartbeats 8000000 in
set_option linter.unusedVariables false in
theorem refSame_loop (m : Nat) (IH : Hid (RSameUpto m)) (k i : Int) (t : ByteArray) (its : List VT) (ks : List ByteArray) (A : Option Addr) (c : Nat) (A' : Option Addr) (c' : Nat) (jts : List VT) (ls : List ByteArray) (D : Option Addr) (e : Nat) (D' : Option Addr) (e' : Nat) (w : World)
    (hL : LiesL w (Lo w) A 0 its) (hM : LiesL w (Lo w) D 0 jts) (hS : LiesS w (Lo w) A' ks) (hT : LiesS w (Lo w) D' ls) (h1 : its.length ≤ c) (h2 : c ≤ 9223372036854775807) (h5 : ks.length ≤ c') (h6 : c' ≤ 9223372036854775807)
    (hsz : sizes its ≤ m) (hlen : its.length = jts.length) (hkl : ks.length = ls.length) :
    Calls Tryz.prog 15 #[vag k i t A its.length c A' ks.length c', vag k i t D jts.length e D' ls.length e'] w (Gives (.bool (eqB (VT.mk k i t its ks) (VT.mk k i t jts ls))) w) := by
  have HL := Lib.hid hL
  have HM := Lib.hid hM
  have HS := Lib.hid hS
  have HT := Lib.hid hT
  obtain ⟨n, hn⟩ : ∃ n, n = its.length := ⟨_, rfl⟩
  obtain ⟨nk, hnk⟩ : ∃ nk, nk = ks.length := ⟨_, rfl⟩
  have HN := Lib.hid (And.intro hn (hn.trans hlen))
  have HK := Lib.hid (And.intro hnk (hnk.trans hkl))
  obtain ⟨w2, hw2⟩ : ∃ w2, w2 = (w.alloc (.cells #[.int .i64 k, .int .i64 i, .string t, .slice A n c, .slice A' nk c'] 25)).alloc (.cells #[.int .i64 k, .int .i64 i, .string t, .slice D n e, .slice D' nk e'] 25) := ⟨_, rfl⟩
  have B2 : Hid (Below w.heap.size w w2) := Lib.hid (by rw [hw2]; exact (below_one _ _).trans (Below.alloc (Below.refl _ _) (by simp) _))
  have S2 : Hid (w.heap.size + 1 < w2.heap.size) := Lib.hid (by rw [hw2]; simp)
  have X1 : Hid (∀ j, w2.cell? ⟨w.heap.size, j, none⟩ = (#[.int .i64 k, .int .i64 i, .string t, .slice A n c, .slice A' nk c'] : Array Value)[j]?) := Lib.hid (fun j => by
    rw [hw2, World.cell?_alloc_lt _ _ _ (by simp), World.cell?_alloc_at _ _ _ _ rfl])
  have X2 : Hid (∀ j, w2.cell? ⟨w.heap.size + 1, j, none⟩ = (#[.int .i64 k, .int .i64 i, .string t, .slice D n e, .slice D' nk e'] : Array Value)[j]?) := Lib.hid (fun j => by
    rw [hw2, World.cell?_alloc_at _ _ _ _ (by simp)])
  have EY : Hid (ks = ls → its = jts → eqB (VT.mk k i t its ks) (VT.mk k i t jts ls) = true) := Lib.hid (fun h h' => eqB_true (by rw [h, h']))
  have E1 : Hid (ks ≠ ls → eqB (VT.mk k i t its ks) (VT.mk k i t jts ls) = false) := Lib.hid (fun h => eqB_false (fun q => h (by injection q)))
  have E2 : Hid (its ≠ jts → eqB (VT.mk k i t its ks) (VT.mk k i t jts ls) = false) := Lib.hid (fun h => eqB_false (fun q => h (by injection q)))
  have HW := Lib.hid hw2
  rw [← hnk, ← hn, ← HN.out.2, ← HK.out.2]
  rw [← hn] at h1
  rw [← hnk] at h5
  clear hL hM hS hT hw2 hn hnk hlen hkl
  unfold vag
  go_enter Tryz.func15, Tryz.ntmps15
  go_wp2
  rw [← HW.out]
  go_loopw [5] (fun s wr => ∃ j : Nat, j ≤ nk ∧ s = .int .i64 j ∧ Hid (ks.take j = ls.take j) ∧ Hid (Below w2.heap.size w2 wr)) (fun s _ => nk - (intOf s).toNat)
  case atStart => exact ⟨0, by omega, rfl, Lib.hid rfl, Lib.hid (Below.refl _ _)⟩
  case round =>
    obtain ⟨j, hjn, rfl, hr, hb⟩ := hrel
    have b4 := (hb.out.cell (p := ⟨w.heap.size, 4, none⟩) (by have := S2.out; show w.heap.size < _; omega)).trans (X1.out 4)
    have b4' := (hb.out.cell (p := ⟨w.heap.size + 1, 4, none⟩) S2.out).trans (X2.out 4)
    change _ = some (Value.slice A' nk c') at b4
    change _ = some (Value.slice D' nk e') at b4'
    by_cases hlt : j < nk
    · have hj1 : j < ks.length := by have := HK.out.1; omega
      have hj2 : j < ls.length := by have := HK.out.2; omega
      have g1 : ks[j]? = some (ks.getD j ByteArray.empty) := by rw [List.getD_eq_getElem?_getD, List.getElem?_eq_getElem hj1]; rfl
      have g2 : ls[j]? = some (ls.getD j ByteArray.empty) := by rw [List.getD_eq_getElem?_getD, List.getElem?_eq_getElem hj2]; rfl
      obtain ⟨_, g, o, rfl, hg, f0⟩ := HS.out j _ g1
      obtain ⟨_, g', o', rfl, hg', f1⟩ := HT.out j _ g2
      have HB := Lib.hid (below_next B2.out hb.out)
      rw [← HB.out.cell (p := ⟨g, o + j, none⟩) hg] at f0
      rw [← HB.out.cell (p := ⟨g', o' + j, none⟩) hg'] at f1
      have hy := fun h => take_same g1 g2 hr.out h
      have hno := fun h => at_same g1 g2 h
      generalize ks.getD j ByteArray.empty = s at *
      generalize ls.getD j ByteArray.empty = s' at *
      have HY := Lib.hid hy
      have HNN := Lib.hid hno
      clear hy hno g1 g2
      by_cases hst : s = s'
      · have HR := Lib.hid (HY.out hst)
        subst hst
        go_wp2_with fail
        go_quiet (fail)
        have HB2 := Lib.hid (below_drew hb.out nq)
        go_wp2
        go_roundw
        case rel => exact ⟨j + 1, by omega, by go_num, HR, HB2⟩
        case measure => simp [intOf]; omega
      · have HR := Lib.hid (E1.out (HNN.out hst))
        have t1 : (s.toList == s'.toList) = false := by rw [beq_eq_false_iff_ne]; exact fun q => hst (str_inj q)
        clear hst
        go_wp2_with fail
        go_quiet (fail)
        go_wp2
        go_ret
        exact ⟨ret_bool HR.out.symm, below_next B2.out (below_drew hb.out nq)⟩
    · obtain rfl : j = nk := by omega
      have HKS : Hid (ks = ls) := Lib.hid (by
        have := hr.out
        rwa [HK.out.1, List.take_length, ← HK.out.1, HK.out.2, List.take_length] at this)
      go_wp2
      obtain ⟨w6, hw6⟩ : ∃ w6, w6 = wr := ⟨_, rfl⟩
      have HB6 : Hid (Below w2.heap.size w2 w6) := Lib.hid (by rw [hw6]; exact hb.out)
      rw [← hw6]
      clear b4 b4'
      clear hw6 hb hr
      go_loopw [6] (fun s wr => ∃ j : Nat, j ≤ n ∧ s = .int .i64 j ∧ Hid (its.take j = jts.take j) ∧ Hid (Below w2.heap.size w2 wr)) (fun s _ => n - (intOf s).toNat)
      case atStart => exact ⟨0, by omega, rfl, Lib.hid rfl, HB6⟩
      case round =>
        obtain ⟨j, hjn, rfl, hr, hb⟩ := hrel
        have b3 := (hb.out.cell (p := ⟨w.heap.size, 3, none⟩) (by have := S2.out; show w.heap.size < _; omega)).trans (X1.out 3)
        have b3' := (hb.out.cell (p := ⟨w.heap.size + 1, 3, none⟩) S2.out).trans (X2.out 3)
        change _ = some (Value.slice A n c) at b3
        change _ = some (Value.slice D n e) at b3'
        by_cases hlt : j < n
        · have g1 := List.getElem?_eq_getElem (l := its) (i := j) (by have := HN.out.1; omega)
          have g2 := List.getElem?_eq_getElem (l := jts) (i := j) (by have := HN.out.2; omega)
          obtain ⟨g, o, k1, i1, t1, B, n1, c1, B', n2, c2, rfl, hg, e0, e1, e2, e3, e4, hx⟩ := (HL.out).at_ g1
          obtain ⟨g', o', k3, i3, t3, E, n3, c3, E', n4, c4, rfl, hg', d0, d1, d2, d3, d4, hy⟩ := (HM.out).at_ g2
          have hle := size_at g1
          have HB := Lib.hid (below_next B2.out hb.out)
          have hyes := fun h => take_same g1 g2 hr.out h
          have hno := fun h => at_same g1 g2 h
          generalize its[j]'(by have := HN.out.1; omega) = x at *
          generalize jts[j]'(by have := HN.out.2; omega) = y at *
          have cc := fun (q : Nat) => HB.out.cell (p := ⟨g, q, none⟩) hg
          have cc' := fun (q : Nat) => HB.out.cell (p := ⟨g', q, none⟩) hg'
          rw [Nat.zero_add] at e0 e1 e2 e3 e4 d0 d1 d2 d3 d4
          rw [← cc] at e0 e1 e2 e3 e4
          rw [← cc'] at d0 d1 d2 d3 d4
          have HCC : Hid (∀ q : BelowBy wr, Calls Tryz.prog 15 #[vag k1 i1 t1 B n1 c1 B' n2 c2, vag k3 i3 t3 E n3 c3 E' n4 c4] q.val (Gives (.bool (eqB x y)) q.val)) := Lib.hid (fun q =>
            IH.out x y q.val _ _ (by omega) ((hx.below HB.out).below q.below) ((hy.below HB.out).below q.below))
          unfold vag at HCC
          have HY := Lib.hid hyes
          have HNN := Lib.hid hno
          have z3 := BelowBy.cell b3
          have z3' := BelowBy.cell b3'
          have q0 := BelowBy.cell e0
          have q1 := BelowBy.cell e1
          have q2 := BelowBy.cell e2
          have q3 := BelowBy.cell e3
          have q4 := BelowBy.cell e4
          have r0 := BelowBy.cell d0
          have r1 := BelowBy.cell d1
          have r2 := BelowBy.cell d2
          have r3 := BelowBy.cell d3
          have r4 := BelowBy.cell d4
          clear hx hy cc cc' hyes hno g1 g2 hle e0 e1 e2 e3 e4 d0 d1 d2 d3 d4
          go_wp2_with fail
          refine wp_region_gives (by kernel_rfl) (by kernel_rfl) ?_
          repeat (quiet_step ((go_at_call 15; exact gives_by (HCC.out _))))
          refine wpQuiet_nil ?_
          intro _ hw'
          obtain ⟨q, rfl⟩ := hw'
          obtain ⟨wq, hwq⟩ : ∃ wq, wq = q.val := ⟨_, rfl⟩
          have HQ : Hid (Below w2.heap.size w2 wq) := Lib.hid (by rw [hwq]; exact below_next hb.out q.below)
          rw [← hwq]
          clear hwq z3 z3' q0 q1 q2 q3 q4 r0 r1 r2 r3 r4 HCC b3 b3'
          by_cases hxy : x = y
          · have HR := Lib.hid (HY.out hxy)
            rw [eqB_true hxy]
            clear hxy
            go_wp2
            go_roundw
            case rel => exact ⟨j + 1, by omega, by go_num, HR, HQ⟩
            case measure => simp [intOf]; omega
          · have HR := Lib.hid (E2.out (HNN.out hxy))
            rw [eqB_false hxy]
            clear hxy
            go_wp2
            go_ret
            exact ⟨ret_bool HR.out.symm, below_next B2.out HQ.out⟩
        · have HR := Lib.hid (EY.out HKS.out (by
            have := hr.out
            rwa [show j = n by omega, HN.out.1, List.take_length, ← HN.out.1, HN.out.2, List.take_length] at this))
          go_wp2
          go_ret
          exact ⟨ret_bool HR.out.symm, below_next B2.out hb.out⟩

set_option maxRecDepth 100000 in
set_option maxHeartbeats 4000000 in
theorem refSame_all (m : Nat) : RSameUpto m := by
  induction m with
  | zero => intro x _ _ _ _ h; have := size_pos x; omega
  | succ m ih =>
    intro x y w v u hsz hv hu
    have IH := Lib.hid ih
    clear ih
    obtain ⟨k, i, t, its, ks⟩ := x
    obtain ⟨k', i', t', jts, ls⟩ := y
    obtain ⟨A, c, A', c', rfl, _, _, _, h1, h2, hL, h3, h4, hS⟩ := hv.open
    obtain ⟨D, e, D', e', rfl, _, _, _, _, _, hM, _, _, hT⟩ := hu.open
    rw [VT.size_mk] at hsz
    have BB : Hid (∀ (o o' : Obj), Below w.heap.size w ((w.alloc o).alloc o')) := Lib.hid (fun o o' => (below_one _ _).trans (Below.alloc (Below.refl _ _) (by simp) _))
    by_cases q1 : k = k'
    · subst q1
      by_cases q2 : i = i'
      · subst q2
        by_cases q3 : t = t'
        · subst q3
          by_cases q4 : its.length = jts.length
          · by_cases q5 : ks.length = ls.length
            · exact refSame_loop m IH k i t its ks A c A' c' jts ls D e D' e' w hL hM hS hT h1 h2 h3 h4 (by omega) q4 q5
            · have HR : Hid (eqB (VT.mk k i t its ks) (VT.mk k i t jts ls) = false) := Lib.hid (eqB_false (fun q => q5 (by injection q; simp [*])))
              have f4 : (((its.length : Nat) : Int) != ((jts.length : Nat) : Int)) = false := by rw [bne_eq_false_iff_eq]; omega
              have f5 : (((ks.length : Nat) : Int) != ((ls.length : Nat) : Int)) = true := by rw [bne_iff_ne]; omega
              clear hv hu hL hM hS hT q4 q5
              unfold vag
              go_enter Tryz.func15, Tryz.ntmps15
              go_wp2
              go_ret
              exact ⟨ret_bool HR.out.symm, BB.out _ _⟩
          · have HR : Hid (eqB (VT.mk k i t its ks) (VT.mk k i t jts ls) = false) := Lib.hid (eqB_false (fun q => q4 (by injection q; simp [*])))
            have f4 : (((its.length : Nat) : Int) != ((jts.length : Nat) : Int)) = true := by rw [bne_iff_ne]; omega
            clear hv hu hL hM hS hT q4
            unfold vag
            go_enter Tryz.func15, Tryz.ntmps15
            go_wp2
            go_ret
            exact ⟨ret_bool HR.out.symm, BB.out _ _⟩
        · have HR : Hid (eqB (VT.mk k i t its ks) (VT.mk k i t' jts ls) = false) := Lib.hid (eqB_false (fun q => q3 (by injection q)))
          have f3 : (t.toList == t'.toList) = false := by rw [beq_eq_false_iff_ne]; exact fun q => q3 (str_inj q)
          clear hv hu hL hM hS hT q3
          unfold vag
          go_enter Tryz.func15, Tryz.ntmps15
          go_wp2
          go_ret
          exact ⟨ret_bool HR.out.symm, BB.out _ _⟩
      · have HR : Hid (eqB (VT.mk k i t its ks) (VT.mk k i' t' jts ls) = false) := Lib.hid (eqB_false (fun q => q2 (by injection q)))
        have f2 : (i != i') = true := by rw [bne_iff_ne]; exact q2
        clear hv hu hL hM hS hT q2
        unfold vag
        go_enter Tryz.func15, Tryz.ntmps15
        go_wp2
        go_ret
        exact ⟨ret_bool HR.out.symm, BB.out _ _⟩
    · have HR : Hid (eqB (VT.mk k i t its ks) (VT.mk k' i' t' jts ls) = false) := Lib.hid (eqB_false (fun q => q1 (by injection q)))
      have f1 : (k != k') = true := by rw [bne_iff_ne]; exact q1
      clear hv hu hL hM hS hT q1
      unfold vag
      go_enter Tryz.func15, Tryz.ntmps15
      go_wp2
      go_ret
      exact ⟨ret_bool HR.out.symm, BB.out _ _⟩
theorem refSame_any {x y : VT} {v u : Value} {w : World} (h : Lies w (Lo w) x v) (h' : Lies w (Lo w) y u) : Calls Tryz.prog 15 #[v, u] w (Gives (.bool (eqB x y)) w) := refSame_all x.size x y w v u (Nat.le_refl _) h h'
end Go.Proofs.YtlgmhhimbabkjaaGreatDoor
namespace Go.Proofs.YtlgmhhimbabkjaaGreatDoor
open Go.RowKit

/-- a string of these bytes -/
theorem str_size (l : List UInt8) : (⟨l.toArray⟩ : ByteArray).size = l.length := by simp [ByteArray.size]
theorem str_list (l : List UInt8) : (⟨l.toArray⟩ : ByteArray).data.toList = l := by simp
/-- what Parse says of a payload's text -/
theorem par_back {x : VT} {w : World} (h : Std w) (hg : x.all goodF = true) (hd : x.depth ≤ 16) (hs : x.size ≤ 1000) (hb : x.bw ≤ 6000) :
    Calls Tryz.prog 13 #[.string ⟨x.txt.toArray⟩] w (ParR (.ok x x.txt.length) w) := by
  have hl := txt_len x.size x (Nat.le_refl _) hg
  have := Parse_any ⟨x.txt.toArray⟩ w (by rw [str_size]; omega) h.ev
  rw [str_list] at this
  have e := par_txt hg hd hs [] [] (fun _ h => by cases h) (fun _ h => by cases h)
  rw [List.nil_append, List.append_nil] at e
  rw [e] at this
  exact this
/-- what Print says of a payload -/
theorem prt_good {x : VT} {v : Value} {w : World} (h : Std w) (hv : Lies w (Lo w) x v) (hg : x.all goodF = true) (hd : x.depth ≤ 16) (hs : x.size ≤ 1000) (hb : x.bw ≤ 6000) :
    Calls Tryz.prog 9 #[v] w fun e w' => e = .returned (.tuple #[.string ⟨x.txt.toArray⟩, .int .i64 0]) ∧ Below w.heap.size w w' := by
  have hl := txt_len x.size x (Nat.le_refl _) hg
  have hr := right_good hg hd hs
  refine (Print_any hv (by omega) h.tab).mono fun e w' ⟨he, hb⟩ => ⟨?_, hb⟩
  rw [he, if_pos hr]
theorem right_yes {x : VT} {v : Value} {w : World} (hv : Lies w (Lo w) x v) (hg : x.all goodF = true) (hd : x.depth ≤ 16) (hs : x.size ≤ 1000) : Calls Tryz.prog 16 #[v] w (Gives (.bool true) w) := by
  have := refRight_any (by omega) hv
  rw [right_good hg hd hs] at this
  exact this
theorem same_yes {x : VT} {v u : Value} {w : World} (h : Lies w (Lo w) x v) (h' : Lies w (Lo w) x u) : Calls Tryz.prog 15 #[v, u] w (Gives (.bool true) w) := by
  have := refSame_any h h'
  rw [eqB_true rfl] at this
  exact this

set_option maxRecDepth 100000 in
set_option maxHeartbeats 8000000 in
theorem Canonical_any (s : ByteArray) (w : World) (hS : Std w) : Calls Tryz.prog 6 #[.string s] w fun e w' => e = .returned (.bool true) ∧ Below w.heap.size w w' := by
  have S0 := Lib.hid hS
  clear hS
  by_cases hbig : 6000 < s.size
  · have hb' : (6000 : Int) < (s.size : Int) := by omega
    have HLV := Lib.hid (lives_any S0.out)
    go_enter Tryz.func6, Tryz.ntmps6
    go_wp2_with fail
    refine (HLV.out).mono ?_
    rintro _ w1 ⟨rfl, hb1⟩
    have B1 := Lib.hid hb1
    clear hb1
    go_wp2
    go_ret
    exact ⟨rfl, B1.out⟩
  · have hb' : ¬ (6000 : Int) < (s.size : Int) := by omega
    have hl : s.data.toList.length = s.size := by simp
    go_enter Tryz.func6, Tryz.ntmps6
    go_wp2_with fail
    refine (Parse_any s w (by omega) S0.out.ev).mono ?_
    rintro _ w1 ⟨hb1, ⟨k, i, t, A, m, c, A', m', c', x, j, rfl, hr, hl1⟩ | ⟨j, c, hr, rfl⟩⟩
    · obtain ⟨hg, hd, hs, hbw⟩ := par_good hr.out
      have G := Lib.hid (And.intro hg (And.intro hd (And.intro hs (show x.bw ≤ 6000 by omega))))
      clear hr hg hd hs hbw
      go_wp2_with fail
      obtain ⟨w2, hw2⟩ : ∃ w2, w2 = w1.alloc (.cells #[.int .i64 k, .int .i64 i, .string t, .slice A m c, .slice A' m' c'] 25) := ⟨_, rfl⟩
      obtain ⟨b1, hb1'⟩ : ∃ b1, b1 = w1.heap.size := ⟨_, rfl⟩
      rw [← hw2]
      have hb12 : Below w1.heap.size w1 w2 := by rw [hw2]; exact below_one _ _
      have K2 : Bk w2 b1 25 #[.int .i64 k, .int .i64 i, .string t, .slice A m c, .slice A' m' c'] := by rw [hw2, hb1']; exact Bk.new _ _ _
      have B2 : Hid (Below w.heap.size w w2) := Lib.hid (hb1.trans (hb12.mono hb1.size))
      have L2 := Lib.hid ((hl1.out.keep (fun p hp => hb12.cell hp.2) (fun b hp => Nat.lt_of_lt_of_le hp.2 hb12.size) : Lies w2 (Lo w2) x _))
      rw [← hb1']
      clear hb1 hl1 hb12 hw2 hb1'
      refine (prt_good (S0.out.on B2.out) L2.out G.out.1 G.out.2.1 G.out.2.2.1 G.out.2.2.2).mono ?_
      rintro _ w3 ⟨rfl, hb3⟩
      have K3 := K2.below hb3 K2.lt
      have L3 := Lib.hid (L2.out.below hb3)
      have B3 : Hid (Below w.heap.size w w3) := Lib.hid (B2.out.trans (hb3.mono B2.out.size))
      clear hb3 K2 L2 B2
      go_wp2_with fail
      refine (par_back (S0.out.on B3.out) G.out.1 G.out.2.1 G.out.2.2.1 G.out.2.2.2).mono ?_
      rintro _ w4 ⟨hb4, ⟨k4, i4, t4, A4, m4, c4, A4', m4', c4', x4, j4, rfl, hr, hl4⟩ | ⟨j4, c4, hr, _⟩⟩
      case inr => exact absurd hr.out (by intro e; cases e)
      obtain ⟨rfl, _⟩ : x = x4 ∧ _ = j4 := by have := hr.out; injection this with a b; exact ⟨a, b⟩
      have K4 := K3.below hb4 K3.lt
      have L4 := Lib.hid (L3.out.below hb4)
      have B4 : Hid (Below w.heap.size w w4) := Lib.hid (B3.out.trans (hb4.mono B3.out.size))
      clear hr K3 L3 B3
      go_wp2_with fail
      obtain ⟨w5, hw5⟩ : ∃ w5, w5 = w4.alloc (.cells #[.int .i64 k4, .int .i64 i4, .string t4, .slice A4 m4 c4, .slice A4' m4' c4'] 25) := ⟨_, rfl⟩
      obtain ⟨b2, hb2'⟩ : ∃ b2, b2 = w4.heap.size := ⟨_, rfl⟩
      rw [← hw5]
      have hb45 : Below w4.heap.size w4 w5 := by rw [hw5]; exact below_one _ _
      have K5 := K4.below hb45 K4.lt
      have L5 := Lib.hid (L4.out.below hb45)
      have M5 : Bk w5 b2 25 #[.int .i64 k4, .int .i64 i4, .string t4, .slice A4 m4 c4, .slice A4' m4' c4'] := by rw [hw5, hb2']; exact Bk.new _ _ _
      have B5 : Hid (Below w.heap.size w w5) := Lib.hid (B4.out.trans (hb45.mono B4.out.size))
      have N5 := Lib.hid ((hl4.out.keep (fun p hp => hb45.cell hp.2) (fun b hp => Nat.lt_of_lt_of_le hp.2 hb45.size) : Lies w5 (Lo w5) x _))
      rw [← hb2']
      clear hb4 hl4 hb45 hw5 hb2' K4 L4 B4
      refine (prt_good (S0.out.on B5.out) N5.out G.out.1 G.out.2.1 G.out.2.2.1 G.out.2.2.2).mono ?_
      rintro _ w6 ⟨rfl, hb6⟩
      have K6 := Lib.hid (K5.below hb6 K5.lt)
      have L6 := Lib.hid (L5.out.below hb6)
      have M6 := Lib.hid (M5.below hb6 M5.lt)
      have N6 := Lib.hid (N5.out.below hb6)
      have B6 : Hid (Below w.heap.size w w6) := Lib.hid (B5.out.trans (hb6.mono B5.out.size))
      clear hb6 K5 L5 M5 N5 B5
      have p0 := K6.out.cell 0
      have p1 := K6.out.cell 1
      have p2 := K6.out.cell 2
      have p3 := K6.out.cell 3
      have p4 := K6.out.cell 4
      go_wp2_with fail
      refine (right_yes L6.out G.out.1 G.out.2.1 G.out.2.2.1).mono ?_
      rintro _ w7 ⟨rfl, hb7⟩
      have K7 := Lib.hid (K6.out.below hb7 K6.out.lt)
      have L7 := Lib.hid (L6.out.below hb7)
      have M7 := Lib.hid (M6.out.below hb7 M6.out.lt)
      have N7 := Lib.hid (N6.out.below hb7)
      have B7 : Hid (Below w.heap.size w w7) := Lib.hid (B6.out.trans (hb7.mono B6.out.size))
      clear hb7 K6 L6 M6 N6 B6 p0 p1 p2 p3 p4
      have p0 := K7.out.cell 0
      have p1 := K7.out.cell 1
      have p2 := K7.out.cell 2
      have p3 := K7.out.cell 3
      have p4 := K7.out.cell 4
      have q0 := M7.out.cell 0
      have q1 := M7.out.cell 1
      have q2 := M7.out.cell 2
      have q3 := M7.out.cell 3
      have q4 := M7.out.cell 4
      go_wp2_with fail
      refine (same_yes L7.out N7.out).mono ?_
      rintro _ w8 ⟨rfl, hb8⟩
      have B8 : Hid (Below w.heap.size w w8) := Lib.hid (B7.out.trans (hb8.mono B7.out.size))
      clear hb8 K7 L7 M7 N7 B7 p0 p1 p2 p3 p4 q0 q1 q2 q3 q4
      go_wp2_with fail
      refine (lives_any (S0.out.on B8.out)).mono ?_
      rintro _ w9 ⟨rfl, hb9⟩
      have B9 : Hid (Below w.heap.size w w9) := Lib.hid (B8.out.trans (hb9.mono B8.out.size))
      clear hb9 B8
      go_wp2
      go_ret
      exact ⟨rfl, B9.out⟩
    · have hp := par_err hr.out
      have hj : (j : Int) ≤ (s.size : Int) := by omega
      have hc := hp.2
      have B1 := Lib.hid hb1
      clear hb1 hr hp
      go_wp2_with fail
      refine (lives_any (S0.out.on (Below.alloc B1.out B1.out.size _))).mono ?_
      rintro _ w2 ⟨rfl, hb2⟩
      have B2 : Hid (Below w.heap.size w w2) := Lib.hid ((Below.alloc B1.out B1.out.size _).trans (hb2.mono (Below.alloc B1.out B1.out.size _).size))
      clear hb2
      go_wp2
      go_ret
      exact ⟨rfl, B2.out⟩
theorem VtextCanonical_walk (s : ByteArray) (w : World) (_ : s.size ≤ maxLen) (h : Std w) : Calls Tryz.prog 6 #[.string s] w fun e w' => e = .returned (.bool true) ∧ Below w.heap.size w w' := Canonical_any s w h
end Go.Proofs.YtlgmhhimbabkjaaGreatDoor
namespace Go.Proofs.YtlgmhhimbabkjaaGreatDoor
open Go.RowKit

set_option maxRecDepth 100000 in
set_option maxHeartbeats 8000000 in
theorem Parses_any (s : ByteArray) (w : World) (hS : Std w) : Calls Tryz.prog 4 #[.string s] w fun e w' => e = .returned (.bool true) ∧ Below w.heap.size w w' := by
  have S0 := Lib.hid hS
  clear hS
  by_cases hbig : 6000 < s.size
  · have hb' : (6000 : Int) < (s.size : Int) := by omega
    have HLV := Lib.hid (lives_any S0.out)
    go_enter Tryz.func4, Tryz.ntmps4
    go_wp2_with fail
    refine (HLV.out).mono ?_
    rintro _ w1 ⟨rfl, hb1⟩
    have B1 := Lib.hid hb1
    clear hb1
    go_wp2
    go_ret
    exact ⟨rfl, B1.out⟩
  · have hb' : ¬ (6000 : Int) < (s.size : Int) := by omega
    go_enter Tryz.func4, Tryz.ntmps4
    go_wp2_with fail
    refine (Parse_any s w (by omega) S0.out.ev).mono ?_
    rintro _ w1 ⟨hb1, ⟨k, i, t, A, m, c, A', m', c', x, j, rfl, hr, hl1⟩ | ⟨j, c, hr, rfl⟩⟩
    · go_wp2_with fail
      obtain ⟨w2, hw2⟩ : ∃ w2, w2 = w1.alloc (.cells #[.int .i64 k, .int .i64 i, .string t, .slice A m c, .slice A' m' c'] 25) := ⟨_, rfl⟩
      obtain ⟨b1, hb1'⟩ : ∃ b1, b1 = w1.heap.size := ⟨_, rfl⟩
      rw [← hw2]
      have hb12 : Below w1.heap.size w1 w2 := by rw [hw2]; exact below_one _ _
      have K2 : Bk w2 b1 25 #[.int .i64 k, .int .i64 i, .string t, .slice A m c, .slice A' m' c'] := by rw [hw2, hb1']; exact Bk.new _ _ _
      have B2 : Hid (Below w.heap.size w w2) := Lib.hid (hb1.trans (hb12.mono hb1.size))
      have L2 := Lib.hid ((hl1.out.keep (fun p hp => hb12.cell hp.2) (fun b hp => Nat.lt_of_lt_of_le hp.2 hb12.size) : Lies w2 (Lo w2) x _))
      clear hl1
      rw [← hb1']
      clear hb1 hb12 hw2 hb1'
      refine (rParse_any s w2 (by omega)).mono ?_
      rintro _ w3 ⟨hb3, ⟨k4, i4, t4, A4, m4, c4, A4', m4', c4', x4, j4, rfl, hr4, hl4⟩ | ⟨j4, c4, hr4, _⟩⟩
      case inr => exact absurd (hr.out.symm.trans hr4.out) (by intro e; cases e)
      obtain ⟨rfl, _⟩ : x = x4 ∧ _ = j4 := by have := hr.out.symm.trans hr4.out; injection this with a b; exact ⟨a, b⟩
      have K3 := K2.below hb3 K2.lt
      have L3 := Lib.hid (L2.out.below hb3)
      have B3 : Hid (Below w.heap.size w w3) := Lib.hid (B2.out.trans (hb3.mono B2.out.size))
      clear K2 L2 B2
      go_upto_region 5 with (fail)
      obtain ⟨w4, hw4⟩ : ∃ w4, w4 = w3.alloc (.cells #[.int .i64 k4, .int .i64 i4, .string t4, .slice A4 m4 c4, .slice A4' m4' c4'] 25) := ⟨_, rfl⟩
      obtain ⟨b2, hb2'⟩ : ∃ b2, b2 = w3.heap.size := ⟨_, rfl⟩
      rw [← hw4]
      have hb34 : Below w3.heap.size w3 w4 := by rw [hw4]; exact below_one _ _
      have K4 := Lib.hid (K3.below hb34 K3.lt)
      have L4 := Lib.hid (L3.out.below hb34)
      have M4 : Hid (Bk w4 b2 25 #[.int .i64 k4, .int .i64 i4, .string t4, .slice A4 m4 c4, .slice A4' m4' c4']) := Lib.hid (by rw [hw4, hb2']; exact Bk.new _ _ _)
      have B4 : Hid (Below w.heap.size w w4) := Lib.hid (B3.out.trans (hb34.mono B3.out.size))
      have N4 := Lib.hid ((hl4.out.keep (fun p hp => hb34.cell hp.2) (fun b hp => Nat.lt_of_lt_of_le hp.2 hb34.size) : Lies w4 (Lo w4) _ (.agg #[.int .i64 k4, .int .i64 i4, .string t4, .slice A4 m4 c4, .slice A4' m4' c4'])))
      rw [← hb2']
      clear hb3 hb34 hw4 hb2' K3 L3 B3
      have p0 := K4.out.cell 0
      have p1 := K4.out.cell 1
      have p2 := K4.out.cell 2
      have p3 := K4.out.cell 3
      have p4 := K4.out.cell 4
      have q0 := M4.out.cell 0
      have q1 := M4.out.cell 1
      have q2 := M4.out.cell 2
      have q3 := M4.out.cell 3
      have q4 := M4.out.cell 4
      go_wp2_with fail
      refine (same_yes L4.out N4.out).mono ?_
      rintro _ w8 ⟨rfl, hb8⟩
      have B8 : Hid (Below w.heap.size w w8) := Lib.hid (B4.out.trans (hb8.mono B4.out.size))
      clear hb8 K4 L4 M4 N4 B4 p0 p1 p2 p3 p4 q0 q1 q2 q3 q4
      go_wp2_with fail
      refine (lives_any (S0.out.on B8.out)).mono ?_
      rintro _ w9 ⟨rfl, hb9⟩
      have B9 : Hid (Below w.heap.size w w9) := Lib.hid (B8.out.trans (hb9.mono B8.out.size))
      clear hb9 B8
      go_wp2
      go_ret
      exact ⟨rfl, B9.out⟩
    · have tj : ((j : Int) == (j : Int)) = true := by simp
      have tc : (c == c) = true := by simp
      go_wp2_with fail
      obtain ⟨w2, hw2⟩ : ∃ w2, w2 = w1.alloc (.cells #[.int .i64 0, .int .i64 0, .string ⟨#[]⟩, .slice none 0 0, .slice none 0 0] 25) := ⟨_, rfl⟩
      obtain ⟨b1, hb1'⟩ : ∃ b1, b1 = w1.heap.size := ⟨_, rfl⟩
      rw [← hw2]
      have hb12 : Below w1.heap.size w1 w2 := by rw [hw2]; exact below_one _ _
      have K2 : Bk w2 b1 25 #[.int .i64 0, .int .i64 0, .string ⟨#[]⟩, .slice none 0 0, .slice none 0 0] := by rw [hw2, hb1']; exact Bk.new _ _ _
      have B2 : Hid (Below w.heap.size w w2) := Lib.hid (hb1.trans (hb12.mono hb1.size))
      have L2 : Hid (Lies w2 (Lo w2) nullT (.agg #[.int .i64 0, .int .i64 0, .string ⟨#[]⟩, .slice none 0 0, .slice none 0 0])) := Lib.hid (zero_lies _ _)
      rw [← hb1']
      clear hb1 hb12 hw2 hb1'
      refine (rParse_any s w2 (by omega)).mono ?_
      rintro _ w3 ⟨hb3, ⟨k4, i4, t4, A4, m4, c4, A4', m4', c4', x4, j4, _, hr4, _⟩ | ⟨j4, c4, hr4, rfl⟩⟩
      case inl => exact absurd (hr.out.symm.trans hr4.out) (by intro e; cases e)
      obtain ⟨rfl, rfl⟩ : j = j4 ∧ c = c4 := by have := hr.out.symm.trans hr4.out; injection this with a b; exact ⟨a, b⟩
      have K3 := K2.below hb3 K2.lt
      have L3 := Lib.hid (L2.out.below hb3)
      have B3 : Hid (Below w.heap.size w w3) := Lib.hid (B2.out.trans (hb3.mono B2.out.size))
      clear K2 L2 B2
      go_upto_region 5 with (fail)
      obtain ⟨w4, hw4⟩ : ∃ w4, w4 = w3.alloc (.cells #[.int .i64 0, .int .i64 0, .string ⟨#[]⟩, .slice none 0 0, .slice none 0 0] 25) := ⟨_, rfl⟩
      obtain ⟨b2, hb2'⟩ : ∃ b2, b2 = w3.heap.size := ⟨_, rfl⟩
      rw [← hw4]
      have hb34 : Below w3.heap.size w3 w4 := by rw [hw4]; exact below_one _ _
      have K4 := Lib.hid (K3.below hb34 K3.lt)
      have L4 := Lib.hid (L3.out.below hb34)
      have M4 : Hid (Bk w4 b2 25 #[.int .i64 0, .int .i64 0, .string ⟨#[]⟩, .slice none 0 0, .slice none 0 0]) := Lib.hid (by rw [hw4, hb2']; exact Bk.new _ _ _)
      have B4 : Hid (Below w.heap.size w w4) := Lib.hid (B3.out.trans (hb34.mono B3.out.size))
      have N4 := Lib.hid ((zero_lies _ _ : Lies w4 (Lo w4) _ (.agg #[.int .i64 0, .int .i64 0, .string ⟨#[]⟩, .slice none 0 0, .slice none 0 0])))
      rw [← hb2']
      clear hb3 hb34 hw4 hb2' K3 L3 B3
      have p0 := K4.out.cell 0
      have p1 := K4.out.cell 1
      have p2 := K4.out.cell 2
      have p3 := K4.out.cell 3
      have p4 := K4.out.cell 4
      have q0 := M4.out.cell 0
      have q1 := M4.out.cell 1
      have q2 := M4.out.cell 2
      have q3 := M4.out.cell 3
      have q4 := M4.out.cell 4
      go_wp2_with fail
      refine (same_yes L4.out N4.out).mono ?_
      rintro _ w8 ⟨rfl, hb8⟩
      have B8 : Hid (Below w.heap.size w w8) := Lib.hid (B4.out.trans (hb8.mono B4.out.size))
      clear hb8 K4 L4 M4 N4 B4 p0 p1 p2 p3 p4 q0 q1 q2 q3 q4
      go_wp2_with fail
      refine (lives_any (S0.out.on B8.out)).mono ?_
      rintro _ w9 ⟨rfl, hb9⟩
      have B9 : Hid (Below w.heap.size w w9) := Lib.hid (B8.out.trans (hb9.mono B8.out.size))
      clear hb9 B8
      go_wp2
      go_ret
      exact ⟨rfl, B9.out⟩
theorem VtextParses_walk (s : ByteArray) (w : World) (_ : s.size ≤ maxLen) (h : Std w) : Calls Tryz.prog 4 #[.string s] w fun e w' => e = .returned (.bool true) ∧ Below w.heap.size w w' := Parses_any s w h
end Go.Proofs.YtlgmhhimbabkjaaGreatDoor
namespace Go.Proofs.YtlgmhhimbabkjaaGreatDoor.opens
open Go.ChangeShapes Go.WideShapes Go.ChangeAt Go.RowKit

theorem int64 {a : Int} (h : (Lit.int .i64 a).wf = true) : -9223372036854775808 ≤ a ∧ a ≤ 9223372036854775807 := by
  simpa [Lit.wf, IntKind.min, IntKind.max, IntKind.signed, IntKind.bits] using h

/-- numbers that fit a byte, as bytes -/
theorem as_bytes : ∀ (zs : List Int), (∀ n ∈ zs, (Lit.int .u8 n).wf = true) → ∃ l : List UInt8, zs = l.map fun c => (c.toNat : Int)
  | [], _ => ⟨[], rfl⟩
  | z :: r, h => by
    obtain ⟨l, hl⟩ := as_bytes r fun n hn => h n (List.mem_cons_of_mem _ hn)
    have hz : 0 ≤ z ∧ z ≤ 255 := by simpa [Lit.wf, IntKind.min, IntKind.max, IntKind.signed, IntKind.bits] using h z List.mem_cons_self
    refine ⟨UInt8.ofNat z.toNat :: l, ?_⟩
    rw [List.map_cons, ← hl]
    congr 1
    have : (UInt8.ofNat z.toNat).toNat = z.toNat := by simp; omega
    rw [this]
    omega

section
variable {H : Type} {enc : TypeId × Value → H} {P : Program} {W : World} {base : Nat} {spare : Nat → Bool} {held : Bool}
/-- a slice of bytes that came in reads as a list -/
theorem bytes {r : Reach} {b0 : Nat} {t e : TypeId} {v : Value} {d : DataW H} {ps : List MemPlace} (ht : P.underlying t = some (.slice e)) (he : P.underlying e = some (.int .u8)) (hc : P.cellsOf e = 1)
    (hval : Value.okWide P W r b0 t v) (hd : DataW.Trod enc P W base spare held t v d ps) : ∃ A n c l, v = .slice A n c ∧ Rb W W.heap.size A n l ∧ n ≤ c ∧ c ≤ maxLen := by
  obtain ⟨A, n, c, rfl⟩ := okWide_slice ht hval
  obtain ⟨fuel, hf⟩ := hd
  rcases open_ints ht he hc hf with ⟨hcs, _⟩ | ⟨x, len, cap, zs, hcs, _, hl, hm, hz, _, hcell, hwz⟩
  · simp [Value.cells] at hcs
    obtain ⟨rfl, rfl, rfl⟩ := hcs
    exact ⟨none, 0, 0, [], rfl, ⟨rfl, fun h => absurd rfl h⟩, Nat.le_refl _, Nat.zero_le _⟩
  · simp [Value.cells] at hcs
    obtain ⟨rfl, rfl, rfl⟩ := hcs
    obtain ⟨l, hlz⟩ := as_bytes zs hwz
    have hlen : n ≤ l.length := by
      have h1 : zs.length = l.length := by rw [hlz, List.length_map]
      rw [← h1, hz]
      split <;> omega
    refine ⟨some x, n, c, l.take n, rfl, ⟨by rw [List.length_take]; omega, fun hne => ?_⟩, hl, hm⟩
    have hpos : 0 < zs.length := by
      rw [hlz, List.length_map]
      rcases Nat.eq_zero_or_pos n with h0 | h0
      · subst h0; simp at hne
      · omega
    obtain ⟨b, off, rfl, hcc⟩ := ints_at hcell hpos
    refine ⟨b, off, rfl, World.block_lt_of_cell? W _ (hcc 0 hpos), fun j c' hj => ?_⟩
    have hj2 : l[j]? = some c' := by
      rw [List.getElem?_take] at hj
      split at hj
      · exact hj
      · cases hj
    have hjl : j < zs.length := by rw [hlz, List.length_map]; exact (List.getElem?_eq_some_iff.1 hj2).1
    rw [hcc j hjl, hlz, List.getD_eq_getElem?_getD, List.getElem?_map, hj2]
    rfl
end
end Go.Proofs.YtlgmhhimbabkjaaGreatDoor.opens
namespace Go.Proofs.YtlgmhhimbabkjaaGreatDoor
open Go.RowKit Go.ChangeShapes

def laid5 : List (String × DataW Unit) := [("math/bits.deBruijn32tab", Rows.laid_math_bits_deBruijn32tab), ("math/bits.deBruijn64tab", Rows.laid_math_bits_deBruijn64tab), ("internal/strconv.uint64pow10", Rows.laid_internal_strconv_uint64pow10), ("strconv.ErrRange", Rows.laid_strconv_ErrRange), ("strconv.ErrSyntax", Rows.laid_strconv_ErrSyntax)]
theorem star : "*" ++ "errors.errorString" = "*errors.errorString" := by decide
theorem one_ptr (u : TypeId) (h : Tryz.prog.typeName? 3 u = some "*errors.errorString") : u = 122 :=
  typeName_ptr_named (nm := "errors.errorString") (by rw [star]; kernel_rfl) (by kernel_rfl) (by decide) u (by rw [star]; exact h)
theorem std_of_laid {W : World} (h : laidMetH Tryz.prog laid5 W) : Std W := by
  rw [MakeChecks.laidMetH_plain _ _ _ (by kernel_rfl)] at h
  have hT : laidMet Tryz.prog (("internal/strconv.uint64pow10", Lib.tabData .u64 Lib.pow10Tab) :: [("strconv.ErrRange", Rows.laid_strconv_ErrRange), ("strconv.ErrSyntax", Rows.laid_strconv_ErrSyntax)]) W := h.tail.tail
  have gT : Tryz.prog.globalNamed "internal/strconv.uint64pow10" = some 1 := by kernel_rfl
  have tab := Lib.tabIs_of_head gT (t := 107) (e := 85) (n := 20) (by kernel_rfl) (by kernel_rfl) (by kernel_rfl) (by kernel_rfl) (by kernel_rfl) hT
  have gR : Tryz.prog.globalNamed "strconv.ErrRange" = some 3 := by kernel_rfl
  have gS : Tryz.prog.globalNamed "strconv.ErrSyntax" = some 2 := by kernel_rfl
  obtain ⟨a0, _, hv0, _⟩ := laid_sentinel hT.tail gR (ti := 80) (by kernel_rfl) Tryz.underlying80 one_ptr Tryz.underlying122 Tryz.underlying124 rfl rfl Tryz.underlying9 (by kernel_rfl) (by kernel_rfl)
  obtain ⟨a1, _, hv1, _⟩ := laid_sentinel hT.tail.tail gS (ti := 80) (by kernel_rfl) Tryz.underlying80 one_ptr Tryz.underlying122 Tryz.underlying124 rfl rfl Tryz.underlying9 (by kernel_rfl) (by kernel_rfl)
  have c0 : W.cell? ⟨3, 0, none⟩ = some (.iface 122 (.pointer (some a0))) := World.var?_cell gR hv0 0
  have c1 : W.cell? ⟨2, 0, none⟩ = some (.iface 122 (.pointer (some a1))) := World.var?_cell gS hv1 0
  have l0 : 3 < W.heap.size := World.block_lt_of_cell? W _ c0
  have l1 : 2 < W.heap.size := World.block_lt_of_cell? W _ c1
  have lT : 1 < W.heap.size := World.block_lt_of_cell? W ⟨1, 0, none⟩ (World.var?_cell gT tab 0)
  refine ⟨⟨⟨_, _, c1⟩, ⟨_, _, c0⟩, by omega, by omega⟩, fun W' hb => ?_⟩
  unfold Lib.TabIs World.var? at *
  rw [gT] at tab ⊢
  simp only [Option.bind_some] at tab ⊢
  rw [hb.block _ lT]
  exact tab
end Go.Proofs.YtlgmhhimbabkjaaGreatDoor
namespace Go.Proofs.YtlgmhhimbabkjaaGreatDoor.vtextParses
open Go.ChangeShapes Go.WideShapes Go.ChangeAt Go.RowKit
open Go.ChangeMaps (open_string)
set_option linter.unusedVariables false

theorem own : ownKnob Tryz.prog.godebug = none := by kernel_rfl
theorem laidOut : laidOutB Tryz.prog = true := by kernel_rfl

set_option maxRecDepth 100000 in
theorem lifted (os : Os) (started : os.Started) (H : Type) (enc : TypeId × Value → H) :
    ReturnsInHanded {} Tryz.checked os 4 .any (fun w args => (Rows.vtextParsesSpec.pre enc Tryz.prog Tryz.f4 [] false w args ∧ laidMetH Tryz.prog laid5 w) ∧ sizedMet enc Tryz.prog Tryz.f4 (OpenSpec.ofChange Rows.vtextParsesSpec) false w args)
      (Rows.vtextParsesSpec.post enc Tryz.prog Tryz.f4 false true false false) := by
  refine returnsInHanded_of_change_and (C := Tryz.checked) (X := fun w _ => laidMetH Tryz.prog laid5 w) (fun _ _ _ hh h => h.of_heap hh) own started (by kernel_rfl) Tryz.func4
    (ChangeSpec.witness_shaped (enc := enc) (C := Tryz.checked) (os := os) (X := fun w _ => laidMetH Tryz.prog laid5 w) false (World.laidAll Tryz.prog os laid5) #[.string ByteArray.empty] 8 (World.laidAll_os _ _ _)
      (World.shaped_of_ZipB (by kernel_rfl) (by kernel_rfl)) (by kernel_rfl) (by kernel_rfl) (by kernel_rfl)
      (by rw [MakeChecks.laidMetH_plain _ _ _ (by kernel_rfl)]; exact laidMet_laidAll _ (by kernel_rfl) (by kernel_rfl))) ?_
  intro W base args ds gs before hval0 hW hcnd _ hL _
  have hval : ∀ (j : Nat) t v, Tryz.f4.params[j]? = some t → args[j]? = some v → Value.okWide Tryz.prog W .any base t v := hval0
  have hW' := hW
  obtain ⟨p, q, hA0, hV, rfl, hfz, hnd⟩ := hW
  have hA : DataW.TrodAll enc Tryz.prog W 0 (fun _ => true) true Tryz.f4.params.toList args.toList ds p := hA0
  rw [Tryz.params4] at hA hval
  obtain ⟨v0, vs0, d0, ds0, p0, q0, hargs, rfl, rfl, h0, r0⟩ := trodAll_cons hA
  obtain ⟨rfl, rfl, rfl⟩ := trodAll_nil r0
  obtain rfl : args = #[v0] := by cases args; simp_all
  obtain ⟨rfl, rfl⟩ := trodVars_none hV
  have k0 := h0
  have lt0 : ∀ x ∈ p0, x.block < W.heap.size := by obtain ⟨m, hm⟩ := k0; exact DataW.trod_lt m _ _ _ hm
  obtain ⟨a0, rfl, _, _, w0⟩ := open_string Tryz.underlying9 (hval 0 9 v0 rfl rfl) h0
  clear hA0 hval0
  refine (VtextParses_walk a0 W w0 (std_of_laid hL)).mono fun e W' ⟨he, bel⟩ => ?_
  subst he
  exact ⟨_, rfl, _, _, _, [], _, [], hW', trodAll_mk1 (shut_bool Tryz.underlying4 _), (trodAll_cons_mk (Below.trod laidOut (by kernel_rfl) (of_decide_eq_true (by kernel_rfl)) k0 bel lt0) (trodAll_mk0)), rfl, bel.frame _, fun h => by cases h⟩

theorem over : Rows.VtextParsesSaid :=
  OpenClaim.holds_of_wide 4 Tryz.f4 rfl rfl rfl rfl rfl rfl rfl ⟨rfl, rfl, rfl, rfl, rfl⟩ rfl rfl rfl rfl rfl (by kernel_rfl) Tryz.func4 (by kernel_rfl)
    (of_decide_eq_true (by kernel_rfl)) (by unfold Func.isWrapper; first | (rw [if_pos (by decide +kernel)]; kernel_rfl) | (rw [if_neg (by decide +kernel)]; exact ⟨rfl, rfl⟩))
    (fun os started H enc _ => lifted os started H enc)

theorem proved : Rows.VtextParsesCardSaid :=
  Claim7.holds_tied_plain_at .later [] [.data, .data, .data, .sentinel, .sentinel] true (true, "fe0d9424112cb371bb1f1ac3ea8c1ad4d7a81c9e75e0a1b0c539368b0408efe8") true
    over (fun _ h => by cases h) (by kernel_rfl) (fun _ h => by cases h) vtextParses_row_tie rfl ⟨rfl, rfl⟩ (by kernel_rfl) rfl
    (fun f fn hf hfn => by
      obtain rfl : f = 4 := Option.some.inj ((show Tryz.prog.funcNamed "workflow/workflowlaw03.VtextParses" = some 4 by kernel_rfl).symm.trans hf) |>.symm
      obtain rfl : fn = Tryz.f4 := (Option.some.inj (Tryz.func4.symm.trans hfn)).symm
      exact ⟨by kernel_rfl, fun j t ht => by
          rw [Tryz.params4] at ht
          have h3 : t = 9 := by
            rcases j with _ | j
            · have h4 : t = 9 := by simpa using ht.symm
              subst h4; decide
            · simp at ht
          rcases h3 with rfl
          exact (show Tryz.prog.wantsStandIn 9 = false by kernel_rfl)⟩)
    (by kernel_rfl)
end Go.Proofs.YtlgmhhimbabkjaaGreatDoor.vtextParses
