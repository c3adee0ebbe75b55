/-
  The values of layer 2 as trees: what is measured and compared, as plain functions. No program is named here.
-/
import Derived.Test.YtlgmhhimbabkjaaGreatDoorBytes
import Derived.Test.YtlgmhhimbabkjaaGreatDoorWireMath
namespace Go.Proofs.YtlgmhhimbabkjaaGreatDoor
open Go.RowKit

/-- a value: its kind, its integer, its text, its items, its keys -/
inductive VT where
  | mk (k i : Int) (t : ByteArray) (its : List VT) (ks : List ByteArray)

namespace VT
def k : VT → Int | .mk k _ _ _ _ => k
def i : VT → Int | .mk _ i _ _ _ => i
def t : VT → ByteArray | .mk _ _ t _ _ => t
def its : VT → List VT | .mk _ _ _ s _ => s
def ks : VT → List ByteArray | .mk _ _ _ _ s => s
end VT

def nullT : VT := .mk 0 0 ByteArray.empty [] []
instance : Inhabited VT := ⟨nullT⟩

/-! ### measures -/
mutual
def VT.size : VT → Nat
  | .mk _ _ _ its _ => 1 + sizes its
def sizes : List VT → Nat
  | [] => 0
  | x :: r => x.size + sizes r
end
mutual
def VT.depth : VT → Nat
  | .mk _ _ _ its _ => depths its + 1
def depths : List VT → Nat
  | [] => 0
  | x :: r => max x.depth (depths r)
end
theorem sizes_append (a b : List VT) : sizes (a ++ b) = sizes a + sizes b := by
  induction a with
  | nil => simp [sizes]
  | cons x r ih => simp [sizes, ih]; omega
theorem depths_append (a b : List VT) : depths (a ++ b) = max (depths a) (depths b) := by
  induction a with
  | nil => simp [depths]
  | cons x r ih => simp [depths, ih, Nat.max_assoc]
theorem sizes_take {l : List VT} {j : Nat} {x : VT} (h : l[j]? = some x) : sizes (l.take (j + 1)) = sizes (l.take j) + x.size := by
  rw [List.take_add_one, h, sizes_append]
  simp [sizes]
theorem depths_take {l : List VT} {j : Nat} {x : VT} (h : l[j]? = some x) : depths (l.take (j + 1)) = max (depths (l.take j)) x.depth := by
  rw [List.take_add_one, h, depths_append]
  simp [depths]
theorem size_pos : ∀ x : VT, 1 ≤ x.size
  | .mk .. => by simp [VT.size]
theorem depth_pos : ∀ x : VT, 1 ≤ x.depth
  | .mk .. => by simp [VT.depth]
theorem VT.size_mk (k i : Int) (t : ByteArray) (its : List VT) (ks : List ByteArray) : (VT.mk k i t its ks).size = 1 + sizes its := by rw [VT.size]
theorem VT.depth_mk (k i : Int) (t : ByteArray) (its : List VT) (ks : List ByteArray) : (VT.mk k i t its ks).depth = depths its + 1 := by rw [VT.depth]
theorem sizes_take_le (l : List VT) (j : Nat) : sizes (l.take j) ≤ sizes l := by
  have := sizes_append (l.take j) (l.drop j)
  rw [List.take_append_drop] at this
  omega
theorem depths_take_le (l : List VT) (j : Nat) : depths (l.take j) ≤ depths l := by
  have := depths_append (l.take j) (l.drop j)
  rw [List.take_append_drop] at this
  omega
theorem size_at {l : List VT} {j : Nat} {x : VT} (h : l[j]? = some x) : x.size ≤ sizes l := by
  have h1 := sizes_take h
  have h2 := sizes_take_le l (j + 1)
  omega
theorem depth_at {l : List VT} {j : Nat} {x : VT} (h : l[j]? = some x) : x.depth ≤ depths l := by
  have h1 := depths_take h
  have h2 := depths_take_le l (j + 1)
  omega
theorem sizes_room (l : List VT) (j : Nat) : sizes (l.take j) + (l.length - j) ≤ sizes l := by
  have h1 := sizes_append (l.take j) (l.drop j)
  rw [List.take_append_drop] at h1
  have h2 : ∀ m : List VT, m.length ≤ sizes m := fun m => by
    induction m with
    | nil => simp
    | cons x r ih => have := size_pos x; simp [sizes]; omega
  have := h2 (l.drop j)
  rw [List.length_drop] at this
  omega
theorem depth_le_size : (n : Nat) → ∀ x : VT, x.size ≤ n → x.depth ≤ x.size
  | 0, x, h => by have := size_pos x; omega
  | n + 1, .mk k i t its ks, h => by
    rw [VT.size_mk] at h ⊢
    rw [VT.depth_mk]
    have : ∀ l : List VT, sizes l ≤ n → depths l ≤ sizes l := fun l => by
      induction l with
      | nil => intro _; simp [depths]
      | cons x r ih =>
        intro hl
        simp only [sizes, depths] at hl ⊢
        have := depth_le_size n x (by omega)
        have := ih (by omega)
        omega
    have := this its (by omega)
    omega

/-! ### a test of every node -/
mutual
def VT.all (p : VT → Bool) : VT → Bool
  | .mk k i t its ks => p (.mk k i t its ks) && alls p its
def alls (p : VT → Bool) : List VT → Bool
  | [] => true
  | x :: r => x.all p && alls p r
end
theorem VT.all_mk (p : VT → Bool) (k i : Int) (t : ByteArray) (its : List VT) (ks : List ByteArray) : (VT.mk k i t its ks).all p = (p (.mk k i t its ks) && alls p its) := by rw [VT.all]
theorem alls_append (p : VT → Bool) (a b : List VT) : alls p (a ++ b) = (alls p a && alls p b) := by
  induction a with
  | nil => simp [alls]
  | cons x r ih => simp [alls, ih, Bool.and_assoc]
theorem alls_take {p : VT → Bool} {l : List VT} {j : Nat} {x : VT} (h : l[j]? = some x) : alls p (l.take (j + 1)) = (alls p (l.take j) && x.all p) := by
  rw [List.take_add_one, h, alls_append]
  simp [alls]
theorem alls_false {p : VT → Bool} {l : List VT} {j : Nat} {x : VT} (h : l[j]? = some x) (hx : x.all p = false) : alls p l = false := by
  have h1 : alls p (l.take (j + 1)) = false := by rw [alls_take h, hx, Bool.and_false]
  have h2 := alls_append p (l.take (j + 1)) (l.drop (j + 1))
  rw [List.take_append_drop, h1] at h2
  simpa using h2
theorem all_at {p : VT → Bool} {l : List VT} {j : Nat} {x : VT} (ha : alls p l = true) (h : l[j]? = some x) : x.all p = true := by
  cases hx : x.all p with
  | true => rfl
  | false => rw [alls_false h hx] at ha; cases ha
theorem VT.all_here {p : VT → Bool} : ∀ {x : VT}, x.all p = true → p x = true
  | .mk .., h => by rw [VT.all_mk, Bool.and_eq_true] at h; exact h.1
theorem VT.all_its {p : VT → Bool} : ∀ {x : VT}, x.all p = true → alls p x.its = true
  | .mk .., h => by rw [VT.all_mk, Bool.and_eq_true] at h; exact h.2

/-! ### strings -/
/-- one string is less than another one -/
def less (a b : ByteArray) : Bool := Op.bytesLess a.toList b.toList
theorem bl_irrefl : ∀ a : List UInt8, Op.bytesLess a a = false
  | [] => rfl
  | x :: r => by simp [Op.bytesLess, bl_irrefl r]
theorem bl_tri : ∀ a b : List UInt8, a ≠ b → Op.bytesLess a b = !Op.bytesLess b a
  | [], [], h => absurd rfl h
  | [], _ :: _, _ => rfl
  | _ :: _, [], _ => rfl
  | x :: a, y :: b, h => by
    simp only [Op.bytesLess]
    rcases Nat.lt_trichotomy x.toNat y.toNat with h1 | h1 | h1
    · have h2 : x < y := UInt8.lt_iff_toNat_lt.2 h1
      have h3 : ¬ y < x := fun e => by have := UInt8.lt_iff_toNat_lt.1 e; omega
      have h4 : (y == x) = false := by rw [beq_eq_false_iff_ne]; intro e; subst e; omega
      simp [h2, h3, h4]
    · obtain rfl : x = y := UInt8.toNat_inj.1 h1
      have h3 : ¬ x < x := fun e => by have := UInt8.lt_iff_toNat_lt.1 e; omega
      have := bl_tri a b (fun e => h (by rw [e]))
      simp [h3, this]
    · have h2 : y < x := UInt8.lt_iff_toNat_lt.2 h1
      have h3 : ¬ x < y := fun e => by have := UInt8.lt_iff_toNat_lt.1 e; omega
      have h4 : (x == y) = false := by rw [beq_eq_false_iff_ne]; intro e; subst e; omega
      simp [h2, h3, h4]
theorem bl_trans : ∀ a b c : List UInt8, Op.bytesLess a b = true → Op.bytesLess b c = true → Op.bytesLess a c = true
  | _, [], _, h, _ => by simp [Op.bytesLess] at h
  | _, _ :: _, [], _, k => by simp [Op.bytesLess] at k
  | [], _ :: _, _ :: _, _, _ => rfl
  | x :: a, y :: b, z :: c, h, k => by
    simp only [Op.bytesLess, Bool.or_eq_true, decide_eq_true_eq, Bool.and_eq_true, beq_iff_eq] at h k ⊢
    rcases h with h | ⟨rfl, h⟩ <;> rcases k with k | ⟨rfl, k⟩
    · exact Or.inl (UInt8.lt_iff_toNat_lt.2 (Nat.lt_trans (UInt8.lt_iff_toNat_lt.1 h) (UInt8.lt_iff_toNat_lt.1 k)))
    · exact Or.inl h
    · exact Or.inl k
    · exact Or.inr ⟨rfl, bl_trans a b c h k⟩
theorem str_inj {a b : ByteArray} (h : a.toList = b.toList) : a = b := by
  rw [ByteArray.toList_eq, ByteArray.toList_eq] at h
  cases a; cases b; simpa using h
/-- two strings: less, equal, or greater; each with all that the operators say -/
theorem str_ways (a b : ByteArray) :
    (Op.bytesLess a.toList b.toList = true ∧ (a.toList == b.toList) = false ∧ (b.toList == a.toList) = false ∧ Op.bytesLess b.toList a.toList = false ∧ a ≠ b) ∨
    (a = b ∧ Op.bytesLess a.toList b.toList = false ∧ (a.toList == b.toList) = true ∧ (b.toList == a.toList) = true ∧ Op.bytesLess b.toList a.toList = false) ∨
    (Op.bytesLess a.toList b.toList = false ∧ (a.toList == b.toList) = false ∧ (b.toList == a.toList) = false ∧ Op.bytesLess b.toList a.toList = true ∧ a ≠ b) := by
  by_cases h : a = b
  · subst h
    exact Or.inr (Or.inl ⟨rfl, bl_irrefl _, by simp, by simp, bl_irrefl _⟩)
  · have hne : a.toList ≠ b.toList := fun e => h (str_inj e)
    have h1 : (a.toList == b.toList) = false := beq_eq_false_iff_ne.2 hne
    have h2 : (b.toList == a.toList) = false := beq_eq_false_iff_ne.2 (fun e => hne e.symm)
    have h3 := bl_tri _ _ hne
    cases h4 : Op.bytesLess b.toList a.toList with
    | true => rw [h4] at h3; exact Or.inr (Or.inr ⟨h3, h1, h2, rfl, h⟩)
    | false => rw [h4] at h3; exact Or.inl ⟨h3, h1, h2, rfl, h⟩
/-- the keys are ascending up to the one at n -/
def risingTo (ks : List ByteArray) (n : Nat) : Bool := (List.range n).all fun j => less (ks.getD j ByteArray.empty) (ks.getD (j + 1) ByteArray.empty)
def rising (ks : List ByteArray) : Bool := risingTo ks (ks.length - 1)
theorem risingTo_succ (ks : List ByteArray) (n : Nat) : risingTo ks (n + 1) = (risingTo ks n && less (ks.getD n ByteArray.empty) (ks.getD (n + 1) ByteArray.empty)) := by
  unfold risingTo
  rw [List.range_succ, List.all_append]
  simp
theorem risingTo_false {ks : List ByteArray} {n m : Nat} (h : risingTo ks n = false) (hm : n ≤ m) : risingTo ks m = false := by
  unfold risingTo at h ⊢
  rw [List.all_eq_false] at h ⊢
  obtain ⟨j, hj, hl⟩ := h
  exact ⟨j, List.mem_range.2 (by have := List.mem_range.1 hj; omega), hl⟩

/-! ### well formed, a future, short -/
/-- the fields of a kind and no others -/
def okF (x : VT) : Bool :=
  if x.k = 0 then decide (x.i = 0) && (decide (x.t.size = 0) && (decide (x.its.length = 0) && decide (x.ks.length = 0)))
  else if x.k = 1 then (decide (x.i = 0) || decide (x.i = 1)) && (decide (x.t.size = 0) && (decide (x.its.length = 0) && decide (x.ks.length = 0)))
  else if x.k = 2 then decide (x.t.size = 0) && (decide (x.its.length = 0) && decide (x.ks.length = 0))
  else if x.k = 3 then decide (x.i = 0) && (decide (x.its.length = 0) && decide (x.ks.length = 0))
  else if x.k = 4 then decide (x.i = 0) && (decide (x.t.size = 0) && decide (x.ks.length = 0))
  else if x.k = 5 then decide (x.i = 0) && (decide (x.t.size = 0) && (decide (x.ks.length = x.its.length) && rising x.ks))
  else if x.k = 6 then decide (0 ≤ x.i) && (decide (x.t.size = 0) && (decide (x.its.length = 0) && decide (x.ks.length = 0)))
  else false
theorem okF_0 (i : Int) (t : ByteArray) (its : List VT) (ks : List ByteArray) : okF (.mk 0 i t its ks) = (decide (i = 0) && (decide (t.size = 0) && (decide (its.length = 0) && decide (ks.length = 0)))) := rfl
theorem okF_1 (i : Int) (t : ByteArray) (its : List VT) (ks : List ByteArray) : okF (.mk 1 i t its ks) = ((decide (i = 0) || decide (i = 1)) && (decide (t.size = 0) && (decide (its.length = 0) && decide (ks.length = 0)))) := rfl
theorem okF_2 (i : Int) (t : ByteArray) (its : List VT) (ks : List ByteArray) : okF (.mk 2 i t its ks) = (decide (t.size = 0) && (decide (its.length = 0) && decide (ks.length = 0))) := rfl
theorem okF_3 (i : Int) (t : ByteArray) (its : List VT) (ks : List ByteArray) : okF (.mk 3 i t its ks) = (decide (i = 0) && (decide (its.length = 0) && decide (ks.length = 0))) := rfl
theorem okF_4 (i : Int) (t : ByteArray) (its : List VT) (ks : List ByteArray) : okF (.mk 4 i t its ks) = (decide (i = 0) && (decide (t.size = 0) && decide (ks.length = 0))) := rfl
theorem okF_5 (i : Int) (t : ByteArray) (its : List VT) (ks : List ByteArray) : okF (.mk 5 i t its ks) = (decide (i = 0) && (decide (t.size = 0) && (decide (ks.length = its.length) && rising ks))) := rfl
theorem okF_6 (i : Int) (t : ByteArray) (its : List VT) (ks : List ByteArray) : okF (.mk 6 i t its ks) = (decide (0 ≤ i) && (decide (t.size = 0) && (decide (its.length = 0) && decide (ks.length = 0)))) := rfl
def VT.wf (x : VT) : Bool := x.all okF
def noFut (x : VT) : Bool := decide (x.k ≠ 6)
def shortF (x : VT) : Bool := decide (x.t.size ≤ 4096) && x.ks.all fun s => decide (s.size ≤ 4096)
def VT.within (x : VT) : Bool := x.all shortF && (decide (x.depth ≤ 16) && decide (x.size ≤ 1000))
def VT.right (x : VT) : Bool := x.wf && (x.within && x.all noFut)

/-! ### at most n nodes -/
mutual
def VT.few : VT → Int → Int
  | .mk _ _ _ its _, n => fews its (n - 1)
def fews : List VT → Int → Int
  | [], n => n
  | x :: r, n => if n < 0 then n else fews r (x.few n)
end
theorem VT.few_mk (k i : Int) (t : ByteArray) (its : List VT) (ks : List ByteArray) (n : Int) : (VT.mk k i t its ks).few n = fews its (n - 1) := by rw [VT.few]
theorem fews_neg {l : List VT} {n : Int} (h : n < 0) : fews l n = n := by
  cases l with
  | nil => rw [fews]
  | cons x r => rw [fews, if_pos h]
theorem fews_append (a b : List VT) (n : Int) : fews (a ++ b) n = fews b (fews a n) := by
  induction a generalizing n with
  | nil => simp [fews]
  | cons x r ih =>
    rw [List.cons_append, fews, fews]
    split
    · rw [fews_neg (by assumption)]
    · rw [ih]
theorem fews_take {l : List VT} {j : Nat} {x : VT} {n : Int} (h : l[j]? = some x) (hn : 0 ≤ fews (l.take j) n) : fews (l.take (j + 1)) n = x.few (fews (l.take j) n) := by
  rw [List.take_add_one, h, fews_append]
  simp only [Option.toList_some, fews]
  rw [if_neg (by omega)]
theorem fews_stop {l : List VT} {j : Nat} {n : Int} (hn : fews (l.take j) n < 0) : fews l n = fews (l.take j) n := by
  have := fews_append (l.take j) (l.drop j) n
  rw [List.take_append_drop] at this
  rw [this, fews_neg hn]
mutual
theorem VT.few_sum : ∀ (x : VT) (n : Int), 0 ≤ x.few n → x.few n = n - x.size
  | .mk k i t its ks, n, h => by
    rw [VT.few_mk] at h ⊢
    rw [VT.size_mk, fews_sum its _ h]
    omega
theorem fews_sum : ∀ (l : List VT) (n : Int), 0 ≤ fews l n → fews l n = n - sizes l
  | [], n, _ => by simp [fews, sizes]
  | x :: r, n, h => by
    rw [fews] at h ⊢
    split at h
    · omega
    · rw [if_neg (by assumption), sizes]
      have h1 := fews_sum r _ h
      rw [h1] at h ⊢
      have h2 := VT.few_sum x n (by omega)
      omega
end
mutual
theorem VT.few_ge : ∀ (x : VT) (n : Int), 0 ≤ n → -1 ≤ x.few n
  | .mk k i t its ks, n, h => by
    rw [VT.few_mk]
    exact fews_ge its _ (by omega)
theorem fews_ge : ∀ (l : List VT) (n : Int), -1 ≤ n → -1 ≤ fews l n
  | [], n, h => by simpa [fews] using h
  | x :: r, n, h => by
    rw [fews]
    split
    · exact h
    · exact fews_ge r _ (VT.few_ge x n (by omega))
end
mutual
theorem VT.few_le : ∀ (x : VT) (n : Int), x.few n ≤ n
  | .mk k i t its ks, n => by
    rw [VT.few_mk]
    have := fews_le its (n - 1)
    omega
theorem fews_le : ∀ (l : List VT) (n : Int), fews l n ≤ n
  | [], n => by simp [fews]
  | x :: r, n => by
    rw [fews]
    split
    · omega
    · have h1 := fews_le r (x.few n)
      have h2 := VT.few_le x n
      omega
end
theorem few_size {x : VT} {n : Int} (h : 0 ≤ x.few n) : (x.size : Int) ≤ n := by
  have := VT.few_sum x n h
  omega
end Go.Proofs.YtlgmhhimbabkjaaGreatDoor
