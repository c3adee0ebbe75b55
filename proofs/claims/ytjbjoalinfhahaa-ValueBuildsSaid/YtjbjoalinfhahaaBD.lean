/-
  Texts of layers 1 and 2, part D: contracts of the code's functions and what they lean on.
-/
import Derived.Test.YtjbjoalinfhahaaBA
import Derived.Deep.Slices
import Derived.Deep.Strs
import Derived.SliceStrings
import Derived.Test.YtjbjoalinfhahaaChecked
import Derived.Lib.Hide
import Derived.LoopTactic
import Derived.Deep.LoopGhost
namespace Go.Proofs.Ytjbjoalinfhahaa
open Go.RowKit

/-- a value: its kind, its integer, its text, its items, its keys -/
inductive VT where
  | mk (k i : Int) (t : ByteArray) (its : List VT) (ks : List ByteArray)

namespace VT
def k : VT → Int | .mk k _ _ _ _ => k
def i : VT → Int | .mk _ i _ _ _ => i
def t : VT → ByteArray | .mk _ _ t _ _ => t
def its : VT → List VT | .mk _ _ _ s _ => s
def ks : VT → List ByteArray | .mk _ _ _ _ s => s
end VT

def nullT : VT := .mk 0 0 ByteArray.empty [] []
instance : Inhabited VT := ⟨nullT⟩

/-! ### measures -/
mutual
def VT.size : VT → Nat
  | .mk _ _ _ its _ => 1 + sizes its
def sizes : List VT → Nat
  | [] => 0
  | x :: r => x.size + sizes r
end
mutual
def VT.depth : VT → Nat
  | .mk _ _ _ its _ => depths its + 1
def depths : List VT → Nat
  | [] => 0
  | x :: r => max x.depth (depths r)
end
theorem sizes_append (a b : List VT) : sizes (a ++ b) = sizes a + sizes b := by
  induction a with
  | nil => simp [sizes]
  | cons x r ih => simp [sizes, ih]; omega
theorem depths_append (a b : List VT) : depths (a ++ b) = max (depths a) (depths b) := by
  induction a with
  | nil => simp [depths]
  | cons x r ih => simp [depths, ih, Nat.max_assoc]
theorem sizes_take {l : List VT} {j : Nat} {x : VT} (h : l[j]? = some x) : sizes (l.take (j + 1)) = sizes (l.take j) + x.size := by
  rw [List.take_add_one, h, sizes_append]
  simp [sizes]
theorem depths_take {l : List VT} {j : Nat} {x : VT} (h : l[j]? = some x) : depths (l.take (j + 1)) = max (depths (l.take j)) x.depth := by
  rw [List.take_add_one, h, depths_append]
  simp [depths]
theorem size_pos : ∀ x : VT, 1 ≤ x.size
  | .mk .. => by simp [VT.size]
theorem depth_pos : ∀ x : VT, 1 ≤ x.depth
  | .mk .. => by simp [VT.depth]
theorem VT.size_mk (k i : Int) (t : ByteArray) (its : List VT) (ks : List ByteArray) : (VT.mk k i t its ks).size = 1 + sizes its := by rw [VT.size]
theorem VT.depth_mk (k i : Int) (t : ByteArray) (its : List VT) (ks : List ByteArray) : (VT.mk k i t its ks).depth = depths its + 1 := by rw [VT.depth]
theorem sizes_take_le (l : List VT) (j : Nat) : sizes (l.take j) ≤ sizes l := by
  have := sizes_append (l.take j) (l.drop j)
  rw [List.take_append_drop] at this
  omega
theorem depths_take_le (l : List VT) (j : Nat) : depths (l.take j) ≤ depths l := by
  have := depths_append (l.take j) (l.drop j)
  rw [List.take_append_drop] at this
  omega
theorem size_at {l : List VT} {j : Nat} {x : VT} (h : l[j]? = some x) : x.size ≤ sizes l := by
  have h1 := sizes_take h
  have h2 := sizes_take_le l (j + 1)
  omega
theorem depth_at {l : List VT} {j : Nat} {x : VT} (h : l[j]? = some x) : x.depth ≤ depths l := by
  have h1 := depths_take h
  have h2 := depths_take_le l (j + 1)
  omega
theorem sizes_room (l : List VT) (j : Nat) : sizes (l.take j) + (l.length - j) ≤ sizes l := by
  have h1 := sizes_append (l.take j) (l.drop j)
  rw [List.take_append_drop] at h1
  have h2 : ∀ m : List VT, m.length ≤ sizes m := fun m => by
    induction m with
    | nil => simp
    | cons x r ih => have := size_pos x; simp [sizes]; omega
  have := h2 (l.drop j)
  rw [List.length_drop] at this
  omega
theorem depth_le_size : (n : Nat) → ∀ x : VT, x.size ≤ n → x.depth ≤ x.size
  | 0, x, h => by have := size_pos x; omega
  | n + 1, .mk k i t its ks, h => by
    rw [VT.size_mk] at h ⊢
    rw [VT.depth_mk]
    have : ∀ l : List VT, sizes l ≤ n → depths l ≤ sizes l := fun l => by
      induction l with
      | nil => intro _; simp [depths]
      | cons x r ih =>
        intro hl
        simp only [sizes, depths] at hl ⊢
        have := depth_le_size n x (by omega)
        have := ih (by omega)
        omega
    have := this its (by omega)
    omega

/-! ### a test of every node -/
mutual
def VT.all (p : VT → Bool) : VT → Bool
  | .mk k i t its ks => p (.mk k i t its ks) && alls p its
def alls (p : VT → Bool) : List VT → Bool
  | [] => true
  | x :: r => x.all p && alls p r
end
theorem VT.all_mk (p : VT → Bool) (k i : Int) (t : ByteArray) (its : List VT) (ks : List ByteArray) : (VT.mk k i t its ks).all p = (p (.mk k i t its ks) && alls p its) := by rw [VT.all]
theorem alls_append (p : VT → Bool) (a b : List VT) : alls p (a ++ b) = (alls p a && alls p b) := by
  induction a with
  | nil => simp [alls]
  | cons x r ih => simp [alls, ih, Bool.and_assoc]
theorem alls_take {p : VT → Bool} {l : List VT} {j : Nat} {x : VT} (h : l[j]? = some x) : alls p (l.take (j + 1)) = (alls p (l.take j) && x.all p) := by
  rw [List.take_add_one, h, alls_append]
  simp [alls]
theorem alls_false {p : VT → Bool} {l : List VT} {j : Nat} {x : VT} (h : l[j]? = some x) (hx : x.all p = false) : alls p l = false := by
  have h1 : alls p (l.take (j + 1)) = false := by rw [alls_take h, hx, Bool.and_false]
  have h2 := alls_append p (l.take (j + 1)) (l.drop (j + 1))
  rw [List.take_append_drop, h1] at h2
  simpa using h2
theorem all_at {p : VT → Bool} {l : List VT} {j : Nat} {x : VT} (ha : alls p l = true) (h : l[j]? = some x) : x.all p = true := by
  cases hx : x.all p with
  | true => rfl
  | false => rw [alls_false h hx] at ha; cases ha
theorem VT.all_here {p : VT → Bool} : ∀ {x : VT}, x.all p = true → p x = true
  | .mk .., h => by rw [VT.all_mk, Bool.and_eq_true] at h; exact h.1
theorem VT.all_its {p : VT → Bool} : ∀ {x : VT}, x.all p = true → alls p x.its = true
  | .mk .., h => by rw [VT.all_mk, Bool.and_eq_true] at h; exact h.2

/-! ### strings -/
/-- one string is less than another one -/
def less (a b : ByteArray) : Bool := Op.bytesLess a.toList b.toList
theorem bl_irrefl : ∀ a : List UInt8, Op.bytesLess a a = false
  | [] => rfl
  | x :: r => by simp [Op.bytesLess, bl_irrefl r]
theorem bl_tri : ∀ a b : List UInt8, a ≠ b → Op.bytesLess a b = !Op.bytesLess b a
  | [], [], h => absurd rfl h
  | [], _ :: _, _ => rfl
  | _ :: _, [], _ => rfl
  | x :: a, y :: b, h => by
    simp only [Op.bytesLess]
    rcases Nat.lt_trichotomy x.toNat y.toNat with h1 | h1 | h1
    · have h2 : x < y := UInt8.lt_iff_toNat_lt.2 h1
      have h3 : ¬ y < x := fun e => by have := UInt8.lt_iff_toNat_lt.1 e; omega
      have h4 : (y == x) = false := by rw [beq_eq_false_iff_ne]; intro e; subst e; omega
      simp [h2, h3, h4]
    · obtain rfl : x = y := UInt8.toNat_inj.1 h1
      have h3 : ¬ x < x := fun e => by have := UInt8.lt_iff_toNat_lt.1 e; omega
      have := bl_tri a b (fun e => h (by rw [e]))
      simp [h3, this]
    · have h2 : y < x := UInt8.lt_iff_toNat_lt.2 h1
      have h3 : ¬ x < y := fun e => by have := UInt8.lt_iff_toNat_lt.1 e; omega
      have h4 : (x == y) = false := by rw [beq_eq_false_iff_ne]; intro e; subst e; omega
      simp [h2, h3, h4]
theorem bl_trans : ∀ a b c : List UInt8, Op.bytesLess a b = true → Op.bytesLess b c = true → Op.bytesLess a c = true
  | _, [], _, h, _ => by simp [Op.bytesLess] at h
  | _, _ :: _, [], _, k => by simp [Op.bytesLess] at k
  | [], _ :: _, _ :: _, _, _ => rfl
  | x :: a, y :: b, z :: c, h, k => by
    simp only [Op.bytesLess, Bool.or_eq_true, decide_eq_true_eq, Bool.and_eq_true, beq_iff_eq] at h k ⊢
    rcases h with h | ⟨rfl, h⟩ <;> rcases k with k | ⟨rfl, k⟩
    · exact Or.inl (UInt8.lt_iff_toNat_lt.2 (Nat.lt_trans (UInt8.lt_iff_toNat_lt.1 h) (UInt8.lt_iff_toNat_lt.1 k)))
    · exact Or.inl h
    · exact Or.inl k
    · exact Or.inr ⟨rfl, bl_trans a b c h k⟩
theorem str_inj {a b : ByteArray} (h : a.toList = b.toList) : a = b := by
  rw [ByteArray.toList_eq, ByteArray.toList_eq] at h
  cases a; cases b; simpa using h
/-- two strings: less, equal, or greater; each with all that the operators say -/
theorem str_ways (a b : ByteArray) :
    (Op.bytesLess a.toList b.toList = true ∧ (a.toList == b.toList) = false ∧ (b.toList == a.toList) = false ∧ Op.bytesLess b.toList a.toList = false ∧ a ≠ b) ∨
    (a = b ∧ Op.bytesLess a.toList b.toList = false ∧ (a.toList == b.toList) = true ∧ (b.toList == a.toList) = true ∧ Op.bytesLess b.toList a.toList = false) ∨
    (Op.bytesLess a.toList b.toList = false ∧ (a.toList == b.toList) = false ∧ (b.toList == a.toList) = false ∧ Op.bytesLess b.toList a.toList = true ∧ a ≠ b) := by
  by_cases h : a = b
  · subst h
    exact Or.inr (Or.inl ⟨rfl, bl_irrefl _, by simp, by simp, bl_irrefl _⟩)
  · have hne : a.toList ≠ b.toList := fun e => h (str_inj e)
    have h1 : (a.toList == b.toList) = false := beq_eq_false_iff_ne.2 hne
    have h2 : (b.toList == a.toList) = false := beq_eq_false_iff_ne.2 (fun e => hne e.symm)
    have h3 := bl_tri _ _ hne
    cases h4 : Op.bytesLess b.toList a.toList with
    | true => rw [h4] at h3; exact Or.inr (Or.inr ⟨h3, h1, h2, rfl, h⟩)
    | false => rw [h4] at h3; exact Or.inl ⟨h3, h1, h2, rfl, h⟩
/-- the keys are ascending up to the one at n -/
def risingTo (ks : List ByteArray) (n : Nat) : Bool := (List.range n).all fun j => less (ks.getD j ByteArray.empty) (ks.getD (j + 1) ByteArray.empty)
def rising (ks : List ByteArray) : Bool := risingTo ks (ks.length - 1)
theorem risingTo_succ (ks : List ByteArray) (n : Nat) : risingTo ks (n + 1) = (risingTo ks n && less (ks.getD n ByteArray.empty) (ks.getD (n + 1) ByteArray.empty)) := by
  unfold risingTo
  rw [List.range_succ, List.all_append]
  simp
theorem risingTo_false {ks : List ByteArray} {n m : Nat} (h : risingTo ks n = false) (hm : n ≤ m) : risingTo ks m = false := by
  unfold risingTo at h ⊢
  rw [List.all_eq_false] at h ⊢
  obtain ⟨j, hj, hl⟩ := h
  exact ⟨j, List.mem_range.2 (by have := List.mem_range.1 hj; omega), hl⟩

/-! ### well formed, a future, short -/
/-- the fields of a kind and no others -/
def okF (x : VT) : Bool :=
  if x.k = 0 then decide (x.i = 0) && (decide (x.t.size = 0) && (decide (x.its.length = 0) && decide (x.ks.length = 0)))
  else if x.k = 1 then (decide (x.i = 0) || decide (x.i = 1)) && (decide (x.t.size = 0) && (decide (x.its.length = 0) && decide (x.ks.length = 0)))
  else if x.k = 2 then decide (x.t.size = 0) && (decide (x.its.length = 0) && decide (x.ks.length = 0))
  else if x.k = 3 then decide (x.i = 0) && (decide (x.its.length = 0) && decide (x.ks.length = 0))
  else if x.k = 4 then decide (x.i = 0) && (decide (x.t.size = 0) && decide (x.ks.length = 0))
  else if x.k = 5 then decide (x.i = 0) && (decide (x.t.size = 0) && (decide (x.ks.length = x.its.length) && rising x.ks))
  else if x.k = 6 then decide (0 ≤ x.i) && (decide (x.t.size = 0) && (decide (x.its.length = 0) && decide (x.ks.length = 0)))
  else false
theorem okF_0 (i : Int) (t : ByteArray) (its : List VT) (ks : List ByteArray) : okF (.mk 0 i t its ks) = (decide (i = 0) && (decide (t.size = 0) && (decide (its.length = 0) && decide (ks.length = 0)))) := rfl
theorem okF_1 (i : Int) (t : ByteArray) (its : List VT) (ks : List ByteArray) : okF (.mk 1 i t its ks) = ((decide (i = 0) || decide (i = 1)) && (decide (t.size = 0) && (decide (its.length = 0) && decide (ks.length = 0)))) := rfl
theorem okF_2 (i : Int) (t : ByteArray) (its : List VT) (ks : List ByteArray) : okF (.mk 2 i t its ks) = (decide (t.size = 0) && (decide (its.length = 0) && decide (ks.length = 0))) := rfl
theorem okF_3 (i : Int) (t : ByteArray) (its : List VT) (ks : List ByteArray) : okF (.mk 3 i t its ks) = (decide (i = 0) && (decide (its.length = 0) && decide (ks.length = 0))) := rfl
theorem okF_4 (i : Int) (t : ByteArray) (its : List VT) (ks : List ByteArray) : okF (.mk 4 i t its ks) = (decide (i = 0) && (decide (t.size = 0) && decide (ks.length = 0))) := rfl
theorem okF_5 (i : Int) (t : ByteArray) (its : List VT) (ks : List ByteArray) : okF (.mk 5 i t its ks) = (decide (i = 0) && (decide (t.size = 0) && (decide (ks.length = its.length) && rising ks))) := rfl
theorem okF_6 (i : Int) (t : ByteArray) (its : List VT) (ks : List ByteArray) : okF (.mk 6 i t its ks) = (decide (0 ≤ i) && (decide (t.size = 0) && (decide (its.length = 0) && decide (ks.length = 0)))) := rfl
def VT.wf (x : VT) : Bool := x.all okF
def noFut (x : VT) : Bool := decide (x.k ≠ 6)
def shortF (x : VT) : Bool := decide (x.t.size ≤ 4096) && x.ks.all fun s => decide (s.size ≤ 4096)
def VT.within (x : VT) : Bool := x.all shortF && (decide (x.depth ≤ 16) && decide (x.size ≤ 1000))
def VT.right (x : VT) : Bool := x.wf && (x.within && x.all noFut)

/-! ### at most n nodes -/
mutual
def VT.few : VT → Int → Int
  | .mk _ _ _ its _, n => fews its (n - 1)
def fews : List VT → Int → Int
  | [], n => n
  | x :: r, n => if n < 0 then n else fews r (x.few n)
end
theorem VT.few_mk (k i : Int) (t : ByteArray) (its : List VT) (ks : List ByteArray) (n : Int) : (VT.mk k i t its ks).few n = fews its (n - 1) := by rw [VT.few]
theorem fews_neg {l : List VT} {n : Int} (h : n < 0) : fews l n = n := by
  cases l with
  | nil => rw [fews]
  | cons x r => rw [fews, if_pos h]
theorem fews_append (a b : List VT) (n : Int) : fews (a ++ b) n = fews b (fews a n) := by
  induction a generalizing n with
  | nil => simp [fews]
  | cons x r ih =>
    rw [List.cons_append, fews, fews]
    split
    · rw [fews_neg (by assumption)]
    · rw [ih]
theorem fews_take {l : List VT} {j : Nat} {x : VT} {n : Int} (h : l[j]? = some x) (hn : 0 ≤ fews (l.take j) n) : fews (l.take (j + 1)) n = x.few (fews (l.take j) n) := by
  rw [List.take_add_one, h, fews_append]
  simp only [Option.toList_some, fews]
  rw [if_neg (by omega)]
theorem fews_stop {l : List VT} {j : Nat} {n : Int} (hn : fews (l.take j) n < 0) : fews l n = fews (l.take j) n := by
  have := fews_append (l.take j) (l.drop j) n
  rw [List.take_append_drop] at this
  rw [this, fews_neg hn]
mutual
theorem VT.few_sum : ∀ (x : VT) (n : Int), 0 ≤ x.few n → x.few n = n - x.size
  | .mk k i t its ks, n, h => by
    rw [VT.few_mk] at h ⊢
    rw [VT.size_mk, fews_sum its _ h]
    omega
theorem fews_sum : ∀ (l : List VT) (n : Int), 0 ≤ fews l n → fews l n = n - sizes l
  | [], n, _ => by simp [fews, sizes]
  | x :: r, n, h => by
    rw [fews] at h ⊢
    split at h
    · omega
    · rw [if_neg (by assumption), sizes]
      have h1 := fews_sum r _ h
      rw [h1] at h ⊢
      have h2 := VT.few_sum x n (by omega)
      omega
end
mutual
theorem VT.few_ge : ∀ (x : VT) (n : Int), 0 ≤ n → -1 ≤ x.few n
  | .mk k i t its ks, n, h => by
    rw [VT.few_mk]
    exact fews_ge its _ (by omega)
theorem fews_ge : ∀ (l : List VT) (n : Int), -1 ≤ n → -1 ≤ fews l n
  | [], n, h => by simpa [fews] using h
  | x :: r, n, h => by
    rw [fews]
    split
    · exact h
    · exact fews_ge r _ (VT.few_ge x n (by omega))
end
mutual
theorem VT.few_le : ∀ (x : VT) (n : Int), x.few n ≤ n
  | .mk k i t its ks, n => by
    rw [VT.few_mk]
    have := fews_le its (n - 1)
    omega
theorem fews_le : ∀ (l : List VT) (n : Int), fews l n ≤ n
  | [], n => by simp [fews]
  | x :: r, n => by
    rw [fews]
    split
    · omega
    · have h1 := fews_le r (x.few n)
      have h2 := VT.few_le x n
      omega
end
theorem few_size {x : VT} {n : Int} (h : 0 ≤ x.few n) : (x.size : Int) ≤ n := by
  have := VT.few_sum x n h
  omega
end Go.Proofs.Ytjbjoalinfhahaa
namespace Go.Proofs.Ytjbjoalinfhahaa
open Go.RowKit

/-- strings from address A on -/
def LiesS (w : World) (R : Nat → Prop) (A : Option Addr) (ks : List ByteArray) : Prop :=
  ∀ (j : Nat) (s : ByteArray), ks[j]? = some s → s.size ≤ 9223372036854775807 ∧ ∃ g o, A = some ⟨g, o, none⟩ ∧ R g ∧ w.cell? ⟨g, o + j, none⟩ = some (.string s)

/-- a value as its five cells -/
def vag (k i : Int) (t : ByteArray) (A : Option Addr) (n c : Nat) (A' : Option Addr) (n' c' : Nat) : Value := .agg #[.int .i64 k, .int .i64 i, .string t, .slice A n c, .slice A' n' c']

mutual
/-- the value v reads as the tree, through blocks of R -/
def Lies (w : World) (R : Nat → Prop) : VT → Value → Prop
  | .mk k i t its ks, v => ∃ A c A' c', v = vag k i t A its.length c A' ks.length c' ∧ (-9223372036854775808 ≤ k ∧ k ≤ 9223372036854775807) ∧ (-9223372036854775808 ≤ i ∧ i ≤ 9223372036854775807) ∧ t.size ≤ 9223372036854775807 ∧
      its.length ≤ c ∧ c ≤ 9223372036854775807 ∧ LiesL w R A 0 its ∧ ks.length ≤ c' ∧ c' ≤ 9223372036854775807 ∧ LiesS w R A' ks
/-- values in a row from address A on, the first of them at index j -/
def LiesL (w : World) (R : Nat → Prop) (A : Option Addr) (j : Nat) : List VT → Prop
  | [] => True
  | x :: r => (∃ g o a b s y z, A = some ⟨g, o, none⟩ ∧ R g ∧ w.cell? ⟨g, o + j * 5, none⟩ = some a ∧ w.cell? ⟨g, o + j * 5 + 1, none⟩ = some b ∧ w.cell? ⟨g, o + j * 5 + 2, none⟩ = some s ∧
      w.cell? ⟨g, o + j * 5 + 3, none⟩ = some y ∧ w.cell? ⟨g, o + j * 5 + 4, none⟩ = some z ∧ Lies w R x (.agg #[a, b, s, y, z])) ∧ LiesL w R A (j + 1) r
end

section
variable {w w' : World} {R R' : Nat → Prop}

theorem Lies.open {k i : Int} {t : ByteArray} {its : List VT} {ks : List ByteArray} {v : Value} (h : Lies w R (.mk k i t its ks) v) :
    ∃ A c A' c', v = vag k i t A its.length c A' ks.length c' ∧ (-9223372036854775808 ≤ k ∧ k ≤ 9223372036854775807) ∧ (-9223372036854775808 ≤ i ∧ i ≤ 9223372036854775807) ∧ t.size ≤ 9223372036854775807 ∧
      its.length ≤ c ∧ c ≤ 9223372036854775807 ∧ LiesL w R A 0 its ∧ ks.length ≤ c' ∧ c' ≤ 9223372036854775807 ∧ LiesS w R A' ks := by rwa [Lies] at h
variable {A : Option Addr} in
theorem LiesL.cons {x : VT} {r : List VT} {j : Nat} (h : LiesL w R A j (x :: r)) :
    (∃ g o a b s y z, A = some ⟨g, o, none⟩ ∧ R g ∧ w.cell? ⟨g, o + j * 5, none⟩ = some a ∧ w.cell? ⟨g, o + j * 5 + 1, none⟩ = some b ∧ w.cell? ⟨g, o + j * 5 + 2, none⟩ = some s ∧
      w.cell? ⟨g, o + j * 5 + 3, none⟩ = some y ∧ w.cell? ⟨g, o + j * 5 + 4, none⟩ = some z ∧ Lies w R x (.agg #[a, b, s, y, z])) ∧ LiesL w R A (j + 1) r := by rwa [LiesL] at h
variable {A : Option Addr} in
theorem LiesL.at_ {l : List VT} {x : VT} : ∀ {m j : Nat}, LiesL w R A m l → l[j]? = some x →
    ∃ g o k i t B n c B' n' c', A = some ⟨g, o, none⟩ ∧ R g ∧ w.cell? ⟨g, o + (m + j) * 5, none⟩ = some (.int .i64 k) ∧ w.cell? ⟨g, o + (m + j) * 5 + 1, none⟩ = some (.int .i64 i) ∧ w.cell? ⟨g, o + (m + j) * 5 + 2, none⟩ = some (.string t) ∧
      w.cell? ⟨g, o + (m + j) * 5 + 3, none⟩ = some (.slice B n c) ∧ w.cell? ⟨g, o + (m + j) * 5 + 4, none⟩ = some (.slice B' n' c') ∧ Lies w R x (vag k i t B n c B' n' c') := by
  induction l with
  | nil => intro m j _ h; simp at h
  | cons y r ih =>
    intro m j h hj
    obtain ⟨⟨g, o, a, b, s, p, q, hA, hR, h0, h1, h2, h3, h4, hx⟩, hr⟩ := h.cons
    cases j with
    | zero =>
      obtain rfl : y = x := by simpa using hj
      obtain ⟨k, i, t, its, ks⟩ := y
      have hx' := hx
      obtain ⟨B, c, B', c', e, _⟩ := hx.open
      unfold vag at e
      simp only [Value.agg.injEq, Array.mk.injEq, List.cons.injEq, and_true] at e
      obtain ⟨rfl, rfl, rfl, rfl, rfl⟩ := e
      exact ⟨g, o, k, i, t, B, _, c, B', _, c', hA, hR, h0, h1, h2, h3, h4, hx'⟩
    | succ j =>
      have := ih hr (j := j) (by simpa using hj)
      rw [show m + 1 + j = m + (j + 1) by omega] at this
      exact this
variable {A : Option Addr} in
theorem LiesL.none_ {j : Nat} : LiesL w R A j [] := by rw [LiesL]; trivial
variable {A : Option Addr} in
theorem LiesS.none_ : LiesS w R A [] := fun j s h => by simp at h

variable {A : Option Addr} in
theorem LiesS.keep {ks : List ByteArray} (h : LiesS w R A ks) (hk : ∀ p : Addr, R p.block → w'.cell? p = w.cell? p) (hR : ∀ b, R b → R' b) : LiesS w' R' A ks := fun j s hj => by
  obtain ⟨h0, g, o, h1, h2, h3⟩ := h j s hj
  exact ⟨h0, g, o, h1, hR _ h2, (hk ⟨g, o + j, none⟩ h2).trans h3⟩
mutual
theorem Lies.keep (hk : ∀ p : Addr, R p.block → w'.cell? p = w.cell? p) (hR : ∀ b, R b → R' b) : ∀ {x : VT} {v : Value}, Lies w R x v → Lies w' R' x v
  | .mk k i t its ks, v, h => by
    rw [Lies] at h ⊢
    obtain ⟨A, c, A', c', e, h1, h2, h3, h4, h5, h6, h7, h8, h9⟩ := h
    exact ⟨A, c, A', c', e, h1, h2, h3, h4, h5, LiesL.keep hk hR h6, h7, h8, h9.keep hk hR⟩
theorem LiesL.keep (hk : ∀ p : Addr, R p.block → w'.cell? p = w.cell? p) (hR : ∀ b, R b → R' b) : ∀ {A : Option Addr} {l : List VT} {j : Nat}, LiesL w R A j l → LiesL w' R' A j l
  | A, [], _, _ => by rw [LiesL]; trivial
  | A, x :: r, j, h => by
    rw [LiesL] at h ⊢
    obtain ⟨⟨g, o, a, b, s, y, z, hA, hb, h0, h1, h2, h3, h4, hx⟩, hr⟩ := h
    exact ⟨⟨g, o, a, b, s, y, z, hA, hR _ hb, (hk ⟨g, o + j * 5, none⟩ hb).trans h0, (hk ⟨g, o + j * 5 + 1, none⟩ hb).trans h1, (hk ⟨g, o + j * 5 + 2, none⟩ hb).trans h2, (hk ⟨g, o + j * 5 + 3, none⟩ hb).trans h3,
      (hk ⟨g, o + j * 5 + 4, none⟩ hb).trans h4, Lies.keep hk hR hx⟩, LiesL.keep hk hR hr⟩
end

variable {A : Option Addr}
/-- a row from an index on -/
theorem LiesL.drop {l : List VT} : ∀ {m : Nat} (j : Nat), LiesL w R A m l → LiesL w R A (m + j) (l.drop j) := by
  induction l with
  | nil => intro m j _; rw [List.drop_nil]; exact LiesL.none_
  | cons y r ih =>
    intro m j h
    cases j with
    | zero => exact h
    | succ j =>
      have := ih j h.cons.2
      rwa [show m + 1 + j = m + (j + 1) by omega] at this
theorem LiesL.snoc {l : List VT} {x : VT} : ∀ {m : Nat}, LiesL w R A m l → LiesL w R A (m + l.length) [x] → LiesL w R A m (l ++ [x]) := by
  induction l with
  | nil => intro m _ h; simpa using h
  | cons y r ih =>
    intro m h hx
    rw [List.cons_append, LiesL]
    rw [LiesL] at h
    exact ⟨h.1, ih h.2 (by rw [List.length_cons] at hx; rwa [show m + 1 + r.length = m + (r.length + 1) by omega])⟩
theorem LiesL.take {l : List VT} : ∀ {m : Nat} (j : Nat), LiesL w R A m l → LiesL w R A m (l.take j) := by
  induction l with
  | nil => intro m j _; rw [List.take_nil]; exact LiesL.none_
  | cons y r ih =>
    intro m j h
    cases j with
    | zero => exact LiesL.none_
    | succ j =>
      rw [List.take_succ_cons, LiesL]
      rw [LiesL] at h
      exact ⟨h.1, ih j h.2⟩
/-- a row is known by each of its places -/
theorem LiesL.of_at {l : List VT} : ∀ {m : Nat}, (∀ j x, l[j]? = some x → ∃ g o a b s y z, A = some ⟨g, o, none⟩ ∧ R g ∧ w.cell? ⟨g, o + (m + j) * 5, none⟩ = some a ∧ w.cell? ⟨g, o + (m + j) * 5 + 1, none⟩ = some b ∧ w.cell? ⟨g, o + (m + j) * 5 + 2, none⟩ = some s ∧
      w.cell? ⟨g, o + (m + j) * 5 + 3, none⟩ = some y ∧ w.cell? ⟨g, o + (m + j) * 5 + 4, none⟩ = some z ∧ Lies w R x (.agg #[a, b, s, y, z])) → LiesL w R A m l := by
  induction l with
  | nil => intro m _; exact LiesL.none_
  | cons y r ih =>
    intro m h
    rw [LiesL]
    refine ⟨h 0 y rfl, ih fun j x hj => ?_⟩
    have := h (j + 1) x (by simpa using hj)
    rwa [show m + (j + 1) = m + 1 + j by omega] at this
end

/-- below the end of the heap -/
def Lo (w : World) : Nat → Prop := fun b => b < w.heap.size
section
variable {w w' : World} {A : Option Addr}
theorem Lies.below {x : VT} {v : Value} (h : Lies w (Lo w) x v) (hb : Below w.heap.size w w') : Lies w' (Lo w') x v :=
  h.keep (fun _ hp => hb.cell hp) (fun b (h : b < _) => show b < _ from Nat.lt_of_lt_of_le h hb.size)
theorem LiesL.below {l : List VT} {j : Nat} (h : LiesL w (Lo w) A j l) (hb : Below w.heap.size w w') : LiesL w' (Lo w') A j l :=
  h.keep (fun _ hp => hb.cell hp) (fun b (h : b < _) => show b < _ from Nat.lt_of_lt_of_le h hb.size)
theorem LiesS.below {l : List ByteArray} (h : LiesS w (Lo w) A l) (hb : Below w.heap.size w w') : LiesS w' (Lo w') A l :=
  h.keep (fun _ hp => hb.cell hp) (fun b (h : b < _) => show b < _ from Nat.lt_of_lt_of_le h hb.size)
theorem below_one (w : World) (o : Obj) : Below w.heap.size w (w.alloc o) := Below.alloc (Below.refl _ _) (Nat.le_refl _) o
end

theorem below_next {a b c : World} (h : Below a.heap.size a b) (k : Below b.heap.size b c) : Below a.heap.size a c := h.trans (k.mono h.size)
theorem below_via {a b c : World} {o : Obj} (h : Below a.heap.size a b) (k : Below (b.alloc o).heap.size (b.alloc o) c) : Below a.heap.size a c :=
  (h.alloc h.size o).trans (k.mono (Nat.le_trans h.size (by simp)))

theorem below_drew {B : Nat} {a w : World} (h : Below B a w) (k : Nat) : Below B a (w.drewN k) := ⟨h.os, h.tape, h.output, h.size, h.block⟩
end Go.Proofs.Ytjbjoalinfhahaa
namespace Go.Proofs.Ytjbjoalinfhahaa
open Go.RowKit

/-- what a function that only lays blocks of its own hands back -/
def Gives (x : Value) (w : World) (e : Ending) (w' : World) : Prop := e = .returned x ∧ Below w.heap.size w w'

set_option maxHeartbeats 400000 in
theorem refSize_all (m : Nat) : ∀ (x : VT) (w : World) (v : Value), x.size ≤ m → m < 4611686018427387904 → Lies w (Lo w) x v → Calls Try.prog 36 #[v] w (Gives (.int .i64 (x.size : Nat)) w) := by
  induction m with
  | zero => intro x _ _ h; have := size_pos x; omega
  | succ m ih =>
    intro x w v hsz hm hv
    obtain ⟨k, i, t, its, ks⟩ := x
    obtain ⟨A, c, A', c', rfl, hk, hi, ht, hlc, hcm, hL, hkc, hcm', hS⟩ := hv.open
    rw [VT.size_mk] at hsz
    have HL := Lib.hid hL
    have IH := Lib.hid ih
    have hlen : its.length ≤ sizes its := by have := sizes_room its 0; simp [sizes] at this; omega
    clear hS hL ih hv
    obtain ⟨n, hn⟩ : ∃ n, n = its.length := ⟨_, rfl⟩
    rw [← hn] at hlc hlen ⊢
    have HN := Lib.hid hn
    clear hn
    unfold vag
    go_enter Try.func36, Try.ntmps36
    go_wp2
    obtain ⟨w1, hw1⟩ : ∃ w1, w1 = w.alloc (.cells #[.int .i64 k, .int .i64 i, .string t, .slice A n c, .slice A' ks.length c'] 26) := ⟨_, rfl⟩
    have B0 : Hid (Below w.heap.size w w1) := Lib.hid (by rw [hw1]; exact below_one _ _)
    have S1 : Hid (w.heap.size < w1.heap.size) := Lib.hid (by rw [hw1]; simp)
    have C3 : w1.cell? ⟨w.heap.size, 3, none⟩ = some (.slice A n c) := by rw [hw1, World.cell?_alloc_at _ _ _ _ rfl]; rfl
    rw [← hw1]
    have HW := Lib.hid hw1
    clear hw1
    go_loopw [3, 4] (fun r t wr => ∃ j : Nat, j ≤ n ∧ t = .int .i64 j ∧ r = .int .i64 ((1 + sizes (its.take j) : Nat) : Int) ∧ Hid (Below w1.heap.size w1 wr)) (fun _ t _ => n - (intOf t).toNat)
    case atStart => exact ⟨0, by omega, rfl, by simp [sizes], Lib.hid (Below.refl _ _)⟩
    case round =>
      obtain ⟨j, hjn, rfl, rfl, hb⟩ := hrel
      by_cases hlt : j < n
      · obtain ⟨g, o, k', i', t', B, n', c1, B', n1, c2, rfl, hg, e0, e1, e2, e3, e4, hx⟩ := (HL.out).at_ (j := j) (x := its[j]'(by rw [← HN.out]; exact hlt)) (List.getElem?_eq_getElem _)
        have hj := sizes_take (List.getElem?_eq_getElem (l := its) (i := j) (by rw [← HN.out]; exact hlt))
        have hle := sizes_take_le its (j + 1)
        have hb' : Below w.heap.size w wr := B0.out.trans (hb.out.mono (by have := S1.out; omega))
        have cc := fun (q : Nat) => hb'.cell (p := ⟨g, q, none⟩) hg
        rw [Nat.zero_add] at e0 e1 e2 e3 e4
        rw [← cc] at e0 e1 e2 e3 e4
        have C3' := (hb.out.cell (p := ⟨w.heap.size, 3, none⟩) S1.out).trans C3
        have hc := IH.out (its[j]'(by rw [← HN.out]; exact hlt)) wr _ (by omega) (by omega) (hx.below hb')
        generalize its[j]'(by rw [← HN.out]; exact hlt) = x at *
        have HC := Lib.hid hc
        have HB := Lib.hid hb'
        clear hc hx hb' cc C3
        unfold vag at HC
        go_wp2_with fail
        refine (HC.out).mono ?_
        rintro e w' ⟨rfl, hb2⟩
        have HB2 := Lib.hid (hb.out.trans (hb2.mono hb.out.size))
        clear hb2
        go_wp2
        go_roundw
        case rel => exact ⟨j + 1, by omega, by go_num, by rw [hj]; go_num, HB2⟩
        case measure => simp [intOf]; omega
      · have C3' := (hb.out.cell (p := ⟨w.heap.size, 3, none⟩) S1.out).trans C3
        obtain rfl : j = n := by omega
        go_wp2
        go_ret
        refine ⟨?_, B0.out.trans (hb.out.mono (by have := S1.out; omega))⟩
        rw [VT.size_mk, HN.out, List.take_length]
        rfl
end Go.Proofs.Ytjbjoalinfhahaa
namespace Go.Proofs.Ytjbjoalinfhahaa
open Go.RowKit

set_option maxHeartbeats 400000 in
theorem refDepth_all (m : Nat) : ∀ (x : VT) (w : World) (v : Value), x.size ≤ m → m < 4611686018427387904 → Lies w (Lo w) x v → Calls Try.prog 34 #[v] w (Gives (.int .i64 (x.depth : Nat)) w) := by
  induction m with
  | zero => intro x _ _ h; have := size_pos x; omega
  | succ m ih =>
    intro x w v hsz hm hv
    obtain ⟨k, i, t, its, ks⟩ := x
    obtain ⟨A, c, A', c', rfl, hk, hi, ht, hlc, hcm, hL, hkc, hcm', hS⟩ := hv.open
    rw [VT.size_mk] at hsz
    have hdz := depth_le_size _ (VT.mk k i t its ks) (Nat.le_refl _)
    rw [VT.size_mk, VT.depth_mk] at hdz
    have HL := Lib.hid hL
    have IH := Lib.hid ih
    have hlen : its.length ≤ sizes its := by have := sizes_room its 0; simp [sizes] at this; omega
    clear hS hL ih hv
    obtain ⟨n, hn⟩ : ∃ n, n = its.length := ⟨_, rfl⟩
    rw [← hn] at hlc hlen ⊢
    have HN := Lib.hid hn
    clear hn
    unfold vag
    go_enter Try.func34, Try.ntmps34
    go_wp2
    obtain ⟨w1, hw1⟩ : ∃ w1, w1 = w.alloc (.cells #[.int .i64 k, .int .i64 i, .string t, .slice A n c, .slice A' ks.length c'] 26) := ⟨_, rfl⟩
    have B0 : Hid (Below w.heap.size w w1) := Lib.hid (by rw [hw1]; exact below_one _ _)
    have S1 : Hid (w.heap.size < w1.heap.size) := Lib.hid (by rw [hw1]; simp)
    have C3 : w1.cell? ⟨w.heap.size, 3, none⟩ = some (.slice A n c) := by rw [hw1, World.cell?_alloc_at _ _ _ _ rfl]; rfl
    rw [← hw1]
    have HW := Lib.hid hw1
    clear hw1
    go_loopw [3, 4, 5] (fun r t _ wr => ∃ j : Nat, j ≤ n ∧ t = .int .i64 j ∧ r = .int .i64 ((depths (its.take j) : Nat) : Int) ∧ Hid (Below w1.heap.size w1 wr)) (fun _ t _ _ => n - (intOf t).toNat)
    case atStart => exact ⟨0, by omega, rfl, by simp [depths], Lib.hid (Below.refl _ _)⟩
    case round =>
      obtain ⟨j, hjn, rfl, rfl, hb⟩ := hrel
      by_cases hlt : j < n
      · obtain ⟨g, o, k', i', t', B, n', c1, B', n1, c2, rfl, hg, e0, e1, e2, e3, e4, hx⟩ := (HL.out).at_ (j := j) (x := its[j]'(by rw [← HN.out]; exact hlt)) (List.getElem?_eq_getElem _)
        have hj := sizes_take (List.getElem?_eq_getElem (l := its) (i := j) (by rw [← HN.out]; exact hlt))
        have hle := sizes_take_le its (j + 1)
        have hdj := depths_take (List.getElem?_eq_getElem (l := its) (i := j) (by rw [← HN.out]; exact hlt))
        have hdl := depths_take_le its (j + 1)
        have hdj0 := depths_take_le its j
        have hb' : Below w.heap.size w wr := B0.out.trans (hb.out.mono (by have := S1.out; omega))
        have cc := fun (q : Nat) => hb'.cell (p := ⟨g, q, none⟩) hg
        rw [Nat.zero_add] at e0 e1 e2 e3 e4
        rw [← cc] at e0 e1 e2 e3 e4
        have C3' := (hb.out.cell (p := ⟨w.heap.size, 3, none⟩) S1.out).trans C3
        have hc := IH.out (its[j]'(by rw [← HN.out]; exact hlt)) wr _ (by omega) (by omega) (hx.below hb')
        generalize its[j]'(by rw [← HN.out]; exact hlt) = x at *
        have HC := Lib.hid hc
        have HB := Lib.hid hb'
        clear hc hx hb' cc C3
        unfold vag at HC
        go_wp2_with fail
        refine (HC.out).mono ?_
        rintro e w' ⟨rfl, hb2⟩
        have HB2 := Lib.hid (hb.out.trans (hb2.mono hb.out.size))
        clear hb2
        by_cases hmx : depths (its.take j) < x.depth
        · go_wp2
          go_roundw
          case rel => exact ⟨j + 1, by omega, by go_num, by rw [hdj]; go_num, HB2⟩
          case measure => simp [intOf]; omega
        · go_wp2
          go_roundw
          case rel => exact ⟨j + 1, by omega, by go_num, by rw [hdj]; go_num, HB2⟩
          case measure => simp [intOf]; omega
      · have C3' := (hb.out.cell (p := ⟨w.heap.size, 3, none⟩) S1.out).trans C3
        obtain rfl : j = n := by omega
        have hdl := depths_take_le its j
        go_wp2
        go_ret
        refine ⟨?_, B0.out.trans (hb.out.mono (by have := S1.out; omega))⟩
        rw [VT.depth_mk, HN.out, List.take_length]
        rfl
end Go.Proofs.Ytjbjoalinfhahaa
namespace Go.Proofs.Ytjbjoalinfhahaa
open Go.RowKit

set_option maxHeartbeats 400000 in
theorem valSize_all (m : Nat) : ∀ (x : VT) (w : World) (v : Value), x.size ≤ m → m < 4611686018427387904 → Lies w (Lo w) x v → Calls Try.prog 35 #[v] w (Gives (.int .i64 (x.size : Nat)) w) := by
  induction m with
  | zero => intro x _ _ h; have := size_pos x; omega
  | succ m ih =>
    intro x w v hsz hm hv
    obtain ⟨k, i, t, its, ks⟩ := x
    obtain ⟨A, c, A', c', rfl, hk, hi, ht, hlc, hcm, hL, hkc, hcm', hS⟩ := hv.open
    rw [VT.size_mk] at hsz
    have HL := Lib.hid hL
    have IH := Lib.hid ih
    have hlen : its.length ≤ sizes its := by have := sizes_room its 0; simp [sizes] at this; omega
    clear hS hL ih hv
    obtain ⟨n, hn⟩ : ∃ n, n = its.length := ⟨_, rfl⟩
    rw [← hn] at hlc hlen ⊢
    have HN := Lib.hid hn
    clear hn
    unfold vag
    go_enter Try.func35, Try.ntmps35
    go_wp2
    obtain ⟨w1, hw1⟩ : ∃ w1, w1 = w.alloc (.cells #[.int .i64 k, .int .i64 i, .string t, .slice A n c, .slice A' ks.length c'] 26) := ⟨_, rfl⟩
    have B0 : Hid (Below w.heap.size w w1) := Lib.hid (by rw [hw1]; exact below_one _ _)
    have S1 : Hid (w.heap.size < w1.heap.size) := Lib.hid (by rw [hw1]; simp)
    have C3 : w1.cell? ⟨w.heap.size, 3, none⟩ = some (.slice A n c) := by rw [hw1, World.cell?_alloc_at _ _ _ _ rfl]; rfl
    rw [← hw1]
    have HW := Lib.hid hw1
    clear hw1
    go_loopw [3, 9, 5] (fun r t _ wr => ∃ j : Nat, j ≤ n ∧ t = .int .i64 j ∧ r = .int .i64 ((1 + sizes (its.take j) : Nat) : Int) ∧ Hid (Below w1.heap.size w1 wr)) (fun _ t _ _ => n - (intOf t).toNat)
    case atStart => exact ⟨0, by omega, rfl, by simp [sizes], Lib.hid (Below.refl _ _)⟩
    case round =>
      obtain ⟨j, hjn, rfl, rfl, hb⟩ := hrel
      by_cases hlt : j < n
      · obtain ⟨g, o, k', i', t', B, n', c1, B', n1, c2, rfl, hg, e0, e1, e2, e3, e4, hx⟩ := (HL.out).at_ (j := j) (x := its[j]'(by rw [← HN.out]; exact hlt)) (List.getElem?_eq_getElem _)
        have hj := sizes_take (List.getElem?_eq_getElem (l := its) (i := j) (by rw [← HN.out]; exact hlt))
        have hle := sizes_take_le its (j + 1)
        have hb' : Below w.heap.size w wr := B0.out.trans (hb.out.mono (by have := S1.out; omega))
        have cc := fun (q : Nat) => hb'.cell (p := ⟨g, q, none⟩) hg
        rw [Nat.zero_add] at e0 e1 e2 e3 e4
        rw [← cc] at e0 e1 e2 e3 e4
        have hc := IH.out (its[j]'(by rw [← HN.out]; exact hlt)) (wr.alloc (.cells #[.int .i64 k', .int .i64 i', .string t', .slice B n' c1, .slice B' n1 c2] 26)) _ (by omega) (by omega) (hx.below (hb'.alloc hb'.size _))
        generalize its[j]'(by rw [← HN.out]; exact hlt) = x at *
        have HC := Lib.hid hc
        have HB := Lib.hid hb'
        clear hc hx hb' cc C3
        unfold vag at HC
        go_wp2_with fail
        refine (HC.out).mono ?_
        rintro e w' ⟨rfl, hb2⟩
        have HB2 := Lib.hid (below_via hb.out hb2)
        clear hb2
        go_wp2
        go_roundw
        case rel => exact ⟨j + 1, by omega, by go_num, by rw [hj]; go_num, HB2⟩
        case measure => simp [intOf]; omega
      · have C3' := (hb.out.cell (p := ⟨w.heap.size, 3, none⟩) S1.out).trans C3
        obtain rfl : j = n := by omega
        go_wp2
        go_ret
        refine ⟨?_, B0.out.trans (hb.out.mono (by have := S1.out; omega))⟩
        rw [VT.size_mk, HN.out, List.take_length]
        rfl
end Go.Proofs.Ytjbjoalinfhahaa
namespace Go.Proofs.Ytjbjoalinfhahaa
open Go.RowKit

set_option maxHeartbeats 400000 in
theorem valDepth_all (m : Nat) : ∀ (x : VT) (w : World) (v : Value), x.size ≤ m → m < 4611686018427387904 → Lies w (Lo w) x v → Calls Try.prog 33 #[v] w (Gives (.int .i64 (x.depth : Nat)) w) := by
  induction m with
  | zero => intro x _ _ h; have := size_pos x; omega
  | succ m ih =>
    intro x w v hsz hm hv
    obtain ⟨k, i, t, its, ks⟩ := x
    obtain ⟨A, c, A', c', rfl, hk, hi, ht, hlc, hcm, hL, hkc, hcm', hS⟩ := hv.open
    rw [VT.size_mk] at hsz
    have hdz := depth_le_size _ (VT.mk k i t its ks) (Nat.le_refl _)
    rw [VT.size_mk, VT.depth_mk] at hdz
    have HL := Lib.hid hL
    have IH := Lib.hid ih
    have hlen : its.length ≤ sizes its := by have := sizes_room its 0; simp [sizes] at this; omega
    clear hS hL ih hv
    obtain ⟨n, hn⟩ : ∃ n, n = its.length := ⟨_, rfl⟩
    rw [← hn] at hlc hlen ⊢
    have HN := Lib.hid hn
    clear hn
    unfold vag
    go_enter Try.func33, Try.ntmps33
    go_wp2
    obtain ⟨w1, hw1⟩ : ∃ w1, w1 = w.alloc (.cells #[.int .i64 k, .int .i64 i, .string t, .slice A n c, .slice A' ks.length c'] 26) := ⟨_, rfl⟩
    have B0 : Hid (Below w.heap.size w w1) := Lib.hid (by rw [hw1]; exact below_one _ _)
    have S1 : Hid (w.heap.size < w1.heap.size) := Lib.hid (by rw [hw1]; simp)
    have C3 : w1.cell? ⟨w.heap.size, 3, none⟩ = some (.slice A n c) := by rw [hw1, World.cell?_alloc_at _ _ _ _ rfl]; rfl
    rw [← hw1]
    have HW := Lib.hid hw1
    clear hw1
    go_loopw [3, 9, 5] (fun r t _ wr => ∃ j : Nat, j ≤ n ∧ t = .int .i64 j ∧ r = .int .i64 ((depths (its.take j) : Nat) : Int) ∧ Hid (Below w1.heap.size w1 wr)) (fun _ t _ _ => n - (intOf t).toNat)
    case atStart => exact ⟨0, by omega, rfl, by simp [depths], Lib.hid (Below.refl _ _)⟩
    case round =>
      obtain ⟨j, hjn, rfl, rfl, hb⟩ := hrel
      by_cases hlt : j < n
      · obtain ⟨g, o, k', i', t', B, n', c1, B', n1, c2, rfl, hg, e0, e1, e2, e3, e4, hx⟩ := (HL.out).at_ (j := j) (x := its[j]'(by rw [← HN.out]; exact hlt)) (List.getElem?_eq_getElem _)
        have hj := sizes_take (List.getElem?_eq_getElem (l := its) (i := j) (by rw [← HN.out]; exact hlt))
        have hle := sizes_take_le its (j + 1)
        have hdj := depths_take (List.getElem?_eq_getElem (l := its) (i := j) (by rw [← HN.out]; exact hlt))
        have hdl := depths_take_le its (j + 1)
        have hdj0 := depths_take_le its j
        have hb' : Below w.heap.size w wr := B0.out.trans (hb.out.mono (by have := S1.out; omega))
        have cc := fun (q : Nat) => hb'.cell (p := ⟨g, q, none⟩) hg
        rw [Nat.zero_add] at e0 e1 e2 e3 e4
        rw [← cc] at e0 e1 e2 e3 e4
        have hc := IH.out (its[j]'(by rw [← HN.out]; exact hlt)) (wr.alloc (.cells #[.int .i64 k', .int .i64 i', .string t', .slice B n' c1, .slice B' n1 c2] 26)) _ (by omega) (by omega) (hx.below (hb'.alloc hb'.size _))
        generalize its[j]'(by rw [← HN.out]; exact hlt) = x at *
        have HC := Lib.hid hc
        have HB := Lib.hid hb'
        clear hc hx hb' cc C3
        unfold vag at HC
        go_wp2_with fail
        refine (HC.out).mono ?_
        rintro e w' ⟨rfl, hb2⟩
        have HB2 := Lib.hid (below_via hb.out hb2)
        clear hb2
        by_cases hmx : depths (its.take j) < x.depth
        · go_wp2
          go_roundw
          case rel => exact ⟨j + 1, by omega, by go_num, by rw [hdj]; go_num, HB2⟩
          case measure => simp [intOf]; omega
        · go_wp2
          go_roundw
          case rel => exact ⟨j + 1, by omega, by go_num, by rw [hdj]; go_num, HB2⟩
          case measure => simp [intOf]; omega
      · have C3' := (hb.out.cell (p := ⟨w.heap.size, 3, none⟩) S1.out).trans C3
        obtain rfl : j = n := by omega
        have hdl := depths_take_le its j
        go_wp2
        go_ret
        refine ⟨?_, B0.out.trans (hb.out.mono (by have := S1.out; omega))⟩
        rw [VT.depth_mk, HN.out, List.take_length]
        rfl
end Go.Proofs.Ytjbjoalinfhahaa
