/-
  How a value of layer 2 lies in memory: the tree that it reads as, and through which blocks.
-/
import Derived.Test.YtlgmhhimbabkjaaGreatDoorTree
import Derived.Deep.Slices
import Derived.Deep.Strs
import Derived.SliceStrings
namespace Go.Proofs.YtlgmhhimbabkjaaGreatDoor
open Go.RowKit

/-- strings from address A on -/
def LiesS (w : World) (R : Nat → Prop) (A : Option Addr) (ks : List ByteArray) : Prop :=
  ∀ (j : Nat) (s : ByteArray), ks[j]? = some s → s.size ≤ 9223372036854775807 ∧ ∃ g o, A = some ⟨g, o, none⟩ ∧ R g ∧ w.cell? ⟨g, o + j, none⟩ = some (.string s)

/-- a value as its five cells -/
def vag (k i : Int) (t : ByteArray) (A : Option Addr) (n c : Nat) (A' : Option Addr) (n' c' : Nat) : Value := .agg #[.int .i64 k, .int .i64 i, .string t, .slice A n c, .slice A' n' c']

mutual
/-- the value v reads as the tree, through blocks of R -/
def Lies (w : World) (R : Nat → Prop) : VT → Value → Prop
  | .mk k i t its ks, v => ∃ A c A' c', v = vag k i t A its.length c A' ks.length c' ∧ (-9223372036854775808 ≤ k ∧ k ≤ 9223372036854775807) ∧ (-9223372036854775808 ≤ i ∧ i ≤ 9223372036854775807) ∧ t.size ≤ 9223372036854775807 ∧
      its.length ≤ c ∧ c ≤ 9223372036854775807 ∧ LiesL w R A 0 its ∧ ks.length ≤ c' ∧ c' ≤ 9223372036854775807 ∧ LiesS w R A' ks
/-- values in a row from address A on, the first of them at index j -/
def LiesL (w : World) (R : Nat → Prop) (A : Option Addr) (j : Nat) : List VT → Prop
  | [] => True
  | x :: r => (∃ g o a b s y z, A = some ⟨g, o, none⟩ ∧ R g ∧ w.cell? ⟨g, o + j * 5, none⟩ = some a ∧ w.cell? ⟨g, o + j * 5 + 1, none⟩ = some b ∧ w.cell? ⟨g, o + j * 5 + 2, none⟩ = some s ∧
      w.cell? ⟨g, o + j * 5 + 3, none⟩ = some y ∧ w.cell? ⟨g, o + j * 5 + 4, none⟩ = some z ∧ Lies w R x (.agg #[a, b, s, y, z])) ∧ LiesL w R A (j + 1) r
end

section
variable {w w' : World} {R R' : Nat → Prop}

theorem Lies.open {k i : Int} {t : ByteArray} {its : List VT} {ks : List ByteArray} {v : Value} (h : Lies w R (.mk k i t its ks) v) :
    ∃ A c A' c', v = vag k i t A its.length c A' ks.length c' ∧ (-9223372036854775808 ≤ k ∧ k ≤ 9223372036854775807) ∧ (-9223372036854775808 ≤ i ∧ i ≤ 9223372036854775807) ∧ t.size ≤ 9223372036854775807 ∧
      its.length ≤ c ∧ c ≤ 9223372036854775807 ∧ LiesL w R A 0 its ∧ ks.length ≤ c' ∧ c' ≤ 9223372036854775807 ∧ LiesS w R A' ks := by rwa [Lies] at h
variable {A : Option Addr} in
theorem LiesL.cons {x : VT} {r : List VT} {j : Nat} (h : LiesL w R A j (x :: r)) :
    (∃ g o a b s y z, A = some ⟨g, o, none⟩ ∧ R g ∧ w.cell? ⟨g, o + j * 5, none⟩ = some a ∧ w.cell? ⟨g, o + j * 5 + 1, none⟩ = some b ∧ w.cell? ⟨g, o + j * 5 + 2, none⟩ = some s ∧
      w.cell? ⟨g, o + j * 5 + 3, none⟩ = some y ∧ w.cell? ⟨g, o + j * 5 + 4, none⟩ = some z ∧ Lies w R x (.agg #[a, b, s, y, z])) ∧ LiesL w R A (j + 1) r := by rwa [LiesL] at h
variable {A : Option Addr} in
theorem LiesL.at_ {l : List VT} {x : VT} : ∀ {m j : Nat}, LiesL w R A m l → l[j]? = some x →
    ∃ g o k i t B n c B' n' c', A = some ⟨g, o, none⟩ ∧ R g ∧ w.cell? ⟨g, o + (m + j) * 5, none⟩ = some (.int .i64 k) ∧ w.cell? ⟨g, o + (m + j) * 5 + 1, none⟩ = some (.int .i64 i) ∧ w.cell? ⟨g, o + (m + j) * 5 + 2, none⟩ = some (.string t) ∧
      w.cell? ⟨g, o + (m + j) * 5 + 3, none⟩ = some (.slice B n c) ∧ w.cell? ⟨g, o + (m + j) * 5 + 4, none⟩ = some (.slice B' n' c') ∧ Lies w R x (vag k i t B n c B' n' c') := by
  induction l with
  | nil => intro m j _ h; simp at h
  | cons y r ih =>
    intro m j h hj
    obtain ⟨⟨g, o, a, b, s, p, q, hA, hR, h0, h1, h2, h3, h4, hx⟩, hr⟩ := h.cons
    cases j with
    | zero =>
      obtain rfl : y = x := by simpa using hj
      obtain ⟨k, i, t, its, ks⟩ := y
      have hx' := hx
      obtain ⟨B, c, B', c', e, _⟩ := hx.open
      unfold vag at e
      simp only [Value.agg.injEq, Array.mk.injEq, List.cons.injEq, and_true] at e
      obtain ⟨rfl, rfl, rfl, rfl, rfl⟩ := e
      exact ⟨g, o, k, i, t, B, _, c, B', _, c', hA, hR, h0, h1, h2, h3, h4, hx'⟩
    | succ j =>
      have := ih hr (j := j) (by simpa using hj)
      rw [show m + 1 + j = m + (j + 1) by omega] at this
      exact this
variable {A : Option Addr} in
theorem LiesL.none_ {j : Nat} : LiesL w R A j [] := by rw [LiesL]; trivial
variable {A : Option Addr} in
theorem LiesS.none_ : LiesS w R A [] := fun j s h => by simp at h

variable {A : Option Addr} in
theorem LiesS.keep {ks : List ByteArray} (h : LiesS w R A ks) (hk : ∀ p : Addr, R p.block → w'.cell? p = w.cell? p) (hR : ∀ b, R b → R' b) : LiesS w' R' A ks := fun j s hj => by
  obtain ⟨h0, g, o, h1, h2, h3⟩ := h j s hj
  exact ⟨h0, g, o, h1, hR _ h2, (hk ⟨g, o + j, none⟩ h2).trans h3⟩
mutual
theorem Lies.keep (hk : ∀ p : Addr, R p.block → w'.cell? p = w.cell? p) (hR : ∀ b, R b → R' b) : ∀ {x : VT} {v : Value}, Lies w R x v → Lies w' R' x v
  | .mk k i t its ks, v, h => by
    rw [Lies] at h ⊢
    obtain ⟨A, c, A', c', e, h1, h2, h3, h4, h5, h6, h7, h8, h9⟩ := h
    exact ⟨A, c, A', c', e, h1, h2, h3, h4, h5, LiesL.keep hk hR h6, h7, h8, h9.keep hk hR⟩
theorem LiesL.keep (hk : ∀ p : Addr, R p.block → w'.cell? p = w.cell? p) (hR : ∀ b, R b → R' b) : ∀ {A : Option Addr} {l : List VT} {j : Nat}, LiesL w R A j l → LiesL w' R' A j l
  | A, [], _, _ => by rw [LiesL]; trivial
  | A, x :: r, j, h => by
    rw [LiesL] at h ⊢
    obtain ⟨⟨g, o, a, b, s, y, z, hA, hb, h0, h1, h2, h3, h4, hx⟩, hr⟩ := h
    exact ⟨⟨g, o, a, b, s, y, z, hA, hR _ hb, (hk ⟨g, o + j * 5, none⟩ hb).trans h0, (hk ⟨g, o + j * 5 + 1, none⟩ hb).trans h1, (hk ⟨g, o + j * 5 + 2, none⟩ hb).trans h2, (hk ⟨g, o + j * 5 + 3, none⟩ hb).trans h3,
      (hk ⟨g, o + j * 5 + 4, none⟩ hb).trans h4, Lies.keep hk hR hx⟩, LiesL.keep hk hR hr⟩
end

variable {A : Option Addr}
/-- a row from an index on -/
theorem LiesL.drop {l : List VT} : ∀ {m : Nat} (j : Nat), LiesL w R A m l → LiesL w R A (m + j) (l.drop j) := by
  induction l with
  | nil => intro m j _; rw [List.drop_nil]; exact LiesL.none_
  | cons y r ih =>
    intro m j h
    cases j with
    | zero => exact h
    | succ j =>
      have := ih j h.cons.2
      rwa [show m + 1 + j = m + (j + 1) by omega] at this
theorem LiesL.snoc {l : List VT} {x : VT} : ∀ {m : Nat}, LiesL w R A m l → LiesL w R A (m + l.length) [x] → LiesL w R A m (l ++ [x]) := by
  induction l with
  | nil => intro m _ h; simpa using h
  | cons y r ih =>
    intro m h hx
    rw [List.cons_append, LiesL]
    rw [LiesL] at h
    exact ⟨h.1, ih h.2 (by rw [List.length_cons] at hx; rwa [show m + 1 + r.length = m + (r.length + 1) by omega])⟩
theorem LiesL.take {l : List VT} : ∀ {m : Nat} (j : Nat), LiesL w R A m l → LiesL w R A m (l.take j) := by
  induction l with
  | nil => intro m j _; rw [List.take_nil]; exact LiesL.none_
  | cons y r ih =>
    intro m j h
    cases j with
    | zero => exact LiesL.none_
    | succ j =>
      rw [List.take_succ_cons, LiesL]
      rw [LiesL] at h
      exact ⟨h.1, ih j h.2⟩
/-- a row is known by each of its places -/
theorem LiesL.of_at {l : List VT} : ∀ {m : Nat}, (∀ j x, l[j]? = some x → ∃ g o a b s y z, A = some ⟨g, o, none⟩ ∧ R g ∧ w.cell? ⟨g, o + (m + j) * 5, none⟩ = some a ∧ w.cell? ⟨g, o + (m + j) * 5 + 1, none⟩ = some b ∧ w.cell? ⟨g, o + (m + j) * 5 + 2, none⟩ = some s ∧
      w.cell? ⟨g, o + (m + j) * 5 + 3, none⟩ = some y ∧ w.cell? ⟨g, o + (m + j) * 5 + 4, none⟩ = some z ∧ Lies w R x (.agg #[a, b, s, y, z])) → LiesL w R A m l := by
  induction l with
  | nil => intro m _; exact LiesL.none_
  | cons y r ih =>
    intro m h
    rw [LiesL]
    refine ⟨h 0 y rfl, ih fun j x hj => ?_⟩
    have := h (j + 1) x (by simpa using hj)
    rwa [show m + (j + 1) = m + 1 + j by omega] at this
end

/-- below the end of the heap -/
def Lo (w : World) : Nat → Prop := fun b => b < w.heap.size
section
variable {w w' : World} {A : Option Addr}
theorem Lies.below {x : VT} {v : Value} (h : Lies w (Lo w) x v) (hb : Below w.heap.size w w') : Lies w' (Lo w') x v :=
  h.keep (fun _ hp => hb.cell hp) (fun b (h : b < _) => show b < _ from Nat.lt_of_lt_of_le h hb.size)
theorem LiesL.below {l : List VT} {j : Nat} (h : LiesL w (Lo w) A j l) (hb : Below w.heap.size w w') : LiesL w' (Lo w') A j l :=
  h.keep (fun _ hp => hb.cell hp) (fun b (h : b < _) => show b < _ from Nat.lt_of_lt_of_le h hb.size)
theorem LiesS.below {l : List ByteArray} (h : LiesS w (Lo w) A l) (hb : Below w.heap.size w w') : LiesS w' (Lo w') A l :=
  h.keep (fun _ hp => hb.cell hp) (fun b (h : b < _) => show b < _ from Nat.lt_of_lt_of_le h hb.size)
theorem below_one (w : World) (o : Obj) : Below w.heap.size w (w.alloc o) := Below.alloc (Below.refl _ _) (Nat.le_refl _) o
end

theorem below_next {a b c : World} (h : Below a.heap.size a b) (k : Below b.heap.size b c) : Below a.heap.size a c := h.trans (k.mono h.size)
theorem below_via {a b c : World} {o : Obj} (h : Below a.heap.size a b) (k : Below (b.alloc o).heap.size (b.alloc o) c) : Below a.heap.size a c :=
  (h.alloc h.size o).trans (k.mono (Nat.le_trans h.size (by simp)))

theorem below_drew {B : Nat} {a w : World} (h : Below B a w) (k : Nat) : Below B a (w.drewN k) := ⟨h.os, h.tape, h.output, h.size, h.block⟩
end Go.Proofs.YtlgmhhimbabkjaaGreatDoor
