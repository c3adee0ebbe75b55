/-
  What a parser's call may turn: a few blocks alone.
-/
import Derived.Test.YtlgmhhimbabkjaaGreatDoorTi
namespace Go.Proofs.YtlgmhhimbabkjaaGreatDoor
open Go.RowKit

/-- of what was there only blocks of S may have turned -/
structure FrS (S : Nat → Prop) (w w' : World) : Prop where
  os : w'.os = w.os
  tape : w'.tape = w.tape
  output : w'.output = w.output
  size : w.heap.size ≤ w'.heap.size
  block : ∀ b, b < w.heap.size → ¬ S b → w'.heap[b]? = w.heap[b]?
section
variable {S S' : Nat → Prop} {a b c w w' : World}
theorem FrS.refl (S : Nat → Prop) (w : World) : FrS S w w := ⟨rfl, rfl, rfl, Nat.le_refl _, fun _ _ _ => rfl⟩
theorem FrS.trans (h : FrS S a b) (k : FrS S b c) : FrS S a c :=
  ⟨k.os.trans h.os, k.tape.trans h.tape, k.output.trans h.output, Nat.le_trans h.size k.size, fun i hi hs => (k.block i (Nat.lt_of_lt_of_le hi h.size) hs).trans (h.block i hi hs)⟩
/-- a call that turns blocks which were not there -/
theorem FrS.next (h : FrS S a b) (k : FrS S' b c) (hs : ∀ i, i < a.heap.size → S' i → S i) : FrS S a c :=
  ⟨k.os.trans h.os, k.tape.trans h.tape, k.output.trans h.output, Nat.le_trans h.size k.size, fun i hi hn => (k.block i (Nat.lt_of_lt_of_le hi h.size) (fun e => hn (hs i hi e))).trans (h.block i hi hn)⟩
theorem FrS.of_below (h : Below w.heap.size w w') : FrS S w w' := ⟨h.os, h.tape, h.output, h.size, fun b hb _ => h.block b hb⟩
theorem FrS.of_grown {p : Nat} (h : w.grownBy w' (some p)) (hp : S p) : FrS S w w' := ⟨h.os, h.tape, h.output, h.size, fun b hb hn => h.block b hb (fun e => hn (by injection e with e; rw [e]; exact hp))⟩
theorem FrS.of_row {r : Option Nat} (h : w.grownBy w' r) (hr : ∀ q, r = some q → S q) : FrS S w w' := ⟨h.os, h.tape, h.output, h.size, fun b hb hn => h.block b hb (fun e => hn (hr b e.symm))⟩
theorem FrS.bk (h : FrS S w w') {g : Nat} {t : TypeId} {cs : Array Value} (hb : Bk w g t cs) (hg : ¬ S g) : Bk w' g t cs := (h.block g hb.lt hg).trans hb
theorem FrS.cell (h : FrS S w w') {p : Addr} (hp : p.block < w.heap.size) (hs : ¬ S p.block) : w'.cell? p = w.cell? p := World.cell?_of_block (h.block _ hp hs)
theorem FrS.below (h : FrS S w w') {B : Nat} (hB : B ≤ w.heap.size) (hs : ∀ b, S b → B ≤ b) : Below B w w' := ⟨h.os, h.tape, h.output, h.size, fun b hb => h.block b (by omega) (fun e => by have := hs b e; omega)⟩
theorem FrS.same (h : FrS S w w') {lo : Nat} (hs : ∀ b, S b → b < lo) : SameFrom lo w w' := fun b h1 h2 => h.block b h2 (fun e => by have := hs b e; omega)
end
/-- two blocks, three blocks -/
def Two (p q : Nat) : Nat → Prop := fun b => b = p ∨ b = q
def Three (p q g : Nat) : Nat → Prop := fun b => b = p ∨ b = q ∨ b = g
/-- blocks that were not there -/
def New (w w' : World) : Nat → Prop := fun b => w.heap.size ≤ b ∧ b < w'.heap.size

theorem leaf_lies {w : World} {R : Nat → Prop} {k i : Int} {t : ByteArray} (h1 : -9223372036854775808 ≤ k ∧ k ≤ 9223372036854775807) (h2 : -9223372036854775808 ≤ i ∧ i ≤ 9223372036854775807) (h3 : t.size ≤ 9223372036854775807) :
    Lies w R (.mk k i t [] []) (.agg #[.int .i64 k, .int .i64 i, .string t, .slice none 0 0, .slice none 0 0]) := by
  rw [Lies]
  exact ⟨none, 0, none, 0, rfl, h1, h2, h3, Nat.le_refl _, by omega, LiesL.none_, Nat.le_refl _, by omega, LiesS.none_⟩
end Go.Proofs.YtlgmhhimbabkjaaGreatDoor
