/-
  Equality: Same of the code.
-/
import Derived.Test.YtlgmhhimbabkjaaGreatDoorVasc
namespace Go.Proofs.YtlgmhhimbabkjaaGreatDoor
open Go.RowKit

/-- equal or not -/
noncomputable def eqB {α : Type} (a b : α) : Bool := @decide (a = b) (Classical.propDecidable _)
theorem eqB_true {α : Type} {a b : α} (h : a = b) : eqB a b = true := @decide_eq_true _ (Classical.propDecidable _) h
theorem eqB_false {α : Type} {a b : α} (h : a ≠ b) : eqB a b = false := @decide_eq_false _ (Classical.propDecidable _) h
theorem of_eqB {α : Type} {a b : α} (h : eqB a b = true) : a = b := @of_decide_eq_true _ (Classical.propDecidable _) h
theorem of_eqB_false {α : Type} {a b : α} (h : eqB a b = false) : a ≠ b := @of_decide_eq_false _ (Classical.propDecidable _) h

/-- a world that differs above w alone -/
structure BelowBy (w : World) where
  val : World
  below : Below w.heap.size w val
instance (w : World) : Inhabited (BelowBy w) := ⟨⟨w, Below.refl _ _⟩⟩
theorem wp_region_gives {P : Program} {id : Nat} {Q : Exit → Act → World → Prop} {a : Act} {w : World} {l : List Oper} (hm : P.follows .mixedOrders = true) (hB : Region.lexB .any l.toArray = true)
    (h : wpQuiet P l.toArray (fun w' => ∃ q : BelowBy w, w' = q.val) (fun a' => ∀ w', (∃ q : BelowBy w, w' = q.val) → Q .normal a' w') l a) : (Code.region id l.toArray true).wp P Q a w :=
  wp_region_quiet (C := fun w' => ∃ q : BelowBy w, w' = q.val) hm hB ⟨⟨{ w with drawn := w.drawn + 1 }, ⟨rfl, rfl, rfl, Nat.le_refl _, fun _ _ => rfl⟩⟩, rfl⟩ (by simpa using h)
theorem gives_by {P : Program} {f : FuncId} {args : Array Value} {w : World} {q : BelowBy w} {v : Value} (h : Calls P f args q.val (Gives v q.val)) :
    Calls P f args q.val fun e w'' => e = .returned v ∧ ∃ p : BelowBy w, w'' = p.val :=
  h.mono fun _ w' hh => ⟨hh.1, ⟨w', below_next q.below hh.2⟩, rfl⟩

section
variable {w : World}
theorem take_same {α : Type} {l r : List α} {j : Nat} {x y : α} (h : l[j]? = some x) (k : r[j]? = some y) (e : l.take j = r.take j) (hx : x = y) : l.take (j + 1) = r.take (j + 1) := by
  rw [List.take_add_one, List.take_add_one, h, k, e, hx]
theorem at_same {α : Type} {l r : List α} {j : Nat} {x y : α} (h : l[j]? = some x) (k : r[j]? = some y) (hx : x ≠ y) : l ≠ r := by
  intro e
  subst e
  rw [h] at k
  exact hx (by injection k)

end
end Go.Proofs.YtlgmhhimbabkjaaGreatDoor
