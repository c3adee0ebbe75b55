/-
  Copy of the code: an equal value in memory of its own.
-/
import Derived.Test.YtlgmhhimbabkjaaGreatDoorVow
import Derived.Deep.RegionHeld3
namespace Go.Proofs.YtlgmhhimbabkjaaGreatDoor
open Go.RowKit

/-- no row needs more memory than there is -/
def reachF (x : VT) : Bool := decide (x.its.length * 80 ≤ 140737488355328) && decide (x.ks.length * 16 ≤ 140737488355328)
theorem reach_mk {k i : Int} {t : ByteArray} {its : List VT} {ks : List ByteArray} (h : (VT.mk k i t its ks).all reachF = true) : its.length * 80 ≤ 140737488355328 ∧ ks.length * 16 ≤ 140737488355328 ∧ alls reachF its = true := by
  rw [VT.all_mk, Bool.and_eq_true] at h
  obtain ⟨h1, h2⟩ := h
  unfold reachF at h1
  rw [Bool.and_eq_true, decide_eq_true_eq, decide_eq_true_eq] at h1
  exact ⟨h1.1, h1.2, h2⟩
/-- what Copy hands back -/
def Copies (x : VT) (w : World) (e : Ending) (w' : World) : Prop := ∃ v, e = .returned v ∧ Ownd w' w.heap.size x v ∧ Below w.heap.size w w'

theorem grown_of_below {r : Option Nat} {w w' : World} (h : Below w.heap.size w w') : w.grownBy w' r := ⟨h.os, h.tape, h.output, h.size, fun k hk _ => h.block k hk⟩
theorem same_trans {lo : Nat} {a b c : World} (h : SameFrom lo a b) (k : SameFrom lo b c) (hs : a.heap.size ≤ b.heap.size) : SameFrom lo a c := fun i h1 h2 => (k i h1 (by omega)).trans (h i h1 h2)
theorem same_of_below {lo B : Nat} {w w' : World} (h : Below B w w') (hB : w.heap.size ≤ B) : SameFrom lo w w' := fun b _ hb => h.block b (by omega)
theorem same_grown {lo g : Nat} {w w' : World} (h : w.grownBy w' (some g)) (hg : g < lo) : SameFrom lo w w' := fun b h1 h2 => h.block b h2 (by intro e; injection e with e; omega)

theorem Lies.form {w : World} {R : Nat → Prop} {x : VT} {a b s y z : Value} (h : Lies w R x (.agg #[a, b, s, y, z])) : ∃ k i t A n c A' n' c', a = .int .i64 k ∧ b = .int .i64 i ∧ s = .string t ∧ y = .slice A n c ∧ z = .slice A' n' c' := by
  obtain ⟨k, i, t, its, ks⟩ := x
  obtain ⟨A, c, A', c', e, _⟩ := h.open
  unfold vag at e
  simp only [Value.agg.injEq, Array.mk.injEq, List.cons.injEq, and_true] at e
  obtain ⟨rfl, rfl, rfl, rfl, rfl⟩ := e
  exact ⟨_, _, _, _, _, _, _, _, _, rfl, rfl, rfl, rfl, rfl⟩
theorem Ownd.form {w : World} {lo : Nat} {x : VT} {v : Value} (h : Ownd w lo x v) : ∃ k i t A n c A' n' c', v = .agg #[.int .i64 k, .int .i64 i, .string t, .slice A n c, .slice A' n' c'] := by
  obtain ⟨k, i, t, its, ks⟩ := x
  rw [Ownd] at h
  obtain ⟨A, c, A', c', cs, rfl, _⟩ := h
  exact ⟨_, _, _, _, _, _, _, _, _, rfl⟩
theorem own_at {w : World} {lo n c size : Nat} {e : TypeId} {A : Option Addr} {xs : List Value} (h : w.ownsRow lo e size (.slice A n c) n xs) (hn : 0 < n) : ∃ g, A = some ⟨g, 0, none⟩ ∧ lo ≤ g ∧ g < w.heap.size := by
  rcases h.2 with ⟨_, h0⟩ | ⟨g, cap, cur, hv, hb, hg, _⟩
  · omega
  · injection hv with hv
    exact ⟨g, hv, hb, (Array.getElem?_eq_some_iff.1 hg).1⟩
theorem mid_at {new rest : List Value} {a b s y z : Value} {m : Nat} (h : new.length = m) :
    (new ++ a :: b :: s :: y :: z :: rest)[m]? = some a ∧ (new ++ a :: b :: s :: y :: z :: rest)[m + 1]? = some b ∧ (new ++ a :: b :: s :: y :: z :: rest)[m + 2]? = some s ∧
    (new ++ a :: b :: s :: y :: z :: rest)[m + 3]? = some y ∧ (new ++ a :: b :: s :: y :: z :: rest)[m + 4]? = some z := by
  subst h
  refine ⟨?_, ?_, ?_, ?_, ?_⟩ <;> rw [List.getElem?_append_right (by omega)] <;> simp

end Go.Proofs.YtlgmhhimbabkjaaGreatDoor
