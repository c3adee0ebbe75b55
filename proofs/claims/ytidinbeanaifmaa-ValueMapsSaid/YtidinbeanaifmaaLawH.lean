/-
  The law's own function play: a call on both readers has the same effect.
-/
import Derived.Test.YtidinbeanaifmaaLawE
import Derived.Deep.RegionHeld3
namespace Go.Proofs.Ytidinbeanaifmaa
open Go.RowKit

/-- the three reads, whatever the error is -/
def intS (l : List UInt8) (e low high : Int) : Int × List UInt8 × Int := if e = 0 then intR l low high else (0, l, e)
def textS (l : List UInt8) (e most : Int) : List UInt8 × List UInt8 × Int := if e = 0 then textR l most else ([], l, e)
def boolS (l : List UInt8) (e : Int) : Bool × List UInt8 × Int := if e = 0 then boolR l else (false, l, e)

section
variable {w : World} {p q : Nat} {l : List UInt8} {e : Int}
theorem wInt_any (low high : Int) (h : WRd w p l e) : Calls Try.prog 135 #[.pointer (some ⟨p, 0, none⟩), .int .i64 low, .int .i64 high] w
    (Turns (.int .i64 (intS l e low high).1) w p fun w' => WRd w' p (intS l e low high).2.1 (intS l e low high).2.2) := by
  unfold intS
  by_cases he : e = 0
  · subst he; rw [if_pos rfl]; exact wInt_ok low high h
  · rw [if_neg he]; exact wInt_err low high h he
theorem rInt_any (low high : Int) (h : RRd w p l e) : Calls Try.prog 138 #[.pointer (some ⟨p, 0, none⟩), .int .i64 low, .int .i64 high] w
    (Turns (.int .i64 (intS l e low high).1) w p fun w' => RRd w' p (intS l e low high).2.1 (intS l e low high).2.2) := by
  unfold intS
  by_cases he : e = 0
  · subst he; rw [if_pos rfl]; exact rInt_ok low high h
  · rw [if_neg he]; exact rInt_err low high h he
theorem wText_any (most : Int) (h : WRd w p l e) : Calls Try.prog 136 #[.pointer (some ⟨p, 0, none⟩), .int .i64 most] w
    (Turns (.string ⟨(textS l e most).1.toArray⟩) w p fun w' => WRd w' p (textS l e most).2.1 (textS l e most).2.2) := by
  unfold textS
  by_cases he : e = 0
  · subst he; rw [if_pos rfl]; exact wText_ok most h
  · rw [if_neg he]; exact wText_err most h he
theorem rText_any (most : Int) (h : RRd w p l e) : Calls Try.prog 139 #[.pointer (some ⟨p, 0, none⟩), .int .i64 most] w
    (Turns (.string ⟨(textS l e most).1.toArray⟩) w p fun w' => RRd w' p (textS l e most).2.1 (textS l e most).2.2) := by
  unfold textS
  by_cases he : e = 0
  · subst he; rw [if_pos rfl]; exact rText_ok most h
  · rw [if_neg he]; exact rText_err most h he
def failS (e x : Int) : Int := if e = 0 then x else e
theorem rFail_named (x : Int) (h : RRd w p l e) : Calls Try.prog 137 #[.pointer (some ⟨p, 0, none⟩), .int .i64 x] w (Turns (.tuple #[]) w p fun w' => RRd w' p l (failS e x)) := rFail_any x h
theorem wFail_any (x : Int) (h : WRd w p l e) : Calls Try.prog 134 #[.pointer (some ⟨p, 0, none⟩), .int .i64 x] w (Turns (.tuple #[]) w p fun w' => WRd w' p l (failS e x)) := by
  unfold failS
  by_cases he : e = 0
  · subst he; rw [if_pos rfl]; exact wFail_ok x h
  · rw [if_neg he]; exact wFail_err x h he

/-- a fourth block stays: neither reader is in it -/
theorem cell_only {w w' : World} {g p i : Nat} (hg : w.grownBy w' (some p)) (hlt : g < w.heap.size) (hne : g ≠ p) : w'.cell? ⟨g, i, none⟩ = w.cell? ⟨g, i, none⟩ :=
  World.cell?_of_block (hg.block g hlt (fun e => hne (by injection e)))

/-- both readers after both calls, in either order -/
def Fin (w w' : World) (p q : Nat) (l' : List UInt8) (e' : Int) : Prop :=
  WRd w' p l' e' ∧ RRd w' q l' e' ∧ ∀ B, B ≤ p → B ≤ q → B ≤ w.heap.size → Below B w w'
theorem fin_AB {w W wA wB : World} {l1 : List UInt8} {e1 : Int} (hb : Below w.heap.size w W) (P : WRd W p l e) (Q : RRd W q l e) (hA : W.grownBy wA (some p)) (hB : wA.grownBy wB (some q)) (PA : WRd wA p l1 e1) (QB : RRd wB q l1 e1) : Fin w wB p q l1 e1 :=
  ⟨PA.otherR (Q.otherW P (fun h => P.ne_ Q h.symm) hA) (P.ne_ Q) hB, QB, fun _ h1 h2 h3 =>
    below_only (below_only (hb.mono h3) hA (Nat.le_trans h3 hb.size) h1) hB (Nat.le_trans (Nat.le_trans h3 hb.size) hA.size) h2⟩
theorem fin_BA {w W wA wB : World} {l1 : List UInt8} {e1 : Int} (hb : Below w.heap.size w W) (P : WRd W p l e) (Q : RRd W q l e) (hB : W.grownBy wB (some q)) (hA : wB.grownBy wA (some p)) (PA : WRd wA p l1 e1) (QB : RRd wB q l1 e1) : Fin w wA p q l1 e1 :=
  ⟨PA, QB.otherW (P.otherR Q (P.ne_ Q) hB) (fun h => P.ne_ Q h.symm) hA, fun _ h1 h2 h3 =>
    below_only (below_only (hb.mono h3) hB (Nat.le_trans h3 hb.size) h2) hA (Nat.le_trans (Nat.le_trans h3 hb.size) hB.size) h1⟩

/-- what play says -/
def Plays (w : World) (p q : Nat) (e1 : Ending) (w' : World) : Prop := e1 = .returned (.bool true) ∧ ∃ l' e', Fin w w' p q l' e'

end
end Go.Proofs.Ytidinbeanaifmaa
