/-
  Text, Int and Bool of the reference, Bool of the code, List of the reference.
-/
import Derived.Test.YtjblchdfkcbodaaGreatDoorVnl
import Derived.Test.YtjblchdfkcbodaaGreatDoorVcq
import Derived.Deep.Cut
namespace Go.Proofs.YtjblchdfkcbodaaGreatDoor
open Go.RowKit

def boolV (b : Bool) : Value := .agg #[.int .i64 1, .int .i64 (if b = true then 1 else 0), .string ⟨#[]⟩, .slice none 0 0, .slice none 0 0]
set_option maxHeartbeats 400000 in
theorem Bool_any (b : Bool) (w : World) : Calls Tryz.prog 44 #[.bool b] w (Gives (boolV b) w) := by
  cases b with
  | true =>
    go_enter Tryz.func44, Tryz.ntmps44
    go_wp2
    obtain ⟨wf, hwf⟩ : ∃ wf, wf = w.alloc (.cells #[.int .i64 1, .int .i64 1, .string ⟨#[]⟩, .slice none 0 0, .slice none 0 0] 25) := ⟨_, rfl⟩
    have QF : Hid (Bk wf w.heap.size 25 #[.int .i64 1, .int .i64 1, .string ⟨#[]⟩, .slice none 0 0, .slice none 0 0]) := Lib.hid (by rw [hwf]; exact Bk.new _ _ _)
    rw [← hwf]
    refine bodyPost_ret (results_cell_row rfl _ _ w.heap.size 25 _ (0, 0) _ rfl QF.out Tryz.underlying25 rfl (by kernel_rfl)) rfl ?_
    exact ⟨rfl, by rw [hwf]; exact below_one _ _⟩
  | false =>
    go_enter Tryz.func44, Tryz.ntmps44
    go_wp2
    obtain ⟨wf, hwf⟩ : ∃ wf, wf = w.alloc (.cells #[.int .i64 1, .int .i64 0, .string ⟨#[]⟩, .slice none 0 0, .slice none 0 0] 25) := ⟨_, rfl⟩
    have QF : Hid (Bk wf w.heap.size 25 #[.int .i64 1, .int .i64 0, .string ⟨#[]⟩, .slice none 0 0, .slice none 0 0]) := Lib.hid (by rw [hwf]; exact Bk.new _ _ _)
    rw [← hwf]
    refine bodyPost_ret (results_cell_row rfl _ _ w.heap.size 25 _ (0, 0) _ rfl QF.out Tryz.underlying25 rfl (by kernel_rfl)) rfl ?_
    exact ⟨rfl, by rw [hwf]; exact below_one _ _⟩

/-- a value that only reads through what is below the heap's end -/
def MakesL (y : VT) (w : World) (e : Ending) (w' : World) : Prop := ∃ v, e = .returned v ∧ Lies w' (Lo w') y v ∧ Below w.heap.size w w'
end Go.Proofs.YtjblchdfkcbodaaGreatDoor
