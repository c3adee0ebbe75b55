/-
  Null, Int, Text and limited of the code.
-/
import Derived.Test.YtlgmhhimbabkjaaGreatDoorVco
import Derived.Test.YtlgmhhimbabkjaaGreatDoorVfit
import Derived.Laws.ResultCell
namespace Go.Proofs.YtlgmhhimbabkjaaGreatDoor
open Go.RowKit

theorem results_row2 {P : Program} {fn : Func} {p u : Tmp} {ty : TypeId} (h : fn.results = #[.cell p ty, .tmp u]) (tmps : Array Value) (w : World) (g : Nat) (t : TypeId) (cs : Array Value) (fr : Nat × Nat) (d : TypeDesc)
    (hp : tmps.getD p undef = .pointer (some ⟨g, 0, none⟩)) (hg : w.heap[g]? = some (.cells cs t fr))
    (hu : P.underlying ty = some d) (hd : (match d with | .struct _ | .array _ _ => true | _ => false) = true) (hi : (P.info? ty).map (·.size) = some cs.size) :
    (results fn tmps).run P w = .ok (.tuple #[.agg cs, tmps.getD u undef]) w := by
  rw [results_cell_tmp h, hp]
  simp [asAddr, run_loadVar_row w g t ty cs fr d hg hu hd hi]

/-- the zero value -/
def zeroV : Value := .agg #[.int .i64 0, .int .i64 0, .string ⟨#[]⟩, .slice none 0 0, .slice none 0 0]
theorem zero_lies (w : World) (R : Nat → Prop) : Lies w R nullT zeroV := by
  unfold nullT
  rw [Lies]
  exact ⟨none, 0, none, 0, rfl, by omega, by omega, by decide, Nat.le_refl _, by omega, LiesL.none_, Nat.le_refl _, by omega, LiesS.none_⟩

set_option maxHeartbeats 400000 in
theorem Null_any (w : World) : Calls Tryz.prog 23 #[] w (Gives zeroV w) := by
  go_enter Tryz.func23, Tryz.ntmps23
  go_wp2
  obtain ⟨wf, hwf⟩ : ∃ wf, wf = w.alloc (.cells #[.int .i64 0, .int .i64 0, .string ⟨#[]⟩, .slice none 0 0, .slice none 0 0] 25) := ⟨_, rfl⟩
  have QF : Hid (Bk wf w.heap.size 25 #[.int .i64 0, .int .i64 0, .string ⟨#[]⟩, .slice none 0 0, .slice none 0 0]) := Lib.hid (by rw [hwf]; exact Bk.new _ _ _)
  rw [← hwf]
  refine bodyPost_ret (results_cell_row rfl _ _ w.heap.size 25 _ (0, 0) _ rfl QF.out Tryz.underlying25 rfl (by kernel_rfl)) rfl ?_
  exact ⟨rfl, by rw [hwf]; exact below_one _ _⟩
set_option maxHeartbeats 400000 in
theorem Int_any (n : Int) (w : World) : Calls Tryz.prog 78 #[.int .i64 n] w (Gives (.agg #[.int .i64 2, .int .i64 n, .string ⟨#[]⟩, .slice none 0 0, .slice none 0 0]) w) := by
  go_enter Tryz.func78, Tryz.ntmps78
  go_wp2
  obtain ⟨wf, hwf⟩ : ∃ wf, wf = w.alloc (.cells #[.int .i64 2, .int .i64 n, .string ⟨#[]⟩, .slice none 0 0, .slice none 0 0] 25) := ⟨_, rfl⟩
  have QF : Hid (Bk wf w.heap.size 25 #[.int .i64 2, .int .i64 n, .string ⟨#[]⟩, .slice none 0 0, .slice none 0 0]) := Lib.hid (by rw [hwf]; exact Bk.new _ _ _)
  rw [← hwf]
  refine bodyPost_ret (results_cell_row rfl _ _ w.heap.size 25 _ (0, 0) _ rfl QF.out Tryz.underlying25 rfl (by kernel_rfl)) rfl ?_
  exact ⟨rfl, by rw [hwf]; exact below_one _ _⟩
set_option maxHeartbeats 400000 in
theorem Text_any (s : ByteArray) (w : World) : Calls Tryz.prog 45 #[.string s] w (Gives (.agg #[.int .i64 3, .int .i64 0, .string s, .slice none 0 0, .slice none 0 0]) w) := by
  go_enter Tryz.func45, Tryz.ntmps45
  go_wp2
  obtain ⟨wf, hwf⟩ : ∃ wf, wf = w.alloc (.cells #[.int .i64 3, .int .i64 0, .string s, .slice none 0 0, .slice none 0 0] 25) := ⟨_, rfl⟩
  have QF : Hid (Bk wf w.heap.size 25 #[.int .i64 3, .int .i64 0, .string s, .slice none 0 0, .slice none 0 0]) := Lib.hid (by rw [hwf]; exact Bk.new _ _ _)
  rw [← hwf]
  refine bodyPost_ret (results_cell_row rfl _ _ w.heap.size 25 _ (0, 0) _ rfl QF.out Tryz.underlying25 rfl (by kernel_rfl)) rfl ?_
  exact ⟨rfl, by rw [hwf]; exact below_one _ _⟩

/-- a value and an error -/
def MakesE (x : VT) (r : Int) (w : World) (e : Ending) (w' : World) : Prop := ∃ v, e = .returned (.tuple #[v, .int .i64 r]) ∧ Ownd w' w.heap.size x v ∧ Below w.heap.size w w'
theorem zero_ownd (w : World) (lo : Nat) : Ownd w lo nullT zeroV := by
  unfold nullT
  rw [Ownd]
  exact ⟨none, 0, none, 0, [], rfl, by omega, by omega, by decide, World.ownsRow_nil _ _ _ _, by rw [OwnC], World.ownsRow_nil _ _ _ _, fun s h => by cases h⟩

/-- limited's answer and its error -/
def limT (x : VT) : VT := if x.within = true then x else nullT
def limE (x : VT) : Int := if x.within = true then 0 else 6
theorem limT_yes {x : VT} (h : x.within = true) : limT x = x ∧ limE x = 0 := by unfold limT limE; rw [if_pos h, if_pos h]; exact ⟨rfl, rfl⟩
theorem limT_no {x : VT} (h : x.within = false) : limT x = nullT ∧ limE x = 6 := by unfold limT limE; rw [h]; exact ⟨rfl, rfl⟩

end Go.Proofs.YtlgmhhimbabkjaaGreatDoor
