/-
  The argument []Read of WireReads, opened for the walk.
-/
import Derived.Test.YtlhloebpppmgdaaLawI
import Derived.Test.YtlhloebpppmgdaaFrame
import Derived.Deep.Slices
import Derived.Deep.Strs
namespace Go.Proofs.Ytlhloebpppmgdaa.opens
open Go.ChangeShapes Go.WideShapes Go.ChangeAt Go.RowKit Go.Deep

theorem Try.cellsRead : Try.prog.cellsOf 35 = 3 := by kernel_rfl
theorem Try.cellsInt : Try.prog.cellsOf 3 = 1 := by kernel_rfl

section
variable {H : Type} {enc : TypeId × Value → H} {W : World} {base : Nat} {spare : Nat → Bool} {held : Bool}
theorem read_cells {n : Nat} {cs : List Value} {y : DataW H × List MemPlace} (h : DataW.trod enc Try.prog W base spare held n 35 cs = some y) : ∃ a b c : Int, cs = [.int .i64 a, .int .i64 b, .int .i64 c] := by
  obtain ⟨y0, y1, y2, m, _, hl, h0, h1, h2⟩ := trod_struct3 Try.underlying35 h
  rw [Try.cellsRead] at hl
  rw [Try.cellsInt] at h0 h1 h2
  obtain ⟨a, ha, _, _⟩ := DataW.trod_int Try.underlying3 h0
  obtain ⟨b, hb, _, _⟩ := DataW.trod_int Try.underlying3 h1
  obtain ⟨c, hc, _, _⟩ := DataW.trod_int Try.underlying3 h2
  match cs, hl with
  | [c0, c1, c2], _ =>
    simp at ha hb hc
    exact ⟨a, b, c, by rw [ha, hb, hc]⟩

theorem reads {r : Reach} {b0 : Nat} {v : Value} {d : DataW H} {ps : List MemPlace}
    (hval : Value.okWide Try.prog W r b0 29 v) (hd : DataW.Trod enc Try.prog W base spare held 29 v d ps) : ∃ A m c, v = .slice A m c ∧ Rs W W.heap.size A m := by
  obtain ⟨A, m, c, rfl⟩ := okWide_slice Try.underlying29 hval
  obtain ⟨fuel, hf⟩ := hd
  refine ⟨A, m, c, rfl, fun hm => ?_⟩
  rcases open_slice Try.underlying29 hf with ⟨hcs, _⟩ | ⟨x, len, cap, k, n, D, Pl, hcs, _, hl, hmx, hk, _, hel⟩
  · simp [Value.cells] at hcs
    omega
  · simp [Value.cells] at hcs
    obtain ⟨rfl, rfl, rfl⟩ := hcs
    rw [Try.cellsRead] at hel
    have hmk : m ≤ k := by rw [hk]; split <;> omega
    have each : ∀ j, j < m → ∃ a b c : Int, W.cell? (x.add (j * 3)) = some (.int .i64 a) ∧ W.cell? ((x.add (j * 3)).add 1) = some (.int .i64 b) ∧ W.cell? ((x.add (j * 3)).add 2) = some (.int .i64 c) := by
      intro j hj
      obtain ⟨cs', h1, h2⟩ := hel j (by omega)
      obtain ⟨a, b, c, rfl⟩ := read_cells h2
      obtain ⟨_, _, h3⟩ := World.cells?_some h1
      have e0 := h3 0 (by omega)
      have e1 := h3 1 (by omega)
      have e2 := h3 2 (by omega)
      have ez : (x.add (j * 3)).add 0 = x.add (j * 3) := by simp [Addr.add]
      rw [ez] at e0
      exact ⟨a, b, c, e0, e1, e2⟩
    obtain ⟨g, o, spot⟩ := x
    obtain ⟨a, b, c', ha, _⟩ := each 0 hm
    have hspot : spot = none := by simpa [Addr.add] using World.cell?_spot ha
    subst hspot
    refine ⟨g, o, rfl, World.block_lt_of_cell? W _ ha, fun j hj => ?_⟩
    obtain ⟨a, b, c'', h1, h2, h3⟩ := each j hj
    rw [Addr.add_lit] at h1 h2 h3
    rw [Addr.add_lit] at h2 h3
    exact ⟨a, b, c'', h1, h2, h3⟩
end
end Go.Proofs.Ytlhloebpppmgdaa.opens
