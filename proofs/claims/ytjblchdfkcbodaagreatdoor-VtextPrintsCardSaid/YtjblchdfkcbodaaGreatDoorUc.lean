/-
  Quote of the code.
-/
import Derived.Test.YtjblchdfkcbodaaGreatDoorUb
namespace Go.Proofs.YtjblchdfkcbodaaGreatDoor
open Go.RowKit

set_option maxRecDepth 100000 in
set_option maxHeartbeats 4000000 in
theorem Quote_any (s : ByteArray) (w : World) (hn : 4 * s.size + 2 ≤ 100000000) :
    Calls Tryz.prog 11 #[.string s] w fun e w' => e = .returned (.string ⟨(quoL s.data.toList).toArray⟩) ∧ Below w.heap.size w w' := by
  go_enter Tryz.func11, Tryz.ntmps11
  go_wp2_with fail
  refine (literal_app w.heap.size none 0 0 [] s w ⟨rfl, .inl ⟨rfl, rfl⟩⟩ (Nat.le_refl _) (by omega)).mono ?_
  rintro _ w1 ⟨A, n, c, rfl, hl, h1, h2, ho, hbl⟩
  rw [List.nil_append] at ho
  have HS := run_str (P := Tryz.prog) (c := c) 38 9 5 Tryz.underlying38 Tryz.underlying5 Tryz.underlying9 (Rb.of_own ho.out)
  go_wp2
  go_ret
  exact ⟨rfl, (Below.refl _ _).grown hbl.out.1 (Nat.le_refl _) (fun k hk => by cases hk)⟩
end Go.Proofs.YtjblchdfkcbodaaGreatDoor
