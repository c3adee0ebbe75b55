/-
  The reference's parser: blank behind an error.
-/
import Derived.Test.YtlgmhhimbabkjaaGreatDoorRa
import Derived.Lib.QuietBelow
namespace Go.Proofs.YtlgmhhimbabkjaaGreatDoor
open Go.RowKit Go.Sort
section
variable {w : World} {p : Nat} {s : ByteArray} {i n : Nat}
set_option maxRecDepth 100000 in
set_option maxHeartbeats 4000000 in
theorem rblank_bad {j : Nat} {c : Int} (h : Bad w p s j c) :
    Calls Tryz.prog 28 #[.pointer (some ⟨p, 0, none⟩)] w fun e w' => e = .returned (.tuple #[]) ∧ Dr w w' := by
  obtain ⟨i, n, h, hc, hi0, hi1⟩ := h
  have c4 := h.cell 4
  have hc' : (c == 0) = false := beq_eq_false_iff_ne.2 hc
  clear h
  go_enter Tryz.func28, Tryz.ntmps28
  go_wp2_with fail
  go_loopg [] 0 (fun gh wr => gh = 0 ∧ wr = w)
  case atStart => exact ⟨rfl, rfl⟩
  case round =>
    obtain ⟨rfl, rfl⟩ := hrel
    go_wp2_with fail
    simp only [List.append]
    go_region
    go_wp2
    refine bodyPost_end (results_none rfl _ _ _) rfl ?_
    exact ⟨rfl, Dr.drew _⟩
end
end Go.Proofs.YtlgmhhimbabkjaaGreatDoor
