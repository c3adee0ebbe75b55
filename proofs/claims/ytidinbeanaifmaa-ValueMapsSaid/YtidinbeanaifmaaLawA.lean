/-
  Contracts of Open of both packages, and of the law's own function equal.
-/
import Derived.Test.YtidinbeanaifmaaRdJ
import Derived.Deep.QuietTactic
import Derived.BigQuiet
namespace Go.Proofs.Ytidinbeanaifmaa
open Go.RowKit

section
variable {w : World} {B : Nat} {A : Option Addr} {n c : Nat} {l : List UInt8}

set_option maxHeartbeats 400000 in
theorem wOpen_any (hr : Rb w B A n l) (hB : B ≤ w.heap.size) (hn : n ≤ 70368744177000) :
    Calls Try.prog 48 #[.slice A n c] w fun e w' => ∃ p, e = .returned (.pointer (some ⟨p, 0, none⟩)) ∧ WRd w' p l 0 ∧ w.heap.size ≤ p ∧ Below w.heap.size w w' := by
  have HR := Lib.hid hr
  clear hr
  go_enter Try.func48, Try.ntmps48
  go_wp2_with fail
  refine (copyOf_any A n c l 0 B w HR.out hB (by omega) (by omega) (by omega)).mono ?_
  rintro e w1 ⟨v, rfl, hown, hb⟩
  obtain ⟨A', c', rfl, hnc, hcm⟩ := own_form hown
  unfold maxLen at hcm
  have H1 := Lib.hid hown
  have H2 := Lib.hid hb
  clear hown hb
  go_wp2
  go_ret
  exact ⟨_, rfl, ⟨A', n, c', l, Bk.new _ _ _, (Ow.of_own H1.out).below (Below.alloc (Below.refl _ _) (Nat.le_refl _) _), hnc, by omega, fun _ => rfl⟩, H2.out.size, H2.out.alloc H2.out.size _⟩

set_option maxHeartbeats 400000 in
theorem rOpen_any (hr : Rb w B A n l) (hB : B ≤ w.heap.size) (hn : n ≤ 70368744177000) :
    Calls Try.prog 49 #[.slice A n c] w fun e w' => ∃ p, e = .returned (.pointer (some ⟨p, 0, none⟩)) ∧ RRd w' p l 0 ∧ w.heap.size ≤ p ∧ Below w.heap.size w w' := by
  obtain ⟨i, hi, hz, hs, hb⟩ := info_parts Try.infob
  have HR := Lib.hid hr
  clear hr
  go_enter Try.func49, Try.ntmps49
  go_wp2_with (at_builtin; refine wpList_append_b8 rfl _ _ 50 rfl w.heap.size 5 i (.int .u8 0) Try.underlying50 hi hz hs hb rfl _ 0 [] rfl (own_empty w 5) B A n c l rfl (HR.out.alloc hB _) ?_ ?_ ?_)
  · omega
  · simp
  · intro v w1 hown hg
    have hown' : w1.ownsRow w.heap.size 5 1 v n (l.map b8) := by simpa using hown
    have hbl : Below w.heap.size w w1 := ((Below.refl _ _).alloc (Nat.le_refl _) _).grown hg (by simp) (fun k hk => by simp [Value.ownBlock] at hk; omega)
    obtain ⟨A', c', rfl, hnc, hcm⟩ := own_form hown'
    unfold maxLen at hcm
    have H1 := Lib.hid hown'
    have H2 := Lib.hid hbl
    clear hown hown' hg hbl
    go_wp2
    go_ret
    exact ⟨_, rfl, ⟨A', n, c', l, Bk.new _ _ _, (Ow.of_own H1.out).below (Below.alloc (Below.refl _ _) (Nat.le_refl _) _), hnc, by omega, fun _ => rfl⟩, H2.out.size, H2.out.alloc H2.out.size _⟩

/-- a bool, and nothing but draws -/
def Draws (x : Value) (w : World) (e : Ending) (w' : World) : Prop := e = .returned x ∧ ∃ k, w' = w.drewN k

end
end Go.Proofs.Ytidinbeanaifmaa
