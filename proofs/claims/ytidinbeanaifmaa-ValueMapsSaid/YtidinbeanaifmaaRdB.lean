/-
  Contracts of the small methods of the reference's reader: stopped, set, Err, Left, Fail, End.
-/
import Derived.Test.YtidinbeanaifmaaRdA
namespace Go.Proofs.Ytidinbeanaifmaa
open Go.RowKit

theorem ret_bool {a b : Bool} (h : a = b) : Ending.returned (.bool a) = .returned (.bool b) := by rw [h]

section
variable {w : World} {p : Nat} {l : List UInt8} {e : Int}

set_option maxHeartbeats 400000 in
theorem rStopped_any (h : RRd w p l e) : Calls Try.prog 89 #[.pointer (some ⟨p, 0, none⟩)] w (Says (.bool (e != 0)) w) := by
  obtain ⟨A, n, c, l0, hb, _⟩ := h
  have h1 : w.cell? ⟨p, 2, none⟩ = some (.int .i64 e) := hb.cell 2
  have h2 : w.cell? ⟨p, 0, none⟩ = some (.bool true) := hb.cell 0
  have HB := Lib.hid hb
  clear hb
  go_enter Try.func89, Try.ntmps89
  go_wp2
  go_ret
  exact ⟨rfl, rfl⟩

set_option maxHeartbeats 400000 in
theorem rErr_any (h : RRd w p l e) : Calls Try.prog 53 #[.pointer (some ⟨p, 0, none⟩)] w (Says (.int .i64 e) w) := by
  obtain ⟨A, n, c, l0, hb, _⟩ := h
  have h1 : w.cell? ⟨p, 2, none⟩ = some (.int .i64 e) := hb.cell 2
  have h2 : w.cell? ⟨p, 0, none⟩ = some (.bool true) := hb.cell 0
  have HB := Lib.hid hb
  clear hb
  go_enter Try.func53, Try.ntmps53
  go_wp2
  go_ret
  exact ⟨rfl, rfl⟩

set_option maxHeartbeats 400000 in
theorem rSet_any (x : Int) (h : RRd w p l e) (hx : x ≠ 0) (l' : List UInt8) : Calls Try.prog 151 #[.pointer (some ⟨p, 0, none⟩), .int .i64 x] w (Turns (.tuple #[]) w p fun w' => RRd w' p l' x) := by
  obtain ⟨A, n, c, l0, hb, ho, hn, hc, hl⟩ := h
  have hc1 : w.cell? ⟨p, 1, none⟩ = some (.slice A n c) := hb.cell 1
  have hc2 : w.cell? ⟨p, 2, none⟩ = some (.int .i64 e) := hb.cell 2
  have hf1 : w.frozen? ⟨p, 1, none⟩ = false := hb.frozen 1
  have hf2 : w.frozen? ⟨p, 2, none⟩ = false := hb.frozen 2
  have HB := Lib.hid hb
  clear hb ho
  go_enter Try.func151, Try.ntmps151
  go_wp2
  go_end0
  exact ⟨rfl, grownBy_trans (turned w p 2 _) (turned _ p 1 _), none, 0, 0, [], (HB.out.put 2 _).put 1 _, ⟨rfl, fun h => absurd rfl h⟩, Nat.le_refl _, by omega, fun h => absurd h hx⟩

set_option maxHeartbeats 400000 in
theorem rLeft_any (h : RRd w p l e) : Calls Try.prog 55 #[.pointer (some ⟨p, 0, none⟩)] w (Says (.int .i64 (leftOf l e)) w) := by
  have HW := Lib.hid h
  obtain ⟨A, n, c, l0, hb, ho, hn, hc, hl⟩ := h
  have hc1 : w.cell? ⟨p, 1, none⟩ = some (.slice A n c) := hb.cell 1
  by_cases he : e = 0
  · have hs : (e != 0) = false := by simp [he]
    have HL : Hid (leftOf l e = (n : Nat)) := Lib.hid (by unfold leftOf; rw [if_pos he, ← hl he, ho.1])
    clear hb ho hl he
    go_enter Try.func55, Try.ntmps55
    go_wp2_with (go_at_call 89; refine (rStopped_any HW.out).mono ?_; rintro e w' ⟨rfl, rfl⟩)
    go_ret
    exact ⟨ret_i64 HL.out.symm, rfl⟩
  · have hs : (e != 0) = true := by simp [he]
    have HL : Hid (leftOf l e = 0) := Lib.hid (by unfold leftOf; rw [if_neg he])
    clear hb ho hl he
    go_enter Try.func55, Try.ntmps55
    go_wp2_with (go_at_call 89; refine (rStopped_any HW.out).mono ?_; rintro e w' ⟨rfl, rfl⟩)
    go_ret
    exact ⟨ret_i64 HL.out.symm, rfl⟩

set_option maxHeartbeats 400000 in
theorem rFail_any (x : Int) (h : RRd w p l e) : Calls Try.prog 137 #[.pointer (some ⟨p, 0, none⟩), .int .i64 x] w (Turns (.tuple #[]) w p fun w' => RRd w' p l (if e = 0 then x else e)) := by
  have HW := Lib.hid h
  clear h
  by_cases he : e = 0
  · rw [if_pos he]
    by_cases hx : x = 0
    · have hs : (e != 0) = false := by simp [he]
      have hx2 : (x != 0) = false := by simp [hx]
      have HX := Lib.hid hx
      have HE := Lib.hid he
      clear he hx
      go_enter Try.func137, Try.ntmps137
      go_wp2_with (go_at_call 89; refine (rStopped_any HW.out).mono ?_; rintro e w' ⟨rfl, rfl⟩)
      go_end0
      exact ⟨rfl, World.grownBy.refl _ _, by rw [HX.out, ← HE.out]; exact HW.out⟩
    · have hs : (e != 0) = false := by simp [he]
      have hx2 : (x != 0) = true := by simp [hx]
      clear he
      go_enter Try.func137, Try.ntmps137
      go_wp2_with (first | (go_at_call 89; refine (rStopped_any HW.out).mono ?_; rintro e w' ⟨rfl, rfl⟩) | (go_at_call 151; refine (rSet_any x HW.out hx l).mono ?_; rintro e w' ⟨rfl, hg, hq⟩))
      have HG := Lib.hid hg
      have HQ := Lib.hid hq
      clear hg hq
      go_end0
      exact ⟨rfl, HG.out, HQ.out⟩
  · rw [if_neg he]
    have hs : (e != 0) = true := by simp [he]
    clear he
    go_enter Try.func137, Try.ntmps137
    go_wp2_with (go_at_call 89; refine (rStopped_any HW.out).mono ?_; rintro e w' ⟨rfl, rfl⟩)
    go_end0
    exact ⟨rfl, World.grownBy.refl _ _, HW.out⟩

end
end Go.Proofs.Ytidinbeanaifmaa
