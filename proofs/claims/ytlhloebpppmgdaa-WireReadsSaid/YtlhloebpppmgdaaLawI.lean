/-
  The walk of WireReads.
-/
import Derived.Test.YtlhloebpppmgdaaLawH
namespace Go.Proofs.Ytlhloebpppmgdaa
open Go.RowKit

/-- a slice of Read that came in -/
def Rs (w : World) (B : Nat) (A : Option Addr) (m : Nat) : Prop :=
  0 < m → ∃ g o, A = some ⟨g, o, none⟩ ∧ g < B ∧ ∀ j, j < m → ∃ a b c : Int, w.cell? ⟨g, o + j * 3, none⟩ = some (.int .i64 a) ∧ w.cell? ⟨g, o + j * 3 + 1, none⟩ = some (.int .i64 b) ∧ w.cell? ⟨g, o + j * 3 + 2, none⟩ = some (.int .i64 c)

set_option maxRecDepth 100000 in
set_option maxHeartbeats 4000000 in
theorem WireReads_walk (A : Option Addr) (n c : Nat) (l : List UInt8) (A' : Option Addr) (m c' : Nat) (w : World) (hr : Rb w w.heap.size A n l) (_ : n ≤ c) (_ : c ≤ maxLen) (hs : Rs w w.heap.size A' m) :
    Calls Try.prog 4 #[.slice A n c, .slice A' m c'] w (Holds w) := by
  have HR := Lib.hid hr
  have HS := Lib.hid hs
  clear hr hs
  by_cases hbig : 300 < n ∨ 40 < m
  · have T : Hid (decide ((300 : Int) < (n : Int)) = true ∨ (decide ((300 : Int) < (n : Int)) = false ∧ decide ((40 : Int) < (m : Int)) = true)) := Lib.hid (by
      rcases Nat.lt_or_ge 300 n with h | h
      · left; rw [decide_eq_true_eq]; omega
      · right; exact ⟨by rw [decide_eq_false_iff_not]; omega, by rw [decide_eq_true_eq]; omega⟩)
    clear hbig
    rcases T.out with t1 | ⟨t1, t2⟩
    all_goals
      go_enter Try.func4, Try.ntmps4
      go_wp2_with fail
      refine (works_below _ _ (Below.refl _ _)).mono ?_
      rintro e w4 ⟨rfl, hb4⟩
      have B4 := Lib.hid hb4
      clear hb4
      go_wp2
      go_ret
      exact ⟨rfl, B4.out⟩
  have t1 : decide ((300 : Int) < (n : Int)) = false := by rw [decide_eq_false_iff_not]; omega
  have t2 : decide ((40 : Int) < (m : Int)) = false := by rw [decide_eq_false_iff_not]; omega
  have HN : Hid (n ≤ 300) := Lib.hid (by omega)
  have HM : Hid (m ≤ 40) := Lib.hid (by omega)
  clear hbig
  go_enter Try.func4, Try.ntmps4
  go_wp2_with fail
  refine (wOpen_any HR.out (Nat.le_refl _) (by have := HN.out; omega)).mono ?_
  rintro e w1 ⟨p, rfl, hp, hpl, hb⟩
  have P1 := Lib.hid hp
  have LP := Lib.hid hpl
  have B1 := Lib.hid hb
  clear hp hb hpl
  go_wp2_with fail
  refine (rOpen_any (HR.out.below B1.out) B1.out.size (by have := HN.out; omega)).mono ?_
  rintro e w2 ⟨q, rfl, hq, hql, hb⟩
  have P2 := Lib.hid (P1.out.below hb)
  have Q2 := Lib.hid hq
  have LQ : Hid (w.heap.size ≤ q) := Lib.hid (by have := B1.out.size; omega)
  have B2 := Lib.hid (B1.out.trans (hb.mono B1.out.size))
  clear hq hb hql P1 B1
  go_wp2_with fail
  go_loopw [26] (fun j wr => ∃ k : Nat, k ≤ m ∧ j = .int .i64 k ∧ Hid (∃ l' e', WRd wr p l' e' ∧ RRd wr q l' e') ∧ Hid (Below w.heap.size w wr)) (fun j _ => m - (intOf j).toNat)
  case atStart => exact ⟨0, Nat.zero_le _, rfl, ⟨_, _, P2.out, Q2.out⟩, B2.out⟩
  case round =>
    obtain ⟨k, hkm, rfl, hpq, hb⟩ := hrel
    by_cases hlt : k < m
    · obtain ⟨g, o, rfl, hg, hcells⟩ := HS.out (by omega)
      obtain ⟨x, y, z, hx, hy, hz⟩ := hcells k hlt
      have hx' : wr.cell? ⟨g, o + k * 3, none⟩ = some (.int .i64 x) := (hb.out.cell (p := ⟨g, o + k * 3, none⟩) hg).trans hx
      have hy' : wr.cell? ⟨g, o + k * 3 + 1, none⟩ = some (.int .i64 y) := (hb.out.cell (p := ⟨g, o + k * 3 + 1, none⟩) hg).trans hy
      have hz' : wr.cell? ⟨g, o + k * 3 + 2, none⟩ = some (.int .i64 z) := (hb.out.cell (p := ⟨g, o + k * 3 + 2, none⟩) hg).trans hz
      have hm40 : m ≤ 40 := HM.out
      have HGB := Lib.hid hg
      clear hcells hx hy hz hg
      go_wp2_with fail
      obtain ⟨l', e', hp', hq'⟩ := hpq.out
      have hbd : Below wr.heap.size wr (wr.alloc (.cells #[.int .i64 x, .int .i64 y, .int .i64 z] 35)) := (Below.refl _ _).alloc (Nat.le_refl _) _
      refine (play_any x y z (hp'.below hbd) (hq'.below hbd)).mono ?_
      have HBD := Lib.hid hbd
      clear hp' hq' hbd hx' hy' hz'
      rintro e3 w3 ⟨rfl, l3, e4, hp3, hq3, hb3⟩
      have PQ3 : Hid (∃ l' e', WRd w3 p l' e' ∧ RRd w3 q l' e') := Lib.hid ⟨_, _, hp3, hq3⟩
      have B3 : Hid (Below w.heap.size w w3) := Lib.hid ((hb.out.trans (HBD.out.mono hb.out.size)).trans (hb3 _ LP.out LQ.out (Nat.le_trans hb.out.size HBD.out.size)))
      clear hp3 hq3 hb3
      go_wp2
      go_roundw
      case rel => exact ⟨k + 1, by omega, by go_num, PQ3, B3⟩
      case measure => simp [intOf]; omega
    · have hdec : decide (k < m) = false := by rw [decide_eq_false_iff_not]; exact hlt
      clear hlt
      go_wp2_with fail
      refine (works_below _ _ hb.out).mono ?_
      rintro e w4 ⟨rfl, hb4⟩
      have B4 := Lib.hid hb4
      clear hb4
      go_wp2
      go_ret
      exact ⟨rfl, B4.out⟩
end Go.Proofs.Ytlhloebpppmgdaa
