/-
  The walk of HashByte.
-/
import Derived.Test.YtkjhlpdocpoedaaHf
import Derived.Deep.RegionWith
import Derived.Deep.RegionLaw
import Derived.Deep.DeepCutAuto
namespace Go.Proofs.Ytkjhlpdocpoedaa
open Go.RowKit

theorem own_empty (w : World) (t : TypeId) : (w.alloc (.cells #[] t)).ownsRow w.heap.size t 1 (.slice (some ⟨w.heap.size, 0, none⟩) 0 0) 0 [] :=
  World.ownsRow_made w #[] 0 (Nat.le_refl _) (by unfold maxLen; omega) rfl
theorem own_set {w : World} {base : Nat} {e : TypeId} {A : Option Addr} {n c k : Nat} {l : List UInt8} (h : w.ownsRow base e 1 (.slice A n c) n (l.map b8)) (hk : k < n) (x : UInt8) :
    ∃ g old, A = some ⟨g, 0, none⟩ ∧ base ≤ g ∧ w.cell? ⟨g, k, none⟩ = some old ∧ w.frozen? ⟨g, k, none⟩ = false ∧
      Hid ((w.setCell ⟨g, k, none⟩ (.int .u8 (x.toNat : Int))).ownsRow base e 1 (.slice A n c) n ((l.set k x).map b8)) := by
  have hlen := h.1
  rcases h.2 with ⟨_, rfl⟩ | ⟨g, cap, cur, hv, hb, _⟩
  · omega
  · injection hv with hA hn hc
    subst hA hc
    have hcell := h.cellAt k (by omega)
    have hx : (l.map b8)[k]? = some (l.map b8)[k] := List.getElem?_eq_getElem (by omega)
    refine ⟨g, _, rfl, hb, by rw [hcell, hx], h.frozenAt k, ?_⟩
    rw [List.map_set]
    exact Lib.hid (h.stored k (.int .u8 (x.toNat : Int))).1
theorem u8_beq {x y : UInt8} {b : Bool} (h : (x == y) = b) : ((x.toNat : Int) == (y.toNat : Int)) = b := by
  rw [← h, Bool.eq_iff_iff, beq_iff_eq, beq_iff_eq]
  constructor
  · intro h; exact UInt8.toNat_inj.1 (by omega)
  · rintro rfl; rfl
theorem crc_beq {l : List UInt8} {k : Nat} {x y : UInt8} {b : Bool} (hx : l[k]? = some y) (h : (y == x) = b) : (((crc l : Nat) : Int) == ((crc (l.set k x) : Nat) : Int)) = b := by
  obtain ⟨hk, hy⟩ := List.getElem?_eq_some_iff.1 hx
  rw [← h, Bool.eq_iff_iff, beq_iff_eq, beq_iff_eq, ← hy]
  constructor
  · intro e; exact (crc_set l k x hk).1 (by omega)
  · intro e; rw [(crc_set l k x hk).2 e]

/-- the tests that let the law's examples answer alone -/
def offB (n : Nat) (k : Int) : Bool := decide (500 < (n : Int)) || decide (k < 0) || decide ((n : Int) ≤ k)

set_option maxHeartbeats 1000000 in
theorem HashByte_off (A : Option Addr) (n c : Nat) (k : Int) (x : UInt8) (w : World) (h : 500 < n ∨ k < 0 ∨ (n : Int) ≤ k) :
    Calls Try.prog 7 #[.slice A n c, .int .i64 k, .int .u8 (x.toNat : Int)] w (Holds w) := by
  by_cases h1 : 500 < n
  · clear h
    go_enter Try.func7, Try.ntmps7
    go_wp2_with fail
    refine (works_below _ _ (Below.refl _ _)).mono ?_
    rintro e w' ⟨rfl, hb⟩
    have HB := Lib.hid hb
    clear hb
    go_wp2
    go_ret
    exact ⟨rfl, HB.out⟩
  · by_cases h2 : k < 0
    · clear h
      go_enter Try.func7, Try.ntmps7
      go_wp2_with fail
      refine (works_below _ _ (Below.refl _ _)).mono ?_
      rintro e w' ⟨rfl, hb⟩
      have HB := Lib.hid hb
      clear hb
      go_wp2
      go_ret
      exact ⟨rfl, HB.out⟩
    · have h3 : (n : Int) ≤ k := by omega
      clear h
      go_enter Try.func7, Try.ntmps7
      go_wp2_with fail
      refine (works_below _ _ (Below.refl _ _)).mono ?_
      rintro e w' ⟨rfl, hb⟩
      have HB := Lib.hid hb
      clear hb
      go_wp2
      go_ret
      exact ⟨rfl, HB.out⟩

set_option maxRecDepth 100000 in
set_option maxHeartbeats 1000000 in
theorem HashByte_in (A : Option Addr) (n c : Nat) (l : List UInt8) (k : Nat) (x : UInt8) (w : World) (hr : Rb w w.heap.size A n l) (h500 : ¬ 500 < n) (hk : k < n) :
    Calls Try.prog 7 #[.slice A n c, .int .i64 k, .int .u8 (x.toNat : Int)] w (Holds w) := by
  obtain ⟨i, hi, hz, hs, hb⟩ := info_parts Try.infob
  obtain ⟨g, o, y, rfl, hgB, hy, hcell0⟩ := hr.at_ hk
  have HR := Lib.hid hr
  clear hr
  obtain ⟨b, hxy⟩ : ∃ b, (y == x) = b := ⟨_, rfl⟩
  have t1 := u8_beq hxy
  have t2 := crc_beq hy hxy
  clear hxy hy
  have hcell := hcell0
  unfold b8 at hcell
  clear hcell0
  go_enter Try.func7, Try.ntmps7
  go_wp2_with (at_builtin; refine wpList_append_b8 rfl _ _ 25 rfl w.heap.size 5 i (.int .u8 0) Try.underlying25 hi hz hs hb rfl _ 0 [] rfl (own_empty w 5) w.heap.size _ n c l rfl (HR.out.alloc (Nat.le_refl _) _) ?_ ?_ ?_)
  · omega
  · simp
  · intro v w1 hown hg
    have hown' : w1.ownsRow w.heap.size 5 1 v n (l.map b8) := by simpa using hown
    have hbl : Below w.heap.size w w1 := ((Below.refl _ _).alloc (Nat.le_refl _) _).grown hg (by simp) (fun k hk => by simp [Value.ownBlock] at hk; omega)
    obtain ⟨A', c', rfl, hnc, hcm⟩ := own_form hown'
    obtain ⟨g', old, rfl, hg', hcell', hfr, HO⟩ := own_set hown' hk x
    have HC0 := Lib.hid hcell
    have B1 := Lib.hid hbl
    unfold maxLen at hcm
    clear hown hown' hg hbl hcell hb hi hz hs
    go_upto_region 5 with (fail)
    obtain ⟨w2, hw2⟩ : ∃ w2, w2 = w1.setCell ⟨g', k, none⟩ (.int .u8 (x.toNat : Int)) := ⟨_, rfl⟩
    rw [← hw2]
    have B2 : Hid (Below w.heap.size w w2) := Lib.hid (by rw [hw2]; exact B1.out.setCell (p := ⟨g', k, none⟩) hg' _)
    have R2 : Hid (Rb w2 w2.heap.size (some ⟨g', 0, none⟩) n (l.set k x)) := Lib.hid (by rw [hw2]; exact Rb.of_own HO.out)
    have R3 : Hid (Rb w2 w.heap.size (some ⟨g, o, none⟩) n l) := Lib.hid (HR.out.below B2.out)
    have hy2 : w2.cell? ⟨g, o + k, none⟩ = some (.int .u8 (y.toNat : Int)) := (B2.out.cell (p := ⟨g, o + k, none⟩) hgB).trans HC0.out
    clear hw2 B1 HO hcell' hfr HC0
    have C1 := Lib.hid (fun (W : World) (hb : Below w2.heap.size w2 W) => Crc_any (c := c) (R3.out.below (hb.mono B2.out.size)) (by omega))
    have C2 := Lib.hid (fun (W : World) (hb : Below w2.heap.size w2 W) => Crc_any (c := c') (R2.out.below hb) (by omega))
    clear R2 R3 HR
    generalize (((crc l : Nat) : Int)) = m1 at *
    generalize (((crc (l.set k x) : Nat) : Int)) = m2 at *
    cases b
    all_goals (
      go_region_law (first
        | (go_simp; go_at_call 12; first
            | ((with_reducible refine (C1.out _ (by first | exact Below.refl _ _ | exact (Below.refl _ _).drew)).mono ?_); rintro e w' ⟨rfl, rfl⟩)
            | ((with_reducible refine (C2.out _ (by first | exact Below.refl _ _ | exact (Below.refl _ _).drew)).mono ?_); rintro e w' ⟨rfl, rfl⟩))
        | (go_simp; go_at_call 9; refine (works_any _).mono ?_; rintro _ w4 ⟨rfl, hb⟩; have B4 : Hid (Below w.heap.size w w4) := Lib.hid (B2.out.trans (Below.mono ⟨hb.os, hb.tape, hb.output, hb.size, hb.block⟩ B2.out.size))))
      all_goals (
        go_wp2
        go_ret
        exact ⟨rfl, B4.out⟩))

theorem HashByte_walk (A : Option Addr) (n c : Nat) (l : List UInt8) (k : Int) (x : UInt8) (w : World) (hr : Rb w w.heap.size A n l) (_ : n ≤ c) (_ : c ≤ maxLen) (_ : -9223372036854775808 ≤ k) (_ : k ≤ 9223372036854775807) :
    Calls Try.prog 7 #[.slice A n c, .int .i64 k, .int .u8 (x.toNat : Int)] w (Holds w) := by
  by_cases h : 500 < n ∨ k < 0 ∨ (n : Int) ≤ k
  · exact HashByte_off A n c k x w h
  · obtain ⟨j, rfl⟩ : ∃ j : Nat, k = (j : Int) := ⟨k.toNat, by omega⟩
    exact HashByte_in A n c l j x w hr (by omega) (by omega)

theorem opens.byte {a : Int} (h : (Lit.int .u8 a).wf = true) : ∃ x : UInt8, a = (x.toNat : Int) := by
  have hz : 0 ≤ a ∧ a ≤ 255 := by simpa [Lit.wf, IntKind.min, IntKind.max, IntKind.signed, IntKind.bits] using h
  refine ⟨UInt8.ofNat a.toNat, ?_⟩
  have : (UInt8.ofNat a.toNat).toNat = a.toNat := by simp; omega
  rw [this]
  omega
end Go.Proofs.Ytkjhlpdocpoedaa
