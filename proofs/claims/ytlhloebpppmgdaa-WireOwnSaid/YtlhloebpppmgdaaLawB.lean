/-
  The chapter's examples, which every statement checks: works returns true.
-/
import Derived.Test.YtlhloebpppmgdaaLawA
namespace Go.Proofs.Ytlhloebpppmgdaa
open Go.RowKit

theorem below_drewN {B : Nat} {a w : World} (h : Below B a w) (k : Nat) : Below B a (w.drewN k) := ⟨h.os, h.tape, h.output, h.size, h.block⟩
theorem below_only {B q : Nat} {a w w' : World} (h : Below B a w) (hg : w.grownBy w' (some q)) (hB : B ≤ w.heap.size) (hq : B ≤ q) : Below B a w' :=
  h.grown hg hB (fun k hk => by injection hk with hk; omega)
theorem Rb.lit (w : World) (t : TypeId) (l : List UInt8) : Rb (w.alloc (.cells (l.map b8).toArray t)) (w.heap.size + 1) (some ⟨w.heap.size, 0, none⟩) l.length l := by
  refine ⟨rfl, fun _ => ⟨w.heap.size, 0, rfl, by omega, fun j d hj => ?_⟩⟩
  rw [Nat.zero_add, World.cell?_alloc_at _ _ _ _ rfl]
  simp [hj]
theorem Rb.own {w : World} {base : Nat} {e : TypeId} {A : Option Addr} {c n : Nat} {l : List UInt8} (h : w.ownsRow base e 1 (.slice A n c) n (l.map b8)) : Rb w w.heap.size A n l := Rb.of_own h
theorem Rb.nil0 (w : World) (B : Nat) : Rb w B none 0 [] := ⟨rfl, fun h => absurd rfl h⟩

section
variable {w w' : World} {p q : Nat} {l : List UInt8} {e : Int} {t : TypeId} {cs : Array Value}
theorem WRd.below (h : WRd w p l e) (hb : Below w.heap.size w w') : WRd w' p l e := by
  obtain ⟨A, n, c, l0, hk, ho, r⟩ := h
  exact ⟨A, n, c, l0, hk.below hb hk.lt, ho.below hb, r⟩
theorem RRd.below (h : RRd w p l e) (hb : Below w.heap.size w w') : RRd w' p l e := by
  obtain ⟨A, n, c, l0, hk, ho, r⟩ := h
  exact ⟨A, n, c, l0, hk.below hb hk.lt, ho.below hb, r⟩
theorem WRd.other (h : WRd w p l e) (hk : Bk w q t cs) (ht : t ≠ 5) (hpq : p ≠ q) (hg : w.grownBy w' (some q)) : WRd w' p l e := by
  obtain ⟨A, n, c, l0, hb, ho, r⟩ := h
  exact ⟨A, n, c, l0, hb.grown hg (fun e => hpq (by injection e)), ho.grown hk ht hg, r⟩
theorem RRd.other (h : RRd w p l e) (hk : Bk w q t cs) (ht : t ≠ 5) (hpq : p ≠ q) (hg : w.grownBy w' (some q)) : RRd w' p l e := by
  obtain ⟨A, n, c, l0, hb, ho, r⟩ := h
  exact ⟨A, n, c, l0, hb.grown hg (fun e => hpq (by injection e)), ho.grown hk ht hg, r⟩
theorem WRd.otherW {l' : List UInt8} {e' : Int} (h : WRd w p l e) (k : WRd w q l' e') (hpq : p ≠ q) (hg : w.grownBy w' (some q)) : WRd w' p l e := by
  obtain ⟨_, _, _, _, hk, _⟩ := k
  exact h.other hk (by decide) hpq hg
theorem WRd.otherR {l' : List UInt8} {e' : Int} (h : WRd w p l e) (k : RRd w q l' e') (hpq : p ≠ q) (hg : w.grownBy w' (some q)) : WRd w' p l e := by
  obtain ⟨_, _, _, _, hk, _⟩ := k
  exact h.other hk (by decide) hpq hg
theorem RRd.otherW {l' : List UInt8} {e' : Int} (h : RRd w p l e) (k : WRd w q l' e') (hpq : p ≠ q) (hg : w.grownBy w' (some q)) : RRd w' p l e := by
  obtain ⟨_, _, _, _, hk, _⟩ := k
  exact h.other hk (by decide) hpq hg
theorem WRd.lt (h : WRd w p l e) : p < w.heap.size := by
  obtain ⟨_, _, _, _, hk, _⟩ := h
  exact hk.lt
theorem RRd.lt (h : RRd w p l e) : p < w.heap.size := by
  obtain ⟨_, _, _, _, hk, _⟩ := h
  exact hk.lt
theorem WRd.ne_ {l' : List UInt8} {e' : Int} (h : WRd w p l e) (k : RRd w q l' e') : p ≠ q := by
  obtain ⟨_, _, _, _, hk, _⟩ := h
  obtain ⟨_, _, _, _, hk', _⟩ := k
  exact hk.ne_ hk' (by decide)
end

theorem equal_yes {w : World} {B B' : Nat} {A A' : Option Addr} {n n' c c' : Nat} {l l' : List UInt8} (hr : Rb w B A n l) (hr' : Rb w B' A' n' l') (hn : n ≤ 9223372036854775807) (h : l = l') :
    Calls Try.prog 11 #[.slice A n c, .slice A' n' c'] w (Draws (.bool true) w) := by
  subst h
  exact (equal_any hr hr' hn).mono fun e w' h => by rw [show (l == l) = true from by rw [beq_iff_eq]] at h; exact h

set_option maxHeartbeats 1000000 in
theorem works_any (w : World) : Calls Try.prog 10 #[] w fun e w' => e = .returned (.bool true) ∧ Below w.heap.size w w' := by
  go_enter Try.func10, Try.ntmps10
  go_wp2_with fail
  refine (wOpen_any (Rb.lit w 5 [4, 97]) (by simp) (by decide)).mono ?_
  rintro e w1 ⟨p, rfl, hp, hpl, hb⟩
  have P1 := Lib.hid hp
  have B1 := Lib.hid (((Below.refl w.heap.size w).alloc (Nat.le_refl _) _).trans (hb.mono (by simp)))
  have L1 : Hid (w.heap.size ≤ p) := Lib.hid (by simp at hpl; omega)
  clear hp hb hpl
  go_wp2_with fail
  refine (wOpen_any (Rb.lit w1 5 [128, 0]) (by simp) (by decide)).mono ?_
  rintro e w2 ⟨q, rfl, hq, hql, hb⟩
  have hb12 : Below w1.heap.size w1 w2 := ((Below.refl w1.heap.size w1).alloc (Nat.le_refl _) _).trans (hb.mono (by simp))
  have hpq : p ≠ q := by have := P1.out.lt; simp at hql; omega
  have P2 := Lib.hid (P1.out.below hb12)
  have Q2 := Lib.hid hq
  have B2 := Lib.hid (B1.out.trans (hb12.mono B1.out.size))
  have NE := Lib.hid hpq
  have L2 : Hid (w.heap.size ≤ q) := Lib.hid (by have := B1.out.size; simp at hql; omega)
  clear hq hb hql hb12 hpq P1 B1
  go_wp2_with fail
  refine (wText_ok 9 P2.out).mono ?_
  rw [show textR [4, 97] 9 = ([], [], 4) from by decide]
  rintro e w3 ⟨rfl, hg, hq⟩
  have P3 := Lib.hid hq
  have Q3 := Lib.hid (Q2.out.otherW P2.out (fun h => NE.out h.symm) hg)
  have B3 := Lib.hid (below_only B2.out hg B2.out.size L1.out)
  clear hq hg Q2 B2
  go_wp2_with fail
  refine (wInt_ok _ _ Q3.out).mono ?_
  rw [show intR [128, 0] (-9223372036854775808) 9223372036854775807 = (0, [], 3) from by decide]
  rintro e w4 ⟨rfl, hg, hq⟩
  have Q4 := Lib.hid hq
  have P4 := Lib.hid (P3.out.otherW Q3.out NE.out hg)
  have B4 := Lib.hid (below_only B3.out hg B3.out.size L2.out)
  clear hq hg P3 B3
  go_wp2_with fail
  refine (PutInt_any _ 1 1 [7] _ _ (-65) (Rb.lit w4 5 [7]) (by simp) (by decide) (by decide) (by decide)).mono ?_
  rintro e w5 ⟨v5, rfl, hown, hb⟩
  obtain ⟨A5, c5, rfl, _, _⟩ := own_form hown
  have hb45 : Below w4.heap.size w4 w5 := ((Below.refl w4.heap.size w4).alloc (Nat.le_refl _) _).trans (hb.mono (by simp))
  have O5 := Lib.hid (Rb.own hown)
  have P5 := Lib.hid (P4.out.below hb45)
  have Q5 := Lib.hid (Q4.out.below hb45)
  have B5 := Lib.hid (B4.out.trans (hb45.mono B4.out.size))
  clear hown hb hb45 P4 Q4 B4
  go_wp2_with fail
  refine (equal_yes (O5.out.alloc (Nat.le_refl _) _) (Rb.lit w5 5 [7, 129, 1]) (by decide) (by decide)).mono ?_
  rintro e w6 ⟨rfl, k6, rfl⟩
  obtain ⟨w6, hw6⟩ : ∃ w6, w6 = (w5.alloc (.cells (([7, 129, 1] : List UInt8).map b8).toArray 5)).drewN k6 := ⟨_, rfl⟩
  have hb56 : Below w5.heap.size w5 w6 := by rw [hw6]; exact below_drewN ((Below.refl _ _).alloc (Nat.le_refl _) _) _
  rw [← hw6]
  have P6 := Lib.hid (P5.out.below hb56)
  have Q6 := Lib.hid (Q5.out.below hb56)
  have B6 := Lib.hid (B5.out.trans (hb56.mono B5.out.size))
  clear hw6 hb56 P5 Q5 B5
  go_wp2_with fail
  refine (PutText_any none 0 0 [] 0 _ _ (Rb.nil0 _ _) (Nat.zero_le _) (by decide) (by decide)).mono ?_
  rintro e w7 ⟨v7, rfl, hown, hb⟩
  obtain ⟨A7, c7, rfl, _, _⟩ := own_form hown
  have O7 := Lib.hid (Rb.own hown)
  have P7 := Lib.hid (P6.out.below hb)
  have Q7 := Lib.hid (Q6.out.below hb)
  have B7 := Lib.hid (B6.out.trans (hb.mono B6.out.size))
  clear hown hb P6 Q6 B6
  go_wp2_with fail
  refine (equal_yes (O7.out.alloc (Nat.le_refl _) _) (Rb.lit w7 5 [4, 97, 98]) (by decide) (by decide)).mono ?_
  rintro e w8 ⟨rfl, k8, rfl⟩
  obtain ⟨w8, hw8⟩ : ∃ w8, w8 = (w7.alloc (.cells (([4, 97, 98] : List UInt8).map b8).toArray 5)).drewN k8 := ⟨_, rfl⟩
  have hb78 : Below w7.heap.size w7 w8 := by rw [hw8]; exact below_drewN ((Below.refl _ _).alloc (Nat.le_refl _) _) _
  rw [← hw8]
  have P8 := Lib.hid (P7.out.below hb78)
  have Q8 := Lib.hid (Q7.out.below hb78)
  have B8 := Lib.hid (B7.out.trans (hb78.mono B7.out.size))
  clear hw8 hb78 P7 Q7 B7
  go_wp2_with fail
  refine (wErr_any P8.out).mono ?_
  rintro e w' ⟨rfl, rfl⟩
  go_wp2_with fail
  refine (wErr_any Q8.out).mono ?_
  rintro e w' ⟨rfl, rfl⟩
  go_wp2_with fail
  refine (wOpen_any (Rb.nil0 w8 0) (Nat.zero_le _) (by decide)).mono ?_
  rintro e w9 ⟨r, rfl, hr, _, hb⟩
  have R9 := Lib.hid hr
  have B9 := Lib.hid (B8.out.trans (hb.mono B8.out.size))
  clear hr hb P8 Q8 B8
  go_wp2_with fail
  refine (wEnd_any R9.out).mono ?_
  rintro e w' ⟨rfl, rfl⟩
  rw [show endOf [] 0 = 0 from by decide]
  go_wp2
  go_ret
  exact ⟨rfl, B9.out⟩
end Go.Proofs.Ytlhloebpppmgdaa
