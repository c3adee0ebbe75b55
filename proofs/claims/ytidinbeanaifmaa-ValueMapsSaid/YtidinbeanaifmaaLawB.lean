/-
  The chapter's examples, which every statement checks: works returns true.
-/
import Derived.Test.YtidinbeanaifmaaLawA
namespace Go.Proofs.Ytidinbeanaifmaa
open Go.RowKit

theorem below_drewN {B : Nat} {a w : World} (h : Below B a w) (k : Nat) : Below B a (w.drewN k) := ⟨h.os, h.tape, h.output, h.size, h.block⟩
theorem below_only {B q : Nat} {a w w' : World} (h : Below B a w) (hg : w.grownBy w' (some q)) (hB : B ≤ w.heap.size) (hq : B ≤ q) : Below B a w' :=
  h.grown hg hB (fun k hk => by injection hk with hk; omega)
theorem Rb.lit (w : World) (t : TypeId) (l : List UInt8) : Rb (w.alloc (.cells (l.map b8).toArray t)) (w.heap.size + 1) (some ⟨w.heap.size, 0, none⟩) l.length l := by
  refine ⟨rfl, fun _ => ⟨w.heap.size, 0, rfl, by omega, fun j d hj => ?_⟩⟩
  rw [Nat.zero_add, World.cell?_alloc_at _ _ _ _ rfl]
  simp [hj]
theorem Rb.own {w : World} {base : Nat} {e : TypeId} {A : Option Addr} {c n : Nat} {l : List UInt8} (h : w.ownsRow base e 1 (.slice A n c) n (l.map b8)) : Rb w w.heap.size A n l := Rb.of_own h
theorem Rb.nil0 (w : World) (B : Nat) : Rb w B none 0 [] := ⟨rfl, fun h => absurd rfl h⟩

section
variable {w w' : World} {p q : Nat} {l : List UInt8} {e : Int} {t : TypeId} {cs : Array Value}
theorem WRd.below (h : WRd w p l e) (hb : Below w.heap.size w w') : WRd w' p l e := by
  obtain ⟨A, n, c, l0, hk, ho, r⟩ := h
  exact ⟨A, n, c, l0, hk.below hb hk.lt, ho.below hb, r⟩
theorem RRd.below (h : RRd w p l e) (hb : Below w.heap.size w w') : RRd w' p l e := by
  obtain ⟨A, n, c, l0, hk, ho, r⟩ := h
  exact ⟨A, n, c, l0, hk.below hb hk.lt, ho.below hb, r⟩
theorem WRd.other (h : WRd w p l e) (hk : Bk w q t cs) (ht : t ≠ 5) (hpq : p ≠ q) (hg : w.grownBy w' (some q)) : WRd w' p l e := by
  obtain ⟨A, n, c, l0, hb, ho, r⟩ := h
  exact ⟨A, n, c, l0, hb.grown hg (fun e => hpq (by injection e)), ho.grown hk ht hg, r⟩
theorem RRd.other (h : RRd w p l e) (hk : Bk w q t cs) (ht : t ≠ 5) (hpq : p ≠ q) (hg : w.grownBy w' (some q)) : RRd w' p l e := by
  obtain ⟨A, n, c, l0, hb, ho, r⟩ := h
  exact ⟨A, n, c, l0, hb.grown hg (fun e => hpq (by injection e)), ho.grown hk ht hg, r⟩
theorem WRd.otherW {l' : List UInt8} {e' : Int} (h : WRd w p l e) (k : WRd w q l' e') (hpq : p ≠ q) (hg : w.grownBy w' (some q)) : WRd w' p l e := by
  obtain ⟨_, _, _, _, hk, _⟩ := k
  exact h.other hk (by decide) hpq hg
theorem WRd.otherR {l' : List UInt8} {e' : Int} (h : WRd w p l e) (k : RRd w q l' e') (hpq : p ≠ q) (hg : w.grownBy w' (some q)) : WRd w' p l e := by
  obtain ⟨_, _, _, _, hk, _⟩ := k
  exact h.other hk (by decide) hpq hg
theorem RRd.otherW {l' : List UInt8} {e' : Int} (h : RRd w p l e) (k : WRd w q l' e') (hpq : p ≠ q) (hg : w.grownBy w' (some q)) : RRd w' p l e := by
  obtain ⟨_, _, _, _, hk, _⟩ := k
  exact h.other hk (by decide) hpq hg
theorem WRd.lt (h : WRd w p l e) : p < w.heap.size := by
  obtain ⟨_, _, _, _, hk, _⟩ := h
  exact hk.lt
theorem RRd.lt (h : RRd w p l e) : p < w.heap.size := by
  obtain ⟨_, _, _, _, hk, _⟩ := h
  exact hk.lt
theorem WRd.ne_ {l' : List UInt8} {e' : Int} (h : WRd w p l e) (k : RRd w q l' e') : p ≠ q := by
  obtain ⟨_, _, _, _, hk, _⟩ := h
  obtain ⟨_, _, _, _, hk', _⟩ := k
  exact hk.ne_ hk' (by decide)
end

end Go.Proofs.Ytidinbeanaifmaa
