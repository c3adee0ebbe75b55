/-
  Equality: Same of the code.
-/
import Derived.Test.YtidinbeanaifmaaVasc
namespace Go.Proofs.Ytidinbeanaifmaa
open Go.RowKit

/-- equal or not -/
noncomputable def eqB {α : Type} (a b : α) : Bool := @decide (a = b) (Classical.propDecidable _)
theorem eqB_true {α : Type} {a b : α} (h : a = b) : eqB a b = true := @decide_eq_true _ (Classical.propDecidable _) h
theorem eqB_false {α : Type} {a b : α} (h : a ≠ b) : eqB a b = false := @decide_eq_false _ (Classical.propDecidable _) h
theorem of_eqB {α : Type} {a b : α} (h : eqB a b = true) : a = b := @of_decide_eq_true _ (Classical.propDecidable _) h
theorem of_eqB_false {α : Type} {a b : α} (h : eqB a b = false) : a ≠ b := @of_decide_eq_false _ (Classical.propDecidable _) h

/-- a world that differs above w alone -/
structure BelowBy (w : World) where
  val : World
  below : Below w.heap.size w val
instance (w : World) : Inhabited (BelowBy w) := ⟨⟨w, Below.refl _ _⟩⟩
theorem wp_region_gives {P : Program} {id : Nat} {Q : Exit → Act → World → Prop} {a : Act} {w : World} {l : List Oper} (hm : P.follows .mixedOrders = true) (hB : Region.lexB .any l.toArray = true)
    (h : wpQuiet P l.toArray (fun w' => ∃ q : BelowBy w, w' = q.val) (fun a' => ∀ w', (∃ q : BelowBy w, w' = q.val) → Q .normal a' w') l a) : (Code.region id l.toArray true).wp P Q a w :=
  wp_region_quiet (C := fun w' => ∃ q : BelowBy w, w' = q.val) hm hB ⟨⟨{ w with drawn := w.drawn + 1 }, ⟨rfl, rfl, rfl, Nat.le_refl _, fun _ _ => rfl⟩⟩, rfl⟩ (by simpa using h)
theorem gives_by {P : Program} {f : FuncId} {args : Array Value} {w : World} {q : BelowBy w} {v : Value} (h : Calls P f args q.val (Gives v q.val)) :
    Calls P f args q.val fun e w'' => e = .returned v ∧ ∃ p : BelowBy w, w'' = p.val :=
  h.mono fun _ w' hh => ⟨hh.1, ⟨w', below_next q.below hh.2⟩, rfl⟩

section
variable {w : World}
theorem take_same {α : Type} {l r : List α} {j : Nat} {x y : α} (h : l[j]? = some x) (k : r[j]? = some y) (e : l.take j = r.take j) (hx : x = y) : l.take (j + 1) = r.take (j + 1) := by
  rw [List.take_add_one, List.take_add_one, h, k, e, hx]
theorem at_same {α : Type} {l r : List α} {j : Nat} {x y : α} (h : l[j]? = some x) (k : r[j]? = some y) (hx : x ≠ y) : l ≠ r := by
  intro e
  subst e
  rw [h] at k
  exact hx (by injection k)

set_option maxHeartbeats 1000000 in
theorem eqStrs_any (A : Option Addr) (c : Nat) (ks : List ByteArray) (A' : Option Addr) (c' : Nat) (ls : List ByteArray) (w : World) (hS : LiesS w (Lo w) A ks) (hS' : LiesS w (Lo w) A' ls) (hc : ks.length ≤ c) (hm : c ≤ 9223372036854775807) :
    Calls Try.prog 72 #[.slice A ks.length c, .slice A' ls.length c'] w (Gives (.bool (eqB ks ls)) w) := by
  have HS := Lib.hid hS
  have HS' := Lib.hid hS'
  clear hS hS'
  by_cases hlen : ks.length = ls.length
  · have t0 : (((ks.length : Nat) : Int) != ((ls.length : Nat) : Int)) = false := by rw [bne_eq_false_iff_eq]; omega
    go_enter Try.func72, Try.ntmps72
    go_wp2
    go_loopw [13, 5] (fun t _ wr => ∃ j q : Nat, j ≤ ks.length ∧ t = .int .i64 j ∧ wr = w.drewN q ∧ Hid (ks.take j = ls.take j)) (fun t _ _ => ks.length - (intOf t).toNat)
    case atStart => exact ⟨0, 0, by omega, rfl, rfl, Lib.hid rfl⟩
    case round =>
      obtain ⟨j, q, hjn, rfl, rfl, hr⟩ := hrel
      by_cases hlt : j < ks.length
      · have h1 : ks[j]? = some (ks.getD j ByteArray.empty) := by rw [List.getD_eq_getElem?_getD, List.getElem?_eq_getElem hlt]; rfl
        have h2 : ls[j]? = some (ls.getD j ByteArray.empty) := by rw [List.getD_eq_getElem?_getD, List.getElem?_eq_getElem (by omega)]; rfl
        obtain ⟨_, g, o, rfl, hg, e0⟩ := HS.out j _ h1
        obtain ⟨_, g', o', rfl, hg', e1⟩ := HS'.out j _ h2
        have hy := fun h => take_same h1 h2 hr.out h
        have hn := fun h => at_same h1 h2 h
        generalize ks.getD j ByteArray.empty = s at *
        generalize ls.getD j ByteArray.empty = t at *
        have HY := Lib.hid hy
        have HNN := Lib.hid hn
        clear hy hn h1 h2
        by_cases hst : s = t
        · have HR := Lib.hid (HY.out hst)
          have t1 : (s.toList == t.toList) = true := by rw [hst, beq_iff_eq]
          clear hst
          go_wp2_with fail
          go_quiet (fail)
          go_wp2
          go_roundw
          case rel => exact ⟨j + 1, _, by omega, by go_num, rfl, HR⟩
          case measure => simp [intOf]; omega
        · have HR := Lib.hid (eqB_false (HNN.out hst))
          have t1 : (s.toList == t.toList) = false := by rw [beq_eq_false_iff_ne]; exact fun e => hst (str_inj e)
          clear hst
          go_wp2_with fail
          go_quiet (fail)
          go_wp2
          go_ret
          exact ⟨ret_bool HR.out.symm, below_drew (below_drew (Below.refl _ _) _) _⟩
      · have HR : Hid (eqB ks ls = true) := Lib.hid (eqB_true (by
          have := hr.out
          rwa [show j = ks.length by omega, List.take_length, hlen, List.take_length] at this))
        go_wp2
        go_ret
        exact ⟨ret_bool HR.out.symm, below_drew (Below.refl _ _) _⟩
  · have t0 : (((ks.length : Nat) : Int) != ((ls.length : Nat) : Int)) = true := by rw [bne_iff_ne]; omega
    have HR := Lib.hid (eqB_false (fun e : ks = ls => hlen (by rw [e])))
    clear hlen
    go_enter Try.func72, Try.ntmps72
    go_wp2
    go_ret
    exact ⟨ret_bool HR.out.symm, Below.refl _ _⟩
end
end Go.Proofs.Ytidinbeanaifmaa
