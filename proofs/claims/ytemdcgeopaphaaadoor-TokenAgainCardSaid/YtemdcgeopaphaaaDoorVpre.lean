/-
  Small words that the texts of the values need (in a seat without package wire: in the place of XPutA to XLawH).
-/
import Derived.Test.YtemdcgeopaphaaaDoorRows
import Derived.WalkKit
import Derived.Lib.Hide
import Derived.WalkSpells
import Derived.WalkLawsBesides
import Derived.Test.YtemdcgeopaphaaaDoorBytes
import Derived.Test.YtemdcgeopaphaaaDoorWireMath
import Derived.Deep.RegionHeld3
import Derived.Deep.QuietTactic
import Derived.BigQuiet
import Derived.Laws.IdiomStrings
import Derived.Laws.OwnMore
import Derived.Below
namespace Go.Proofs.YtemdcgeopaphaaaDoor
open Go.RowKit

theorem ret_u64 {a b : Int} (h : a = b) : Ending.returned (.int .u64 a) = .returned (.int .u64 b) := by rw [h]
theorem ret_i64 {a b : Int} (h : a = b) : Ending.returned (.int .i64 a) = .returned (.int .i64 b) := by rw [h]
theorem ret_bool {a b : Bool} (h : a = b) : Ending.returned (.bool a) = .returned (.bool b) := by rw [h]
theorem ret_2 {a b a' b' : Int} (h : a = a') (h' : b = b') : Ending.returned (.tuple #[.int .i64 a, .int .i64 b]) = .returned (.tuple #[.int .i64 a', .int .i64 b']) := by rw [h, h']
theorem ret_str {a b : List UInt8} (h : a = b) : Ending.returned (.string ⟨a.toArray⟩) = .returned (.string ⟨b.toArray⟩) := by rw [h]
theorem below_drewN {B : Nat} {a w : World} (h : Below B a w) (k : Nat) : Below B a (w.drewN k) := ⟨h.os, h.tape, h.output, h.size, h.block⟩
theorem below_only {B q : Nat} {a w w' : World} (h : Below B a w) (hg : w.grownBy w' (some q)) (hB : B ≤ w.heap.size) (hq : B ≤ q) : Below B a w' :=
  h.grown hg hB (fun k hk => by injection hk with hk; omega)
theorem grownBy_trans {a b c : World} {r : Option Nat} (h : a.grownBy b r) (k : b.grownBy c r) : a.grownBy c r :=
  ⟨k.os.trans h.os, k.tape.trans h.tape, k.output.trans h.output, Nat.le_trans h.size k.size, fun i hi hne => (k.block i (Nat.lt_of_lt_of_le hi h.size) hne).trans (h.block i hi hne)⟩
theorem Tryd.infob : (Tryd.prog.info? 5).map (fun i => (i.zero, i.size, i.bytes)) = some (some (.int .u8 0), 1, 1) := by kernel_rfl
theorem madeB_eq (n : Nat) : (madeCells #[Value.int .u8 0] n).toList = (List.replicate n (0 : UInt8)).map b8 := by
  rw [toList_madeCells_one, List.map_replicate]
  rfl
theorem own_empty (w : World) (t : TypeId) : (w.alloc (.cells #[] t)).ownsRow w.heap.size t 1 (.slice (some ⟨w.heap.size, 0, none⟩) 0 0) 0 [] :=
  World.ownsRow_made w #[] 0 (Nat.le_refl _) (by unfold maxLen; omega) rfl
theorem Rb.one (w : World) (t : TypeId) (x : Int) (c : UInt8) (h : x = c.toNat) : Rb (w.alloc (.cells #[.int .u8 x] t)) (w.heap.size + 1) (some ⟨w.heap.size, 0, none⟩) 1 [c] := by
  refine ⟨rfl, fun _ => ⟨w.heap.size, 0, rfl, by omega, fun j d hj => ?_⟩⟩
  match j, hj with
  | 0, hj =>
    obtain rfl : c = d := by simpa using hj
    subst h
    rw [Nat.zero_add, World.cell?_alloc_at _ _ _ _ rfl]
    rfl
def OwnRes (w : World) (l : List UInt8) (e : Ending) (w' : World) : Prop :=
  ∃ v, e = .returned v ∧ w'.ownsRow w.heap.size 5 1 v l.length (l.map b8) ∧ Below w.heap.size w w'
theorem own_named {w w' : World} {l : List UInt8} {e : Ending} (h : OwnRes w l e w') :
    ∃ A n c, e = .returned (.slice A n c) ∧ Hid (l.length = n) ∧ n ≤ c ∧ c ≤ 9223372036854775807 ∧ Hid (Rb w' w'.heap.size A n l) ∧ Hid (w'.ownsRow w.heap.size 5 1 (.slice A n c) n (l.map b8)) ∧ Hid (Below w.heap.size w w') := by
  obtain ⟨v, rfl, hown, hb⟩ := h
  obtain ⟨A, c, rfl, h1, h2⟩ := own_form hown
  unfold maxLen at h2
  exact ⟨A, _, c, rfl, rfl, h1, by omega, Rb.of_own hown, hown, hb⟩
theorem Rb.lit (w : World) (t : TypeId) (l : List UInt8) : Rb (w.alloc (.cells (l.map b8).toArray t)) (w.heap.size + 1) (some ⟨w.heap.size, 0, none⟩) l.length l := by
  refine ⟨rfl, fun _ => ⟨w.heap.size, 0, rfl, by omega, fun j d hj => ?_⟩⟩
  rw [Nat.zero_add, World.cell?_alloc_at _ _ _ _ rfl]
  simp [hj]
theorem Rb.marked (w : World) (t : TypeId) (f : Nat × Nat) (l : List UInt8) : Rb (w.alloc (.cells (l.map b8).toArray t f)) (w.heap.size + 1) (some ⟨w.heap.size, 0, none⟩) l.length l := by
  refine ⟨rfl, fun _ => ⟨w.heap.size, 0, rfl, by omega, fun j d hj => ?_⟩⟩
  rw [Nat.zero_add, cell_of_row _ _ _ _ _ _ (heap_alloc_new w _)]
  simp [hj]
theorem Rb.nil0 (w : World) (B : Nat) : Rb w B none 0 [] := ⟨rfl, fun h => absurd rfl h⟩
theorem run_str {P : Program} {w : World} {B : Nat} {A : Option Addr} {n c : Nat} {l : List UInt8} (src dst e : TypeId) (hs : P.underlying src = some (.slice e)) (he : P.underlying e = some (.int .u8)) (hd : P.underlying dst = some .string)
    (h : Rb w B A n l) : (convert src dst (.slice A n c)).run P w = .ok (.string ⟨l.toArray⟩) w := by
  obtain rfl := h.1
  cases A with
  | none =>
    have hl : l = [] := by
      rcases List.eq_nil_or_concat l with h0 | ⟨r, x, h0⟩
      · exact h0
      · obtain ⟨_, _, ha, _⟩ := h.2 (by rw [h0]; simp)
        cases ha
    subst hl
    rw [run_convert_bytes_string w src dst e _ _ c hs he hd]
    simp [Conv.bytesToString, Sem.run_pure]
    rfl
  | some a =>
    refine run_convert_bytes_back w src dst e a c l hs he hd fun j hj => ?_
    obtain ⟨g, o, ha, _, hc⟩ := h.2 (by intro h0; subst h0; simp at hj)
    injection ha with ha
    subst ha
    rw [Addr.add_lit]
    exact hc j _ (List.getElem?_eq_getElem hj)
theorem own_below {w w' : World} {base : Nat} {e : TypeId} {size n : Nat} {v : Value} {xs : List Value} (h : w.ownsRow base e size v n xs) (hb : Below w.heap.size w w') : w'.ownsRow base e size v n xs := by
  refine ⟨h.1, ?_⟩
  rcases h.2 with h0 | ⟨g, cap, cur, hv, h1, hg, r⟩
  · exact .inl h0
  · exact .inr ⟨g, cap, cur, hv, h1, (hb.block g (Array.getElem?_eq_some_iff.1 hg).1).trans hg, r⟩
theorem own_base {w : World} {base : Nat} {e : TypeId} {size n : Nat} {v : Value} {xs : List Value} (h : w.ownsRow base e size v n xs) : ∀ k, v.ownBlock = some k → base ≤ k := by
  intro k hk
  rcases h.2 with ⟨rfl, _⟩ | ⟨g, cap, cur, rfl, h1, _⟩
  · cases hk
  · injection hk with hk
    subst hk
    exact h1
def Says (x : Value) (w : World) (e : Ending) (w' : World) : Prop := e = .returned x ∧ w = w'
end Go.Proofs.YtemdcgeopaphaaaDoor
