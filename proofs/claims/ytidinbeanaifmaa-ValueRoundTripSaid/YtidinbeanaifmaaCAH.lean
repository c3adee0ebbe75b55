/-
  Contracts of the code's and of the reference's functions, part AH, and what they lean on.
-/
import Derived.Test.YtidinbeanaifmaaCAG
import Derived.Test.YtidinbeanaifmaaCAA
import Derived.Test.YtidinbeanaifmaaChecked
import Derived.Laws.IdiomStrings
import Derived.Test.YtidinbeanaifmaaCAD
import Derived.Test.YtidinbeanaifmaaCAB
namespace Go.Proofs.Ytidinbeanaifmaa
open Go.RowKit

section
variable {w : World} {q : Nat} {b : Int}
set_option maxHeartbeats 400000 in
theorem nreq : Calls Try.prog 110 #[.pointer (some ⟨q, 0, none⟩), .bool true] w (Says (.tuple #[]) w) := by
  go_enter Try.func110, Try.ntmps110
  go_wp2
  go_end0
  exact ⟨rfl, rfl⟩
set_option maxHeartbeats 400000 in
theorem nint (h : Bk w q 90 #[.pointer none, .int .i64 b]) : Calls Try.prog 111 #[.pointer (some ⟨q, 0, none⟩)] w (Says (.int .i64 0) w) := by
  have q0 := h.cell 0
  change _ = some (Value.pointer none) at q0
  clear h
  go_enter Try.func111, Try.ntmps111
  go_wp2_with fail
  refine (nilInt _ _).mono ?_
  rintro e w' ⟨rfl, rfl⟩
  go_wp2
  go_ret
  exact ⟨rfl, rfl⟩
set_option maxRecDepth 100000 in
set_option maxHeartbeats 4000000 in
theorem nvalue (hq : Bk w q 90 #[.pointer none, .int .i64 0]) : Calls Try.prog 86 #[.pointer (some ⟨q, 0, none⟩), .int .i64 1] w fun e w' => e = .returned zeroV ∧ FrS (fun b => b = q) w w' := by
  obtain ⟨w1, hw1⟩ : ∃ w1, w1 = w.alloc (.cells #[.int .i64 0, .int .i64 0, .string ⟨#[]⟩, .slice none 0 0, .slice none 0 0] 26) := ⟨_, rfl⟩
  have b1 : Below w.heap.size w w1 := by rw [hw1]; exact below_one _ _
  have R1 : Hid (Bk w1 w.heap.size 26 #[.int .i64 0, .int .i64 0, .string ⟨#[]⟩, .slice none 0 0, .slice none 0 0]) := Lib.hid (by rw [hw1]; exact Bk.new _ _ _)
  have Q1 := Lib.hid (hq.below b1 hq.lt)
  have F1 : Hid (FrS (fun b => b = q) w w1) := Lib.hid (FrS.of_below b1)
  have NE : Hid (w.heap.size ≠ q) := Lib.hid (by have h2 := hq.lt; omega)
  have HW := Lib.hid hw1
  have c1 := Q1.out.cell 1
  change _ = some (Value.int .i64 0) at c1
  rw [hw1] at c1
  clear hq hw1 b1
  go_enter Try.func86, Try.ntmps86
  go_wp2_with fail
  rw [← HW.out]
  refine (nreq).mono ?_
  rintro e1 w' ⟨rfl, rfl⟩
  clear c1
  have c1 := Q1.out.cell 1
  change _ = some (Value.int .i64 0) at c1
  have fz := Q1.out.frozen 1
  obtain ⟨w3, hw3⟩ : ∃ w3, w3 = w1.setCell ⟨q, 1, none⟩ (.int .i64 1) := ⟨_, rfl⟩
  have g3 : w1.grownBy w3 (some q) := by rw [hw3]; exact turned _ _ _ _
  have Q3 : Hid (Bk w3 q 90 #[.pointer none, .int .i64 1]) := Lib.hid (by rw [hw3]; exact Q1.out.put 1 _)
  have R3 := Lib.hid (R1.out.grown g3 (by intro e; injection e with e; exact NE.out e))
  have F3 := Lib.hid (F1.out.trans (FrS.of_grown g3 rfl))
  have HW3 := Lib.hid hw3
  clear hw3 g3
  go_wp2_with fail
  rw [← HW3.out]
  refine (nint Q3.out).mono ?_
  rintro e1 w' ⟨rfl, rfl⟩
  clear c1 fz
  go_wp2_with fail
  refine (nreq).mono ?_
  rintro e1 w' ⟨rfl, rfl⟩
  go_upto_region 6 with fail
  obtain ⟨w6, hw6⟩ : ∃ w6, w6 = w3.alloc (.cells #[.int .i64 0, .int .i64 0, .string ⟨#[]⟩, .slice none 0 0, .slice none 0 0] 26) := ⟨_, rfl⟩
  have b6 : Below w3.heap.size w3 w6 := by rw [hw6]; exact below_one _ _
  have V6 : Hid (Bk w6 w3.heap.size 26 #[.int .i64 0, .int .i64 0, .string ⟨#[]⟩, .slice none 0 0, .slice none 0 0]) := Lib.hid (by rw [hw6]; exact Bk.new _ _ _)
  have R6 := Lib.hid (R3.out.below b6 R3.out.lt)
  have F6 := Lib.hid (F3.out.trans (FrS.of_below b6))
  rw [← hw6]
  clear hw6 b6
  have v0 := V6.out.cell 0
  change _ = some (Value.int .i64 0) at v0
  have v1 := V6.out.cell 1
  change _ = some (Value.int .i64 0) at v1
  have v2 := V6.out.cell 2
  change _ = some (Value.string ⟨#[]⟩) at v2
  have v3 := V6.out.cell 3
  change _ = some (Value.slice none 0 0) at v3
  have v4 := V6.out.cell 4
  change _ = some (Value.slice none 0 0) at v4
  have r0 := R6.out.cell 0
  have r1 := R6.out.cell 1
  have r2 := R6.out.cell 2
  have r3 := R6.out.cell 3
  have r4 := R6.out.cell 4
  have f0 := R6.out.frozen 0
  have f1 := R6.out.frozen 1
  have f2 := R6.out.frozen 2
  have f3 := R6.out.frozen 3
  have f4 := R6.out.frozen 4
  go_wp2
  obtain ⟨wf, hwf⟩ : ∃ wf, wf = ((((w6.setCell ⟨w.heap.size, 0, none⟩ (.int .i64 0)).setCell ⟨w.heap.size, 1, none⟩ (.int .i64 0)).setCell ⟨w.heap.size, 2, none⟩ (.string ⟨#[]⟩)).setCell ⟨w.heap.size, 3, none⟩ (.slice none 0 0)).setCell ⟨w.heap.size, 4, none⟩ (.slice none 0 0) := ⟨_, rfl⟩
  have GF : Hid (w6.grownBy wf (some w.heap.size)) := Lib.hid (by rw [hwf]; exact grownBy_trans (grownBy_trans (grownBy_trans (grownBy_trans (turned w6 w.heap.size 0 _) (turned _ w.heap.size 1 _)) (turned _ w.heap.size 2 _)) (turned _ w.heap.size 3 _)) (turned _ w.heap.size 4 _))
  have RF : Hid (Bk wf w.heap.size 26 #[.int .i64 0, .int .i64 0, .string ⟨#[]⟩, .slice none 0 0, .slice none 0 0]) := Lib.hid (by rw [hwf]; exact ((((R6.out.put 0 _).put 1 _).put 2 _).put 3 _).put 4 _)
  have FF : Hid (FrS (fun b => b = q) w wf) := Lib.hid (F6.out.next (S' := fun b => b = w.heap.size) (FrS.of_grown GF.out rfl) (fun i hi e => by omega))
  rw [← hwf]
  refine bodyPost_ret (results_cell_row rfl _ _ w.heap.size 26 _ (0, 0) _ rfl RF.out Try.underlying26 rfl (by kernel_rfl)) rfl ?_
  exact ⟨rfl, FF.out⟩
set_option maxRecDepth 100000 in
set_option maxHeartbeats 4000000 in
theorem nDecode (w : World) : Calls Try.prog 50 #[.pointer none] w (Gives zeroV w) := by
  obtain ⟨w1, hw1⟩ : ∃ w1, w1 = (w.alloc (.cells #[.int .i64 0, .int .i64 0, .string ⟨#[]⟩, .slice none 0 0, .slice none 0 0] 26)).alloc (.cells #[.pointer none, .int .i64 0] 90) := ⟨_, rfl⟩
  obtain ⟨q, hqe⟩ : ∃ q, q = w.heap.size + 1 := ⟨_, rfl⟩
  have hb1 : Below w.heap.size w w1 := by rw [hw1]; exact ((Below.refl _ _).alloc (Nat.le_refl _) _).alloc (by simp) _
  have B1 := Lib.hid hb1
  have R1 : Hid (Bk w1 w.heap.size 26 #[.int .i64 0, .int .i64 0, .string ⟨#[]⟩, .slice none 0 0, .slice none 0 0]) := Lib.hid (by rw [hw1]; exact (Bk.new w _ _).alloc _)
  have Q1 : Hid (Bk w1 q 90 #[.pointer none, .int .i64 0]) := Lib.hid (by rw [hw1, hqe]; have h := Bk.new (w.alloc (.cells #[.int .i64 0, .int .i64 0, .string ⟨#[]⟩, .slice none 0 0, .slice none 0 0] 26)) 90 #[.pointer none, .int .i64 0]; simpa using h)
  have NE : Hid (w.heap.size ≤ q ∧ w.heap.size ≠ q) := Lib.hid (by omega)
  have HW := Lib.hid (And.intro hw1 hqe)
  clear hb1 hw1 hqe
  go_enter Try.func50, Try.ntmps50
  go_wp2_with fail
  rw [← HW.out.1, ← HW.out.2]
  refine (nvalue Q1.out).mono ?_
  rintro e1 w2 ⟨rfl, hf2⟩
  have R2 := Lib.hid (hf2.bk R1.out NE.out.2)
  have B2 : Hid (Below w.heap.size w w2) := Lib.hid (B1.out.trans (hf2.below B1.out.size (fun b hb => by have := NE.out.1; omega)))
  clear hf2 HW
  unfold zeroV
  go_upto_region 3 with fail
  obtain ⟨w3, hw3⟩ : ∃ w3, w3 = w2.alloc (.cells #[.int .i64 0, .int .i64 0, .string ⟨#[]⟩, .slice none 0 0, .slice none 0 0] 26) := ⟨_, rfl⟩
  have b3 : Below w2.heap.size w2 w3 := by rw [hw3]; exact below_one _ _
  have R3 := Lib.hid (R2.out.below b3 R2.out.lt)
  have B3 := Lib.hid (B2.out.trans (b3.mono B2.out.size))
  rw [← hw3]
  clear hw3 b3
  go_wp2_with fail
  refine (nilErr).mono ?_
  rintro e1 w' ⟨rfl, rfl⟩
  go_wp2_with fail
  refine (Null_any _).mono ?_
  rintro e1 w4 ⟨rfl, hb4⟩
  unfold zeroV
  have R4 := Lib.hid (R3.out.below hb4 R3.out.lt)
  have B4 := Lib.hid (B3.out.trans (hb4.mono B3.out.size))
  clear hb4
  have r0 := R4.out.cell 0
  have r1 := R4.out.cell 1
  have r2 := R4.out.cell 2
  have r3 := R4.out.cell 3
  have r4 := R4.out.cell 4
  have f0 := R4.out.frozen 0
  have f1 := R4.out.frozen 1
  have f2 := R4.out.frozen 2
  have f3 := R4.out.frozen 3
  have f4 := R4.out.frozen 4
  go_wp2
  obtain ⟨wf, hwf⟩ : ∃ wf, wf = ((((w4.setCell ⟨w.heap.size, 0, none⟩ (.int .i64 0)).setCell ⟨w.heap.size, 1, none⟩ (.int .i64 0)).setCell ⟨w.heap.size, 2, none⟩ (.string ⟨#[]⟩)).setCell ⟨w.heap.size, 3, none⟩ (.slice none 0 0)).setCell ⟨w.heap.size, 4, none⟩ (.slice none 0 0) := ⟨_, rfl⟩
  have RF : Hid (Bk wf w.heap.size 26 #[.int .i64 0, .int .i64 0, .string ⟨#[]⟩, .slice none 0 0, .slice none 0 0]) := Lib.hid (by rw [hwf]; exact ((((R4.out.put 0 _).put 1 _).put 2 _).put 3 _).put 4 _)
  have BF : Hid (Below w.heap.size w wf) := Lib.hid (by rw [hwf]; exact ((((B4.out.setCell (p := ⟨w.heap.size, 0, none⟩) (Nat.le_refl _) _).setCell (p := ⟨w.heap.size, 1, none⟩) (Nat.le_refl _) _).setCell (p := ⟨w.heap.size, 2, none⟩) (Nat.le_refl _) _).setCell (p := ⟨w.heap.size, 3, none⟩) (Nat.le_refl _) _).setCell (p := ⟨w.heap.size, 4, none⟩) (Nat.le_refl _) _)
  rw [← hwf]
  refine bodyPost_ret (results_cell_row rfl _ _ w.heap.size 26 _ (0, 0) _ rfl RF.out Try.underlying26 rfl (by kernel_rfl)) rfl ?_
  exact ⟨rfl, BF.out⟩
end
end Go.Proofs.Ytidinbeanaifmaa
namespace Go.Proofs.Ytidinbeanaifmaa
open Go.RowKit

theorem conv_rb {w : World} {B n : Nat} {A : Option Addr} {l : List UInt8} (c : Nat) (h : Rb w B A n l) : (convert 50 9 (.slice A n c)).run Try.prog w = .ok (.string ⟨l.toArray⟩) w := by
  have hl := h.len
  cases A with
  | none =>
    have h0 : l = [] := by
      cases l with
      | nil => rfl
      | cons x r => obtain ⟨g, o, e, _⟩ := h.2 (by simp); cases e
    subst h0
    obtain rfl : n = 0 := by simpa using hl.symm
    simp [convert, run_underlying Try.underlying50, run_underlying Try.underlying9, run_underlying Try.underlying5, Conv.bytesToString]
    rfl
  | some a =>
    subst hl
    refine run_convert_bytes_back w 50 9 5 a c l Try.underlying50 Try.underlying5 Try.underlying9 (fun j hj => ?_)
    obtain ⟨g, o, e, _, hc⟩ := h.2 (by intro e; subst e; simp at hj)
    injection e with e
    subst e
    rw [Addr.add_lit]
    exact hc j _ (List.getElem?_eq_getElem hj)
end Go.Proofs.Ytidinbeanaifmaa
namespace Go.Proofs.Ytidinbeanaifmaa
open Go.RowKit

/-- what compare is asked of items of at most m nodes -/
def CmpUpto (m : Nat) : Prop := ∀ (x y : VT) (w : World) (v u : Value), x.size ≤ m → x.all okF = true → y.all okF = true → Lies w (Lo w) x v → Lies w (Lo w) y u → Calls Try.prog 74 #[v, u] w (Gives (.int .i64 (x.cmp y)) w)

theorem BelowBy.cell {w : World} {p : Addr} {v : Value} (h : w.cell? p = some v) : ∀ q : BelowBy w, q.val.cell? p = some v := fun q => (q.below.cell (World.block_lt_of_cell? w p h)).trans h
theorem cmps_drop {M : Bool} {xs ys : List VT} {ks ls : List ByteArray} {j : Nat} {x y : VT} (h1 : xs[j]? = some x) (h2 : ys[j]? = some y) :
    cmps M (xs.drop j) (ks.drop j) (ys.drop j) (ls.drop j) = thn (if M then cmpS (ks.getD j ByteArray.empty) (ls.getD j ByteArray.empty) else 0) (thn (x.cmp y) (cmps M (xs.drop (j + 1)) (ks.drop (j + 1)) (ys.drop (j + 1)) (ls.drop (j + 1)))) := by
  obtain ⟨hx, rfl⟩ := List.getElem?_eq_some_iff.1 h1
  obtain ⟨hy, rfl⟩ := List.getElem?_eq_some_iff.1 h2
  rw [List.drop_eq_getElem_cons hx, List.drop_eq_getElem_cons hy, cmps_cons, List.tail_drop, List.tail_drop]
  have e : ∀ l : List ByteArray, (l.drop j).headD ByteArray.empty = l.getD j ByteArray.empty := fun l => by
    rw [List.headD_eq_head?_getD, List.head?_drop, List.getD_eq_getElem?_getD]
  rw [e, e]
theorem cmps_end {M : Bool} {xs ys : List VT} {ks ls : List ByteArray} {j : Nat} (h : j = xs.length ∧ j ≤ ys.length ∨ j = ys.length ∧ j ≤ xs.length) : cmps M (xs.drop j) ks (ys.drop j) ls = cmpI (xs.length : Nat) (ys.length : Nat) := by
  rcases h with ⟨rfl, h⟩ | ⟨rfl, h⟩
  · rw [List.drop_length, cmps_nil, List.length_drop]
    unfold cmpI
    repeat' split <;> omega
  · rw [List.drop_length]
    cases hx : xs.drop ys.length with
    | nil =>
      have := congrArg List.length hx
      rw [List.length_drop, List.length_nil] at this
      rw [cmps_nil]
      unfold cmpI
      repeat' split <;> first | omega | simp at *
    | cons x r =>
      have := congrArg List.length hx
      rw [List.length_drop, List.length_cons] at this
      rw [cmps_out]
      unfold cmpI
      repeat' split <;> omega
theorem thn_ne {c d : Int} (h : c ≠ 0) : thn c d = c := by unfold thn; rw [if_neg h]
theorem thn_eq {c d : Int} (h : c = 0) : thn c d = d := by unfold thn; rw [if_pos h]

set_option maxHeartbeats 4000000 in
set_option linter.unusedVariables false in
theorem cmpItems_4le (m : Nat) (IH : Hid (CmpUpto m)) (i : Int) (t : ByteArray) (its : List VT) (ks : List ByteArray) (A : Option Addr) (c : Nat) (A' : Option Addr) (c' : Nat)
    (i' : Int) (t' : ByteArray) (jts : List VT) (ls : List ByteArray) (D : Option Addr) (e : Nat) (D' : Option Addr) (e' : Nat) (w : World)
    (hL : LiesL w (Lo w) A 0 its) (hM : LiesL w (Lo w) D 0 jts) (h1 : its.length ≤ c) (h2 : c ≤ 9223372036854775807) (h3 : jts.length ≤ e) (h4 : e ≤ 9223372036854775807)
    (hsz : sizes its ≤ m) (hw : alls okF its = true) (hw' : alls okF jts = true)  (hle : its.length ≤ jts.length) :
    Calls Try.prog 97 #[vag 4 i t A its.length c A' ks.length c', vag 4 i' t' D jts.length e D' ls.length e'] w (Gives (.int .i64 (cmps false its ks jts ls)) w) := by
  have HL := Lib.hid hL
  have HM := Lib.hid hM
  have HWF := Lib.hid (And.intro hw hw')
  clear hL hM hw hw'
  obtain ⟨w2, hw2⟩ : ∃ w2, w2 = (w.alloc (.cells #[.int .i64 4, .int .i64 i, .string t, .slice A its.length c, .slice A' ks.length c'] 26)).alloc (.cells #[.int .i64 4, .int .i64 i', .string t', .slice D jts.length e, .slice D' ls.length e'] 26) := ⟨_, rfl⟩
  have B2 : Hid (Below w.heap.size w w2) := Lib.hid (by rw [hw2]; exact (below_one _ _).trans (Below.alloc (Below.refl _ _) (by simp) _))
  have S2 : Hid (w.heap.size + 1 < w2.heap.size) := Lib.hid (by rw [hw2]; simp)
  have X1 : Hid (∀ j, w2.cell? ⟨w.heap.size, j, none⟩ = (#[.int .i64 4, .int .i64 i, .string t, .slice A its.length c, .slice A' ks.length c'] : Array Value)[j]?) := Lib.hid (fun j => by
    rw [hw2, World.cell?_alloc_lt _ _ _ (by simp), World.cell?_alloc_at _ _ _ _ rfl])
  have X2 : Hid (∀ j, w2.cell? ⟨w.heap.size + 1, j, none⟩ = (#[.int .i64 4, .int .i64 i', .string t', .slice D jts.length e, .slice D' ls.length e'] : Array Value)[j]?) := Lib.hid (fun j => by
    rw [hw2, World.cell?_alloc_at _ _ _ _ (by simp)])
  have HW := Lib.hid hw2
  clear hw2
  unfold vag
  go_enter Try.func97, Try.ntmps97
  go_wp2
  rw [← HW.out]
  go_loopw [15, 5, 6, 7] (fun s _ _ _ wr => ∃ j : Nat, j ≤ its.length ∧ s = .int .i64 j ∧ Hid (cmps false its ks jts ls = cmps false (its.drop j) (ks.drop j) (jts.drop j) (ls.drop j)) ∧ Hid (Below w2.heap.size w2 wr)) (fun s _ _ _ _ => its.length - (intOf s).toNat)
  case atStart => exact ⟨0, by omega, rfl, Lib.hid rfl, Lib.hid (Below.refl _ _)⟩
  case round =>
    obtain ⟨j, hjn, rfl, HJ, hb⟩ := hrel
    have b3 := (hb.out.cell (p := ⟨w.heap.size, 3, none⟩) (by have := S2.out; show w.heap.size < _; omega)).trans (X1.out 3)
    have b3' := (hb.out.cell (p := ⟨w.heap.size + 1, 3, none⟩) S2.out).trans (X2.out 3)
    change _ = some (Value.slice A its.length c) at b3
    change _ = some (Value.slice D jts.length e) at b3'
    by_cases hlt : j < its.length
    · have hot : j < jts.length := by omega
      have b0 := (hb.out.cell (p := ⟨w.heap.size, 0, none⟩) (by have := S2.out; show w.heap.size < _; omega)).trans (X1.out 0)
      have h1 := List.getElem?_eq_getElem (l := its) (i := j) (by omega)
      have h2 := List.getElem?_eq_getElem (l := jts) (i := j) (by omega)
      have HB := Lib.hid (below_next B2.out hb.out)
      have hwx := all_at HWF.out.1 h1
      have hwy := all_at HWF.out.2 h2
      obtain ⟨g, o, k1, i1, t1, B, n1, c1, B', n2, c2, hA, hg, e0, e1, e2, e3, e4, hx⟩ := (HL.out).at_ h1
      obtain ⟨g', o', k3, i3, t3, E, n3, c3, E', n4, c4, hD, hg', d0, d1, d2, d3, d4, hy⟩ := (HM.out).at_ h2
      subst hA hD
      have hle2 : (its[j]'(by omega)).size ≤ m := Nat.le_trans (size_at h1) hsz
      have hdr := cmps_drop (M := false) (ks := ks) (ls := ls) h1 h2
      generalize its[j]'(by omega) = x at *
      generalize jts[j]'(by omega) = y at *
      have cc := fun (q : Nat) => HB.out.cell (p := ⟨g, q, none⟩) hg
      have cc' := fun (q : Nat) => HB.out.cell (p := ⟨g', q, none⟩) hg'
      rw [Nat.zero_add] at e0 e1 e2 e3 e4 d0 d1 d2 d3 d4
      rw [← cc] at e0 e1 e2 e3 e4
      rw [← cc'] at d0 d1 d2 d3 d4
      rw [hdr] at HJ
      have HY := Lib.hid (And.intro hx hy)
      have HSZ := Lib.hid hle2
      have HWX := Lib.hid (And.intro hwx hwy)
      clear hx hy hle2 hwx hwy cc cc' hdr h1 h2
      have HJ := Lib.hid (HJ.out.trans (thn_eq rfl))
      have z3 := BelowBy.cell b3
      have z3' := BelowBy.cell b3'
      have q0 := BelowBy.cell e0
      have q1 := BelowBy.cell e1
      have q2 := BelowBy.cell e2
      have q3 := BelowBy.cell e3
      have q4 := BelowBy.cell e4
      have r0 := BelowBy.cell d0
      have r1 := BelowBy.cell d1
      have r2 := BelowBy.cell d2
      have r3 := BelowBy.cell d3
      have r4 := BelowBy.cell d4
      have HCC : Hid (∀ q : BelowBy wr, Calls Try.prog 74 #[vag k1 i1 t1 B n1 c1 B' n2 c2, vag k3 i3 t3 E n3 c3 E' n4 c4] q.val (Gives (.int .i64 (x.cmp y)) q.val)) := Lib.hid (fun q =>
        IH.out x y q.val _ _ HSZ.out HWX.out.1 HWX.out.2 ((HY.out.1.below HB.out).below q.below) ((HY.out.2.below HB.out).below q.below))
      unfold vag at HCC
      clear b3 b3' e0 e1 e2 e3 e4 d0 d1 d2 d3 d4
      go_wp2_with fail
      refine wp_region_gives (by kernel_rfl) (by kernel_rfl) ?_
      repeat (quiet_step ((go_at_call 74; exact gives_by (HCC.out _))))
      refine wpQuiet_nil ?_
      intro _ hw'
      obtain ⟨q, rfl⟩ := hw'
      obtain ⟨wq, hwq⟩ : ∃ wq, wq = q.val := ⟨_, rfl⟩
      have HQ : Hid (Below w2.heap.size w2 wq) := Lib.hid (by rw [hwq]; exact below_next hb.out q.below)
      rw [← hwq]
      clear hwq z3 z3' q0 q1 q2 q3 q4 r0 r1 r2 r3 r4 HCC
      by_cases hcz : x.cmp y = 0
      · rw [hcz]
        have HJ2 := Lib.hid (HJ.out.trans (by exact thn_eq hcz))
        clear hcz
        go_wp2
        go_roundw
        case rel => exact ⟨j + 1, by omega, by go_num, HJ2, HQ⟩
        case measure => simp [intOf]; omega
      · have HJ2 := Lib.hid (HJ.out.trans (by exact thn_ne hcz))
        have g1 : (x.cmp y != 0) = true := by rw [bne_iff_ne]; exact hcz
        clear hcz
        generalize x.cmp y = z at *
        go_wp2
        go_ret
        exact ⟨by rw [HJ2.out]; rfl, below_next B2.out HQ.out⟩
    · obtain rfl : j = its.length := by omega
      have HJ2 := Lib.hid (HJ.out.trans (cmps_end (by omega)))
      have HCI := Lib.hid (cmpInt_any (its.length : Nat) (jts.length : Nat) wr)
      go_wp2_with fail
      refine (HCI.out).mono ?_
      rintro e w' ⟨rfl, rfl⟩
      go_wp2
      go_ret
      exact ⟨by rw [HJ2.out]; rfl, below_next B2.out hb.out⟩

set_option maxHeartbeats 4000000 in
set_option linter.unusedVariables false in
theorem cmpItems_4gt (m : Nat) (IH : Hid (CmpUpto m)) (i : Int) (t : ByteArray) (its : List VT) (ks : List ByteArray) (A : Option Addr) (c : Nat) (A' : Option Addr) (c' : Nat)
    (i' : Int) (t' : ByteArray) (jts : List VT) (ls : List ByteArray) (D : Option Addr) (e : Nat) (D' : Option Addr) (e' : Nat) (w : World)
    (hL : LiesL w (Lo w) A 0 its) (hM : LiesL w (Lo w) D 0 jts) (h1 : its.length ≤ c) (h2 : c ≤ 9223372036854775807) (h3 : jts.length ≤ e) (h4 : e ≤ 9223372036854775807)
    (hsz : sizes its ≤ m) (hw : alls okF its = true) (hw' : alls okF jts = true)  (hle : jts.length < its.length) :
    Calls Try.prog 97 #[vag 4 i t A its.length c A' ks.length c', vag 4 i' t' D jts.length e D' ls.length e'] w (Gives (.int .i64 (cmps false its ks jts ls)) w) := by
  have HL := Lib.hid hL
  have HM := Lib.hid hM
  have HWF := Lib.hid (And.intro hw hw')
  clear hL hM hw hw'
  obtain ⟨w2, hw2⟩ : ∃ w2, w2 = (w.alloc (.cells #[.int .i64 4, .int .i64 i, .string t, .slice A its.length c, .slice A' ks.length c'] 26)).alloc (.cells #[.int .i64 4, .int .i64 i', .string t', .slice D jts.length e, .slice D' ls.length e'] 26) := ⟨_, rfl⟩
  have B2 : Hid (Below w.heap.size w w2) := Lib.hid (by rw [hw2]; exact (below_one _ _).trans (Below.alloc (Below.refl _ _) (by simp) _))
  have S2 : Hid (w.heap.size + 1 < w2.heap.size) := Lib.hid (by rw [hw2]; simp)
  have X1 : Hid (∀ j, w2.cell? ⟨w.heap.size, j, none⟩ = (#[.int .i64 4, .int .i64 i, .string t, .slice A its.length c, .slice A' ks.length c'] : Array Value)[j]?) := Lib.hid (fun j => by
    rw [hw2, World.cell?_alloc_lt _ _ _ (by simp), World.cell?_alloc_at _ _ _ _ rfl])
  have X2 : Hid (∀ j, w2.cell? ⟨w.heap.size + 1, j, none⟩ = (#[.int .i64 4, .int .i64 i', .string t', .slice D jts.length e, .slice D' ls.length e'] : Array Value)[j]?) := Lib.hid (fun j => by
    rw [hw2, World.cell?_alloc_at _ _ _ _ (by simp)])
  have HW := Lib.hid hw2
  clear hw2
  unfold vag
  go_enter Try.func97, Try.ntmps97
  go_wp2
  rw [← HW.out]
  go_loopw [15, 5, 6, 7] (fun s _ _ _ wr => ∃ j : Nat, j ≤ jts.length ∧ s = .int .i64 j ∧ Hid (cmps false its ks jts ls = cmps false (its.drop j) (ks.drop j) (jts.drop j) (ls.drop j)) ∧ Hid (Below w2.heap.size w2 wr)) (fun s _ _ _ _ => jts.length - (intOf s).toNat)
  case atStart => exact ⟨0, by omega, rfl, Lib.hid rfl, Lib.hid (Below.refl _ _)⟩
  case round =>
    obtain ⟨j, hjn, rfl, HJ, hb⟩ := hrel
    have b3 := (hb.out.cell (p := ⟨w.heap.size, 3, none⟩) (by have := S2.out; show w.heap.size < _; omega)).trans (X1.out 3)
    have b3' := (hb.out.cell (p := ⟨w.heap.size + 1, 3, none⟩) S2.out).trans (X2.out 3)
    change _ = some (Value.slice A its.length c) at b3
    change _ = some (Value.slice D jts.length e) at b3'
    by_cases hlt : j < jts.length
    · have hot : j < its.length := by omega
      have b0 := (hb.out.cell (p := ⟨w.heap.size, 0, none⟩) (by have := S2.out; show w.heap.size < _; omega)).trans (X1.out 0)
      have h1 := List.getElem?_eq_getElem (l := its) (i := j) (by omega)
      have h2 := List.getElem?_eq_getElem (l := jts) (i := j) (by omega)
      have HB := Lib.hid (below_next B2.out hb.out)
      have hwx := all_at HWF.out.1 h1
      have hwy := all_at HWF.out.2 h2
      obtain ⟨g, o, k1, i1, t1, B, n1, c1, B', n2, c2, hA, hg, e0, e1, e2, e3, e4, hx⟩ := (HL.out).at_ h1
      obtain ⟨g', o', k3, i3, t3, E, n3, c3, E', n4, c4, hD, hg', d0, d1, d2, d3, d4, hy⟩ := (HM.out).at_ h2
      subst hA hD
      have hle2 : (its[j]'(by omega)).size ≤ m := Nat.le_trans (size_at h1) hsz
      have hdr := cmps_drop (M := false) (ks := ks) (ls := ls) h1 h2
      generalize its[j]'(by omega) = x at *
      generalize jts[j]'(by omega) = y at *
      have cc := fun (q : Nat) => HB.out.cell (p := ⟨g, q, none⟩) hg
      have cc' := fun (q : Nat) => HB.out.cell (p := ⟨g', q, none⟩) hg'
      rw [Nat.zero_add] at e0 e1 e2 e3 e4 d0 d1 d2 d3 d4
      rw [← cc] at e0 e1 e2 e3 e4
      rw [← cc'] at d0 d1 d2 d3 d4
      rw [hdr] at HJ
      have HY := Lib.hid (And.intro hx hy)
      have HSZ := Lib.hid hle2
      have HWX := Lib.hid (And.intro hwx hwy)
      clear hx hy hle2 hwx hwy cc cc' hdr h1 h2
      have HJ := Lib.hid (HJ.out.trans (thn_eq rfl))
      have z3 := BelowBy.cell b3
      have z3' := BelowBy.cell b3'
      have q0 := BelowBy.cell e0
      have q1 := BelowBy.cell e1
      have q2 := BelowBy.cell e2
      have q3 := BelowBy.cell e3
      have q4 := BelowBy.cell e4
      have r0 := BelowBy.cell d0
      have r1 := BelowBy.cell d1
      have r2 := BelowBy.cell d2
      have r3 := BelowBy.cell d3
      have r4 := BelowBy.cell d4
      have HCC : Hid (∀ q : BelowBy wr, Calls Try.prog 74 #[vag k1 i1 t1 B n1 c1 B' n2 c2, vag k3 i3 t3 E n3 c3 E' n4 c4] q.val (Gives (.int .i64 (x.cmp y)) q.val)) := Lib.hid (fun q =>
        IH.out x y q.val _ _ HSZ.out HWX.out.1 HWX.out.2 ((HY.out.1.below HB.out).below q.below) ((HY.out.2.below HB.out).below q.below))
      unfold vag at HCC
      clear b3 b3' e0 e1 e2 e3 e4 d0 d1 d2 d3 d4
      go_wp2_with fail
      refine wp_region_gives (by kernel_rfl) (by kernel_rfl) ?_
      repeat (quiet_step ((go_at_call 74; exact gives_by (HCC.out _))))
      refine wpQuiet_nil ?_
      intro _ hw'
      obtain ⟨q, rfl⟩ := hw'
      obtain ⟨wq, hwq⟩ : ∃ wq, wq = q.val := ⟨_, rfl⟩
      have HQ : Hid (Below w2.heap.size w2 wq) := Lib.hid (by rw [hwq]; exact below_next hb.out q.below)
      rw [← hwq]
      clear hwq z3 z3' q0 q1 q2 q3 q4 r0 r1 r2 r3 r4 HCC
      by_cases hcz : x.cmp y = 0
      · rw [hcz]
        have HJ2 := Lib.hid (HJ.out.trans (by exact thn_eq hcz))
        clear hcz
        go_wp2
        go_roundw
        case rel => exact ⟨j + 1, by omega, by go_num, HJ2, HQ⟩
        case measure => simp [intOf]; omega
      · have HJ2 := Lib.hid (HJ.out.trans (by exact thn_ne hcz))
        have g1 : (x.cmp y != 0) = true := by rw [bne_iff_ne]; exact hcz
        clear hcz
        generalize x.cmp y = z at *
        go_wp2
        go_ret
        exact ⟨by rw [HJ2.out]; rfl, below_next B2.out HQ.out⟩
    · obtain rfl : j = jts.length := by omega
      have HJ2 := Lib.hid (HJ.out.trans (cmps_end (by omega)))
      have HCI := Lib.hid (cmpInt_any (its.length : Nat) (jts.length : Nat) wr)
      go_wp2_with fail
      refine (HCI.out).mono ?_
      rintro e w' ⟨rfl, rfl⟩
      go_wp2
      go_ret
      exact ⟨by rw [HJ2.out]; rfl, below_next B2.out hb.out⟩

set_option maxHeartbeats 4000000 in
set_option linter.unusedVariables false in
theorem cmpItems_5le (m : Nat) (IH : Hid (CmpUpto m)) (i : Int) (t : ByteArray) (its : List VT) (ks : List ByteArray) (A : Option Addr) (c : Nat) (A' : Option Addr) (c' : Nat)
    (i' : Int) (t' : ByteArray) (jts : List VT) (ls : List ByteArray) (D : Option Addr) (e : Nat) (D' : Option Addr) (e' : Nat) (w : World)
    (hL : LiesL w (Lo w) A 0 its) (hM : LiesL w (Lo w) D 0 jts) (hS : LiesS w (Lo w) A' ks) (hT : LiesS w (Lo w) D' ls) (h1 : its.length ≤ c) (h2 : c ≤ 9223372036854775807) (h3 : jts.length ≤ e) (h4 : e ≤ 9223372036854775807)
    (hsz : sizes its ≤ m) (hw : alls okF its = true) (hw' : alls okF jts = true) (hk : ks.length = its.length) (hl : ls.length = jts.length) (hle : its.length ≤ jts.length) :
    Calls Try.prog 97 #[vag 5 i t A its.length c A' ks.length c', vag 5 i' t' D jts.length e D' ls.length e'] w (Gives (.int .i64 (cmps true its ks jts ls)) w) := by
  have HL := Lib.hid hL
  have HM := Lib.hid hM
  have HS := Lib.hid hS
  have HT := Lib.hid hT
  have HWF := Lib.hid (And.intro hw hw')
  clear hL hM hS hT hw hw'
  have HKL := Lib.hid (And.intro hk hl)
  clear hk hl
  obtain ⟨w2, hw2⟩ : ∃ w2, w2 = (w.alloc (.cells #[.int .i64 5, .int .i64 i, .string t, .slice A its.length c, .slice A' ks.length c'] 26)).alloc (.cells #[.int .i64 5, .int .i64 i', .string t', .slice D jts.length e, .slice D' ls.length e'] 26) := ⟨_, rfl⟩
  have B2 : Hid (Below w.heap.size w w2) := Lib.hid (by rw [hw2]; exact (below_one _ _).trans (Below.alloc (Below.refl _ _) (by simp) _))
  have S2 : Hid (w.heap.size + 1 < w2.heap.size) := Lib.hid (by rw [hw2]; simp)
  have X1 : Hid (∀ j, w2.cell? ⟨w.heap.size, j, none⟩ = (#[.int .i64 5, .int .i64 i, .string t, .slice A its.length c, .slice A' ks.length c'] : Array Value)[j]?) := Lib.hid (fun j => by
    rw [hw2, World.cell?_alloc_lt _ _ _ (by simp), World.cell?_alloc_at _ _ _ _ rfl])
  have X2 : Hid (∀ j, w2.cell? ⟨w.heap.size + 1, j, none⟩ = (#[.int .i64 5, .int .i64 i', .string t', .slice D jts.length e, .slice D' ls.length e'] : Array Value)[j]?) := Lib.hid (fun j => by
    rw [hw2, World.cell?_alloc_at _ _ _ _ (by simp)])
  have HW := Lib.hid hw2
  clear hw2
  unfold vag
  go_enter Try.func97, Try.ntmps97
  go_wp2
  rw [← HW.out]
  go_loopw [15, 5, 6, 7] (fun s _ _ _ wr => ∃ j : Nat, j ≤ its.length ∧ s = .int .i64 j ∧ Hid (cmps true its ks jts ls = cmps true (its.drop j) (ks.drop j) (jts.drop j) (ls.drop j)) ∧ Hid (Below w2.heap.size w2 wr)) (fun s _ _ _ _ => its.length - (intOf s).toNat)
  case atStart => exact ⟨0, by omega, rfl, Lib.hid rfl, Lib.hid (Below.refl _ _)⟩
  case round =>
    obtain ⟨j, hjn, rfl, HJ, hb⟩ := hrel
    have b3 := (hb.out.cell (p := ⟨w.heap.size, 3, none⟩) (by have := S2.out; show w.heap.size < _; omega)).trans (X1.out 3)
    have b3' := (hb.out.cell (p := ⟨w.heap.size + 1, 3, none⟩) S2.out).trans (X2.out 3)
    change _ = some (Value.slice A its.length c) at b3
    change _ = some (Value.slice D jts.length e) at b3'
    by_cases hlt : j < its.length
    · have hot : j < jts.length := by omega
      have b0 := (hb.out.cell (p := ⟨w.heap.size, 0, none⟩) (by have := S2.out; show w.heap.size < _; omega)).trans (X1.out 0)
      have h1 := List.getElem?_eq_getElem (l := its) (i := j) (by omega)
      have h2 := List.getElem?_eq_getElem (l := jts) (i := j) (by omega)
      have HB := Lib.hid (below_next B2.out hb.out)
      have hwx := all_at HWF.out.1 h1
      have hwy := all_at HWF.out.2 h2
      obtain ⟨g, o, k1, i1, t1, B, n1, c1, B', n2, c2, hA, hg, e0, e1, e2, e3, e4, hx⟩ := (HL.out).at_ h1
      obtain ⟨g', o', k3, i3, t3, E, n3, c3, E', n4, c4, hD, hg', d0, d1, d2, d3, d4, hy⟩ := (HM.out).at_ h2
      subst hA hD
      have hle2 : (its[j]'(by omega)).size ≤ m := Nat.le_trans (size_at h1) hsz
      have hdr := cmps_drop (M := true) (ks := ks) (ls := ls) h1 h2
      generalize its[j]'(by omega) = x at *
      generalize jts[j]'(by omega) = y at *
      have cc := fun (q : Nat) => HB.out.cell (p := ⟨g, q, none⟩) hg
      have cc' := fun (q : Nat) => HB.out.cell (p := ⟨g', q, none⟩) hg'
      rw [Nat.zero_add] at e0 e1 e2 e3 e4 d0 d1 d2 d3 d4
      rw [← cc] at e0 e1 e2 e3 e4
      rw [← cc'] at d0 d1 d2 d3 d4
      rw [hdr] at HJ
      have HY := Lib.hid (And.intro hx hy)
      have HSZ := Lib.hid hle2
      have HWX := Lib.hid (And.intro hwx hwy)
      clear hx hy hle2 hwx hwy cc cc' hdr h1 h2
      have hkj : ks[j]? = some (ks.getD j ByteArray.empty) := by rw [List.getD_eq_getElem?_getD, List.getElem?_eq_getElem (by have := HKL.out.1; omega)]; rfl
      have hlj : ls[j]? = some (ls.getD j ByteArray.empty) := by rw [List.getD_eq_getElem?_getD, List.getElem?_eq_getElem (by have := HKL.out.2; omega)]; rfl
      have hjk : j < ks.length := by have := HKL.out.1; omega
      have hjl : j < ls.length := by have := HKL.out.2; omega
      obtain ⟨_, gk, ok, hA', hgk, f0⟩ := HS.out j _ hkj
      obtain ⟨_, gl, ol, hD', hgl, f1⟩ := HT.out j _ hlj
      subst hA' hD'
      have b4 := (hb.out.cell (p := ⟨w.heap.size, 4, none⟩) (by have := S2.out; show w.heap.size < _; omega)).trans (X1.out 4)
      have b4' := (hb.out.cell (p := ⟨w.heap.size + 1, 4, none⟩) S2.out).trans (X2.out 4)
      change _ = some (Value.slice (some ⟨gk, ok, none⟩) ks.length c') at b4
      change _ = some (Value.slice (some ⟨gl, ol, none⟩) ls.length e') at b4'
      rw [← HB.out.cell (p := ⟨gk, ok + j, none⟩) hgk] at f0
      rw [← HB.out.cell (p := ⟨gl, ol + j, none⟩) hgl] at f1
      clear hkj hlj
      generalize ks.getD j ByteArray.empty = s1 at *
      generalize ls.getD j ByteArray.empty = s2 at *
      have HCS := Lib.hid (fun w' => cmpStr_any s1 s2 w')
      go_wp2_with fail
      go_quiet ((go_at_call 59; exact Calls.quiet_of_same ((HCS.out _).mono fun _ _ h => ⟨h.1, h.2.symm⟩)))
      by_cases hcs : cmpS s1 s2 = 0
      · rw [hcs]
        have HJ := Lib.hid (HJ.out.trans (thn_eq hcs))
        clear hcs
        obtain ⟨W, hW⟩ : ∃ W, W = wr.drewN nq := ⟨_, rfl⟩
        have HB2 : Hid (Below w2.heap.size w2 W) := Lib.hid (by rw [hW]; exact below_drew hb.out _)
        have HBW : Hid (Below w.heap.size w W) := Lib.hid (below_next B2.out HB2.out)
        have ec : ∀ p, W.cell? p = wr.cell? p := fun p => by rw [hW]; exact World.cell?_drewN _ _ _
        rw [← ec] at b3 b3' e0 e1 e2 e3 e4 d0 d1 d2 d3 d4
        rw [← hW]
        clear hW ec b0 b4 b4' f0 f1 HCS
        have z3 := BelowBy.cell b3
        have z3' := BelowBy.cell b3'
        have q0 := BelowBy.cell e0
        have q1 := BelowBy.cell e1
        have q2 := BelowBy.cell e2
        have q3 := BelowBy.cell e3
        have q4 := BelowBy.cell e4
        have r0 := BelowBy.cell d0
        have r1 := BelowBy.cell d1
        have r2 := BelowBy.cell d2
        have r3 := BelowBy.cell d3
        have r4 := BelowBy.cell d4
        have HCC : Hid (∀ q : BelowBy W, Calls Try.prog 74 #[vag k1 i1 t1 B n1 c1 B' n2 c2, vag k3 i3 t3 E n3 c3 E' n4 c4] q.val (Gives (.int .i64 (x.cmp y)) q.val)) := Lib.hid (fun q =>
          IH.out x y q.val _ _ HSZ.out HWX.out.1 HWX.out.2 ((HY.out.1.below HBW.out).below q.below) ((HY.out.2.below HBW.out).below q.below))
        unfold vag at HCC
        have HBW2 := Lib.hid HB2.out
        clear b3 b3' e0 e1 e2 e3 e4 d0 d1 d2 d3 d4
        go_wp2_with fail
        refine wp_region_gives (by kernel_rfl) (by kernel_rfl) ?_
        repeat (quiet_step ((go_at_call 74; exact gives_by (HCC.out _))))
        refine wpQuiet_nil ?_
        intro _ hw'
        obtain ⟨q, rfl⟩ := hw'
        obtain ⟨wq, hwq⟩ : ∃ wq, wq = q.val := ⟨_, rfl⟩
        have HQ : Hid (Below w2.heap.size w2 wq) := Lib.hid (by rw [hwq]; exact below_next HB2.out q.below)
        rw [← hwq]
        clear hwq z3 z3' q0 q1 q2 q3 q4 r0 r1 r2 r3 r4 HCC
        by_cases hcz : x.cmp y = 0
        · rw [hcz]
          have HJ2 := Lib.hid (HJ.out.trans (by exact thn_eq hcz))
          clear hcz
          go_wp2
          go_roundw
          case rel => exact ⟨j + 1, by omega, by go_num, HJ2, HQ⟩
          case measure => simp [intOf]; omega
        · have HJ2 := Lib.hid (HJ.out.trans (by exact thn_ne hcz))
          have g1 : (x.cmp y != 0) = true := by rw [bne_iff_ne]; exact hcz
          clear hcz
          generalize x.cmp y = z at *
          go_wp2
          go_ret
          exact ⟨by rw [HJ2.out]; rfl, below_next B2.out HQ.out⟩
      · have HJ := Lib.hid (HJ.out.trans (thn_ne hcs))
        have g1 : (cmpS s1 s2 != 0) = true := by rw [bne_iff_ne]; exact hcs
        clear hcs HCS
        generalize cmpS s1 s2 = z at *
        go_wp2
        go_ret
        exact ⟨by rw [HJ.out]; rfl, below_next B2.out (below_drew hb.out _)⟩
    · obtain rfl : j = its.length := by omega
      have HJ2 := Lib.hid (HJ.out.trans (cmps_end (by omega)))
      have HCI := Lib.hid (cmpInt_any (its.length : Nat) (jts.length : Nat) wr)
      go_wp2_with fail
      refine (HCI.out).mono ?_
      rintro e w' ⟨rfl, rfl⟩
      go_wp2
      go_ret
      exact ⟨by rw [HJ2.out]; rfl, below_next B2.out hb.out⟩

set_option maxHeartbeats 4000000 in
set_option linter.unusedVariables false in
theorem cmpItems_5gt (m : Nat) (IH : Hid (CmpUpto m)) (i : Int) (t : ByteArray) (its : List VT) (ks : List ByteArray) (A : Option Addr) (c : Nat) (A' : Option Addr) (c' : Nat)
    (i' : Int) (t' : ByteArray) (jts : List VT) (ls : List ByteArray) (D : Option Addr) (e : Nat) (D' : Option Addr) (e' : Nat) (w : World)
    (hL : LiesL w (Lo w) A 0 its) (hM : LiesL w (Lo w) D 0 jts) (hS : LiesS w (Lo w) A' ks) (hT : LiesS w (Lo w) D' ls) (h1 : its.length ≤ c) (h2 : c ≤ 9223372036854775807) (h3 : jts.length ≤ e) (h4 : e ≤ 9223372036854775807)
    (hsz : sizes its ≤ m) (hw : alls okF its = true) (hw' : alls okF jts = true) (hk : ks.length = its.length) (hl : ls.length = jts.length) (hle : jts.length < its.length) :
    Calls Try.prog 97 #[vag 5 i t A its.length c A' ks.length c', vag 5 i' t' D jts.length e D' ls.length e'] w (Gives (.int .i64 (cmps true its ks jts ls)) w) := by
  have HL := Lib.hid hL
  have HM := Lib.hid hM
  have HS := Lib.hid hS
  have HT := Lib.hid hT
  have HWF := Lib.hid (And.intro hw hw')
  clear hL hM hS hT hw hw'
  have HKL := Lib.hid (And.intro hk hl)
  clear hk hl
  obtain ⟨w2, hw2⟩ : ∃ w2, w2 = (w.alloc (.cells #[.int .i64 5, .int .i64 i, .string t, .slice A its.length c, .slice A' ks.length c'] 26)).alloc (.cells #[.int .i64 5, .int .i64 i', .string t', .slice D jts.length e, .slice D' ls.length e'] 26) := ⟨_, rfl⟩
  have B2 : Hid (Below w.heap.size w w2) := Lib.hid (by rw [hw2]; exact (below_one _ _).trans (Below.alloc (Below.refl _ _) (by simp) _))
  have S2 : Hid (w.heap.size + 1 < w2.heap.size) := Lib.hid (by rw [hw2]; simp)
  have X1 : Hid (∀ j, w2.cell? ⟨w.heap.size, j, none⟩ = (#[.int .i64 5, .int .i64 i, .string t, .slice A its.length c, .slice A' ks.length c'] : Array Value)[j]?) := Lib.hid (fun j => by
    rw [hw2, World.cell?_alloc_lt _ _ _ (by simp), World.cell?_alloc_at _ _ _ _ rfl])
  have X2 : Hid (∀ j, w2.cell? ⟨w.heap.size + 1, j, none⟩ = (#[.int .i64 5, .int .i64 i', .string t', .slice D jts.length e, .slice D' ls.length e'] : Array Value)[j]?) := Lib.hid (fun j => by
    rw [hw2, World.cell?_alloc_at _ _ _ _ (by simp)])
  have HW := Lib.hid hw2
  clear hw2
  unfold vag
  go_enter Try.func97, Try.ntmps97
  go_wp2
  rw [← HW.out]
  go_loopw [15, 5, 6, 7] (fun s _ _ _ wr => ∃ j : Nat, j ≤ jts.length ∧ s = .int .i64 j ∧ Hid (cmps true its ks jts ls = cmps true (its.drop j) (ks.drop j) (jts.drop j) (ls.drop j)) ∧ Hid (Below w2.heap.size w2 wr)) (fun s _ _ _ _ => jts.length - (intOf s).toNat)
  case atStart => exact ⟨0, by omega, rfl, Lib.hid rfl, Lib.hid (Below.refl _ _)⟩
  case round =>
    obtain ⟨j, hjn, rfl, HJ, hb⟩ := hrel
    have b3 := (hb.out.cell (p := ⟨w.heap.size, 3, none⟩) (by have := S2.out; show w.heap.size < _; omega)).trans (X1.out 3)
    have b3' := (hb.out.cell (p := ⟨w.heap.size + 1, 3, none⟩) S2.out).trans (X2.out 3)
    change _ = some (Value.slice A its.length c) at b3
    change _ = some (Value.slice D jts.length e) at b3'
    by_cases hlt : j < jts.length
    · have hot : j < its.length := by omega
      have b0 := (hb.out.cell (p := ⟨w.heap.size, 0, none⟩) (by have := S2.out; show w.heap.size < _; omega)).trans (X1.out 0)
      have h1 := List.getElem?_eq_getElem (l := its) (i := j) (by omega)
      have h2 := List.getElem?_eq_getElem (l := jts) (i := j) (by omega)
      have HB := Lib.hid (below_next B2.out hb.out)
      have hwx := all_at HWF.out.1 h1
      have hwy := all_at HWF.out.2 h2
      obtain ⟨g, o, k1, i1, t1, B, n1, c1, B', n2, c2, hA, hg, e0, e1, e2, e3, e4, hx⟩ := (HL.out).at_ h1
      obtain ⟨g', o', k3, i3, t3, E, n3, c3, E', n4, c4, hD, hg', d0, d1, d2, d3, d4, hy⟩ := (HM.out).at_ h2
      subst hA hD
      have hle2 : (its[j]'(by omega)).size ≤ m := Nat.le_trans (size_at h1) hsz
      have hdr := cmps_drop (M := true) (ks := ks) (ls := ls) h1 h2
      generalize its[j]'(by omega) = x at *
      generalize jts[j]'(by omega) = y at *
      have cc := fun (q : Nat) => HB.out.cell (p := ⟨g, q, none⟩) hg
      have cc' := fun (q : Nat) => HB.out.cell (p := ⟨g', q, none⟩) hg'
      rw [Nat.zero_add] at e0 e1 e2 e3 e4 d0 d1 d2 d3 d4
      rw [← cc] at e0 e1 e2 e3 e4
      rw [← cc'] at d0 d1 d2 d3 d4
      rw [hdr] at HJ
      have HY := Lib.hid (And.intro hx hy)
      have HSZ := Lib.hid hle2
      have HWX := Lib.hid (And.intro hwx hwy)
      clear hx hy hle2 hwx hwy cc cc' hdr h1 h2
      have hkj : ks[j]? = some (ks.getD j ByteArray.empty) := by rw [List.getD_eq_getElem?_getD, List.getElem?_eq_getElem (by have := HKL.out.1; omega)]; rfl
      have hlj : ls[j]? = some (ls.getD j ByteArray.empty) := by rw [List.getD_eq_getElem?_getD, List.getElem?_eq_getElem (by have := HKL.out.2; omega)]; rfl
      have hjk : j < ks.length := by have := HKL.out.1; omega
      have hjl : j < ls.length := by have := HKL.out.2; omega
      obtain ⟨_, gk, ok, hA', hgk, f0⟩ := HS.out j _ hkj
      obtain ⟨_, gl, ol, hD', hgl, f1⟩ := HT.out j _ hlj
      subst hA' hD'
      have b4 := (hb.out.cell (p := ⟨w.heap.size, 4, none⟩) (by have := S2.out; show w.heap.size < _; omega)).trans (X1.out 4)
      have b4' := (hb.out.cell (p := ⟨w.heap.size + 1, 4, none⟩) S2.out).trans (X2.out 4)
      change _ = some (Value.slice (some ⟨gk, ok, none⟩) ks.length c') at b4
      change _ = some (Value.slice (some ⟨gl, ol, none⟩) ls.length e') at b4'
      rw [← HB.out.cell (p := ⟨gk, ok + j, none⟩) hgk] at f0
      rw [← HB.out.cell (p := ⟨gl, ol + j, none⟩) hgl] at f1
      clear hkj hlj
      generalize ks.getD j ByteArray.empty = s1 at *
      generalize ls.getD j ByteArray.empty = s2 at *
      have HCS := Lib.hid (fun w' => cmpStr_any s1 s2 w')
      go_wp2_with fail
      go_quiet ((go_at_call 59; exact Calls.quiet_of_same ((HCS.out _).mono fun _ _ h => ⟨h.1, h.2.symm⟩)))
      by_cases hcs : cmpS s1 s2 = 0
      · rw [hcs]
        have HJ := Lib.hid (HJ.out.trans (thn_eq hcs))
        clear hcs
        obtain ⟨W, hW⟩ : ∃ W, W = wr.drewN nq := ⟨_, rfl⟩
        have HB2 : Hid (Below w2.heap.size w2 W) := Lib.hid (by rw [hW]; exact below_drew hb.out _)
        have HBW : Hid (Below w.heap.size w W) := Lib.hid (below_next B2.out HB2.out)
        have ec : ∀ p, W.cell? p = wr.cell? p := fun p => by rw [hW]; exact World.cell?_drewN _ _ _
        rw [← ec] at b3 b3' e0 e1 e2 e3 e4 d0 d1 d2 d3 d4
        rw [← hW]
        clear hW ec b0 b4 b4' f0 f1 HCS
        have z3 := BelowBy.cell b3
        have z3' := BelowBy.cell b3'
        have q0 := BelowBy.cell e0
        have q1 := BelowBy.cell e1
        have q2 := BelowBy.cell e2
        have q3 := BelowBy.cell e3
        have q4 := BelowBy.cell e4
        have r0 := BelowBy.cell d0
        have r1 := BelowBy.cell d1
        have r2 := BelowBy.cell d2
        have r3 := BelowBy.cell d3
        have r4 := BelowBy.cell d4
        have HCC : Hid (∀ q : BelowBy W, Calls Try.prog 74 #[vag k1 i1 t1 B n1 c1 B' n2 c2, vag k3 i3 t3 E n3 c3 E' n4 c4] q.val (Gives (.int .i64 (x.cmp y)) q.val)) := Lib.hid (fun q =>
          IH.out x y q.val _ _ HSZ.out HWX.out.1 HWX.out.2 ((HY.out.1.below HBW.out).below q.below) ((HY.out.2.below HBW.out).below q.below))
        unfold vag at HCC
        have HBW2 := Lib.hid HB2.out
        clear b3 b3' e0 e1 e2 e3 e4 d0 d1 d2 d3 d4
        go_wp2_with fail
        refine wp_region_gives (by kernel_rfl) (by kernel_rfl) ?_
        repeat (quiet_step ((go_at_call 74; exact gives_by (HCC.out _))))
        refine wpQuiet_nil ?_
        intro _ hw'
        obtain ⟨q, rfl⟩ := hw'
        obtain ⟨wq, hwq⟩ : ∃ wq, wq = q.val := ⟨_, rfl⟩
        have HQ : Hid (Below w2.heap.size w2 wq) := Lib.hid (by rw [hwq]; exact below_next HB2.out q.below)
        rw [← hwq]
        clear hwq z3 z3' q0 q1 q2 q3 q4 r0 r1 r2 r3 r4 HCC
        by_cases hcz : x.cmp y = 0
        · rw [hcz]
          have HJ2 := Lib.hid (HJ.out.trans (by exact thn_eq hcz))
          clear hcz
          go_wp2
          go_roundw
          case rel => exact ⟨j + 1, by omega, by go_num, HJ2, HQ⟩
          case measure => simp [intOf]; omega
        · have HJ2 := Lib.hid (HJ.out.trans (by exact thn_ne hcz))
          have g1 : (x.cmp y != 0) = true := by rw [bne_iff_ne]; exact hcz
          clear hcz
          generalize x.cmp y = z at *
          go_wp2
          go_ret
          exact ⟨by rw [HJ2.out]; rfl, below_next B2.out HQ.out⟩
      · have HJ := Lib.hid (HJ.out.trans (thn_ne hcs))
        have g1 : (cmpS s1 s2 != 0) = true := by rw [bne_iff_ne]; exact hcs
        clear hcs HCS
        generalize cmpS s1 s2 = z at *
        go_wp2
        go_ret
        exact ⟨by rw [HJ.out]; rfl, below_next B2.out (below_drew hb.out _)⟩
    · obtain rfl : j = jts.length := by omega
      have HJ2 := Lib.hid (HJ.out.trans (cmps_end (by omega)))
      have HCI := Lib.hid (cmpInt_any (its.length : Nat) (jts.length : Nat) wr)
      go_wp2_with fail
      refine (HCI.out).mono ?_
      rintro e w' ⟨rfl, rfl⟩
      go_wp2
      go_ret
      exact ⟨by rw [HJ2.out]; rfl, below_next B2.out hb.out⟩
end Go.Proofs.Ytidinbeanaifmaa
namespace Go.Proofs.Ytidinbeanaifmaa
open Go.RowKit

set_option maxHeartbeats 1000000 in
theorem eqFunc_of (m : Nat) (IH : Hid (∀ (x y : VT) (w : World) (v u : Value), x.size ≤ m → Lies w (Lo w) x v → Lies w (Lo w) y u → Calls Try.prog 32 #[v, u] w (Gives (.bool (eqB x y)) w)))
    (A : Option Addr) (c : Nat) (its : List VT) (A' : Option Addr) (c' : Nat) (jts : List VT) (w : World) (hL : LiesL w (Lo w) A 0 its) (hL' : LiesL w (Lo w) A' 0 jts) (hlc : its.length ≤ c) (hcm : c ≤ 9223372036854775807) (hsz : sizes its ≤ m) :
    Calls Try.prog 73 #[.slice A its.length c, .slice A' jts.length c', .func (.func 32) #[] #[]] w (Gives (.bool (eqB its jts)) w) := by
  have HL := Lib.hid hL
  have HL' := Lib.hid hL'
  clear hL hL'
  by_cases hlen : its.length = jts.length
  · have t0 : (((its.length : Nat) : Int) != ((jts.length : Nat) : Int)) = false := by rw [bne_eq_false_iff_eq]; omega
    have HLN := Lib.hid hlen
    clear hlen
    go_enter Try.func73, Try.ntmps73
    go_wp2_with fail
    go_loopw [17, 7, 8, 9] (fun t _ _ _ wr => ∃ j : Nat, j ≤ its.length ∧ t = .int .i64 j ∧ Hid (its.take j = jts.take j) ∧ Hid (Below w.heap.size w wr)) (fun t _ _ _ _ => its.length - (intOf t).toNat)
    case atStart => exact ⟨0, by omega, rfl, Lib.hid rfl, Lib.hid (Below.refl _ _)⟩
    case round =>
      obtain ⟨j, hjn, rfl, hr, hb⟩ := hrel
      by_cases hlt : j < its.length
      · have h1 := List.getElem?_eq_getElem (l := its) (i := j) hlt
        have h2 := List.getElem?_eq_getElem (l := jts) (i := j) (by have := HLN.out; omega)
        have hjl : j < jts.length := by have := HLN.out; omega
        obtain ⟨g, o, k', i', t', B, n', c1, B', n1, c2, rfl, hg, e0, e1, e2, e3, e4, hx⟩ := (HL.out).at_ h1
        obtain ⟨g', o', k'', i'', t'', D, n'', c3, D', n2, c4, rfl, hg', d0, d1, d2, d3, d4, hy⟩ := (HL'.out).at_ h2
        have hle := size_at h1
        have hyes := fun h => take_same h1 h2 hr.out h
        have hno := fun h => at_same h1 h2 h
        have cc := fun (q : Nat) => hb.out.cell (p := ⟨g, q, none⟩) hg
        have cc' := fun (q : Nat) => hb.out.cell (p := ⟨g', q, none⟩) hg'
        rw [Nat.zero_add] at e0 e1 e2 e3 e4 d0 d1 d2 d3 d4
        rw [← cc] at e0 e1 e2 e3 e4
        rw [← cc'] at d0 d1 d2 d3 d4
        generalize its[j]'hlt = x at *
        generalize jts[j]'(by have := HLN.out; omega) = y at *
        unfold vag at hx hy
        have hb1 : Below w.heap.size w ((wr.alloc (.cells #[.int .i64 k', .int .i64 i', .string t', .slice B n' c1, .slice B' n1 c2] 26)).alloc (.cells #[.int .i64 k'', .int .i64 i'', .string t'', .slice D n'' c3, .slice D' n2 c4] 26)) :=
          (hb.out.alloc hb.out.size _).alloc (by have := hb.out.size; simp; omega) _
        have hc := IH.out x y _ _ _ (by omega) (hx.below hb1) (hy.below hb1)
        have HC := Lib.hid hc
        have HY := Lib.hid hyes
        have HNN := Lib.hid hno
        have HB := Lib.hid hb1
        have dd := fun (q : Nat) => Below.cell (below_one wr (.cells #[.int .i64 k', .int .i64 i', .string t', .slice B n' c1, .slice B' n1 c2] 26)) (p := ⟨g', q, none⟩) (Nat.lt_of_lt_of_le hg' hb.out.size)
        rw [← dd] at d0 d1 d2 d3 d4
        clear hc hx hy cc cc' hyes hno hb1 h1 h2 dd
        go_wp2_with fail
        refine (HC.out).mono ?_
        rintro e w' ⟨rfl, hb2⟩
        have HB2 := Lib.hid (below_next HB.out hb2)
        clear hb2
        by_cases hxy : x = y
        · have HR := Lib.hid (HY.out hxy)
          rw [eqB_true hxy]
          clear hxy
          go_wp2
          go_roundw
          case rel => exact ⟨j + 1, by omega, by go_num, HR, HB2⟩
          case measure => simp [intOf]; omega
        · have HR := Lib.hid (eqB_false (HNN.out hxy))
          rw [eqB_false hxy]
          clear hxy
          go_wp2
          go_ret
          exact ⟨ret_bool HR.out.symm, HB2.out⟩
      · have HR : Hid (eqB its jts = true) := Lib.hid (eqB_true (by
          have := hr.out
          rwa [show j = its.length by omega, List.take_length, HLN.out, List.take_length] at this))
        go_wp2
        go_ret
        exact ⟨ret_bool HR.out.symm, hb.out⟩
  · have t0 : (((its.length : Nat) : Int) != ((jts.length : Nat) : Int)) = true := by rw [bne_iff_ne]; omega
    have HR := Lib.hid (eqB_false (fun e : its = jts => hlen (by rw [e])))
    clear hlen
    go_enter Try.func73, Try.ntmps73
    go_wp2_with fail
    go_ret
    exact ⟨ret_bool HR.out.symm, Below.refl _ _⟩

set_option maxHeartbeats 1000000 in
theorem valSame_all (m : Nat) : ∀ (x y : VT) (w : World) (v u : Value), x.size ≤ m → Lies w (Lo w) x v → Lies w (Lo w) y u → Calls Try.prog 32 #[v, u] w (Gives (.bool (eqB x y)) w) := by
  induction m with
  | zero => intro x _ _ _ _ h; have := size_pos x; omega
  | succ m ih =>
    intro x y w v u hsz hv hu
    have IH := Lib.hid ih
    clear ih
    obtain ⟨k, i, t, its, ks⟩ := x
    obtain ⟨k', i', t', jts, ls⟩ := y
    obtain ⟨A, c, A', c', rfl, _, _, _, h1, h2, hL, h3, h4, hS⟩ := hv.open
    obtain ⟨D, e, D', e', rfl, _, _, _, _, _, hM, _, _, hT⟩ := hu.open
    rw [VT.size_mk] at hsz
    obtain ⟨w2, hw2⟩ : ∃ w2, w2 = (w.alloc (.cells #[.int .i64 k, .int .i64 i, .string t, .slice A its.length c, .slice A' ks.length c'] 26)).alloc (.cells #[.int .i64 k', .int .i64 i', .string t', .slice D jts.length e, .slice D' ls.length e'] 26) := ⟨_, rfl⟩
    have B2 : Hid (Below w.heap.size w w2) := Lib.hid (by rw [hw2]; exact (below_one _ _).trans (Below.alloc (Below.refl _ _) (by simp) _))
    have S2 : Hid (w.heap.size + 1 < w2.heap.size) := Lib.hid (by rw [hw2]; simp)
    have X1 : Hid (∀ j, w2.cell? ⟨w.heap.size, j, none⟩ = (#[.int .i64 k, .int .i64 i, .string t, .slice A its.length c, .slice A' ks.length c'] : Array Value)[j]?) := Lib.hid (fun j => by
      rw [hw2, World.cell?_alloc_lt _ _ _ (by simp), World.cell?_alloc_at _ _ _ _ rfl])
    have X2 : Hid (∀ j, w2.cell? ⟨w.heap.size + 1, j, none⟩ = (#[.int .i64 k', .int .i64 i', .string t', .slice D jts.length e, .slice D' ls.length e'] : Array Value)[j]?) := Lib.hid (fun j => by
      rw [hw2, World.cell?_alloc_at _ _ _ _ (by simp)])
    have HK := Lib.hid (eqStrs_any A' c' ks D' e' ls w2 (hS.below B2.out) (hT.below B2.out) h3 h4)
    have HI := Lib.hid (fun (w3 : World) (hb : Below w.heap.size w w3) => eqFunc_of m IH A c its D e jts w3 (hL.below hb) (hM.below hb) h1 h2 (by omega))
    clear hv hu hL hM hS hT
    by_cases t1 : k = k'
    · by_cases t2 : i = i'
      · by_cases t3 : t = t'
        · subst t1 t2 t3
          unfold vag
          go_enter Try.func32, Try.ntmps32
          go_wp2_with fail
          rw [← hw2]
          have HW := Lib.hid hw2
          clear hw2
          refine (HK.out).mono ?_
          rintro x w3 ⟨rfl, hb⟩
          by_cases t4 : ks = ls
          · have T4 := Lib.hid t4
            rw [eqB_true t4]
            clear t4
            have HB := Lib.hid (below_next B2.out hb)
            have c1 := (hb.cell (p := ⟨w.heap.size, 3, none⟩) (by have := S2.out; show w.heap.size < _; omega)).trans (X1.out 3)
            have c2 := (hb.cell (p := ⟨w.heap.size + 1, 3, none⟩) S2.out).trans (X2.out 3)
            have HC := Lib.hid (HI.out w3 HB.out)
            clear hb
            go_wp2_with fail
            refine (HC.out).mono ?_
            rintro x w4 ⟨rfl, hb⟩
            have HB2 := Lib.hid (below_next HB.out hb)
            clear hb
            by_cases t5 : its = jts
            · have HR : Hid (eqB (VT.mk k i t its ks) (VT.mk k i t jts ls) = true) := Lib.hid (eqB_true (by rw [T4.out, t5]))
              rw [eqB_true t5]
              clear t5
              go_wp2
              go_ret
              exact ⟨ret_bool HR.out.symm, HB2.out⟩
            · have HR : Hid (eqB (VT.mk k i t its ks) (VT.mk k i t jts ls) = false) := Lib.hid (eqB_false (fun h => t5 (by injection h)))
              rw [eqB_false t5]
              clear t5
              go_wp2
              go_ret
              exact ⟨ret_bool HR.out.symm, HB2.out⟩
          · have HR : Hid (eqB (VT.mk k i t its ks) (VT.mk k i t jts ls) = false) := Lib.hid (eqB_false (fun h => t4 (by injection h)))
            rw [eqB_false t4]
            clear t4
            have HB := Lib.hid (below_next B2.out hb)
            clear hb
            go_wp2
            go_ret
            exact ⟨ret_bool HR.out.symm, HB.out⟩
        · subst t1 t2
          have f3 : (t.toList == t'.toList) = false := by rw [beq_eq_false_iff_ne]; exact fun e => t3 (str_inj e)
          have HR : Hid (eqB (VT.mk k i t its ks) (VT.mk k i t' jts ls) = false) := Lib.hid (eqB_false (fun h => t3 (by injection h)))
          have HW := Lib.hid hw2
          clear t3 hw2
          unfold vag
          go_enter Try.func32, Try.ntmps32
          go_wp2
          go_ret
          exact ⟨ret_bool HR.out.symm, by rw [← HW.out]; exact B2.out⟩
      · subst t1
        have f2 : (i != i') = true := by rw [bne_iff_ne]; exact t2
        have HR : Hid (eqB (VT.mk k i t its ks) (VT.mk k i' t' jts ls) = false) := Lib.hid (eqB_false (fun h => t2 (by injection h)))
        have HW := Lib.hid hw2
        clear t2 hw2
        unfold vag
        go_enter Try.func32, Try.ntmps32
        go_wp2
        go_ret
        exact ⟨ret_bool HR.out.symm, by rw [← HW.out]; exact B2.out⟩
    · have f1 : (k != k') = true := by rw [bne_iff_ne]; exact t1
      have HR : Hid (eqB (VT.mk k i t its ks) (VT.mk k' i' t' jts ls) = false) := Lib.hid (eqB_false (fun h => t1 (by injection h)))
      have HW := Lib.hid hw2
      clear t1 hw2
      unfold vag
      go_enter Try.func32, Try.ntmps32
      go_wp2
      go_ret
      exact ⟨ret_bool HR.out.symm, by rw [← HW.out]; exact B2.out⟩
end Go.Proofs.Ytidinbeanaifmaa
namespace Go.Proofs.Ytidinbeanaifmaa
open Go.RowKit

def RSameUpto (m : Nat) : Prop := ∀ (x y : VT) (w : World) (v u : Value), x.size ≤ m → Lies w (Lo w) x v → Lies w (Lo w) y u → Calls Try.prog 15 #[v, u] w (Gives (.bool (eqB x y)) w)

set_option maxRecDepth 100000 in
set_option maxHeartbeats 8000000 in
set_option linter.unusedVariables false in
theorem refSame_loop (m : Nat) (IH : Hid (RSameUpto m)) (k i : Int) (t : ByteArray) (its : List VT) (ks : List ByteArray) (A : Option Addr) (c : Nat) (A' : Option Addr) (c' : Nat) (jts : List VT) (ls : List ByteArray) (D : Option Addr) (e : Nat) (D' : Option Addr) (e' : Nat) (w : World)
    (hL : LiesL w (Lo w) A 0 its) (hM : LiesL w (Lo w) D 0 jts) (hS : LiesS w (Lo w) A' ks) (hT : LiesS w (Lo w) D' ls) (h1 : its.length ≤ c) (h2 : c ≤ 9223372036854775807) (h5 : ks.length ≤ c') (h6 : c' ≤ 9223372036854775807)
    (hsz : sizes its ≤ m) (hlen : its.length = jts.length) (hkl : ks.length = ls.length) :
    Calls Try.prog 15 #[vag k i t A its.length c A' ks.length c', vag k i t D jts.length e D' ls.length e'] w (Gives (.bool (eqB (VT.mk k i t its ks) (VT.mk k i t jts ls))) w) := by
  have HL := Lib.hid hL
  have HM := Lib.hid hM
  have HS := Lib.hid hS
  have HT := Lib.hid hT
  obtain ⟨n, hn⟩ : ∃ n, n = its.length := ⟨_, rfl⟩
  obtain ⟨nk, hnk⟩ : ∃ nk, nk = ks.length := ⟨_, rfl⟩
  have HN := Lib.hid (And.intro hn (hn.trans hlen))
  have HK := Lib.hid (And.intro hnk (hnk.trans hkl))
  obtain ⟨w2, hw2⟩ : ∃ w2, w2 = (w.alloc (.cells #[.int .i64 k, .int .i64 i, .string t, .slice A n c, .slice A' nk c'] 26)).alloc (.cells #[.int .i64 k, .int .i64 i, .string t, .slice D n e, .slice D' nk e'] 26) := ⟨_, rfl⟩
  have B2 : Hid (Below w.heap.size w w2) := Lib.hid (by rw [hw2]; exact (below_one _ _).trans (Below.alloc (Below.refl _ _) (by simp) _))
  have S2 : Hid (w.heap.size + 1 < w2.heap.size) := Lib.hid (by rw [hw2]; simp)
  have X1 : Hid (∀ j, w2.cell? ⟨w.heap.size, j, none⟩ = (#[.int .i64 k, .int .i64 i, .string t, .slice A n c, .slice A' nk c'] : Array Value)[j]?) := Lib.hid (fun j => by
    rw [hw2, World.cell?_alloc_lt _ _ _ (by simp), World.cell?_alloc_at _ _ _ _ rfl])
  have X2 : Hid (∀ j, w2.cell? ⟨w.heap.size + 1, j, none⟩ = (#[.int .i64 k, .int .i64 i, .string t, .slice D n e, .slice D' nk e'] : Array Value)[j]?) := Lib.hid (fun j => by
    rw [hw2, World.cell?_alloc_at _ _ _ _ (by simp)])
  have EY : Hid (ks = ls → its = jts → eqB (VT.mk k i t its ks) (VT.mk k i t jts ls) = true) := Lib.hid (fun h h' => eqB_true (by rw [h, h']))
  have E1 : Hid (ks ≠ ls → eqB (VT.mk k i t its ks) (VT.mk k i t jts ls) = false) := Lib.hid (fun h => eqB_false (fun q => h (by injection q)))
  have E2 : Hid (its ≠ jts → eqB (VT.mk k i t its ks) (VT.mk k i t jts ls) = false) := Lib.hid (fun h => eqB_false (fun q => h (by injection q)))
  have HW := Lib.hid hw2
  rw [← hnk, ← hn, ← HN.out.2, ← HK.out.2]
  rw [← hn] at h1
  rw [← hnk] at h5
  clear hL hM hS hT hw2 hn hnk hlen hkl
  unfold vag
  go_enter Try.func15, Try.ntmps15
  go_wp2
  rw [← HW.out]
  go_loopw [5] (fun s wr => ∃ j : Nat, j ≤ nk ∧ s = .int .i64 j ∧ Hid (ks.take j = ls.take j) ∧ Hid (Below w2.heap.size w2 wr)) (fun s _ => nk - (intOf s).toNat)
  case atStart => exact ⟨0, by omega, rfl, Lib.hid rfl, Lib.hid (Below.refl _ _)⟩
  case round =>
    obtain ⟨j, hjn, rfl, hr, hb⟩ := hrel
    have b4 := (hb.out.cell (p := ⟨w.heap.size, 4, none⟩) (by have := S2.out; show w.heap.size < _; omega)).trans (X1.out 4)
    have b4' := (hb.out.cell (p := ⟨w.heap.size + 1, 4, none⟩) S2.out).trans (X2.out 4)
    change _ = some (Value.slice A' nk c') at b4
    change _ = some (Value.slice D' nk e') at b4'
    by_cases hlt : j < nk
    · have hj1 : j < ks.length := by have := HK.out.1; omega
      have hj2 : j < ls.length := by have := HK.out.2; omega
      have g1 : ks[j]? = some (ks.getD j ByteArray.empty) := by rw [List.getD_eq_getElem?_getD, List.getElem?_eq_getElem hj1]; rfl
      have g2 : ls[j]? = some (ls.getD j ByteArray.empty) := by rw [List.getD_eq_getElem?_getD, List.getElem?_eq_getElem hj2]; rfl
      obtain ⟨_, g, o, rfl, hg, f0⟩ := HS.out j _ g1
      obtain ⟨_, g', o', rfl, hg', f1⟩ := HT.out j _ g2
      have HB := Lib.hid (below_next B2.out hb.out)
      rw [← HB.out.cell (p := ⟨g, o + j, none⟩) hg] at f0
      rw [← HB.out.cell (p := ⟨g', o' + j, none⟩) hg'] at f1
      have hy := fun h => take_same g1 g2 hr.out h
      have hno := fun h => at_same g1 g2 h
      generalize ks.getD j ByteArray.empty = s at *
      generalize ls.getD j ByteArray.empty = s' at *
      have HY := Lib.hid hy
      have HNN := Lib.hid hno
      clear hy hno g1 g2
      by_cases hst : s = s'
      · have HR := Lib.hid (HY.out hst)
        subst hst
        go_wp2_with fail
        go_quiet (fail)
        have HB2 := Lib.hid (below_drew hb.out nq)
        go_wp2
        go_roundw
        case rel => exact ⟨j + 1, by omega, by go_num, HR, HB2⟩
        case measure => simp [intOf]; omega
      · have HR := Lib.hid (E1.out (HNN.out hst))
        have t1 : (s.toList == s'.toList) = false := by rw [beq_eq_false_iff_ne]; exact fun q => hst (str_inj q)
        clear hst
        go_wp2_with fail
        go_quiet (fail)
        go_wp2
        go_ret
        exact ⟨ret_bool HR.out.symm, below_next B2.out (below_drew hb.out nq)⟩
    · obtain rfl : j = nk := by omega
      have HKS : Hid (ks = ls) := Lib.hid (by
        have := hr.out
        rwa [HK.out.1, List.take_length, ← HK.out.1, HK.out.2, List.take_length] at this)
      go_wp2
      obtain ⟨w6, hw6⟩ : ∃ w6, w6 = wr := ⟨_, rfl⟩
      have HB6 : Hid (Below w2.heap.size w2 w6) := Lib.hid (by rw [hw6]; exact hb.out)
      rw [← hw6]
      clear b4 b4'
      clear hw6 hb hr
      go_loopw [6] (fun s wr => ∃ j : Nat, j ≤ n ∧ s = .int .i64 j ∧ Hid (its.take j = jts.take j) ∧ Hid (Below w2.heap.size w2 wr)) (fun s _ => n - (intOf s).toNat)
      case atStart => exact ⟨0, by omega, rfl, Lib.hid rfl, HB6⟩
      case round =>
        obtain ⟨j, hjn, rfl, hr, hb⟩ := hrel
        have b3 := (hb.out.cell (p := ⟨w.heap.size, 3, none⟩) (by have := S2.out; show w.heap.size < _; omega)).trans (X1.out 3)
        have b3' := (hb.out.cell (p := ⟨w.heap.size + 1, 3, none⟩) S2.out).trans (X2.out 3)
        change _ = some (Value.slice A n c) at b3
        change _ = some (Value.slice D n e) at b3'
        by_cases hlt : j < n
        · have g1 := List.getElem?_eq_getElem (l := its) (i := j) (by have := HN.out.1; omega)
          have g2 := List.getElem?_eq_getElem (l := jts) (i := j) (by have := HN.out.2; omega)
          obtain ⟨g, o, k1, i1, t1, B, n1, c1, B', n2, c2, rfl, hg, e0, e1, e2, e3, e4, hx⟩ := (HL.out).at_ g1
          obtain ⟨g', o', k3, i3, t3, E, n3, c3, E', n4, c4, rfl, hg', d0, d1, d2, d3, d4, hy⟩ := (HM.out).at_ g2
          have hle := size_at g1
          have HB := Lib.hid (below_next B2.out hb.out)
          have hyes := fun h => take_same g1 g2 hr.out h
          have hno := fun h => at_same g1 g2 h
          generalize its[j]'(by have := HN.out.1; omega) = x at *
          generalize jts[j]'(by have := HN.out.2; omega) = y at *
          have cc := fun (q : Nat) => HB.out.cell (p := ⟨g, q, none⟩) hg
          have cc' := fun (q : Nat) => HB.out.cell (p := ⟨g', q, none⟩) hg'
          rw [Nat.zero_add] at e0 e1 e2 e3 e4 d0 d1 d2 d3 d4
          rw [← cc] at e0 e1 e2 e3 e4
          rw [← cc'] at d0 d1 d2 d3 d4
          have HCC : Hid (∀ q : BelowBy wr, Calls Try.prog 15 #[vag k1 i1 t1 B n1 c1 B' n2 c2, vag k3 i3 t3 E n3 c3 E' n4 c4] q.val (Gives (.bool (eqB x y)) q.val)) := Lib.hid (fun q =>
            IH.out x y q.val _ _ (by omega) ((hx.below HB.out).below q.below) ((hy.below HB.out).below q.below))
          unfold vag at HCC
          have HY := Lib.hid hyes
          have HNN := Lib.hid hno
          have z3 := BelowBy.cell b3
          have z3' := BelowBy.cell b3'
          have q0 := BelowBy.cell e0
          have q1 := BelowBy.cell e1
          have q2 := BelowBy.cell e2
          have q3 := BelowBy.cell e3
          have q4 := BelowBy.cell e4
          have r0 := BelowBy.cell d0
          have r1 := BelowBy.cell d1
          have r2 := BelowBy.cell d2
          have r3 := BelowBy.cell d3
          have r4 := BelowBy.cell d4
          clear hx hy cc cc' hyes hno g1 g2 hle e0 e1 e2 e3 e4 d0 d1 d2 d3 d4
          go_wp2_with fail
          refine wp_region_gives (by kernel_rfl) (by kernel_rfl) ?_
          repeat (quiet_step ((go_at_call 15; exact gives_by (HCC.out _))))
          refine wpQuiet_nil ?_
          intro _ hw'
          obtain ⟨q, rfl⟩ := hw'
          obtain ⟨wq, hwq⟩ : ∃ wq, wq = q.val := ⟨_, rfl⟩
          have HQ : Hid (Below w2.heap.size w2 wq) := Lib.hid (by rw [hwq]; exact below_next hb.out q.below)
          rw [← hwq]
          clear hwq z3 z3' q0 q1 q2 q3 q4 r0 r1 r2 r3 r4 HCC b3 b3'
          by_cases hxy : x = y
          · have HR := Lib.hid (HY.out hxy)
            rw [eqB_true hxy]
            clear hxy
            go_wp2
            go_roundw
            case rel => exact ⟨j + 1, by omega, by go_num, HR, HQ⟩
            case measure => simp [intOf]; omega
          · have HR := Lib.hid (E2.out (HNN.out hxy))
            rw [eqB_false hxy]
            clear hxy
            go_wp2
            go_ret
            exact ⟨ret_bool HR.out.symm, below_next B2.out HQ.out⟩
        · have HR := Lib.hid (EY.out HKS.out (by
            have := hr.out
            rwa [show j = n by omega, HN.out.1, List.take_length, ← HN.out.1, HN.out.2, List.take_length] at this))
          go_wp2
          go_ret
          exact ⟨ret_bool HR.out.symm, below_next B2.out hb.out⟩

set_option maxRecDepth 100000 in
set_option maxHeartbeats 4000000 in
theorem refSame_all (m : Nat) : RSameUpto m := by
  induction m with
  | zero => intro x _ _ _ _ h; have := size_pos x; omega
  | succ m ih =>
    intro x y w v u hsz hv hu
    have IH := Lib.hid ih
    clear ih
    obtain ⟨k, i, t, its, ks⟩ := x
    obtain ⟨k', i', t', jts, ls⟩ := y
    obtain ⟨A, c, A', c', rfl, _, _, _, h1, h2, hL, h3, h4, hS⟩ := hv.open
    obtain ⟨D, e, D', e', rfl, _, _, _, _, _, hM, _, _, hT⟩ := hu.open
    rw [VT.size_mk] at hsz
    have BB : Hid (∀ (o o' : Obj), Below w.heap.size w ((w.alloc o).alloc o')) := Lib.hid (fun o o' => (below_one _ _).trans (Below.alloc (Below.refl _ _) (by simp) _))
    by_cases q1 : k = k'
    · subst q1
      by_cases q2 : i = i'
      · subst q2
        by_cases q3 : t = t'
        · subst q3
          by_cases q4 : its.length = jts.length
          · by_cases q5 : ks.length = ls.length
            · exact refSame_loop m IH k i t its ks A c A' c' jts ls D e D' e' w hL hM hS hT h1 h2 h3 h4 (by omega) q4 q5
            · have HR : Hid (eqB (VT.mk k i t its ks) (VT.mk k i t jts ls) = false) := Lib.hid (eqB_false (fun q => q5 (by injection q; simp [*])))
              have f4 : (((its.length : Nat) : Int) != ((jts.length : Nat) : Int)) = false := by rw [bne_eq_false_iff_eq]; omega
              have f5 : (((ks.length : Nat) : Int) != ((ls.length : Nat) : Int)) = true := by rw [bne_iff_ne]; omega
              clear hv hu hL hM hS hT q4 q5
              unfold vag
              go_enter Try.func15, Try.ntmps15
              go_wp2
              go_ret
              exact ⟨ret_bool HR.out.symm, BB.out _ _⟩
          · have HR : Hid (eqB (VT.mk k i t its ks) (VT.mk k i t jts ls) = false) := Lib.hid (eqB_false (fun q => q4 (by injection q; simp [*])))
            have f4 : (((its.length : Nat) : Int) != ((jts.length : Nat) : Int)) = true := by rw [bne_iff_ne]; omega
            clear hv hu hL hM hS hT q4
            unfold vag
            go_enter Try.func15, Try.ntmps15
            go_wp2
            go_ret
            exact ⟨ret_bool HR.out.symm, BB.out _ _⟩
        · have HR : Hid (eqB (VT.mk k i t its ks) (VT.mk k i t' jts ls) = false) := Lib.hid (eqB_false (fun q => q3 (by injection q)))
          have f3 : (t.toList == t'.toList) = false := by rw [beq_eq_false_iff_ne]; exact fun q => q3 (str_inj q)
          clear hv hu hL hM hS hT q3
          unfold vag
          go_enter Try.func15, Try.ntmps15
          go_wp2
          go_ret
          exact ⟨ret_bool HR.out.symm, BB.out _ _⟩
      · have HR : Hid (eqB (VT.mk k i t its ks) (VT.mk k i' t' jts ls) = false) := Lib.hid (eqB_false (fun q => q2 (by injection q)))
        have f2 : (i != i') = true := by rw [bne_iff_ne]; exact q2
        clear hv hu hL hM hS hT q2
        unfold vag
        go_enter Try.func15, Try.ntmps15
        go_wp2
        go_ret
        exact ⟨ret_bool HR.out.symm, BB.out _ _⟩
    · have HR : Hid (eqB (VT.mk k i t its ks) (VT.mk k' i' t' jts ls) = false) := Lib.hid (eqB_false (fun q => q1 (by injection q)))
      have f1 : (k != k') = true := by rw [bne_iff_ne]; exact q1
      clear hv hu hL hM hS hT q1
      unfold vag
      go_enter Try.func15, Try.ntmps15
      go_wp2
      go_ret
      exact ⟨ret_bool HR.out.symm, BB.out _ _⟩
theorem refSame_any {x y : VT} {v u : Value} {w : World} (h : Lies w (Lo w) x v) (h' : Lies w (Lo w) y u) : Calls Try.prog 15 #[v, u] w (Gives (.bool (eqB x y)) w) := refSame_all x.size x y w v u (Nat.le_refl _) h h'
end Go.Proofs.Ytidinbeanaifmaa
namespace Go.Proofs.Ytidinbeanaifmaa
open Go.RowKit

theorem rising_lt {ks : List ByteArray} (h : rising ks = true) : ∀ {j i : Nat}, i < j → j < ks.length → less (ks.getD i ByteArray.empty) (ks.getD j ByteArray.empty) = true := by
  have step : ∀ i, i + 1 < ks.length → less (ks.getD i ByteArray.empty) (ks.getD (i + 1) ByteArray.empty) = true := fun i hi => by
    unfold rising risingTo at h
    rw [List.all_eq_true] at h
    exact h i (List.mem_range.2 (by omega))
  intro j
  induction j with
  | zero => intro i h; omega
  | succ j ih =>
    intro i hij hj
    by_cases h1 : i = j
    · subst h1; exact step i hj
    · exact bl_trans _ _ _ (ih (by omega) (by omega)) (step j hj)
/-- where a key stands, or would stand -/
def Pos (ks : List ByteArray) (t : ByteArray) (p : Nat) : Prop := p ≤ ks.length ∧ (∀ q, q < p → less (ks.getD q ByteArray.empty) t = true) ∧ (∀ q, p ≤ q → q < ks.length → less (ks.getD q ByteArray.empty) t = false)
/-- is it there -/
def isAt (ks : List ByteArray) (t : ByteArray) (p : Nat) : Bool := decide (p < ks.length) && decide (ks.getD p ByteArray.empty = t)

set_option maxHeartbeats 400000 in
theorem lessStr_any (a b : ByteArray) (w : World) : Calls Try.prog 99 #[.string a, .string b] w (Says (.bool (less a b)) w) := by
  unfold less
  generalize hl : Op.bytesLess a.toList b.toList = r
  go_enter Try.func99, Try.ntmps99
  go_wp2
  go_ret
  exact ⟨rfl, rfl⟩
theorem isNaN_any (a : ByteArray) (w : World) : Calls Try.prog 100 #[.string a] w (Says (.bool false) w) := by
  go_enter Try.func100, Try.ntmps100
  go_wp2
  go_ret
  exact ⟨rfl, rfl⟩

set_option maxRecDepth 100000 in
set_option maxHeartbeats 2000000 in
theorem search_any (A : Option Addr) (c : Nat) (ks : List ByteArray) (t : ByteArray) (w : World) (hS : LiesS w (Lo w) A ks) (hn2 : ks.length ≤ 4611686018427387904) (hr : rising ks = true) :
    Calls Try.prog 78 #[.slice A ks.length c, .string t] w fun e w' => ∃ p, Pos ks t p ∧ e = .returned (.tuple #[.int .i64 (p : Nat), .bool (isAt ks t p)]) ∧ w = w' := by
  have HS := Lib.hid hS
  have HR := Lib.hid (fun (j i : Nat) (h : i < j) (h' : j < ks.length) => rising_lt hr h h')
  clear hS hr
  obtain ⟨n, hn⟩ : ∃ n, n = ks.length := ⟨_, rfl⟩
  rw [← hn] at hn2 ⊢
  have HN := Lib.hid hn
  clear hn
  go_enter Try.func78, Try.ntmps78
  go_wp2
  go_loopw [7, 8, 9] (fun x y _ wr => w = wr ∧ ∃ i j : Nat, x = .int .i64 i ∧ y = .int .i64 j ∧ i ≤ j ∧ j ≤ n ∧ Hid (∀ q, q < i → less (ks.getD q ByteArray.empty) t = true) ∧ Hid (∀ q, j ≤ q → q < n → less (ks.getD q ByteArray.empty) t = false)) (fun x y _ _ => (intOf y).toNat - (intOf x).toNat)
  case atStart => exact ⟨rfl, 0, n, rfl, rfl, by omega, by omega, Lib.hid (fun q h => by omega), Lib.hid (fun q h h' => by omega)⟩
  case round =>
    obtain ⟨rfl, i, j, rfl, rfl, hij, hjn, HL, HG⟩ := hrel
    by_cases hlt : i < j
    · have hh : (i + j) / 2 < n := by omega
      have hi2 : i ≤ (i + j) / 2 := by omega
      have hj2 : (i + j) / 2 < j := by omega
      obtain ⟨hks, g, o, rfl, hg, k0⟩ := HS.out.at_ (j := (i + j) / 2) (by rw [← HN.out]; exact hh)
      have HLT := Lib.hid (fun (h : less (ks.getD ((i + j) / 2) ByteArray.empty) t = true) (q : Nat) (hq : q < (i + j) / 2 + 1) => (by
        by_cases h1 : q = (i + j) / 2
        · subst h1; exact h
        · exact bl_trans _ _ _ (HR.out ((i + j) / 2) q (by omega) (by rw [← HN.out]; exact hh)) h : less (ks.getD q ByteArray.empty) t = true))
      have HGT := Lib.hid (fun (h : less (ks.getD ((i + j) / 2) ByteArray.empty) t = false) (q : Nat) (h1 : (i + j) / 2 ≤ q) (h2 : q < n) => (by
        by_cases h3 : q = (i + j) / 2
        · subst h3; exact h
        · cases h4 : less (ks.getD q ByteArray.empty) t with
          | false => rfl
          | true => rw [← h]; exact (bl_trans _ _ _ (HR.out q ((i + j) / 2) (by omega) (by rw [← HN.out]; exact h2)) h4).symm : less (ks.getD q ByteArray.empty) t = false))
      generalize ks.getD ((i + j) / 2) ByteArray.empty = s at *
      have HC := Lib.hid (lessStr_any s t w)
      cases hl : less s t with
      | true =>
        have HQ := Lib.hid (HLT.out hl)
        have HLL := Lib.hid hl
        clear hl
        go_wp2_with fail
        refine (HC.out).mono ?_
        rw [HLL.out]
        rintro e w' ⟨rfl, rfl⟩
        go_wp2
        go_roundw
        case rel => exact ⟨trivial, (i + j) / 2 + 1, j, by go_num, rfl, by omega, by omega, HQ, HG⟩
        case measure => simp [intOf]; omega
      | false =>
        have HQ := Lib.hid (HGT.out hl)
        have HLL := Lib.hid hl
        clear hl
        go_wp2_with fail
        refine (HC.out).mono ?_
        rw [HLL.out]
        rintro e w' ⟨rfl, rfl⟩
        go_wp2
        go_roundw
        case rel => exact ⟨trivial, i, (i + j) / 2, rfl, by go_num, by omega, by omega, HL, HQ⟩
        case measure => simp [intOf]; omega
    · obtain rfl : i = j := by omega
      have HP : Hid (Pos ks t i) := Lib.hid ⟨by rw [← HN.out]; exact hjn, HL.out, fun q h1 h2 => HG.out q h1 (by rw [HN.out]; exact h2)⟩
      by_cases hin : i < n
      · obtain ⟨hks, g, o, rfl, hg, k0⟩ := HS.out.at_ (j := i) (by rw [← HN.out]; exact hin)
        have t1 : decide ((i : Int) < (n : Int)) = true := decide_eq_true (by omega)
        have HY := Lib.hid (fun (h : ks.getD i ByteArray.empty = t) => (by unfold isAt; rw [decide_eq_true (by rw [← HN.out]; exact hin), decide_eq_true h]; rfl : isAt ks t i = true))
        have HX := Lib.hid (fun (h : ks.getD i ByteArray.empty ≠ t) => (by unfold isAt; rw [decide_eq_false h, Bool.and_false] : isAt ks t i = false))
        generalize ks.getD i ByteArray.empty = s at *
        have HC := Lib.hid (isNaN_any s w)
        by_cases hst : s = t
        · have HE := Lib.hid (HY.out hst)
          subst hst
          go_wp2_with fail
          go_ret2
          exact ⟨i, HP.out, by rw [HE.out]; rfl, rfl⟩
        · have HE := Lib.hid (HX.out hst)
          have t2 : (s.toList == t.toList) = false := by rw [beq_eq_false_iff_ne]; exact fun e => hst (str_inj e)
          clear hst
          go_wp2_with fail
          refine (HC.out).mono ?_
          rintro e w' ⟨rfl, rfl⟩
          go_wp2
          go_ret2
          exact ⟨i, HP.out, by rw [HE.out]; rfl, rfl⟩
      · have t1 : decide ((i : Int) < (n : Int)) = false := decide_eq_false (by omega)
        have HE : Hid (isAt ks t i = false) := Lib.hid (by unfold isAt; rw [decide_eq_false (by rw [← HN.out]; exact hin)]; rfl)
        go_wp2
        go_ret2
        exact ⟨i, HP.out, by rw [HE.out]; rfl, rfl⟩
end Go.Proofs.Ytidinbeanaifmaa
namespace Go.Proofs.Ytidinbeanaifmaa
open Go.RowKit

def isMapT (x : VT) : Bool := decide (x.k = 5) && x.wf

set_option maxHeartbeats 1000000 in
theorem isMap_any {x : VT} {v : Value} {w : World} (h : Lies w (Lo w) x v) : Calls Try.prog 77 #[v] w (Gives (.bool (isMapT x)) w) := by
  have hc := wf_any (h.below (below_one w (.cells v.cells 26)))
  obtain ⟨k, i, t, its, ks⟩ := x
  obtain ⟨A, c, A', c', rfl, _, _, _, _, _, _, _, _, _⟩ := h.open
  by_cases hk : k = 5
  · subst hk
    have e : isMapT (.mk 5 i t its ks) = (VT.mk 5 i t its ks).wf := by unfold isMapT VT.k; simp
    rw [e]
    generalize (VT.mk 5 i t its ks).wf = b at *
    unfold vag Value.cells at hc
    unfold vag
    have HC := Lib.hid hc
    clear hc h e
    go_enter Try.func77, Try.ntmps77
    go_wp2_with fail
    refine (HC.out).mono ?_
    rintro e w' ⟨rfl, hb⟩
    have HB := Lib.hid (below_via (Below.refl _ _) hb)
    clear hb
    go_wp2
    go_ret
    exact ⟨rfl, HB.out⟩
  · have e : isMapT (.mk k i t its ks) = false := by unfold isMapT VT.k; rw [decide_eq_false hk]; rfl
    rw [e]
    have f1 : (k == 5) = false := by rw [beq_eq_false_iff_ne]; exact hk
    clear hc h e hk
    unfold vag
    go_enter Try.func77, Try.ntmps77
    go_wp2
    go_ret
    exact ⟨rfl, below_one _ _⟩

def GetSpec (x : VT) (key : ByteArray) (y : VT) (b : Bool) : Prop :=
  (isMapT x = false ∧ y = nullT ∧ b = false) ∨ (isMapT x = true ∧ ∃ p, Pos x.ks key p ∧ b = isAt x.ks key p ∧ (b = true → x.its[p]? = some y) ∧ (b = false → y = nullT))
/-- a value of the call's own and a bool -/
def MakesB (x : VT) (r : Bool) (w : World) (e : Ending) (w' : World) : Prop := ∃ v, e = .returned (.tuple #[v, .bool r]) ∧ Ownd w' w.heap.size x v ∧ Below w.heap.size w w'
theorem map_wf {i : Int} {t : ByteArray} {its : List VT} {ks : List ByteArray} (h : (VT.mk 5 i t its ks).wf = true) : ks.length = its.length ∧ rising ks = true ∧ alls okF its = true := by
  unfold VT.wf at h
  rw [VT.all_mk, okF_5, Bool.and_eq_true, Bool.and_eq_true, Bool.and_eq_true, Bool.and_eq_true, decide_eq_true_eq, decide_eq_true_eq, decide_eq_true_eq] at h
  exact ⟨h.1.2.2.1, h.1.2.2.2, h.2⟩

set_option maxRecDepth 100000 in
set_option maxHeartbeats 4000000 in
theorem Get_any {x : VT} {v : Value} {w : World} (key : ByteArray) (h : Lies w (Lo w) x v) (hr : x.all reachF = true) :
    Calls Try.prog 40 #[v, .string key] w fun e w' => ∃ y b, GetSpec x key y b ∧ MakesB y b w e w' := by
  have HT := Lib.hid (fun (w' : World) (hb : Below w.heap.size w w') => isMap_any (h.below hb))
  obtain ⟨k, i, t, its, ks⟩ := x
  obtain ⟨A, c, A', c', rfl, _, _, _, hlc, hcm, hL, hkc, hcm', hS⟩ := h.open
  obtain ⟨r1, r2, r3⟩ := reach_mk hr
  have HL := Lib.hid hL
  have HS := Lib.hid hS
  have HRE := Lib.hid (And.intro r1 (And.intro r2 r3))
  obtain ⟨w2, hw2⟩ : ∃ w2, w2 = (w.alloc (.cells #[.int .i64 k, .int .i64 i, .string t, .slice A its.length c, .slice A' ks.length c'] 26)).alloc (.cells #[.int .i64 0, .int .i64 0, .string ⟨#[]⟩, .slice none 0 0, .slice none 0 0] 26) := ⟨_, rfl⟩
  have B2 : Hid (Below w.heap.size w w2) := Lib.hid (by rw [hw2]; exact (below_one _ _).trans (Below.alloc (Below.refl _ _) (by simp) _))
  have P2 : Hid (Bk w2 w.heap.size 26 #[.int .i64 k, .int .i64 i, .string t, .slice A its.length c, .slice A' ks.length c']) := Lib.hid (by rw [hw2]; exact (Bk.new _ _ _).alloc _)
  have Q2 : Hid (Bk w2 (w.heap.size + 1) 26 #[.int .i64 0, .int .i64 0, .string ⟨#[]⟩, .slice none 0 0, .slice none 0 0]) := Lib.hid (by rw [hw2]; have := Bk.new (w.alloc (.cells #[.int .i64 k, .int .i64 i, .string t, .slice A its.length c, .slice A' ks.length c'] 26)) 26 #[.int .i64 0, .int .i64 0, .string ⟨#[]⟩, .slice none 0 0, .slice none 0 0]; simpa using this)
  have HW := Lib.hid hw2
  have H1 := Lib.hid (HT.out w2 B2.out)
  have SN : Hid (isMapT (.mk k i t its ks) = false → GetSpec (.mk k i t its ks) key nullT false) := Lib.hid (fun h => Or.inl ⟨h, rfl, rfl⟩)
  have SY : Hid (isMapT (.mk k i t its ks) = true → k = 5 ∧ ks.length = its.length ∧ rising ks = true) := Lib.hid (fun h => by
    unfold isMapT VT.k at h
    rw [Bool.and_eq_true, decide_eq_true_eq] at h
    obtain ⟨rfl, h⟩ := h
    exact ⟨rfl, (map_wf h).1, (map_wf h).2.1⟩)
  have SG : Hid (isMapT (.mk k i t its ks) = true → ∀ p y, Pos ks key p → (isAt ks key p = true → its[p]? = some y) → (isAt ks key p = false → y = nullT) → GetSpec (.mk k i t its ks) key y (isAt ks key p)) :=
    Lib.hid (fun h p y h1 h2 h3 => Or.inr ⟨h, p, h1, rfl, h2, h3⟩)
  clear h hw2 hr hL hS r1 r2 r3
  generalize isMapT (.mk k i t its ks) = b at *
  generalize VT.mk k i t its ks = x at *
  have e0 := P2.out.cell 0
  unfold vag at *
  go_enter Try.func40, Try.ntmps40
  go_wp2_with fail
  rw [← HW.out]
  refine (H1.out).mono ?_
  rintro e w3 ⟨rfl, hb⟩
  have P3 := Lib.hid (P2.out.below hb P2.out.lt)
  have Q3 := Lib.hid (Q2.out.below hb Q2.out.lt)
  have B3 := Lib.hid (below_next B2.out hb)
  clear hb e0
  cases b with
  | false =>
    have G := Lib.hid (SN.out rfl)
    clear SN SY SG
    go_wp2_with fail
    refine (Null_any w3).mono ?_
    unfold zeroV
    rintro e w4 ⟨rfl, hb⟩
    have Q4 := Lib.hid (Q3.out.below hb Q3.out.lt)
    have B4 := Lib.hid (below_next B3.out hb)
    clear hb
    have q0 := Q4.out.cell 0
    have q1 := Q4.out.cell 1
    have q2 := Q4.out.cell 2
    have q3 := Q4.out.cell 3
    have q4 := Q4.out.cell 4
    have f0 := Q4.out.frozen 0
    have f1 := Q4.out.frozen 1
    have f2 := Q4.out.frozen 2
    have f3 := Q4.out.frozen 3
    have f4 := Q4.out.frozen 4
    go_wp2
    obtain ⟨wf, hwf⟩ : ∃ wf, wf = ((((w4.setCell ⟨w.heap.size + 1, 0, none⟩ (.int .i64 0)).setCell ⟨w.heap.size + 1, 1, none⟩ (.int .i64 0)).setCell ⟨w.heap.size + 1, 2, none⟩ (.string ⟨#[]⟩)).setCell ⟨w.heap.size + 1, 3, none⟩ (.slice none 0 0)).setCell ⟨w.heap.size + 1, 4, none⟩ (.slice none 0 0) := ⟨_, rfl⟩
    have QF : Hid (Bk wf (w.heap.size + 1) 26 #[.int .i64 0, .int .i64 0, .string ⟨#[]⟩, .slice none 0 0, .slice none 0 0]) := Lib.hid (by rw [hwf]; exact ((((Q4.out.put 0 _).put 1 _).put 2 _).put 3 _).put 4 _)
    have BF : Hid (Below w.heap.size w wf) := Lib.hid (by
      rw [hwf]
      exact ((((B4.out.setCell (p := ⟨w.heap.size + 1, 0, none⟩) (by show w.heap.size ≤ w.heap.size + 1; omega) _).setCell (p := ⟨w.heap.size + 1, 1, none⟩) (by show w.heap.size ≤ w.heap.size + 1; omega) _).setCell (p := ⟨w.heap.size + 1, 2, none⟩) (by show w.heap.size ≤ w.heap.size + 1; omega) _).setCell (p := ⟨w.heap.size + 1, 3, none⟩) (by show w.heap.size ≤ w.heap.size + 1; omega) _).setCell (p := ⟨w.heap.size + 1, 4, none⟩) (by show w.heap.size ≤ w.heap.size + 1; omega) _)
    rw [← hwf]
    refine bodyPost_ret (results_row2 rfl _ _ (w.heap.size + 1) 26 _ (0, 0) _ rfl QF.out Try.underlying26 rfl (by kernel_rfl)) rfl ?_
    exact ⟨nullT, false, G.out, _, rfl, zero_ownd _ _, BF.out⟩
  | true =>
    obtain ⟨hk5, hkl, hri⟩ := SY.out rfl
    have G := Lib.hid (SG.out rfl)
    have HSR := Lib.hid (search_any A' c' ks key w3 (HS.out.below B3.out) (by have := HRE.out.2.1; omega) hri)
    have HKL := Lib.hid hkl
    have p4 := P3.out.cell 4
    change _ = some (Value.slice A' ks.length c') at p4
    clear SN SY SG hk5 hkl hri
    go_wp2_with fail
    refine (HSR.out).mono ?_
    rintro e w' ⟨p, hpos, rfl, rfl⟩
    have HPS := Lib.hid hpos
    clear hpos p4
    cases ha : isAt ks key p with
    | false =>
      have G2 := Lib.hid (G.out p nullT HPS.out (fun h => by rw [ha] at h; cases h) (fun _ => rfl))
      rw [ha] at G2
      clear ha G
      have G := G2
      go_wp2_with fail
      refine (Null_any w3).mono ?_
      unfold zeroV
      rintro e w4 ⟨rfl, hb⟩
      have Q4 := Lib.hid (Q3.out.below hb Q3.out.lt)
      have B4 := Lib.hid (below_next B3.out hb)
      clear hb
      have q0 := Q4.out.cell 0
      have q1 := Q4.out.cell 1
      have q2 := Q4.out.cell 2
      have q3 := Q4.out.cell 3
      have q4 := Q4.out.cell 4
      have f0 := Q4.out.frozen 0
      have f1 := Q4.out.frozen 1
      have f2 := Q4.out.frozen 2
      have f3 := Q4.out.frozen 3
      have f4 := Q4.out.frozen 4
      go_wp2
      obtain ⟨wf, hwf⟩ : ∃ wf, wf = ((((w4.setCell ⟨w.heap.size + 1, 0, none⟩ (.int .i64 0)).setCell ⟨w.heap.size + 1, 1, none⟩ (.int .i64 0)).setCell ⟨w.heap.size + 1, 2, none⟩ (.string ⟨#[]⟩)).setCell ⟨w.heap.size + 1, 3, none⟩ (.slice none 0 0)).setCell ⟨w.heap.size + 1, 4, none⟩ (.slice none 0 0) := ⟨_, rfl⟩
      have QF : Hid (Bk wf (w.heap.size + 1) 26 #[.int .i64 0, .int .i64 0, .string ⟨#[]⟩, .slice none 0 0, .slice none 0 0]) := Lib.hid (by rw [hwf]; exact ((((Q4.out.put 0 _).put 1 _).put 2 _).put 3 _).put 4 _)
      have BF : Hid (Below w.heap.size w wf) := Lib.hid (by
        rw [hwf]
        exact ((((B4.out.setCell (p := ⟨w.heap.size + 1, 0, none⟩) (by show w.heap.size ≤ w.heap.size + 1; omega) _).setCell (p := ⟨w.heap.size + 1, 1, none⟩) (by show w.heap.size ≤ w.heap.size + 1; omega) _).setCell (p := ⟨w.heap.size + 1, 2, none⟩) (by show w.heap.size ≤ w.heap.size + 1; omega) _).setCell (p := ⟨w.heap.size + 1, 3, none⟩) (by show w.heap.size ≤ w.heap.size + 1; omega) _).setCell (p := ⟨w.heap.size + 1, 4, none⟩) (by show w.heap.size ≤ w.heap.size + 1; omega) _)
      rw [← hwf]
      refine bodyPost_ret (results_row2 rfl _ _ (w.heap.size + 1) 26 _ (0, 0) _ rfl QF.out Try.underlying26 rfl (by kernel_rfl)) rfl ?_
      exact ⟨nullT, false, G.out, _, rfl, zero_ownd _ _, BF.out⟩
    | true =>
      have hpn : p < ks.length := by
        unfold isAt at ha
        rw [Bool.and_eq_true, decide_eq_true_eq] at ha
        exact ha.1
      have hpi : p < its.length := by have := HKL.out; omega
      have h1 := List.getElem?_eq_getElem (l := its) (i := p) hpi
      obtain ⟨g, o, k', i', t', B, n', c1, B', n1, c2, rfl, hg, e0, e1, e2, e3, e4, hx⟩ := (HL.out).at_ h1
      have hrx := all_at HRE.out.2.2 h1
      have G2 := Lib.hid (G.out p (its[p]'hpi) HPS.out (fun _ => h1) (fun h => by rw [ha] at h; cases h))
      rw [ha] at G2
      generalize its[p]'hpi = y at *
      rw [Nat.zero_add] at e0 e1 e2 e3 e4
      have cc := fun (q : Nat) => B3.out.cell (p := ⟨g, q, none⟩) hg
      rw [← cc] at e0 e1 e2 e3 e4
      have HCP := Lib.hid (Copy_any (hx.below B3.out) hrx)
      unfold vag at HCP
      have p3 := P3.out.cell 3
      change _ = some (Value.slice (some ⟨g, o, none⟩) its.length c) at p3
      clear ha G cc hx hrx h1
      go_wp2_with fail
      refine (HCP.out).mono ?_
      rintro e w4 ⟨v, rfl, hov, hb⟩
      have Q4 := Lib.hid (Q3.out.below hb Q3.out.lt)
      have B4 := Lib.hid (below_next B3.out hb)
      obtain ⟨k2, i2, t2, D, n3, c3, D', n4, c4, rfl⟩ := hov.form
      have OV := Lib.hid hov
      have LT3 := Lib.hid Q3.out.lt
      have q0 := Q4.out.cell 0
      have q1 := Q4.out.cell 1
      have q2 := Q4.out.cell 2
      have q3 := Q4.out.cell 3
      have q4 := Q4.out.cell 4
      have f0 := Q4.out.frozen 0
      have f1 := Q4.out.frozen 1
      have f2 := Q4.out.frozen 2
      have f3 := Q4.out.frozen 3
      have f4 := Q4.out.frozen 4
      clear hb hov e0 e1 e2 e3 e4 p3
      go_wp2
      obtain ⟨wf, hwf⟩ : ∃ wf, wf = ((((w4.setCell ⟨w.heap.size + 1, 0, none⟩ (.int .i64 k2)).setCell ⟨w.heap.size + 1, 1, none⟩ (.int .i64 i2)).setCell ⟨w.heap.size + 1, 2, none⟩ (.string t2)).setCell ⟨w.heap.size + 1, 3, none⟩ (.slice D n3 c3)).setCell ⟨w.heap.size + 1, 4, none⟩ (.slice D' n4 c4) := ⟨_, rfl⟩
      have QF : Hid (Bk wf (w.heap.size + 1) 26 #[.int .i64 k2, .int .i64 i2, .string t2, .slice D n3 c3, .slice D' n4 c4]) := Lib.hid (by rw [hwf]; exact ((((Q4.out.put 0 _).put 1 _).put 2 _).put 3 _).put 4 _)
      have SF : Hid (∀ b, b ≠ w.heap.size + 1 → wf.heap[b]? = w4.heap[b]?) := Lib.hid (fun b hb => by
        rw [hwf]; exact ((((Below.heap_setCell _ _ _ _ hb).trans (Below.heap_setCell _ _ _ _ hb)).trans (Below.heap_setCell _ _ _ _ hb)).trans (Below.heap_setCell _ _ _ _ hb)).trans (Below.heap_setCell _ _ _ _ hb))
      have BF : Hid (Below w.heap.size w wf) := Lib.hid (by
        rw [hwf]
        exact ((((B4.out.setCell (p := ⟨w.heap.size + 1, 0, none⟩) (by show w.heap.size ≤ w.heap.size + 1; omega) _).setCell (p := ⟨w.heap.size + 1, 1, none⟩) (by show w.heap.size ≤ w.heap.size + 1; omega) _).setCell (p := ⟨w.heap.size + 1, 2, none⟩) (by show w.heap.size ≤ w.heap.size + 1; omega) _).setCell (p := ⟨w.heap.size + 1, 3, none⟩) (by show w.heap.size ≤ w.heap.size + 1; omega) _).setCell (p := ⟨w.heap.size + 1, 4, none⟩) (by show w.heap.size ≤ w.heap.size + 1; omega) _)
      rw [← hwf]
      refine bodyPost_ret (results_row2 rfl _ _ (w.heap.size + 1) 26 _ (0, 0) _ rfl QF.out Try.underlying26 rfl (by kernel_rfl)) rfl ?_
      exact ⟨_, _, G2.out, _, rfl, (OV.out.keep (fun b h1 _ => SF.out b (by have := LT3.out; omega))).mono (by have := LT3.out; omega), BF.out⟩

set_option maxRecDepth 100000 in
set_option maxHeartbeats 1000000 in
theorem List_any {A : Option Addr} {c : Nat} {its : List VT} {w : World} (hL : LiesL w (Lo w) A 0 its) (hc : its.length ≤ c) (hm : c ≤ 9223372036854775807) (hr : its.length * 80 ≤ 140737488355328) (hr2 : alls reachF its = true) :
    Calls Try.prog 16 #[.slice A its.length c] w (Copies (.mk 4 0 ⟨#[]⟩ its []) w) := by
  have hl : Lies w (Lo w) (.mk 4 0 ⟨#[]⟩ its []) (.agg #[.int .i64 4, .int .i64 0, .string ⟨#[]⟩, .slice A its.length c, .slice none 0 0]) := by
    rw [Lies]
    exact ⟨A, c, none, 0, rfl, by omega, by omega, by decide, hc, hm, hL, Nat.le_refl _, by omega, LiesS.none_⟩
  have hrr : (VT.mk 4 0 ⟨#[]⟩ its []).all reachF = true := by
    rw [VT.all_mk, hr2, Bool.and_true]
    unfold reachF VT.its VT.ks
    rw [Bool.and_eq_true, decide_eq_true_eq, decide_eq_true_eq]
    exact ⟨hr, by simp⟩
  obtain ⟨w1, hw1⟩ : ∃ w1, w1 = w.alloc (.cells #[.int .i64 0, .int .i64 0, .string ⟨#[]⟩, .slice none 0 0, .slice none 0 0] 26) := ⟨_, rfl⟩
  have B1 : Hid (Below w.heap.size w w1) := Lib.hid (by rw [hw1]; exact below_one _ _)
  have Q1 : Hid (Bk w1 w.heap.size 26 #[.int .i64 0, .int .i64 0, .string ⟨#[]⟩, .slice none 0 0, .slice none 0 0]) := Lib.hid (by rw [hw1]; exact Bk.new _ _ _)
  have HC := Lib.hid (Copy_any (hl.below B1.out) hrr)
  have HW1 := Lib.hid hw1
  clear hw1 hl hrr hL hr hr2
  go_enter Try.func16, Try.ntmps16
  go_wp2_with fail
  rw [← HW1.out]
  refine (HC.out).mono ?_
  rintro e w4 ⟨v, rfl, hov, hb⟩
  have Q4 := Lib.hid (Q1.out.below hb Q1.out.lt)
  have B4 := Lib.hid (below_next B1.out hb)
  obtain ⟨k2, i2, t2, D, n3, c3, D', n4, c4, rfl⟩ := hov.form
  have OV := Lib.hid hov
  have LT3 := Lib.hid Q1.out.lt
  have q0 := Q4.out.cell 0
  have q1 := Q4.out.cell 1
  have q2 := Q4.out.cell 2
  have q3 := Q4.out.cell 3
  have q4 := Q4.out.cell 4
  have f0 := Q4.out.frozen 0
  have f1 := Q4.out.frozen 1
  have f2 := Q4.out.frozen 2
  have f3 := Q4.out.frozen 3
  have f4 := Q4.out.frozen 4
  clear hb hov
  go_wp2
  obtain ⟨wf, hwf⟩ : ∃ wf, wf = ((((w4.setCell ⟨w.heap.size, 0, none⟩ (.int .i64 k2)).setCell ⟨w.heap.size, 1, none⟩ (.int .i64 i2)).setCell ⟨w.heap.size, 2, none⟩ (.string t2)).setCell ⟨w.heap.size, 3, none⟩ (.slice D n3 c3)).setCell ⟨w.heap.size, 4, none⟩ (.slice D' n4 c4) := ⟨_, rfl⟩
  have QF : Hid (Bk wf w.heap.size 26 #[.int .i64 k2, .int .i64 i2, .string t2, .slice D n3 c3, .slice D' n4 c4]) := Lib.hid (by rw [hwf]; exact ((((Q4.out.put 0 _).put 1 _).put 2 _).put 3 _).put 4 _)
  have SF : Hid (∀ b, b ≠ w.heap.size → wf.heap[b]? = w4.heap[b]?) := Lib.hid (fun b hb => by
    rw [hwf]; exact ((((Below.heap_setCell _ _ _ _ hb).trans (Below.heap_setCell _ _ _ _ hb)).trans (Below.heap_setCell _ _ _ _ hb)).trans (Below.heap_setCell _ _ _ _ hb)).trans (Below.heap_setCell _ _ _ _ hb))
  have BF : Hid (Below w.heap.size w wf) := Lib.hid (by
    rw [hwf]
    exact ((((B4.out.setCell (p := ⟨w.heap.size, 0, none⟩) (Nat.le_refl _) _).setCell (p := ⟨w.heap.size, 1, none⟩) (Nat.le_refl _) _).setCell (p := ⟨w.heap.size, 2, none⟩) (Nat.le_refl _) _).setCell (p := ⟨w.heap.size, 3, none⟩) (Nat.le_refl _) _).setCell (p := ⟨w.heap.size, 4, none⟩) (Nat.le_refl _) _)
  rw [← hwf]
  refine bodyPost_ret (results_cell_row rfl _ _ w.heap.size 26 _ (0, 0) _ rfl QF.out Try.underlying26 rfl (by kernel_rfl)) rfl ?_
  exact ⟨_, rfl, (OV.out.keep (fun b h1 _ => SF.out b (by have := LT3.out; omega))).mono (by have := LT3.out; omega), BF.out⟩
end Go.Proofs.Ytidinbeanaifmaa
namespace Go.Proofs.Ytidinbeanaifmaa
open Go.RowKit

theorem thn_r0 (c : Int) : thn c 0 = c := by unfold thn; split <;> omega
theorem size0 {a b : ByteArray} (h : a.size = 0) (k : b.size = 0) : a = b := by
  cases a with | mk a => cases b with | mk b =>
  have h1 : a = #[] := Array.eq_empty_of_size_eq_zero h
  have h2 : b = #[] := Array.eq_empty_of_size_eq_zero k
  rw [h1, h2]
theorem len0 {α : Type} {l : List α} (h : l.length = 0) : l = [] := List.eq_nil_of_length_eq_zero h

section
variable {k k' i i' : Int} {t t' : ByteArray} {its jts : List VT} {ks ls : List ByteArray}
theorem wf_kind (h : okF (.mk k i t its ks) = true) : 0 ≤ k ∧ k ≤ 6 := by
  by_cases hk : 0 ≤ k ∧ k ≤ 6
  · exact hk
  · unfold okF VT.k at h
    simp only [show ¬ k = 0 from by omega, show ¬ k = 1 from by omega, show ¬ k = 2 from by omega, show ¬ k = 3 from by omega, show ¬ k = 4 from by omega, show ¬ k = 5 from by omega, show ¬ k = 6 from by omega, if_false] at h
    cases h
theorem wf_int (h : okF (.mk k i t its ks) = true) (hk : k = 0 ∨ k = 1 ∨ k = 2 ∨ k = 6) : t.size = 0 ∧ its = [] := by
  rcases hk with rfl | rfl | rfl | rfl
  · rw [okF_0] at h; simp only [Bool.and_eq_true, decide_eq_true_eq] at h; exact ⟨h.2.1, len0 h.2.2.1⟩
  · rw [okF_1] at h; simp only [Bool.and_eq_true, decide_eq_true_eq] at h; exact ⟨h.2.1, len0 h.2.2.1⟩
  · rw [okF_2] at h; simp only [Bool.and_eq_true, decide_eq_true_eq] at h; exact ⟨h.1, len0 h.2.1⟩
  · rw [okF_6] at h; simp only [Bool.and_eq_true, decide_eq_true_eq] at h; exact ⟨h.2.1, len0 h.2.2.1⟩
theorem wf_text (h : okF (.mk 3 i t its ks) = true) : i = 0 ∧ its = [] := by
  rw [okF_3] at h; simp only [Bool.and_eq_true, decide_eq_true_eq] at h; exact ⟨h.1, len0 h.2.1⟩
theorem wf_list (h : okF (.mk 4 i t its ks) = true) : i = 0 ∧ t.size = 0 := by
  rw [okF_4] at h; simp only [Bool.and_eq_true, decide_eq_true_eq] at h; exact ⟨h.1, h.2.1⟩
theorem wf_map (h : okF (.mk 5 i t its ks) = true) : i = 0 ∧ t.size = 0 ∧ ks.length = its.length := by
  rw [okF_5] at h; simp only [Bool.and_eq_true, decide_eq_true_eq] at h; exact ⟨h.1, h.2.1, h.2.2.1⟩
theorem cmp_ne (h : k ≠ k') : (VT.mk k i t its ks).cmp (.mk k' i' t' jts ls) = cmpI k k' := by
  rw [VT.cmp_mk]; exact thn_ne (fun e => h (cmpI_zero.1 e))
theorem cmp_int (hx : t.size = 0 ∧ its = []) (hy : t'.size = 0 ∧ jts = []) : (VT.mk k i t its ks).cmp (.mk k i' t' jts ls) = cmpI i i' := by
  rw [VT.cmp_mk]
  simp only [VT.k, VT.i, VT.t, VT.its, VT.ks]
  rw [hx.2, hy.2, cmps_nil, thn_eq (cmpI_zero.2 rfl), thn_eq (c := cmpS t t') (cmpS_zero.2 (size0 hx.1 hy.1))]
  exact thn_r0 _
theorem cmp_text (hx : i = 0 ∧ its = []) (hy : i' = 0 ∧ jts = []) : (VT.mk k i t its ks).cmp (.mk k i' t' jts ls) = cmpS t t' := by
  rw [VT.cmp_mk]
  simp only [VT.k, VT.i, VT.t, VT.its, VT.ks]
  rw [hx.2, hy.2, hx.1, hy.1, cmps_nil, thn_eq (cmpI_zero.2 rfl), thn_eq (cmpI_zero.2 rfl)]
  exact thn_r0 _
theorem cmp_row (hx : i = 0 ∧ t.size = 0) (hy : i' = 0 ∧ t'.size = 0) : (VT.mk k i t its ks).cmp (.mk k i' t' jts ls) = cmps (decide (k = 5)) its ks jts ls := by
  rw [VT.cmp_mk]
  simp only [VT.k, VT.i, VT.t, VT.its, VT.ks]
  rw [hx.1, hy.1, thn_eq (cmpI_zero.2 rfl), thn_eq (cmpI_zero.2 rfl), thn_eq (c := cmpS t t') (cmpS_zero.2 (size0 hx.2 hy.2))]
end

set_option maxHeartbeats 4000000 in
theorem valCmp_all (m : Nat) : CmpUpto m := by
  induction m with
  | zero => intro x _ _ _ _ h; have := size_pos x; omega
  | succ m ih =>
    intro x y w v u hsz hwx hwy hv hu
    have IH := Lib.hid ih
    clear ih
    obtain ⟨k, i, t, its, ks⟩ := x
    obtain ⟨k', i', t', jts, ls⟩ := y
    obtain ⟨A, c, A', c', rfl, _, _, _, h1, h2, hL, h3, h4, hS⟩ := hv.open
    obtain ⟨D, e, D', e', rfl, _, _, _, g1, g2, hM, g3, g4, hT⟩ := hu.open
    rw [VT.size_mk] at hsz
    rw [VT.all_mk, Bool.and_eq_true] at hwx hwy
    obtain ⟨w2, hw2⟩ : ∃ w2, w2 = (w.alloc (.cells #[.int .i64 k, .int .i64 i, .string t, .slice A its.length c, .slice A' ks.length c'] 26)).alloc (.cells #[.int .i64 k', .int .i64 i', .string t', .slice D jts.length e, .slice D' ls.length e'] 26) := ⟨_, rfl⟩
    have B2 : Hid (Below w.heap.size w w2) := Lib.hid (by rw [hw2]; exact (below_one _ _).trans (Below.alloc (Below.refl _ _) (by simp) _))
    have HCK := Lib.hid (cmpInt_any k k' w2)
    by_cases hk : k = k'
    · subst hk
      by_cases k3 : k = 3
      · subst k3
        have HR := Lib.hid (cmp_text (k := 3) (ks := ks) (ls := ls) (t := t) (t' := t') (wf_text hwx.1) (wf_text hwy.1))
        have HC := Lib.hid (cmpStr_any t t' w2)
        have HZ := Lib.hid (show cmpI 3 3 = 0 from cmpI_zero.2 rfl)
        have HW := Lib.hid hw2
        clear hv hu hL hM hS hT hwx hwy hw2
        unfold vag
        go_enter Try.func74, Try.ntmps74
        go_wp2_with fail
        rw [← HW.out]
        refine (HCK.out).mono ?_
        rintro z w' ⟨rfl, rfl⟩
        rw [HZ.out, HW.out]
        go_wp2_with fail
        rw [← HW.out]
        refine (HC.out).mono ?_
        rintro z w' ⟨rfl, rfl⟩
        go_wp2
        go_ret
        exact ⟨by rw [HR.out]; rfl, B2.out⟩
      · by_cases k45 : k = 4 ∨ k = 5
        · have hLb := hL.below B2.out
          have hMb := hM.below B2.out
          have hSb := hS.below B2.out
          have hTb := hT.below B2.out
          have HZ := Lib.hid (show cmpI k k = 0 from cmpI_zero.2 rfl)
          have HR : Hid ((VT.mk k i t its ks).cmp (.mk k i' t' jts ls) = cmps (decide (k = 5)) its ks jts ls) := by
            rcases k45 with rfl | rfl
            · exact Lib.hid (cmp_row (wf_list hwx.1) (wf_list hwy.1))
            · exact Lib.hid (cmp_row ⟨(wf_map hwx.1).1, (wf_map hwx.1).2.1⟩ ⟨(wf_map hwy.1).1, (wf_map hwy.1).2.1⟩)
          have HC : Hid (Calls Try.prog 97 #[vag k i t A its.length c A' ks.length c', vag k i' t' D jts.length e D' ls.length e'] w2 (Gives (.int .i64 (cmps (decide (k = 5)) its ks jts ls)) w2)) := by
            rcases k45 with rfl | rfl
            · by_cases hle : its.length ≤ jts.length
              · exact Lib.hid (cmpItems_4le m IH i t its ks A c A' c' i' t' jts ls D e D' e' w2 hLb hMb h1 h2 g1 g2 (by omega) hwx.2 hwy.2 hle)
              · exact Lib.hid (cmpItems_4gt m IH i t its ks A c A' c' i' t' jts ls D e D' e' w2 hLb hMb h1 h2 g1 g2 (by omega) hwx.2 hwy.2 (by omega))
            · by_cases hle : its.length ≤ jts.length
              · exact Lib.hid (cmpItems_5le m IH i t its ks A c A' c' i' t' jts ls D e D' e' w2 hLb hMb hSb hTb h1 h2 g1 g2 (by omega) hwx.2 hwy.2 (wf_map hwx.1).2.2 (wf_map hwy.1).2.2 hle)
              · exact Lib.hid (cmpItems_5gt m IH i t its ks A c A' c' i' t' jts ls D e D' e' w2 hLb hMb hSb hTb h1 h2 g1 g2 (by omega) hwx.2 hwy.2 (wf_map hwx.1).2.2 (wf_map hwy.1).2.2 (by omega))
          have f3 : (k == 3) = false := by rw [beq_eq_false_iff_ne]; exact k3
          have HW := Lib.hid hw2
          unfold vag at HC
          generalize cmps (decide (k = 5)) its ks jts ls = z at *
          rcases k45 with rfl | rfl
          · clear hv hu hL hM hS hT hwx hwy hw2 hLb hMb hSb hTb k3 f3
            unfold vag
            go_enter Try.func74, Try.ntmps74
            go_wp2_with fail
            rw [← HW.out]
            refine (HCK.out).mono ?_
            rintro z w' ⟨rfl, rfl⟩
            rw [HZ.out, HW.out]
            go_wp2_with fail
            rw [← HW.out]
            refine (HC.out).mono ?_
            rintro z w' ⟨rfl, hb⟩
            have HB := Lib.hid (below_next B2.out hb)
            clear hb
            go_wp2
            go_ret
            exact ⟨by rw [HR.out]; rfl, HB.out⟩
          · clear hv hu hL hM hS hT hwx hwy hw2 hLb hMb hSb hTb k3 f3
            unfold vag
            go_enter Try.func74, Try.ntmps74
            go_wp2_with fail
            rw [← HW.out]
            refine (HCK.out).mono ?_
            rintro z w' ⟨rfl, rfl⟩
            rw [HZ.out, HW.out]
            go_wp2_with fail
            rw [← HW.out]
            refine (HC.out).mono ?_
            rintro z w' ⟨rfl, hb⟩
            have HB := Lib.hid (below_next B2.out hb)
            clear hb
            go_wp2
            go_ret
            exact ⟨by rw [HR.out]; rfl, HB.out⟩
        · have hk6 := wf_kind hwx.1
          have hk4 : k = 0 ∨ k = 1 ∨ k = 2 ∨ k = 6 := by omega
          have HR := Lib.hid (cmp_int (k := k) (ks := ks) (ls := ls) (i := i) (i' := i') (wf_int hwx.1 hk4) (wf_int hwy.1 hk4))
          have HC := Lib.hid (cmpInt_any i i' w2)
          have HZ := Lib.hid (show cmpI k k = 0 from cmpI_zero.2 rfl)
          have f3 : (k == 3) = false := by rw [beq_eq_false_iff_ne]; omega
          have f4 : (k == 4) = false := by rw [beq_eq_false_iff_ne]; omega
          have f5 : (k == 5) = false := by rw [beq_eq_false_iff_ne]; omega
          have HW := Lib.hid hw2
          clear hv hu hL hM hS hT hwx hwy hw2 k3 k45 hk6 hk4
          unfold vag
          go_enter Try.func74, Try.ntmps74
          go_wp2_with fail
          rw [← HW.out]
          refine (HCK.out).mono ?_
          rintro z w' ⟨rfl, rfl⟩
          rw [HZ.out, HW.out]
          go_wp2_with fail
          rw [← HW.out]
          refine (HC.out).mono ?_
          rintro z w' ⟨rfl, rfl⟩
          go_wp2
          go_ret
          exact ⟨by rw [HR.out]; rfl, B2.out⟩
    · have HR := Lib.hid (cmp_ne (i := i) (t := t) (its := its) (ks := ks) (i' := i') (t' := t') (jts := jts) (ls := ls) hk)
      have g1 : (cmpI k k' != 0) = true := by rw [bne_iff_ne]; exact fun e => hk (cmpI_zero.1 e)
      have HW := Lib.hid hw2
      clear hv hu hL hM hS hT hwx hwy hw2 hk
      generalize cmpI k k' = z at *
      unfold vag
      go_enter Try.func74, Try.ntmps74
      go_wp2_with fail
      rw [← HW.out]
      refine (HCK.out).mono ?_
      rintro z w' ⟨rfl, rfl⟩
      go_wp2
      go_ret
      exact ⟨by rw [HR.out]; rfl, B2.out⟩

/-- Order's answer -/
def VT.ord (x y : VT) : Int := if x.wf && y.wf then x.cmp y else 0

set_option maxHeartbeats 1000000 in
theorem valOrder_any {x y : VT} {v u : Value} {w : World} (hv : Lies w (Lo w) x v) (hu : Lies w (Lo w) y u) : Calls Try.prog 37 #[v, u] w (Gives (.int .i64 (x.ord y)) w) := by
  obtain ⟨o, ho⟩ : ∃ o, o = x.ord y := ⟨_, rfl⟩
  rw [← ho]
  unfold VT.ord at ho
  have HX := Lib.hid (fun (w' : World) (hb : Below w.heap.size w w') => wf_any (hv.below hb))
  have HY := Lib.hid (fun (w' : World) (hb : Below w.heap.size w w') => wf_any (hu.below hb))
  have HC := Lib.hid (fun (w' : World) (hb : Below w.heap.size w w') (h1 : x.wf = true) (h2 : y.wf = true) => valCmp_all x.size x y w' v u (Nat.le_refl _) h1 h2 (hv.below hb) (hu.below hb))
  obtain ⟨k, i, t, its, ks⟩ := x
  obtain ⟨k', i', t', jts, ls⟩ := y
  obtain ⟨A, c, A', c', rfl, _, _, _, h1, h2, hL, h3, h4, hS⟩ := hv.open
  obtain ⟨D, e, D', e', rfl, _, _, _, g1, g2, hM, g3, g4, hT⟩ := hu.open
  obtain ⟨w2, hw2⟩ : ∃ w2, w2 = (w.alloc (.cells #[.int .i64 k, .int .i64 i, .string t, .slice A its.length c, .slice A' ks.length c'] 26)).alloc (.cells #[.int .i64 k', .int .i64 i', .string t', .slice D jts.length e, .slice D' ls.length e'] 26) := ⟨_, rfl⟩
  have B2 : Hid (Below w.heap.size w w2) := Lib.hid (by rw [hw2]; exact (below_one _ _).trans (Below.alloc (Below.refl _ _) (by simp) _))
  have S2 : Hid (w.heap.size + 1 < w2.heap.size) := Lib.hid (by rw [hw2]; simp)
  have X1 : Hid (∀ j, w2.cell? ⟨w.heap.size, j, none⟩ = (#[.int .i64 k, .int .i64 i, .string t, .slice A its.length c, .slice A' ks.length c'] : Array Value)[j]?) := Lib.hid (fun j => by
    rw [hw2, World.cell?_alloc_lt _ _ _ (by simp), World.cell?_alloc_at _ _ _ _ rfl])
  have X2 : Hid (∀ j, w2.cell? ⟨w.heap.size + 1, j, none⟩ = (#[.int .i64 k', .int .i64 i', .string t', .slice D jts.length e, .slice D' ls.length e'] : Array Value)[j]?) := Lib.hid (fun j => by
    rw [hw2, World.cell?_alloc_at _ _ _ _ (by simp)])
  have H1 := Lib.hid (HX.out w2 B2.out)
  have HW := Lib.hid hw2
  clear hv hu hL hM hS hT hw2
  generalize (VT.mk k i t its ks).wf = p at *
  generalize (VT.mk k' i' t' jts ls).wf = q at *
  generalize (VT.mk k i t its ks).cmp (.mk k' i' t' jts ls) = z at *
  have O1 : Hid (p = false → o = 0) := Lib.hid (fun h => by rw [ho, h]; rfl)
  have O2 : Hid (q = false → o = 0) := Lib.hid (fun h => by rw [ho, h, Bool.and_false]; rfl)
  have O3 : Hid (p = true → q = true → o = z) := Lib.hid (fun h h' => by rw [ho, h, h']; rfl)
  clear ho
  unfold vag at *
  go_enter Try.func37, Try.ntmps37
  go_wp2_with fail
  rw [← HW.out]
  refine (H1.out).mono ?_
  rintro z' w3 ⟨rfl, hb⟩
  have HB3 := Lib.hid (below_next B2.out hb)
  have a0 := (hb.cell (p := ⟨w.heap.size, 0, none⟩) (by have := S2.out; show w.heap.size < _; omega)).trans (X1.out 0)
  have a1 := (hb.cell (p := ⟨w.heap.size, 1, none⟩) (by have := S2.out; show w.heap.size < _; omega)).trans (X1.out 1)
  have a2 := (hb.cell (p := ⟨w.heap.size, 2, none⟩) (by have := S2.out; show w.heap.size < _; omega)).trans (X1.out 2)
  have a3 := (hb.cell (p := ⟨w.heap.size, 3, none⟩) (by have := S2.out; show w.heap.size < _; omega)).trans (X1.out 3)
  have a4 := (hb.cell (p := ⟨w.heap.size, 4, none⟩) (by have := S2.out; show w.heap.size < _; omega)).trans (X1.out 4)
  have b0 := (hb.cell (p := ⟨w.heap.size + 1, 0, none⟩) S2.out).trans (X2.out 0)
  have b1 := (hb.cell (p := ⟨w.heap.size + 1, 1, none⟩) S2.out).trans (X2.out 1)
  have b2 := (hb.cell (p := ⟨w.heap.size + 1, 2, none⟩) S2.out).trans (X2.out 2)
  have b3 := (hb.cell (p := ⟨w.heap.size + 1, 3, none⟩) S2.out).trans (X2.out 3)
  have b4 := (hb.cell (p := ⟨w.heap.size + 1, 4, none⟩) S2.out).trans (X2.out 4)
  have S3 : Hid (w.heap.size + 1 < w3.heap.size) := Lib.hid (by have := S2.out; have := hb.size; omega)
  clear hb
  cases p with
  | false =>
    have O := Lib.hid (O1.out rfl)
    clear O1 O2 O3
    go_wp2
    go_ret
    exact ⟨by rw [O.out]; rfl, HB3.out⟩
  | true =>
    have H2 := Lib.hid (HY.out w3 HB3.out)
    have O4 := Lib.hid (O3.out rfl)
    have HC2 := Lib.hid (fun w' hb h2 => HC.out w' hb rfl h2)
    clear O1 O3 HC
    go_wp2_with fail
    refine (H2.out).mono ?_
    rintro z' w4 ⟨rfl, hb⟩
    have HB4 := Lib.hid (below_next HB3.out hb)
    have cc := fun j => hb.cell (p := ⟨w.heap.size, j, none⟩) (by have := S3.out; show w.heap.size < _; omega)
    have cd := fun j => hb.cell (p := ⟨w.heap.size + 1, j, none⟩) S3.out
    rw [← cc] at a0 a1 a2 a3 a4
    rw [← cd] at b0 b1 b2 b3 b4
    clear hb cc cd
    cases q with
    | false =>
      have O := Lib.hid (O2.out rfl)
      clear O2 O4
      go_wp2
      go_ret
      exact ⟨by rw [O.out]; rfl, HB4.out⟩
    | true =>
      have H3 := Lib.hid (HC2.out w4 HB4.out rfl)
      have O := Lib.hid (O4.out rfl)
      clear O2 O4
      go_wp2_with fail
      refine (H3.out).mono ?_
      rintro z' w5 ⟨rfl, hb⟩
      have HB5 := Lib.hid (below_next HB4.out hb)
      clear hb
      go_wp2
      go_ret
      exact ⟨by rw [O.out]; rfl, HB5.out⟩
end Go.Proofs.Ytidinbeanaifmaa
namespace Go.Proofs.Ytidinbeanaifmaa
open Go.RowKit

mutual
def VT.enc : VT → List UInt8
  | .mk k i t its ks => Go.Proofs.Ytidinbeanaifmaa.enc k ++ (if k = 1 ∨ k = 2 ∨ k = 6 then Go.Proofs.Ytidinbeanaifmaa.enc i else if k = 3 then encText t.data.toList else if k = 4 ∨ k = 5 then Go.Proofs.Ytidinbeanaifmaa.enc (its.length : Nat) ++ encs (decide (k = 5)) its ks else [])
def encs (m : Bool) : List VT → List ByteArray → List UInt8
  | [], _ => []
  | x :: r, ks => (if m then encText (ks.headD ByteArray.empty).data.toList else []) ++ (x.enc ++ encs m r ks.tail)
end
theorem VT.enc_mk (k i : Int) (t : ByteArray) (its : List VT) (ks : List ByteArray) : (VT.mk k i t its ks).enc =
    Go.Proofs.Ytidinbeanaifmaa.enc k ++ (if k = 1 ∨ k = 2 ∨ k = 6 then Go.Proofs.Ytidinbeanaifmaa.enc i else if k = 3 then encText t.data.toList else if k = 4 ∨ k = 5 then Go.Proofs.Ytidinbeanaifmaa.enc (its.length : Nat) ++ encs (decide (k = 5)) its ks else []) := by rw [VT.enc]
theorem encs_append (m : Bool) : ∀ (a b : List VT) (ks : List ByteArray), encs m (a ++ b) ks = encs m a ks ++ encs m b (ks.drop a.length)
  | [], b, ks => by simp [encs]
  | x :: a, b, ks => by
    rw [List.cons_append, encs, encs, encs_append m a b ks.tail, List.append_assoc, List.append_assoc]
    simp [List.drop_tail]
theorem encs_take {m : Bool} {its : List VT} {ks : List ByteArray} {j : Nat} {x : VT} (h : its[j]? = some x) :
    encs m (its.take (j + 1)) ks = encs m (its.take j) ks ++ ((if m then encText (ks.getD j ByteArray.empty).data.toList else []) ++ x.enc) := by
  have hj := (List.getElem?_eq_some_iff.1 h).1
  rw [List.take_add_one, h, encs_append]
  simp only [Option.toList_some, encs, List.append_nil]
  have e : (ks.drop (its.take j).length).headD ByteArray.empty = ks.getD j ByteArray.empty := by
    rw [List.headD_eq_head?_getD, List.head?_drop, List.getD_eq_getElem?_getD, List.length_take, Nat.min_eq_left (by omega)]
  rw [e]
theorem encs_take_len (m : Bool) (its : List VT) (ks : List ByteArray) (j : Nat) : (encs m (its.take j) ks).length ≤ (encs m its ks).length := by
  have := encs_append m (its.take j) (its.drop j) ks
  rw [List.take_append_drop] at this
  rw [this, List.length_append]
  omega
theorem encText_len (s : List UInt8) : s.length ≤ (encText s).length := by unfold encText; rw [List.length_append]; omega

/-- below base nothing turns, and no block of another type than byte -/
structure Frm (base : Nat) (w w' : World) : Prop where
  below : Below base w w'
  keep : ∀ (g : Nat) (t : TypeId) (cs : Array Value), Bk w g t cs → t ≠ 5 → Bk w' g t cs
theorem Frm.refl (base : Nat) (w : World) : Frm base w w := ⟨Below.refl _ _, fun _ _ _ h _ => h⟩
theorem Frm.trans {base : Nat} {a b c : World} (h : Frm base a b) (k : Frm base b c) : Frm base a c := ⟨h.below.trans k.below, fun g t cs hg ht => k.keep g t cs (h.keep g t cs hg ht) ht⟩
theorem Frm.of_below {base : Nat} {w w' : World} (h : Below w.heap.size w w') (hB : base ≤ w.heap.size) : Frm base w w' := ⟨h.mono hB, fun _ _ _ hg _ => hg.below h hg.lt⟩
theorem Frm.of_grown {base n : Nat} {w w' : World} {v : Value} {xs : List Value} (hg : w.grownBy w' v.ownBlock) (ho : w.ownsRow base 5 1 v n xs) (hB : base ≤ w.heap.size) : Frm base w w' :=
  ⟨(Below.refl _ _).grown hg hB (fun k hk => (ho.lt k hk).1), fun g t cs h ht => h.grown hg (by
    intro e
    rcases ho.2 with ⟨rfl, _⟩ | ⟨g', cap, cur, rfl, _, hgg, _⟩
    · cases e
    · injection e with e
      subst e
      unfold Bk at h
      have h' : w.heap[g]? = some (.cells cur 5 (0, 0)) := hgg
      rw [h] at h'
      injection h' with h'
      injection h' with _ e2
      exact ht e2)⟩
/-- an owned row of bytes handed back -/
def App (base : Nat) (l : List UInt8) (w : World) (e : Ending) (w' : World) : Prop :=
  ∃ A n c, e = .returned (.slice A n c) ∧ Hid (l.length = n) ∧ Hid (w'.ownsRow base 5 1 (.slice A n c) n (l.map b8)) ∧ Hid (Frm base w w') ∧ n ≤ c ∧ c ≤ 9223372036854775807

section
variable {w : World} {base n c : Nat} {A : Option Addr} {l : List UInt8}
set_option maxRecDepth 100000 in
set_option maxHeartbeats 1000000 in
theorem appendInt_v (x : Int) (ho : w.ownsRow base 5 1 (.slice A n c) n (l.map b8)) (hB : base ≤ w.heap.size) (hn : n ≤ 70000000000000) (h1 : -9223372036854775808 ≤ x) (h2 : x ≤ 9223372036854775807) :
    Calls Try.prog 105 #[.slice A n c, .int .i64 x] w (App base (l ++ Go.Proofs.Ytidinbeanaifmaa.enc x) w) := by
  obtain ⟨i, hi, hz, hs, hb⟩ := info_parts Try.infob
  have HO := Lib.hid ho
  have HL := Lib.hid (own_len ho)
  have HP := Lib.hid (PutInt_any none 0 0 [] 0 w x (Rb.nil0 w 0) (Nat.zero_le _) (by omega) h1 h2)
  have HN := Lib.hid hn
  clear ho hn h1 h2
  go_enter Try.func105, Try.ntmps105
  go_wp2_with fail
  refine (HP.out).mono ?_
  intro e w2 hq
  obtain ⟨A2, n2, c2, rfl, hl2, hc2, hm2, R2, O2, B2⟩ := own_named hq
  have HO2 := Lib.hid (HO.out.kept (grown_of_below (r := none) B2.out) (by cases h : (Value.slice A n c).ownBlock <;> simp))
  have S2 : Hid (w.heap.size ≤ w2.heap.size) := Lib.hid B2.out.size
  clear hq
  have hn2 : Hid (n2 ≤ 10) := Lib.hid (by rw [← hl2.out, List.nil_append]; exact enc_len x)
  go_wp2_with (at_builtin; refine wpList_append_b8 rfl _ _ 50 rfl base 5 i (.int .u8 0) Try.underlying50 hi hz hs hb rfl _ n _ rfl HO2.out w2.heap.size A2 n2 c2 ([] ++ Go.Proofs.Ytidinbeanaifmaa.enc x) rfl R2.out ?_ ?_ ?_)
  · have := hn2.out; have := HN.out; omega
  · have := S2.out; omega
  · intro v3 w3 hown hg
    obtain ⟨A3, c3, rfl, g1, g2⟩ := own_form hown
    unfold maxLen at g2
    have F := Lib.hid ((Frm.of_below B2.out hB).trans (Frm.of_grown hg HO2.out (by have := S2.out; omega)))
    have OW : Hid (w3.ownsRow base 5 1 (.slice A3 (n + n2) c3) (n + n2) ((l ++ Go.Proofs.Ytidinbeanaifmaa.enc x).map b8)) := Lib.hid (by simpa using hown)
    have LEN : Hid ((l ++ Go.Proofs.Ytidinbeanaifmaa.enc x).length = n + n2) := Lib.hid (by rw [List.length_append, HL.out, ← hl2.out, List.nil_append])
    clear hown hg
    go_wp2
    go_ret
    exact ⟨A3, n + n2, c3, rfl, LEN, OW, F, g1, g2⟩
set_option maxRecDepth 100000 in
set_option maxHeartbeats 1000000 in
theorem appendText_v (s : ByteArray) (ho : w.ownsRow base 5 1 (.slice A n c) n (l.map b8)) (hB : base ≤ w.heap.size) (hn : n ≤ 70000000000000) (hs : s.size ≤ 30000000000000) :
    Calls Try.prog 106 #[.slice A n c, .string s] w (App base (l ++ encText s.data.toList) w) := by
  obtain ⟨i, hi, hz, hsz, hb⟩ := info_parts Try.infob
  have HO := Lib.hid ho
  have HL := Lib.hid (own_len ho)
  have HP := Lib.hid (PutText_any none 0 0 [] 0 w s (Rb.nil0 w 0) (Nat.zero_le _) (by omega) (by omega))
  have HN := Lib.hid (And.intro hn hs)
  clear ho hn hs
  go_enter Try.func106, Try.ntmps106
  go_wp2_with fail
  refine (HP.out).mono ?_
  intro e w2 hq
  obtain ⟨A2, n2, c2, rfl, hl2, hc2, hm2, R2, O2, B2⟩ := own_named hq
  have HO2 := Lib.hid (HO.out.kept (grown_of_below (r := none) B2.out) (by cases h : (Value.slice A n c).ownBlock <;> simp))
  have S2 : Hid (w.heap.size ≤ w2.heap.size) := Lib.hid B2.out.size
  clear hq
  have hn2 : Hid (n2 ≤ 10 + s.size) := Lib.hid (by
    rw [← hl2.out, List.nil_append]
    unfold encText
    rw [List.length_append]
    have := enc_len (s.data.toList.length : Nat)
    have e : s.data.toList.length = s.size := rfl
    omega)
  go_wp2_with (at_builtin; refine wpList_append_b8 rfl _ _ 50 rfl base 5 i (.int .u8 0) Try.underlying50 hi hz hsz hb rfl _ n _ rfl HO2.out w2.heap.size A2 n2 c2 ([] ++ encText s.data.toList) rfl R2.out ?_ ?_ ?_)
  · have := hn2.out; have := HN.out.1; have := HN.out.2; omega
  · have := S2.out; omega
  · intro v3 w3 hown hg
    obtain ⟨A3, c3, rfl, g1, g2⟩ := own_form hown
    unfold maxLen at g2
    have F := Lib.hid ((Frm.of_below B2.out hB).trans (Frm.of_grown hg HO2.out (by have := S2.out; omega)))
    have OW : Hid (w3.ownsRow base 5 1 (.slice A3 (n + n2) c3) (n + n2) ((l ++ encText s.data.toList).map b8)) := Lib.hid (by simpa using hown)
    have LEN : Hid ((l ++ encText s.data.toList).length = n + n2) := Lib.hid (by rw [List.length_append, HL.out, ← hl2.out, List.nil_append])
    clear hown hg
    go_wp2
    go_ret
    exact ⟨A3, n + n2, c3, rfl, LEN, OW, F, g1, g2⟩
end
end Go.Proofs.Ytidinbeanaifmaa
namespace Go.Proofs.Ytidinbeanaifmaa
open Go.RowKit

/-- what appendValue is asked of values of at most m nodes -/
def EncUpto (m : Nat) : Prop := ∀ (x : VT) (w : World) (v : Value) (base n c : Nat) (A : Option Addr) (l : List UInt8), x.size ≤ m → x.all okF = true → Lies w (fun b => b < base) x v → w.ownsRow base 5 1 (.slice A n c) n (l.map b8) → base ≤ w.heap.size →
  n + x.enc.length ≤ 30000000000000 → Calls Try.prog 83 #[.slice A n c, v] w (App base (l ++ x.enc) w)
theorem App.to {base : Nat} {l l' : List UInt8} {w w1 : World} {e : Ending} {w' : World} (h : App base l w1 e w') (hf : Frm base w w1) (hl : l = l') : App base l' w e w' := by
  obtain ⟨A, n, c, h1, h2, h3, h4, h5⟩ := h
  subst hl
  exact ⟨A, n, c, h1, h2, h3, Lib.hid (hf.trans h4.out), h5⟩

set_option maxRecDepth 100000 in
set_option maxHeartbeats 4000000 in
theorem encItems_4 (m : Nat) (IH : Hid (EncUpto m)) (i : Int) (t : ByteArray) (its : List VT) (ks : List ByteArray) (A : Option Addr) (c : Nat) (A' : Option Addr) (c' : Nat) (w : World) (base n0 c0 : Nat) (A0 : Option Addr) (l : List UInt8)
    (hL : LiesL w (fun b => b < base) A 0 its) (h1 : its.length ≤ c) (h2 : c ≤ 9223372036854775807) (hsz : sizes its ≤ m) (hw : alls okF its = true)
    (ho : w.ownsRow base 5 1 (.slice A0 n0 c0) n0 (l.map b8)) (hB : base ≤ w.heap.size) (hn : n0 + (enc (its.length : Nat) ++ encs false its ks).length ≤ 30000000000000) :
    Calls Try.prog 107 #[.slice A0 n0 c0, vag 4 i t A its.length c A' ks.length c'] w (App base (l ++ (enc (its.length : Nat) ++ encs false its ks)) w) := by
  have HL := Lib.hid hL
  have HWF := Lib.hid hw
  have HNN := Lib.hid hn
  have HBB := Lib.hid hB
  obtain ⟨w1, hw1⟩ : ∃ w1, w1 = w.alloc (.cells #[.int .i64 4, .int .i64 i, .string t, .slice A its.length c, .slice A' ks.length c'] 26) := ⟨_, rfl⟩
  have P1 : Hid (Bk w1 w.heap.size 26 #[.int .i64 4, .int .i64 i, .string t, .slice A its.length c, .slice A' ks.length c']) := Lib.hid (by rw [hw1]; exact Bk.new _ _ _)
  have F1 : Hid (Frm base w w1) := Lib.hid (by rw [hw1]; exact Frm.of_below (below_one _ _) hB)
  have O1 := Lib.hid (ho.kept (grown_of_below (r := none) (hw1 ▸ below_one w _ : Below w.heap.size w w1)) (by cases h : (Value.slice A0 n0 c0).ownBlock <;> simp))
  have HA := Lib.hid (appendInt_v (its.length : Nat) O1.out (Nat.le_trans hB F1.out.below.size) (by have := hn; rw [List.length_append] at this; omega) (by omega) (by omega))
  have HW := Lib.hid hw1
  clear hL hw hn hB ho hw1
  unfold vag
  go_enter Try.func107, Try.ntmps107
  go_wp2_with fail
  rw [← HW.out]
  refine (HA.out).mono ?_
  rintro e w2 ⟨A2, n2, c2, rfl, hl2, O2, F2, _, _⟩
  have P2 := Lib.hid (F2.out.keep _ _ _ P1.out (by decide))
  have FF := Lib.hid (F1.out.trans F2.out)
  have p3 := P2.out.cell 3
  change _ = some (Value.slice A its.length c) at p3
  go_wp2_with fail
  go_loopw [15, 0, 5, 6] (fun s b _ _ wr => ∃ (j : Nat) (AI : Option Addr) (ni ci : Nat), j ≤ its.length ∧ s = .int .i64 j ∧ b = .slice AI ni ci ∧ Hid ((l ++ (enc (its.length : Nat) ++ encs false (its.take j) ks)).length = ni) ∧
    Hid (wr.ownsRow base 5 1 (.slice AI ni ci) ni ((l ++ (enc (its.length : Nat) ++ encs false (its.take j) ks)).map b8)) ∧ Hid (Frm base w wr) ∧ Hid (Bk wr w.heap.size 26 #[.int .i64 4, .int .i64 i, .string t, .slice A its.length c, .slice A' ks.length c'])) (fun s _ _ _ _ => its.length - (intOf s).toNat)
  case atStart => exact ⟨0, A2, n2, c2, by omega, rfl, rfl, Lib.hid (by simpa [encs] using hl2.out), Lib.hid (by simpa [encs] using O2.out), FF, P2⟩
  case round =>
    obtain ⟨j, AI, ni, ci, hjn, rfl, rfl, hni, HO, HF, HP⟩ := hrel
    have p0 := HP.out.cell 0
    change _ = some (Value.int .i64 4) at p0
    have p4 := HP.out.cell 4
    change _ = some (Value.slice A' ks.length c') at p4
    by_cases hlt : j < its.length
    · have g1 := List.getElem?_eq_getElem (l := its) (i := j) hlt
      obtain ⟨g, o, k', i', t', B, n', c1, B', n1, cc2, rfl, hg, e0, e1, e2, e3, e4, hx⟩ := (HL.out).at_ g1
      have hwx := all_at HWF.out g1
      have hle := size_at g1
      have htk := encs_take (m := false) (ks := ks) g1
      have htl := encs_take_len false its ks (j + 1)
      generalize its[j]'hlt = x at *
      have cc := fun (q : Nat) => HF.out.below.cell (p := ⟨g, q, none⟩) hg
      rw [Nat.zero_add] at e0 e1 e2 e3 e4
      rw [← cc] at e0 e1 e2 e3 e4
      have hlen : ni + ((if false = true then encText (ks.getD j ByteArray.empty).data.toList else []) ++ x.enc).length ≤ 30000000000000 := by
        have h3 := HNN.out
        have h4 := hni.out
        rw [htk, List.length_append] at htl
        rw [List.length_append] at h3 h4
        rw [List.length_append] at h4
        have h5 := own_len O1.out
        omega
      have HX := Lib.hid (fun (W : World) (hb : Below base w W) => (hx.keep (fun p hp => hb.cell hp) (fun _ h => h) : Lies W (fun b => b < base) x _))
      have HTK := Lib.hid htk
      have HWX := Lib.hid hwx
      have HLE := Lib.hid hle
      obtain ⟨wa, hwa⟩ : ∃ wa, wa = wr.alloc (.cells #[.int .i64 k', .int .i64 i', .string t', .slice B n' c1, .slice B' n1 cc2] 26) := ⟨_, rfl⟩
      have hbr : base ≤ wr.heap.size := Nat.le_trans HBB.out HF.out.below.size
      have QA : Hid (Bk wa wr.heap.size 26 #[.int .i64 k', .int .i64 i', .string t', .slice B n' c1, .slice B' n1 cc2]) := Lib.hid (by rw [hwa]; exact Bk.new _ _ _)
      have PA : Hid (Bk wa w.heap.size 26 #[.int .i64 4, .int .i64 i, .string t, .slice (some ⟨g, o, none⟩) its.length c, .slice A' ks.length c']) := Lib.hid (by rw [hwa]; exact HP.out.alloc _)
      have FA : Hid (Frm base w wa) := Lib.hid (by rw [hwa]; exact HF.out.trans (Frm.of_below (below_one _ _) hbr))
      have OA : Hid (wa.ownsRow base 5 1 (.slice AI ni ci) ni ((l ++ (enc (its.length : Nat) ++ encs false (its.take j) ks)).map b8)) := Lib.hid (by rw [hwa]; exact HO.out.alloc _)
      have BA : Hid (base ≤ wa.heap.size) := Lib.hid (by rw [hwa]; simp; omega)
      have HWA := Lib.hid hwa
      clear hx cc htk htl hwx hle g1 hwa hbr
      have HNW : Hid (ni + x.enc.length ≤ 30000000000000) := Lib.hid (by simpa using hlen)
      clear hlen
      have pa0 := PA.out.cell 0
      change _ = some (Value.int .i64 4) at pa0
      rw [HWA.out] at pa0
      have HV := Lib.hid (IH.out x wa _ base ni ci AI _ (by have := HLE.out; omega) HWX.out (HX.out wa FA.out.below) OA.out BA.out HNW.out)
      unfold vag at HV
      clear p4 p0
      go_wp2_with fail
      rw [← HWA.out]
      refine (HV.out).mono ?_
      rintro e w5 ⟨A5, n5, c5, rfl, hl5, O5, F5, _, _⟩
      have P5 := Lib.hid (F5.out.keep _ _ _ PA.out (by decide))
      have FF5 := Lib.hid (FA.out.trans F5.out)
      go_wp2
      go_roundw
      case rel => exact ⟨j + 1, A5, n5, c5, by omega, by go_num, rfl, Lib.hid (by rw [HTK.out, ← hl5.out]; congr 1; simp), Lib.hid (by rw [HTK.out]; have := O5.out; simpa using this), FF5, P5⟩
      case measure => simp [intOf]; omega
    · obtain rfl : j = its.length := by omega
      have O8 : Hid (wr.ownsRow base 5 1 (.slice AI ni ci) ni ((l ++ (enc (its.length : Nat) ++ encs false its ks)).map b8)) := Lib.hid (by have := HO.out; rwa [List.take_length] at this)
      have L8 : Hid ((l ++ (enc (its.length : Nat) ++ encs false its ks)).length = ni) := Lib.hid (by have := hni.out; rwa [List.take_length] at this)
      have b8_ := own_bounds O8.out
      go_wp2
      go_ret
      exact ⟨AI, ni, ci, rfl, L8, O8, HF, b8_.1, b8_.2⟩

set_option maxRecDepth 100000 in
set_option maxHeartbeats 4000000 in
theorem encItems_5 (m : Nat) (IH : Hid (EncUpto m)) (i : Int) (t : ByteArray) (its : List VT) (ks : List ByteArray) (A : Option Addr) (c : Nat) (A' : Option Addr) (c' : Nat) (w : World) (base n0 c0 : Nat) (A0 : Option Addr) (l : List UInt8)
    (hL : LiesL w (fun b => b < base) A 0 its) (hS : LiesS w (fun b => b < base) A' ks) (hk : ks.length = its.length) (hkc : ks.length ≤ c') (hcm' : c' ≤ 9223372036854775807) (h1 : its.length ≤ c) (h2 : c ≤ 9223372036854775807) (hsz : sizes its ≤ m) (hw : alls okF its = true)
    (ho : w.ownsRow base 5 1 (.slice A0 n0 c0) n0 (l.map b8)) (hB : base ≤ w.heap.size) (hn : n0 + (enc (its.length : Nat) ++ encs true its ks).length ≤ 30000000000000) :
    Calls Try.prog 107 #[.slice A0 n0 c0, vag 5 i t A its.length c A' ks.length c'] w (App base (l ++ (enc (its.length : Nat) ++ encs true its ks)) w) := by
  have HL := Lib.hid hL
  have HS := Lib.hid hS
  have HKL := Lib.hid hk
  have HWF := Lib.hid hw
  have HNN := Lib.hid hn
  have HBB := Lib.hid hB
  obtain ⟨w1, hw1⟩ : ∃ w1, w1 = w.alloc (.cells #[.int .i64 5, .int .i64 i, .string t, .slice A its.length c, .slice A' ks.length c'] 26) := ⟨_, rfl⟩
  have P1 : Hid (Bk w1 w.heap.size 26 #[.int .i64 5, .int .i64 i, .string t, .slice A its.length c, .slice A' ks.length c']) := Lib.hid (by rw [hw1]; exact Bk.new _ _ _)
  have F1 : Hid (Frm base w w1) := Lib.hid (by rw [hw1]; exact Frm.of_below (below_one _ _) hB)
  have O1 := Lib.hid (ho.kept (grown_of_below (r := none) (hw1 ▸ below_one w _ : Below w.heap.size w w1)) (by cases h : (Value.slice A0 n0 c0).ownBlock <;> simp))
  have HA := Lib.hid (appendInt_v (its.length : Nat) O1.out (Nat.le_trans hB F1.out.below.size) (by have := hn; rw [List.length_append] at this; omega) (by omega) (by omega))
  have HW := Lib.hid hw1
  clear hL hS hk hw hn hB ho hw1
  unfold vag
  go_enter Try.func107, Try.ntmps107
  go_wp2_with fail
  rw [← HW.out]
  refine (HA.out).mono ?_
  rintro e w2 ⟨A2, n2, c2, rfl, hl2, O2, F2, _, _⟩
  have P2 := Lib.hid (F2.out.keep _ _ _ P1.out (by decide))
  have FF := Lib.hid (F1.out.trans F2.out)
  have p3 := P2.out.cell 3
  change _ = some (Value.slice A its.length c) at p3
  go_wp2_with fail
  go_loopw [15, 0, 5, 6] (fun s b _ _ wr => ∃ (j : Nat) (AI : Option Addr) (ni ci : Nat), j ≤ its.length ∧ s = .int .i64 j ∧ b = .slice AI ni ci ∧ Hid ((l ++ (enc (its.length : Nat) ++ encs true (its.take j) ks)).length = ni) ∧
    Hid (wr.ownsRow base 5 1 (.slice AI ni ci) ni ((l ++ (enc (its.length : Nat) ++ encs true (its.take j) ks)).map b8)) ∧ Hid (Frm base w wr) ∧ Hid (Bk wr w.heap.size 26 #[.int .i64 5, .int .i64 i, .string t, .slice A its.length c, .slice A' ks.length c'])) (fun s _ _ _ _ => its.length - (intOf s).toNat)
  case atStart => exact ⟨0, A2, n2, c2, by omega, rfl, rfl, Lib.hid (by simpa [encs] using hl2.out), Lib.hid (by simpa [encs] using O2.out), FF, P2⟩
  case round =>
    obtain ⟨j, AI, ni, ci, hjn, rfl, rfl, hni, HO, HF, HP⟩ := hrel
    have p0 := HP.out.cell 0
    change _ = some (Value.int .i64 5) at p0
    have p4 := HP.out.cell 4
    change _ = some (Value.slice A' ks.length c') at p4
    by_cases hlt : j < its.length
    · have g1 := List.getElem?_eq_getElem (l := its) (i := j) hlt
      obtain ⟨g, o, k', i', t', B, n', c1, B', n1, cc2, rfl, hg, e0, e1, e2, e3, e4, hx⟩ := (HL.out).at_ g1
      have hwx := all_at HWF.out g1
      have hle := size_at g1
      have htk := encs_take (m := true) (ks := ks) g1
      have htl := encs_take_len true its ks (j + 1)
      generalize its[j]'hlt = x at *
      have cc := fun (q : Nat) => HF.out.below.cell (p := ⟨g, q, none⟩) hg
      rw [Nat.zero_add] at e0 e1 e2 e3 e4
      rw [← cc] at e0 e1 e2 e3 e4
      have hlen : ni + ((if true = true then encText (ks.getD j ByteArray.empty).data.toList else []) ++ x.enc).length ≤ 30000000000000 := by
        have h3 := HNN.out
        have h4 := hni.out
        rw [htk, List.length_append] at htl
        rw [List.length_append] at h3 h4
        rw [List.length_append] at h4
        have h5 := own_len O1.out
        omega
      have HX := Lib.hid (fun (W : World) (hb : Below base w W) => (hx.keep (fun p hp => hb.cell hp) (fun _ h => h) : Lies W (fun b => b < base) x _))
      have HTK := Lib.hid htk
      have HWX := Lib.hid hwx
      have HLE := Lib.hid hle
      obtain ⟨wa, hwa⟩ : ∃ wa, wa = wr.alloc (.cells #[.int .i64 k', .int .i64 i', .string t', .slice B n' c1, .slice B' n1 cc2] 26) := ⟨_, rfl⟩
      have hbr : base ≤ wr.heap.size := Nat.le_trans HBB.out HF.out.below.size
      have QA : Hid (Bk wa wr.heap.size 26 #[.int .i64 k', .int .i64 i', .string t', .slice B n' c1, .slice B' n1 cc2]) := Lib.hid (by rw [hwa]; exact Bk.new _ _ _)
      have PA : Hid (Bk wa w.heap.size 26 #[.int .i64 5, .int .i64 i, .string t, .slice (some ⟨g, o, none⟩) its.length c, .slice A' ks.length c']) := Lib.hid (by rw [hwa]; exact HP.out.alloc _)
      have FA : Hid (Frm base w wa) := Lib.hid (by rw [hwa]; exact HF.out.trans (Frm.of_below (below_one _ _) hbr))
      have OA : Hid (wa.ownsRow base 5 1 (.slice AI ni ci) ni ((l ++ (enc (its.length : Nat) ++ encs true (its.take j) ks)).map b8)) := Lib.hid (by rw [hwa]; exact HO.out.alloc _)
      have BA : Hid (base ≤ wa.heap.size) := Lib.hid (by rw [hwa]; simp; omega)
      have HWA := Lib.hid hwa
      clear hx cc htk htl hwx hle g1 hwa hbr
      have hkj : ks[j]? = some (ks.getD j ByteArray.empty) := by rw [List.getD_eq_getElem?_getD, List.getElem?_eq_getElem (by have := HKL.out; omega)]; rfl
      obtain ⟨_, gk, ok, rfl, hgk, f0⟩ := HS.out j _ hkj
      have hjk : j < ks.length := by have := HKL.out; omega
      rw [← FA.out.below.cell (p := ⟨gk, ok + j, none⟩) hgk] at f0
      generalize ks.getD j ByteArray.empty = s at *
      have hns : ni + (encText s.data.toList).length + x.enc.length ≤ 30000000000000 := by
        have h3 := hlen
        rw [if_pos rfl, List.length_append] at h3
        omega
      have hss : s.size ≤ 30000000000000 := by
        have h3 := encText_len s.data.toList
        have h4 : s.data.toList.length = s.size := rfl
        omega
      have HT := Lib.hid (appendText_v s OA.out BA.out (by omega) hss)
      have HNS := Lib.hid hns
      have pa0 := PA.out.cell 0
      change _ = some (Value.int .i64 5) at pa0
      have pa4 := PA.out.cell 4
      change _ = some (Value.slice (some ⟨gk, ok, none⟩) ks.length c') at pa4
      rw [HWA.out] at pa0 pa4 f0
      clear hlen hkj hns hss p0 p4
      go_wp2_with fail
      rw [← HWA.out]
      refine (HT.out).mono ?_
      rintro e w4 ⟨A4, n4, c4, rfl, hl4, O4, F4, _, _⟩
      have Q4 := Lib.hid (F4.out.keep _ _ _ QA.out (by decide))
      have P4 := Lib.hid (F4.out.keep _ _ _ PA.out (by decide))
      have FW := Lib.hid (FA.out.trans F4.out)
      have BW : Hid (base ≤ w4.heap.size) := Lib.hid (Nat.le_trans BA.out F4.out.below.size)
      have HNW : Hid (n4 + x.enc.length ≤ 30000000000000) := Lib.hid (by
        have h3 := HNS.out
        have h4 := hl4.out
        have h5 := own_len OA.out
        rw [List.length_append] at h4
        omega)
      have q0 := Q4.out.cell 0
      have q1 := Q4.out.cell 1
      have q2 := Q4.out.cell 2
      have q3 := Q4.out.cell 3
      have q4 := Q4.out.cell 4
      have HV := Lib.hid (IH.out x w4 _ base n4 c4 A4 _ (by have := HLE.out; omega) HWX.out (HX.out w4 FW.out.below) O4.out BW.out HNW.out)
      unfold vag at HV
      clear pa0 pa4 f0 e0 e1 e2 e3 e4
      go_wp2_with fail
      refine (HV.out).mono ?_
      rintro e w5 ⟨A5, n5, c5, rfl, hl5, O5, F5, _, _⟩
      have P5 := Lib.hid (F5.out.keep _ _ _ P4.out (by decide))
      have FF5 := Lib.hid (FW.out.trans F5.out)
      go_wp2
      go_roundw
      case rel => exact ⟨j + 1, A5, n5, c5, by omega, by go_num, rfl, Lib.hid (by rw [HTK.out, ← hl5.out]; congr 1; simp), Lib.hid (by rw [HTK.out]; have := O5.out; simpa using this), FF5, P5⟩
      case measure => simp [intOf]; omega
    · obtain rfl : j = its.length := by omega
      have O8 : Hid (wr.ownsRow base 5 1 (.slice AI ni ci) ni ((l ++ (enc (its.length : Nat) ++ encs true its ks)).map b8)) := Lib.hid (by have := HO.out; rwa [List.take_length] at this)
      have L8 : Hid ((l ++ (enc (its.length : Nat) ++ encs true its ks)).length = ni) := Lib.hid (by have := hni.out; rwa [List.take_length] at this)
      have b8_ := own_bounds O8.out
      go_wp2
      go_ret
      exact ⟨AI, ni, ci, rfl, L8, O8, HF, b8_.1, b8_.2⟩
end Go.Proofs.Ytidinbeanaifmaa
