/-
  Null, Int, Text and limited of the code.
-/
import Derived.Test.YtidinbeanaifmaaVco
import Derived.Test.YtidinbeanaifmaaVfit
import Derived.Laws.ResultCell
namespace Go.Proofs.Ytidinbeanaifmaa
open Go.RowKit

theorem results_row2 {P : Program} {fn : Func} {p u : Tmp} {ty : TypeId} (h : fn.results = #[.cell p ty, .tmp u]) (tmps : Array Value) (w : World) (g : Nat) (t : TypeId) (cs : Array Value) (fr : Nat × Nat) (d : TypeDesc)
    (hp : tmps.getD p undef = .pointer (some ⟨g, 0, none⟩)) (hg : w.heap[g]? = some (.cells cs t fr))
    (hu : P.underlying ty = some d) (hd : (match d with | .struct _ | .array _ _ => true | _ => false) = true) (hi : (P.info? ty).map (·.size) = some cs.size) :
    (results fn tmps).run P w = .ok (.tuple #[.agg cs, tmps.getD u undef]) w := by
  rw [results_cell_tmp h, hp]
  simp [asAddr, run_loadVar_row w g t ty cs fr d hg hu hd hi]

/-- the zero value -/
def zeroV : Value := .agg #[.int .i64 0, .int .i64 0, .string ⟨#[]⟩, .slice none 0 0, .slice none 0 0]
theorem zero_lies (w : World) (R : Nat → Prop) : Lies w R nullT zeroV := by
  unfold nullT
  rw [Lies]
  exact ⟨none, 0, none, 0, rfl, by omega, by omega, by decide, Nat.le_refl _, by omega, LiesL.none_, Nat.le_refl _, by omega, LiesS.none_⟩

set_option maxHeartbeats 400000 in
theorem Null_any (w : World) : Calls Try.prog 26 #[] w (Gives zeroV w) := by
  go_enter Try.func26, Try.ntmps26
  go_wp2
  obtain ⟨wf, hwf⟩ : ∃ wf, wf = w.alloc (.cells #[.int .i64 0, .int .i64 0, .string ⟨#[]⟩, .slice none 0 0, .slice none 0 0] 26) := ⟨_, rfl⟩
  have QF : Hid (Bk wf w.heap.size 26 #[.int .i64 0, .int .i64 0, .string ⟨#[]⟩, .slice none 0 0, .slice none 0 0]) := Lib.hid (by rw [hwf]; exact Bk.new _ _ _)
  rw [← hwf]
  refine bodyPost_ret (results_cell_row rfl _ _ w.heap.size 26 _ (0, 0) _ rfl QF.out Try.underlying26 rfl (by kernel_rfl)) rfl ?_
  exact ⟨rfl, by rw [hwf]; exact below_one _ _⟩
set_option maxHeartbeats 400000 in
theorem Int_any (n : Int) (w : World) : Calls Try.prog 22 #[.int .i64 n] w (Gives (.agg #[.int .i64 2, .int .i64 n, .string ⟨#[]⟩, .slice none 0 0, .slice none 0 0]) w) := by
  go_enter Try.func22, Try.ntmps22
  go_wp2
  obtain ⟨wf, hwf⟩ : ∃ wf, wf = w.alloc (.cells #[.int .i64 2, .int .i64 n, .string ⟨#[]⟩, .slice none 0 0, .slice none 0 0] 26) := ⟨_, rfl⟩
  have QF : Hid (Bk wf w.heap.size 26 #[.int .i64 2, .int .i64 n, .string ⟨#[]⟩, .slice none 0 0, .slice none 0 0]) := Lib.hid (by rw [hwf]; exact Bk.new _ _ _)
  rw [← hwf]
  refine bodyPost_ret (results_cell_row rfl _ _ w.heap.size 26 _ (0, 0) _ rfl QF.out Try.underlying26 rfl (by kernel_rfl)) rfl ?_
  exact ⟨rfl, by rw [hwf]; exact below_one _ _⟩
set_option maxHeartbeats 400000 in
theorem Text_any (s : ByteArray) (w : World) : Calls Try.prog 18 #[.string s] w (Gives (.agg #[.int .i64 3, .int .i64 0, .string s, .slice none 0 0, .slice none 0 0]) w) := by
  go_enter Try.func18, Try.ntmps18
  go_wp2
  obtain ⟨wf, hwf⟩ : ∃ wf, wf = w.alloc (.cells #[.int .i64 3, .int .i64 0, .string s, .slice none 0 0, .slice none 0 0] 26) := ⟨_, rfl⟩
  have QF : Hid (Bk wf w.heap.size 26 #[.int .i64 3, .int .i64 0, .string s, .slice none 0 0, .slice none 0 0]) := Lib.hid (by rw [hwf]; exact Bk.new _ _ _)
  rw [← hwf]
  refine bodyPost_ret (results_cell_row rfl _ _ w.heap.size 26 _ (0, 0) _ rfl QF.out Try.underlying26 rfl (by kernel_rfl)) rfl ?_
  exact ⟨rfl, by rw [hwf]; exact below_one _ _⟩

/-- a value and an error -/
def MakesE (x : VT) (r : Int) (w : World) (e : Ending) (w' : World) : Prop := ∃ v, e = .returned (.tuple #[v, .int .i64 r]) ∧ Ownd w' w.heap.size x v ∧ Below w.heap.size w w'
theorem zero_ownd (w : World) (lo : Nat) : Ownd w lo nullT zeroV := by
  unfold nullT
  rw [Ownd]
  exact ⟨none, 0, none, 0, [], rfl, by omega, by omega, by decide, World.ownsRow_nil _ _ _ _, by rw [OwnC], World.ownsRow_nil _ _ _ _, fun s h => by cases h⟩

/-- limited's answer and its error -/
def limT (x : VT) : VT := if x.within = true then x else nullT
def limE (x : VT) : Int := if x.within = true then 0 else 6
theorem limT_yes {x : VT} (h : x.within = true) : limT x = x ∧ limE x = 0 := by unfold limT limE; rw [if_pos h, if_pos h]; exact ⟨rfl, rfl⟩
theorem limT_no {x : VT} (h : x.within = false) : limT x = nullT ∧ limE x = 6 := by unfold limT limE; rw [h]; exact ⟨rfl, rfl⟩

set_option maxRecDepth 100000 in
set_option maxHeartbeats 1000000 in
theorem limited_any {x : VT} {v : Value} {w : World} (h : Lies w (Lo w) x v) (hr : x.all reachF = true) :
    Calls Try.prog 61 #[v] w (MakesE (limT x) (limE x) w) := by
  have HC := Lib.hid (fun (w' : World) (hb : Below w.heap.size w w') => Copy_any (h.below hb) hr)
  have HT := Lib.hid (fun (w' : World) (hb : Below w.heap.size w w') => within_any (h.below hb))
  obtain ⟨k, i, t, its, ks⟩ := x
  obtain ⟨A, c, A', c', rfl, _, _, _, _, _, _, _, _, _⟩ := h.open
  obtain ⟨w2, hw2⟩ : ∃ w2, w2 = (w.alloc (.cells #[.int .i64 k, .int .i64 i, .string t, .slice A its.length c, .slice A' ks.length c'] 26)).alloc (.cells #[.int .i64 0, .int .i64 0, .string ⟨#[]⟩, .slice none 0 0, .slice none 0 0] 26) := ⟨_, rfl⟩
  have B2 : Hid (Below w.heap.size w w2) := Lib.hid (by rw [hw2]; exact (below_one _ _).trans (Below.alloc (Below.refl _ _) (by simp) _))
  have P2 : Hid (Bk w2 w.heap.size 26 #[.int .i64 k, .int .i64 i, .string t, .slice A its.length c, .slice A' ks.length c']) := Lib.hid (by rw [hw2]; exact (Bk.new _ _ _).alloc _)
  have Q2 : Hid (Bk w2 (w.heap.size + 1) 26 #[.int .i64 0, .int .i64 0, .string ⟨#[]⟩, .slice none 0 0, .slice none 0 0]) := Lib.hid (by rw [hw2]; have := Bk.new (w.alloc (.cells #[.int .i64 k, .int .i64 i, .string t, .slice A its.length c, .slice A' ks.length c'] 26)) 26 #[.int .i64 0, .int .i64 0, .string ⟨#[]⟩, .slice none 0 0, .slice none 0 0]; simpa using this)
  have HW := Lib.hid hw2
  have H1 := Lib.hid (HT.out w2 B2.out)
  have LY := Lib.hid (limT_yes (x := VT.mk k i t its ks))
  have LN := Lib.hid (limT_no (x := VT.mk k i t its ks))
  clear h hw2 hr
  generalize hx : VT.mk k i t its ks = x at *
  have HX := Lib.hid hx
  clear hx
  generalize x.within = b at *
  unfold vag at *
  go_enter Try.func61, Try.ntmps61
  go_wp2_with fail
  rw [← HW.out]
  refine (H1.out).mono ?_
  rintro e w3 ⟨rfl, hb⟩
  have P3 := Lib.hid (P2.out.below hb P2.out.lt)
  have Q3 := Lib.hid (Q2.out.below hb Q2.out.lt)
  have B3 := Lib.hid (below_next B2.out hb)
  clear hb
  cases b with
  | true =>
    have L := Lib.hid (LY.out rfl)
    clear LY LN
    have H2 := Lib.hid (HC.out w3 B3.out)
    have a0 := P3.out.cell 0
    have a1 := P3.out.cell 1
    have a2 := P3.out.cell 2
    have a3 := P3.out.cell 3
    have a4 := P3.out.cell 4
    go_wp2_with fail
    refine (H2.out).mono ?_
    rintro e w4 ⟨v, rfl, hov, hb⟩
    have Q4 := Lib.hid (Q3.out.below hb Q3.out.lt)
    have B4 := Lib.hid (below_next B3.out hb)
    obtain ⟨k2, i2, t2, D, n3, c3, D', n4, c4, rfl⟩ := hov.form
    have OV := Lib.hid hov
    have LT3 := Lib.hid Q3.out.lt
    have q0 := Q4.out.cell 0
    have q1 := Q4.out.cell 1
    have q2 := Q4.out.cell 2
    have q3 := Q4.out.cell 3
    have q4 := Q4.out.cell 4
    have f0 := Q4.out.frozen 0
    have f1 := Q4.out.frozen 1
    have f2 := Q4.out.frozen 2
    have f3 := Q4.out.frozen 3
    have f4 := Q4.out.frozen 4
    clear hb hov a0 a1 a2 a3 a4
    go_wp2
    obtain ⟨wf, hwf⟩ : ∃ wf, wf = ((((w4.setCell ⟨w.heap.size + 1, 0, none⟩ (.int .i64 k2)).setCell ⟨w.heap.size + 1, 1, none⟩ (.int .i64 i2)).setCell ⟨w.heap.size + 1, 2, none⟩ (.string t2)).setCell ⟨w.heap.size + 1, 3, none⟩ (.slice D n3 c3)).setCell ⟨w.heap.size + 1, 4, none⟩ (.slice D' n4 c4) := ⟨_, rfl⟩
    have QF : Hid (Bk wf (w.heap.size + 1) 26 #[.int .i64 k2, .int .i64 i2, .string t2, .slice D n3 c3, .slice D' n4 c4]) := Lib.hid (by rw [hwf]; exact ((((Q4.out.put 0 _).put 1 _).put 2 _).put 3 _).put 4 _)
    have SF : Hid (∀ b, b ≠ w.heap.size + 1 → wf.heap[b]? = w4.heap[b]?) := Lib.hid (fun b hb => by
      rw [hwf]; exact ((((Below.heap_setCell _ _ _ _ hb).trans (Below.heap_setCell _ _ _ _ hb)).trans (Below.heap_setCell _ _ _ _ hb)).trans (Below.heap_setCell _ _ _ _ hb)).trans (Below.heap_setCell _ _ _ _ hb))
    have BF : Hid (Below w.heap.size w wf) := Lib.hid (by
      rw [hwf]
      exact ((((B4.out.setCell (p := ⟨w.heap.size + 1, 0, none⟩) (by show w.heap.size ≤ w.heap.size + 1; omega) _).setCell (p := ⟨w.heap.size + 1, 1, none⟩) (by show w.heap.size ≤ w.heap.size + 1; omega) _).setCell (p := ⟨w.heap.size + 1, 2, none⟩) (by show w.heap.size ≤ w.heap.size + 1; omega) _).setCell (p := ⟨w.heap.size + 1, 3, none⟩) (by show w.heap.size ≤ w.heap.size + 1; omega) _).setCell (p := ⟨w.heap.size + 1, 4, none⟩) (by show w.heap.size ≤ w.heap.size + 1; omega) _)
    rw [← hwf]
    refine bodyPost_ret (results_row2 rfl _ _ (w.heap.size + 1) 26 _ (0, 0) _ rfl QF.out Try.underlying26 rfl (by kernel_rfl)) rfl ?_
    rw [L.out.1, L.out.2]
    exact ⟨_, rfl, (OV.out.keep (fun b h1 _ => SF.out b (by have := LT3.out; omega))).mono (by have := LT3.out; omega), BF.out⟩
  | false =>
    have L := Lib.hid (LN.out rfl)
    clear LY LN
    go_wp2_with fail
    refine (Null_any w3).mono ?_
    unfold zeroV
    rintro e w4 ⟨rfl, hb⟩
    have Q4 := Lib.hid (Q3.out.below hb Q3.out.lt)
    have B4 := Lib.hid (below_next B3.out hb)
    have q0 := Q4.out.cell 0
    have q1 := Q4.out.cell 1
    have q2 := Q4.out.cell 2
    have q3 := Q4.out.cell 3
    have q4 := Q4.out.cell 4
    have f0 := Q4.out.frozen 0
    have f1 := Q4.out.frozen 1
    have f2 := Q4.out.frozen 2
    have f3 := Q4.out.frozen 3
    have f4 := Q4.out.frozen 4
    clear hb
    go_wp2
    obtain ⟨wf, hwf⟩ : ∃ wf, wf = ((((w4.setCell ⟨w.heap.size + 1, 0, none⟩ (.int .i64 0)).setCell ⟨w.heap.size + 1, 1, none⟩ (.int .i64 0)).setCell ⟨w.heap.size + 1, 2, none⟩ (.string ⟨#[]⟩)).setCell ⟨w.heap.size + 1, 3, none⟩ (.slice none 0 0)).setCell ⟨w.heap.size + 1, 4, none⟩ (.slice none 0 0) := ⟨_, rfl⟩
    have QF : Hid (Bk wf (w.heap.size + 1) 26 #[.int .i64 0, .int .i64 0, .string ⟨#[]⟩, .slice none 0 0, .slice none 0 0]) := Lib.hid (by rw [hwf]; exact ((((Q4.out.put 0 _).put 1 _).put 2 _).put 3 _).put 4 _)
    have BF : Hid (Below w.heap.size w wf) := Lib.hid (by
      rw [hwf]
      exact ((((B4.out.setCell (p := ⟨w.heap.size + 1, 0, none⟩) (by show w.heap.size ≤ w.heap.size + 1; omega) _).setCell (p := ⟨w.heap.size + 1, 1, none⟩) (by show w.heap.size ≤ w.heap.size + 1; omega) _).setCell (p := ⟨w.heap.size + 1, 2, none⟩) (by show w.heap.size ≤ w.heap.size + 1; omega) _).setCell (p := ⟨w.heap.size + 1, 3, none⟩) (by show w.heap.size ≤ w.heap.size + 1; omega) _).setCell (p := ⟨w.heap.size + 1, 4, none⟩) (by show w.heap.size ≤ w.heap.size + 1; omega) _)
    rw [← hwf]
    refine bodyPost_ret (results_row2 rfl _ _ (w.heap.size + 1) 26 _ (0, 0) _ rfl QF.out Try.underlying26 rfl (by kernel_rfl)) rfl ?_
    rw [L.out.1, L.out.2]
    exact ⟨_, rfl, zero_ownd _ _, BF.out⟩
end Go.Proofs.Ytidinbeanaifmaa
