/-
  ValueOrders returns true for every input, and its arguments read afterwards as they read before.
-/
import Derived.Test.YtoppbbhhbojmcaaBL
import Derived.Test.YtoppbbhhbojmcaaBH
import Derived.Test.YtoppbbhhbojmcaaBM
namespace Go.Proofs.Ytoppbbhhbojmcaa
open Go.RowKit

set_option maxRecDepth 100000 in
set_option maxHeartbeats 4000000 in
theorem ValueOrders_walk (x : VT) (v : Value) (y : VT) (u : Value) (w : World) (hv : Lies w (Lo w) x v) (hu : Lies w (Lo w) y u) : Calls Try.prog 5 #[v, u] w (Gives (.bool true) w) := by
  have HX := Lib.hid (fun (w' : World) (hb : Below w.heap.size w w') => Few_any 300 (by omega) (by omega) (hv.below hb))
  have HY := Lib.hid (fun (w' : World) (hb : Below w.heap.size w w') => Few_any 300 (by omega) (by omega) (hu.below hb))
  have HV := Lib.hid (fun (w' : World) (hb : Below w.heap.size w w') => valOrder_any (hv.below hb) (hu.below hb))
  have HR := Lib.hid (fun (w' : World) (hb : Below w.heap.size w w') => refOrder_any (hv.below hb) (hu.below hb))
  obtain ⟨k, i, t, its, ks⟩ := x
  obtain ⟨k', i', t', jts, ls⟩ := y
  obtain ⟨A, c, A', c', rfl, _, _, _, _, _, _, _, _, _⟩ := hv.open
  obtain ⟨D, e, D', e', rfl, _, _, _, _, _, _, _, _, _⟩ := hu.open
  obtain ⟨w2, hw2⟩ : ∃ w2, w2 = (w.alloc (.cells #[.int .i64 k, .int .i64 i, .string t, .slice A its.length c, .slice A' ks.length c'] 26)).alloc (.cells #[.int .i64 k', .int .i64 i', .string t', .slice D jts.length e, .slice D' ls.length e'] 26) := ⟨_, rfl⟩
  have B2 : Hid (Below w.heap.size w w2) := Lib.hid (by rw [hw2]; exact (below_one _ _).trans (Below.alloc (Below.refl _ _) (by simp) _))
  have P2 : Hid (Bk w2 w.heap.size 26 #[.int .i64 k, .int .i64 i, .string t, .slice A its.length c, .slice A' ks.length c']) := Lib.hid (by rw [hw2]; exact (Bk.new _ _ _).alloc _)
  have Q2 : Hid (Bk w2 (w.heap.size + 1) 26 #[.int .i64 k', .int .i64 i', .string t', .slice D jts.length e, .slice D' ls.length e']) := Lib.hid (by rw [hw2]; have := Bk.new (w.alloc (.cells #[.int .i64 k, .int .i64 i, .string t, .slice A its.length c, .slice A' ks.length c'] 26)) 26 #[.int .i64 k', .int .i64 i', .string t', .slice D jts.length e, .slice D' ls.length e']; simpa using this)
  have H1 := Lib.hid (HX.out w2 B2.out)
  have HW := Lib.hid hw2
  clear hv hu hw2
  generalize decide (0 ≤ (VT.mk k i t its ks).few 300) = p at *
  generalize decide (0 ≤ (VT.mk k' i' t' jts ls).few 300) = q at *
  generalize (VT.mk k i t its ks).ord (.mk k' i' t' jts ls) = z at *
  unfold vag at *
  go_enter Try.func5, Try.ntmps5
  go_wp2_with fail
  rw [← HW.out]
  refine (H1.out).mono ?_
  rintro e0 w3 ⟨rfl, hb⟩
  have P3 := Lib.hid (P2.out.below hb P2.out.lt)
  have Q3 := Lib.hid (Q2.out.below hb Q2.out.lt)
  have B3 := Lib.hid (below_next B2.out hb)
  clear hb
  cases p with
  | false =>
    go_wp2_with fail
    refine (works_any w3).mono ?_
    rintro e0 w4 ⟨rfl, hb⟩
    have B4 := Lib.hid (below_next B3.out hb)
    clear hb
    go_wp2
    go_ret
    exact ⟨rfl, B4.out⟩
  | true =>
    have H2 := Lib.hid (HY.out w3 B3.out)
    have q0 := Q3.out.cell 0
    have q1 := Q3.out.cell 1
    have q2 := Q3.out.cell 2
    have q3 := Q3.out.cell 3
    have q4 := Q3.out.cell 4
    go_wp2_with fail
    refine (H2.out).mono ?_
    rintro e0 w4 ⟨rfl, hb⟩
    have P4 := Lib.hid (P3.out.below hb P3.out.lt)
    have Q4 := Lib.hid (Q3.out.below hb Q3.out.lt)
    have B4 := Lib.hid (below_next B3.out hb)
    clear hb q0 q1 q2 q3 q4
    cases q with
    | false =>
      go_wp2_with fail
      refine (works_any w4).mono ?_
      rintro e0 w5 ⟨rfl, hb⟩
      have B5 := Lib.hid (below_next B4.out hb)
      clear hb
      go_wp2
      go_ret
      exact ⟨rfl, B5.out⟩
    | true =>
      have H3 : Hid (∀ q : BelowBy w4, Calls Try.prog 37 #[.agg #[.int .i64 k, .int .i64 i, .string t, .slice A its.length c, .slice A' ks.length c'], .agg #[.int .i64 k', .int .i64 i', .string t', .slice D jts.length e, .slice D' ls.length e']] q.val (Gives (.int .i64 z) q.val)) := Lib.hid (fun q => HV.out q.val (below_next B4.out q.below))
      have H4 : Hid (∀ q : BelowBy w4, Calls Try.prog 38 #[.agg #[.int .i64 k, .int .i64 i, .string t, .slice A its.length c, .slice A' ks.length c'], .agg #[.int .i64 k', .int .i64 i', .string t', .slice D jts.length e, .slice D' ls.length e']] q.val (Gives (.int .i64 z) q.val)) := Lib.hid (fun q => HR.out q.val (below_next B4.out q.below))
      have x0 := BelowBy.cell (show w4.cell? ⟨w.heap.size, 0, none⟩ = some (.int .i64 k) from P4.out.cell 0)
      have x1 := BelowBy.cell (show w4.cell? ⟨w.heap.size, 1, none⟩ = some (.int .i64 i) from P4.out.cell 1)
      have x2 := BelowBy.cell (show w4.cell? ⟨w.heap.size, 2, none⟩ = some (.string t) from P4.out.cell 2)
      have x3 := BelowBy.cell (show w4.cell? ⟨w.heap.size, 3, none⟩ = some (.slice A its.length c) from P4.out.cell 3)
      have x4 := BelowBy.cell (show w4.cell? ⟨w.heap.size, 4, none⟩ = some (.slice A' ks.length c') from P4.out.cell 4)
      have y0 := BelowBy.cell (show w4.cell? ⟨w.heap.size + 1, 0, none⟩ = some (.int .i64 k') from Q4.out.cell 0)
      have y1 := BelowBy.cell (show w4.cell? ⟨w.heap.size + 1, 1, none⟩ = some (.int .i64 i') from Q4.out.cell 1)
      have y2 := BelowBy.cell (show w4.cell? ⟨w.heap.size + 1, 2, none⟩ = some (.string t') from Q4.out.cell 2)
      have y3 := BelowBy.cell (show w4.cell? ⟨w.heap.size + 1, 3, none⟩ = some (.slice D jts.length e) from Q4.out.cell 3)
      have y4 := BelowBy.cell (show w4.cell? ⟨w.heap.size + 1, 4, none⟩ = some (.slice D' ls.length e') from Q4.out.cell 4)
      go_wp2_with fail
      refine wp_region_gives (by kernel_rfl) (by kernel_rfl) ?_
      repeat (quiet_step ((first | (go_at_call 37; exact gives_by (H3.out _)) | (go_at_call 38; exact gives_by (H4.out _)) | (go_at_call 12; exact gives_by (works_any _)))))
      refine wpQuiet_nil ?_
      intro _ hw'
      obtain ⟨q, rfl⟩ := hw'
      go_wp2
      go_ret
      exact ⟨rfl, below_next B4.out q.below⟩
end Go.Proofs.Ytoppbbhhbojmcaa
namespace Go.Proofs.Ytoppbbhhbojmcaa.valueOrders
open Go.ChangeShapes Go.WideShapes Go.ChangeAt Go.RowKit
open Go.ChangeMaps (open_string)
set_option linter.unusedVariables false

theorem own : ownKnob Try.prog.godebug = none := by kernel_rfl
theorem laidOut : laidOutB Try.prog = true := by kernel_rfl

set_option maxRecDepth 100000 in
theorem lifted (os : Os) (started : os.Started) (H : Type) (enc : TypeId × Value → H) :
    ReturnsInHanded {} Try.checked os 5 .any (Rows.valueOrdersSpec.pre6 enc Try.prog Try.f5 Rows.valueOrdersRow.domain false) (Rows.valueOrdersSpec.post enc Try.prog Try.f5 false true false false) := by
  refine returnsInHanded_of_change (C := Try.checked) own started (by kernel_rfl) Try.func5
    (ChangeSpec.witness6 (enc := enc) (C := Try.checked) false ⟨#[], #[.agg #[.int .i64 0, .int .i64 0, .string ByteArray.empty, .slice none 0 0, .slice none 0 0], .agg #[.int .i64 0, .int .i64 0, .string ByteArray.empty, .slice none 0 0, .slice none 0 0]], []⟩ 8 (by kernel_rfl) (by kernel_rfl) (by kernel_rfl) (by kernel_rfl)) ?_
  intro W base args ds gs before hval0 hW hcnd _
  have hval : ∀ (j : Nat) t v, Try.f5.params[j]? = some t → args[j]? = some v → Value.okWide Try.prog W .any base t v := hval0
  have hW' := hW
  obtain ⟨p, q, hA0, hV, rfl, hfz, hnd⟩ := hW
  have hA : DataW.TrodAll enc Try.prog W 0 (fun _ => true) true Try.f5.params.toList args.toList ds p := hA0
  rw [Try.params5] at hA hval
  obtain ⟨v0, vs0, d0, ds0, p0, q0, hargs, rfl, rfl, h0, r0⟩ := trodAll_cons hA
  obtain ⟨v1, vs1, d1, ds1, p1, q1, rfl, rfl, rfl, h1, r1⟩ := trodAll_cons r0
  obtain ⟨rfl, rfl, rfl⟩ := trodAll_nil r1
  obtain rfl : args = #[v0, v1] := by cases args; simp_all
  obtain ⟨rfl, rfl⟩ := trodVars_none hV
  have k0 := h0
  have lt0 : ∀ x ∈ p0, x.block < W.heap.size := by obtain ⟨m, hm⟩ := k0; exact DataW.trod_lt m _ _ _ hm
  obtain ⟨x0, m0⟩ := opens.value (hval 0 26 v0 rfl rfl) h0
  have k1 := h1
  have lt1 : ∀ x ∈ p1, x.block < W.heap.size := by obtain ⟨m, hm⟩ := k1; exact DataW.trod_lt m _ _ _ hm
  obtain ⟨x1, m1⟩ := opens.value (hval 1 26 v1 rfl rfl) h1
  clear hA0 hval0
  refine (ValueOrders_walk x0 v0 x1 v1 W m0 m1).mono fun e W' ⟨he, bel⟩ => ?_
  subst he
  exact ⟨_, rfl, _, _, _, [], _, [], hW', trodAll_mk1 (shut_bool Try.underlying4 _), (trodAll_cons_mk (Below.trod laidOut (by kernel_rfl) (of_decide_eq_true (by kernel_rfl)) k0 bel lt0) (trodAll_cons_mk (Below.trod laidOut (by kernel_rfl) (of_decide_eq_true (by kernel_rfl)) k1 bel lt1) (trodAll_mk0))), rfl, bel.frame _, fun h => by cases h⟩

theorem over : Rows.valueOrdersRow.holds Try.pinned (OpenSpec.ofChange Rows.valueOrdersSpec) :=
  OpenClaim.holds_of_wide 5 Try.f5 rfl rfl rfl rfl rfl rfl rfl ⟨rfl, rfl, rfl, rfl, rfl⟩ rfl rfl rfl rfl rfl (by kernel_rfl) Try.func5 (by kernel_rfl)
    (of_decide_eq_true (by kernel_rfl)) (by unfold Func.isWrapper; first | (rw [if_pos (by decide +kernel)]; kernel_rfl) | (rw [if_neg (by decide +kernel)]; exact ⟨rfl, rfl⟩))
    (fun os started H enc _ => lifted os started H enc)

theorem proved : Rows.ValueOrdersSaid := over
end Go.Proofs.Ytoppbbhhbojmcaa.valueOrders
