/-
  ValueEncodes returns true for every input, and its arguments read afterwards as they read before.
-/
import Derived.Test.YtjbjoalinfhahaaBN
import Derived.Test.YtjbjoalinfhahaaBL
import Derived.Test.YtjbjoalinfhahaaBH
import Derived.Deep.RegionLaw
import Derived.Test.YtjbjoalinfhahaaBM
import Derived.JoinedCond
import Derived.Test.YtjbjoalinfhahaaRows
namespace Go.Proofs.Ytjbjoalinfhahaa
open Go.RowKit

set_option maxRecDepth 100000 in
set_option maxHeartbeats 4000000 in
theorem ValueEncodes_walk (A : Option Addr) (n c : Nat) (l : List UInt8) (x : VT) (v : Value) (w : World) (hr : Rb w w.heap.size A n l) (_ : n ≤ c) (_ : c ≤ maxLen) (hv : Lies w (Lo w) x v) (hwt : x.wt ≤ 41943040) :
    Calls Try.prog 8 #[.slice A n c, v] w (Gives (.bool true) w) := by
  have HX := Lib.hid (fun (w' : World) (hb : Below w.heap.size w w') => Few_any 300 (by omega) (by omega) (hv.below hb))
  have E1 := Lib.hid (fun (w' : World) (hb : Below w.heap.size w w') (hn : n + x.enc.length ≤ 30000000000000) => valEncode_any (c := c) (hr.below hb) hb.size (hv.below hb) hn)
  have E2 := Lib.hid (fun (w' : World) (hb : Below w.heap.size w w') (hn : n + x.enc.length ≤ 30000000000000) => refEncode_any (c := c) (hr.below hb) hb.size (hv.below hb) hn)
  have LN := Lib.hid (show x.enc.length ≤ 41943040 by have := enc_wt x; omega)
  obtain ⟨k, i, t, its, ks⟩ := x
  obtain ⟨D, d, D', d', rfl, _, _, _, _, _, _, _, _, _⟩ := hv.open
  clear hv hr hwt
  obtain ⟨w1, hw1⟩ : ∃ w1, w1 = w.alloc (.cells #[.int .i64 k, .int .i64 i, .string t, .slice D its.length d, .slice D' ks.length d'] 26) := ⟨_, rfl⟩
  have P1 : Hid (Bk w1 w.heap.size 26 #[.int .i64 k, .int .i64 i, .string t, .slice D its.length d, .slice D' ks.length d']) := Lib.hid (by rw [hw1]; exact Bk.new _ _ _)
  have B1 : Hid (Below w.heap.size w w1) := Lib.hid (by rw [hw1]; exact below_one _ _)
  have H1 := Lib.hid (HX.out w1 B1.out)
  have HW := Lib.hid hw1
  clear hw1 HX
  generalize VT.mk k i t its ks = x at *
  generalize decide (0 ≤ x.few 300) = p at *
  by_cases hbig : 100 < n
  · have t0 : decide ((100 : Int) < (n : Int)) = true := by rw [decide_eq_true_eq]; omega
    clear hbig
    unfold vag at *
    go_enter Try.func8, Try.ntmps8
    go_wp2_with fail
    rw [← HW.out]
    refine (works_any w1).mono ?_
    rintro e0 w4 ⟨rfl, hb⟩
    have B4 := Lib.hid (below_next B1.out hb)
    clear hb
    go_wp2
    go_ret
    exact ⟨rfl, B4.out⟩
  · have t0 : decide ((100 : Int) < (n : Int)) = false := by rw [decide_eq_false_iff_not]; omega
    have HN := Lib.hid (show n + x.enc.length ≤ 30000000000000 by have := LN.out; omega)
    clear hbig
    unfold vag at *
    go_enter Try.func8, Try.ntmps8
    go_wp2_with fail
    rw [← HW.out]
    refine (H1.out).mono ?_
    rintro e0 w3 ⟨rfl, hb⟩
    have P3 := Lib.hid (P1.out.below hb P1.out.lt)
    have B3 := Lib.hid (below_next B1.out hb)
    clear hb
    cases p with
    | false =>
      go_wp2_with fail
      refine (works_any w3).mono ?_
      rintro e0 w4 ⟨rfl, hb⟩
      have B4 := Lib.hid (below_next B3.out hb)
      clear hb
      go_wp2
      go_ret
      exact ⟨rfl, B4.out⟩
    | true =>
      have F1 := Lib.hid (fun (w' : World) (hb : Below w3.heap.size w3 w') => E1.out w' (below_next B3.out hb) HN.out)
      have F2 := Lib.hid (fun (w' : World) (hb : Below w3.heap.size w3 w') => E2.out w' (below_next B3.out hb) HN.out)
      clear E1 E2 HN LN H1
      generalize l ++ encOf x = r at *
      obtain ⟨s, hs⟩ : ∃ s : ByteArray, s = ⟨r.toArray⟩ := ⟨_, rfl⟩
      have HCV : Hid (∀ (W : World) (A : Option Addr) (n c B : Nat), Rb W B A n r → (convert 50 9 (.slice A n c)).run Try.prog W = .ok (.string s) W) := Lib.hid (fun W A n c B h => by rw [hs]; exact conv_rb c h)
      have PL := Lib.hid P3.out.lt
      have teq : (s.toList == s.toList) = true := by simp
      clear hs
      have a0 := P3.out.cell 0
      change _ = some (Value.int .i64 k) at a0
      have a1 := P3.out.cell 1
      change _ = some (Value.int .i64 i) at a1
      have a2 := P3.out.cell 2
      change _ = some (Value.string t) at a2
      have a3 := P3.out.cell 3
      change _ = some (Value.slice D its.length d) at a3
      have a4 := P3.out.cell 4
      change _ = some (Value.slice D' ks.length d') at a4
      have MV : Hid (∀ W, Below w3.heap.size w3 W → W.cell? ⟨w.heap.size, 0, none⟩ = some (.int .i64 k) ∧ W.cell? ⟨w.heap.size, 1, none⟩ = some (.int .i64 i) ∧ W.cell? ⟨w.heap.size, 2, none⟩ = some (.string t) ∧ W.cell? ⟨w.heap.size, 3, none⟩ = some (.slice D its.length d) ∧ W.cell? ⟨w.heap.size, 4, none⟩ = some (.slice D' ks.length d')) := Lib.hid (fun W hb => by
        have P := P3.out.below hb PL.out
        exact ⟨P.cell 0, P.cell 1, P.cell 2, P.cell 3, P.cell 4⟩)
      go_wp2_with fail
      go_region_law (first
          | (go_simp; go_at_call 46; refine (F1.out _ (by first | exact Below.refl _ _ | exact (Below.refl _ _).drew)).mono ?_; intro _ wB hq; obtain ⟨A2, n2, c2, rfl, hl2, hc2, hm2, R2, O2, hb0⟩ := own_named hq; clear hq; have BB : Hid (Below w3.heap.size w3 wB) := Lib.hid ⟨hb0.out.os, hb0.out.tape, hb0.out.output, hb0.out.size, hb0.out.block⟩; obtain ⟨b0, b1, b2, b3, b4⟩ := MV.out wB BB.out; have CV1 := HCV.out wB A2 n2 c2 wB.heap.size R2.out)
          | (go_simp; go_at_call 47; refine (F2.out _ BB.out).mono ?_; intro _ wC hq; obtain ⟨A5, n5, c5, rfl, hl5, hc5, hm5, R5, O5, hb1⟩ := own_named hq; clear hq; have BC : Hid (Below w3.heap.size w3 wC) := Lib.hid (below_next BB.out hb1.out); have CV2 := HCV.out wC A2 n2 c2 wB.heap.size (R2.out.below hb1.out); have CV3 := HCV.out wC A5 n5 c5 wC.heap.size R5.out)
          | (go_simp; go_at_call 12; refine (works_any _).mono ?_; rintro _ wD ⟨rfl, hb2⟩; have BD : Hid (Below w3.heap.size w3 wD) := Lib.hid (below_next BC.out hb2)))
      all_goals (
        go_wp2
        go_ret
        exact ⟨rfl, below_next B3.out BD.out⟩)
end Go.Proofs.Ytjbjoalinfhahaa
namespace Go.Proofs.Ytjbjoalinfhahaa.valueEncodes
open Go.ChangeShapes Go.WideShapes Go.ChangeAt Go.RowKit
open Go.ChangeMaps (open_string)
set_option linter.unusedVariables false

theorem own : ownKnob Try.prog.godebug = none := by kernel_rfl
theorem laidOut : laidOutB Try.prog = true := by kernel_rfl

set_option maxRecDepth 100000 in
theorem contract (H : Type) (enc : TypeId × Value → H) (W : World) (base : Nat) (args : Array Value) (ds gs : List (DataW H)) (before : List MemPlace)
    (hval0 : ∀ (j : Nat) t v, Try.f8.params[j]? = some t → args[j]? = some v → Value.okWide Try.prog W .any base t v)
    (hW : DataW.Whole enc Try.prog Try.f8.params.toList Rows.valueEncodesSpec.vars false W args.toList ds gs before) (hk : Rows.uptoSmall H (ds ++ gs) = true) :
    Calls Try.prog 8 args W fun e W' => ∃ v, e = .returned v ∧ Rows.valueEncodesSpec.post enc Try.prog Try.f8 false true false false W args v W' := by
  have hval : ∀ (j : Nat) t v, Try.f8.params[j]? = some t → args[j]? = some v → Value.okWide Try.prog W .any base t v := hval0
  have hW' := hW
  obtain ⟨p, q, hA0, hV, rfl, hfz, hnd⟩ := hW
  have hA : DataW.TrodAll enc Try.prog W 0 (fun _ => true) true Try.f8.params.toList args.toList ds p := hA0
  rw [Try.params8] at hA hval
  obtain ⟨v0, vs0, d0, ds0, p0, q0, hargs, rfl, rfl, h0, r0⟩ := trodAll_cons hA
  obtain ⟨v1, vs1, d1, ds1, p1, q1, rfl, rfl, rfl, h1, r1⟩ := trodAll_cons r0
  obtain ⟨rfl, rfl, rfl⟩ := trodAll_nil r1
  obtain rfl : args = #[v0, v1] := by cases args; simp_all
  obtain ⟨rfl, rfl⟩ := trodVars_none hV
  have hbk := of_decide_eq_true hk
  simp only [List.append_nil, Rows.uptoBulkAll] at hbk
  clear hk
  have k0 := h0
  have lt0 : ∀ x ∈ p0, x.block < W.heap.size := by obtain ⟨m, hm⟩ := k0; exact DataW.trod_lt m _ _ _ hm
  obtain ⟨A0, n0, c0, l0, rfl, w0, m0, u0⟩ := opens.bytes Try.underlying50 Try.underlying5 (by kernel_rfl) (hval 0 50 v0 rfl rfl) h0
  have k1 := h1
  have lt1 : ∀ x ∈ p1, x.block < W.heap.size := by obtain ⟨m, hm⟩ := k1; exact DataW.trod_lt m _ _ _ hm
  obtain ⟨x1, m1, n1⟩ := opens.value_bulk (hval 1 26 v1 rfl rfl) h1
  clear hA0 hval0
  refine (ValueEncodes_walk A0 n0 c0 l0 x1 v1 W w0 m0 u0 m1 (by omega)).mono fun e W' ⟨he, bel⟩ => ?_
  subst he
  exact ⟨_, rfl, _, _, _, [], _, [], hW', trodAll_mk1 (shut_bool Try.underlying4 _), (trodAll_cons_mk (Below.trod laidOut (by kernel_rfl) (of_decide_eq_true (by kernel_rfl)) k0 bel lt0) (trodAll_cons_mk (Below.trod laidOut (by kernel_rfl) (of_decide_eq_true (by kernel_rfl)) k1 bel lt1) (trodAll_mk0))), rfl, bel.frame _, fun h => by cases h⟩

set_option maxRecDepth 100000 in
theorem lifted (os : Os) (started : os.Started) (H : Type) (enc : TypeId × Value → H) (Fi : Stop.Interp) :
    ReturnsInHanded {} Try.checked os 8 .any ((Rows.OpenSpec.upto Rows.valueEncodesSpec).pre6 enc Try.prog Try.f8 Rows.valueEncodesUptoRow.domain false) (((Rows.OpenSpec.upto Rows.valueEncodesSpec).at Fi).post enc Try.prog Try.f8 false true false false) := by
  refine returnsInHanded_of_cond (C := Try.checked) (s := Rows.OpenSpec.upto Rows.valueEncodesSpec) (k := Rows.uptoSmall) rfl own started (by kernel_rfl) Try.func8
    (OpenSpec.witness (enc := enc) (C := Try.checked) (s := Rows.OpenSpec.upto Rows.valueEncodesSpec) (k := Rows.uptoSmall) rfl false ⟨#[], #[.slice none 0 0, .agg #[.int .i64 0, .int .i64 0, .string ByteArray.empty, .slice none 0 0, .slice none 0 0]], []⟩ 8 (by kernel_rfl) (by kernel_rfl) (by kernel_rfl)
      (x := ([.nil, .agg [.lit (.int .i64 0), .lit (.int .i64 0), .lit (.string []), .nil, .nil]], [], [])) (by kernel_rfl) rfl (by kernel_rfl)) ?_
  intro W base args ds gs before hval hW _ hk _
  exact contract H enc W base args ds gs before hval hW hk

theorem over : Rows.valueEncodesUptoRow.holds Try.pinned (Rows.OpenSpec.upto Rows.valueEncodesSpec) :=
  OpenClaim.holds_of_cond 8 Try.f8 rfl rfl rfl rfl rfl rfl rfl ⟨rfl, rfl, rfl, rfl, rfl⟩ rfl rfl rfl rfl rfl (by kernel_rfl) Try.func8 (by kernel_rfl)
    (of_decide_eq_true (by kernel_rfl)) (by unfold Func.isWrapper; first | (rw [if_pos (by decide +kernel)]; kernel_rfl) | (rw [if_neg (by decide +kernel)]; exact ⟨rfl, rfl⟩))
    (fun os started H enc _ Fi => lifted os started H enc Fi)

theorem proved : Rows.ValueEncodesUptoSaid := over
end Go.Proofs.Ytjbjoalinfhahaa.valueEncodes
