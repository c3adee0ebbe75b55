/-
  ValueDecodes returns true for every input, and its arguments read afterwards as they read before.
-/
import Derived.Test.YtidinbeanaifmaaCAH
import Derived.Test.YtidinbeanaifmaaCAI
namespace Go.Proofs.Ytidinbeanaifmaa
open Go.RowKit

/-- the value and the state behind decoding -/
def resT : DR VT → VT
  | .ok x _ _ => x
  | .err _ => nullT
def resE : DR VT → Int
  | .ok _ _ _ => 0
  | .err e => e
def resL : DR VT → Int
  | .ok _ l _ => (l.length : Nat)
  | .err _ => 0
theorem DcP.flat {RD : World → Nat → List UInt8 → Int → Prop} {r : DR VT} {p : Nat} {w w' : World} {en : Ending} (h : DcP RD r p w en w') :
    ∃ (k i : Int) (t : ByteArray) (A : Option Addr) (n c : Nat) (A' : Option Addr) (n' c' : Nat), en = .returned (.agg #[.int .i64 k, .int .i64 i, .string t, .slice A n c, .slice A' n' c']) ∧ FrS (fun b => b = p) w w' ∧
      (∃ l', RD w' p l' (resE r) ∧ leftOf l' (resE r) = resL r) ∧ Lies w' (New w w') (resT r) (.agg #[.int .i64 k, .int .i64 i, .string t, .slice A n c, .slice A' n' c']) := by
  obtain ⟨k, i, t, A, n, c, A', n', c', he, hf, hx⟩ := h
  refine ⟨k, i, t, A, n, c, A', n', c', he, hf.out, ?_⟩
  rcases hx with ⟨x, l', m, hr, hw, hl⟩ | ⟨e, l', hr, hne, hw, hl⟩
  · rw [hr.out]
    exact ⟨⟨l', hw.out, by simp [leftOf, resE, resL]⟩, hl.out⟩
  · rw [hr.out]
    exact ⟨⟨l', hw.out, by simp [leftOf, resE, resL, hne]⟩, hl.out⟩

set_option maxRecDepth 100000 in
set_option maxHeartbeats 4000000 in
theorem ValueDecodes_walk (A : Option Addr) (n c : Nat) (l : List UInt8) (w : World) (hr : Rb w w.heap.size A n l) (_ : n ≤ c) (_ : c ≤ maxLen) :
    Calls Try.prog 9 #[.slice A n c] w (Gives (.bool true) w) := by
  have HR := Lib.hid hr
  clear hr
  by_cases hbig : 20000 < n
  · go_enter Try.func9, Try.ntmps9
    go_wp2_with fail
    refine (works_any w).mono ?_
    rintro e0 w4 ⟨rfl, hb⟩
    have B4 := Lib.hid hb
    clear hb
    go_wp2
    go_ret
    exact ⟨rfl, B4.out⟩
  · have HL : Hid (l.length ≤ 4611686018427387904) := Lib.hid (by have := HR.out.len; omega)
    have t0 : decide ((20000 : Int) < (n : Int)) = false := by rw [decide_eq_false_iff_not]; omega
    go_enter Try.func9, Try.ntmps9
    go_wp2_with fail
    refine (wOpen_any HR.out (Nat.le_refl _) (by omega)).mono ?_
    rintro e1 w1 ⟨p, rfl, hp, hpl, hb⟩
    have P1 := Lib.hid hp
    have B1 := Lib.hid hb
    have L1 := Lib.hid hpl
    clear hp hpl hb
    go_wp2_with fail
    refine (rOpen_any (HR.out.below B1.out) B1.out.size (by omega)).mono ?_
    rintro e1 w2 ⟨q, rfl, hq, hql, hb⟩
    have P2 := Lib.hid (P1.out.below hb)
    have Q2 := Lib.hid hq
    have NE : Hid (q ≠ p ∧ w.heap.size ≤ q) := Lib.hid (by have := P1.out.lt; have := B1.out.size; exact ⟨by omega, by omega⟩)
    have B2 := Lib.hid (below_next B1.out hb)
    clear hq hql hb
    go_wp2_with fail
    refine (wDecode_any P2.out HL.out).mono ?_
    rintro e1 w3 hd
    obtain ⟨k1, i1, t1, A1, n1, c1, A2, n2, c2, rfl, hf, ⟨lw, hw, hlw⟩, hlies⟩ := hd.flat
    have F3 := Lib.hid hf
    have P3 := Lib.hid hw
    have LW := Lib.hid hlw
    have V3 := Lib.hid hlies
    have Q3 := Lib.hid (Q2.out.frs hf (fun e => NE.out.1 e) (fun b hb _ => by subst hb; obtain ⟨_, _, _, _, hk, _⟩ := P2.out; exact ⟨_, _, hk, by decide⟩))
    clear hd hf hw hlw hlies
    go_wp2_with fail
    refine (rDecode_any Q3.out HL.out).mono ?_
    rintro e1 w4 hd
    obtain ⟨k3, i3, t3, A3, n3, c3, A4, n4, c4, rfl, hf, ⟨lr, hw, hlr⟩, hlies⟩ := hd.flat
    have F4 := Lib.hid hf
    have Q4 := Lib.hid hw
    have LR := Lib.hid hlr
    have X4 := Lib.hid hlies
    have P4 := Lib.hid (P3.out.frs hf (fun e => NE.out.1 e.symm) (fun b hb _ => by subst hb; obtain ⟨_, _, _, _, hk, _⟩ := Q3.out; exact ⟨_, _, hk, by decide⟩))
    have V4 : Hid (Lies w4 (New w2 w4) (resT (decV 16 0 l)) (.agg #[.int .i64 k1, .int .i64 i1, .string t1, .slice A1 n1 c1, .slice A2 n2 c2])) := Lib.hid (V3.out.keep (fun a ha => hf.cell ha.2 (fun e => by have := ha.1; have := Q2.out.lt; omega)) (fun b hb => ⟨hb.1, Nat.lt_of_lt_of_le hb.2 hf.size⟩))
    clear hd hf hw hlr hlies
    have B4 : Hid (Below w.heap.size w w4) := Lib.hid ((B2.out.trans (F3.out.below B2.out.size (fun b hb => by subst hb; exact L1.out))).trans (F4.out.below (Nat.le_trans B2.out.size F3.out.size) (fun b hb => by subst hb; exact NE.out.2)))
    go_upto_region 5 with (fail)
    obtain ⟨w5, hw5⟩ : ∃ w5, w5 = (w4.alloc (.cells #[.int .i64 k1, .int .i64 i1, .string t1, .slice A1 n1 c1, .slice A2 n2 c2] 26)).alloc (.cells #[.int .i64 k3, .int .i64 i3, .string t3, .slice A3 n3 c3, .slice A4 n4 c4] 26) := ⟨_, rfl⟩
    have b5 : Below w4.heap.size w4 w5 := by rw [hw5]; exact ((Below.refl _ _).alloc (Nat.le_refl _) _).alloc (by simp) _
    have B5 := Lib.hid (below_next B4.out b5)
    have V5 : Hid (Bk w5 w4.heap.size 26 #[.int .i64 k1, .int .i64 i1, .string t1, .slice A1 n1 c1, .slice A2 n2 c2]) := Lib.hid (by rw [hw5]; exact (Bk.new w4 _ _).alloc _)
    have X5 : Hid (Bk w5 (w4.heap.size + 1) 26 #[.int .i64 k3, .int .i64 i3, .string t3, .slice A3 n3 c3, .slice A4 n4 c4]) := Lib.hid (by rw [hw5]; have h := Bk.new (w4.alloc (.cells #[.int .i64 k1, .int .i64 i1, .string t1, .slice A1 n1 c1, .slice A2 n2 c2] 26)) 26 #[.int .i64 k3, .int .i64 i3, .string t3, .slice A3 n3 c3, .slice A4 n4 c4]; simpa using h)
    have P5 := Lib.hid (P4.out.below b5)
    have Q5 := Lib.hid (Q4.out.below b5)
    have LV : Hid (Lies w5 (Lo w5) (resT (decV 16 0 l)) (.agg #[.int .i64 k1, .int .i64 i1, .string t1, .slice A1 n1 c1, .slice A2 n2 c2])) := Lib.hid (V4.out.keep (fun a ha => b5.cell ha.2) (fun b hb => Nat.lt_of_lt_of_le hb.2 b5.size))
    have LX : Hid (Lies w5 (Lo w5) (resT (decV 16 0 l)) (.agg #[.int .i64 k3, .int .i64 i3, .string t3, .slice A3 n3 c3, .slice A4 n4 c4])) := Lib.hid (X4.out.keep (fun a ha => b5.cell ha.2) (fun b hb => Nat.lt_of_lt_of_le hb.2 b5.size))
    have SM := Lib.hid (by have h := refSame_any LV.out LX.out; rwa [eqB_true rfl] at h : Calls Try.prog 15 #[.agg #[.int .i64 k1, .int .i64 i1, .string t1, .slice A1 n1 c1, .slice A2 n2 c2], .agg #[.int .i64 k3, .int .i64 i3, .string t3, .slice A3 n3 c3, .slice A4 n4 c4]] w5 (Gives (.bool true) w5))
    have CZ : Hid (∀ W, Calls Try.prog 15 #[.agg #[.int .i64 0, .int .i64 0, .string ⟨#[]⟩, .slice none 0 0, .slice none 0 0], .agg #[.int .i64 0, .int .i64 0, .string ⟨#[]⟩, .slice none 0 0, .slice none 0 0]] W (Gives (.bool true) W)) := Lib.hid (fun W => by have h := refSame_any (zero_lies W (Lo W)) (zero_lies W (Lo W)); rwa [eqB_true rfl] at h)
    have v0 := V5.out.cell 0
    change _ = some (Value.int .i64 k1) at v0
    have v1 := V5.out.cell 1
    change _ = some (Value.int .i64 i1) at v1
    have v2 := V5.out.cell 2
    change _ = some (Value.string t1) at v2
    have v3 := V5.out.cell 3
    change _ = some (Value.slice A1 n1 c1) at v3
    have v4 := V5.out.cell 4
    change _ = some (Value.slice A2 n2 c2) at v4
    have x0 := X5.out.cell 0
    change _ = some (Value.int .i64 k3) at x0
    have x1 := X5.out.cell 1
    change _ = some (Value.int .i64 i3) at x1
    have x2 := X5.out.cell 2
    change _ = some (Value.string t3) at x2
    have x3 := X5.out.cell 3
    change _ = some (Value.slice A3 n3 c3) at x3
    have x4 := X5.out.cell 4
    change _ = some (Value.slice A4 n4 c4) at x4
    rw [← hw5]
    clear hw5 b5 LV LX V4 X4 P3 Q3 P4 Q4 V3 F3 F4 B4
    generalize resE (decV 16 0 l) = er at *
    generalize resL (decV 16 0 l) = lf at *
    go_wp2_with fail
    refine (SM.out).mono ?_
    rintro e1 w6 ⟨rfl, hb⟩
    have P6 := Lib.hid (P5.out.below hb)
    have Q6 := Lib.hid (Q5.out.below hb)
    have B6 := Lib.hid (below_next B5.out hb)
    clear hb
    go_wp2_with fail
    refine (wErr_any P6.out).mono ?_
    rintro e1 w' ⟨rfl, rfl⟩
    go_wp2_with fail
    refine (rErr_any Q6.out).mono ?_
    rintro e1 w' ⟨rfl, rfl⟩
    go_wp2_with fail
    refine (wLeft_any P6.out).mono ?_
    rintro e1 w' ⟨rfl, rfl⟩
    rw [LW.out]
    go_wp2_with fail
    refine (rLeft_any Q6.out).mono ?_
    rintro e1 w' ⟨rfl, rfl⟩
    rw [LR.out]
    go_wp2_with fail
    refine (nDecode _).mono ?_
    rintro e1 w7 ⟨rfl, hb⟩
    have B7 := Lib.hid (below_next B6.out hb)
    clear hb
    unfold zeroV
    go_wp2_with fail
    refine (CZ.out _).mono ?_
    rintro e1 w8 ⟨rfl, hb⟩
    have B8 := Lib.hid (below_next B7.out hb)
    clear hb
    go_wp2_with fail
    refine (works_any _).mono ?_
    rintro e1 w9 ⟨rfl, hb⟩
    have B9 := Lib.hid (below_next B8.out hb)
    clear hb
    go_wp2
    go_ret
    exact ⟨rfl, B9.out⟩
end Go.Proofs.Ytidinbeanaifmaa
namespace Go.Proofs.Ytidinbeanaifmaa.valueDecodes
open Go.ChangeShapes Go.WideShapes Go.ChangeAt Go.RowKit
open Go.ChangeMaps (open_string)
set_option linter.unusedVariables false

theorem own : ownKnob Try.prog.godebug = none := by kernel_rfl
theorem laidOut : laidOutB Try.prog = true := by kernel_rfl

set_option maxRecDepth 100000 in
theorem lifted (os : Os) (started : os.Started) (H : Type) (enc : TypeId × Value → H) :
    ReturnsInHanded {} Try.checked os 9 .any (Rows.valueDecodesSpec.pre6 enc Try.prog Try.f9 Rows.valueDecodesRow.domain false) (Rows.valueDecodesSpec.post enc Try.prog Try.f9 false true false false) := by
  refine returnsInHanded_of_change (C := Try.checked) own started (by kernel_rfl) Try.func9
    (ChangeSpec.witness6 (enc := enc) (C := Try.checked) false ⟨#[], #[.slice none 0 0], []⟩ 8 (by kernel_rfl) (by kernel_rfl) (by kernel_rfl) (by kernel_rfl)) ?_
  intro W base args ds gs before hval0 hW hcnd _
  have hval : ∀ (j : Nat) t v, Try.f9.params[j]? = some t → args[j]? = some v → Value.okWide Try.prog W .any base t v := hval0
  have hW' := hW
  obtain ⟨p, q, hA0, hV, rfl, hfz, hnd⟩ := hW
  have hA : DataW.TrodAll enc Try.prog W 0 (fun _ => true) true Try.f9.params.toList args.toList ds p := hA0
  rw [Try.params9] at hA hval
  obtain ⟨v0, vs0, d0, ds0, p0, q0, hargs, rfl, rfl, h0, r0⟩ := trodAll_cons hA
  obtain ⟨rfl, rfl, rfl⟩ := trodAll_nil r0
  obtain rfl : args = #[v0] := by cases args; simp_all
  obtain ⟨rfl, rfl⟩ := trodVars_none hV
  have k0 := h0
  have lt0 : ∀ x ∈ p0, x.block < W.heap.size := by obtain ⟨m, hm⟩ := k0; exact DataW.trod_lt m _ _ _ hm
  obtain ⟨A0, n0, c0, l0, rfl, w0, m0, u0⟩ := opens.bytes Try.underlying50 Try.underlying5 (by kernel_rfl) (hval 0 50 v0 rfl rfl) h0
  clear hA0 hval0
  refine (ValueDecodes_walk A0 n0 c0 l0 W w0 m0 u0).mono fun e W' ⟨he, bel⟩ => ?_
  subst he
  exact ⟨_, rfl, _, _, _, [], _, [], hW', trodAll_mk1 (shut_bool Try.underlying4 _), (trodAll_cons_mk (Below.trod laidOut (by kernel_rfl) (of_decide_eq_true (by kernel_rfl)) k0 bel lt0) (trodAll_mk0)), rfl, bel.frame _, fun h => by cases h⟩

theorem over : Rows.valueDecodesRow.holds Try.pinned (OpenSpec.ofChange Rows.valueDecodesSpec) :=
  OpenClaim.holds_of_wide 9 Try.f9 rfl rfl rfl rfl rfl rfl rfl ⟨rfl, rfl, rfl, rfl, rfl⟩ rfl rfl rfl rfl rfl (by kernel_rfl) Try.func9 (by kernel_rfl)
    (of_decide_eq_true (by kernel_rfl)) (by unfold Func.isWrapper; first | (rw [if_pos (by decide +kernel)]; kernel_rfl) | (rw [if_neg (by decide +kernel)]; exact ⟨rfl, rfl⟩))
    (fun os started H enc _ => lifted os started H enc)

theorem proved : Rows.ValueDecodesSaid := over
end Go.Proofs.Ytidinbeanaifmaa.valueDecodes
