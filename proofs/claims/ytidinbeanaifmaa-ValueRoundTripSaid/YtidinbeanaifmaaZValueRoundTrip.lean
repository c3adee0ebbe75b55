/-
  ValueRoundTrip returns true for every input, and its arguments read afterwards as they read before.
-/
import Derived.Test.YtidinbeanaifmaaCAH
import Derived.Test.YtidinbeanaifmaaCAI
import Derived.Test.YtidinbeanaifmaaCAJ
import Derived.Test.YtidinbeanaifmaaCAK
import Derived.Deep.RegionHeld3
import Derived.Deep.RegionLaw
namespace Go.Proofs.Ytidinbeanaifmaa
open Go.RowKit

/-- the value and the state behind decoding -/
def resT : DR VT → VT
  | .ok x _ _ => x
  | .err _ => nullT
def resE : DR VT → Int
  | .ok _ _ _ => 0
  | .err e => e
def resL : DR VT → Int
  | .ok _ l _ => (l.length : Nat)
  | .err _ => 0
theorem DcP.flat {RD : World → Nat → List UInt8 → Int → Prop} {r : DR VT} {p : Nat} {w w' : World} {en : Ending} (h : DcP RD r p w en w') :
    ∃ (k i : Int) (t : ByteArray) (A : Option Addr) (n c : Nat) (A' : Option Addr) (n' c' : Nat), en = .returned (.agg #[.int .i64 k, .int .i64 i, .string t, .slice A n c, .slice A' n' c']) ∧ FrS (fun b => b = p) w w' ∧
      (∃ l', RD w' p l' (resE r) ∧ leftOf l' (resE r) = resL r) ∧ Lies w' (New w w') (resT r) (.agg #[.int .i64 k, .int .i64 i, .string t, .slice A n c, .slice A' n' c']) := by
  obtain ⟨k, i, t, A, n, c, A', n', c', he, hf, hx⟩ := h
  refine ⟨k, i, t, A, n, c, A', n', c', he, hf.out, ?_⟩
  rcases hx with ⟨x, l', m, hr, hw, hl⟩ | ⟨e, l', hr, hne, hw, hl⟩
  · rw [hr.out]
    exact ⟨⟨l', hw.out, by simp [leftOf, resE, resL]⟩, hl.out⟩
  · rw [hr.out]
    exact ⟨⟨l', hw.out, by simp [leftOf, resE, resL, hne]⟩, hl.out⟩

set_option maxRecDepth 100000 in
set_option maxHeartbeats 4000000 in
theorem ValueDecodes_walk (A : Option Addr) (n c : Nat) (l : List UInt8) (w : World) (hr : Rb w w.heap.size A n l) (_ : n ≤ c) (_ : c ≤ maxLen) :
    Calls Try.prog 9 #[.slice A n c] w (Gives (.bool true) w) := by
  have HR := Lib.hid hr
  clear hr
  by_cases hbig : 20000 < n
  · go_enter Try.func9, Try.ntmps9
    go_wp2_with fail
    refine (works_any w).mono ?_
    rintro e0 w4 ⟨rfl, hb⟩
    have B4 := Lib.hid hb
    clear hb
    go_wp2
    go_ret
    exact ⟨rfl, B4.out⟩
  · have HL : Hid (l.length ≤ 4611686018427387904) := Lib.hid (by have := HR.out.len; omega)
    have t0 : decide ((20000 : Int) < (n : Int)) = false := by rw [decide_eq_false_iff_not]; omega
    go_enter Try.func9, Try.ntmps9
    go_wp2_with fail
    refine (wOpen_any HR.out (Nat.le_refl _) (by omega)).mono ?_
    rintro e1 w1 ⟨p, rfl, hp, hpl, hb⟩
    have P1 := Lib.hid hp
    have B1 := Lib.hid hb
    have L1 := Lib.hid hpl
    clear hp hpl hb
    go_wp2_with fail
    refine (rOpen_any (HR.out.below B1.out) B1.out.size (by omega)).mono ?_
    rintro e1 w2 ⟨q, rfl, hq, hql, hb⟩
    have P2 := Lib.hid (P1.out.below hb)
    have Q2 := Lib.hid hq
    have NE : Hid (q ≠ p ∧ w.heap.size ≤ q) := Lib.hid (by have := P1.out.lt; have := B1.out.size; exact ⟨by omega, by omega⟩)
    have B2 := Lib.hid (below_next B1.out hb)
    clear hq hql hb
    go_wp2_with fail
    refine (wDecode_any P2.out HL.out).mono ?_
    rintro e1 w3 hd
    obtain ⟨k1, i1, t1, A1, n1, c1, A2, n2, c2, rfl, hf, ⟨lw, hw, hlw⟩, hlies⟩ := hd.flat
    have F3 := Lib.hid hf
    have P3 := Lib.hid hw
    have LW := Lib.hid hlw
    have V3 := Lib.hid hlies
    have Q3 := Lib.hid (Q2.out.frs hf (fun e => NE.out.1 e) (fun b hb _ => by subst hb; obtain ⟨_, _, _, _, hk, _⟩ := P2.out; exact ⟨_, _, hk, by decide⟩))
    clear hd hf hw hlw hlies
    go_wp2_with fail
    refine (rDecode_any Q3.out HL.out).mono ?_
    rintro e1 w4 hd
    obtain ⟨k3, i3, t3, A3, n3, c3, A4, n4, c4, rfl, hf, ⟨lr, hw, hlr⟩, hlies⟩ := hd.flat
    have F4 := Lib.hid hf
    have Q4 := Lib.hid hw
    have LR := Lib.hid hlr
    have X4 := Lib.hid hlies
    have P4 := Lib.hid (P3.out.frs hf (fun e => NE.out.1 e.symm) (fun b hb _ => by subst hb; obtain ⟨_, _, _, _, hk, _⟩ := Q3.out; exact ⟨_, _, hk, by decide⟩))
    have V4 : Hid (Lies w4 (New w2 w4) (resT (decV 16 0 l)) (.agg #[.int .i64 k1, .int .i64 i1, .string t1, .slice A1 n1 c1, .slice A2 n2 c2])) := Lib.hid (V3.out.keep (fun a ha => hf.cell ha.2 (fun e => by have := ha.1; have := Q2.out.lt; omega)) (fun b hb => ⟨hb.1, Nat.lt_of_lt_of_le hb.2 hf.size⟩))
    clear hd hf hw hlr hlies
    have B4 : Hid (Below w.heap.size w w4) := Lib.hid ((B2.out.trans (F3.out.below B2.out.size (fun b hb => by subst hb; exact L1.out))).trans (F4.out.below (Nat.le_trans B2.out.size F3.out.size) (fun b hb => by subst hb; exact NE.out.2)))
    go_upto_region 5 with (fail)
    obtain ⟨w5, hw5⟩ : ∃ w5, w5 = (w4.alloc (.cells #[.int .i64 k1, .int .i64 i1, .string t1, .slice A1 n1 c1, .slice A2 n2 c2] 26)).alloc (.cells #[.int .i64 k3, .int .i64 i3, .string t3, .slice A3 n3 c3, .slice A4 n4 c4] 26) := ⟨_, rfl⟩
    have b5 : Below w4.heap.size w4 w5 := by rw [hw5]; exact ((Below.refl _ _).alloc (Nat.le_refl _) _).alloc (by simp) _
    have B5 := Lib.hid (below_next B4.out b5)
    have V5 : Hid (Bk w5 w4.heap.size 26 #[.int .i64 k1, .int .i64 i1, .string t1, .slice A1 n1 c1, .slice A2 n2 c2]) := Lib.hid (by rw [hw5]; exact (Bk.new w4 _ _).alloc _)
    have X5 : Hid (Bk w5 (w4.heap.size + 1) 26 #[.int .i64 k3, .int .i64 i3, .string t3, .slice A3 n3 c3, .slice A4 n4 c4]) := Lib.hid (by rw [hw5]; have h := Bk.new (w4.alloc (.cells #[.int .i64 k1, .int .i64 i1, .string t1, .slice A1 n1 c1, .slice A2 n2 c2] 26)) 26 #[.int .i64 k3, .int .i64 i3, .string t3, .slice A3 n3 c3, .slice A4 n4 c4]; simpa using h)
    have P5 := Lib.hid (P4.out.below b5)
    have Q5 := Lib.hid (Q4.out.below b5)
    have LV : Hid (Lies w5 (Lo w5) (resT (decV 16 0 l)) (.agg #[.int .i64 k1, .int .i64 i1, .string t1, .slice A1 n1 c1, .slice A2 n2 c2])) := Lib.hid (V4.out.keep (fun a ha => b5.cell ha.2) (fun b hb => Nat.lt_of_lt_of_le hb.2 b5.size))
    have LX : Hid (Lies w5 (Lo w5) (resT (decV 16 0 l)) (.agg #[.int .i64 k3, .int .i64 i3, .string t3, .slice A3 n3 c3, .slice A4 n4 c4])) := Lib.hid (X4.out.keep (fun a ha => b5.cell ha.2) (fun b hb => Nat.lt_of_lt_of_le hb.2 b5.size))
    have SM := Lib.hid (by have h := refSame_any LV.out LX.out; rwa [eqB_true rfl] at h : Calls Try.prog 15 #[.agg #[.int .i64 k1, .int .i64 i1, .string t1, .slice A1 n1 c1, .slice A2 n2 c2], .agg #[.int .i64 k3, .int .i64 i3, .string t3, .slice A3 n3 c3, .slice A4 n4 c4]] w5 (Gives (.bool true) w5))
    have CZ : Hid (∀ W, Calls Try.prog 15 #[.agg #[.int .i64 0, .int .i64 0, .string ⟨#[]⟩, .slice none 0 0, .slice none 0 0], .agg #[.int .i64 0, .int .i64 0, .string ⟨#[]⟩, .slice none 0 0, .slice none 0 0]] W (Gives (.bool true) W)) := Lib.hid (fun W => by have h := refSame_any (zero_lies W (Lo W)) (zero_lies W (Lo W)); rwa [eqB_true rfl] at h)
    have v0 := V5.out.cell 0
    change _ = some (Value.int .i64 k1) at v0
    have v1 := V5.out.cell 1
    change _ = some (Value.int .i64 i1) at v1
    have v2 := V5.out.cell 2
    change _ = some (Value.string t1) at v2
    have v3 := V5.out.cell 3
    change _ = some (Value.slice A1 n1 c1) at v3
    have v4 := V5.out.cell 4
    change _ = some (Value.slice A2 n2 c2) at v4
    have x0 := X5.out.cell 0
    change _ = some (Value.int .i64 k3) at x0
    have x1 := X5.out.cell 1
    change _ = some (Value.int .i64 i3) at x1
    have x2 := X5.out.cell 2
    change _ = some (Value.string t3) at x2
    have x3 := X5.out.cell 3
    change _ = some (Value.slice A3 n3 c3) at x3
    have x4 := X5.out.cell 4
    change _ = some (Value.slice A4 n4 c4) at x4
    rw [← hw5]
    clear hw5 b5 LV LX V4 X4 P3 Q3 P4 Q4 V3 F3 F4 B4
    generalize resE (decV 16 0 l) = er at *
    generalize resL (decV 16 0 l) = lf at *
    go_wp2_with fail
    refine (SM.out).mono ?_
    rintro e1 w6 ⟨rfl, hb⟩
    have P6 := Lib.hid (P5.out.below hb)
    have Q6 := Lib.hid (Q5.out.below hb)
    have B6 := Lib.hid (below_next B5.out hb)
    clear hb
    go_wp2_with fail
    refine (wErr_any P6.out).mono ?_
    rintro e1 w' ⟨rfl, rfl⟩
    go_wp2_with fail
    refine (rErr_any Q6.out).mono ?_
    rintro e1 w' ⟨rfl, rfl⟩
    go_wp2_with fail
    refine (wLeft_any P6.out).mono ?_
    rintro e1 w' ⟨rfl, rfl⟩
    rw [LW.out]
    go_wp2_with fail
    refine (rLeft_any Q6.out).mono ?_
    rintro e1 w' ⟨rfl, rfl⟩
    rw [LR.out]
    go_wp2_with fail
    refine (nDecode _).mono ?_
    rintro e1 w7 ⟨rfl, hb⟩
    have B7 := Lib.hid (below_next B6.out hb)
    clear hb
    unfold zeroV
    go_wp2_with fail
    refine (CZ.out _).mono ?_
    rintro e1 w8 ⟨rfl, hb⟩
    have B8 := Lib.hid (below_next B7.out hb)
    clear hb
    go_wp2_with fail
    refine (works_any _).mono ?_
    rintro e1 w9 ⟨rfl, hb⟩
    have B9 := Lib.hid (below_next B8.out hb)
    clear hb
    go_wp2
    go_ret
    exact ⟨rfl, B9.out⟩
end Go.Proofs.Ytidinbeanaifmaa
namespace Go.Proofs.Ytidinbeanaifmaa
open Go.RowKit

/-- decoding that succeeds, here or behind a draw -/
def DcOk (p : Nat) (x : VT) (l' : List UInt8) (w : World) (en : Ending) (w' : World) : Prop :=
  ∃ (k i : Int) (t : ByteArray) (A : Option Addr) (n c : Nat) (A' : Option Addr) (n' c' : Nat), en = .returned (.agg #[.int .i64 k, .int .i64 i, .string t, .slice A n c, .slice A' n' c']) ∧ Hid (FrS (fun b => b = p) w w') ∧ Hid (WRd w' p l' 0) ∧ Hid (Lies w' (New w w') x (.agg #[.int .i64 k, .int .i64 i, .string t, .slice A n c, .slice A' n' c']))
theorem DcP.okay {r : DR VT} {p m : Nat} {x : VT} {l' : List UInt8} {w W w' : World} {en : Ending} (hr : r = .ok x l' m) (hW : W = w ∨ W = w.drew) (h : DcP WRd r p W en w') : DcOk p x l' w en w' := by
  obtain ⟨k, i, t, A, n, c, A', n', c', he, hf, hx⟩ := h
  have hf' : FrS (fun b => b = p) w w' := by
    rcases hW with rfl | rfl
    · exact hf.out
    · exact ⟨hf.out.os, hf.out.tape, hf.out.output, hf.out.size, hf.out.block⟩
  refine ⟨k, i, t, A, n, c, A', n', c', he, Lib.hid hf', ?_⟩
  rcases hx with ⟨y, l2, m2, h1, h2, h3⟩ | ⟨e, l2, h1, _⟩
  · have e1 := h1.out
    rw [hr] at e1
    injection e1 with e1 e2 _
    subst e1 e2
    refine ⟨h2, Lib.hid (h3.out.keep (fun _ _ => rfl) (fun b hb => ?_))⟩
    rcases hW with rfl | rfl
    · exact hb
    · exact hb
  · have e1 := h1.out
    rw [hr] at e1
    cases e1
theorem left_is {w : World} {p n : Nat} {l : List UInt8} (h : WRd w p l 0) (e : l.length = n) : Calls Try.prog 54 #[.pointer (some ⟨p, 0, none⟩)] w (Says (.int .i64 (n : Nat)) w) := by
  subst e
  exact wLeft_ok h
/-- decoding that fails -/
theorem DcP.fails {r : DR VT} {p : Nat} {e : Int} {w w' : World} {en : Ending} (hr : r = .err e) (h : DcP WRd r p w en w') :
    ∃ (k i : Int) (t : ByteArray) (A : Option Addr) (n c : Nat) (A' : Option Addr) (n' c' : Nat), en = .returned (.agg #[.int .i64 k, .int .i64 i, .string t, .slice A n c, .slice A' n' c']) ∧ FrS (fun b => b = p) w w' ∧ e ≠ 0 ∧ ∃ l', WRd w' p l' e := by
  obtain ⟨k, i, t, A, n, c, A', n', c', he, hf, hx⟩ := h
  refine ⟨k, i, t, A, n, c, A', n', c', he, hf.out, ?_⟩
  rcases hx with ⟨y, l2, m2, h1, _⟩ | ⟨e2, l2, h1, h2, h3, _⟩
  · have e1 := h1.out
    rw [hr] at e1
    cases e1
  · have e1 := h1.out
    rw [hr] at e1
    injection e1 with e1
    subst e1
    exact ⟨h2, l2, h3.out⟩
theorem dec_here {p m : Nat} {x : VT} {l l' : List UInt8} {w : World} (h : WRd w p l 0) (hl : l.length ≤ 4611686018427387904) (hr : decV 16 0 l = .ok x l' m) : ∀ W, (W = w ∨ W = w.drew) → Calls Try.prog 50 #[.pointer (some ⟨p, 0, none⟩)] W (DcOk p x l' w) := by
  intro W hW
  have h' : WRd W p l 0 := by
    rcases hW with rfl | rfl
    · exact h
    · exact h.below (Below.refl _ _).drew
  exact (wDecode_any h' hl).mono fun _ _ hd => DcP.okay hr hW hd

/-- the same value twice: one that was just read, one that was there -/
theorem same_here {w0 w w' : World} {p : Nat} {x : VT} {u v : Value} (hu : Lies w' (New w w') x u) (hf : FrS (fun b => b = p) w w') (hv : Lies w0 (Lo w0) x v) (hb : Below w0.heap.size w0 w) (hp : w0.heap.size ≤ p) : ∀ W, (W = w' ∨ W = w'.drew) → Calls Try.prog 15 #[u, v] W fun e w2 => e = .returned (.bool true) ∧ Below w'.heap.size w' w2 := by
  have h1 : Lies w' (Lo w') x u := hu.keep (fun _ _ => rfl) (fun b hb => hb.2)
  have h2 : Lies w' (Lo w') x v := by
    refine Lies.keep (w := w0) (w' := w') (R := Lo w0) (R' := Lo w') (fun (q : Addr) (hq : q.block < w0.heap.size) => ?_) (fun b (hb1 : b < w0.heap.size) => ?_) hv
    · exact (hf.cell (p := q) (Nat.lt_of_lt_of_le hq hb.size) (fun e => by omega)).trans (hb.cell hq)
    · exact Nat.lt_of_lt_of_le (Nat.lt_of_lt_of_le hb1 hb.size) hf.size
  rintro W (rfl | rfl)
  · have h := refSame_any h1 h2
    rw [eqB_true rfl] at h
    exact h
  · have h := refSame_any (h1.below (Below.refl _ _).drew) (h2.below (Below.refl _ _).drew)
    rw [eqB_true rfl] at h
    exact h.mono fun _ _ h => ⟨h.1, ⟨h.2.os, h.2.tape, h.2.output, h.2.size, h.2.block⟩⟩

set_option maxRecDepth 100000 in
set_option maxHeartbeats 4000000 in
theorem ValueRoundTrip_walk (x : VT) (v : Value) (A : Option Addr) (n c : Nat) (l : List UInt8) (w : World) (hv : Lies w (Lo w) x v) (hr : Rb w w.heap.size A n l) (_ : n ≤ c) (_ : c ≤ maxLen) :
    Calls Try.prog 10 #[v, .slice A n c] w (Gives (.bool true) w) := by
  obtain ⟨iB, hiB, hzB, hsB, hbB⟩ := info_parts Try.infob
  have HX := Lib.hid (fun (w' : World) (hb : Below w.heap.size w w') => Few_any 1000 (by omega) (by omega) (hv.below hb))
  have HRT := Lib.hid (fun (w' : World) (hb : Below w.heap.size w w') (hs : x.size < 4611686018427387904) => refRight_any hs (hv.below hb))
  have HSZ : Hid (decide (0 ≤ x.few 1000) = true → x.size < 4611686018427387904) := Lib.hid (fun h => by have := few_size (of_decide_eq_true h); omega)
  have HDA := Lib.hid (fun (h : x.right = true) => dec_again hv h l)
  have HV := Lib.hid hv
  have HR := Lib.hid hr
  obtain ⟨k, i, t, its, ks⟩ := x
  obtain ⟨D, d, D', d', rfl, _, _, _, _, _, _, _, _, _⟩ := hv.open
  clear hv hr
  obtain ⟨w1, hw1⟩ : ∃ w1, w1 = w.alloc (.cells #[.int .i64 k, .int .i64 i, .string t, .slice D its.length d, .slice D' ks.length d'] 26) := ⟨_, rfl⟩
  have P1 : Hid (Bk w1 w.heap.size 26 #[.int .i64 k, .int .i64 i, .string t, .slice D its.length d, .slice D' ks.length d']) := Lib.hid (by rw [hw1]; exact Bk.new _ _ _)
  have B1 : Hid (Below w.heap.size w w1) := Lib.hid (by rw [hw1]; exact below_one _ _)
  have H1 := Lib.hid (HX.out w1 B1.out)
  have HW := Lib.hid hw1
  clear hw1 HX
  generalize VT.mk k i t its ks = x at *
  unfold vag at *
  by_cases hbig : 1000 < n
  · have t0 : decide ((1000 : Int) < (n : Int)) = true := by rw [decide_eq_true_eq]; omega
    clear hbig
    go_enter Try.func10, Try.ntmps10
    go_wp2_with fail
    rw [← HW.out]
    refine (works_any w1).mono ?_
    rintro e0 w4 ⟨rfl, hb⟩
    have B4 := Lib.hid (below_next B1.out hb)
    clear hb
    go_wp2
    go_ret
    exact ⟨rfl, B4.out⟩
  · have t0 : decide ((1000 : Int) < (n : Int)) = false := by rw [decide_eq_false_iff_not]; omega
    have hn1000 : n ≤ 1000 := by omega
    clear hbig
    have p0 := P1.out.cell 0
    change _ = some (Value.int .i64 k) at p0
    have p1 := P1.out.cell 1
    change _ = some (Value.int .i64 i) at p1
    have p2 := P1.out.cell 2
    change _ = some (Value.string t) at p2
    have p3 := P1.out.cell 3
    change _ = some (Value.slice D its.length d) at p3
    have p4 := P1.out.cell 4
    change _ = some (Value.slice D' ks.length d') at p4
    rw [HW.out] at p0 p1 p2 p3 p4
    go_enter Try.func10, Try.ntmps10
    go_wp2_with fail
    rw [← HW.out]
    refine (H1.out).mono ?_
    rintro e0 w2 ⟨rfl, hb⟩
    have P2 := Lib.hid (P1.out.below hb P1.out.lt)
    have B2 := Lib.hid (below_next B1.out hb)
    clear hb p0 p1 p2 p3 p4 H1
    generalize hp : decide (0 ≤ x.few 1000) = p at *
    cases p with
    | false =>
      clear hp
      go_wp2_with fail
      refine (works_any _).mono ?_
      rintro e0 w4 ⟨rfl, hb⟩
      have B4 := Lib.hid (below_next B2.out hb)
      clear hb
      go_wp2
      go_ret
      exact ⟨rfl, B4.out⟩
    | true =>
      have HS := Lib.hid (HSZ.out rfl)
      clear hp HSZ
      have p0 := P2.out.cell 0
      change _ = some (Value.int .i64 k) at p0
      have p1 := P2.out.cell 1
      change _ = some (Value.int .i64 i) at p1
      have p2 := P2.out.cell 2
      change _ = some (Value.string t) at p2
      have p3 := P2.out.cell 3
      change _ = some (Value.slice D its.length d) at p3
      have p4 := P2.out.cell 4
      change _ = some (Value.slice D' ks.length d') at p4
      go_wp2_with fail
      refine (HRT.out _ B2.out HS.out).mono ?_
      rintro e0 w3 ⟨rfl, hb⟩
      have P3 := Lib.hid (P2.out.below hb P2.out.lt)
      have B3 := Lib.hid (below_next B2.out hb)
      clear hb p0 p1 p2 p3 p4 HRT P2 P1
      generalize hp : x.right = p at *
      cases p with
      | false =>
        clear hp
        go_wp2_with fail
        refine (works_any _).mono ?_
        rintro e0 w4 ⟨rfl, hb⟩
        have B4 := Lib.hid (below_next B3.out hb)
        clear hb
        go_wp2
        go_ret
        exact ⟨rfl, B4.out⟩
      | true =>
        have HD := Lib.hid (HDA.out rfl)
        clear hp HDA
        have p0 := P3.out.cell 0
        change _ = some (Value.int .i64 k) at p0
        have p1 := P3.out.cell 1
        change _ = some (Value.int .i64 i) at p1
        have p2 := P3.out.cell 2
        change _ = some (Value.string t) at p2
        have p3 := P3.out.cell 3
        change _ = some (Value.slice D its.length d) at p3
        have p4 := P3.out.cell 4
        change _ = some (Value.slice D' ks.length d') at p4
        have hel : x.enc.length ≤ 9000000 := HD.out.2.1
        have E1 := Lib.hid (by have h := valEncode_any (c := 0) (Rb.nil0 w3 0) (Nat.zero_le _) (HV.out.below B3.out) (by rw [Nat.zero_add]; omega); rwa [encOf_yes HD.out.2.2, List.nil_append] at h : Calls Try.prog 46 #[.slice none 0 0, .agg #[.int .i64 k, .int .i64 i, .string t, .slice D its.length d, .slice D' ks.length d']] w3 (OwnRes w3 x.enc))
        have HDD := Lib.hid HD.out.1
        clear HD
        generalize x.enc = en at *
        go_wp2_with fail
        refine (E1.out).mono ?_
        intro e0 w4 hq
        obtain ⟨A2, n2, c2, rfl, hl2, hc2, hm2, R2, O2, hb4⟩ := own_named hq
        have P4 := Lib.hid (P3.out.below hb4.out P3.out.lt)
        have B4 := Lib.hid (below_next B3.out hb4.out)
        have hn2 : n2 ≤ 9000000 := by have := hl2.out; omega
        clear hq hb4 p0 p1 p2 p3 p4 E1 P3
        go_wp2_with (at_builtin; refine wpList_append_b8 rfl _ _ 50 rfl w4.heap.size 5 iB (.int .u8 0) Try.underlying50 hiB hzB hsB hbB rfl (.slice none 0 0) 0 [] rfl (World.ownsRow_nil _ _ _ _) w4.heap.size A2 n2 c2 en rfl R2.out ?_ ?_ ?_)
        · omega
        · exact Nat.le_refl _
        intro v5 w5 hown5 hg5
        have O5 : Hid (w5.ownsRow w4.heap.size 5 1 v5 n2 (en.map b8)) := Lib.hid (by simpa using hown5)
        have b5 : Below w4.heap.size w4 w5 := (Below.refl _ _).grown hg5 (Nat.le_refl _) (fun q hq => by simp [Value.ownBlock] at hq)
        have S45 := Lib.hid b5.size
        have S04 : Hid (w.heap.size < w4.heap.size) := Lib.hid P4.out.lt
        have P5 := Lib.hid (P4.out.below b5 P4.out.lt)
        have B5 := Lib.hid (below_next B4.out b5)
        obtain ⟨A5, c5, rfl, hnc5, hcm5⟩ := own_form O5.out
        clear hown5 hg5 b5 R2 O2 P4
        go_wp2_with (at_builtin; refine wpList_append_b8 rfl _ _ 50 rfl w4.heap.size 5 iB (.int .u8 0) Try.underlying50 hiB hzB hsB hbB rfl _ n2 (en.map b8) rfl O5.out w.heap.size A n c l rfl (HR.out.below B5.out) ?_ ?_ ?_)
        · omega
        · exact S45.out
        intro v6 w6 hown6 hg6
        obtain ⟨N, hN⟩ : ∃ N, N = n2 + n := ⟨_, rfl⟩
        rw [← hN] at hown6
        have O6 : Hid (w6.ownsRow w4.heap.size 5 1 v6 N ((en ++ l).map b8)) := Lib.hid (by rw [List.map_append]; exact hown6)
        have hNb : N ≤ 9001000 := by omega
        have HN := Lib.hid hN
        have B6 := Lib.hid (B5.out.grown hg6 B5.out.size (fun q hq => Nat.le_trans (Nat.le_of_lt S04.out) (O5.out.lt q hq).1))
        have P6 := Lib.hid (P5.out.grown hg6 (fun e => by have := (O5.out.lt _ e.symm).1; have := S04.out; omega))
        obtain ⟨A6, c6, rfl, hnc6, hcm6⟩ := own_form O6.out
        clear hown6 hg6 hN O5 P5 hnc5 hcm5
        go_wp2_with fail
        refine (wOpen_any (Rb.own O6.out) (Nat.le_refl _) (by omega)).mono ?_
        rintro e1 w7 ⟨p, rfl, hp, hpl, hb⟩
        have W7 := Lib.hid hp
        have P7 := Lib.hid (P6.out.below hb P6.out.lt)
        have B7 := Lib.hid (below_next B6.out hb)
        have NP : Hid (w.heap.size < p ∧ w.heap.size ≤ p) := Lib.hid (by have := P6.out.lt; exact ⟨by omega, by omega⟩)
        have HLN : Hid ((en ++ l).length ≤ 4611686018427387904 ∧ l.length ≤ 4611686018427387904) := Lib.hid (by have h1 := HR.out.len; rw [List.length_append]; exact ⟨by omega, by omega⟩)
        clear hp hpl hb O6 hnc6 hcm6 P6
        have D1 := Lib.hid (dec_here W7.out HLN.out.1 HDD.out)
        have k7 := And.intro (P7.out.cell 0) (And.intro (P7.out.cell 1) (And.intro (P7.out.cell 2) (And.intro (P7.out.cell 3) (P7.out.cell 4))))
        change w7.cell? ⟨w.heap.size, 0, none⟩ = some (.int .i64 k) ∧ w7.cell? ⟨w.heap.size, 1, none⟩ = some (.int .i64 i) ∧ w7.cell? ⟨w.heap.size, 2, none⟩ = some (.string t) ∧ w7.cell? ⟨w.heap.size, 3, none⟩ = some (.slice D its.length d) ∧ w7.cell? ⟨w.heap.size, 4, none⟩ = some (.slice D' ks.length d') at k7
        go_wp2_with fail
        go_region_held3 (fun w' => w'.cell? ⟨w.heap.size, 0, none⟩ = some (.int .i64 k) ∧ w'.cell? ⟨w.heap.size, 1, none⟩ = some (.int .i64 i) ∧ w'.cell? ⟨w.heap.size, 2, none⟩ = some (.string t) ∧ w'.cell? ⟨w.heap.size, 3, none⟩ = some (.slice D its.length d) ∧ w'.cell? ⟨w.heap.size, 4, none⟩ = some (.slice D' ks.length d'))
          (first
            | go_keep
            | exact kA
            | exact kB)
          (first
            | (go_at_call 50; refine (D1.out _ (by first | exact Or.inl rfl | exact Or.inr rfl)).mono ?_; rintro _ w8 ⟨k1, i1, t1, A1, n1, c1, A3, n3, c3, rfl, F8, W8, X8⟩; have P8 := Lib.hid (F8.out.bk P7.out (fun e => by have := NP.out; omega)); have kA := And.intro (P8.out.cell 0) (And.intro (P8.out.cell 1) (And.intro (P8.out.cell 2) (And.intro (P8.out.cell 3) (P8.out.cell 4)))); have SM := Lib.hid (same_here X8.out F8.out HV.out B7.out NP.out.2))
            | (go_at_call 15; refine (SM.out _ (by first | exact Or.inl rfl | exact Or.inr rfl)).mono ?_; rintro _ w9 ⟨rfl, hb9⟩; have P9 := Lib.hid (P8.out.below hb9 P8.out.lt); have W9 := Lib.hid (W8.out.below hb9); have kB := And.intro (P9.out.cell 0) (And.intro (P9.out.cell 1) (And.intro (P9.out.cell 2) (And.intro (P9.out.cell 3) (P9.out.cell 4)))))
            | (go_at_call 52; refine (wErr_any (by exact W9.out)).mono ?_; rintro _ w' ⟨rfl, rfl⟩)
            | (go_at_call 54; refine (left_is (by exact W9.out) HR.out.len).mono ?_; rintro _ w' ⟨rfl, rfl⟩))
        have F89 : Hid (Below w.heap.size w w9) := Lib.hid ((B7.out.trans (F8.out.below B7.out.size (fun b hb => by have := NP.out; omega))).trans (hb9.mono (Nat.le_trans B7.out.size F8.out.size)))
        clear hb9 k7 kA kB P8 P9 W8 X8 F8 SM D1 W7 P7 HV HDD B1 B2 B3 B4 B5 B6 B7 S45 S04 hl2 hc2 hm2 HN hNb HS hel
        cases hr2 : decV 16 0 l with
        | err e =>
          have DE := Lib.hid ((wDecode_any W9.out HLN.out.2).mono fun _ _ hd => DcP.fails hr2 hd)
          clear hr2
          go_wp2_with fail
          refine (DE.out).mono ?_
          rintro e1 w10 ⟨k2, i2, t2, A7, n7, c7, A8, n8, c8, rfl, hf, hne, l3, hw⟩
          have B10 := Lib.hid (F89.out.trans (hf.below F89.out.size (fun b hb => by have := NP.out; omega)))
          have W10 := Lib.hid hw
          have hne' : (e != 0) = true := by rw [bne_iff_ne]; exact hne
          clear hf hw hne
          go_upto_region 11 with fail
          obtain ⟨w11, hw11⟩ : ∃ w11, w11 = w10.alloc (.cells #[.int .i64 k2, .int .i64 i2, .string t2, .slice A7 n7 c7, .slice A8 n8 c8] 26) := ⟨_, rfl⟩
          have b11 : Below w10.heap.size w10 w11 := by rw [hw11]; exact below_one _ _
          have B11 := Lib.hid (below_next B10.out b11)
          have W11 := Lib.hid (W10.out.below b11)
          rw [← hw11]
          clear hw11 b11
          go_wp2_with fail
          refine (wErr_any W11.out).mono ?_
          rintro e1 w' ⟨rfl, rfl⟩
          go_wp2_with fail
          refine (works_any _).mono ?_
          rintro e1 w12 ⟨rfl, hb⟩
          have B12 := Lib.hid (below_next B11.out hb)
          clear hb
          go_wp2
          go_ret
          exact ⟨rfl, B12.out⟩
        | ok y l2 m =>
          obtain ⟨hback, hright, hwf, hsize⟩ := dec_back hr2
          have DK := Lib.hid (dec_here W9.out HLN.out.2 hr2 w9 (Or.inl rfl))
          obtain ⟨ne, hne⟩ : ∃ ne, ne = y.enc.length := ⟨_, rfl⟩
          have hlen : ne + l2.length = n := by rw [hne, ← HR.out.len, hback, List.length_append]
          have htake : l.take ne = y.enc := by rw [hback, hne, List.take_left]
          have HTK := Lib.hid htake
          have hsub : (n : Int) - (l2.length : Int) = (ne : Int) := by omega
          have hle : ne ≤ n := by omega
          have HNE := Lib.hid hne
          have HRI := Lib.hid hright
          have HWF := Lib.hid hwf
          have HSI := Lib.hid hsize
          clear hr2 hback hright hwf hne htake hsize hlen
          go_wp2_with fail
          refine (DK.out).mono ?_
          rintro e1 w10 ⟨k2, i2, t2, A7, n7, c7, A8, n8, c8, rfl, F10, W10, Y10⟩
          have B10 := Lib.hid (F89.out.trans (F10.out.below F89.out.size (fun b hb => by have := NP.out; omega)))
          go_upto_region 11 with fail
          obtain ⟨w11, hw11⟩ : ∃ w11, w11 = w10.alloc (.cells #[.int .i64 k2, .int .i64 i2, .string t2, .slice A7 n7 c7, .slice A8 n8 c8] 26) := ⟨_, rfl⟩
          have b11 : Below w10.heap.size w10 w11 := by rw [hw11]; exact below_one _ _
          have B11 := Lib.hid (below_next B10.out b11)
          have W11 := Lib.hid (W10.out.below b11)
          have Y11 : Hid (Bk w11 w10.heap.size 26 #[.int .i64 k2, .int .i64 i2, .string t2, .slice A7 n7 c7, .slice A8 n8 c8]) := Lib.hid (by rw [hw11]; exact Bk.new _ _ _)
          have LY : Hid (Lies w11 (Lo w11) y (.agg #[.int .i64 k2, .int .i64 i2, .string t2, .slice A7 n7 c7, .slice A8 n8 c8])) := Lib.hid (Y10.out.keep (fun a ha => b11.cell ha.2) (fun b hb => Nat.lt_of_lt_of_le hb.2 b11.size))
          rw [← hw11]
          clear hw11 b11 DK F10 W10 Y10 B10
          go_wp2_with fail
          refine (wErr_any W11.out).mono ?_
          rintro e1 w' ⟨rfl, rfl⟩
          go_wp2_with fail
          refine (left_is W11.out rfl).mono ?_
          rintro e1 w' ⟨rfl, rfl⟩
          have RT := Lib.hid (fun (W : World) (hb : Below w11.heap.size w11 W) => (by have h := refRight_any (by have := HSI.out; omega) (LY.out.below hb); rwa [HRI.out] at h : Calls Try.prog 31 #[.agg #[.int .i64 k2, .int .i64 i2, .string t2, .slice A7 n7 c7, .slice A8 n8 c8]] W (Gives (.bool true) W)))
          have EN := Lib.hid (fun (W : World) (hb : Below w11.heap.size w11 W) => (by have h := valEncode_any (c := 0) (Rb.nil0 W 0) (Nat.zero_le _) (LY.out.below hb) (by rw [Nat.zero_add, ← HNE.out]; omega); rwa [encOf_yes HWF.out, List.nil_append] at h : Calls Try.prog 46 #[.slice none 0 0, .agg #[.int .i64 k2, .int .i64 i2, .string t2, .slice A7 n7 c7, .slice A8 n8 c8]] W (OwnRes W y.enc)))
          obtain ⟨st, hst⟩ : ∃ st : ByteArray, st = ⟨y.enc.toArray⟩ := ⟨_, rfl⟩
          have HCV : Hid (∀ (W : World) (A : Option Addr) (n c B : Nat), Rb W B A n y.enc → (convert 50 9 (.slice A n c)).run Try.prog W = .ok (.string st) W) := Lib.hid (fun W A n c B h => by rw [hst]; exact conv_rb c h)
          have HFR : Hid (∀ W, Below w11.heap.size w11 W → (convert 50 9 (.slice A ne c)).run Try.prog W = .ok (.string st) W) := Lib.hid (fun W hb => HCV.out W A ne c w.heap.size (by have h := (HR.out.below (below_next B11.out hb)).front hle; rwa [HTK.out] at h))
          have YL := Lib.hid Y11.out.lt
          have MV : Hid (∀ W, Below w11.heap.size w11 W → W.cell? ⟨w10.heap.size, 0, none⟩ = some (.int .i64 k2) ∧ W.cell? ⟨w10.heap.size, 1, none⟩ = some (.int .i64 i2) ∧ W.cell? ⟨w10.heap.size, 2, none⟩ = some (.string t2) ∧ W.cell? ⟨w10.heap.size, 3, none⟩ = some (.slice A7 n7 c7) ∧ W.cell? ⟨w10.heap.size, 4, none⟩ = some (.slice A8 n8 c8)) := Lib.hid (fun W hb => by
            have P := Y11.out.below hb YL.out
            exact ⟨P.cell 0, P.cell 1, P.cell 2, P.cell 3, P.cell 4⟩)
          clear hst W11 HSI HWF HRI HNE HTK LY W9
          obtain ⟨y0, y1, y2, y3, y4⟩ := MV.out w11 (Below.refl _ _)
          have teq : (st.toList == st.toList) = true := by simp
          have hnec : ne ≤ c := by omega
          have CV0 := HFR.out w11 (Below.refl _ _)
          have CV1 := HFR.out w11.drew (Below.refl _ _).drew
          go_upto_region 14 with fail
          clear hsub
          go_wp2_with fail
          go_region_law (first
            | (go_simp; go_at_call 31; refine (RT.out _ (by first | exact Below.refl _ _ | exact (Below.refl _ _).drew)).mono ?_; rintro _ wB ⟨rfl, hbB⟩; have BB : Hid (Below w11.heap.size w11 wB) := Lib.hid ⟨hbB.os, hbB.tape, hbB.output, hbB.size, hbB.block⟩; obtain ⟨b0, b1, b2, b3, b4⟩ := MV.out wB BB.out; have CV2 := HFR.out wB BB.out)
            | (go_simp; go_at_call 46; refine (EN.out _ BB.out).mono ?_; intro _ wC hq; obtain ⟨A9, n9, c9, rfl, hl9, hc9, hm9, R9, O9, hb9⟩ := own_named hq; clear hq; have BC : Hid (Below w11.heap.size w11 wC) := Lib.hid (below_next BB.out hb9.out); have CV3 := HFR.out wC BC.out; have CV4 := HCV.out wC A9 n9 c9 wC.heap.size R9.out)
            | (go_simp; go_at_call 12; refine (works_any _).mono ?_; rintro _ wD ⟨rfl, hbD⟩; have BD : Hid (Below w11.heap.size w11 wD) := Lib.hid (below_next BC.out hbD)))
          all_goals (
            go_wp2
            go_ret
            exact ⟨rfl, below_next B11.out BD.out⟩)
end Go.Proofs.Ytidinbeanaifmaa
namespace Go.Proofs.Ytidinbeanaifmaa.valueRoundTrip
open Go.ChangeShapes Go.WideShapes Go.ChangeAt Go.RowKit
open Go.ChangeMaps (open_string)
set_option linter.unusedVariables false

theorem own : ownKnob Try.prog.godebug = none := by kernel_rfl
theorem laidOut : laidOutB Try.prog = true := by kernel_rfl

set_option maxRecDepth 100000 in
theorem lifted (os : Os) (started : os.Started) (H : Type) (enc : TypeId × Value → H) :
    ReturnsInHanded {} Try.checked os 10 .any (Rows.valueRoundTripSpec.pre6 enc Try.prog Try.f10 Rows.valueRoundTripRow.domain false) (Rows.valueRoundTripSpec.post enc Try.prog Try.f10 false true false false) := by
  refine returnsInHanded_of_change (C := Try.checked) own started (by kernel_rfl) Try.func10
    (ChangeSpec.witness6 (enc := enc) (C := Try.checked) false ⟨#[], #[.agg #[.int .i64 0, .int .i64 0, .string ByteArray.empty, .slice none 0 0, .slice none 0 0], .slice none 0 0], []⟩ 8 (by kernel_rfl) (by kernel_rfl) (by kernel_rfl) (by kernel_rfl)) ?_
  intro W base args ds gs before hval0 hW hcnd _
  have hval : ∀ (j : Nat) t v, Try.f10.params[j]? = some t → args[j]? = some v → Value.okWide Try.prog W .any base t v := hval0
  have hW' := hW
  obtain ⟨p, q, hA0, hV, rfl, hfz, hnd⟩ := hW
  have hA : DataW.TrodAll enc Try.prog W 0 (fun _ => true) true Try.f10.params.toList args.toList ds p := hA0
  rw [Try.params10] at hA hval
  obtain ⟨v0, vs0, d0, ds0, p0, q0, hargs, rfl, rfl, h0, r0⟩ := trodAll_cons hA
  obtain ⟨v1, vs1, d1, ds1, p1, q1, rfl, rfl, rfl, h1, r1⟩ := trodAll_cons r0
  obtain ⟨rfl, rfl, rfl⟩ := trodAll_nil r1
  obtain rfl : args = #[v0, v1] := by cases args; simp_all
  obtain ⟨rfl, rfl⟩ := trodVars_none hV
  have k0 := h0
  have lt0 : ∀ x ∈ p0, x.block < W.heap.size := by obtain ⟨m, hm⟩ := k0; exact DataW.trod_lt m _ _ _ hm
  obtain ⟨x0, m0⟩ := opens.value (hval 0 26 v0 rfl rfl) h0
  have k1 := h1
  have lt1 : ∀ x ∈ p1, x.block < W.heap.size := by obtain ⟨m, hm⟩ := k1; exact DataW.trod_lt m _ _ _ hm
  obtain ⟨A1, n1, c1, l1, rfl, w1, m1, u1⟩ := opens.bytes Try.underlying50 Try.underlying5 (by kernel_rfl) (hval 1 50 v1 rfl rfl) h1
  clear hA0 hval0
  refine (ValueRoundTrip_walk x0 v0 A1 n1 c1 l1 W m0 w1 m1 u1).mono fun e W' ⟨he, bel⟩ => ?_
  subst he
  exact ⟨_, rfl, _, _, _, [], _, [], hW', trodAll_mk1 (shut_bool Try.underlying4 _), (trodAll_cons_mk (Below.trod laidOut (by kernel_rfl) (of_decide_eq_true (by kernel_rfl)) k0 bel lt0) (trodAll_cons_mk (Below.trod laidOut (by kernel_rfl) (of_decide_eq_true (by kernel_rfl)) k1 bel lt1) (trodAll_mk0))), rfl, bel.frame _, fun h => by cases h⟩

theorem over : Rows.valueRoundTripRow.holds Try.pinned (OpenSpec.ofChange Rows.valueRoundTripSpec) :=
  OpenClaim.holds_of_wide 10 Try.f10 rfl rfl rfl rfl rfl rfl rfl ⟨rfl, rfl, rfl, rfl, rfl⟩ rfl rfl rfl rfl rfl (by kernel_rfl) Try.func10 (by kernel_rfl)
    (of_decide_eq_true (by kernel_rfl)) (by unfold Func.isWrapper; first | (rw [if_pos (by decide +kernel)]; kernel_rfl) | (rw [if_neg (by decide +kernel)]; exact ⟨rfl, rfl⟩))
    (fun os started H enc _ => lifted os started H enc)

theorem proved : Rows.ValueRoundTripSaid := over
end Go.Proofs.Ytidinbeanaifmaa.valueRoundTrip
