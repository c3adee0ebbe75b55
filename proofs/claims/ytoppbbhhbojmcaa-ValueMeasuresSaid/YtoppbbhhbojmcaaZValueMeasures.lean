/-
  ValueMeasures returns true for every input, and its arguments read afterwards as they read before.
-/
import Derived.Test.YtoppbbhhbojmcaaBO
import Derived.Test.YtoppbbhhbojmcaaBN
import Derived.Test.YtoppbbhhbojmcaaBG
import Derived.Test.YtoppbbhhbojmcaaBD
import Derived.Test.YtoppbbhhbojmcaaBL
import Derived.Test.YtoppbbhhbojmcaaBH
import Derived.Test.YtoppbbhhbojmcaaBM
namespace Go.Proofs.Ytoppbbhhbojmcaa
open Go.RowKit

/-- blocks from lo on that may be written -/
def Fre (lo : Nat) (w : World) : Nat → Prop := fun b => lo ≤ b ∧ b < w.heap.size ∧ ∀ q, w.frozen? ⟨b, q, none⟩ = false
theorem LiesC.ownF {w : World} {lo c n : Nat} {A : Option Addr} {l : List VT} {cs : List Value} (h : LiesC w (Fre lo w) l cs) (hn : n = l.length) (ho : w.ownsRow lo 26 5 (.slice A n c) n cs) : LiesL w (Fre lo w) A 0 l := by
  subst hn
  have ho' := ho
  rcases ho.2 with ⟨_, h0⟩ | ⟨g, cap, cur, hv, hb, hg, _⟩
  · rw [List.eq_nil_of_length_eq_zero h0]; exact LiesL.none_
  · have hA : A = some ⟨g, 0, none⟩ := by injection hv
    subst hA
    refine LiesC.row ⟨hb, (Array.getElem?_eq_some_iff.1 hg).1, fun q => ho'.frozenAt q⟩ h (fun j u hj => ?_)
    have := ho.cells (g := g) rfl j u hj
    simpa [Addr.add_lit] using this
theorem strs_ownF {w : World} {lo c n : Nat} {A : Option Addr} {l : List ByteArray} (hs : ∀ s ∈ l, s.size ≤ 9223372036854775807) (hn : n = l.length) (ho : w.ownsRow lo 9 1 (.slice A n c) n (l.map Value.string)) : LiesS w (Fre lo w) A l := by
  subst hn
  have ho' := ho
  intro j s hj
  refine ⟨hs s (List.mem_of_getElem? hj), ?_⟩
  rcases ho.2 with ⟨_, h0⟩ | ⟨g, cap, cur, hv, hb, hg, _⟩
  · rw [List.eq_nil_of_length_eq_zero h0] at hj; simp at hj
  · have hA : A = some ⟨g, 0, none⟩ := by injection hv
    subst hA
    refine ⟨g, 0, rfl, ⟨hb, (Array.getElem?_eq_some_iff.1 hg).1, fun q => ho'.frozenAt q⟩, ?_⟩
    have := ho.cells (g := g) rfl j (.string s) (by rw [List.getElem?_map, hj]; rfl)
    simpa [Addr.add_lit] using this
mutual
theorem Ownd.liesF {w : World} {lo : Nat} : ∀ {x : VT} {v : Value}, Ownd w lo x v → Lies w (Fre lo w) x v
  | .mk k i t its ks, v, h => by
    rw [Ownd] at h
    rw [Lies]
    obtain ⟨A, c, A', c', cs, e, h1, h2, h3, h4, h5, h6, h7⟩ := h
    exact ⟨A, c, A', c', e, h1, h2, h3, (own_bounds h4).1, (own_bounds h4).2, (OwnC.liesF h5).ownF rfl h4, (own_bounds h6).1, (own_bounds h6).2, strs_ownF h7 rfl h6⟩
theorem OwnC.liesF {w : World} {lo : Nat} : ∀ {l : List VT} {cs : List Value}, OwnC w lo l cs → LiesC w (Fre lo w) l cs
  | [], _, h => by rw [OwnC] at h; exact h
  | x :: r, cs, h => by
    rw [OwnC] at h
    obtain ⟨a, b, s, y, z, rest, e, hx, hr⟩ := h
    exact ⟨a, b, s, y, z, rest, e, Ownd.liesF hx, OwnC.liesF hr⟩
end

set_option maxRecDepth 100000 in
set_option maxHeartbeats 8000000 in
theorem ValueMeasures_walk (x : VT) (v : Value) (y : VT) (u : Value) (w : World) (hv : Lies w (Lo w) x v) (hre : x.all reachF = true) (hu : Lies w (Lo w) y u) : Calls Try.prog 4 #[v, u] w (Gives (.bool true) w) := by
  have HX := Lib.hid (fun (w' : World) (hb : Below w.heap.size w w') => Few_any 2000 (by omega) (by omega) (hv.below hb))
  have HY := Lib.hid (fun (w' : World) (hb : Below w.heap.size w w') => Few_any 2000 (by omega) (by omega) (hu.below hb))
  have SZ : Hid (decide (0 ≤ x.few 2000) = true → x.size < 4611686018427387904) := Lib.hid (fun h => by have := few_size (of_decide_eq_true h); omega)
  have LV := Lib.hid (fun (w' : World) (hb : Below w.heap.size w w') => hv.below hb)
  have LU := Lib.hid (fun (w' : World) (hb : Below w.heap.size w w') => hu.below hb)
  have RE := Lib.hid hre
  clear hre
  obtain ⟨X, hX⟩ : ∃ X, X = x := ⟨_, rfl⟩
  obtain ⟨Y, hY⟩ : ∃ Y, Y = y := ⟨_, rfl⟩
  rw [← hX] at HX SZ LV RE
  rw [← hY] at HY LU
  obtain ⟨k, i, t, its, ks⟩ := x
  obtain ⟨k', i', t', jts, ls⟩ := y
  obtain ⟨A, c, A', c', rfl, _, _, _, _, _, _, _, _, _⟩ := hv.open
  obtain ⟨D, e, D', e', rfl, _, _, _, _, _, _, _, _, _⟩ := hu.open
  obtain ⟨w2, hw2⟩ : ∃ w2, w2 = (w.alloc (.cells #[.int .i64 k, .int .i64 i, .string t, .slice A its.length c, .slice A' ks.length c'] 26)).alloc (.cells #[.int .i64 k', .int .i64 i', .string t', .slice D jts.length e, .slice D' ls.length e'] 26) := ⟨_, rfl⟩
  have B2 : Hid (Below w.heap.size w w2) := Lib.hid (by rw [hw2]; exact (below_one _ _).trans (Below.alloc (Below.refl _ _) (by simp) _))
  have P2 : Hid (Bk w2 w.heap.size 26 #[.int .i64 k, .int .i64 i, .string t, .slice A its.length c, .slice A' ks.length c']) := Lib.hid (by rw [hw2]; exact (Bk.new _ _ _).alloc _)
  have Q2 : Hid (Bk w2 (w.heap.size + 1) 26 #[.int .i64 k', .int .i64 i', .string t', .slice D jts.length e, .slice D' ls.length e']) := Lib.hid (by rw [hw2]; have := Bk.new (w.alloc (.cells #[.int .i64 k, .int .i64 i, .string t, .slice A its.length c, .slice A' ks.length c'] 26)) 26 #[.int .i64 k', .int .i64 i', .string t', .slice D jts.length e, .slice D' ls.length e']; simpa using this)
  have H1 := Lib.hid (HX.out w2 B2.out)
  have HW := Lib.hid hw2
  clear hv hu hw2 hX hY
  generalize decide (0 ≤ X.few 2000) = p at *
  generalize decide (0 ≤ Y.few 2000) = q at *
  unfold vag at *
  go_enter Try.func4, Try.ntmps4
  go_wp2_with fail
  rw [← HW.out]
  refine (H1.out).mono ?_
  rintro e0 w3 ⟨rfl, hb⟩
  have P3 := Lib.hid (P2.out.below hb P2.out.lt)
  have Q3 := Lib.hid (Q2.out.below hb Q2.out.lt)
  have B3 := Lib.hid (below_next B2.out hb)
  clear hb
  cases p with
  | false =>
    go_wp2_with fail
    refine (works_any w3).mono ?_
    rintro e0 w4 ⟨rfl, hb⟩
    have B4 := Lib.hid (below_next B3.out hb)
    clear hb
    go_wp2
    go_ret
    exact ⟨rfl, B4.out⟩
  | true =>
    have SX := Lib.hid (SZ.out (by trivial))
    have H2 := Lib.hid (HY.out w3 B3.out)

    have q0 := Q3.out.cell 0
    change _ = some (Value.int .i64 k') at q0
    have q1 := Q3.out.cell 1
    change _ = some (Value.int .i64 i') at q1
    have q2 := Q3.out.cell 2
    change _ = some (Value.string t') at q2
    have q3 := Q3.out.cell 3
    change _ = some (Value.slice D jts.length e) at q3
    have q4 := Q3.out.cell 4
    change _ = some (Value.slice D' ls.length e') at q4
    go_wp2_with fail
    refine (H2.out).mono ?_
    rintro e0 w4 ⟨rfl, hb⟩
    have P4 := Lib.hid (P3.out.below hb P3.out.lt)
    have Q4 := Lib.hid (Q3.out.below hb Q3.out.lt)
    have B4 := Lib.hid (below_next B3.out hb)
    clear hb q0 q1 q2 q3 q4
    cases q with
    | false =>
      go_wp2_with fail
      refine (works_any w4).mono ?_
      rintro e0 w5 ⟨rfl, hb⟩
      have B5 := Lib.hid (below_next B4.out hb)
      clear hb
      go_wp2
      go_ret
      exact ⟨rfl, B5.out⟩
    | true =>
      have H4 := Lib.hid (refCopy_any (LV.out w4 B4.out) RE.out)
      have a0 := P4.out.cell 0
      change _ = some (Value.int .i64 k) at a0
      have a1 := P4.out.cell 1
      change _ = some (Value.int .i64 i) at a1
      have a2 := P4.out.cell 2
      change _ = some (Value.string t) at a2
      have a3 := P4.out.cell 3
      change _ = some (Value.slice A its.length c) at a3
      have a4 := P4.out.cell 4
      change _ = some (Value.slice A' ks.length c') at a4
      go_wp2_with fail
      refine (H4.out).mono ?_
      rintro e0 w5 ⟨va, rfl, hva, hb⟩
      obtain ⟨k2, i2, t2, E, n2, c2, E', n3, c3, rfl⟩ := hva.formV
      have P5 := Lib.hid (P4.out.below hb P4.out.lt)
      have Q5 := Lib.hid (Q4.out.below hb Q4.out.lt)
      have B5 := Lib.hid (below_next B4.out hb)
      have A5 : Hid (Lies w5 (Lo w5) X (.agg #[.int .i64 k2, .int .i64 i2, .string t2, .slice E n2 c2, .slice E' n3 c3])) := Lib.hid (hva.keep (fun _ _ => rfl) (fun b h => h.2))
      clear hb hva a0 a1 a2 a3 a4
      obtain ⟨w6, hw6⟩ : ∃ w6, w6 = w5.alloc (.cells #[.int .i64 k2, .int .i64 i2, .string t2, .slice E n2 c2, .slice E' n3 c3] 26) := ⟨_, rfl⟩
      have b6 : Below w5.heap.size w5 w6 := by rw [hw6]; exact below_one _ _
      have P6 := Lib.hid (P5.out.below b6 P5.out.lt)
      have Q6 := Lib.hid (Q5.out.below b6 Q5.out.lt)
      have W6 : Hid (Bk w6 w5.heap.size 26 #[.int .i64 k2, .int .i64 i2, .string t2, .slice E n2 c2, .slice E' n3 c3]) := Lib.hid (by rw [hw6]; exact Bk.new _ _ _)
      have B6 := Lib.hid (below_next B5.out b6)
      have A6 := Lib.hid (A5.out.below b6)
      have HW6 := Lib.hid hw6
      have H6 := Lib.hid (Copy_any (LV.out w6 B6.out) RE.out)
      clear b6 hw6
      have a0 := P6.out.cell 0
      change _ = some (Value.int .i64 k) at a0
      have a1 := P6.out.cell 1
      change _ = some (Value.int .i64 i) at a1
      have a2 := P6.out.cell 2
      change _ = some (Value.string t) at a2
      have a3 := P6.out.cell 3
      change _ = some (Value.slice A its.length c) at a3
      have a4 := P6.out.cell 4
      change _ = some (Value.slice A' ks.length c') at a4
      rw [HW6.out] at a0 a1 a2 a3 a4
      go_wp2_with fail
      rw [← HW6.out]
      refine (H6.out).mono ?_
      rintro e0 w7 ⟨vc, rfl, hvc, hb⟩
      obtain ⟨k4, i4, t4, F, n4, c4, F', n5, c5, rfl⟩ := hvc.form
      have P7 := Lib.hid (P6.out.below hb P6.out.lt)
      have Q7 := Lib.hid (Q6.out.below hb Q6.out.lt)
      have W7 := Lib.hid (W6.out.below hb W6.out.lt)
      have B7 := Lib.hid (below_next B6.out hb)
      have A7 := Lib.hid (A6.out.below hb)
      have Z7 := Lib.hid hb.size
      have K7 := Lib.hid hb
      have C7 := Lib.hid hvc
      clear hb hvc a0 a1 a2 a3 a4
      obtain ⟨w8, hw8⟩ : ∃ w8, w8 = w7.alloc (.cells #[.int .i64 k4, .int .i64 i4, .string t4, .slice F n4 c4, .slice F' n5 c5] 26) := ⟨_, rfl⟩
      have b8' : Below w7.heap.size w7 w8 := by rw [hw8]; exact below_one _ _
      have P8 := Lib.hid (P7.out.below b8' P7.out.lt)
      have Q8 := Lib.hid (Q7.out.below b8' Q7.out.lt)
      have W8 := Lib.hid (W7.out.below b8' W7.out.lt)
      have V8 : Hid (Bk w8 w7.heap.size 26 #[.int .i64 k4, .int .i64 i4, .string t4, .slice F n4 c4, .slice F' n5 c5]) := Lib.hid (by rw [hw8]; exact Bk.new _ _ _)
      have B8 := Lib.hid (below_next B7.out b8')
      have A8 := Lib.hid (A7.out.below b8')
      have K8 := Lib.hid (below_next K7.out b8')
      have C8 := Lib.hid (C7.out.keep (same_of_below b8' (Nat.le_refl _)))
      have HW8 := Lib.hid hw8
      have h8 := refSame_any C8.out.lies (LV.out w8 B8.out)
      rw [eqB_true rfl] at h8
      have H8 := Lib.hid h8
      clear b8' hw8 h8
      have a0 := P8.out.cell 0
      change _ = some (Value.int .i64 k) at a0
      have a1 := P8.out.cell 1
      change _ = some (Value.int .i64 i) at a1
      have a2 := P8.out.cell 2
      change _ = some (Value.string t) at a2
      have a3 := P8.out.cell 3
      change _ = some (Value.slice A its.length c) at a3
      have a4 := P8.out.cell 4
      change _ = some (Value.slice A' ks.length c') at a4
      have s0 := V8.out.cell 0
      change _ = some (Value.int .i64 k4) at s0
      have s1 := V8.out.cell 1
      change _ = some (Value.int .i64 i4) at s1
      have s2 := V8.out.cell 2
      change _ = some (Value.string t4) at s2
      have s3 := V8.out.cell 3
      change _ = some (Value.slice F n4 c4) at s3
      have s4 := V8.out.cell 4
      change _ = some (Value.slice F' n5 c5) at s4
      rw [HW8.out] at a0 a1 a2 a3 a4 s0 s1 s2 s3 s4
      go_wp2_with fail
      rw [← HW8.out]
      refine (H8.out).mono ?_
      rintro e0 w9 ⟨rfl, hb⟩
      have P9 := Lib.hid (P8.out.below hb P8.out.lt)
      have Q9 := Lib.hid (Q8.out.below hb Q8.out.lt)
      have W9 := Lib.hid (W8.out.below hb W8.out.lt)
      have V9 := Lib.hid (V8.out.below hb V8.out.lt)
      have B9 := Lib.hid (below_next B8.out hb)
      have A9 := Lib.hid (A8.out.below hb)
      have K9 := Lib.hid (below_next K8.out hb)
      have C9 := Lib.hid (C8.out.keep (same_of_below hb (Nat.le_refl _)))
      have H9 := Lib.hid (spoil_any C9.out.liesF (fun b h => h.2.1) (fun b q h => h.2.2 q))
      have LW : Hid (w5.heap.size < w6.heap.size) := Lib.hid W6.out.lt
      clear hb a0 a1 a2 a3 a4 s0 s1 s2 s3 s4
      have s0 := V9.out.cell 0
      change _ = some (Value.int .i64 k4) at s0
      have s1 := V9.out.cell 1
      change _ = some (Value.int .i64 i4) at s1
      have s2 := V9.out.cell 2
      change _ = some (Value.string t4) at s2
      have s3 := V9.out.cell 3
      change _ = some (Value.slice F n4 c4) at s3
      have s4 := V9.out.cell 4
      change _ = some (Value.slice F' n5 c5) at s4
      go_wp2_with fail
      refine (H9.out).mono ?_
      rintro e0 w10 ⟨rfl, ht, _, _⟩
      have Z9 : Hid (w6.heap.size ≤ w9.heap.size) := Lib.hid (by have := Z7.out; have := V8.out.lt; have := V9.out.lt; omega)
      have b10 : Below w6.heap.size w9 w10 := ht.below Z9.out (fun q h => h.1)
      have P10 := Lib.hid (P9.out.below b10 P6.out.lt)
      have Q10 := Lib.hid (Q9.out.below b10 Q6.out.lt)
      have W10 := Lib.hid (W9.out.below b10 W6.out.lt)
      have B10 : Hid (Below w.heap.size w w10) := Lib.hid (B9.out.trans (b10.mono (by have := P6.out.lt; omega)))
      have A10 : Hid (Lies w10 (Lo w10) X (.agg #[.int .i64 k2, .int .i64 i2, .string t2, .slice E n2 c2, .slice E' n3 c3])) := Lib.hid (A6.out.below (K9.out.trans b10))
      clear b10 ht s0 s1 s2 s3 s4

      have C1 : Hid (∀ q : BelowBy w10, Calls Try.prog 15 #[.agg #[.int .i64 k, .int .i64 i, .string t, .slice A its.length c, .slice A' ks.length c'], .agg #[.int .i64 k2, .int .i64 i2, .string t2, .slice E n2 c2, .slice E' n3 c3]] q.val (Gives (.bool true) q.val)) := Lib.hid (fun q => by have := refSame_any (LV.out q.val (below_next B10.out q.below)) (A10.out.below q.below); rwa [eqB_true rfl] at this)
      have C2 : Hid (∀ q : BelowBy w10, Calls Try.prog 30 #[.agg #[.int .i64 k, .int .i64 i, .string t, .slice A its.length c, .slice A' ks.length c']] q.val (Gives (.bool X.right) q.val)) := Lib.hid (fun q => valRight_any (LV.out q.val (below_next B10.out q.below)))
      have C3 : Hid (∀ q : BelowBy w10, Calls Try.prog 31 #[.agg #[.int .i64 k, .int .i64 i, .string t, .slice A its.length c, .slice A' ks.length c']] q.val (Gives (.bool X.right) q.val)) := Lib.hid (fun q => refRight_any SX.out (LV.out q.val (below_next B10.out q.below)))
      have C4 : Hid (∀ q : BelowBy w10, Calls Try.prog 32 #[.agg #[.int .i64 k, .int .i64 i, .string t, .slice A its.length c, .slice A' ks.length c'], .agg #[.int .i64 k', .int .i64 i', .string t', .slice D jts.length e, .slice D' ls.length e']] q.val (Gives (.bool (eqB X Y)) q.val)) := Lib.hid (fun q => valSame_all X.size X Y q.val _ _ (Nat.le_refl _) (LV.out q.val (below_next B10.out q.below)) (LU.out q.val (below_next B10.out q.below)))
      have C5 : Hid (∀ q : BelowBy w10, Calls Try.prog 15 #[.agg #[.int .i64 k, .int .i64 i, .string t, .slice A its.length c, .slice A' ks.length c'], .agg #[.int .i64 k', .int .i64 i', .string t', .slice D jts.length e, .slice D' ls.length e']] q.val (Gives (.bool (eqB X Y)) q.val)) := Lib.hid (fun q => refSame_any (LV.out q.val (below_next B10.out q.below)) (LU.out q.val (below_next B10.out q.below)))
      have C6 : Hid (∀ q : BelowBy w10, Calls Try.prog 32 #[.agg #[.int .i64 k, .int .i64 i, .string t, .slice A its.length c, .slice A' ks.length c'], .agg #[.int .i64 k2, .int .i64 i2, .string t2, .slice E n2 c2, .slice E' n3 c3]] q.val (Gives (.bool true) q.val)) := Lib.hid (fun q => by have := valSame_all X.size X X q.val _ _ (Nat.le_refl _) (LV.out q.val (below_next B10.out q.below)) (A10.out.below q.below); rwa [eqB_true rfl] at this)
      have C7 : Hid (∀ q : BelowBy w10, Calls Try.prog 33 #[.agg #[.int .i64 k, .int .i64 i, .string t, .slice A its.length c, .slice A' ks.length c']] q.val (Gives (.int .i64 (X.depth : Nat)) q.val)) := Lib.hid (fun q => valDepth_all X.size X q.val _ (Nat.le_refl _) SX.out (LV.out q.val (below_next B10.out q.below)))
      have C8 : Hid (∀ q : BelowBy w10, Calls Try.prog 34 #[.agg #[.int .i64 k, .int .i64 i, .string t, .slice A its.length c, .slice A' ks.length c']] q.val (Gives (.int .i64 (X.depth : Nat)) q.val)) := Lib.hid (fun q => refDepth_all X.size X q.val _ (Nat.le_refl _) SX.out (LV.out q.val (below_next B10.out q.below)))
      have C9 : Hid (∀ q : BelowBy w10, Calls Try.prog 35 #[.agg #[.int .i64 k, .int .i64 i, .string t, .slice A its.length c, .slice A' ks.length c']] q.val (Gives (.int .i64 (X.size : Nat)) q.val)) := Lib.hid (fun q => valSize_all X.size X q.val _ (Nat.le_refl _) SX.out (LV.out q.val (below_next B10.out q.below)))
      have C0 : Hid (∀ q : BelowBy w10, Calls Try.prog 36 #[.agg #[.int .i64 k, .int .i64 i, .string t, .slice A its.length c, .slice A' ks.length c']] q.val (Gives (.int .i64 (X.size : Nat)) q.val)) := Lib.hid (fun q => refSize_all X.size X q.val _ (Nat.le_refl _) SX.out (LV.out q.val (below_next B10.out q.below)))
      generalize X.right = z1 at *
      generalize eqB X Y = z2 at *
      generalize X.depth = z3 at *
      generalize X.size = z4 at *
      have x0 := BelowBy.cell (show w10.cell? ⟨w.heap.size, 0, none⟩ = some (.int .i64 k) from P10.out.cell 0)
      have x1 := BelowBy.cell (show w10.cell? ⟨w.heap.size, 1, none⟩ = some (.int .i64 i) from P10.out.cell 1)
      have x2 := BelowBy.cell (show w10.cell? ⟨w.heap.size, 2, none⟩ = some (.string t) from P10.out.cell 2)
      have x3 := BelowBy.cell (show w10.cell? ⟨w.heap.size, 3, none⟩ = some (.slice A its.length c) from P10.out.cell 3)
      have x4 := BelowBy.cell (show w10.cell? ⟨w.heap.size, 4, none⟩ = some (.slice A' ks.length c') from P10.out.cell 4)
      have y0 := BelowBy.cell (show w10.cell? ⟨w.heap.size + 1, 0, none⟩ = some (.int .i64 k') from Q10.out.cell 0)
      have y1 := BelowBy.cell (show w10.cell? ⟨w.heap.size + 1, 1, none⟩ = some (.int .i64 i') from Q10.out.cell 1)
      have y2 := BelowBy.cell (show w10.cell? ⟨w.heap.size + 1, 2, none⟩ = some (.string t') from Q10.out.cell 2)
      have y3 := BelowBy.cell (show w10.cell? ⟨w.heap.size + 1, 3, none⟩ = some (.slice D jts.length e) from Q10.out.cell 3)
      have y4 := BelowBy.cell (show w10.cell? ⟨w.heap.size + 1, 4, none⟩ = some (.slice D' ls.length e') from Q10.out.cell 4)
      have z0 := BelowBy.cell (show w10.cell? ⟨w5.heap.size, 0, none⟩ = some (.int .i64 k2) from W10.out.cell 0)
      have z1 := BelowBy.cell (show w10.cell? ⟨w5.heap.size, 1, none⟩ = some (.int .i64 i2) from W10.out.cell 1)
      have z2 := BelowBy.cell (show w10.cell? ⟨w5.heap.size, 2, none⟩ = some (.string t2) from W10.out.cell 2)
      have z3 := BelowBy.cell (show w10.cell? ⟨w5.heap.size, 3, none⟩ = some (.slice E n2 c2) from W10.out.cell 3)
      have z4 := BelowBy.cell (show w10.cell? ⟨w5.heap.size, 4, none⟩ = some (.slice E' n3 c3) from W10.out.cell 4)
      clear H1 H2 H4 H6 H8 H9 HX HY LV LU SZ
      go_wp2_with fail
      refine wp_region_gives (by kernel_rfl) (by kernel_rfl) ?_
      repeat (quiet_step ((first | (go_at_call 15; (first | with_reducible exact gives_by (C1.out _) | with_reducible exact gives_by (C5.out _))) | (go_at_call 30; exact gives_by (C2.out _)) | (go_at_call 31; exact gives_by (C3.out _)) | (go_at_call 32; (first | with_reducible exact gives_by (C4.out _) | with_reducible exact gives_by (C6.out _))) | (go_at_call 33; exact gives_by (C7.out _)) | (go_at_call 34; exact gives_by (C8.out _)) | (go_at_call 35; exact gives_by (C9.out _)) | (go_at_call 36; exact gives_by (C0.out _)) | (go_at_call 12; exact gives_by (works_any _)))))
      refine wpQuiet_nil ?_
      intro _ hw'
      obtain ⟨q, rfl⟩ := hw'
      go_wp2
      go_ret
      exact ⟨rfl, below_next B10.out q.below⟩
end Go.Proofs.Ytoppbbhhbojmcaa
namespace Go.Proofs.Ytoppbbhhbojmcaa.valueMeasures
open Go.ChangeShapes Go.WideShapes Go.ChangeAt Go.RowKit
open Go.ChangeMaps (open_string)
set_option linter.unusedVariables false

theorem own : ownKnob Try.prog.godebug = none := by kernel_rfl
theorem laidOut : laidOutB Try.prog = true := by kernel_rfl

set_option maxRecDepth 100000 in
theorem lifted (os : Os) (started : os.Started) (H : Type) (enc : TypeId × Value → H) :
    ReturnsInHanded {} Try.checked os 4 .any (Rows.valueMeasuresSpec.pre6 enc Try.prog Try.f4 Rows.valueMeasuresRow.domain false) (Rows.valueMeasuresSpec.post enc Try.prog Try.f4 false true false false) := by
  refine returnsInHanded_of_change_sized (C := Try.checked) own started (by kernel_rfl) Try.func4
    (ChangeSpec.witness6 (enc := enc) (C := Try.checked) false ⟨#[], #[.agg #[.int .i64 0, .int .i64 0, .string ByteArray.empty, .slice none 0 0, .slice none 0 0], .agg #[.int .i64 0, .int .i64 0, .string ByteArray.empty, .slice none 0 0, .slice none 0 0]], []⟩ 8 (by kernel_rfl) (by kernel_rfl) (by kernel_rfl) (by kernel_rfl)) ?_
  intro W base args ds gs before hval0 hW hcnd hwt _
  have hval : ∀ (j : Nat) t v, Try.f4.params[j]? = some t → args[j]? = some v → Value.okWide Try.prog W .any base t v := hval0
  have hW' := hW
  obtain ⟨p, q, hA0, hV, rfl, hfz, hnd⟩ := hW
  have hA : DataW.TrodAll enc Try.prog W 0 (fun _ => true) true Try.f4.params.toList args.toList ds p := hA0
  rw [Try.params4] at hA hval
  obtain ⟨v0, vs0, d0, ds0, p0, q0, hargs, rfl, rfl, h0, r0⟩ := trodAll_cons hA
  obtain ⟨v1, vs1, d1, ds1, p1, q1, rfl, rfl, rfl, h1, r1⟩ := trodAll_cons r0
  obtain ⟨rfl, rfl, rfl⟩ := trodAll_nil r1
  obtain rfl : args = #[v0, v1] := by cases args; simp_all
  obtain ⟨rfl, rfl⟩ := trodVars_none hV
  have k0 := h0
  have lt0 : ∀ x ∈ p0, x.block < W.heap.size := by obtain ⟨m, hm⟩ := k0; exact DataW.trod_lt m _ _ _ hm
  obtain ⟨x0, m0, n0⟩ := opens.value_reach (hval 0 26 v0 rfl rfl) h0 (fun n hn => of_decide_eq_true ((List.all_eq_true.1 hwt) n (DataW.weights_mem_each (j := 0) rfl rfl n hn)))
  have k1 := h1
  have lt1 : ∀ x ∈ p1, x.block < W.heap.size := by obtain ⟨m, hm⟩ := k1; exact DataW.trod_lt m _ _ _ hm
  obtain ⟨x1, m1⟩ := opens.value (hval 1 26 v1 rfl rfl) h1
  clear hA0 hval0
  refine (ValueMeasures_walk x0 v0 x1 v1 W m0 n0 m1).mono fun e W' ⟨he, bel⟩ => ?_
  subst he
  exact ⟨_, rfl, _, _, _, [], _, [], hW', trodAll_mk1 (shut_bool Try.underlying4 _), (trodAll_cons_mk (Below.trod laidOut (by kernel_rfl) (of_decide_eq_true (by kernel_rfl)) k0 bel lt0) (trodAll_cons_mk (Below.trod laidOut (by kernel_rfl) (of_decide_eq_true (by kernel_rfl)) k1 bel lt1) (trodAll_mk0))), rfl, bel.frame _, fun h => by cases h⟩

theorem over : Rows.valueMeasuresRow.holds Try.pinned (OpenSpec.ofChange Rows.valueMeasuresSpec) :=
  OpenClaim.holds_of_wide 4 Try.f4 rfl rfl rfl rfl rfl rfl rfl ⟨rfl, rfl, rfl, rfl, rfl⟩ rfl rfl rfl rfl rfl (by kernel_rfl) Try.func4 (by kernel_rfl)
    (of_decide_eq_true (by kernel_rfl)) (by unfold Func.isWrapper; first | (rw [if_pos (by decide +kernel)]; kernel_rfl) | (rw [if_neg (by decide +kernel)]; exact ⟨rfl, rfl⟩))
    (fun os started H enc _ => lifted os started H enc)

theorem proved : Rows.ValueMeasuresSaid := over
end Go.Proofs.Ytoppbbhhbojmcaa.valueMeasures
