/-
  ValueTotal returns true for every input, and its arguments read afterwards as they read before.
-/
import Derived.Test.YtoppbbhhbojmcaaBG
import Derived.Test.YtoppbbhhbojmcaaBL
import Derived.Test.YtoppbbhhbojmcaaBH
import Derived.Test.YtoppbbhhbojmcaaBM
namespace Go.Proofs.Ytoppbbhhbojmcaa
open Go.RowKit

def RSameUpto (m : Nat) : Prop := ∀ (x y : VT) (w : World) (v u : Value), x.size ≤ m → Lies w (Lo w) x v → Lies w (Lo w) y u → Calls Try.prog 15 #[v, u] w (Gives (.bool (eqB x y)) w)

set_option maxRecDepth 100000 in
set_option maxHeartbeats 8000000 in
set_option linter.unusedVariables false in
theorem refSame_loop (m : Nat) (IH : Hid (RSameUpto m)) (k i : Int) (t : ByteArray) (its : List VT) (ks : List ByteArray) (A : Option Addr) (c : Nat) (A' : Option Addr) (c' : Nat) (jts : List VT) (ls : List ByteArray) (D : Option Addr) (e : Nat) (D' : Option Addr) (e' : Nat) (w : World)
    (hL : LiesL w (Lo w) A 0 its) (hM : LiesL w (Lo w) D 0 jts) (hS : LiesS w (Lo w) A' ks) (hT : LiesS w (Lo w) D' ls) (h1 : its.length ≤ c) (h2 : c ≤ 9223372036854775807) (h5 : ks.length ≤ c') (h6 : c' ≤ 9223372036854775807)
    (hsz : sizes its ≤ m) (hlen : its.length = jts.length) (hkl : ks.length = ls.length) :
    Calls Try.prog 15 #[vag k i t A its.length c A' ks.length c', vag k i t D jts.length e D' ls.length e'] w (Gives (.bool (eqB (VT.mk k i t its ks) (VT.mk k i t jts ls))) w) := by
  have HL := Lib.hid hL
  have HM := Lib.hid hM
  have HS := Lib.hid hS
  have HT := Lib.hid hT
  obtain ⟨n, hn⟩ : ∃ n, n = its.length := ⟨_, rfl⟩
  obtain ⟨nk, hnk⟩ : ∃ nk, nk = ks.length := ⟨_, rfl⟩
  have HN := Lib.hid (And.intro hn (hn.trans hlen))
  have HK := Lib.hid (And.intro hnk (hnk.trans hkl))
  obtain ⟨w2, hw2⟩ : ∃ w2, w2 = (w.alloc (.cells #[.int .i64 k, .int .i64 i, .string t, .slice A n c, .slice A' nk c'] 26)).alloc (.cells #[.int .i64 k, .int .i64 i, .string t, .slice D n e, .slice D' nk e'] 26) := ⟨_, rfl⟩
  have B2 : Hid (Below w.heap.size w w2) := Lib.hid (by rw [hw2]; exact (below_one _ _).trans (Below.alloc (Below.refl _ _) (by simp) _))
  have S2 : Hid (w.heap.size + 1 < w2.heap.size) := Lib.hid (by rw [hw2]; simp)
  have X1 : Hid (∀ j, w2.cell? ⟨w.heap.size, j, none⟩ = (#[.int .i64 k, .int .i64 i, .string t, .slice A n c, .slice A' nk c'] : Array Value)[j]?) := Lib.hid (fun j => by
    rw [hw2, World.cell?_alloc_lt _ _ _ (by simp), World.cell?_alloc_at _ _ _ _ rfl])
  have X2 : Hid (∀ j, w2.cell? ⟨w.heap.size + 1, j, none⟩ = (#[.int .i64 k, .int .i64 i, .string t, .slice D n e, .slice D' nk e'] : Array Value)[j]?) := Lib.hid (fun j => by
    rw [hw2, World.cell?_alloc_at _ _ _ _ (by simp)])
  have EY : Hid (ks = ls → its = jts → eqB (VT.mk k i t its ks) (VT.mk k i t jts ls) = true) := Lib.hid (fun h h' => eqB_true (by rw [h, h']))
  have E1 : Hid (ks ≠ ls → eqB (VT.mk k i t its ks) (VT.mk k i t jts ls) = false) := Lib.hid (fun h => eqB_false (fun q => h (by injection q)))
  have E2 : Hid (its ≠ jts → eqB (VT.mk k i t its ks) (VT.mk k i t jts ls) = false) := Lib.hid (fun h => eqB_false (fun q => h (by injection q)))
  have HW := Lib.hid hw2
  rw [← hnk, ← hn, ← HN.out.2, ← HK.out.2]
  rw [← hn] at h1
  rw [← hnk] at h5
  clear hL hM hS hT hw2 hn hnk hlen hkl
  unfold vag
  go_enter Try.func15, Try.ntmps15
  go_wp2
  rw [← HW.out]
  go_loopw [5] (fun s wr => ∃ j : Nat, j ≤ nk ∧ s = .int .i64 j ∧ Hid (ks.take j = ls.take j) ∧ Hid (Below w2.heap.size w2 wr)) (fun s _ => nk - (intOf s).toNat)
  case atStart => exact ⟨0, by omega, rfl, Lib.hid rfl, Lib.hid (Below.refl _ _)⟩
  case round =>
    obtain ⟨j, hjn, rfl, hr, hb⟩ := hrel
    have b4 := (hb.out.cell (p := ⟨w.heap.size, 4, none⟩) (by have := S2.out; show w.heap.size < _; omega)).trans (X1.out 4)
    have b4' := (hb.out.cell (p := ⟨w.heap.size + 1, 4, none⟩) S2.out).trans (X2.out 4)
    change _ = some (Value.slice A' nk c') at b4
    change _ = some (Value.slice D' nk e') at b4'
    by_cases hlt : j < nk
    · have hj1 : j < ks.length := by have := HK.out.1; omega
      have hj2 : j < ls.length := by have := HK.out.2; omega
      have g1 : ks[j]? = some (ks.getD j ByteArray.empty) := by rw [List.getD_eq_getElem?_getD, List.getElem?_eq_getElem hj1]; rfl
      have g2 : ls[j]? = some (ls.getD j ByteArray.empty) := by rw [List.getD_eq_getElem?_getD, List.getElem?_eq_getElem hj2]; rfl
      obtain ⟨_, g, o, rfl, hg, f0⟩ := HS.out j _ g1
      obtain ⟨_, g', o', rfl, hg', f1⟩ := HT.out j _ g2
      have HB := Lib.hid (below_next B2.out hb.out)
      rw [← HB.out.cell (p := ⟨g, o + j, none⟩) hg] at f0
      rw [← HB.out.cell (p := ⟨g', o' + j, none⟩) hg'] at f1
      have hy := fun h => take_same g1 g2 hr.out h
      have hno := fun h => at_same g1 g2 h
      generalize ks.getD j ByteArray.empty = s at *
      generalize ls.getD j ByteArray.empty = s' at *
      have HY := Lib.hid hy
      have HNN := Lib.hid hno
      clear hy hno g1 g2
      by_cases hst : s = s'
      · have HR := Lib.hid (HY.out hst)
        subst hst
        go_wp2_with fail
        go_quiet (fail)
        have HB2 := Lib.hid (below_drew hb.out nq)
        go_wp2
        go_roundw
        case rel => exact ⟨j + 1, by omega, by go_num, HR, HB2⟩
        case measure => simp [intOf]; omega
      · have HR := Lib.hid (E1.out (HNN.out hst))
        have t1 : (s.toList == s'.toList) = false := by rw [beq_eq_false_iff_ne]; exact fun q => hst (str_inj q)
        clear hst
        go_wp2_with fail
        go_quiet (fail)
        go_wp2
        go_ret
        exact ⟨ret_bool HR.out.symm, below_next B2.out (below_drew hb.out nq)⟩
    · obtain rfl : j = nk := by omega
      have HKS : Hid (ks = ls) := Lib.hid (by
        have := hr.out
        rwa [HK.out.1, List.take_length, ← HK.out.1, HK.out.2, List.take_length] at this)
      go_wp2
      obtain ⟨w6, hw6⟩ : ∃ w6, w6 = wr := ⟨_, rfl⟩
      have HB6 : Hid (Below w2.heap.size w2 w6) := Lib.hid (by rw [hw6]; exact hb.out)
      rw [← hw6]
      clear b4 b4'
      clear hw6 hb hr
      go_loopw [6] (fun s wr => ∃ j : Nat, j ≤ n ∧ s = .int .i64 j ∧ Hid (its.take j = jts.take j) ∧ Hid (Below w2.heap.size w2 wr)) (fun s _ => n - (intOf s).toNat)
      case atStart => exact ⟨0, by omega, rfl, Lib.hid rfl, HB6⟩
      case round =>
        obtain ⟨j, hjn, rfl, hr, hb⟩ := hrel
        have b3 := (hb.out.cell (p := ⟨w.heap.size, 3, none⟩) (by have := S2.out; show w.heap.size < _; omega)).trans (X1.out 3)
        have b3' := (hb.out.cell (p := ⟨w.heap.size + 1, 3, none⟩) S2.out).trans (X2.out 3)
        change _ = some (Value.slice A n c) at b3
        change _ = some (Value.slice D n e) at b3'
        by_cases hlt : j < n
        · have g1 := List.getElem?_eq_getElem (l := its) (i := j) (by have := HN.out.1; omega)
          have g2 := List.getElem?_eq_getElem (l := jts) (i := j) (by have := HN.out.2; omega)
          obtain ⟨g, o, k1, i1, t1, B, n1, c1, B', n2, c2, rfl, hg, e0, e1, e2, e3, e4, hx⟩ := (HL.out).at_ g1
          obtain ⟨g', o', k3, i3, t3, E, n3, c3, E', n4, c4, rfl, hg', d0, d1, d2, d3, d4, hy⟩ := (HM.out).at_ g2
          have hle := size_at g1
          have HB := Lib.hid (below_next B2.out hb.out)
          have hyes := fun h => take_same g1 g2 hr.out h
          have hno := fun h => at_same g1 g2 h
          generalize its[j]'(by have := HN.out.1; omega) = x at *
          generalize jts[j]'(by have := HN.out.2; omega) = y at *
          have cc := fun (q : Nat) => HB.out.cell (p := ⟨g, q, none⟩) hg
          have cc' := fun (q : Nat) => HB.out.cell (p := ⟨g', q, none⟩) hg'
          rw [Nat.zero_add] at e0 e1 e2 e3 e4 d0 d1 d2 d3 d4
          rw [← cc] at e0 e1 e2 e3 e4
          rw [← cc'] at d0 d1 d2 d3 d4
          have HCC : Hid (∀ q : BelowBy wr, Calls Try.prog 15 #[vag k1 i1 t1 B n1 c1 B' n2 c2, vag k3 i3 t3 E n3 c3 E' n4 c4] q.val (Gives (.bool (eqB x y)) q.val)) := Lib.hid (fun q =>
            IH.out x y q.val _ _ (by omega) ((hx.below HB.out).below q.below) ((hy.below HB.out).below q.below))
          unfold vag at HCC
          have HY := Lib.hid hyes
          have HNN := Lib.hid hno
          have z3 := BelowBy.cell b3
          have z3' := BelowBy.cell b3'
          have q0 := BelowBy.cell e0
          have q1 := BelowBy.cell e1
          have q2 := BelowBy.cell e2
          have q3 := BelowBy.cell e3
          have q4 := BelowBy.cell e4
          have r0 := BelowBy.cell d0
          have r1 := BelowBy.cell d1
          have r2 := BelowBy.cell d2
          have r3 := BelowBy.cell d3
          have r4 := BelowBy.cell d4
          clear hx hy cc cc' hyes hno g1 g2 hle e0 e1 e2 e3 e4 d0 d1 d2 d3 d4
          go_wp2_with fail
          refine wp_region_gives (by kernel_rfl) (by kernel_rfl) ?_
          repeat (quiet_step ((go_at_call 15; exact gives_by (HCC.out _))))
          refine wpQuiet_nil ?_
          intro _ hw'
          obtain ⟨q, rfl⟩ := hw'
          obtain ⟨wq, hwq⟩ : ∃ wq, wq = q.val := ⟨_, rfl⟩
          have HQ : Hid (Below w2.heap.size w2 wq) := Lib.hid (by rw [hwq]; exact below_next hb.out q.below)
          rw [← hwq]
          clear hwq z3 z3' q0 q1 q2 q3 q4 r0 r1 r2 r3 r4 HCC b3 b3'
          by_cases hxy : x = y
          · have HR := Lib.hid (HY.out hxy)
            rw [eqB_true hxy]
            clear hxy
            go_wp2
            go_roundw
            case rel => exact ⟨j + 1, by omega, by go_num, HR, HQ⟩
            case measure => simp [intOf]; omega
          · have HR := Lib.hid (E2.out (HNN.out hxy))
            rw [eqB_false hxy]
            clear hxy
            go_wp2
            go_ret
            exact ⟨ret_bool HR.out.symm, below_next B2.out HQ.out⟩
        · have HR := Lib.hid (EY.out HKS.out (by
            have := hr.out
            rwa [show j = n by omega, HN.out.1, List.take_length, ← HN.out.1, HN.out.2, List.take_length] at this))
          go_wp2
          go_ret
          exact ⟨ret_bool HR.out.symm, below_next B2.out hb.out⟩

set_option maxRecDepth 100000 in
set_option maxHeartbeats 4000000 in
theorem refSame_all (m : Nat) : RSameUpto m := by
  induction m with
  | zero => intro x _ _ _ _ h; have := size_pos x; omega
  | succ m ih =>
    intro x y w v u hsz hv hu
    have IH := Lib.hid ih
    clear ih
    obtain ⟨k, i, t, its, ks⟩ := x
    obtain ⟨k', i', t', jts, ls⟩ := y
    obtain ⟨A, c, A', c', rfl, _, _, _, h1, h2, hL, h3, h4, hS⟩ := hv.open
    obtain ⟨D, e, D', e', rfl, _, _, _, _, _, hM, _, _, hT⟩ := hu.open
    rw [VT.size_mk] at hsz
    have BB : Hid (∀ (o o' : Obj), Below w.heap.size w ((w.alloc o).alloc o')) := Lib.hid (fun o o' => (below_one _ _).trans (Below.alloc (Below.refl _ _) (by simp) _))
    by_cases q1 : k = k'
    · subst q1
      by_cases q2 : i = i'
      · subst q2
        by_cases q3 : t = t'
        · subst q3
          by_cases q4 : its.length = jts.length
          · by_cases q5 : ks.length = ls.length
            · exact refSame_loop m IH k i t its ks A c A' c' jts ls D e D' e' w hL hM hS hT h1 h2 h3 h4 (by omega) q4 q5
            · have HR : Hid (eqB (VT.mk k i t its ks) (VT.mk k i t jts ls) = false) := Lib.hid (eqB_false (fun q => q5 (by injection q; simp [*])))
              have f4 : (((its.length : Nat) : Int) != ((jts.length : Nat) : Int)) = false := by rw [bne_eq_false_iff_eq]; omega
              have f5 : (((ks.length : Nat) : Int) != ((ls.length : Nat) : Int)) = true := by rw [bne_iff_ne]; omega
              clear hv hu hL hM hS hT q4 q5
              unfold vag
              go_enter Try.func15, Try.ntmps15
              go_wp2
              go_ret
              exact ⟨ret_bool HR.out.symm, BB.out _ _⟩
          · have HR : Hid (eqB (VT.mk k i t its ks) (VT.mk k i t jts ls) = false) := Lib.hid (eqB_false (fun q => q4 (by injection q; simp [*])))
            have f4 : (((its.length : Nat) : Int) != ((jts.length : Nat) : Int)) = true := by rw [bne_iff_ne]; omega
            clear hv hu hL hM hS hT q4
            unfold vag
            go_enter Try.func15, Try.ntmps15
            go_wp2
            go_ret
            exact ⟨ret_bool HR.out.symm, BB.out _ _⟩
        · have HR : Hid (eqB (VT.mk k i t its ks) (VT.mk k i t' jts ls) = false) := Lib.hid (eqB_false (fun q => q3 (by injection q)))
          have f3 : (t.toList == t'.toList) = false := by rw [beq_eq_false_iff_ne]; exact fun q => q3 (str_inj q)
          clear hv hu hL hM hS hT q3
          unfold vag
          go_enter Try.func15, Try.ntmps15
          go_wp2
          go_ret
          exact ⟨ret_bool HR.out.symm, BB.out _ _⟩
      · have HR : Hid (eqB (VT.mk k i t its ks) (VT.mk k i' t' jts ls) = false) := Lib.hid (eqB_false (fun q => q2 (by injection q)))
        have f2 : (i != i') = true := by rw [bne_iff_ne]; exact q2
        clear hv hu hL hM hS hT q2
        unfold vag
        go_enter Try.func15, Try.ntmps15
        go_wp2
        go_ret
        exact ⟨ret_bool HR.out.symm, BB.out _ _⟩
    · have HR : Hid (eqB (VT.mk k i t its ks) (VT.mk k' i' t' jts ls) = false) := Lib.hid (eqB_false (fun q => q1 (by injection q)))
      have f1 : (k != k') = true := by rw [bne_iff_ne]; exact q1
      clear hv hu hL hM hS hT q1
      unfold vag
      go_enter Try.func15, Try.ntmps15
      go_wp2
      go_ret
      exact ⟨ret_bool HR.out.symm, BB.out _ _⟩
theorem refSame_any {x y : VT} {v u : Value} {w : World} (h : Lies w (Lo w) x v) (h' : Lies w (Lo w) y u) : Calls Try.prog 15 #[v, u] w (Gives (.bool (eqB x y)) w) := refSame_all x.size x y w v u (Nat.le_refl _) h h'
end Go.Proofs.Ytoppbbhhbojmcaa
namespace Go.Proofs.Ytoppbbhhbojmcaa
open Go.RowKit

set_option maxRecDepth 100000 in
set_option maxHeartbeats 4000000 in
theorem ValueOrders_walk (x : VT) (v : Value) (y : VT) (u : Value) (w : World) (hv : Lies w (Lo w) x v) (hu : Lies w (Lo w) y u) : Calls Try.prog 5 #[v, u] w (Gives (.bool true) w) := by
  have HX := Lib.hid (fun (w' : World) (hb : Below w.heap.size w w') => Few_any 300 (by omega) (by omega) (hv.below hb))
  have HY := Lib.hid (fun (w' : World) (hb : Below w.heap.size w w') => Few_any 300 (by omega) (by omega) (hu.below hb))
  have HV := Lib.hid (fun (w' : World) (hb : Below w.heap.size w w') => valOrder_any (hv.below hb) (hu.below hb))
  have HR := Lib.hid (fun (w' : World) (hb : Below w.heap.size w w') => refOrder_any (hv.below hb) (hu.below hb))
  obtain ⟨k, i, t, its, ks⟩ := x
  obtain ⟨k', i', t', jts, ls⟩ := y
  obtain ⟨A, c, A', c', rfl, _, _, _, _, _, _, _, _, _⟩ := hv.open
  obtain ⟨D, e, D', e', rfl, _, _, _, _, _, _, _, _, _⟩ := hu.open
  obtain ⟨w2, hw2⟩ : ∃ w2, w2 = (w.alloc (.cells #[.int .i64 k, .int .i64 i, .string t, .slice A its.length c, .slice A' ks.length c'] 26)).alloc (.cells #[.int .i64 k', .int .i64 i', .string t', .slice D jts.length e, .slice D' ls.length e'] 26) := ⟨_, rfl⟩
  have B2 : Hid (Below w.heap.size w w2) := Lib.hid (by rw [hw2]; exact (below_one _ _).trans (Below.alloc (Below.refl _ _) (by simp) _))
  have P2 : Hid (Bk w2 w.heap.size 26 #[.int .i64 k, .int .i64 i, .string t, .slice A its.length c, .slice A' ks.length c']) := Lib.hid (by rw [hw2]; exact (Bk.new _ _ _).alloc _)
  have Q2 : Hid (Bk w2 (w.heap.size + 1) 26 #[.int .i64 k', .int .i64 i', .string t', .slice D jts.length e, .slice D' ls.length e']) := Lib.hid (by rw [hw2]; have := Bk.new (w.alloc (.cells #[.int .i64 k, .int .i64 i, .string t, .slice A its.length c, .slice A' ks.length c'] 26)) 26 #[.int .i64 k', .int .i64 i', .string t', .slice D jts.length e, .slice D' ls.length e']; simpa using this)
  have H1 := Lib.hid (HX.out w2 B2.out)
  have HW := Lib.hid hw2
  clear hv hu hw2
  generalize decide (0 ≤ (VT.mk k i t its ks).few 300) = p at *
  generalize decide (0 ≤ (VT.mk k' i' t' jts ls).few 300) = q at *
  generalize (VT.mk k i t its ks).ord (.mk k' i' t' jts ls) = z at *
  unfold vag at *
  go_enter Try.func5, Try.ntmps5
  go_wp2_with fail
  rw [← HW.out]
  refine (H1.out).mono ?_
  rintro e0 w3 ⟨rfl, hb⟩
  have P3 := Lib.hid (P2.out.below hb P2.out.lt)
  have Q3 := Lib.hid (Q2.out.below hb Q2.out.lt)
  have B3 := Lib.hid (below_next B2.out hb)
  clear hb
  cases p with
  | false =>
    go_wp2_with fail
    refine (works_any w3).mono ?_
    rintro e0 w4 ⟨rfl, hb⟩
    have B4 := Lib.hid (below_next B3.out hb)
    clear hb
    go_wp2
    go_ret
    exact ⟨rfl, B4.out⟩
  | true =>
    have H2 := Lib.hid (HY.out w3 B3.out)
    have q0 := Q3.out.cell 0
    have q1 := Q3.out.cell 1
    have q2 := Q3.out.cell 2
    have q3 := Q3.out.cell 3
    have q4 := Q3.out.cell 4
    go_wp2_with fail
    refine (H2.out).mono ?_
    rintro e0 w4 ⟨rfl, hb⟩
    have P4 := Lib.hid (P3.out.below hb P3.out.lt)
    have Q4 := Lib.hid (Q3.out.below hb Q3.out.lt)
    have B4 := Lib.hid (below_next B3.out hb)
    clear hb q0 q1 q2 q3 q4
    cases q with
    | false =>
      go_wp2_with fail
      refine (works_any w4).mono ?_
      rintro e0 w5 ⟨rfl, hb⟩
      have B5 := Lib.hid (below_next B4.out hb)
      clear hb
      go_wp2
      go_ret
      exact ⟨rfl, B5.out⟩
    | true =>
      have H3 : Hid (∀ q : BelowBy w4, Calls Try.prog 37 #[.agg #[.int .i64 k, .int .i64 i, .string t, .slice A its.length c, .slice A' ks.length c'], .agg #[.int .i64 k', .int .i64 i', .string t', .slice D jts.length e, .slice D' ls.length e']] q.val (Gives (.int .i64 z) q.val)) := Lib.hid (fun q => HV.out q.val (below_next B4.out q.below))
      have H4 : Hid (∀ q : BelowBy w4, Calls Try.prog 38 #[.agg #[.int .i64 k, .int .i64 i, .string t, .slice A its.length c, .slice A' ks.length c'], .agg #[.int .i64 k', .int .i64 i', .string t', .slice D jts.length e, .slice D' ls.length e']] q.val (Gives (.int .i64 z) q.val)) := Lib.hid (fun q => HR.out q.val (below_next B4.out q.below))
      have x0 := BelowBy.cell (show w4.cell? ⟨w.heap.size, 0, none⟩ = some (.int .i64 k) from P4.out.cell 0)
      have x1 := BelowBy.cell (show w4.cell? ⟨w.heap.size, 1, none⟩ = some (.int .i64 i) from P4.out.cell 1)
      have x2 := BelowBy.cell (show w4.cell? ⟨w.heap.size, 2, none⟩ = some (.string t) from P4.out.cell 2)
      have x3 := BelowBy.cell (show w4.cell? ⟨w.heap.size, 3, none⟩ = some (.slice A its.length c) from P4.out.cell 3)
      have x4 := BelowBy.cell (show w4.cell? ⟨w.heap.size, 4, none⟩ = some (.slice A' ks.length c') from P4.out.cell 4)
      have y0 := BelowBy.cell (show w4.cell? ⟨w.heap.size + 1, 0, none⟩ = some (.int .i64 k') from Q4.out.cell 0)
      have y1 := BelowBy.cell (show w4.cell? ⟨w.heap.size + 1, 1, none⟩ = some (.int .i64 i') from Q4.out.cell 1)
      have y2 := BelowBy.cell (show w4.cell? ⟨w.heap.size + 1, 2, none⟩ = some (.string t') from Q4.out.cell 2)
      have y3 := BelowBy.cell (show w4.cell? ⟨w.heap.size + 1, 3, none⟩ = some (.slice D jts.length e) from Q4.out.cell 3)
      have y4 := BelowBy.cell (show w4.cell? ⟨w.heap.size + 1, 4, none⟩ = some (.slice D' ls.length e') from Q4.out.cell 4)
      go_wp2_with fail
      refine wp_region_gives (by kernel_rfl) (by kernel_rfl) ?_
      repeat (quiet_step ((first | (go_at_call 37; exact gives_by (H3.out _)) | (go_at_call 38; exact gives_by (H4.out _)) | (go_at_call 12; exact gives_by (works_any _)))))
      refine wpQuiet_nil ?_
      intro _ hw'
      obtain ⟨q, rfl⟩ := hw'
      go_wp2
      go_ret
      exact ⟨rfl, below_next B4.out q.below⟩
end Go.Proofs.Ytoppbbhhbojmcaa
namespace Go.Proofs.Ytoppbbhhbojmcaa
open Go.RowKit

theorem thn_rng {c d : Int} (h : -1 ≤ c ∧ c ≤ 1) (k : -1 ≤ d ∧ d ≤ 1) : -1 ≤ thn c d ∧ thn c d ≤ 1 := by unfold thn; split <;> assumption
theorem cmpI_rng (a b : Int) : -1 ≤ cmpI a b ∧ cmpI a b ≤ 1 := by unfold cmpI; repeat' split <;> omega
theorem cmpS_rng (a b : ByteArray) : -1 ≤ cmpS a b ∧ cmpS a b ≤ 1 := by unfold cmpS; repeat' split <;> omega
mutual
theorem VT.cmp_rng : ∀ x y : VT, -1 ≤ x.cmp y ∧ x.cmp y ≤ 1
  | .mk k i t its ks, y => by
    rw [VT.cmp_mk]
    exact thn_rng (cmpI_rng _ _) (thn_rng (cmpI_rng _ _) (thn_rng (cmpS_rng _ _) (cmps_rng _ its ks y.its y.ks)))
theorem cmps_rng (m : Bool) : ∀ (xs : List VT) (ks : List ByteArray) (ys : List VT) (ls : List ByteArray), -1 ≤ cmps m xs ks ys ls ∧ cmps m xs ks ys ls ≤ 1
  | [], ks, ys, ls => by rw [cmps_nil]; split <;> omega
  | x :: xs, ks, [], ls => by rw [cmps_out]; omega
  | x :: xs, ks, y :: ys, ls => by
    rw [cmps_cons]
    refine thn_rng ?_ (thn_rng (VT.cmp_rng x y) (cmps_rng m xs ks.tail ys ls.tail))
    cases m with
    | true => exact cmpS_rng _ _
    | false => exact ⟨by simp, by simp⟩
end
/-- three values in a block -/
theorem vals3 {w : World} {g : Nat} {t : TypeId} {x y z : VT} {a b s p q a' b' s' p' q' a2 b2 s2 p2 q2 : Value} (h : Bk w g t #[a, b, s, p, q, a', b', s', p', q', a2, b2, s2, p2, q2]) (hx : Lies w (Lo w) x (.agg #[a, b, s, p, q])) (hy : Lies w (Lo w) y (.agg #[a', b', s', p', q'])) (hz : Lies w (Lo w) z (.agg #[a2, b2, s2, p2, q2])) :
    LiesL w (Lo w) (some ⟨g, 0, none⟩) 0 [x, y, z] := by
  rw [LiesL, LiesL, LiesL, LiesL]
  exact ⟨⟨g, 0, a, b, s, p, q, rfl, h.lt, h.cell 0, h.cell 1, h.cell 2, h.cell 3, h.cell 4, hx⟩, ⟨g, 0, a', b', s', p', q', rfl, h.lt, h.cell 5, h.cell 6, h.cell 7, h.cell 8, h.cell 9, hy⟩, ⟨g, 0, a2, b2, s2, p2, q2, rfl, h.lt, h.cell 10, h.cell 11, h.cell 12, h.cell 13, h.cell 14, hz⟩, trivial⟩

set_option maxRecDepth 100000 in
set_option maxHeartbeats 16000000 in
theorem ValueTotal_walk (x : VT) (v : Value) (y : VT) (u : Value) (z : VT) (r : Value) (w : World) (hv : Lies w (Lo w) x v) (hu : Lies w (Lo w) y u) (hr : Lies w (Lo w) z r) : Calls Try.prog 6 #[v, u, r] w (Gives (.bool true) w) := by
  have HXY := Lib.hid (fun (w' : World) (hb : Below w.heap.size w w') => valOrder_any (hv.below hb) (hu.below hb))
  have HYX := Lib.hid (fun (w' : World) (hb : Below w.heap.size w w') => valOrder_any (hu.below hb) (hv.below hb))
  have HYZ := Lib.hid (fun (w' : World) (hb : Below w.heap.size w w') => valOrder_any (hu.below hb) (hr.below hb))
  have HXZ := Lib.hid (fun (w' : World) (hb : Below w.heap.size w w') => valOrder_any (hv.below hb) (hr.below hb))
  have HSM := Lib.hid (fun (w' : World) (hb : Below w.heap.size w w') => refSame_any (hv.below hb) (hu.below hb))
  have ORD : Hid (∀ a b : VT, a.wf = true → b.wf = true → a.ord b = a.cmp b) := Lib.hid (fun a b h h' => by unfold VT.ord; rw [h, h']; rfl)
  have HEQ : Hid (x.wf = true → y.wf = true → eqB x y = (-(y.cmp x) == 0)) := Lib.hid (fun h h' => by
    have hn := VT.cmp_neg x y
    by_cases e : x = y
    · rw [eqB_true e, e, VT.cmp_self]; rfl
    · rw [eqB_false e]
      symm
      rw [beq_eq_false_iff_ne]
      intro h0
      exact e (VT.cmp_eq x y h h' (by omega)))
  have HNG := Lib.hid (VT.cmp_neg x y)
  have HT1 : Hid (x.wf = true → y.wf = true → z.wf = true → x.cmp y ≤ 0 → y.cmp z ≤ 0 → x.cmp z ≤ 0) := Lib.hid (fun h h' h2 a b => VT.cmp_trans x y z h h' h2 a b)
  have HT2 : Hid (x.wf = true → y.wf = true → z.wf = true → 0 ≤ x.cmp y → 0 ≤ y.cmp z → 0 ≤ x.cmp z) := Lib.hid (fun h h' h2 a b => by
    have h3 := VT.cmp_trans z y x h2 h' h (by have := VT.cmp_neg z y; omega) (by have := VT.cmp_neg y x; omega)
    have h4 := VT.cmp_neg z x
    omega)
  have HG1 := Lib.hid (VT.cmp_rng y x)
  have HG2 := Lib.hid (VT.cmp_rng y z)
  have HG3 := Lib.hid (VT.cmp_rng x z)
  obtain ⟨k, i, t, its, ks⟩ := x
  obtain ⟨k1, i1, t1, its1, ks1⟩ := y
  obtain ⟨k2, i2, t2, its2, ks2⟩ := z
  obtain ⟨A, c, A', c', rfl, _, _, _, _, _, _, _, _, _⟩ := hv.open
  obtain ⟨A1, c1, A1', c1', rfl, _, _, _, _, _, _, _, _, _⟩ := hu.open
  obtain ⟨A2, c2, A2', c2', rfl, _, _, _, _, _, _, _, _, _⟩ := hr.open
  obtain ⟨w3, hw3⟩ : ∃ w3, w3 = ((w.alloc (.cells #[.int .i64 k, .int .i64 i, .string t, .slice A its.length c, .slice A' ks.length c'] 26)).alloc (.cells #[.int .i64 k1, .int .i64 i1, .string t1, .slice A1 its1.length c1, .slice A1' ks1.length c1'] 26)).alloc (.cells #[.int .i64 k2, .int .i64 i2, .string t2, .slice A2 its2.length c2, .slice A2' ks2.length c2'] 26) := ⟨_, rfl⟩
  have B3 : Hid (Below w.heap.size w w3) := Lib.hid (by rw [hw3]; exact ((below_one _ _).trans (Below.alloc (Below.refl _ _) (by simp) _)).trans (Below.alloc (Below.refl _ _) (by simp; omega) _))
  have P3 : Hid (Bk w3 w.heap.size 26 #[.int .i64 k, .int .i64 i, .string t, .slice A its.length c, .slice A' ks.length c']) := Lib.hid (by rw [hw3]; exact ((Bk.new _ _ _).alloc _).alloc _)
  have Q3 : Hid (Bk w3 (w.heap.size + 1) 26 #[.int .i64 k1, .int .i64 i1, .string t1, .slice A1 its1.length c1, .slice A1' ks1.length c1']) := Lib.hid (by rw [hw3]; have h := (Bk.new (w.alloc (.cells #[.int .i64 k, .int .i64 i, .string t, .slice A its.length c, .slice A' ks.length c'] 26)) 26 #[.int .i64 k1, .int .i64 i1, .string t1, .slice A1 its1.length c1, .slice A1' ks1.length c1']).alloc (.cells #[.int .i64 k2, .int .i64 i2, .string t2, .slice A2 its2.length c2, .slice A2' ks2.length c2'] 26); simpa using h)
  have R3 : Hid (Bk w3 (w.heap.size + 2) 26 #[.int .i64 k2, .int .i64 i2, .string t2, .slice A2 its2.length c2, .slice A2' ks2.length c2']) := Lib.hid (by rw [hw3]; have h := Bk.new ((w.alloc (.cells #[.int .i64 k, .int .i64 i, .string t, .slice A its.length c, .slice A' ks.length c'] 26)).alloc (.cells #[.int .i64 k1, .int .i64 i1, .string t1, .slice A1 its1.length c1, .slice A1' ks1.length c1'] 26)) 26 #[.int .i64 k2, .int .i64 i2, .string t2, .slice A2 its2.length c2, .slice A2' ks2.length c2']; simpa using h)
  have Z3 : Hid (w3.heap.size = w.heap.size + 3) := Lib.hid (by rw [hw3]; simp)
  have X3 := Lib.hid (hv.below B3.out)
  have Y3 := Lib.hid (hu.below B3.out)
  have U3 := Lib.hid (hr.below B3.out)
  obtain ⟨w4, hw4⟩ : ∃ w4, w4 = w3.alloc (.cells #[.int .i64 k, .int .i64 i, .string t, .slice A its.length c, .slice A' ks.length c', .int .i64 k1, .int .i64 i1, .string t1, .slice A1 its1.length c1, .slice A1' ks1.length c1', .int .i64 k2, .int .i64 i2, .string t2, .slice A2 its2.length c2, .slice A2' ks2.length c2'] 26) := ⟨_, rfl⟩
  have b34 : Below w3.heap.size w3 w4 := by rw [hw4]; exact below_one _ _
  have L4 := Lib.hid (vals3 (show Bk w4 w3.heap.size 26 _ from by rw [hw4]; exact Bk.new _ _ _) (X3.out.below b34) (Y3.out.below b34) (U3.out.below b34))
  have P4 := Lib.hid (P3.out.below b34 P3.out.lt)
  have Q4 := Lib.hid (Q3.out.below b34 Q3.out.lt)
  have R4 := Lib.hid (R3.out.below b34 R3.out.lt)
  have B4 := Lib.hid (below_next B3.out b34)
  have HW : Hid (w4 = (((w.alloc (.cells #[.int .i64 k, .int .i64 i, .string t, .slice A its.length c, .slice A' ks.length c'] 26)).alloc (.cells #[.int .i64 k1, .int .i64 i1, .string t1, .slice A1 its1.length c1, .slice A1' ks1.length c1'] 26)).alloc (.cells #[.int .i64 k2, .int .i64 i2, .string t2, .slice A2 its2.length c2, .slice A2' ks2.length c2'] 26)).alloc (.cells #[.int .i64 k, .int .i64 i, .string t, .slice A its.length c, .slice A' ks.length c', .int .i64 k1, .int .i64 i1, .string t1, .slice A1 its1.length c1, .slice A1' ks1.length c1', .int .i64 k2, .int .i64 i2, .string t2, .slice A2 its2.length c2, .slice A2' ks2.length c2'] 26)) := Lib.hid (by rw [hw4, hw3])
  rw [Z3.out] at L4
  clear hv hu hr hw3 hw4 b34 X3 Y3 U3 P3 Q3 R3 B3 Z3
  generalize hx : VT.mk k i t its ks = x at *
  generalize hy : VT.mk k1 i1 t1 its1 ks1 = y at *
  generalize hz : VT.mk k2 i2 t2 its2 ks2 = z at *
  clear hx hy hz
  unfold vag at *
  go_enter Try.func6, Try.ntmps6
  go_wp2_with fail
  rw [← HW.out]
  go_loopw [16, 8] (fun s _ wr => ∃ j : Nat, j ≤ 3 ∧ s = .int .i64 j ∧ Hid (∀ (q : Nat) (e : VT), q < j → [x, y, z][q]? = some e → e.wf = true) ∧ Hid (Below w4.heap.size w4 wr)) (fun s _ _ => 3 - (intOf s).toNat)
  case atStart => exact ⟨0, by omega, rfl, Lib.hid (fun q e h => by omega), Lib.hid (Below.refl _ _)⟩
  case round =>
    obtain ⟨j, hjn, rfl, HJ, hb⟩ := hrel
    by_cases hlt : j < 3
    · have g1 : [x, y, z][j]? = some ([x, y, z][j]'(by simpa using hlt)) := List.getElem?_eq_getElem _
      obtain ⟨g, o, ka, ia, ta, Ba, na, ca, Ba', na', ca', hA, hg, e0, e1, e2, e3, e4, hx⟩ := (L4.out).at_ g1
      injection hA with hA
      injection hA with hA1 hA2
      subst hA1 hA2
      have HQ := Lib.hid (fun (q : Nat) (e : VT) (hq : q < j + 1) (he : [x, y, z][q]? = some e) (hw : ([x, y, z][j]'(by simpa using hlt)).wf = true) => (by
        by_cases h : q = j
        · subst h; rw [g1] at he; injection he with he; rw [← he]; exact hw
        · exact HJ.out q e (by omega) he : e.wf = true))
      generalize [x, y, z][j]'(by simpa using hlt) = e at *
      have cc := fun (q : Nat) => hb.out.cell (p := ⟨w.heap.size + 3, q, none⟩) hg
      rw [Nat.zero_add, Nat.zero_add] at e0 e1 e2 e3 e4
      rw [← cc] at e0 e1 e2 e3 e4
      obtain ⟨wa, hwa⟩ : ∃ wa, wa = wr.alloc (.cells #[.int .i64 ka, .int .i64 ia, .string ta, .slice Ba na ca, .slice Ba' na' ca'] 26) := ⟨_, rfl⟩
      have ba : Below w4.heap.size w4 wa := by rw [hwa]; exact hb.out.alloc hb.out.size _
      have QA : Hid (Bk wa wr.heap.size 26 #[.int .i64 ka, .int .i64 ia, .string ta, .slice Ba na ca, .slice Ba' na' ca']) := Lib.hid (by rw [hwa]; exact Bk.new _ _ _)
      have HF := Lib.hid (Few_any 300 (by omega) (by omega) (hx.below ba))
      have HWF := Lib.hid (fun (w' : World) (h : Below w4.heap.size w4 w') => refWf_any (hx.below h))
      have BA := Lib.hid ba
      have HWA := Lib.hid hwa
      clear hx cc g1 ba hwa
      unfold vag at HF HWF
      generalize decide (0 ≤ e.few 300) = p at *
      go_wp2_with fail
      rw [← HWA.out]
      refine (HF.out).mono ?_
      rintro e0' w5 ⟨rfl, hb5⟩
      have Q5 := Lib.hid (QA.out.below hb5 QA.out.lt)
      have B5 := Lib.hid (below_next BA.out hb5)
      clear hb5 e0 e1 e2 e3 e4
      cases p with
      | false =>
        go_wp2_with fail
        refine (works_any w5).mono ?_
        rintro e0' w6 ⟨rfl, hb6⟩
        have B6 := Lib.hid (below_next B5.out hb6)
        clear hb6
        go_wp2
        go_ret
        exact ⟨rfl, below_next B4.out B6.out⟩
      | true =>
        have H5 := Lib.hid (HWF.out w5 B5.out)
        have q0 := Q5.out.cell 0
        have q1 := Q5.out.cell 1
        have q2 := Q5.out.cell 2
        have q3 := Q5.out.cell 3
        have q4 := Q5.out.cell 4
        go_wp2_with fail
        refine (H5.out).mono ?_
        rintro e0' w6 ⟨rfl, hb6⟩
        have B6 := Lib.hid (below_next B5.out hb6)
        clear hb6 q0 q1 q2 q3 q4
        cases hwf : e.wf with
        | false =>
          clear hwf
          go_wp2_with fail
          refine (works_any w6).mono ?_
          rintro e0' w7 ⟨rfl, hb7⟩
          have B7 := Lib.hid (below_next B6.out hb7)
          clear hb7
          go_wp2
          go_ret
          exact ⟨rfl, below_next B4.out B7.out⟩
        | true =>
          have HQ2 := Lib.hid (fun (q : Nat) (e' : VT) (hq : q < j + 1) (he : [x, y, z][q]? = some e') => HQ.out q e' hq he hwf)
          clear hwf
          go_wp2
          go_roundw
          case rel => exact ⟨j + 1, by omega, by go_num, HQ2, B6⟩
          case measure => simp [intOf]; omega
    · obtain rfl : j = 3 := by omega
      have wx := HJ.out 0 x (by omega) rfl
      have wy := HJ.out 1 y (by omega) rfl
      have wz := HJ.out 2 z (by omega) rfl
      have HCM := Lib.hid (HNG.out)
      have O1 := Lib.hid (fun (w' : World) (hb : Below w.heap.size w w') => (by have h := HXY.out w' hb; rw [ORD.out x y wx wy, HNG.out] at h; exact h : Calls Try.prog 37 #[.agg #[.int .i64 k, .int .i64 i, .string t, .slice A its.length c, .slice A' ks.length c'], .agg #[.int .i64 k1, .int .i64 i1, .string t1, .slice A1 its1.length c1, .slice A1' ks1.length c1']] w' (Gives (.int .i64 (-(y.cmp x))) w')))
      have O2 := Lib.hid (fun (w' : World) (hb : Below w.heap.size w w') => (by have h := HYX.out w' hb; rw [ORD.out y x wy wx] at h; exact h : Calls Try.prog 37 #[.agg #[.int .i64 k1, .int .i64 i1, .string t1, .slice A1 its1.length c1, .slice A1' ks1.length c1'], .agg #[.int .i64 k, .int .i64 i, .string t, .slice A its.length c, .slice A' ks.length c']] w' (Gives (.int .i64 (y.cmp x)) w')))
      have O3 := Lib.hid (fun (w' : World) (hb : Below w.heap.size w w') => (by have h := HYZ.out w' hb; rw [ORD.out y z wy wz] at h; exact h : Calls Try.prog 37 #[.agg #[.int .i64 k1, .int .i64 i1, .string t1, .slice A1 its1.length c1, .slice A1' ks1.length c1'], .agg #[.int .i64 k2, .int .i64 i2, .string t2, .slice A2 its2.length c2, .slice A2' ks2.length c2']] w' (Gives (.int .i64 (y.cmp z)) w')))
      have O4 := Lib.hid (fun (w' : World) (hb : Below w.heap.size w w') => (by have h := HXZ.out w' hb; rw [ORD.out x z wx wz] at h; exact h : Calls Try.prog 37 #[.agg #[.int .i64 k, .int .i64 i, .string t, .slice A its.length c, .slice A' ks.length c'], .agg #[.int .i64 k2, .int .i64 i2, .string t2, .slice A2 its2.length c2, .slice A2' ks2.length c2']] w' (Gives (.int .i64 (x.cmp z)) w')))
      have O5 := Lib.hid (fun (w' : World) (hb : Below w.heap.size w w') => (by have h := HSM.out w' hb; rw [HEQ.out wx wy] at h; exact h : Calls Try.prog 15 #[.agg #[.int .i64 k, .int .i64 i, .string t, .slice A its.length c, .slice A' ks.length c'], .agg #[.int .i64 k1, .int .i64 i1, .string t1, .slice A1 its1.length c1, .slice A1' ks1.length c1']] w' (Gives (.bool (-(y.cmp x) == 0)) w')))
      have r1 := HT1.out wx wy wz
      have r2 := HT2.out wx wy wz
      rw [HNG.out] at r1 r2
      have rg1 := HG1.out
      have rg2 := HG2.out
      have rg3 := HG3.out
      clear HXY HYX HYZ HXZ HSM HEQ HT1 HT2 HG1 HG2 HG3 HNG HCM ORD wx wy wz HJ
      generalize y.cmp x = a at *
      generalize y.cmp z = b at *
      generalize x.cmp z = d at *
      have RR := Lib.hid (And.intro r1 r2)
      clear r1 r2
      have P5 := Lib.hid (P4.out.below hb.out P4.out.lt)
      have Q5 := Lib.hid (Q4.out.below hb.out Q4.out.lt)
      have R5 := Lib.hid (R4.out.below hb.out R4.out.lt)
      have B5 := Lib.hid (below_next B4.out hb.out)
      have C5 := Lib.hid (O1.out _ B5.out)
      clear hlt
      have x0 := P5.out.cell 0
      have x1 := P5.out.cell 1
      have x2 := P5.out.cell 2
      have x3 := P5.out.cell 3
      have x4 := P5.out.cell 4
      have y0 := Q5.out.cell 0
      have y1 := Q5.out.cell 1
      have y2 := Q5.out.cell 2
      have y3 := Q5.out.cell 3
      have y4 := Q5.out.cell 4
      go_wp2_with fail
      refine (C5.out).mono ?_
      rintro e0' w6 ⟨rfl, hbb⟩
      have P6 := Lib.hid (P5.out.below hbb P5.out.lt)
      have Q6 := Lib.hid (Q5.out.below hbb Q5.out.lt)
      have R6 := Lib.hid (R5.out.below hbb R5.out.lt)
      have B6 := Lib.hid (below_next B5.out hbb)
      clear hbb x0 x1 x2 x3 x4 y0 y1 y2 y3 y4
      have C6 := Lib.hid (O2.out w6 B6.out)
      have x0 := P6.out.cell 0
      have x1 := P6.out.cell 1
      have x2 := P6.out.cell 2
      have x3 := P6.out.cell 3
      have x4 := P6.out.cell 4
      have y0 := Q6.out.cell 0
      have y1 := Q6.out.cell 1
      have y2 := Q6.out.cell 2
      have y3 := Q6.out.cell 3
      have y4 := Q6.out.cell 4
      go_wp2_with fail
      refine (C6.out).mono ?_
      rintro e0' w7 ⟨rfl, hbb⟩
      have P7 := Lib.hid (P6.out.below hbb P6.out.lt)
      have Q7 := Lib.hid (Q6.out.below hbb Q6.out.lt)
      have R7 := Lib.hid (R6.out.below hbb R6.out.lt)
      have B7 := Lib.hid (below_next B6.out hbb)
      clear hbb x0 x1 x2 x3 x4 y0 y1 y2 y3 y4
      have C7 := Lib.hid (O5.out w7 B7.out)
      have x0 := P7.out.cell 0
      have x1 := P7.out.cell 1
      have x2 := P7.out.cell 2
      have x3 := P7.out.cell 3
      have x4 := P7.out.cell 4
      have y0 := Q7.out.cell 0
      have y1 := Q7.out.cell 1
      have y2 := Q7.out.cell 2
      have y3 := Q7.out.cell 3
      have y4 := Q7.out.cell 4
      go_wp2_with fail
      refine (C7.out).mono ?_
      rintro e0' w8 ⟨rfl, hbb⟩
      have P8 := Lib.hid (P7.out.below hbb P7.out.lt)
      have Q8 := Lib.hid (Q7.out.below hbb Q7.out.lt)
      have R8 := Lib.hid (R7.out.below hbb R7.out.lt)
      have B8 := Lib.hid (below_next B7.out hbb)
      clear hbb x0 x1 x2 x3 x4 y0 y1 y2 y3 y4
      have C8 := Lib.hid (O3.out w8 B8.out)
      have y0 := Q8.out.cell 0
      have y1 := Q8.out.cell 1
      have y2 := Q8.out.cell 2
      have y3 := Q8.out.cell 3
      have y4 := Q8.out.cell 4
      have z0 := R8.out.cell 0
      have z1 := R8.out.cell 1
      have z2 := R8.out.cell 2
      have z3 := R8.out.cell 3
      have z4 := R8.out.cell 4
      go_wp2_with fail
      refine (C8.out).mono ?_
      rintro e0' w9 ⟨rfl, hbb⟩
      have P9 := Lib.hid (P8.out.below hbb P8.out.lt)
      have Q9 := Lib.hid (Q8.out.below hbb Q8.out.lt)
      have R9 := Lib.hid (R8.out.below hbb R8.out.lt)
      have B9 := Lib.hid (below_next B8.out hbb)
      clear hbb y0 y1 y2 y3 y4 z0 z1 z2 z3 z4
      rcases Int.lt_trichotomy a 0 with ha | ha | ha
      · rcases Int.lt_trichotomy b 0 with hbb | hbb | hbb
        · go_wp2_with fail
          refine (works_any w9).mono ?_
          rintro e0' wz ⟨rfl, hbz⟩
          have BZ := Lib.hid (below_next B9.out hbz)
          clear hbz
          go_wp2
          go_ret
          exact ⟨rfl, BZ.out⟩
        · subst hbb
          have hd2 : 0 ≤ d := RR.out.2 (by omega) (by omega)
          have C9 := Lib.hid (O4.out w9 B9.out)
          have x0 := P9.out.cell 0
          have x1 := P9.out.cell 1
          have x2 := P9.out.cell 2
          have x3 := P9.out.cell 3
          have x4 := P9.out.cell 4
          have z0 := R9.out.cell 0
          have z1 := R9.out.cell 1
          have z2 := R9.out.cell 2
          have z3 := R9.out.cell 3
          have z4 := R9.out.cell 4
          go_wp2_with fail
          refine (C9.out).mono ?_
          rintro e0' w10 ⟨rfl, hbb⟩
          have P10 := Lib.hid (P9.out.below hbb P9.out.lt)
          have Q10 := Lib.hid (Q9.out.below hbb Q9.out.lt)
          have R10 := Lib.hid (R9.out.below hbb R9.out.lt)
          have B10 := Lib.hid (below_next B9.out hbb)
          clear hbb x0 x1 x2 x3 x4 z0 z1 z2 z3 z4
          go_wp2_with fail
          refine (works_any w10).mono ?_
          rintro e0' wz ⟨rfl, hbz⟩
          have BZ := Lib.hid (below_next B10.out hbz)
          clear hbz
          go_wp2
          go_ret
          exact ⟨rfl, BZ.out⟩
        · have hd2 : 0 ≤ d := RR.out.2 (by omega) (by omega)
          have C9 := Lib.hid (O4.out w9 B9.out)
          have x0 := P9.out.cell 0
          have x1 := P9.out.cell 1
          have x2 := P9.out.cell 2
          have x3 := P9.out.cell 3
          have x4 := P9.out.cell 4
          have z0 := R9.out.cell 0
          have z1 := R9.out.cell 1
          have z2 := R9.out.cell 2
          have z3 := R9.out.cell 3
          have z4 := R9.out.cell 4
          go_wp2_with fail
          refine (C9.out).mono ?_
          rintro e0' w10 ⟨rfl, hbb⟩
          have P10 := Lib.hid (P9.out.below hbb P9.out.lt)
          have Q10 := Lib.hid (Q9.out.below hbb Q9.out.lt)
          have R10 := Lib.hid (R9.out.below hbb R9.out.lt)
          have B10 := Lib.hid (below_next B9.out hbb)
          clear hbb x0 x1 x2 x3 x4 z0 z1 z2 z3 z4
          go_wp2_with fail
          refine (works_any w10).mono ?_
          rintro e0' wz ⟨rfl, hbz⟩
          have BZ := Lib.hid (below_next B10.out hbz)
          clear hbz
          go_wp2
          go_ret
          exact ⟨rfl, BZ.out⟩
      · rcases Int.lt_trichotomy b 0 with hbb | hbb | hbb
        · subst ha
          have hd1 : d ≤ 0 := RR.out.1 (by omega) (by omega)
          have C9 := Lib.hid (O4.out w9 B9.out)
          have x0 := P9.out.cell 0
          have x1 := P9.out.cell 1
          have x2 := P9.out.cell 2
          have x3 := P9.out.cell 3
          have x4 := P9.out.cell 4
          have z0 := R9.out.cell 0
          have z1 := R9.out.cell 1
          have z2 := R9.out.cell 2
          have z3 := R9.out.cell 3
          have z4 := R9.out.cell 4
          go_wp2_with fail
          refine (C9.out).mono ?_
          rintro e0' w10 ⟨rfl, hbb⟩
          have P10 := Lib.hid (P9.out.below hbb P9.out.lt)
          have Q10 := Lib.hid (Q9.out.below hbb Q9.out.lt)
          have R10 := Lib.hid (R9.out.below hbb R9.out.lt)
          have B10 := Lib.hid (below_next B9.out hbb)
          clear hbb x0 x1 x2 x3 x4 z0 z1 z2 z3 z4
          go_wp2_with fail
          refine (works_any w10).mono ?_
          rintro e0' wz ⟨rfl, hbz⟩
          have BZ := Lib.hid (below_next B10.out hbz)
          clear hbz
          go_wp2
          go_ret
          exact ⟨rfl, BZ.out⟩
        · subst ha
          subst hbb
          have hd1 : d ≤ 0 := RR.out.1 (by omega) (by omega)
          have hd2 : 0 ≤ d := RR.out.2 (by omega) (by omega)
          have C9 := Lib.hid (O4.out w9 B9.out)
          have x0 := P9.out.cell 0
          have x1 := P9.out.cell 1
          have x2 := P9.out.cell 2
          have x3 := P9.out.cell 3
          have x4 := P9.out.cell 4
          have z0 := R9.out.cell 0
          have z1 := R9.out.cell 1
          have z2 := R9.out.cell 2
          have z3 := R9.out.cell 3
          have z4 := R9.out.cell 4
          go_wp2_with fail
          refine (C9.out).mono ?_
          rintro e0' w10 ⟨rfl, hbb⟩
          have P10 := Lib.hid (P9.out.below hbb P9.out.lt)
          have Q10 := Lib.hid (Q9.out.below hbb Q9.out.lt)
          have R10 := Lib.hid (R9.out.below hbb R9.out.lt)
          have B10 := Lib.hid (below_next B9.out hbb)
          clear hbb x0 x1 x2 x3 x4 z0 z1 z2 z3 z4
          have C10 := Lib.hid (O4.out w10 B10.out)
          have x0 := P10.out.cell 0
          have x1 := P10.out.cell 1
          have x2 := P10.out.cell 2
          have x3 := P10.out.cell 3
          have x4 := P10.out.cell 4
          have z0 := R10.out.cell 0
          have z1 := R10.out.cell 1
          have z2 := R10.out.cell 2
          have z3 := R10.out.cell 3
          have z4 := R10.out.cell 4
          go_wp2_with fail
          refine (C10.out).mono ?_
          rintro e0' w11 ⟨rfl, hbb⟩
          have P11 := Lib.hid (P10.out.below hbb P10.out.lt)
          have Q11 := Lib.hid (Q10.out.below hbb Q10.out.lt)
          have R11 := Lib.hid (R10.out.below hbb R10.out.lt)
          have B11 := Lib.hid (below_next B10.out hbb)
          clear hbb x0 x1 x2 x3 x4 z0 z1 z2 z3 z4
          go_wp2_with fail
          refine (works_any w11).mono ?_
          rintro e0' wz ⟨rfl, hbz⟩
          have BZ := Lib.hid (below_next B11.out hbz)
          clear hbz
          go_wp2
          go_ret
          exact ⟨rfl, BZ.out⟩
        · subst ha
          have hd2 : 0 ≤ d := RR.out.2 (by omega) (by omega)
          have C9 := Lib.hid (O4.out w9 B9.out)
          have x0 := P9.out.cell 0
          have x1 := P9.out.cell 1
          have x2 := P9.out.cell 2
          have x3 := P9.out.cell 3
          have x4 := P9.out.cell 4
          have z0 := R9.out.cell 0
          have z1 := R9.out.cell 1
          have z2 := R9.out.cell 2
          have z3 := R9.out.cell 3
          have z4 := R9.out.cell 4
          go_wp2_with fail
          refine (C9.out).mono ?_
          rintro e0' w10 ⟨rfl, hbb⟩
          have P10 := Lib.hid (P9.out.below hbb P9.out.lt)
          have Q10 := Lib.hid (Q9.out.below hbb Q9.out.lt)
          have R10 := Lib.hid (R9.out.below hbb R9.out.lt)
          have B10 := Lib.hid (below_next B9.out hbb)
          clear hbb x0 x1 x2 x3 x4 z0 z1 z2 z3 z4
          go_wp2_with fail
          refine (works_any w10).mono ?_
          rintro e0' wz ⟨rfl, hbz⟩
          have BZ := Lib.hid (below_next B10.out hbz)
          clear hbz
          go_wp2
          go_ret
          exact ⟨rfl, BZ.out⟩
      · rcases Int.lt_trichotomy b 0 with hbb | hbb | hbb
        · have hd1 : d ≤ 0 := RR.out.1 (by omega) (by omega)
          have C9 := Lib.hid (O4.out w9 B9.out)
          have x0 := P9.out.cell 0
          have x1 := P9.out.cell 1
          have x2 := P9.out.cell 2
          have x3 := P9.out.cell 3
          have x4 := P9.out.cell 4
          have z0 := R9.out.cell 0
          have z1 := R9.out.cell 1
          have z2 := R9.out.cell 2
          have z3 := R9.out.cell 3
          have z4 := R9.out.cell 4
          go_wp2_with fail
          refine (C9.out).mono ?_
          rintro e0' w10 ⟨rfl, hbb⟩
          have P10 := Lib.hid (P9.out.below hbb P9.out.lt)
          have Q10 := Lib.hid (Q9.out.below hbb Q9.out.lt)
          have R10 := Lib.hid (R9.out.below hbb R9.out.lt)
          have B10 := Lib.hid (below_next B9.out hbb)
          clear hbb x0 x1 x2 x3 x4 z0 z1 z2 z3 z4
          go_wp2_with fail
          refine (works_any w10).mono ?_
          rintro e0' wz ⟨rfl, hbz⟩
          have BZ := Lib.hid (below_next B10.out hbz)
          clear hbz
          go_wp2
          go_ret
          exact ⟨rfl, BZ.out⟩
        · subst hbb
          have hd1 : d ≤ 0 := RR.out.1 (by omega) (by omega)
          have C9 := Lib.hid (O4.out w9 B9.out)
          have x0 := P9.out.cell 0
          have x1 := P9.out.cell 1
          have x2 := P9.out.cell 2
          have x3 := P9.out.cell 3
          have x4 := P9.out.cell 4
          have z0 := R9.out.cell 0
          have z1 := R9.out.cell 1
          have z2 := R9.out.cell 2
          have z3 := R9.out.cell 3
          have z4 := R9.out.cell 4
          go_wp2_with fail
          refine (C9.out).mono ?_
          rintro e0' w10 ⟨rfl, hbb⟩
          have P10 := Lib.hid (P9.out.below hbb P9.out.lt)
          have Q10 := Lib.hid (Q9.out.below hbb Q9.out.lt)
          have R10 := Lib.hid (R9.out.below hbb R9.out.lt)
          have B10 := Lib.hid (below_next B9.out hbb)
          clear hbb x0 x1 x2 x3 x4 z0 z1 z2 z3 z4
          go_wp2_with fail
          refine (works_any w10).mono ?_
          rintro e0' wz ⟨rfl, hbz⟩
          have BZ := Lib.hid (below_next B10.out hbz)
          clear hbz
          go_wp2
          go_ret
          exact ⟨rfl, BZ.out⟩
        · go_wp2_with fail
          refine (works_any w9).mono ?_
          rintro e0' wz ⟨rfl, hbz⟩
          have BZ := Lib.hid (below_next B9.out hbz)
          clear hbz
          go_wp2
          go_ret
          exact ⟨rfl, BZ.out⟩
end Go.Proofs.Ytoppbbhhbojmcaa
namespace Go.Proofs.Ytoppbbhhbojmcaa.valueTotal
open Go.ChangeShapes Go.WideShapes Go.ChangeAt Go.RowKit
open Go.ChangeMaps (open_string)
set_option linter.unusedVariables false

theorem own : ownKnob Try.prog.godebug = none := by kernel_rfl
theorem laidOut : laidOutB Try.prog = true := by kernel_rfl

set_option maxRecDepth 100000 in
theorem lifted (os : Os) (started : os.Started) (H : Type) (enc : TypeId × Value → H) :
    ReturnsInHanded {} Try.checked os 6 .any (Rows.valueTotalSpec.pre6 enc Try.prog Try.f6 Rows.valueTotalRow.domain false) (Rows.valueTotalSpec.post enc Try.prog Try.f6 false true false false) := by
  refine returnsInHanded_of_change (C := Try.checked) own started (by kernel_rfl) Try.func6
    (ChangeSpec.witness6 (enc := enc) (C := Try.checked) false ⟨#[], #[.agg #[.int .i64 0, .int .i64 0, .string ByteArray.empty, .slice none 0 0, .slice none 0 0], .agg #[.int .i64 0, .int .i64 0, .string ByteArray.empty, .slice none 0 0, .slice none 0 0], .agg #[.int .i64 0, .int .i64 0, .string ByteArray.empty, .slice none 0 0, .slice none 0 0]], []⟩ 8 (by kernel_rfl) (by kernel_rfl) (by kernel_rfl) (by kernel_rfl)) ?_
  intro W base args ds gs before hval0 hW hcnd _
  have hval : ∀ (j : Nat) t v, Try.f6.params[j]? = some t → args[j]? = some v → Value.okWide Try.prog W .any base t v := hval0
  have hW' := hW
  obtain ⟨p, q, hA0, hV, rfl, hfz, hnd⟩ := hW
  have hA : DataW.TrodAll enc Try.prog W 0 (fun _ => true) true Try.f6.params.toList args.toList ds p := hA0
  rw [Try.params6] at hA hval
  obtain ⟨v0, vs0, d0, ds0, p0, q0, hargs, rfl, rfl, h0, r0⟩ := trodAll_cons hA
  obtain ⟨v1, vs1, d1, ds1, p1, q1, rfl, rfl, rfl, h1, r1⟩ := trodAll_cons r0
  obtain ⟨v2, vs2, d2, ds2, p2, q2, rfl, rfl, rfl, h2, r2⟩ := trodAll_cons r1
  obtain ⟨rfl, rfl, rfl⟩ := trodAll_nil r2
  obtain rfl : args = #[v0, v1, v2] := by cases args; simp_all
  obtain ⟨rfl, rfl⟩ := trodVars_none hV
  have k0 := h0
  have lt0 : ∀ x ∈ p0, x.block < W.heap.size := by obtain ⟨m, hm⟩ := k0; exact DataW.trod_lt m _ _ _ hm
  obtain ⟨x0, m0⟩ := opens.value (hval 0 26 v0 rfl rfl) h0
  have k1 := h1
  have lt1 : ∀ x ∈ p1, x.block < W.heap.size := by obtain ⟨m, hm⟩ := k1; exact DataW.trod_lt m _ _ _ hm
  obtain ⟨x1, m1⟩ := opens.value (hval 1 26 v1 rfl rfl) h1
  have k2 := h2
  have lt2 : ∀ x ∈ p2, x.block < W.heap.size := by obtain ⟨m, hm⟩ := k2; exact DataW.trod_lt m _ _ _ hm
  obtain ⟨x2, m2⟩ := opens.value (hval 2 26 v2 rfl rfl) h2
  clear hA0 hval0
  refine (ValueTotal_walk x0 v0 x1 v1 x2 v2 W m0 m1 m2).mono fun e W' ⟨he, bel⟩ => ?_
  subst he
  exact ⟨_, rfl, _, _, _, [], _, [], hW', trodAll_mk1 (shut_bool Try.underlying4 _), (trodAll_cons_mk (Below.trod laidOut (by kernel_rfl) (of_decide_eq_true (by kernel_rfl)) k0 bel lt0) (trodAll_cons_mk (Below.trod laidOut (by kernel_rfl) (of_decide_eq_true (by kernel_rfl)) k1 bel lt1) (trodAll_cons_mk (Below.trod laidOut (by kernel_rfl) (of_decide_eq_true (by kernel_rfl)) k2 bel lt2) (trodAll_mk0)))), rfl, bel.frame _, fun h => by cases h⟩

theorem over : Rows.valueTotalRow.holds Try.pinned (OpenSpec.ofChange Rows.valueTotalSpec) :=
  OpenClaim.holds_of_wide 6 Try.f6 rfl rfl rfl rfl rfl rfl rfl ⟨rfl, rfl, rfl, rfl, rfl⟩ rfl rfl rfl rfl rfl (by kernel_rfl) Try.func6 (by kernel_rfl)
    (of_decide_eq_true (by kernel_rfl)) (by unfold Func.isWrapper; first | (rw [if_pos (by decide +kernel)]; kernel_rfl) | (rw [if_neg (by decide +kernel)]; exact ⟨rfl, rfl⟩))
    (fun os started H enc _ => lifted os started H enc)

theorem proved : Rows.ValueTotalSaid := over
end Go.Proofs.Ytoppbbhhbojmcaa.valueTotal
