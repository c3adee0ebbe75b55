/-
  Texts of layers 1 and 2, part N: contracts of the code's functions and what they lean on.
-/
import Derived.Test.YtoppbbhhbojmcaaBG
import Derived.Test.YtoppbbhhbojmcaaBF
import Derived.Test.YtoppbbhhbojmcaaBD
namespace Go.Proofs.Ytoppbbhhbojmcaa
open Go.RowKit

def RSameUpto (m : Nat) : Prop := ∀ (x y : VT) (w : World) (v u : Value), x.size ≤ m → Lies w (Lo w) x v → Lies w (Lo w) y u → Calls Try.prog 15 #[v, u] w (Gives (.bool (eqB x y)) w)

set_option maxRecDepth 100000 in
set_option maxHeartbeats 8000000 in
set_option linter.unusedVariables false in
theorem refSame_loop (m : Nat) (IH : Hid (RSameUpto m)) (k i : Int) (t : ByteArray) (its : List VT) (ks : List ByteArray) (A : Option Addr) (c : Nat) (A' : Option Addr) (c' : Nat) (jts : List VT) (ls : List ByteArray) (D : Option Addr) (e : Nat) (D' : Option Addr) (e' : Nat) (w : World)
    (hL : LiesL w (Lo w) A 0 its) (hM : LiesL w (Lo w) D 0 jts) (hS : LiesS w (Lo w) A' ks) (hT : LiesS w (Lo w) D' ls) (h1 : its.length ≤ c) (h2 : c ≤ 9223372036854775807) (h5 : ks.length ≤ c') (h6 : c' ≤ 9223372036854775807)
    (hsz : sizes its ≤ m) (hlen : its.length = jts.length) (hkl : ks.length = ls.length) :
    Calls Try.prog 15 #[vag k i t A its.length c A' ks.length c', vag k i t D jts.length e D' ls.length e'] w (Gives (.bool (eqB (VT.mk k i t its ks) (VT.mk k i t jts ls))) w) := by
  have HL := Lib.hid hL
  have HM := Lib.hid hM
  have HS := Lib.hid hS
  have HT := Lib.hid hT
  obtain ⟨n, hn⟩ : ∃ n, n = its.length := ⟨_, rfl⟩
  obtain ⟨nk, hnk⟩ : ∃ nk, nk = ks.length := ⟨_, rfl⟩
  have HN := Lib.hid (And.intro hn (hn.trans hlen))
  have HK := Lib.hid (And.intro hnk (hnk.trans hkl))
  obtain ⟨w2, hw2⟩ : ∃ w2, w2 = (w.alloc (.cells #[.int .i64 k, .int .i64 i, .string t, .slice A n c, .slice A' nk c'] 26)).alloc (.cells #[.int .i64 k, .int .i64 i, .string t, .slice D n e, .slice D' nk e'] 26) := ⟨_, rfl⟩
  have B2 : Hid (Below w.heap.size w w2) := Lib.hid (by rw [hw2]; exact (below_one _ _).trans (Below.alloc (Below.refl _ _) (by simp) _))
  have S2 : Hid (w.heap.size + 1 < w2.heap.size) := Lib.hid (by rw [hw2]; simp)
  have X1 : Hid (∀ j, w2.cell? ⟨w.heap.size, j, none⟩ = (#[.int .i64 k, .int .i64 i, .string t, .slice A n c, .slice A' nk c'] : Array Value)[j]?) := Lib.hid (fun j => by
    rw [hw2, World.cell?_alloc_lt _ _ _ (by simp), World.cell?_alloc_at _ _ _ _ rfl])
  have X2 : Hid (∀ j, w2.cell? ⟨w.heap.size + 1, j, none⟩ = (#[.int .i64 k, .int .i64 i, .string t, .slice D n e, .slice D' nk e'] : Array Value)[j]?) := Lib.hid (fun j => by
    rw [hw2, World.cell?_alloc_at _ _ _ _ (by simp)])
  have EY : Hid (ks = ls → its = jts → eqB (VT.mk k i t its ks) (VT.mk k i t jts ls) = true) := Lib.hid (fun h h' => eqB_true (by rw [h, h']))
  have E1 : Hid (ks ≠ ls → eqB (VT.mk k i t its ks) (VT.mk k i t jts ls) = false) := Lib.hid (fun h => eqB_false (fun q => h (by injection q)))
  have E2 : Hid (its ≠ jts → eqB (VT.mk k i t its ks) (VT.mk k i t jts ls) = false) := Lib.hid (fun h => eqB_false (fun q => h (by injection q)))
  have HW := Lib.hid hw2
  rw [← hnk, ← hn, ← HN.out.2, ← HK.out.2]
  rw [← hn] at h1
  rw [← hnk] at h5
  clear hL hM hS hT hw2 hn hnk hlen hkl
  unfold vag
  go_enter Try.func15, Try.ntmps15
  go_wp2
  rw [← HW.out]
  go_loopw [5] (fun s wr => ∃ j : Nat, j ≤ nk ∧ s = .int .i64 j ∧ Hid (ks.take j = ls.take j) ∧ Hid (Below w2.heap.size w2 wr)) (fun s _ => nk - (intOf s).toNat)
  case atStart => exact ⟨0, by omega, rfl, Lib.hid rfl, Lib.hid (Below.refl _ _)⟩
  case round =>
    obtain ⟨j, hjn, rfl, hr, hb⟩ := hrel
    have b4 := (hb.out.cell (p := ⟨w.heap.size, 4, none⟩) (by have := S2.out; show w.heap.size < _; omega)).trans (X1.out 4)
    have b4' := (hb.out.cell (p := ⟨w.heap.size + 1, 4, none⟩) S2.out).trans (X2.out 4)
    change _ = some (Value.slice A' nk c') at b4
    change _ = some (Value.slice D' nk e') at b4'
    by_cases hlt : j < nk
    · have hj1 : j < ks.length := by have := HK.out.1; omega
      have hj2 : j < ls.length := by have := HK.out.2; omega
      have g1 : ks[j]? = some (ks.getD j ByteArray.empty) := by rw [List.getD_eq_getElem?_getD, List.getElem?_eq_getElem hj1]; rfl
      have g2 : ls[j]? = some (ls.getD j ByteArray.empty) := by rw [List.getD_eq_getElem?_getD, List.getElem?_eq_getElem hj2]; rfl
      obtain ⟨_, g, o, rfl, hg, f0⟩ := HS.out j _ g1
      obtain ⟨_, g', o', rfl, hg', f1⟩ := HT.out j _ g2
      have HB := Lib.hid (below_next B2.out hb.out)
      rw [← HB.out.cell (p := ⟨g, o + j, none⟩) hg] at f0
      rw [← HB.out.cell (p := ⟨g', o' + j, none⟩) hg'] at f1
      have hy := fun h => take_same g1 g2 hr.out h
      have hno := fun h => at_same g1 g2 h
      generalize ks.getD j ByteArray.empty = s at *
      generalize ls.getD j ByteArray.empty = s' at *
      have HY := Lib.hid hy
      have HNN := Lib.hid hno
      clear hy hno g1 g2
      by_cases hst : s = s'
      · have HR := Lib.hid (HY.out hst)
        subst hst
        go_wp2_with fail
        go_quiet (fail)
        have HB2 := Lib.hid (below_drew hb.out nq)
        go_wp2
        go_roundw
        case rel => exact ⟨j + 1, by omega, by go_num, HR, HB2⟩
        case measure => simp [intOf]; omega
      · have HR := Lib.hid (E1.out (HNN.out hst))
        have t1 : (s.toList == s'.toList) = false := by rw [beq_eq_false_iff_ne]; exact fun q => hst (str_inj q)
        clear hst
        go_wp2_with fail
        go_quiet (fail)
        go_wp2
        go_ret
        exact ⟨ret_bool HR.out.symm, below_next B2.out (below_drew hb.out nq)⟩
    · obtain rfl : j = nk := by omega
      have HKS : Hid (ks = ls) := Lib.hid (by
        have := hr.out
        rwa [HK.out.1, List.take_length, ← HK.out.1, HK.out.2, List.take_length] at this)
      go_wp2
      obtain ⟨w6, hw6⟩ : ∃ w6, w6 = wr := ⟨_, rfl⟩
      have HB6 : Hid (Below w2.heap.size w2 w6) := Lib.hid (by rw [hw6]; exact hb.out)
      rw [← hw6]
      clear b4 b4'
      clear hw6 hb hr
      go_loopw [6] (fun s wr => ∃ j : Nat, j ≤ n ∧ s = .int .i64 j ∧ Hid (its.take j = jts.take j) ∧ Hid (Below w2.heap.size w2 wr)) (fun s _ => n - (intOf s).toNat)
      case atStart => exact ⟨0, by omega, rfl, Lib.hid rfl, HB6⟩
      case round =>
        obtain ⟨j, hjn, rfl, hr, hb⟩ := hrel
        have b3 := (hb.out.cell (p := ⟨w.heap.size, 3, none⟩) (by have := S2.out; show w.heap.size < _; omega)).trans (X1.out 3)
        have b3' := (hb.out.cell (p := ⟨w.heap.size + 1, 3, none⟩) S2.out).trans (X2.out 3)
        change _ = some (Value.slice A n c) at b3
        change _ = some (Value.slice D n e) at b3'
        by_cases hlt : j < n
        · have g1 := List.getElem?_eq_getElem (l := its) (i := j) (by have := HN.out.1; omega)
          have g2 := List.getElem?_eq_getElem (l := jts) (i := j) (by have := HN.out.2; omega)
          obtain ⟨g, o, k1, i1, t1, B, n1, c1, B', n2, c2, rfl, hg, e0, e1, e2, e3, e4, hx⟩ := (HL.out).at_ g1
          obtain ⟨g', o', k3, i3, t3, E, n3, c3, E', n4, c4, rfl, hg', d0, d1, d2, d3, d4, hy⟩ := (HM.out).at_ g2
          have hle := size_at g1
          have HB := Lib.hid (below_next B2.out hb.out)
          have hyes := fun h => take_same g1 g2 hr.out h
          have hno := fun h => at_same g1 g2 h
          generalize its[j]'(by have := HN.out.1; omega) = x at *
          generalize jts[j]'(by have := HN.out.2; omega) = y at *
          have cc := fun (q : Nat) => HB.out.cell (p := ⟨g, q, none⟩) hg
          have cc' := fun (q : Nat) => HB.out.cell (p := ⟨g', q, none⟩) hg'
          rw [Nat.zero_add] at e0 e1 e2 e3 e4 d0 d1 d2 d3 d4
          rw [← cc] at e0 e1 e2 e3 e4
          rw [← cc'] at d0 d1 d2 d3 d4
          have HCC : Hid (∀ q : BelowBy wr, Calls Try.prog 15 #[vag k1 i1 t1 B n1 c1 B' n2 c2, vag k3 i3 t3 E n3 c3 E' n4 c4] q.val (Gives (.bool (eqB x y)) q.val)) := Lib.hid (fun q =>
            IH.out x y q.val _ _ (by omega) ((hx.below HB.out).below q.below) ((hy.below HB.out).below q.below))
          unfold vag at HCC
          have HY := Lib.hid hyes
          have HNN := Lib.hid hno
          have z3 := BelowBy.cell b3
          have z3' := BelowBy.cell b3'
          have q0 := BelowBy.cell e0
          have q1 := BelowBy.cell e1
          have q2 := BelowBy.cell e2
          have q3 := BelowBy.cell e3
          have q4 := BelowBy.cell e4
          have r0 := BelowBy.cell d0
          have r1 := BelowBy.cell d1
          have r2 := BelowBy.cell d2
          have r3 := BelowBy.cell d3
          have r4 := BelowBy.cell d4
          clear hx hy cc cc' hyes hno g1 g2 hle e0 e1 e2 e3 e4 d0 d1 d2 d3 d4
          go_wp2_with fail
          refine wp_region_gives (by kernel_rfl) (by kernel_rfl) ?_
          repeat (quiet_step ((go_at_call 15; exact gives_by (HCC.out _))))
          refine wpQuiet_nil ?_
          intro _ hw'
          obtain ⟨q, rfl⟩ := hw'
          obtain ⟨wq, hwq⟩ : ∃ wq, wq = q.val := ⟨_, rfl⟩
          have HQ : Hid (Below w2.heap.size w2 wq) := Lib.hid (by rw [hwq]; exact below_next hb.out q.below)
          rw [← hwq]
          clear hwq z3 z3' q0 q1 q2 q3 q4 r0 r1 r2 r3 r4 HCC b3 b3'
          by_cases hxy : x = y
          · have HR := Lib.hid (HY.out hxy)
            rw [eqB_true hxy]
            clear hxy
            go_wp2
            go_roundw
            case rel => exact ⟨j + 1, by omega, by go_num, HR, HQ⟩
            case measure => simp [intOf]; omega
          · have HR := Lib.hid (E2.out (HNN.out hxy))
            rw [eqB_false hxy]
            clear hxy
            go_wp2
            go_ret
            exact ⟨ret_bool HR.out.symm, below_next B2.out HQ.out⟩
        · have HR := Lib.hid (EY.out HKS.out (by
            have := hr.out
            rwa [show j = n by omega, HN.out.1, List.take_length, ← HN.out.1, HN.out.2, List.take_length] at this))
          go_wp2
          go_ret
          exact ⟨ret_bool HR.out.symm, below_next B2.out hb.out⟩

set_option maxRecDepth 100000 in
set_option maxHeartbeats 4000000 in
theorem refSame_all (m : Nat) : RSameUpto m := by
  induction m with
  | zero => intro x _ _ _ _ h; have := size_pos x; omega
  | succ m ih =>
    intro x y w v u hsz hv hu
    have IH := Lib.hid ih
    clear ih
    obtain ⟨k, i, t, its, ks⟩ := x
    obtain ⟨k', i', t', jts, ls⟩ := y
    obtain ⟨A, c, A', c', rfl, _, _, _, h1, h2, hL, h3, h4, hS⟩ := hv.open
    obtain ⟨D, e, D', e', rfl, _, _, _, _, _, hM, _, _, hT⟩ := hu.open
    rw [VT.size_mk] at hsz
    have BB : Hid (∀ (o o' : Obj), Below w.heap.size w ((w.alloc o).alloc o')) := Lib.hid (fun o o' => (below_one _ _).trans (Below.alloc (Below.refl _ _) (by simp) _))
    by_cases q1 : k = k'
    · subst q1
      by_cases q2 : i = i'
      · subst q2
        by_cases q3 : t = t'
        · subst q3
          by_cases q4 : its.length = jts.length
          · by_cases q5 : ks.length = ls.length
            · exact refSame_loop m IH k i t its ks A c A' c' jts ls D e D' e' w hL hM hS hT h1 h2 h3 h4 (by omega) q4 q5
            · have HR : Hid (eqB (VT.mk k i t its ks) (VT.mk k i t jts ls) = false) := Lib.hid (eqB_false (fun q => q5 (by injection q; simp [*])))
              have f4 : (((its.length : Nat) : Int) != ((jts.length : Nat) : Int)) = false := by rw [bne_eq_false_iff_eq]; omega
              have f5 : (((ks.length : Nat) : Int) != ((ls.length : Nat) : Int)) = true := by rw [bne_iff_ne]; omega
              clear hv hu hL hM hS hT q4 q5
              unfold vag
              go_enter Try.func15, Try.ntmps15
              go_wp2
              go_ret
              exact ⟨ret_bool HR.out.symm, BB.out _ _⟩
          · have HR : Hid (eqB (VT.mk k i t its ks) (VT.mk k i t jts ls) = false) := Lib.hid (eqB_false (fun q => q4 (by injection q; simp [*])))
            have f4 : (((its.length : Nat) : Int) != ((jts.length : Nat) : Int)) = true := by rw [bne_iff_ne]; omega
            clear hv hu hL hM hS hT q4
            unfold vag
            go_enter Try.func15, Try.ntmps15
            go_wp2
            go_ret
            exact ⟨ret_bool HR.out.symm, BB.out _ _⟩
        · have HR : Hid (eqB (VT.mk k i t its ks) (VT.mk k i t' jts ls) = false) := Lib.hid (eqB_false (fun q => q3 (by injection q)))
          have f3 : (t.toList == t'.toList) = false := by rw [beq_eq_false_iff_ne]; exact fun q => q3 (str_inj q)
          clear hv hu hL hM hS hT q3
          unfold vag
          go_enter Try.func15, Try.ntmps15
          go_wp2
          go_ret
          exact ⟨ret_bool HR.out.symm, BB.out _ _⟩
      · have HR : Hid (eqB (VT.mk k i t its ks) (VT.mk k i' t' jts ls) = false) := Lib.hid (eqB_false (fun q => q2 (by injection q)))
        have f2 : (i != i') = true := by rw [bne_iff_ne]; exact q2
        clear hv hu hL hM hS hT q2
        unfold vag
        go_enter Try.func15, Try.ntmps15
        go_wp2
        go_ret
        exact ⟨ret_bool HR.out.symm, BB.out _ _⟩
    · have HR : Hid (eqB (VT.mk k i t its ks) (VT.mk k' i' t' jts ls) = false) := Lib.hid (eqB_false (fun q => q1 (by injection q)))
      have f1 : (k != k') = true := by rw [bne_iff_ne]; exact q1
      clear hv hu hL hM hS hT q1
      unfold vag
      go_enter Try.func15, Try.ntmps15
      go_wp2
      go_ret
      exact ⟨ret_bool HR.out.symm, BB.out _ _⟩
theorem refSame_any {x y : VT} {v u : Value} {w : World} (h : Lies w (Lo w) x v) (h' : Lies w (Lo w) y u) : Calls Try.prog 15 #[v, u] w (Gives (.bool (eqB x y)) w) := refSame_all x.size x y w v u (Nat.le_refl _) h h'
end Go.Proofs.Ytoppbbhhbojmcaa
namespace Go.Proofs.Ytoppbbhhbojmcaa
open Go.RowKit

set_option maxHeartbeats 1000000 in
theorem refFuture_all (m : Nat) : ∀ (x : VT) (w : World) (v : Value), x.size ≤ m → Lies w (Lo w) x v → Calls Try.prog 71 #[v] w (Gives (.bool (!x.all noFut)) w) := by
  induction m with
  | zero => intro x _ _ h; have := size_pos x; omega
  | succ m ih =>
    intro x w v hsz hv
    obtain ⟨k, i, t, its, ks⟩ := x
    obtain ⟨A, c, A', c', rfl, _, _, _, hlc, hcm, hL, _, _, _⟩ := hv.open
    rw [VT.size_mk] at hsz
    obtain ⟨r, hr⟩ : ∃ r, r = !(VT.mk k i t its ks).all noFut := ⟨_, rfl⟩
    rw [← hr]
    rw [VT.all_mk] at hr
    have hno : ∀ (j : Nat) (y : VT), its[j]? = some y → y.all noFut = false → r = true := fun j y h h' => by rw [hr, alls_false h h', Bool.and_false]; rfl
    have hyes : alls noFut its = true → r = (k == 6) := fun h => by
      rw [hr, h, Bool.and_true]
      unfold noFut VT.k
      by_cases hk : k = 6 <;> simp [hk]
    have HNO := Lib.hid hno
    have HYES := Lib.hid hyes
    have HL := Lib.hid hL
    have IH := Lib.hid ih
    clear hL ih hv hr hno hyes
    obtain ⟨n, hn⟩ : ∃ n, n = its.length := ⟨_, rfl⟩
    rw [← hn] at hlc ⊢
    have HN := Lib.hid hn
    clear hn
    unfold vag
    go_enter Try.func71, Try.ntmps71
    go_wp2
    obtain ⟨w1, hw1⟩ : ∃ w1, w1 = w.alloc (.cells #[.int .i64 k, .int .i64 i, .string t, .slice A n c, .slice A' ks.length c'] 26) := ⟨_, rfl⟩
    have B0 : Hid (Below w.heap.size w w1) := Lib.hid (by rw [hw1]; exact below_one _ _)
    have S1 : Hid (w.heap.size < w1.heap.size) := Lib.hid (by rw [hw1]; simp)
    have X1 : Hid (∀ q, w1.cell? ⟨w.heap.size, q, none⟩ = (#[.int .i64 k, .int .i64 i, .string t, .slice A n c, .slice A' ks.length c'] : Array Value)[q]?) := Lib.hid (fun q => by rw [hw1, World.cell?_alloc_at _ _ _ _ rfl])
    rw [← hw1]
    have HW := Lib.hid hw1
    clear hw1
    go_loopw [3] (fun s wr => ∃ j : Nat, j ≤ n ∧ s = .int .i64 j ∧ Hid (alls noFut (its.take j) = true) ∧ Hid (Below w1.heap.size w1 wr)) (fun s _ => n - (intOf s).toNat)
    case atStart => exact ⟨0, by omega, rfl, Lib.hid (by simp [alls]), Lib.hid (Below.refl _ _)⟩
    case round =>
      obtain ⟨j, hjn, rfl, ha, hb⟩ := hrel
      have b0 := (hb.out.cell (p := ⟨w.heap.size, 0, none⟩) S1.out).trans (X1.out 0)
      have b3 := (hb.out.cell (p := ⟨w.heap.size, 3, none⟩) S1.out).trans (X1.out 3)
      change _ = some (Value.int .i64 k) at b0
      change _ = some (Value.slice A n c) at b3
      by_cases hlt : j < n
      · have g1 := List.getElem?_eq_getElem (l := its) (i := j) (by rw [← HN.out]; exact hlt)
        obtain ⟨g, o, k', i', t', B, n', c1, B', n1, c2, rfl, hg, e0, e1, e2, e3, e4, hx⟩ := (HL.out).at_ g1
        have hle := size_at g1
        have htk := alls_take (p := noFut) g1
        have HN2 := Lib.hid (HNO.out j _ g1)
        have HB := Lib.hid (below_next B0.out hb.out)
        generalize its[j]'(by rw [← HN.out]; exact hlt) = x at *
        have cc := fun (q : Nat) => HB.out.cell (p := ⟨g, q, none⟩) hg
        rw [Nat.zero_add] at e0 e1 e2 e3 e4
        rw [← cc] at e0 e1 e2 e3 e4
        have hc := IH.out x wr _ (by omega) (hx.below HB.out)
        generalize x.all noFut = p at *
        have HC := Lib.hid hc
        have HTK := Lib.hid htk
        clear hc hx cc g1 htk b0
        unfold vag at HC
        go_wp2_with fail
        refine (HC.out).mono ?_
        rintro e w' ⟨rfl, hb2⟩
        have HB2 := Lib.hid (below_next hb.out hb2)
        clear hb2
        cases p with
        | true =>
          go_wp2
          go_roundw
          case rel => exact ⟨j + 1, by omega, by go_num, Lib.hid (by rw [HTK.out, ha.out]; rfl), HB2⟩
          case measure => simp [intOf]; omega
        | false =>
          have HR := Lib.hid (HN2.out rfl)
          go_wp2
          go_ret
          exact ⟨ret_bool HR.out.symm, below_next B0.out HB2.out⟩
      · have HR := Lib.hid (HYES.out (by
          have := ha.out
          rwa [show j = n by omega, HN.out, List.take_length] at this))
        go_wp2
        go_ret
        exact ⟨ret_bool HR.out.symm, below_next B0.out hb.out⟩
theorem refFuture_any {x : VT} {v : Value} {w : World} (h : Lies w (Lo w) x v) : Calls Try.prog 71 #[v] w (Gives (.bool (!x.all noFut)) w) := refFuture_all x.size x w v (Nat.le_refl _) h

set_option maxHeartbeats 1000000 in
theorem refShort_all (m : Nat) : ∀ (x : VT) (w : World) (v : Value), x.size ≤ m → Lies w (Lo w) x v → Calls Try.prog 93 #[v] w (Gives (.bool (x.all shortF)) w) := by
  induction m with
  | zero => intro x _ _ h; have := size_pos x; omega
  | succ m ih =>
    intro x w v hsz hv
    obtain ⟨k, i, t, its, ks⟩ := x
    obtain ⟨A, c, A', c', rfl, _, _, htm, hlc, hcm, hL, hkc, hcm', hS⟩ := hv.open
    rw [VT.size_mk] at hsz
    obtain ⟨r, hr⟩ : ∃ r, r = (VT.mk k i t its ks).all shortF := ⟨_, rfl⟩
    rw [← hr]
    rw [VT.all_mk] at hr
    have hno : ∀ (j : Nat) (y : VT), its[j]? = some y → y.all shortF = false → r = false := fun j y h h' => by rw [hr, alls_false h h', Bool.and_false]
    have hnk : (ks.all fun s => decide (s.size ≤ 4096)) = false → r = false := fun h => by rw [hr]; unfold shortF VT.ks; rw [h, Bool.and_false, Bool.false_and]
    have hyes : t.size ≤ 4096 → (ks.all fun s => decide (s.size ≤ 4096)) = true → alls shortF its = true → r = true := fun h1 h2 h3 => by
      rw [hr, h3]; unfold shortF VT.ks VT.t; rw [h2, decide_eq_true h1]; rfl
    have hnt : ¬ t.size ≤ 4096 → r = false := fun h => by rw [hr]; unfold shortF VT.t; rw [decide_eq_false h, Bool.false_and, Bool.false_and]
    have HNO := Lib.hid hno
    have HNK := Lib.hid hnk
    have HYES := Lib.hid hyes
    have HNT := Lib.hid hnt
    have HL := Lib.hid hL
    have HS := Lib.hid hS
    have IH := Lib.hid ih
    clear hL hS ih hv hr hno hyes hnk hnt
    obtain ⟨n, hn⟩ : ∃ n, n = its.length := ⟨_, rfl⟩
    rw [← hn] at hlc ⊢
    have HN := Lib.hid hn
    clear hn
    unfold vag
    by_cases ht : t.size ≤ 4096
    · have g2 : decide (4096 < (t.size : Int)) = false := decide_eq_false (by omega)
      have HT := Lib.hid ht
      clear ht HNT
      go_enter Try.func93, Try.ntmps93
      go_wp2
      obtain ⟨w1, hw1⟩ : ∃ w1, w1 = w.alloc (.cells #[.int .i64 k, .int .i64 i, .string t, .slice A n c, .slice A' ks.length c'] 26) := ⟨_, rfl⟩
      have B0 : Hid (Below w.heap.size w w1) := Lib.hid (by rw [hw1]; exact below_one _ _)
      have S1 : Hid (w.heap.size < w1.heap.size) := Lib.hid (by rw [hw1]; simp)
      have X1 : Hid (∀ q, w1.cell? ⟨w.heap.size, q, none⟩ = (#[.int .i64 k, .int .i64 i, .string t, .slice A n c, .slice A' ks.length c'] : Array Value)[q]?) := Lib.hid (fun q => by rw [hw1, World.cell?_alloc_at _ _ _ _ rfl])
      rw [← hw1]
      have x4 := X1.out 4
      change _ = some (Value.slice A' ks.length c') at x4
      have HW := Lib.hid hw1
      clear hw1
      go_loopw [3] (fun s wr => ∃ j : Nat, j ≤ ks.length ∧ s = .int .i64 j ∧ w1 = wr ∧ Hid ((ks.take j).all (fun s => decide (s.size ≤ 4096)) = true)) (fun s _ => ks.length - (intOf s).toNat)
      case atStart => exact ⟨0, by omega, rfl, rfl, Lib.hid rfl⟩
      case round =>
        obtain ⟨j, hjn, rfl, rfl, ha⟩ := hrel
        by_cases hlt : j < ks.length
        · have hkj : ks[j]? = some (ks.getD j ByteArray.empty) := by rw [List.getD_eq_getElem?_getD, List.getElem?_eq_getElem hlt]; rfl
          obtain ⟨hsz2, g, o, rfl, hg, e0⟩ := HS.out j _ hkj
          rw [← B0.out.cell (p := ⟨g, o + j, none⟩) hg] at e0
          have hst := fun h => short_take hkj ha.out h
          have hno := fun h => short_no hkj h
          generalize ks.getD j ByteArray.empty = s at *
          have HST := Lib.hid hst
          have HNO2 := Lib.hid hno
          clear hst hno hkj
          by_cases hs : s.size ≤ 4096
          · have g3 : decide (4096 < (s.size : Int)) = false := decide_eq_false (by omega)
            go_wp2
            go_roundw
            case rel => exact ⟨j + 1, by omega, by go_num, trivial, Lib.hid (HST.out hs)⟩
            case measure => simp [intOf]; omega
          · have g3 : decide (4096 < (s.size : Int)) = true := decide_eq_true (by omega)
            have HR := Lib.hid (HNK.out (HNO2.out hs))
            go_wp2
            go_ret
            exact ⟨ret_bool HR.out.symm, B0.out⟩
        · have HK : Hid ((ks.all fun s => decide (s.size ≤ 4096)) = true) := Lib.hid (by
            have := ha.out
            rwa [show j = ks.length by omega, List.take_length] at this)
          clear ha
          go_wp2
          obtain ⟨w6, hw6⟩ : ∃ w6, w6 = w1 := ⟨_, rfl⟩
          go_loopw [4] (fun s wr => ∃ j : Nat, j ≤ n ∧ s = .int .i64 j ∧ Hid (alls shortF (its.take j) = true) ∧ Hid (Below w1.heap.size w1 wr)) (fun s _ => n - (intOf s).toNat)
          case atStart => exact ⟨0, by omega, rfl, Lib.hid (by simp [alls]), Lib.hid (Below.refl _ _)⟩
          case round =>
            obtain ⟨j, hjn, rfl, ha, hb⟩ := hrel
            have b3 := (hb.out.cell (p := ⟨w.heap.size, 3, none⟩) S1.out).trans (X1.out 3)
            change _ = some (Value.slice A n c) at b3
            by_cases hlt : j < n
            · have g1 := List.getElem?_eq_getElem (l := its) (i := j) (by rw [← HN.out]; exact hlt)
              obtain ⟨g, o, k', i', t', B, n', c1, B', n1, c2, rfl, hg, e0, e1, e2, e3, e4, hx⟩ := (HL.out).at_ g1
              have hle := size_at g1
              have htk := alls_take (p := shortF) g1
              have HN2 := Lib.hid (HNO.out j _ g1)
              have HB := Lib.hid (below_next B0.out hb.out)
              generalize its[j]'(by rw [← HN.out]; exact hlt) = x at *
              have cc := fun (q : Nat) => HB.out.cell (p := ⟨g, q, none⟩) hg
              rw [Nat.zero_add] at e0 e1 e2 e3 e4
              rw [← cc] at e0 e1 e2 e3 e4
              have hc := IH.out x wr _ (by omega) (hx.below HB.out)
              generalize x.all shortF = p at *
              have HC := Lib.hid hc
              have HTK := Lib.hid htk
              clear hc hx cc g1 htk
              unfold vag at HC
              go_wp2_with fail
              refine (HC.out).mono ?_
              rintro e w' ⟨rfl, hb2⟩
              have HB2 := Lib.hid (below_next hb.out hb2)
              clear hb2
              cases p with
              | true =>
                go_wp2
                go_roundw
                case rel => exact ⟨j + 1, by omega, by go_num, Lib.hid (by rw [HTK.out, ha.out]; rfl), HB2⟩
                case measure => simp [intOf]; omega
              | false =>
                have HR := Lib.hid (HN2.out rfl)
                go_wp2
                go_ret
                exact ⟨ret_bool HR.out.symm, below_next B0.out HB2.out⟩
            · have HR := Lib.hid (HYES.out HT.out HK.out (by
                have := ha.out
                rwa [show j = n by omega, HN.out, List.take_length] at this))
              go_wp2
              go_ret
              exact ⟨ret_bool HR.out.symm, below_next B0.out hb.out⟩
    · have g2 : decide (4096 < (t.size : Int)) = true := decide_eq_true (by omega)
      have HR := Lib.hid (HNT.out ht)
      clear ht
      go_enter Try.func93, Try.ntmps93
      go_wp2
      go_ret
      exact ⟨ret_bool HR.out.symm, below_one _ _⟩
theorem refShort_any {x : VT} {v : Value} {w : World} (h : Lies w (Lo w) x v) : Calls Try.prog 93 #[v] w (Gives (.bool (x.all shortF)) w) := refShort_all x.size x w v (Nat.le_refl _) h
end Go.Proofs.Ytoppbbhhbojmcaa
namespace Go.Proofs.Ytoppbbhhbojmcaa
open Go.RowKit

set_option maxHeartbeats 1000000 in
theorem refWithin_any {x : VT} {v : Value} {w : World} (hsz : x.size < 4611686018427387904) (h : Lies w (Lo w) x v) : Calls Try.prog 64 #[v] w (Gives (.bool x.within) w) := by
  obtain ⟨r, hr⟩ : ∃ r, r = x.within := ⟨_, rfl⟩
  rw [← hr]
  unfold VT.within at hr
  have HA := Lib.hid (fun (w' : World) (hb : Below w.heap.size w w') => refShort_any (h.below hb))
  have HB := Lib.hid (fun (w' : World) (hb : Below w.heap.size w w') => refDepth_all x.size x w' v (Nat.le_refl _) hsz (h.below hb))
  have HC := Lib.hid (fun (w' : World) (hb : Below w.heap.size w w') => refSize_all x.size x w' v (Nat.le_refl _) hsz (h.below hb))
  have hdz := depth_le_size _ x (Nat.le_refl _)
  obtain ⟨k, i, t, its, ks⟩ := x
  obtain ⟨A, c, A', c', rfl, _, _, _, h1, h2, hL, h3, h4, hS⟩ := h.open
  obtain ⟨w2, hw2⟩ : ∃ w2, w2 = w.alloc (.cells #[.int .i64 k, .int .i64 i, .string t, .slice A its.length c, .slice A' ks.length c'] 26) := ⟨_, rfl⟩
  have B2 : Hid (Below w.heap.size w w2) := Lib.hid (by rw [hw2]; exact below_one _ _)
  have S2 : Hid (w.heap.size < w2.heap.size) := Lib.hid (by rw [hw2]; simp)
  have X1 : Hid (∀ j, w2.cell? ⟨w.heap.size, j, none⟩ = (#[.int .i64 k, .int .i64 i, .string t, .slice A its.length c, .slice A' ks.length c'] : Array Value)[j]?) := Lib.hid (fun j => by
    rw [hw2, World.cell?_alloc_at _ _ _ _ rfl])
  have HW := Lib.hid hw2
  clear h hL hS hw2
  have H1 := Lib.hid (HA.out w2 B2.out)
  unfold vag at H1 HA HB HC ⊢
  generalize (VT.mk k i t its ks).all shortF = p at *
  generalize (VT.mk k i t its ks).depth = d at *
  generalize (VT.mk k i t its ks).size = z at *
  have O1 : Hid (p = false → r = false) := Lib.hid (fun h => by rw [hr, h]; rfl)
  have O2 : Hid (¬ d ≤ 16 → r = false) := Lib.hid (fun h => by rw [hr, decide_eq_false h, Bool.false_and, Bool.and_false])
  have O3 : Hid (¬ z ≤ 1000 → r = false) := Lib.hid (fun h => by rw [hr, decide_eq_false h, Bool.and_false, Bool.and_false])
  have O4 : Hid (p = true → d ≤ 16 → z ≤ 1000 → r = true) := Lib.hid (fun h h' h'' => by rw [hr, h, decide_eq_true h', decide_eq_true h'']; rfl)
  clear hr
  go_enter Try.func64, Try.ntmps64
  go_wp2_with fail
  rw [← HW.out]
  refine (H1.out).mono ?_
  rintro e3 w3 ⟨rfl, hb⟩
  have HB3 := Lib.hid (below_next B2.out hb)
  have S3 : Hid (w.heap.size < w3.heap.size) := Lib.hid (by have := S2.out; have := hb.size; omega)
  have a30 := (hb.cell (p := ⟨w.heap.size, 0, none⟩) S2.out).trans (X1.out 0)
  have a31 := (hb.cell (p := ⟨w.heap.size, 1, none⟩) S2.out).trans (X1.out 1)
  have a32 := (hb.cell (p := ⟨w.heap.size, 2, none⟩) S2.out).trans (X1.out 2)
  have a33 := (hb.cell (p := ⟨w.heap.size, 3, none⟩) S2.out).trans (X1.out 3)
  have a34 := (hb.cell (p := ⟨w.heap.size, 4, none⟩) S2.out).trans (X1.out 4)
  change _ = some (Value.int .i64 k) at a30
  change _ = some (Value.int .i64 i) at a31
  change _ = some (Value.string t) at a32
  change _ = some (Value.slice A its.length c) at a33
  change _ = some (Value.slice A' ks.length c') at a34
  clear hb
  cases p with
  | false =>
    have HR := Lib.hid (O1.out rfl)
    go_wp2
    go_ret
    exact ⟨ret_bool HR.out.symm, HB3.out⟩
  | true =>
    go_wp2_with fail
    refine (HB.out w3 HB3.out).mono ?_
    rintro e4 w4 ⟨rfl, hb⟩
    have HB4 := Lib.hid (below_next HB3.out hb)
    have S4 : Hid (w.heap.size < w4.heap.size) := Lib.hid (by have := S3.out; have := hb.size; omega)
    have a40 := (hb.cell (p := ⟨w.heap.size, 0, none⟩) S3.out).trans a30
    have a41 := (hb.cell (p := ⟨w.heap.size, 1, none⟩) S3.out).trans a31
    have a42 := (hb.cell (p := ⟨w.heap.size, 2, none⟩) S3.out).trans a32
    have a43 := (hb.cell (p := ⟨w.heap.size, 3, none⟩) S3.out).trans a33
    have a44 := (hb.cell (p := ⟨w.heap.size, 4, none⟩) S3.out).trans a34
    change _ = some (Value.int .i64 k) at a40
    change _ = some (Value.int .i64 i) at a41
    change _ = some (Value.string t) at a42
    change _ = some (Value.slice A its.length c) at a43
    change _ = some (Value.slice A' ks.length c') at a44
    clear a30 a31 a32 a33 a34
    clear hb
    by_cases hd : d ≤ 16
    · have f1 : decide ((d : Int) ≤ 16) = true := decide_eq_true (by omega)
      have HD := Lib.hid hd
      clear hd
      go_wp2_with fail
      refine (HC.out w4 HB4.out).mono ?_
      rintro e5 w5 ⟨rfl, hb⟩
      have HB5 := Lib.hid (below_next HB4.out hb)
      have S5 : Hid (w.heap.size < w5.heap.size) := Lib.hid (by have := S4.out; have := hb.size; omega)
      have a50 := (hb.cell (p := ⟨w.heap.size, 0, none⟩) S4.out).trans a40
      have a51 := (hb.cell (p := ⟨w.heap.size, 1, none⟩) S4.out).trans a41
      have a52 := (hb.cell (p := ⟨w.heap.size, 2, none⟩) S4.out).trans a42
      have a53 := (hb.cell (p := ⟨w.heap.size, 3, none⟩) S4.out).trans a43
      have a54 := (hb.cell (p := ⟨w.heap.size, 4, none⟩) S4.out).trans a44
      change _ = some (Value.int .i64 k) at a50
      change _ = some (Value.int .i64 i) at a51
      change _ = some (Value.string t) at a52
      change _ = some (Value.slice A its.length c) at a53
      change _ = some (Value.slice A' ks.length c') at a54
      clear a40 a41 a42 a43 a44
      clear hb
      by_cases hz : z ≤ 1000
      · have f2 : decide ((z : Int) ≤ 1000) = true := decide_eq_true (by omega)
        have HR := Lib.hid (O4.out (by trivial) HD.out hz)
        clear hz
        go_wp2
        go_ret
        exact ⟨ret_bool HR.out.symm, HB5.out⟩
      · have f2 : decide ((z : Int) ≤ 1000) = false := decide_eq_false (by omega)
        have HR := Lib.hid (O3.out hz)
        clear hz
        go_wp2
        go_ret
        exact ⟨ret_bool HR.out.symm, HB5.out⟩
    · have f1 : decide ((d : Int) ≤ 16) = false := decide_eq_false (by omega)
      have HR := Lib.hid (O2.out hd)
      clear hd
      go_wp2
      go_ret
      exact ⟨ret_bool HR.out.symm, HB4.out⟩

set_option maxHeartbeats 1000000 in
theorem refRight_any {x : VT} {v : Value} {w : World} (hsz : x.size < 4611686018427387904) (h : Lies w (Lo w) x v) : Calls Try.prog 31 #[v] w (Gives (.bool x.right) w) := by
  obtain ⟨r, hr⟩ : ∃ r, r = x.right := ⟨_, rfl⟩
  rw [← hr]
  unfold VT.right at hr
  have HA := Lib.hid (fun (w' : World) (hb : Below w.heap.size w w') => refWf_any (h.below hb))
  have HB := Lib.hid (fun (w' : World) (hb : Below w.heap.size w w') => refWithin_any hsz (h.below hb))
  have HC := Lib.hid (fun (w' : World) (hb : Below w.heap.size w w') => refFuture_any (h.below hb))
  obtain ⟨k, i, t, its, ks⟩ := x
  obtain ⟨A, c, A', c', rfl, _, _, _, h1, h2, hL, h3, h4, hS⟩ := h.open
  obtain ⟨w2, hw2⟩ : ∃ w2, w2 = w.alloc (.cells #[.int .i64 k, .int .i64 i, .string t, .slice A its.length c, .slice A' ks.length c'] 26) := ⟨_, rfl⟩
  have B2 : Hid (Below w.heap.size w w2) := Lib.hid (by rw [hw2]; exact below_one _ _)
  have S2 : Hid (w.heap.size < w2.heap.size) := Lib.hid (by rw [hw2]; simp)
  have X1 : Hid (∀ j, w2.cell? ⟨w.heap.size, j, none⟩ = (#[.int .i64 k, .int .i64 i, .string t, .slice A its.length c, .slice A' ks.length c'] : Array Value)[j]?) := Lib.hid (fun j => by
    rw [hw2, World.cell?_alloc_at _ _ _ _ rfl])
  have HW := Lib.hid hw2
  clear h hL hS hw2
  have H1 := Lib.hid (HA.out w2 B2.out)
  unfold vag at H1 HA HB HC ⊢
  generalize (VT.mk k i t its ks).wf = p at *
  generalize (VT.mk k i t its ks).within = q at *
  generalize (VT.mk k i t its ks).all noFut = z at *
  have O1 : Hid (p = false → r = false) := Lib.hid (fun h => by rw [hr, h]; rfl)
  have O2 : Hid (q = false → r = false) := Lib.hid (fun h => by rw [hr, h, Bool.false_and, Bool.and_false])
  have O3 : Hid (p = true → q = true → r = z) := Lib.hid (fun h h' => by rw [hr, h, h']; rfl)
  clear hr
  go_enter Try.func31, Try.ntmps31
  go_wp2_with fail
  rw [← HW.out]
  refine (H1.out).mono ?_
  rintro e3 w3 ⟨rfl, hb⟩
  have HB3 := Lib.hid (below_next B2.out hb)
  have S3 : Hid (w.heap.size < w3.heap.size) := Lib.hid (by have := S2.out; have := hb.size; omega)
  have a30 := (hb.cell (p := ⟨w.heap.size, 0, none⟩) S2.out).trans (X1.out 0)
  have a31 := (hb.cell (p := ⟨w.heap.size, 1, none⟩) S2.out).trans (X1.out 1)
  have a32 := (hb.cell (p := ⟨w.heap.size, 2, none⟩) S2.out).trans (X1.out 2)
  have a33 := (hb.cell (p := ⟨w.heap.size, 3, none⟩) S2.out).trans (X1.out 3)
  have a34 := (hb.cell (p := ⟨w.heap.size, 4, none⟩) S2.out).trans (X1.out 4)
  change _ = some (Value.int .i64 k) at a30
  change _ = some (Value.int .i64 i) at a31
  change _ = some (Value.string t) at a32
  change _ = some (Value.slice A its.length c) at a33
  change _ = some (Value.slice A' ks.length c') at a34
  clear hb
  cases p with
  | false =>
    have HR := Lib.hid (O1.out rfl)
    go_wp2
    go_ret
    exact ⟨ret_bool HR.out.symm, HB3.out⟩
  | true =>
    go_wp2_with fail
    refine (HB.out w3 HB3.out).mono ?_
    rintro e4 w4 ⟨rfl, hb⟩
    have HB4 := Lib.hid (below_next HB3.out hb)
    have S4 : Hid (w.heap.size < w4.heap.size) := Lib.hid (by have := S3.out; have := hb.size; omega)
    have a40 := (hb.cell (p := ⟨w.heap.size, 0, none⟩) S3.out).trans a30
    have a41 := (hb.cell (p := ⟨w.heap.size, 1, none⟩) S3.out).trans a31
    have a42 := (hb.cell (p := ⟨w.heap.size, 2, none⟩) S3.out).trans a32
    have a43 := (hb.cell (p := ⟨w.heap.size, 3, none⟩) S3.out).trans a33
    have a44 := (hb.cell (p := ⟨w.heap.size, 4, none⟩) S3.out).trans a34
    change _ = some (Value.int .i64 k) at a40
    change _ = some (Value.int .i64 i) at a41
    change _ = some (Value.string t) at a42
    change _ = some (Value.slice A its.length c) at a43
    change _ = some (Value.slice A' ks.length c') at a44
    clear a30 a31 a32 a33 a34
    clear hb
    cases q with
    | false =>
      have HR := Lib.hid (O2.out rfl)
      go_wp2
      go_ret
      exact ⟨ret_bool HR.out.symm, HB4.out⟩
    | true =>
      have HR := Lib.hid (O3.out (by trivial) (by trivial))
      go_wp2_with fail
      refine (HC.out w4 HB4.out).mono ?_
      rintro e5 w5 ⟨rfl, hb⟩
      have HB5 := Lib.hid (below_next HB4.out hb)
      have S5 : Hid (w.heap.size < w5.heap.size) := Lib.hid (by have := S4.out; have := hb.size; omega)
      have a50 := (hb.cell (p := ⟨w.heap.size, 0, none⟩) S4.out).trans a40
      have a51 := (hb.cell (p := ⟨w.heap.size, 1, none⟩) S4.out).trans a41
      have a52 := (hb.cell (p := ⟨w.heap.size, 2, none⟩) S4.out).trans a42
      have a53 := (hb.cell (p := ⟨w.heap.size, 3, none⟩) S4.out).trans a43
      have a54 := (hb.cell (p := ⟨w.heap.size, 4, none⟩) S4.out).trans a44
      change _ = some (Value.int .i64 k) at a50
      change _ = some (Value.int .i64 i) at a51
      change _ = some (Value.string t) at a52
      change _ = some (Value.slice A its.length c) at a53
      change _ = some (Value.slice A' ks.length c') at a54
      clear a40 a41 a42 a43 a44
      clear hb
      cases z with
      | false =>
        go_wp2
        go_ret
        exact ⟨ret_bool HR.out.symm, HB5.out⟩
      | true =>
        go_wp2
        go_ret
        exact ⟨ret_bool HR.out.symm, HB5.out⟩

set_option maxHeartbeats 1000000 in
theorem valRight_any {x : VT} {v : Value} {w : World} (h : Lies w (Lo w) x v) : Calls Try.prog 30 #[v] w (Gives (.bool x.right) w) := by
  obtain ⟨r, hr⟩ : ∃ r, r = x.right := ⟨_, rfl⟩
  rw [← hr]
  unfold VT.right at hr
  have HA := Lib.hid (fun (w' : World) (hb : Below w.heap.size w w') => within_any (h.below hb))
  have HB := Lib.hid (fun (w' : World) (hb : Below w.heap.size w w') => wf_any (h.below hb))
  have HC := Lib.hid (fun (w' : World) (hb : Below w.heap.size w w') => everyNf_all x.size x w' v (Nat.le_refl _) (h.below hb))
  obtain ⟨k, i, t, its, ks⟩ := x
  obtain ⟨A, c, A', c', rfl, _, _, _, h1, h2, hL, h3, h4, hS⟩ := h.open
  obtain ⟨w2, hw2⟩ : ∃ w2, w2 = w.alloc (.cells #[.int .i64 k, .int .i64 i, .string t, .slice A its.length c, .slice A' ks.length c'] 26) := ⟨_, rfl⟩
  have B2 : Hid (Below w.heap.size w w2) := Lib.hid (by rw [hw2]; exact below_one _ _)
  have S2 : Hid (w.heap.size < w2.heap.size) := Lib.hid (by rw [hw2]; simp)
  have X1 : Hid (∀ j, w2.cell? ⟨w.heap.size, j, none⟩ = (#[.int .i64 k, .int .i64 i, .string t, .slice A its.length c, .slice A' ks.length c'] : Array Value)[j]?) := Lib.hid (fun j => by
    rw [hw2, World.cell?_alloc_at _ _ _ _ rfl])
  have HW := Lib.hid hw2
  clear h hL hS hw2
  have H1 := Lib.hid (HA.out w2 B2.out)
  unfold vag at H1 HA HB HC ⊢
  generalize (VT.mk k i t its ks).within = p at *
  generalize (VT.mk k i t its ks).wf = q at *
  generalize (VT.mk k i t its ks).all noFut = z at *
  have O2 : Hid (q = false → r = false) := Lib.hid (fun h => by rw [hr, h]; rfl)
  have O1 : Hid (p = false → r = false) := Lib.hid (fun h => by rw [hr, h, Bool.false_and, Bool.and_false])
  have O3 : Hid (p = true → q = true → r = z) := Lib.hid (fun h h' => by rw [hr, h', h]; rfl)
  clear hr
  go_enter Try.func30, Try.ntmps30
  go_wp2_with fail
  rw [← HW.out]
  refine (H1.out).mono ?_
  rintro e3 w3 ⟨rfl, hb⟩
  have HB3 := Lib.hid (below_next B2.out hb)
  have S3 : Hid (w.heap.size < w3.heap.size) := Lib.hid (by have := S2.out; have := hb.size; omega)
  have a30 := (hb.cell (p := ⟨w.heap.size, 0, none⟩) S2.out).trans (X1.out 0)
  have a31 := (hb.cell (p := ⟨w.heap.size, 1, none⟩) S2.out).trans (X1.out 1)
  have a32 := (hb.cell (p := ⟨w.heap.size, 2, none⟩) S2.out).trans (X1.out 2)
  have a33 := (hb.cell (p := ⟨w.heap.size, 3, none⟩) S2.out).trans (X1.out 3)
  have a34 := (hb.cell (p := ⟨w.heap.size, 4, none⟩) S2.out).trans (X1.out 4)
  change _ = some (Value.int .i64 k) at a30
  change _ = some (Value.int .i64 i) at a31
  change _ = some (Value.string t) at a32
  change _ = some (Value.slice A its.length c) at a33
  change _ = some (Value.slice A' ks.length c') at a34
  clear hb
  cases p with
  | false =>
    have HR := Lib.hid (O1.out rfl)
    go_wp2
    go_ret
    exact ⟨ret_bool HR.out.symm, HB3.out⟩
  | true =>
    go_wp2_with fail
    refine (HB.out w3 HB3.out).mono ?_
    rintro e4 w4 ⟨rfl, hb⟩
    have HB4 := Lib.hid (below_next HB3.out hb)
    have S4 : Hid (w.heap.size < w4.heap.size) := Lib.hid (by have := S3.out; have := hb.size; omega)
    have a40 := (hb.cell (p := ⟨w.heap.size, 0, none⟩) S3.out).trans a30
    have a41 := (hb.cell (p := ⟨w.heap.size, 1, none⟩) S3.out).trans a31
    have a42 := (hb.cell (p := ⟨w.heap.size, 2, none⟩) S3.out).trans a32
    have a43 := (hb.cell (p := ⟨w.heap.size, 3, none⟩) S3.out).trans a33
    have a44 := (hb.cell (p := ⟨w.heap.size, 4, none⟩) S3.out).trans a34
    change _ = some (Value.int .i64 k) at a40
    change _ = some (Value.int .i64 i) at a41
    change _ = some (Value.string t) at a42
    change _ = some (Value.slice A its.length c) at a43
    change _ = some (Value.slice A' ks.length c') at a44
    clear a30 a31 a32 a33 a34
    clear hb
    cases q with
    | false =>
      have HR := Lib.hid (O2.out rfl)
      go_wp2
      go_ret
      exact ⟨ret_bool HR.out.symm, HB4.out⟩
    | true =>
      have HR := Lib.hid (O3.out (by trivial) (by trivial))
      go_wp2_with fail
      refine (HC.out w4 HB4.out).mono ?_
      rintro e5 w5 ⟨rfl, hb⟩
      have HB5 := Lib.hid (below_next HB4.out hb)
      have S5 : Hid (w.heap.size < w5.heap.size) := Lib.hid (by have := S4.out; have := hb.size; omega)
      have a50 := (hb.cell (p := ⟨w.heap.size, 0, none⟩) S4.out).trans a40
      have a51 := (hb.cell (p := ⟨w.heap.size, 1, none⟩) S4.out).trans a41
      have a52 := (hb.cell (p := ⟨w.heap.size, 2, none⟩) S4.out).trans a42
      have a53 := (hb.cell (p := ⟨w.heap.size, 3, none⟩) S4.out).trans a43
      have a54 := (hb.cell (p := ⟨w.heap.size, 4, none⟩) S4.out).trans a44
      change _ = some (Value.int .i64 k) at a50
      change _ = some (Value.int .i64 i) at a51
      change _ = some (Value.string t) at a52
      change _ = some (Value.slice A its.length c) at a53
      change _ = some (Value.slice A' ks.length c') at a54
      clear a40 a41 a42 a43 a44
      clear hb
      cases z with
      | false =>
        go_wp2
        go_ret
        exact ⟨ret_bool HR.out.symm, HB5.out⟩
      | true =>
        go_wp2
        go_ret
        exact ⟨ret_bool HR.out.symm, HB5.out⟩
end Go.Proofs.Ytoppbbhhbojmcaa
