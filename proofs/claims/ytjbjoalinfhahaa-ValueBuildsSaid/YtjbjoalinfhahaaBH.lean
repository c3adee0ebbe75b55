/-
  Texts of layers 1 and 2, part H: contracts of the code's functions and what they lean on.
-/
import Derived.Test.YtjbjoalinfhahaaBG
import Derived.Test.YtjbjoalinfhahaaBF
import Derived.Test.YtjbjoalinfhahaaBE
namespace Go.Proofs.Ytjbjoalinfhahaa
open Go.RowKit

/-- what compare is asked of items of at most m nodes -/
def RCmpUpto (m : Nat) : Prop := ∀ (x y : VT) (w : World) (v u : Value), x.size ≤ m → x.all okF = true → y.all okF = true → Lies w (Lo w) x v → Lies w (Lo w) y u → Calls Try.prog 75 #[v, u] w (Gives (.int .i64 (x.cmp y)) w)

def sgn (l g : Bool) : Int := if l then -1 else if g then 1 else 0
set_option maxHeartbeats 400000 in
theorem sign_any (l g : Bool) (w : World) : Calls Try.prog 98 #[.bool l, .bool g] w (Says (.int .i64 (sgn l g)) w) := by
  cases l
  · cases g
    · go_enter Try.func98, Try.ntmps98
      go_wp2
      go_ret
      exact ⟨rfl, rfl⟩
    · go_enter Try.func98, Try.ntmps98
      go_wp2
      go_ret
      exact ⟨rfl, rfl⟩
  · go_enter Try.func98, Try.ntmps98
    go_wp2
    go_ret
    exact ⟨rfl, rfl⟩
theorem sgn_I {a b : Int} (h : a ≠ b) : sgn (decide (a < b)) true = cmpI a b := by
  unfold sgn cmpI
  by_cases h1 : a < b
  · simp [h1]
  · simp [h1, show b < a by omega]
theorem sgn_len (a b : Nat) : sgn (decide (a < b)) (decide (b < a)) = cmpI (a : Int) (b : Int) := by
  unfold sgn cmpI
  by_cases h1 : a < b
  · rw [decide_eq_true h1, if_pos (show (a : Int) < b by omega)]; rfl
  · by_cases h2 : b < a
    · rw [decide_eq_false h1, decide_eq_true h2, if_neg (show ¬ (a : Int) < b by omega), if_pos (show (b : Int) < a by omega)]; rfl
    · rw [decide_eq_false h1, decide_eq_false h2, if_neg (show ¬ (a : Int) < b by omega), if_neg (show ¬ (b : Int) < a by omega)]; rfl
theorem sgn_S {a b : ByteArray} (h : a ≠ b) : sgn (Op.bytesLess a.toList b.toList) true = cmpS a b := by
  have e : Op.bytesLess a.toList b.toList = less a b := rfl
  rcases cmpS_ways a b with ⟨h1, _, _, h4⟩ | ⟨h1, _⟩ | ⟨_, h2, _, h4⟩
  · rw [h4, e, h1]; rfl
  · exact absurd h1 h
  · rw [h4, e, h2]; rfl

set_option maxRecDepth 100000 in
set_option maxHeartbeats 4000000 in
set_option linter.unusedVariables false in
theorem refCmp_loopO (m : Nat) (IH : Hid (RCmpUpto m)) (k : Int) (hk5 : (k == 5) = false) (i : Int) (t : ByteArray) (its : List VT) (ks : List ByteArray) (A : Option Addr) (c : Nat) (A' : Option Addr) (c' : Nat)
    (jts : List VT) (ls : List ByteArray) (D : Option Addr) (e : Nat) (D' : Option Addr) (e' : Nat) (w : World)
    (hL : LiesL w (Lo w) A 0 its) (hM : LiesL w (Lo w) D 0 jts) (h1 : its.length ≤ c) (h2 : c ≤ 9223372036854775807) (h3 : jts.length ≤ e) (h4 : e ≤ 9223372036854775807)
    (hsz : sizes its ≤ m) (hw : alls okF its = true) (hw' : alls okF jts = true) (HR : Hid ((VT.mk k i t its ks).cmp (.mk k i t jts ls) = cmps false its ks jts ls)) :
    Calls Try.prog 75 #[vag k i t A its.length c A' ks.length c', vag k i t D jts.length e D' ls.length e'] w (Gives (.int .i64 ((VT.mk k i t its ks).cmp (.mk k i t jts ls))) w) := by
  have HL := Lib.hid hL
  have HM := Lib.hid hM
  have HWF := Lib.hid (And.intro hw hw')
  clear hL hM hw hw'
  obtain ⟨w2, hw2⟩ : ∃ w2, w2 = (w.alloc (.cells #[.int .i64 k, .int .i64 i, .string t, .slice A its.length c, .slice A' ks.length c'] 26)).alloc (.cells #[.int .i64 k, .int .i64 i, .string t, .slice D jts.length e, .slice D' ls.length e'] 26) := ⟨_, rfl⟩
  have B2 : Hid (Below w.heap.size w w2) := Lib.hid (by rw [hw2]; exact (below_one _ _).trans (Below.alloc (Below.refl _ _) (by simp) _))
  have S2 : Hid (w.heap.size + 1 < w2.heap.size) := Lib.hid (by rw [hw2]; simp)
  have X1 : Hid (∀ j, w2.cell? ⟨w.heap.size, j, none⟩ = (#[.int .i64 k, .int .i64 i, .string t, .slice A its.length c, .slice A' ks.length c'] : Array Value)[j]?) := Lib.hid (fun j => by
    rw [hw2, World.cell?_alloc_lt _ _ _ (by simp), World.cell?_alloc_at _ _ _ _ rfl])
  have X2 : Hid (∀ j, w2.cell? ⟨w.heap.size + 1, j, none⟩ = (#[.int .i64 k, .int .i64 i, .string t, .slice D jts.length e, .slice D' ls.length e'] : Array Value)[j]?) := Lib.hid (fun j => by
    rw [hw2, World.cell?_alloc_at _ _ _ _ (by simp)])
  have HW := Lib.hid hw2
  clear hw2
  obtain ⟨res, hres⟩ : ∃ res, res = (VT.mk k i t its ks).cmp (.mk k i t jts ls) := ⟨_, rfl⟩
  rw [← hres] at HR ⊢
  clear hres
  unfold vag
  go_enter Try.func75, Try.ntmps75
  go_wp2
  rw [← HW.out]
  go_loopw [5, 6] (fun s _ wr => ∃ j : Nat, j ≤ its.length ∧ j ≤ jts.length ∧ s = .int .i64 j ∧ Hid (cmps false its ks jts ls = cmps false (its.drop j) (ks.drop j) (jts.drop j) (ls.drop j)) ∧ Hid (Below w2.heap.size w2 wr)) (fun s _ _ => its.length - (intOf s).toNat)
  case atStart => exact ⟨0, by omega, by omega, rfl, Lib.hid rfl, Lib.hid (Below.refl _ _)⟩
  case round =>
    obtain ⟨j, hjn, hjm, rfl, HJ, hb⟩ := hrel
    have b3 := (hb.out.cell (p := ⟨w.heap.size, 3, none⟩) (by have := S2.out; show w.heap.size < _; omega)).trans (X1.out 3)
    have b3' := (hb.out.cell (p := ⟨w.heap.size + 1, 3, none⟩) S2.out).trans (X2.out 3)
    change _ = some (Value.slice A its.length c) at b3
    change _ = some (Value.slice D jts.length e) at b3'
    by_cases hlt : j < its.length ∧ j < jts.length
    · have hlt1 := hlt.1
      have hlt2 := hlt.2
      have t1 : decide ((j : Int) < (its.length : Int)) = true := decide_eq_true (by omega)
      have t2 : decide ((j : Int) < (jts.length : Int)) = true := decide_eq_true (by omega)
      have b0 := (hb.out.cell (p := ⟨w.heap.size, 0, none⟩) (by have := S2.out; show w.heap.size < _; omega)).trans (X1.out 0)
      have h1 := List.getElem?_eq_getElem (l := its) (i := j) (by omega)
      have h2 := List.getElem?_eq_getElem (l := jts) (i := j) (by omega)
      have HB := Lib.hid (below_next B2.out hb.out)
      have hwx := all_at HWF.out.1 h1
      have hwy := all_at HWF.out.2 h2
      obtain ⟨g, o, k1, i1, t1, B, n1, c1, B', n2, c2, hA, hg, e0, e1, e2, e3, e4, hx⟩ := (HL.out).at_ h1
      obtain ⟨g', o', k3, i3, t3, E, n3, c3, E', n4, c4, hD, hg', d0, d1, d2, d3, d4, hy⟩ := (HM.out).at_ h2
      subst hA hD
      have hle2 : (its[j]'(by omega)).size ≤ m := Nat.le_trans (size_at h1) hsz
      have hdr := cmps_drop (M := false) (ks := ks) (ls := ls) h1 h2
      generalize its[j]'(by omega) = x at *
      generalize jts[j]'(by omega) = y at *
      have cc := fun (q : Nat) => HB.out.cell (p := ⟨g, q, none⟩) hg
      have cc' := fun (q : Nat) => HB.out.cell (p := ⟨g', q, none⟩) hg'
      rw [Nat.zero_add] at e0 e1 e2 e3 e4 d0 d1 d2 d3 d4
      rw [← cc] at e0 e1 e2 e3 e4
      rw [← cc'] at d0 d1 d2 d3 d4
      rw [hdr] at HJ
      have HY := Lib.hid (And.intro hx hy)
      have HSZ := Lib.hid hle2
      have HWX := Lib.hid (And.intro hwx hwy)
      clear hx hy hle2 hwx hwy cc cc' hdr h1 h2 hlt
      replace HJ := Lib.hid (HJ.out.trans (thn_eq rfl))
      go_wp2_with fail
      go_quiet (fail)
      obtain ⟨W, hW⟩ : ∃ W, W = wr.drewN nq := ⟨_, rfl⟩
      have HB2 : Hid (Below w2.heap.size w2 W) := Lib.hid (by rw [hW]; exact below_drew hb.out _)
      have HBW : Hid (Below w.heap.size w W) := Lib.hid (below_next B2.out HB2.out)
      have ec : ∀ p, W.cell? p = wr.cell? p := fun p => by rw [hW]; exact World.cell?_drewN _ _ _
      rw [← ec] at b3 b3' e0 e1 e2 e3 e4 d0 d1 d2 d3 d4
      rw [← hW]
      clear hW ec b0
      have z3 := BelowBy.cell b3
      have z3' := BelowBy.cell b3'
      have q0 := BelowBy.cell e0
      have q1 := BelowBy.cell e1
      have q2 := BelowBy.cell e2
      have q3 := BelowBy.cell e3
      have q4 := BelowBy.cell e4
      have r0 := BelowBy.cell d0
      have r1 := BelowBy.cell d1
      have r2 := BelowBy.cell d2
      have r3 := BelowBy.cell d3
      have r4 := BelowBy.cell d4
      have HCC : Hid (∀ q : BelowBy W, Calls Try.prog 75 #[vag k1 i1 t1 B n1 c1 B' n2 c2, vag k3 i3 t3 E n3 c3 E' n4 c4] q.val (Gives (.int .i64 (x.cmp y)) q.val)) := Lib.hid (fun q =>
        IH.out x y q.val _ _ HSZ.out HWX.out.1 HWX.out.2 ((HY.out.1.below HBW.out).below q.below) ((HY.out.2.below HBW.out).below q.below))
      unfold vag at HCC
      clear b3 b3' e0 e1 e2 e3 e4 d0 d1 d2 d3 d4
      go_wp2_with fail
      refine wp_region_gives (by kernel_rfl) (by kernel_rfl) ?_
      repeat (quiet_step ((go_at_call 75; exact gives_by (HCC.out _))))
      refine wpQuiet_nil ?_
      intro _ hw'
      obtain ⟨q, rfl⟩ := hw'
      obtain ⟨wq, hwq⟩ : ∃ wq, wq = q.val := ⟨_, rfl⟩
      have HQ : Hid (Below w2.heap.size w2 wq) := Lib.hid (by rw [hwq]; exact below_next HB2.out q.below)
      rw [← hwq]
      clear hwq z3 z3' q0 q1 q2 q3 q4 r0 r1 r2 r3 r4 HCC
      by_cases hcz : x.cmp y = 0
      · rw [hcz]
        have HJ2 := Lib.hid (HJ.out.trans (thn_eq hcz))
        clear hcz
        go_wp2
        go_roundw
        case rel => exact ⟨j + 1, by omega, by omega, by go_num, HJ2, HQ⟩
        case measure => simp [intOf]; omega
      · have HJ2 := Lib.hid (HJ.out.trans (thn_ne hcz))
        have g1 : (x.cmp y != 0) = true := by rw [bne_iff_ne]; exact hcz
        clear hcz
        generalize x.cmp y = z at *
        go_wp2
        go_ret
        exact ⟨by rw [HR.out, HJ2.out]; rfl, below_next B2.out HQ.out⟩
    · have HJ2 := Lib.hid (HJ.out.trans (cmps_end (by omega)))
      have HSG := Lib.hid (sgn_len its.length jts.length)
      have HCI := Lib.hid (fun w' => sign_any (decide (its.length < jts.length)) (decide (jts.length < its.length)) w')
      by_cases hj1 : j < its.length
      · have t1 : decide ((j : Int) < (its.length : Int)) = true := decide_eq_true (by omega)
        have hge : jts.length ≤ j := by omega
        have t2 : decide ((j : Int) < (jts.length : Int)) = false := decide_eq_false (by omega)
        clear hlt
        go_wp2_with fail
        refine (HCI.out _).mono ?_
        rintro e w' ⟨rfl, rfl⟩
        go_wp2
        go_ret
        exact ⟨by rw [HR.out, HJ2.out, ← HSG.out]; rfl, below_next B2.out hb.out⟩
      · have t1 : decide ((j : Int) < (its.length : Int)) = false := decide_eq_false (by omega)
        clear hlt
        go_wp2_with fail
        refine (HCI.out _).mono ?_
        rintro e w' ⟨rfl, rfl⟩
        go_wp2
        go_ret
        exact ⟨by rw [HR.out, HJ2.out, ← HSG.out]; rfl, below_next B2.out hb.out⟩

set_option maxRecDepth 100000 in
set_option maxHeartbeats 4000000 in
set_option linter.unusedVariables false in
theorem refCmp_loop5 (m : Nat) (IH : Hid (RCmpUpto m)) (i : Int) (t : ByteArray) (its : List VT) (ks : List ByteArray) (A : Option Addr) (c : Nat) (A' : Option Addr) (c' : Nat)
    (jts : List VT) (ls : List ByteArray) (D : Option Addr) (e : Nat) (D' : Option Addr) (e' : Nat) (w : World)
    (hL : LiesL w (Lo w) A 0 its) (hM : LiesL w (Lo w) D 0 jts) (hS : LiesS w (Lo w) A' ks) (hT : LiesS w (Lo w) D' ls) (hk : ks.length = its.length) (hl : ls.length = jts.length) (h1 : its.length ≤ c) (h2 : c ≤ 9223372036854775807) (h3 : jts.length ≤ e) (h4 : e ≤ 9223372036854775807)
    (hsz : sizes its ≤ m) (hw : alls okF its = true) (hw' : alls okF jts = true) (HR : Hid ((VT.mk 5 i t its ks).cmp (.mk 5 i t jts ls) = cmps true its ks jts ls)) :
    Calls Try.prog 75 #[vag 5 i t A its.length c A' ks.length c', vag 5 i t D jts.length e D' ls.length e'] w (Gives (.int .i64 ((VT.mk 5 i t its ks).cmp (.mk 5 i t jts ls))) w) := by
  have HL := Lib.hid hL
  have HM := Lib.hid hM
  have HS := Lib.hid hS
  have HT := Lib.hid hT
  have HKL := Lib.hid (And.intro hk hl)
  have HWF := Lib.hid (And.intro hw hw')
  clear hL hM hS hT hk hl hw hw'
  obtain ⟨w2, hw2⟩ : ∃ w2, w2 = (w.alloc (.cells #[.int .i64 5, .int .i64 i, .string t, .slice A its.length c, .slice A' ks.length c'] 26)).alloc (.cells #[.int .i64 5, .int .i64 i, .string t, .slice D jts.length e, .slice D' ls.length e'] 26) := ⟨_, rfl⟩
  have B2 : Hid (Below w.heap.size w w2) := Lib.hid (by rw [hw2]; exact (below_one _ _).trans (Below.alloc (Below.refl _ _) (by simp) _))
  have S2 : Hid (w.heap.size + 1 < w2.heap.size) := Lib.hid (by rw [hw2]; simp)
  have X1 : Hid (∀ j, w2.cell? ⟨w.heap.size, j, none⟩ = (#[.int .i64 5, .int .i64 i, .string t, .slice A its.length c, .slice A' ks.length c'] : Array Value)[j]?) := Lib.hid (fun j => by
    rw [hw2, World.cell?_alloc_lt _ _ _ (by simp), World.cell?_alloc_at _ _ _ _ rfl])
  have X2 : Hid (∀ j, w2.cell? ⟨w.heap.size + 1, j, none⟩ = (#[.int .i64 5, .int .i64 i, .string t, .slice D jts.length e, .slice D' ls.length e'] : Array Value)[j]?) := Lib.hid (fun j => by
    rw [hw2, World.cell?_alloc_at _ _ _ _ (by simp)])
  have HW := Lib.hid hw2
  clear hw2
  obtain ⟨res, hres⟩ : ∃ res, res = (VT.mk 5 i t its ks).cmp (.mk 5 i t jts ls) := ⟨_, rfl⟩
  rw [← hres] at HR ⊢
  clear hres
  unfold vag
  go_enter Try.func75, Try.ntmps75
  go_wp2
  rw [← HW.out]
  go_loopw [5, 6] (fun s _ wr => ∃ j : Nat, j ≤ its.length ∧ j ≤ jts.length ∧ s = .int .i64 j ∧ Hid (cmps true its ks jts ls = cmps true (its.drop j) (ks.drop j) (jts.drop j) (ls.drop j)) ∧ Hid (Below w2.heap.size w2 wr)) (fun s _ _ => its.length - (intOf s).toNat)
  case atStart => exact ⟨0, by omega, by omega, rfl, Lib.hid rfl, Lib.hid (Below.refl _ _)⟩
  case round =>
    obtain ⟨j, hjn, hjm, rfl, HJ, hb⟩ := hrel
    have b3 := (hb.out.cell (p := ⟨w.heap.size, 3, none⟩) (by have := S2.out; show w.heap.size < _; omega)).trans (X1.out 3)
    have b3' := (hb.out.cell (p := ⟨w.heap.size + 1, 3, none⟩) S2.out).trans (X2.out 3)
    change _ = some (Value.slice A its.length c) at b3
    change _ = some (Value.slice D jts.length e) at b3'
    by_cases hlt : j < its.length ∧ j < jts.length
    · have hlt1 := hlt.1
      have hlt2 := hlt.2
      have t1 : decide ((j : Int) < (its.length : Int)) = true := decide_eq_true (by omega)
      have t2 : decide ((j : Int) < (jts.length : Int)) = true := decide_eq_true (by omega)
      have b0 := (hb.out.cell (p := ⟨w.heap.size, 0, none⟩) (by have := S2.out; show w.heap.size < _; omega)).trans (X1.out 0)
      have h1 := List.getElem?_eq_getElem (l := its) (i := j) (by omega)
      have h2 := List.getElem?_eq_getElem (l := jts) (i := j) (by omega)
      have HB := Lib.hid (below_next B2.out hb.out)
      have hwx := all_at HWF.out.1 h1
      have hwy := all_at HWF.out.2 h2
      obtain ⟨g, o, k1, i1, t1, B, n1, c1, B', n2, c2, hA, hg, e0, e1, e2, e3, e4, hx⟩ := (HL.out).at_ h1
      obtain ⟨g', o', k3, i3, t3, E, n3, c3, E', n4, c4, hD, hg', d0, d1, d2, d3, d4, hy⟩ := (HM.out).at_ h2
      subst hA hD
      have hle2 : (its[j]'(by omega)).size ≤ m := Nat.le_trans (size_at h1) hsz
      have hdr := cmps_drop (M := true) (ks := ks) (ls := ls) h1 h2
      generalize its[j]'(by omega) = x at *
      generalize jts[j]'(by omega) = y at *
      have cc := fun (q : Nat) => HB.out.cell (p := ⟨g, q, none⟩) hg
      have cc' := fun (q : Nat) => HB.out.cell (p := ⟨g', q, none⟩) hg'
      rw [Nat.zero_add] at e0 e1 e2 e3 e4 d0 d1 d2 d3 d4
      rw [← cc] at e0 e1 e2 e3 e4
      rw [← cc'] at d0 d1 d2 d3 d4
      rw [hdr] at HJ
      have HY := Lib.hid (And.intro hx hy)
      have HSZ := Lib.hid hle2
      have HWX := Lib.hid (And.intro hwx hwy)
      clear hx hy hle2 hwx hwy cc cc' hdr h1 h2 hlt
      have hkj : ks[j]? = some (ks.getD j ByteArray.empty) := by rw [List.getD_eq_getElem?_getD, List.getElem?_eq_getElem (by have := HKL.out.1; omega)]; rfl
      have hlj : ls[j]? = some (ls.getD j ByteArray.empty) := by rw [List.getD_eq_getElem?_getD, List.getElem?_eq_getElem (by have := HKL.out.2; omega)]; rfl
      have hjk : j < ks.length := by have := HKL.out.1; omega
      have hjl : j < ls.length := by have := HKL.out.2; omega
      obtain ⟨_, gk, ok, hA', hgk, f0⟩ := HS.out j _ hkj
      obtain ⟨_, gl, ol, hD', hgl, f1⟩ := HT.out j _ hlj
      subst hA' hD'
      have b4 := (hb.out.cell (p := ⟨w.heap.size, 4, none⟩) (by have := S2.out; show w.heap.size < _; omega)).trans (X1.out 4)
      have b4' := (hb.out.cell (p := ⟨w.heap.size + 1, 4, none⟩) S2.out).trans (X2.out 4)
      change _ = some (Value.slice (some ⟨gk, ok, none⟩) ks.length c') at b4
      change _ = some (Value.slice (some ⟨gl, ol, none⟩) ls.length e') at b4'
      rw [← HB.out.cell (p := ⟨gk, ok + j, none⟩) hgk] at f0
      rw [← HB.out.cell (p := ⟨gl, ol + j, none⟩) hgl] at f1
      clear hkj hlj
      generalize ks.getD j ByteArray.empty = s1 at *
      generalize ls.getD j ByteArray.empty = s2 at *
      by_cases hss : s1 = s2
      · replace HJ := Lib.hid (HJ.out.trans (thn_eq (cmpS_zero.2 hss)))
        subst hss
        go_wp2_with fail
        go_quiet (fail)
        obtain ⟨W, hW⟩ : ∃ W, W = wr.drewN nq := ⟨_, rfl⟩
        have HB2 : Hid (Below w2.heap.size w2 W) := Lib.hid (by rw [hW]; exact below_drew hb.out _)
        have HBW : Hid (Below w.heap.size w W) := Lib.hid (below_next B2.out HB2.out)
        have ec : ∀ p, W.cell? p = wr.cell? p := fun p => by rw [hW]; exact World.cell?_drewN _ _ _
        rw [← ec] at b3 b3' e0 e1 e2 e3 e4 d0 d1 d2 d3 d4
        rw [← hW]
        clear hW ec b0 b4 b4' f0 f1
        have z3 := BelowBy.cell b3
        have z3' := BelowBy.cell b3'
        have q0 := BelowBy.cell e0
        have q1 := BelowBy.cell e1
        have q2 := BelowBy.cell e2
        have q3 := BelowBy.cell e3
        have q4 := BelowBy.cell e4
        have r0 := BelowBy.cell d0
        have r1 := BelowBy.cell d1
        have r2 := BelowBy.cell d2
        have r3 := BelowBy.cell d3
        have r4 := BelowBy.cell d4
        have HCC : Hid (∀ q : BelowBy W, Calls Try.prog 75 #[vag k1 i1 t1 B n1 c1 B' n2 c2, vag k3 i3 t3 E n3 c3 E' n4 c4] q.val (Gives (.int .i64 (x.cmp y)) q.val)) := Lib.hid (fun q =>
          IH.out x y q.val _ _ HSZ.out HWX.out.1 HWX.out.2 ((HY.out.1.below HBW.out).below q.below) ((HY.out.2.below HBW.out).below q.below))
        unfold vag at HCC
        clear b3 b3' e0 e1 e2 e3 e4 d0 d1 d2 d3 d4
        go_wp2_with fail
        refine wp_region_gives (by kernel_rfl) (by kernel_rfl) ?_
        repeat (quiet_step ((go_at_call 75; exact gives_by (HCC.out _))))
        refine wpQuiet_nil ?_
        intro _ hw'
        obtain ⟨q, rfl⟩ := hw'
        obtain ⟨wq, hwq⟩ : ∃ wq, wq = q.val := ⟨_, rfl⟩
        have HQ : Hid (Below w2.heap.size w2 wq) := Lib.hid (by rw [hwq]; exact below_next HB2.out q.below)
        rw [← hwq]
        clear hwq z3 z3' q0 q1 q2 q3 q4 r0 r1 r2 r3 r4 HCC
        by_cases hcz : x.cmp y = 0
        · rw [hcz]
          have HJ2 := Lib.hid (HJ.out.trans (thn_eq hcz))
          clear hcz
          go_wp2
          go_roundw
          case rel => exact ⟨j + 1, by omega, by omega, by go_num, HJ2, HQ⟩
          case measure => simp [intOf]; omega
        · have HJ2 := Lib.hid (HJ.out.trans (thn_ne hcz))
          have g1 : (x.cmp y != 0) = true := by rw [bne_iff_ne]; exact hcz
          clear hcz
          generalize x.cmp y = z at *
          go_wp2
          go_ret
          exact ⟨by rw [HR.out, HJ2.out]; rfl, below_next B2.out HQ.out⟩
      · replace HJ := Lib.hid (HJ.out.trans (thn_ne (fun e => hss (cmpS_zero.1 e))))
        have g1 : (s1.toList == s2.toList) = false := by rw [beq_eq_false_iff_ne]; exact fun e => hss (str_inj e)
        have HSG := Lib.hid (sgn_S hss)
        clear hss
        have HCS := Lib.hid (fun w' => sign_any (Op.bytesLess s1.toList s2.toList) true w')
        go_wp2_with fail
        go_quiet (fail)
        obtain ⟨W, hW⟩ : ∃ W, W = wr.drewN nq := ⟨_, rfl⟩
        have HB2 : Hid (Below w2.heap.size w2 W) := Lib.hid (by rw [hW]; exact below_drew hb.out _)
        have HBW : Hid (Below w.heap.size w W) := Lib.hid (below_next B2.out HB2.out)
        have ec : ∀ p, W.cell? p = wr.cell? p := fun p => by rw [hW]; exact World.cell?_drewN _ _ _
        rw [← ec] at b4 b4' f0 f1
        rw [← hW]
        clear hW ec b0
        go_wp2_with fail
        go_quiet ((go_at_call 98; exact Calls.quiet_of_same ((HCS.out _).mono fun _ _ h => ⟨h.1, h.2.symm⟩)))
        go_wp2
        go_ret
        exact ⟨by rw [HR.out, HJ.out, ← HSG.out]; rfl, below_next B2.out (below_drew HB2.out _)⟩
    · have HJ2 := Lib.hid (HJ.out.trans (cmps_end (by omega)))
      have HSG := Lib.hid (sgn_len its.length jts.length)
      have HCI := Lib.hid (fun w' => sign_any (decide (its.length < jts.length)) (decide (jts.length < its.length)) w')
      by_cases hj1 : j < its.length
      · have t1 : decide ((j : Int) < (its.length : Int)) = true := decide_eq_true (by omega)
        have hge : jts.length ≤ j := by omega
        have t2 : decide ((j : Int) < (jts.length : Int)) = false := decide_eq_false (by omega)
        clear hlt
        go_wp2_with fail
        refine (HCI.out _).mono ?_
        rintro e w' ⟨rfl, rfl⟩
        go_wp2
        go_ret
        exact ⟨by rw [HR.out, HJ2.out, ← HSG.out]; rfl, below_next B2.out hb.out⟩
      · have t1 : decide ((j : Int) < (its.length : Int)) = false := decide_eq_false (by omega)
        clear hlt
        go_wp2_with fail
        refine (HCI.out _).mono ?_
        rintro e w' ⟨rfl, rfl⟩
        go_wp2
        go_ret
        exact ⟨by rw [HR.out, HJ2.out, ← HSG.out]; rfl, below_next B2.out hb.out⟩

set_option maxRecDepth 100000 in
set_option maxHeartbeats 4000000 in
theorem refCmp_all (m : Nat) : RCmpUpto m := by
  induction m with
  | zero => intro x _ _ _ _ h; have := size_pos x; omega
  | succ m ih =>
    intro x y w v u hsz hwx hwy hv hu
    have IH := Lib.hid ih
    clear ih
    obtain ⟨k, i, t, its, ks⟩ := x
    obtain ⟨k', i', t', jts, ls⟩ := y
    obtain ⟨A, c, A', c', rfl, _, _, _, h1, h2, hL, h3, h4, hS⟩ := hv.open
    obtain ⟨D, e, D', e', rfl, _, _, _, g1, g2, hM, g3, g4, hT⟩ := hu.open
    rw [VT.size_mk] at hsz
    rw [VT.all_mk, Bool.and_eq_true] at hwx hwy
    by_cases hk : k = k'
    · subst hk
      by_cases hi : i = i'
      · subst hi
        by_cases ht : t = t'
        · subst ht
          have hr : (VT.mk k i t its ks).cmp (.mk k i t jts ls) = cmps (decide (k = 5)) its ks jts ls := by
            rw [VT.cmp_mk]
            simp only [VT.k, VT.i, VT.t, VT.its, VT.ks]
            rw [thn_eq (cmpI_zero.2 rfl), thn_eq (cmpI_zero.2 rfl), thn_eq (cmpS_self t)]
          by_cases k5 : k = 5
          · subst k5
            exact refCmp_loop5 m IH i t its ks A c A' c' jts ls D e D' e' w hL hM hS hT (wf_map hwx.1).2.2 (wf_map hwy.1).2.2 h1 h2 g1 g2 (by omega) hwx.2 hwy.2 (Lib.hid hr)
          · rw [decide_eq_false k5] at hr
            exact refCmp_loopO m IH k (by rw [beq_eq_false_iff_ne]; exact k5) i t its ks A c A' c' jts ls D e D' e' w hL hM h1 h2 g1 g2 (by omega) hwx.2 hwy.2 (Lib.hid hr)
        · have hr : (VT.mk k i t its ks).cmp (.mk k i t' jts ls) = cmpS t t' := by
            rw [VT.cmp_mk]
            simp only [VT.k, VT.i, VT.t, VT.its, VT.ks]
            rw [thn_eq (cmpI_zero.2 rfl), thn_eq (cmpI_zero.2 rfl), thn_ne (fun e => ht (cmpS_zero.1 e))]
          have HR := Lib.hid (hr.trans (sgn_S ht).symm)
          have f1 : (t.toList == t'.toList) = false := by rw [beq_eq_false_iff_ne]; exact fun e => ht (str_inj e)
          have HC := Lib.hid (fun w' => sign_any (Op.bytesLess t.toList t'.toList) true w')
          clear hv hu hL hM hS hT hwx hwy ht hr
          unfold vag
          go_enter Try.func75, Try.ntmps75
          go_wp2_with fail
          refine (HC.out _).mono ?_
          rintro z w' ⟨rfl, rfl⟩
          go_wp2
          go_ret
          exact ⟨by rw [HR.out]; rfl, (below_one _ _).trans (Below.alloc (Below.refl _ _) (by simp) _)⟩
      · have hr : (VT.mk k i t its ks).cmp (.mk k i' t' jts ls) = cmpI i i' := by
          rw [VT.cmp_mk]
          simp only [VT.k, VT.i, VT.t, VT.its, VT.ks]
          rw [thn_eq (cmpI_zero.2 rfl), thn_ne (fun e => hi (cmpI_zero.1 e))]
        have HR := Lib.hid (hr.trans (sgn_I hi).symm)
        have f1 : (i != i') = true := by rw [bne_iff_ne]; exact hi
        have HC := Lib.hid (fun w' => sign_any (decide (i < i')) true w')
        clear hv hu hL hM hS hT hwx hwy hi hr
        unfold vag
        go_enter Try.func75, Try.ntmps75
        go_wp2_with fail
        refine (HC.out _).mono ?_
        rintro z w' ⟨rfl, rfl⟩
        go_wp2
        go_ret
        exact ⟨by rw [HR.out]; rfl, (below_one _ _).trans (Below.alloc (Below.refl _ _) (by simp) _)⟩
    · have HR := Lib.hid ((cmp_ne (i := i) (t := t) (its := its) (ks := ks) (i' := i') (t' := t') (jts := jts) (ls := ls) hk).trans (sgn_I hk).symm)
      have f1 : (k != k') = true := by rw [bne_iff_ne]; exact hk
      have HC := Lib.hid (fun w' => sign_any (decide (k < k')) true w')
      clear hv hu hL hM hS hT hwx hwy hk
      unfold vag
      go_enter Try.func75, Try.ntmps75
      go_wp2_with fail
      refine (HC.out _).mono ?_
      rintro z w' ⟨rfl, rfl⟩
      go_wp2
      go_ret
      exact ⟨by rw [HR.out]; rfl, (below_one _ _).trans (Below.alloc (Below.refl _ _) (by simp) _)⟩

set_option maxHeartbeats 1000000 in
theorem refOrder_any {x y : VT} {v u : Value} {w : World} (hv : Lies w (Lo w) x v) (hu : Lies w (Lo w) y u) : Calls Try.prog 38 #[v, u] w (Gives (.int .i64 (x.ord y)) w) := by
  obtain ⟨o, ho⟩ : ∃ o, o = x.ord y := ⟨_, rfl⟩
  rw [← ho]
  unfold VT.ord at ho
  have HX := Lib.hid (fun (w' : World) (hb : Below w.heap.size w w') => refWf_any (hv.below hb))
  have HY := Lib.hid (fun (w' : World) (hb : Below w.heap.size w w') => refWf_any (hu.below hb))
  have HC := Lib.hid (fun (w' : World) (hb : Below w.heap.size w w') (h1 : x.wf = true) (h2 : y.wf = true) => refCmp_all x.size x y w' v u (Nat.le_refl _) h1 h2 (hv.below hb) (hu.below hb))
  obtain ⟨k, i, t, its, ks⟩ := x
  obtain ⟨k', i', t', jts, ls⟩ := y
  obtain ⟨A, c, A', c', rfl, _, _, _, h1, h2, hL, h3, h4, hS⟩ := hv.open
  obtain ⟨D, e, D', e', rfl, _, _, _, g1, g2, hM, g3, g4, hT⟩ := hu.open
  obtain ⟨w2, hw2⟩ : ∃ w2, w2 = (w.alloc (.cells #[.int .i64 k, .int .i64 i, .string t, .slice A its.length c, .slice A' ks.length c'] 26)).alloc (.cells #[.int .i64 k', .int .i64 i', .string t', .slice D jts.length e, .slice D' ls.length e'] 26) := ⟨_, rfl⟩
  have B2 : Hid (Below w.heap.size w w2) := Lib.hid (by rw [hw2]; exact (below_one _ _).trans (Below.alloc (Below.refl _ _) (by simp) _))
  have S2 : Hid (w.heap.size + 1 < w2.heap.size) := Lib.hid (by rw [hw2]; simp)
  have X1 : Hid (∀ j, w2.cell? ⟨w.heap.size, j, none⟩ = (#[.int .i64 k, .int .i64 i, .string t, .slice A its.length c, .slice A' ks.length c'] : Array Value)[j]?) := Lib.hid (fun j => by
    rw [hw2, World.cell?_alloc_lt _ _ _ (by simp), World.cell?_alloc_at _ _ _ _ rfl])
  have X2 : Hid (∀ j, w2.cell? ⟨w.heap.size + 1, j, none⟩ = (#[.int .i64 k', .int .i64 i', .string t', .slice D jts.length e, .slice D' ls.length e'] : Array Value)[j]?) := Lib.hid (fun j => by
    rw [hw2, World.cell?_alloc_at _ _ _ _ (by simp)])
  have H1 := Lib.hid (HX.out w2 B2.out)
  have HW := Lib.hid hw2
  clear hv hu hL hM hS hT hw2
  generalize (VT.mk k i t its ks).wf = p at *
  generalize (VT.mk k' i' t' jts ls).wf = q at *
  generalize (VT.mk k i t its ks).cmp (.mk k' i' t' jts ls) = z at *
  have O1 : Hid (p = false → o = 0) := Lib.hid (fun h => by rw [ho, h]; rfl)
  have O2 : Hid (q = false → o = 0) := Lib.hid (fun h => by rw [ho, h, Bool.and_false]; rfl)
  have O3 : Hid (p = true → q = true → o = z) := Lib.hid (fun h h' => by rw [ho, h, h']; rfl)
  clear ho
  unfold vag at *
  go_enter Try.func38, Try.ntmps38
  go_wp2_with fail
  rw [← HW.out]
  refine (H1.out).mono ?_
  rintro z' w3 ⟨rfl, hb⟩
  have HB3 := Lib.hid (below_next B2.out hb)
  have a0 := (hb.cell (p := ⟨w.heap.size, 0, none⟩) (by have := S2.out; show w.heap.size < _; omega)).trans (X1.out 0)
  have a1 := (hb.cell (p := ⟨w.heap.size, 1, none⟩) (by have := S2.out; show w.heap.size < _; omega)).trans (X1.out 1)
  have a2 := (hb.cell (p := ⟨w.heap.size, 2, none⟩) (by have := S2.out; show w.heap.size < _; omega)).trans (X1.out 2)
  have a3 := (hb.cell (p := ⟨w.heap.size, 3, none⟩) (by have := S2.out; show w.heap.size < _; omega)).trans (X1.out 3)
  have a4 := (hb.cell (p := ⟨w.heap.size, 4, none⟩) (by have := S2.out; show w.heap.size < _; omega)).trans (X1.out 4)
  have b0 := (hb.cell (p := ⟨w.heap.size + 1, 0, none⟩) S2.out).trans (X2.out 0)
  have b1 := (hb.cell (p := ⟨w.heap.size + 1, 1, none⟩) S2.out).trans (X2.out 1)
  have b2 := (hb.cell (p := ⟨w.heap.size + 1, 2, none⟩) S2.out).trans (X2.out 2)
  have b3 := (hb.cell (p := ⟨w.heap.size + 1, 3, none⟩) S2.out).trans (X2.out 3)
  have b4 := (hb.cell (p := ⟨w.heap.size + 1, 4, none⟩) S2.out).trans (X2.out 4)
  have S3 : Hid (w.heap.size + 1 < w3.heap.size) := Lib.hid (by have := S2.out; have := hb.size; omega)
  clear hb
  cases p with
  | false =>
    have O := Lib.hid (O1.out rfl)
    clear O1 O2 O3
    go_wp2
    go_ret
    exact ⟨by rw [O.out]; rfl, HB3.out⟩
  | true =>
    have H2 := Lib.hid (HY.out w3 HB3.out)
    have O4 := Lib.hid (O3.out rfl)
    have HC2 := Lib.hid (fun w' hb h2 => HC.out w' hb rfl h2)
    clear O1 O3 HC
    go_wp2_with fail
    refine (H2.out).mono ?_
    rintro z' w4 ⟨rfl, hb⟩
    have HB4 := Lib.hid (below_next HB3.out hb)
    have cc := fun j => hb.cell (p := ⟨w.heap.size, j, none⟩) (by have := S3.out; show w.heap.size < _; omega)
    have cd := fun j => hb.cell (p := ⟨w.heap.size + 1, j, none⟩) S3.out
    rw [← cc] at a0 a1 a2 a3 a4
    rw [← cd] at b0 b1 b2 b3 b4
    clear hb cc cd
    cases q with
    | false =>
      have O := Lib.hid (O2.out rfl)
      clear O2 O4
      go_wp2
      go_ret
      exact ⟨by rw [O.out]; rfl, HB4.out⟩
    | true =>
      have H3 := Lib.hid (HC2.out w4 HB4.out rfl)
      have O := Lib.hid (O4.out rfl)
      clear O2 O4
      go_wp2_with fail
      refine (H3.out).mono ?_
      rintro z' w5 ⟨rfl, hb⟩
      have HB5 := Lib.hid (below_next HB4.out hb)
      clear hb
      go_wp2
      go_ret
      exact ⟨by rw [O.out]; rfl, HB5.out⟩
end Go.Proofs.Ytjbjoalinfhahaa
namespace Go.Proofs.Ytjbjoalinfhahaa
open Go.RowKit

set_option maxHeartbeats 1000000 in
theorem few_all (m : Nat) : ∀ (x : VT) (w : World) (v : Value) (n : Int), x.size ≤ m → 0 ≤ n → n ≤ 4611686018427387904 → Lies w (Lo w) x v → Calls Try.prog 56 #[v, .int .i64 n] w (Gives (.int .i64 (x.few n)) w) := by
  induction m with
  | zero => intro x _ _ _ h; have := size_pos x; omega
  | succ m ih =>
    intro x w v n hsz hn0 hn1 hv
    obtain ⟨k, i, t, its, ks⟩ := x
    obtain ⟨A, c, A', c', rfl, _, _, _, hlc, hcm, hL, _, _, _⟩ := hv.open
    rw [VT.size_mk] at hsz
    rw [VT.few_mk]
    have HL := Lib.hid hL
    have IH := Lib.hid ih
    clear hL ih hv
    unfold vag
    go_enter Try.func56, Try.ntmps56
    go_wp2
    obtain ⟨w1, hw1⟩ : ∃ w1, w1 = w.alloc (.cells #[.int .i64 k, .int .i64 i, .string t, .slice A its.length c, .slice A' ks.length c'] 26) := ⟨_, rfl⟩
    have B0 : Hid (Below w.heap.size w w1) := Lib.hid (by rw [hw1]; exact below_one _ _)
    have S1 : Hid (w.heap.size < w1.heap.size) := Lib.hid (by rw [hw1]; simp)
    have C3 : w1.cell? ⟨w.heap.size, 3, none⟩ = some (.slice A its.length c) := by rw [hw1, World.cell?_alloc_at _ _ _ _ rfl]; rfl
    rw [← hw1]
    have HW := Lib.hid hw1
    clear hw1
    go_loopw [1, 5] (fun r s wr => ∃ (j : Nat) (q : Int), j ≤ its.length ∧ s = .int .i64 j ∧ r = .int .i64 q ∧ -1 ≤ q ∧ q ≤ 4611686018427387904 ∧ Hid (q = fews (its.take j) (n - 1)) ∧ Hid (Below w1.heap.size w1 wr)) (fun _ s _ => its.length - (intOf s).toNat)
    case atStart => exact ⟨0, n - 1, by omega, rfl, rfl, by omega, by omega, Lib.hid (by simp [fews]), Lib.hid (Below.refl _ _)⟩
    case round =>
      obtain ⟨j, q, hjn, rfl, rfl, hq0, hq1, hq, hb⟩ := hrel
      have C3' := (hb.out.cell (p := ⟨w.heap.size, 3, none⟩) S1.out).trans C3
      by_cases hlt : j < its.length
      · by_cases hqp : 0 ≤ q
        · have h1 := List.getElem?_eq_getElem (l := its) (i := j) hlt
          obtain ⟨g, o, k', i', t', B, n', c1, B', n1, c2, rfl, hg, e0, e1, e2, e3, e4, hx⟩ := (HL.out).at_ h1
          have hj := fews_take (n := n - 1) h1 (by rw [← hq.out]; exact hqp)
          have hle := size_at h1
          have hb' : Below w.heap.size w wr := below_next B0.out hb.out
          have cc := fun (q : Nat) => hb'.cell (p := ⟨g, q, none⟩) hg
          rw [Nat.zero_add] at e0 e1 e2 e3 e4
          rw [← cc] at e0 e1 e2 e3 e4
          have hc := IH.out (its[j]'hlt) wr _ q (by omega) hqp (by omega) (hx.below hb')
          have hge := VT.few_ge (its[j]'hlt) q hqp
          have hfl := VT.few_le (its[j]'hlt) q
          rw [← hq.out] at hj
          generalize its[j]'hlt = x at *
          generalize x.few q = q' at *
          have HC := Lib.hid hc
          have HJ := Lib.hid hj
          have g1 : decide (0 ≤ q) = true := decide_eq_true hqp
          clear hc hx hb' cc C3 hj h1
          unfold vag at HC
          go_wp2_with fail
          refine (HC.out).mono ?_
          rintro e w' ⟨rfl, hb2⟩
          have HB2 := Lib.hid (below_next hb.out hb2)
          clear hb2
          go_wp2
          go_roundw
          case rel => exact ⟨j + 1, q', by omega, by go_num, rfl, by omega, by omega, Lib.hid HJ.out.symm, HB2⟩
          case measure => simp [intOf]; omega
        · have g1 : decide (0 ≤ q) = false := decide_eq_false hqp
          have HR := Lib.hid (fews_stop (l := its) (j := j) (n := n - 1) (by rw [← hq.out]; omega))
          clear C3
          go_wp2
          go_ret
          exact ⟨by rw [HR.out, ← hq.out]; rfl, below_next B0.out hb.out⟩
      · obtain rfl : j = its.length := by omega
        clear C3
        go_wp2
        go_ret
        exact ⟨by rw [hq.out, List.take_length]; rfl, below_next B0.out hb.out⟩

set_option maxHeartbeats 400000 in
theorem Few_any {x : VT} {v : Value} {w : World} (n : Int) (h0 : 0 ≤ n) (h1 : n ≤ 4611686018427387904) (h : Lies w (Lo w) x v) : Calls Try.prog 11 #[v, .int .i64 n] w (Gives (.bool (decide (0 ≤ x.few n))) w) := by
  have hc := few_all x.size x (w.alloc (.cells v.cells 26)) v n (Nat.le_refl _) h0 h1 (h.below (below_one _ _))
  obtain ⟨k, i, t, its, ks⟩ := x
  obtain ⟨A, c, A', c', rfl, _, _, _, _, _, _, _, _, _⟩ := h.open
  generalize (VT.mk k i t its ks).few n = b at *
  unfold vag Value.cells at hc
  unfold vag
  have HC := Lib.hid hc
  clear hc h
  go_enter Try.func11, Try.ntmps11
  go_wp2_with fail
  refine (HC.out).mono ?_
  rintro e w' ⟨rfl, hb⟩
  have HB := Lib.hid (below_via (Below.refl _ _) hb)
  clear hb
  go_wp2
  go_ret
  exact ⟨rfl, HB.out⟩
end Go.Proofs.Ytjbjoalinfhahaa
