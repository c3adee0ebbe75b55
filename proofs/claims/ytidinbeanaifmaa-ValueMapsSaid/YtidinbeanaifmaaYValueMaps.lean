/-
  ValueMaps returns true for every input, and its arguments read afterwards as they read before: what it leans on.
-/
import Derived.Test.YtidinbeanaifmaaVasc
import Derived.Test.YtidinbeanaifmaaVcp
import Derived.Test.YtidinbeanaifmaaVsm
import Derived.Test.YtidinbeanaifmaaVev
import Derived.Test.YtidinbeanaifmaaVco
import Derived.Test.YtidinbeanaifmaaLawH
import Derived.Test.YtidinbeanaifmaaBytes
import Derived.Test.YtidinbeanaifmaaChecked
import Derived.Laws.IdiomStrings
import Derived.Test.YtidinbeanaifmaaVmp
import Derived.Test.YtidinbeanaifmaaVgt
import Derived.Test.YtidinbeanaifmaaLies
import Derived.ProofKit
import Derived.OpenShut
import Derived.ChangeOld
import Derived.Below
import Derived.SizedLaws
import Derived.ShutString
namespace Go.Proofs.Ytidinbeanaifmaa
open Go.RowKit

set_option maxHeartbeats 1000000 in
theorem few_all (m : Nat) : ∀ (x : VT) (w : World) (v : Value) (n : Int), x.size ≤ m → 0 ≤ n → n ≤ 4611686018427387904 → Lies w (Lo w) x v → Calls Try.prog 56 #[v, .int .i64 n] w (Gives (.int .i64 (x.few n)) w) := by
  induction m with
  | zero => intro x _ _ _ h; have := size_pos x; omega
  | succ m ih =>
    intro x w v n hsz hn0 hn1 hv
    obtain ⟨k, i, t, its, ks⟩ := x
    obtain ⟨A, c, A', c', rfl, _, _, _, hlc, hcm, hL, _, _, _⟩ := hv.open
    rw [VT.size_mk] at hsz
    rw [VT.few_mk]
    have HL := Lib.hid hL
    have IH := Lib.hid ih
    clear hL ih hv
    unfold vag
    go_enter Try.func56, Try.ntmps56
    go_wp2
    obtain ⟨w1, hw1⟩ : ∃ w1, w1 = w.alloc (.cells #[.int .i64 k, .int .i64 i, .string t, .slice A its.length c, .slice A' ks.length c'] 26) := ⟨_, rfl⟩
    have B0 : Hid (Below w.heap.size w w1) := Lib.hid (by rw [hw1]; exact below_one _ _)
    have S1 : Hid (w.heap.size < w1.heap.size) := Lib.hid (by rw [hw1]; simp)
    have C3 : w1.cell? ⟨w.heap.size, 3, none⟩ = some (.slice A its.length c) := by rw [hw1, World.cell?_alloc_at _ _ _ _ rfl]; rfl
    rw [← hw1]
    have HW := Lib.hid hw1
    clear hw1
    go_loopw [1, 5] (fun r s wr => ∃ (j : Nat) (q : Int), j ≤ its.length ∧ s = .int .i64 j ∧ r = .int .i64 q ∧ -1 ≤ q ∧ q ≤ 4611686018427387904 ∧ Hid (q = fews (its.take j) (n - 1)) ∧ Hid (Below w1.heap.size w1 wr)) (fun _ s _ => its.length - (intOf s).toNat)
    case atStart => exact ⟨0, n - 1, by omega, rfl, rfl, by omega, by omega, Lib.hid (by simp [fews]), Lib.hid (Below.refl _ _)⟩
    case round =>
      obtain ⟨j, q, hjn, rfl, rfl, hq0, hq1, hq, hb⟩ := hrel
      have C3' := (hb.out.cell (p := ⟨w.heap.size, 3, none⟩) S1.out).trans C3
      by_cases hlt : j < its.length
      · by_cases hqp : 0 ≤ q
        · have h1 := List.getElem?_eq_getElem (l := its) (i := j) hlt
          obtain ⟨g, o, k', i', t', B, n', c1, B', n1, c2, rfl, hg, e0, e1, e2, e3, e4, hx⟩ := (HL.out).at_ h1
          have hj := fews_take (n := n - 1) h1 (by rw [← hq.out]; exact hqp)
          have hle := size_at h1
          have hb' : Below w.heap.size w wr := below_next B0.out hb.out
          have cc := fun (q : Nat) => hb'.cell (p := ⟨g, q, none⟩) hg
          rw [Nat.zero_add] at e0 e1 e2 e3 e4
          rw [← cc] at e0 e1 e2 e3 e4
          have hc := IH.out (its[j]'hlt) wr _ q (by omega) hqp (by omega) (hx.below hb')
          have hge := VT.few_ge (its[j]'hlt) q hqp
          have hfl := VT.few_le (its[j]'hlt) q
          rw [← hq.out] at hj
          generalize its[j]'hlt = x at *
          generalize x.few q = q' at *
          have HC := Lib.hid hc
          have HJ := Lib.hid hj
          have g1 : decide (0 ≤ q) = true := decide_eq_true hqp
          clear hc hx hb' cc C3 hj h1
          unfold vag at HC
          go_wp2_with fail
          refine (HC.out).mono ?_
          rintro e w' ⟨rfl, hb2⟩
          have HB2 := Lib.hid (below_next hb.out hb2)
          clear hb2
          go_wp2
          go_roundw
          case rel => exact ⟨j + 1, q', by omega, by go_num, rfl, by omega, by omega, Lib.hid HJ.out.symm, HB2⟩
          case measure => simp [intOf]; omega
        · have g1 : decide (0 ≤ q) = false := decide_eq_false hqp
          have HR := Lib.hid (fews_stop (l := its) (j := j) (n := n - 1) (by rw [← hq.out]; omega))
          clear C3
          go_wp2
          go_ret
          exact ⟨by rw [HR.out, ← hq.out]; rfl, below_next B0.out hb.out⟩
      · obtain rfl : j = its.length := by omega
        clear C3
        go_wp2
        go_ret
        exact ⟨by rw [hq.out, List.take_length]; rfl, below_next B0.out hb.out⟩

set_option maxHeartbeats 400000 in
theorem Few_any {x : VT} {v : Value} {w : World} (n : Int) (h0 : 0 ≤ n) (h1 : n ≤ 4611686018427387904) (h : Lies w (Lo w) x v) : Calls Try.prog 11 #[v, .int .i64 n] w (Gives (.bool (decide (0 ≤ x.few n))) w) := by
  have hc := few_all x.size x (w.alloc (.cells v.cells 26)) v n (Nat.le_refl _) h0 h1 (h.below (below_one _ _))
  obtain ⟨k, i, t, its, ks⟩ := x
  obtain ⟨A, c, A', c', rfl, _, _, _, _, _, _, _, _, _⟩ := h.open
  generalize (VT.mk k i t its ks).few n = b at *
  unfold vag Value.cells at hc
  unfold vag
  have HC := Lib.hid hc
  clear hc h
  go_enter Try.func11, Try.ntmps11
  go_wp2_with fail
  refine (HC.out).mono ?_
  rintro e w' ⟨rfl, hb⟩
  have HB := Lib.hid (below_via (Below.refl _ _) hb)
  clear hb
  go_wp2
  go_ret
  exact ⟨rfl, HB.out⟩
end Go.Proofs.Ytidinbeanaifmaa
namespace Go.Proofs.Ytidinbeanaifmaa
open Go.RowKit

/-- what compare is asked of items of at most m nodes -/
def CmpUpto (m : Nat) : Prop := ∀ (x y : VT) (w : World) (v u : Value), x.size ≤ m → x.all okF = true → y.all okF = true → Lies w (Lo w) x v → Lies w (Lo w) y u → Calls Try.prog 74 #[v, u] w (Gives (.int .i64 (x.cmp y)) w)

theorem BelowBy.cell {w : World} {p : Addr} {v : Value} (h : w.cell? p = some v) : ∀ q : BelowBy w, q.val.cell? p = some v := fun q => (q.below.cell (World.block_lt_of_cell? w p h)).trans h
theorem cmps_drop {M : Bool} {xs ys : List VT} {ks ls : List ByteArray} {j : Nat} {x y : VT} (h1 : xs[j]? = some x) (h2 : ys[j]? = some y) :
    cmps M (xs.drop j) (ks.drop j) (ys.drop j) (ls.drop j) = thn (if M then cmpS (ks.getD j ByteArray.empty) (ls.getD j ByteArray.empty) else 0) (thn (x.cmp y) (cmps M (xs.drop (j + 1)) (ks.drop (j + 1)) (ys.drop (j + 1)) (ls.drop (j + 1)))) := by
  obtain ⟨hx, rfl⟩ := List.getElem?_eq_some_iff.1 h1
  obtain ⟨hy, rfl⟩ := List.getElem?_eq_some_iff.1 h2
  rw [List.drop_eq_getElem_cons hx, List.drop_eq_getElem_cons hy, cmps_cons, List.tail_drop, List.tail_drop]
  have e : ∀ l : List ByteArray, (l.drop j).headD ByteArray.empty = l.getD j ByteArray.empty := fun l => by
    rw [List.headD_eq_head?_getD, List.head?_drop, List.getD_eq_getElem?_getD]
  rw [e, e]
theorem cmps_end {M : Bool} {xs ys : List VT} {ks ls : List ByteArray} {j : Nat} (h : j = xs.length ∧ j ≤ ys.length ∨ j = ys.length ∧ j ≤ xs.length) : cmps M (xs.drop j) ks (ys.drop j) ls = cmpI (xs.length : Nat) (ys.length : Nat) := by
  rcases h with ⟨rfl, h⟩ | ⟨rfl, h⟩
  · rw [List.drop_length, cmps_nil, List.length_drop]
    unfold cmpI
    repeat' split <;> omega
  · rw [List.drop_length]
    cases hx : xs.drop ys.length with
    | nil =>
      have := congrArg List.length hx
      rw [List.length_drop, List.length_nil] at this
      rw [cmps_nil]
      unfold cmpI
      repeat' split <;> first | omega | simp at *
    | cons x r =>
      have := congrArg List.length hx
      rw [List.length_drop, List.length_cons] at this
      rw [cmps_out]
      unfold cmpI
      repeat' split <;> omega
theorem thn_ne {c d : Int} (h : c ≠ 0) : thn c d = c := by unfold thn; rw [if_neg h]
theorem thn_eq {c d : Int} (h : c = 0) : thn c d = d := by unfold thn; rw [if_pos h]

set_option maxHeartbeats 4000000 in
set_option linter.unusedVariables false in
theorem cmpItems_4le (m : Nat) (IH : Hid (CmpUpto m)) (i : Int) (t : ByteArray) (its : List VT) (ks : List ByteArray) (A : Option Addr) (c : Nat) (A' : Option Addr) (c' : Nat)
    (i' : Int) (t' : ByteArray) (jts : List VT) (ls : List ByteArray) (D : Option Addr) (e : Nat) (D' : Option Addr) (e' : Nat) (w : World)
    (hL : LiesL w (Lo w) A 0 its) (hM : LiesL w (Lo w) D 0 jts) (h1 : its.length ≤ c) (h2 : c ≤ 9223372036854775807) (h3 : jts.length ≤ e) (h4 : e ≤ 9223372036854775807)
    (hsz : sizes its ≤ m) (hw : alls okF its = true) (hw' : alls okF jts = true)  (hle : its.length ≤ jts.length) :
    Calls Try.prog 97 #[vag 4 i t A its.length c A' ks.length c', vag 4 i' t' D jts.length e D' ls.length e'] w (Gives (.int .i64 (cmps false its ks jts ls)) w) := by
  have HL := Lib.hid hL
  have HM := Lib.hid hM
  have HWF := Lib.hid (And.intro hw hw')
  clear hL hM hw hw'
  obtain ⟨w2, hw2⟩ : ∃ w2, w2 = (w.alloc (.cells #[.int .i64 4, .int .i64 i, .string t, .slice A its.length c, .slice A' ks.length c'] 26)).alloc (.cells #[.int .i64 4, .int .i64 i', .string t', .slice D jts.length e, .slice D' ls.length e'] 26) := ⟨_, rfl⟩
  have B2 : Hid (Below w.heap.size w w2) := Lib.hid (by rw [hw2]; exact (below_one _ _).trans (Below.alloc (Below.refl _ _) (by simp) _))
  have S2 : Hid (w.heap.size + 1 < w2.heap.size) := Lib.hid (by rw [hw2]; simp)
  have X1 : Hid (∀ j, w2.cell? ⟨w.heap.size, j, none⟩ = (#[.int .i64 4, .int .i64 i, .string t, .slice A its.length c, .slice A' ks.length c'] : Array Value)[j]?) := Lib.hid (fun j => by
    rw [hw2, World.cell?_alloc_lt _ _ _ (by simp), World.cell?_alloc_at _ _ _ _ rfl])
  have X2 : Hid (∀ j, w2.cell? ⟨w.heap.size + 1, j, none⟩ = (#[.int .i64 4, .int .i64 i', .string t', .slice D jts.length e, .slice D' ls.length e'] : Array Value)[j]?) := Lib.hid (fun j => by
    rw [hw2, World.cell?_alloc_at _ _ _ _ (by simp)])
  have HW := Lib.hid hw2
  clear hw2
  unfold vag
  go_enter Try.func97, Try.ntmps97
  go_wp2
  rw [← HW.out]
  go_loopw [15, 5, 6, 7] (fun s _ _ _ wr => ∃ j : Nat, j ≤ its.length ∧ s = .int .i64 j ∧ Hid (cmps false its ks jts ls = cmps false (its.drop j) (ks.drop j) (jts.drop j) (ls.drop j)) ∧ Hid (Below w2.heap.size w2 wr)) (fun s _ _ _ _ => its.length - (intOf s).toNat)
  case atStart => exact ⟨0, by omega, rfl, Lib.hid rfl, Lib.hid (Below.refl _ _)⟩
  case round =>
    obtain ⟨j, hjn, rfl, HJ, hb⟩ := hrel
    have b3 := (hb.out.cell (p := ⟨w.heap.size, 3, none⟩) (by have := S2.out; show w.heap.size < _; omega)).trans (X1.out 3)
    have b3' := (hb.out.cell (p := ⟨w.heap.size + 1, 3, none⟩) S2.out).trans (X2.out 3)
    change _ = some (Value.slice A its.length c) at b3
    change _ = some (Value.slice D jts.length e) at b3'
    by_cases hlt : j < its.length
    · have hot : j < jts.length := by omega
      have b0 := (hb.out.cell (p := ⟨w.heap.size, 0, none⟩) (by have := S2.out; show w.heap.size < _; omega)).trans (X1.out 0)
      have h1 := List.getElem?_eq_getElem (l := its) (i := j) (by omega)
      have h2 := List.getElem?_eq_getElem (l := jts) (i := j) (by omega)
      have HB := Lib.hid (below_next B2.out hb.out)
      have hwx := all_at HWF.out.1 h1
      have hwy := all_at HWF.out.2 h2
      obtain ⟨g, o, k1, i1, t1, B, n1, c1, B', n2, c2, hA, hg, e0, e1, e2, e3, e4, hx⟩ := (HL.out).at_ h1
      obtain ⟨g', o', k3, i3, t3, E, n3, c3, E', n4, c4, hD, hg', d0, d1, d2, d3, d4, hy⟩ := (HM.out).at_ h2
      subst hA hD
      have hle2 : (its[j]'(by omega)).size ≤ m := Nat.le_trans (size_at h1) hsz
      have hdr := cmps_drop (M := false) (ks := ks) (ls := ls) h1 h2
      generalize its[j]'(by omega) = x at *
      generalize jts[j]'(by omega) = y at *
      have cc := fun (q : Nat) => HB.out.cell (p := ⟨g, q, none⟩) hg
      have cc' := fun (q : Nat) => HB.out.cell (p := ⟨g', q, none⟩) hg'
      rw [Nat.zero_add] at e0 e1 e2 e3 e4 d0 d1 d2 d3 d4
      rw [← cc] at e0 e1 e2 e3 e4
      rw [← cc'] at d0 d1 d2 d3 d4
      rw [hdr] at HJ
      have HY := Lib.hid (And.intro hx hy)
      have HSZ := Lib.hid hle2
      have HWX := Lib.hid (And.intro hwx hwy)
      clear hx hy hle2 hwx hwy cc cc' hdr h1 h2
      have HJ := Lib.hid (HJ.out.trans (thn_eq rfl))
      have z3 := BelowBy.cell b3
      have z3' := BelowBy.cell b3'
      have q0 := BelowBy.cell e0
      have q1 := BelowBy.cell e1
      have q2 := BelowBy.cell e2
      have q3 := BelowBy.cell e3
      have q4 := BelowBy.cell e4
      have r0 := BelowBy.cell d0
      have r1 := BelowBy.cell d1
      have r2 := BelowBy.cell d2
      have r3 := BelowBy.cell d3
      have r4 := BelowBy.cell d4
      have HCC : Hid (∀ q : BelowBy wr, Calls Try.prog 74 #[vag k1 i1 t1 B n1 c1 B' n2 c2, vag k3 i3 t3 E n3 c3 E' n4 c4] q.val (Gives (.int .i64 (x.cmp y)) q.val)) := Lib.hid (fun q =>
        IH.out x y q.val _ _ HSZ.out HWX.out.1 HWX.out.2 ((HY.out.1.below HB.out).below q.below) ((HY.out.2.below HB.out).below q.below))
      unfold vag at HCC
      clear b3 b3' e0 e1 e2 e3 e4 d0 d1 d2 d3 d4
      go_wp2_with fail
      refine wp_region_gives (by kernel_rfl) (by kernel_rfl) ?_
      repeat (quiet_step ((go_at_call 74; exact gives_by (HCC.out _))))
      refine wpQuiet_nil ?_
      intro _ hw'
      obtain ⟨q, rfl⟩ := hw'
      obtain ⟨wq, hwq⟩ : ∃ wq, wq = q.val := ⟨_, rfl⟩
      have HQ : Hid (Below w2.heap.size w2 wq) := Lib.hid (by rw [hwq]; exact below_next hb.out q.below)
      rw [← hwq]
      clear hwq z3 z3' q0 q1 q2 q3 q4 r0 r1 r2 r3 r4 HCC
      by_cases hcz : x.cmp y = 0
      · rw [hcz]
        have HJ2 := Lib.hid (HJ.out.trans (by exact thn_eq hcz))
        clear hcz
        go_wp2
        go_roundw
        case rel => exact ⟨j + 1, by omega, by go_num, HJ2, HQ⟩
        case measure => simp [intOf]; omega
      · have HJ2 := Lib.hid (HJ.out.trans (by exact thn_ne hcz))
        have g1 : (x.cmp y != 0) = true := by rw [bne_iff_ne]; exact hcz
        clear hcz
        generalize x.cmp y = z at *
        go_wp2
        go_ret
        exact ⟨by rw [HJ2.out]; rfl, below_next B2.out HQ.out⟩
    · obtain rfl : j = its.length := by omega
      have HJ2 := Lib.hid (HJ.out.trans (cmps_end (by omega)))
      have HCI := Lib.hid (cmpInt_any (its.length : Nat) (jts.length : Nat) wr)
      go_wp2_with fail
      refine (HCI.out).mono ?_
      rintro e w' ⟨rfl, rfl⟩
      go_wp2
      go_ret
      exact ⟨by rw [HJ2.out]; rfl, below_next B2.out hb.out⟩

set_option maxHeartbeats 4000000 in
set_option linter.unusedVariables false in
theorem cmpItems_4gt (m : Nat) (IH : Hid (CmpUpto m)) (i : Int) (t : ByteArray) (its : List VT) (ks : List ByteArray) (A : Option Addr) (c : Nat) (A' : Option Addr) (c' : Nat)
    (i' : Int) (t' : ByteArray) (jts : List VT) (ls : List ByteArray) (D : Option Addr) (e : Nat) (D' : Option Addr) (e' : Nat) (w : World)
    (hL : LiesL w (Lo w) A 0 its) (hM : LiesL w (Lo w) D 0 jts) (h1 : its.length ≤ c) (h2 : c ≤ 9223372036854775807) (h3 : jts.length ≤ e) (h4 : e ≤ 9223372036854775807)
    (hsz : sizes its ≤ m) (hw : alls okF its = true) (hw' : alls okF jts = true)  (hle : jts.length < its.length) :
    Calls Try.prog 97 #[vag 4 i t A its.length c A' ks.length c', vag 4 i' t' D jts.length e D' ls.length e'] w (Gives (.int .i64 (cmps false its ks jts ls)) w) := by
  have HL := Lib.hid hL
  have HM := Lib.hid hM
  have HWF := Lib.hid (And.intro hw hw')
  clear hL hM hw hw'
  obtain ⟨w2, hw2⟩ : ∃ w2, w2 = (w.alloc (.cells #[.int .i64 4, .int .i64 i, .string t, .slice A its.length c, .slice A' ks.length c'] 26)).alloc (.cells #[.int .i64 4, .int .i64 i', .string t', .slice D jts.length e, .slice D' ls.length e'] 26) := ⟨_, rfl⟩
  have B2 : Hid (Below w.heap.size w w2) := Lib.hid (by rw [hw2]; exact (below_one _ _).trans (Below.alloc (Below.refl _ _) (by simp) _))
  have S2 : Hid (w.heap.size + 1 < w2.heap.size) := Lib.hid (by rw [hw2]; simp)
  have X1 : Hid (∀ j, w2.cell? ⟨w.heap.size, j, none⟩ = (#[.int .i64 4, .int .i64 i, .string t, .slice A its.length c, .slice A' ks.length c'] : Array Value)[j]?) := Lib.hid (fun j => by
    rw [hw2, World.cell?_alloc_lt _ _ _ (by simp), World.cell?_alloc_at _ _ _ _ rfl])
  have X2 : Hid (∀ j, w2.cell? ⟨w.heap.size + 1, j, none⟩ = (#[.int .i64 4, .int .i64 i', .string t', .slice D jts.length e, .slice D' ls.length e'] : Array Value)[j]?) := Lib.hid (fun j => by
    rw [hw2, World.cell?_alloc_at _ _ _ _ (by simp)])
  have HW := Lib.hid hw2
  clear hw2
  unfold vag
  go_enter Try.func97, Try.ntmps97
  go_wp2
  rw [← HW.out]
  go_loopw [15, 5, 6, 7] (fun s _ _ _ wr => ∃ j : Nat, j ≤ jts.length ∧ s = .int .i64 j ∧ Hid (cmps false its ks jts ls = cmps false (its.drop j) (ks.drop j) (jts.drop j) (ls.drop j)) ∧ Hid (Below w2.heap.size w2 wr)) (fun s _ _ _ _ => jts.length - (intOf s).toNat)
  case atStart => exact ⟨0, by omega, rfl, Lib.hid rfl, Lib.hid (Below.refl _ _)⟩
  case round =>
    obtain ⟨j, hjn, rfl, HJ, hb⟩ := hrel
    have b3 := (hb.out.cell (p := ⟨w.heap.size, 3, none⟩) (by have := S2.out; show w.heap.size < _; omega)).trans (X1.out 3)
    have b3' := (hb.out.cell (p := ⟨w.heap.size + 1, 3, none⟩) S2.out).trans (X2.out 3)
    change _ = some (Value.slice A its.length c) at b3
    change _ = some (Value.slice D jts.length e) at b3'
    by_cases hlt : j < jts.length
    · have hot : j < its.length := by omega
      have b0 := (hb.out.cell (p := ⟨w.heap.size, 0, none⟩) (by have := S2.out; show w.heap.size < _; omega)).trans (X1.out 0)
      have h1 := List.getElem?_eq_getElem (l := its) (i := j) (by omega)
      have h2 := List.getElem?_eq_getElem (l := jts) (i := j) (by omega)
      have HB := Lib.hid (below_next B2.out hb.out)
      have hwx := all_at HWF.out.1 h1
      have hwy := all_at HWF.out.2 h2
      obtain ⟨g, o, k1, i1, t1, B, n1, c1, B', n2, c2, hA, hg, e0, e1, e2, e3, e4, hx⟩ := (HL.out).at_ h1
      obtain ⟨g', o', k3, i3, t3, E, n3, c3, E', n4, c4, hD, hg', d0, d1, d2, d3, d4, hy⟩ := (HM.out).at_ h2
      subst hA hD
      have hle2 : (its[j]'(by omega)).size ≤ m := Nat.le_trans (size_at h1) hsz
      have hdr := cmps_drop (M := false) (ks := ks) (ls := ls) h1 h2
      generalize its[j]'(by omega) = x at *
      generalize jts[j]'(by omega) = y at *
      have cc := fun (q : Nat) => HB.out.cell (p := ⟨g, q, none⟩) hg
      have cc' := fun (q : Nat) => HB.out.cell (p := ⟨g', q, none⟩) hg'
      rw [Nat.zero_add] at e0 e1 e2 e3 e4 d0 d1 d2 d3 d4
      rw [← cc] at e0 e1 e2 e3 e4
      rw [← cc'] at d0 d1 d2 d3 d4
      rw [hdr] at HJ
      have HY := Lib.hid (And.intro hx hy)
      have HSZ := Lib.hid hle2
      have HWX := Lib.hid (And.intro hwx hwy)
      clear hx hy hle2 hwx hwy cc cc' hdr h1 h2
      have HJ := Lib.hid (HJ.out.trans (thn_eq rfl))
      have z3 := BelowBy.cell b3
      have z3' := BelowBy.cell b3'
      have q0 := BelowBy.cell e0
      have q1 := BelowBy.cell e1
      have q2 := BelowBy.cell e2
      have q3 := BelowBy.cell e3
      have q4 := BelowBy.cell e4
      have r0 := BelowBy.cell d0
      have r1 := BelowBy.cell d1
      have r2 := BelowBy.cell d2
      have r3 := BelowBy.cell d3
      have r4 := BelowBy.cell d4
      have HCC : Hid (∀ q : BelowBy wr, Calls Try.prog 74 #[vag k1 i1 t1 B n1 c1 B' n2 c2, vag k3 i3 t3 E n3 c3 E' n4 c4] q.val (Gives (.int .i64 (x.cmp y)) q.val)) := Lib.hid (fun q =>
        IH.out x y q.val _ _ HSZ.out HWX.out.1 HWX.out.2 ((HY.out.1.below HB.out).below q.below) ((HY.out.2.below HB.out).below q.below))
      unfold vag at HCC
      clear b3 b3' e0 e1 e2 e3 e4 d0 d1 d2 d3 d4
      go_wp2_with fail
      refine wp_region_gives (by kernel_rfl) (by kernel_rfl) ?_
      repeat (quiet_step ((go_at_call 74; exact gives_by (HCC.out _))))
      refine wpQuiet_nil ?_
      intro _ hw'
      obtain ⟨q, rfl⟩ := hw'
      obtain ⟨wq, hwq⟩ : ∃ wq, wq = q.val := ⟨_, rfl⟩
      have HQ : Hid (Below w2.heap.size w2 wq) := Lib.hid (by rw [hwq]; exact below_next hb.out q.below)
      rw [← hwq]
      clear hwq z3 z3' q0 q1 q2 q3 q4 r0 r1 r2 r3 r4 HCC
      by_cases hcz : x.cmp y = 0
      · rw [hcz]
        have HJ2 := Lib.hid (HJ.out.trans (by exact thn_eq hcz))
        clear hcz
        go_wp2
        go_roundw
        case rel => exact ⟨j + 1, by omega, by go_num, HJ2, HQ⟩
        case measure => simp [intOf]; omega
      · have HJ2 := Lib.hid (HJ.out.trans (by exact thn_ne hcz))
        have g1 : (x.cmp y != 0) = true := by rw [bne_iff_ne]; exact hcz
        clear hcz
        generalize x.cmp y = z at *
        go_wp2
        go_ret
        exact ⟨by rw [HJ2.out]; rfl, below_next B2.out HQ.out⟩
    · obtain rfl : j = jts.length := by omega
      have HJ2 := Lib.hid (HJ.out.trans (cmps_end (by omega)))
      have HCI := Lib.hid (cmpInt_any (its.length : Nat) (jts.length : Nat) wr)
      go_wp2_with fail
      refine (HCI.out).mono ?_
      rintro e w' ⟨rfl, rfl⟩
      go_wp2
      go_ret
      exact ⟨by rw [HJ2.out]; rfl, below_next B2.out hb.out⟩

set_option maxHeartbeats 4000000 in
set_option linter.unusedVariables false in
theorem cmpItems_5le (m : Nat) (IH : Hid (CmpUpto m)) (i : Int) (t : ByteArray) (its : List VT) (ks : List ByteArray) (A : Option Addr) (c : Nat) (A' : Option Addr) (c' : Nat)
    (i' : Int) (t' : ByteArray) (jts : List VT) (ls : List ByteArray) (D : Option Addr) (e : Nat) (D' : Option Addr) (e' : Nat) (w : World)
    (hL : LiesL w (Lo w) A 0 its) (hM : LiesL w (Lo w) D 0 jts) (hS : LiesS w (Lo w) A' ks) (hT : LiesS w (Lo w) D' ls) (h1 : its.length ≤ c) (h2 : c ≤ 9223372036854775807) (h3 : jts.length ≤ e) (h4 : e ≤ 9223372036854775807)
    (hsz : sizes its ≤ m) (hw : alls okF its = true) (hw' : alls okF jts = true) (hk : ks.length = its.length) (hl : ls.length = jts.length) (hle : its.length ≤ jts.length) :
    Calls Try.prog 97 #[vag 5 i t A its.length c A' ks.length c', vag 5 i' t' D jts.length e D' ls.length e'] w (Gives (.int .i64 (cmps true its ks jts ls)) w) := by
  have HL := Lib.hid hL
  have HM := Lib.hid hM
  have HS := Lib.hid hS
  have HT := Lib.hid hT
  have HWF := Lib.hid (And.intro hw hw')
  clear hL hM hS hT hw hw'
  have HKL := Lib.hid (And.intro hk hl)
  clear hk hl
  obtain ⟨w2, hw2⟩ : ∃ w2, w2 = (w.alloc (.cells #[.int .i64 5, .int .i64 i, .string t, .slice A its.length c, .slice A' ks.length c'] 26)).alloc (.cells #[.int .i64 5, .int .i64 i', .string t', .slice D jts.length e, .slice D' ls.length e'] 26) := ⟨_, rfl⟩
  have B2 : Hid (Below w.heap.size w w2) := Lib.hid (by rw [hw2]; exact (below_one _ _).trans (Below.alloc (Below.refl _ _) (by simp) _))
  have S2 : Hid (w.heap.size + 1 < w2.heap.size) := Lib.hid (by rw [hw2]; simp)
  have X1 : Hid (∀ j, w2.cell? ⟨w.heap.size, j, none⟩ = (#[.int .i64 5, .int .i64 i, .string t, .slice A its.length c, .slice A' ks.length c'] : Array Value)[j]?) := Lib.hid (fun j => by
    rw [hw2, World.cell?_alloc_lt _ _ _ (by simp), World.cell?_alloc_at _ _ _ _ rfl])
  have X2 : Hid (∀ j, w2.cell? ⟨w.heap.size + 1, j, none⟩ = (#[.int .i64 5, .int .i64 i', .string t', .slice D jts.length e, .slice D' ls.length e'] : Array Value)[j]?) := Lib.hid (fun j => by
    rw [hw2, World.cell?_alloc_at _ _ _ _ (by simp)])
  have HW := Lib.hid hw2
  clear hw2
  unfold vag
  go_enter Try.func97, Try.ntmps97
  go_wp2
  rw [← HW.out]
  go_loopw [15, 5, 6, 7] (fun s _ _ _ wr => ∃ j : Nat, j ≤ its.length ∧ s = .int .i64 j ∧ Hid (cmps true its ks jts ls = cmps true (its.drop j) (ks.drop j) (jts.drop j) (ls.drop j)) ∧ Hid (Below w2.heap.size w2 wr)) (fun s _ _ _ _ => its.length - (intOf s).toNat)
  case atStart => exact ⟨0, by omega, rfl, Lib.hid rfl, Lib.hid (Below.refl _ _)⟩
  case round =>
    obtain ⟨j, hjn, rfl, HJ, hb⟩ := hrel
    have b3 := (hb.out.cell (p := ⟨w.heap.size, 3, none⟩) (by have := S2.out; show w.heap.size < _; omega)).trans (X1.out 3)
    have b3' := (hb.out.cell (p := ⟨w.heap.size + 1, 3, none⟩) S2.out).trans (X2.out 3)
    change _ = some (Value.slice A its.length c) at b3
    change _ = some (Value.slice D jts.length e) at b3'
    by_cases hlt : j < its.length
    · have hot : j < jts.length := by omega
      have b0 := (hb.out.cell (p := ⟨w.heap.size, 0, none⟩) (by have := S2.out; show w.heap.size < _; omega)).trans (X1.out 0)
      have h1 := List.getElem?_eq_getElem (l := its) (i := j) (by omega)
      have h2 := List.getElem?_eq_getElem (l := jts) (i := j) (by omega)
      have HB := Lib.hid (below_next B2.out hb.out)
      have hwx := all_at HWF.out.1 h1
      have hwy := all_at HWF.out.2 h2
      obtain ⟨g, o, k1, i1, t1, B, n1, c1, B', n2, c2, hA, hg, e0, e1, e2, e3, e4, hx⟩ := (HL.out).at_ h1
      obtain ⟨g', o', k3, i3, t3, E, n3, c3, E', n4, c4, hD, hg', d0, d1, d2, d3, d4, hy⟩ := (HM.out).at_ h2
      subst hA hD
      have hle2 : (its[j]'(by omega)).size ≤ m := Nat.le_trans (size_at h1) hsz
      have hdr := cmps_drop (M := true) (ks := ks) (ls := ls) h1 h2
      generalize its[j]'(by omega) = x at *
      generalize jts[j]'(by omega) = y at *
      have cc := fun (q : Nat) => HB.out.cell (p := ⟨g, q, none⟩) hg
      have cc' := fun (q : Nat) => HB.out.cell (p := ⟨g', q, none⟩) hg'
      rw [Nat.zero_add] at e0 e1 e2 e3 e4 d0 d1 d2 d3 d4
      rw [← cc] at e0 e1 e2 e3 e4
      rw [← cc'] at d0 d1 d2 d3 d4
      rw [hdr] at HJ
      have HY := Lib.hid (And.intro hx hy)
      have HSZ := Lib.hid hle2
      have HWX := Lib.hid (And.intro hwx hwy)
      clear hx hy hle2 hwx hwy cc cc' hdr h1 h2
      have hkj : ks[j]? = some (ks.getD j ByteArray.empty) := by rw [List.getD_eq_getElem?_getD, List.getElem?_eq_getElem (by have := HKL.out.1; omega)]; rfl
      have hlj : ls[j]? = some (ls.getD j ByteArray.empty) := by rw [List.getD_eq_getElem?_getD, List.getElem?_eq_getElem (by have := HKL.out.2; omega)]; rfl
      have hjk : j < ks.length := by have := HKL.out.1; omega
      have hjl : j < ls.length := by have := HKL.out.2; omega
      obtain ⟨_, gk, ok, hA', hgk, f0⟩ := HS.out j _ hkj
      obtain ⟨_, gl, ol, hD', hgl, f1⟩ := HT.out j _ hlj
      subst hA' hD'
      have b4 := (hb.out.cell (p := ⟨w.heap.size, 4, none⟩) (by have := S2.out; show w.heap.size < _; omega)).trans (X1.out 4)
      have b4' := (hb.out.cell (p := ⟨w.heap.size + 1, 4, none⟩) S2.out).trans (X2.out 4)
      change _ = some (Value.slice (some ⟨gk, ok, none⟩) ks.length c') at b4
      change _ = some (Value.slice (some ⟨gl, ol, none⟩) ls.length e') at b4'
      rw [← HB.out.cell (p := ⟨gk, ok + j, none⟩) hgk] at f0
      rw [← HB.out.cell (p := ⟨gl, ol + j, none⟩) hgl] at f1
      clear hkj hlj
      generalize ks.getD j ByteArray.empty = s1 at *
      generalize ls.getD j ByteArray.empty = s2 at *
      have HCS := Lib.hid (fun w' => cmpStr_any s1 s2 w')
      go_wp2_with fail
      go_quiet ((go_at_call 59; exact Calls.quiet_of_same ((HCS.out _).mono fun _ _ h => ⟨h.1, h.2.symm⟩)))
      by_cases hcs : cmpS s1 s2 = 0
      · rw [hcs]
        have HJ := Lib.hid (HJ.out.trans (thn_eq hcs))
        clear hcs
        obtain ⟨W, hW⟩ : ∃ W, W = wr.drewN nq := ⟨_, rfl⟩
        have HB2 : Hid (Below w2.heap.size w2 W) := Lib.hid (by rw [hW]; exact below_drew hb.out _)
        have HBW : Hid (Below w.heap.size w W) := Lib.hid (below_next B2.out HB2.out)
        have ec : ∀ p, W.cell? p = wr.cell? p := fun p => by rw [hW]; exact World.cell?_drewN _ _ _
        rw [← ec] at b3 b3' e0 e1 e2 e3 e4 d0 d1 d2 d3 d4
        rw [← hW]
        clear hW ec b0 b4 b4' f0 f1 HCS
        have z3 := BelowBy.cell b3
        have z3' := BelowBy.cell b3'
        have q0 := BelowBy.cell e0
        have q1 := BelowBy.cell e1
        have q2 := BelowBy.cell e2
        have q3 := BelowBy.cell e3
        have q4 := BelowBy.cell e4
        have r0 := BelowBy.cell d0
        have r1 := BelowBy.cell d1
        have r2 := BelowBy.cell d2
        have r3 := BelowBy.cell d3
        have r4 := BelowBy.cell d4
        have HCC : Hid (∀ q : BelowBy W, Calls Try.prog 74 #[vag k1 i1 t1 B n1 c1 B' n2 c2, vag k3 i3 t3 E n3 c3 E' n4 c4] q.val (Gives (.int .i64 (x.cmp y)) q.val)) := Lib.hid (fun q =>
          IH.out x y q.val _ _ HSZ.out HWX.out.1 HWX.out.2 ((HY.out.1.below HBW.out).below q.below) ((HY.out.2.below HBW.out).below q.below))
        unfold vag at HCC
        have HBW2 := Lib.hid HB2.out
        clear b3 b3' e0 e1 e2 e3 e4 d0 d1 d2 d3 d4
        go_wp2_with fail
        refine wp_region_gives (by kernel_rfl) (by kernel_rfl) ?_
        repeat (quiet_step ((go_at_call 74; exact gives_by (HCC.out _))))
        refine wpQuiet_nil ?_
        intro _ hw'
        obtain ⟨q, rfl⟩ := hw'
        obtain ⟨wq, hwq⟩ : ∃ wq, wq = q.val := ⟨_, rfl⟩
        have HQ : Hid (Below w2.heap.size w2 wq) := Lib.hid (by rw [hwq]; exact below_next HB2.out q.below)
        rw [← hwq]
        clear hwq z3 z3' q0 q1 q2 q3 q4 r0 r1 r2 r3 r4 HCC
        by_cases hcz : x.cmp y = 0
        · rw [hcz]
          have HJ2 := Lib.hid (HJ.out.trans (by exact thn_eq hcz))
          clear hcz
          go_wp2
          go_roundw
          case rel => exact ⟨j + 1, by omega, by go_num, HJ2, HQ⟩
          case measure => simp [intOf]; omega
        · have HJ2 := Lib.hid (HJ.out.trans (by exact thn_ne hcz))
          have g1 : (x.cmp y != 0) = true := by rw [bne_iff_ne]; exact hcz
          clear hcz
          generalize x.cmp y = z at *
          go_wp2
          go_ret
          exact ⟨by rw [HJ2.out]; rfl, below_next B2.out HQ.out⟩
      · have HJ := Lib.hid (HJ.out.trans (thn_ne hcs))
        have g1 : (cmpS s1 s2 != 0) = true := by rw [bne_iff_ne]; exact hcs
        clear hcs HCS
        generalize cmpS s1 s2 = z at *
        go_wp2
        go_ret
        exact ⟨by rw [HJ.out]; rfl, below_next B2.out (below_drew hb.out _)⟩
    · obtain rfl : j = its.length := by omega
      have HJ2 := Lib.hid (HJ.out.trans (cmps_end (by omega)))
      have HCI := Lib.hid (cmpInt_any (its.length : Nat) (jts.length : Nat) wr)
      go_wp2_with fail
      refine (HCI.out).mono ?_
      rintro e w' ⟨rfl, rfl⟩
      go_wp2
      go_ret
      exact ⟨by rw [HJ2.out]; rfl, below_next B2.out hb.out⟩

set_option maxHeartbeats 4000000 in
set_option linter.unusedVariables false in
theorem cmpItems_5gt (m : Nat) (IH : Hid (CmpUpto m)) (i : Int) (t : ByteArray) (its : List VT) (ks : List ByteArray) (A : Option Addr) (c : Nat) (A' : Option Addr) (c' : Nat)
    (i' : Int) (t' : ByteArray) (jts : List VT) (ls : List ByteArray) (D : Option Addr) (e : Nat) (D' : Option Addr) (e' : Nat) (w : World)
    (hL : LiesL w (Lo w) A 0 its) (hM : LiesL w (Lo w) D 0 jts) (hS : LiesS w (Lo w) A' ks) (hT : LiesS w (Lo w) D' ls) (h1 : its.length ≤ c) (h2 : c ≤ 9223372036854775807) (h3 : jts.length ≤ e) (h4 : e ≤ 9223372036854775807)
    (hsz : sizes its ≤ m) (hw : alls okF its = true) (hw' : alls okF jts = true) (hk : ks.length = its.length) (hl : ls.length = jts.length) (hle : jts.length < its.length) :
    Calls Try.prog 97 #[vag 5 i t A its.length c A' ks.length c', vag 5 i' t' D jts.length e D' ls.length e'] w (Gives (.int .i64 (cmps true its ks jts ls)) w) := by
  have HL := Lib.hid hL
  have HM := Lib.hid hM
  have HS := Lib.hid hS
  have HT := Lib.hid hT
  have HWF := Lib.hid (And.intro hw hw')
  clear hL hM hS hT hw hw'
  have HKL := Lib.hid (And.intro hk hl)
  clear hk hl
  obtain ⟨w2, hw2⟩ : ∃ w2, w2 = (w.alloc (.cells #[.int .i64 5, .int .i64 i, .string t, .slice A its.length c, .slice A' ks.length c'] 26)).alloc (.cells #[.int .i64 5, .int .i64 i', .string t', .slice D jts.length e, .slice D' ls.length e'] 26) := ⟨_, rfl⟩
  have B2 : Hid (Below w.heap.size w w2) := Lib.hid (by rw [hw2]; exact (below_one _ _).trans (Below.alloc (Below.refl _ _) (by simp) _))
  have S2 : Hid (w.heap.size + 1 < w2.heap.size) := Lib.hid (by rw [hw2]; simp)
  have X1 : Hid (∀ j, w2.cell? ⟨w.heap.size, j, none⟩ = (#[.int .i64 5, .int .i64 i, .string t, .slice A its.length c, .slice A' ks.length c'] : Array Value)[j]?) := Lib.hid (fun j => by
    rw [hw2, World.cell?_alloc_lt _ _ _ (by simp), World.cell?_alloc_at _ _ _ _ rfl])
  have X2 : Hid (∀ j, w2.cell? ⟨w.heap.size + 1, j, none⟩ = (#[.int .i64 5, .int .i64 i', .string t', .slice D jts.length e, .slice D' ls.length e'] : Array Value)[j]?) := Lib.hid (fun j => by
    rw [hw2, World.cell?_alloc_at _ _ _ _ (by simp)])
  have HW := Lib.hid hw2
  clear hw2
  unfold vag
  go_enter Try.func97, Try.ntmps97
  go_wp2
  rw [← HW.out]
  go_loopw [15, 5, 6, 7] (fun s _ _ _ wr => ∃ j : Nat, j ≤ jts.length ∧ s = .int .i64 j ∧ Hid (cmps true its ks jts ls = cmps true (its.drop j) (ks.drop j) (jts.drop j) (ls.drop j)) ∧ Hid (Below w2.heap.size w2 wr)) (fun s _ _ _ _ => jts.length - (intOf s).toNat)
  case atStart => exact ⟨0, by omega, rfl, Lib.hid rfl, Lib.hid (Below.refl _ _)⟩
  case round =>
    obtain ⟨j, hjn, rfl, HJ, hb⟩ := hrel
    have b3 := (hb.out.cell (p := ⟨w.heap.size, 3, none⟩) (by have := S2.out; show w.heap.size < _; omega)).trans (X1.out 3)
    have b3' := (hb.out.cell (p := ⟨w.heap.size + 1, 3, none⟩) S2.out).trans (X2.out 3)
    change _ = some (Value.slice A its.length c) at b3
    change _ = some (Value.slice D jts.length e) at b3'
    by_cases hlt : j < jts.length
    · have hot : j < its.length := by omega
      have b0 := (hb.out.cell (p := ⟨w.heap.size, 0, none⟩) (by have := S2.out; show w.heap.size < _; omega)).trans (X1.out 0)
      have h1 := List.getElem?_eq_getElem (l := its) (i := j) (by omega)
      have h2 := List.getElem?_eq_getElem (l := jts) (i := j) (by omega)
      have HB := Lib.hid (below_next B2.out hb.out)
      have hwx := all_at HWF.out.1 h1
      have hwy := all_at HWF.out.2 h2
      obtain ⟨g, o, k1, i1, t1, B, n1, c1, B', n2, c2, hA, hg, e0, e1, e2, e3, e4, hx⟩ := (HL.out).at_ h1
      obtain ⟨g', o', k3, i3, t3, E, n3, c3, E', n4, c4, hD, hg', d0, d1, d2, d3, d4, hy⟩ := (HM.out).at_ h2
      subst hA hD
      have hle2 : (its[j]'(by omega)).size ≤ m := Nat.le_trans (size_at h1) hsz
      have hdr := cmps_drop (M := true) (ks := ks) (ls := ls) h1 h2
      generalize its[j]'(by omega) = x at *
      generalize jts[j]'(by omega) = y at *
      have cc := fun (q : Nat) => HB.out.cell (p := ⟨g, q, none⟩) hg
      have cc' := fun (q : Nat) => HB.out.cell (p := ⟨g', q, none⟩) hg'
      rw [Nat.zero_add] at e0 e1 e2 e3 e4 d0 d1 d2 d3 d4
      rw [← cc] at e0 e1 e2 e3 e4
      rw [← cc'] at d0 d1 d2 d3 d4
      rw [hdr] at HJ
      have HY := Lib.hid (And.intro hx hy)
      have HSZ := Lib.hid hle2
      have HWX := Lib.hid (And.intro hwx hwy)
      clear hx hy hle2 hwx hwy cc cc' hdr h1 h2
      have hkj : ks[j]? = some (ks.getD j ByteArray.empty) := by rw [List.getD_eq_getElem?_getD, List.getElem?_eq_getElem (by have := HKL.out.1; omega)]; rfl
      have hlj : ls[j]? = some (ls.getD j ByteArray.empty) := by rw [List.getD_eq_getElem?_getD, List.getElem?_eq_getElem (by have := HKL.out.2; omega)]; rfl
      have hjk : j < ks.length := by have := HKL.out.1; omega
      have hjl : j < ls.length := by have := HKL.out.2; omega
      obtain ⟨_, gk, ok, hA', hgk, f0⟩ := HS.out j _ hkj
      obtain ⟨_, gl, ol, hD', hgl, f1⟩ := HT.out j _ hlj
      subst hA' hD'
      have b4 := (hb.out.cell (p := ⟨w.heap.size, 4, none⟩) (by have := S2.out; show w.heap.size < _; omega)).trans (X1.out 4)
      have b4' := (hb.out.cell (p := ⟨w.heap.size + 1, 4, none⟩) S2.out).trans (X2.out 4)
      change _ = some (Value.slice (some ⟨gk, ok, none⟩) ks.length c') at b4
      change _ = some (Value.slice (some ⟨gl, ol, none⟩) ls.length e') at b4'
      rw [← HB.out.cell (p := ⟨gk, ok + j, none⟩) hgk] at f0
      rw [← HB.out.cell (p := ⟨gl, ol + j, none⟩) hgl] at f1
      clear hkj hlj
      generalize ks.getD j ByteArray.empty = s1 at *
      generalize ls.getD j ByteArray.empty = s2 at *
      have HCS := Lib.hid (fun w' => cmpStr_any s1 s2 w')
      go_wp2_with fail
      go_quiet ((go_at_call 59; exact Calls.quiet_of_same ((HCS.out _).mono fun _ _ h => ⟨h.1, h.2.symm⟩)))
      by_cases hcs : cmpS s1 s2 = 0
      · rw [hcs]
        have HJ := Lib.hid (HJ.out.trans (thn_eq hcs))
        clear hcs
        obtain ⟨W, hW⟩ : ∃ W, W = wr.drewN nq := ⟨_, rfl⟩
        have HB2 : Hid (Below w2.heap.size w2 W) := Lib.hid (by rw [hW]; exact below_drew hb.out _)
        have HBW : Hid (Below w.heap.size w W) := Lib.hid (below_next B2.out HB2.out)
        have ec : ∀ p, W.cell? p = wr.cell? p := fun p => by rw [hW]; exact World.cell?_drewN _ _ _
        rw [← ec] at b3 b3' e0 e1 e2 e3 e4 d0 d1 d2 d3 d4
        rw [← hW]
        clear hW ec b0 b4 b4' f0 f1 HCS
        have z3 := BelowBy.cell b3
        have z3' := BelowBy.cell b3'
        have q0 := BelowBy.cell e0
        have q1 := BelowBy.cell e1
        have q2 := BelowBy.cell e2
        have q3 := BelowBy.cell e3
        have q4 := BelowBy.cell e4
        have r0 := BelowBy.cell d0
        have r1 := BelowBy.cell d1
        have r2 := BelowBy.cell d2
        have r3 := BelowBy.cell d3
        have r4 := BelowBy.cell d4
        have HCC : Hid (∀ q : BelowBy W, Calls Try.prog 74 #[vag k1 i1 t1 B n1 c1 B' n2 c2, vag k3 i3 t3 E n3 c3 E' n4 c4] q.val (Gives (.int .i64 (x.cmp y)) q.val)) := Lib.hid (fun q =>
          IH.out x y q.val _ _ HSZ.out HWX.out.1 HWX.out.2 ((HY.out.1.below HBW.out).below q.below) ((HY.out.2.below HBW.out).below q.below))
        unfold vag at HCC
        have HBW2 := Lib.hid HB2.out
        clear b3 b3' e0 e1 e2 e3 e4 d0 d1 d2 d3 d4
        go_wp2_with fail
        refine wp_region_gives (by kernel_rfl) (by kernel_rfl) ?_
        repeat (quiet_step ((go_at_call 74; exact gives_by (HCC.out _))))
        refine wpQuiet_nil ?_
        intro _ hw'
        obtain ⟨q, rfl⟩ := hw'
        obtain ⟨wq, hwq⟩ : ∃ wq, wq = q.val := ⟨_, rfl⟩
        have HQ : Hid (Below w2.heap.size w2 wq) := Lib.hid (by rw [hwq]; exact below_next HB2.out q.below)
        rw [← hwq]
        clear hwq z3 z3' q0 q1 q2 q3 q4 r0 r1 r2 r3 r4 HCC
        by_cases hcz : x.cmp y = 0
        · rw [hcz]
          have HJ2 := Lib.hid (HJ.out.trans (by exact thn_eq hcz))
          clear hcz
          go_wp2
          go_roundw
          case rel => exact ⟨j + 1, by omega, by go_num, HJ2, HQ⟩
          case measure => simp [intOf]; omega
        · have HJ2 := Lib.hid (HJ.out.trans (by exact thn_ne hcz))
          have g1 : (x.cmp y != 0) = true := by rw [bne_iff_ne]; exact hcz
          clear hcz
          generalize x.cmp y = z at *
          go_wp2
          go_ret
          exact ⟨by rw [HJ2.out]; rfl, below_next B2.out HQ.out⟩
      · have HJ := Lib.hid (HJ.out.trans (thn_ne hcs))
        have g1 : (cmpS s1 s2 != 0) = true := by rw [bne_iff_ne]; exact hcs
        clear hcs HCS
        generalize cmpS s1 s2 = z at *
        go_wp2
        go_ret
        exact ⟨by rw [HJ.out]; rfl, below_next B2.out (below_drew hb.out _)⟩
    · obtain rfl : j = jts.length := by omega
      have HJ2 := Lib.hid (HJ.out.trans (cmps_end (by omega)))
      have HCI := Lib.hid (cmpInt_any (its.length : Nat) (jts.length : Nat) wr)
      go_wp2_with fail
      refine (HCI.out).mono ?_
      rintro e w' ⟨rfl, rfl⟩
      go_wp2
      go_ret
      exact ⟨by rw [HJ2.out]; rfl, below_next B2.out hb.out⟩
end Go.Proofs.Ytidinbeanaifmaa
namespace Go.Proofs.Ytidinbeanaifmaa
open Go.RowKit

set_option maxHeartbeats 1000000 in
theorem eqFunc_of (m : Nat) (IH : Hid (∀ (x y : VT) (w : World) (v u : Value), x.size ≤ m → Lies w (Lo w) x v → Lies w (Lo w) y u → Calls Try.prog 32 #[v, u] w (Gives (.bool (eqB x y)) w)))
    (A : Option Addr) (c : Nat) (its : List VT) (A' : Option Addr) (c' : Nat) (jts : List VT) (w : World) (hL : LiesL w (Lo w) A 0 its) (hL' : LiesL w (Lo w) A' 0 jts) (hlc : its.length ≤ c) (hcm : c ≤ 9223372036854775807) (hsz : sizes its ≤ m) :
    Calls Try.prog 73 #[.slice A its.length c, .slice A' jts.length c', .func (.func 32) #[] #[]] w (Gives (.bool (eqB its jts)) w) := by
  have HL := Lib.hid hL
  have HL' := Lib.hid hL'
  clear hL hL'
  by_cases hlen : its.length = jts.length
  · have t0 : (((its.length : Nat) : Int) != ((jts.length : Nat) : Int)) = false := by rw [bne_eq_false_iff_eq]; omega
    have HLN := Lib.hid hlen
    clear hlen
    go_enter Try.func73, Try.ntmps73
    go_wp2_with fail
    go_loopw [17, 7, 8, 9] (fun t _ _ _ wr => ∃ j : Nat, j ≤ its.length ∧ t = .int .i64 j ∧ Hid (its.take j = jts.take j) ∧ Hid (Below w.heap.size w wr)) (fun t _ _ _ _ => its.length - (intOf t).toNat)
    case atStart => exact ⟨0, by omega, rfl, Lib.hid rfl, Lib.hid (Below.refl _ _)⟩
    case round =>
      obtain ⟨j, hjn, rfl, hr, hb⟩ := hrel
      by_cases hlt : j < its.length
      · have h1 := List.getElem?_eq_getElem (l := its) (i := j) hlt
        have h2 := List.getElem?_eq_getElem (l := jts) (i := j) (by have := HLN.out; omega)
        have hjl : j < jts.length := by have := HLN.out; omega
        obtain ⟨g, o, k', i', t', B, n', c1, B', n1, c2, rfl, hg, e0, e1, e2, e3, e4, hx⟩ := (HL.out).at_ h1
        obtain ⟨g', o', k'', i'', t'', D, n'', c3, D', n2, c4, rfl, hg', d0, d1, d2, d3, d4, hy⟩ := (HL'.out).at_ h2
        have hle := size_at h1
        have hyes := fun h => take_same h1 h2 hr.out h
        have hno := fun h => at_same h1 h2 h
        have cc := fun (q : Nat) => hb.out.cell (p := ⟨g, q, none⟩) hg
        have cc' := fun (q : Nat) => hb.out.cell (p := ⟨g', q, none⟩) hg'
        rw [Nat.zero_add] at e0 e1 e2 e3 e4 d0 d1 d2 d3 d4
        rw [← cc] at e0 e1 e2 e3 e4
        rw [← cc'] at d0 d1 d2 d3 d4
        generalize its[j]'hlt = x at *
        generalize jts[j]'(by have := HLN.out; omega) = y at *
        unfold vag at hx hy
        have hb1 : Below w.heap.size w ((wr.alloc (.cells #[.int .i64 k', .int .i64 i', .string t', .slice B n' c1, .slice B' n1 c2] 26)).alloc (.cells #[.int .i64 k'', .int .i64 i'', .string t'', .slice D n'' c3, .slice D' n2 c4] 26)) :=
          (hb.out.alloc hb.out.size _).alloc (by have := hb.out.size; simp; omega) _
        have hc := IH.out x y _ _ _ (by omega) (hx.below hb1) (hy.below hb1)
        have HC := Lib.hid hc
        have HY := Lib.hid hyes
        have HNN := Lib.hid hno
        have HB := Lib.hid hb1
        have dd := fun (q : Nat) => Below.cell (below_one wr (.cells #[.int .i64 k', .int .i64 i', .string t', .slice B n' c1, .slice B' n1 c2] 26)) (p := ⟨g', q, none⟩) (Nat.lt_of_lt_of_le hg' hb.out.size)
        rw [← dd] at d0 d1 d2 d3 d4
        clear hc hx hy cc cc' hyes hno hb1 h1 h2 dd
        go_wp2_with fail
        refine (HC.out).mono ?_
        rintro e w' ⟨rfl, hb2⟩
        have HB2 := Lib.hid (below_next HB.out hb2)
        clear hb2
        by_cases hxy : x = y
        · have HR := Lib.hid (HY.out hxy)
          rw [eqB_true hxy]
          clear hxy
          go_wp2
          go_roundw
          case rel => exact ⟨j + 1, by omega, by go_num, HR, HB2⟩
          case measure => simp [intOf]; omega
        · have HR := Lib.hid (eqB_false (HNN.out hxy))
          rw [eqB_false hxy]
          clear hxy
          go_wp2
          go_ret
          exact ⟨ret_bool HR.out.symm, HB2.out⟩
      · have HR : Hid (eqB its jts = true) := Lib.hid (eqB_true (by
          have := hr.out
          rwa [show j = its.length by omega, List.take_length, HLN.out, List.take_length] at this))
        go_wp2
        go_ret
        exact ⟨ret_bool HR.out.symm, hb.out⟩
  · have t0 : (((its.length : Nat) : Int) != ((jts.length : Nat) : Int)) = true := by rw [bne_iff_ne]; omega
    have HR := Lib.hid (eqB_false (fun e : its = jts => hlen (by rw [e])))
    clear hlen
    go_enter Try.func73, Try.ntmps73
    go_wp2_with fail
    go_ret
    exact ⟨ret_bool HR.out.symm, Below.refl _ _⟩

set_option maxHeartbeats 1000000 in
theorem valSame_all (m : Nat) : ∀ (x y : VT) (w : World) (v u : Value), x.size ≤ m → Lies w (Lo w) x v → Lies w (Lo w) y u → Calls Try.prog 32 #[v, u] w (Gives (.bool (eqB x y)) w) := by
  induction m with
  | zero => intro x _ _ _ _ h; have := size_pos x; omega
  | succ m ih =>
    intro x y w v u hsz hv hu
    have IH := Lib.hid ih
    clear ih
    obtain ⟨k, i, t, its, ks⟩ := x
    obtain ⟨k', i', t', jts, ls⟩ := y
    obtain ⟨A, c, A', c', rfl, _, _, _, h1, h2, hL, h3, h4, hS⟩ := hv.open
    obtain ⟨D, e, D', e', rfl, _, _, _, _, _, hM, _, _, hT⟩ := hu.open
    rw [VT.size_mk] at hsz
    obtain ⟨w2, hw2⟩ : ∃ w2, w2 = (w.alloc (.cells #[.int .i64 k, .int .i64 i, .string t, .slice A its.length c, .slice A' ks.length c'] 26)).alloc (.cells #[.int .i64 k', .int .i64 i', .string t', .slice D jts.length e, .slice D' ls.length e'] 26) := ⟨_, rfl⟩
    have B2 : Hid (Below w.heap.size w w2) := Lib.hid (by rw [hw2]; exact (below_one _ _).trans (Below.alloc (Below.refl _ _) (by simp) _))
    have S2 : Hid (w.heap.size + 1 < w2.heap.size) := Lib.hid (by rw [hw2]; simp)
    have X1 : Hid (∀ j, w2.cell? ⟨w.heap.size, j, none⟩ = (#[.int .i64 k, .int .i64 i, .string t, .slice A its.length c, .slice A' ks.length c'] : Array Value)[j]?) := Lib.hid (fun j => by
      rw [hw2, World.cell?_alloc_lt _ _ _ (by simp), World.cell?_alloc_at _ _ _ _ rfl])
    have X2 : Hid (∀ j, w2.cell? ⟨w.heap.size + 1, j, none⟩ = (#[.int .i64 k', .int .i64 i', .string t', .slice D jts.length e, .slice D' ls.length e'] : Array Value)[j]?) := Lib.hid (fun j => by
      rw [hw2, World.cell?_alloc_at _ _ _ _ (by simp)])
    have HK := Lib.hid (eqStrs_any A' c' ks D' e' ls w2 (hS.below B2.out) (hT.below B2.out) h3 h4)
    have HI := Lib.hid (fun (w3 : World) (hb : Below w.heap.size w w3) => eqFunc_of m IH A c its D e jts w3 (hL.below hb) (hM.below hb) h1 h2 (by omega))
    clear hv hu hL hM hS hT
    by_cases t1 : k = k'
    · by_cases t2 : i = i'
      · by_cases t3 : t = t'
        · subst t1 t2 t3
          unfold vag
          go_enter Try.func32, Try.ntmps32
          go_wp2_with fail
          rw [← hw2]
          have HW := Lib.hid hw2
          clear hw2
          refine (HK.out).mono ?_
          rintro x w3 ⟨rfl, hb⟩
          by_cases t4 : ks = ls
          · have T4 := Lib.hid t4
            rw [eqB_true t4]
            clear t4
            have HB := Lib.hid (below_next B2.out hb)
            have c1 := (hb.cell (p := ⟨w.heap.size, 3, none⟩) (by have := S2.out; show w.heap.size < _; omega)).trans (X1.out 3)
            have c2 := (hb.cell (p := ⟨w.heap.size + 1, 3, none⟩) S2.out).trans (X2.out 3)
            have HC := Lib.hid (HI.out w3 HB.out)
            clear hb
            go_wp2_with fail
            refine (HC.out).mono ?_
            rintro x w4 ⟨rfl, hb⟩
            have HB2 := Lib.hid (below_next HB.out hb)
            clear hb
            by_cases t5 : its = jts
            · have HR : Hid (eqB (VT.mk k i t its ks) (VT.mk k i t jts ls) = true) := Lib.hid (eqB_true (by rw [T4.out, t5]))
              rw [eqB_true t5]
              clear t5
              go_wp2
              go_ret
              exact ⟨ret_bool HR.out.symm, HB2.out⟩
            · have HR : Hid (eqB (VT.mk k i t its ks) (VT.mk k i t jts ls) = false) := Lib.hid (eqB_false (fun h => t5 (by injection h)))
              rw [eqB_false t5]
              clear t5
              go_wp2
              go_ret
              exact ⟨ret_bool HR.out.symm, HB2.out⟩
          · have HR : Hid (eqB (VT.mk k i t its ks) (VT.mk k i t jts ls) = false) := Lib.hid (eqB_false (fun h => t4 (by injection h)))
            rw [eqB_false t4]
            clear t4
            have HB := Lib.hid (below_next B2.out hb)
            clear hb
            go_wp2
            go_ret
            exact ⟨ret_bool HR.out.symm, HB.out⟩
        · subst t1 t2
          have f3 : (t.toList == t'.toList) = false := by rw [beq_eq_false_iff_ne]; exact fun e => t3 (str_inj e)
          have HR : Hid (eqB (VT.mk k i t its ks) (VT.mk k i t' jts ls) = false) := Lib.hid (eqB_false (fun h => t3 (by injection h)))
          have HW := Lib.hid hw2
          clear t3 hw2
          unfold vag
          go_enter Try.func32, Try.ntmps32
          go_wp2
          go_ret
          exact ⟨ret_bool HR.out.symm, by rw [← HW.out]; exact B2.out⟩
      · subst t1
        have f2 : (i != i') = true := by rw [bne_iff_ne]; exact t2
        have HR : Hid (eqB (VT.mk k i t its ks) (VT.mk k i' t' jts ls) = false) := Lib.hid (eqB_false (fun h => t2 (by injection h)))
        have HW := Lib.hid hw2
        clear t2 hw2
        unfold vag
        go_enter Try.func32, Try.ntmps32
        go_wp2
        go_ret
        exact ⟨ret_bool HR.out.symm, by rw [← HW.out]; exact B2.out⟩
    · have f1 : (k != k') = true := by rw [bne_iff_ne]; exact t1
      have HR : Hid (eqB (VT.mk k i t its ks) (VT.mk k' i' t' jts ls) = false) := Lib.hid (eqB_false (fun h => t1 (by injection h)))
      have HW := Lib.hid hw2
      clear t1 hw2
      unfold vag
      go_enter Try.func32, Try.ntmps32
      go_wp2
      go_ret
      exact ⟨ret_bool HR.out.symm, by rw [← HW.out]; exact B2.out⟩
end Go.Proofs.Ytidinbeanaifmaa
namespace Go.Proofs.Ytidinbeanaifmaa
open Go.RowKit

def RSameUpto (m : Nat) : Prop := ∀ (x y : VT) (w : World) (v u : Value), x.size ≤ m → Lies w (Lo w) x v → Lies w (Lo w) y u → Calls Try.prog 15 #[v, u] w (Gives (.bool (eqB x y)) w)

set_option maxRecDepth 100000 in
set_option maxHeartbeats 8000000 in
set_option linter.unusedVariables false in
theorem refSame_loop (m : Nat) (IH : Hid (RSameUpto m)) (k i : Int) (t : ByteArray) (its : List VT) (ks : List ByteArray) (A : Option Addr) (c : Nat) (A' : Option Addr) (c' : Nat) (jts : List VT) (ls : List ByteArray) (D : Option Addr) (e : Nat) (D' : Option Addr) (e' : Nat) (w : World)
    (hL : LiesL w (Lo w) A 0 its) (hM : LiesL w (Lo w) D 0 jts) (hS : LiesS w (Lo w) A' ks) (hT : LiesS w (Lo w) D' ls) (h1 : its.length ≤ c) (h2 : c ≤ 9223372036854775807) (h5 : ks.length ≤ c') (h6 : c' ≤ 9223372036854775807)
    (hsz : sizes its ≤ m) (hlen : its.length = jts.length) (hkl : ks.length = ls.length) :
    Calls Try.prog 15 #[vag k i t A its.length c A' ks.length c', vag k i t D jts.length e D' ls.length e'] w (Gives (.bool (eqB (VT.mk k i t its ks) (VT.mk k i t jts ls))) w) := by
  have HL := Lib.hid hL
  have HM := Lib.hid hM
  have HS := Lib.hid hS
  have HT := Lib.hid hT
  obtain ⟨n, hn⟩ : ∃ n, n = its.length := ⟨_, rfl⟩
  obtain ⟨nk, hnk⟩ : ∃ nk, nk = ks.length := ⟨_, rfl⟩
  have HN := Lib.hid (And.intro hn (hn.trans hlen))
  have HK := Lib.hid (And.intro hnk (hnk.trans hkl))
  obtain ⟨w2, hw2⟩ : ∃ w2, w2 = (w.alloc (.cells #[.int .i64 k, .int .i64 i, .string t, .slice A n c, .slice A' nk c'] 26)).alloc (.cells #[.int .i64 k, .int .i64 i, .string t, .slice D n e, .slice D' nk e'] 26) := ⟨_, rfl⟩
  have B2 : Hid (Below w.heap.size w w2) := Lib.hid (by rw [hw2]; exact (below_one _ _).trans (Below.alloc (Below.refl _ _) (by simp) _))
  have S2 : Hid (w.heap.size + 1 < w2.heap.size) := Lib.hid (by rw [hw2]; simp)
  have X1 : Hid (∀ j, w2.cell? ⟨w.heap.size, j, none⟩ = (#[.int .i64 k, .int .i64 i, .string t, .slice A n c, .slice A' nk c'] : Array Value)[j]?) := Lib.hid (fun j => by
    rw [hw2, World.cell?_alloc_lt _ _ _ (by simp), World.cell?_alloc_at _ _ _ _ rfl])
  have X2 : Hid (∀ j, w2.cell? ⟨w.heap.size + 1, j, none⟩ = (#[.int .i64 k, .int .i64 i, .string t, .slice D n e, .slice D' nk e'] : Array Value)[j]?) := Lib.hid (fun j => by
    rw [hw2, World.cell?_alloc_at _ _ _ _ (by simp)])
  have EY : Hid (ks = ls → its = jts → eqB (VT.mk k i t its ks) (VT.mk k i t jts ls) = true) := Lib.hid (fun h h' => eqB_true (by rw [h, h']))
  have E1 : Hid (ks ≠ ls → eqB (VT.mk k i t its ks) (VT.mk k i t jts ls) = false) := Lib.hid (fun h => eqB_false (fun q => h (by injection q)))
  have E2 : Hid (its ≠ jts → eqB (VT.mk k i t its ks) (VT.mk k i t jts ls) = false) := Lib.hid (fun h => eqB_false (fun q => h (by injection q)))
  have HW := Lib.hid hw2
  rw [← hnk, ← hn, ← HN.out.2, ← HK.out.2]
  rw [← hn] at h1
  rw [← hnk] at h5
  clear hL hM hS hT hw2 hn hnk hlen hkl
  unfold vag
  go_enter Try.func15, Try.ntmps15
  go_wp2
  rw [← HW.out]
  go_loopw [5] (fun s wr => ∃ j : Nat, j ≤ nk ∧ s = .int .i64 j ∧ Hid (ks.take j = ls.take j) ∧ Hid (Below w2.heap.size w2 wr)) (fun s _ => nk - (intOf s).toNat)
  case atStart => exact ⟨0, by omega, rfl, Lib.hid rfl, Lib.hid (Below.refl _ _)⟩
  case round =>
    obtain ⟨j, hjn, rfl, hr, hb⟩ := hrel
    have b4 := (hb.out.cell (p := ⟨w.heap.size, 4, none⟩) (by have := S2.out; show w.heap.size < _; omega)).trans (X1.out 4)
    have b4' := (hb.out.cell (p := ⟨w.heap.size + 1, 4, none⟩) S2.out).trans (X2.out 4)
    change _ = some (Value.slice A' nk c') at b4
    change _ = some (Value.slice D' nk e') at b4'
    by_cases hlt : j < nk
    · have hj1 : j < ks.length := by have := HK.out.1; omega
      have hj2 : j < ls.length := by have := HK.out.2; omega
      have g1 : ks[j]? = some (ks.getD j ByteArray.empty) := by rw [List.getD_eq_getElem?_getD, List.getElem?_eq_getElem hj1]; rfl
      have g2 : ls[j]? = some (ls.getD j ByteArray.empty) := by rw [List.getD_eq_getElem?_getD, List.getElem?_eq_getElem hj2]; rfl
      obtain ⟨_, g, o, rfl, hg, f0⟩ := HS.out j _ g1
      obtain ⟨_, g', o', rfl, hg', f1⟩ := HT.out j _ g2
      have HB := Lib.hid (below_next B2.out hb.out)
      rw [← HB.out.cell (p := ⟨g, o + j, none⟩) hg] at f0
      rw [← HB.out.cell (p := ⟨g', o' + j, none⟩) hg'] at f1
      have hy := fun h => take_same g1 g2 hr.out h
      have hno := fun h => at_same g1 g2 h
      generalize ks.getD j ByteArray.empty = s at *
      generalize ls.getD j ByteArray.empty = s' at *
      have HY := Lib.hid hy
      have HNN := Lib.hid hno
      clear hy hno g1 g2
      by_cases hst : s = s'
      · have HR := Lib.hid (HY.out hst)
        subst hst
        go_wp2_with fail
        go_quiet (fail)
        have HB2 := Lib.hid (below_drew hb.out nq)
        go_wp2
        go_roundw
        case rel => exact ⟨j + 1, by omega, by go_num, HR, HB2⟩
        case measure => simp [intOf]; omega
      · have HR := Lib.hid (E1.out (HNN.out hst))
        have t1 : (s.toList == s'.toList) = false := by rw [beq_eq_false_iff_ne]; exact fun q => hst (str_inj q)
        clear hst
        go_wp2_with fail
        go_quiet (fail)
        go_wp2
        go_ret
        exact ⟨ret_bool HR.out.symm, below_next B2.out (below_drew hb.out nq)⟩
    · obtain rfl : j = nk := by omega
      have HKS : Hid (ks = ls) := Lib.hid (by
        have := hr.out
        rwa [HK.out.1, List.take_length, ← HK.out.1, HK.out.2, List.take_length] at this)
      go_wp2
      obtain ⟨w6, hw6⟩ : ∃ w6, w6 = wr := ⟨_, rfl⟩
      have HB6 : Hid (Below w2.heap.size w2 w6) := Lib.hid (by rw [hw6]; exact hb.out)
      rw [← hw6]
      clear b4 b4'
      clear hw6 hb hr
      go_loopw [6] (fun s wr => ∃ j : Nat, j ≤ n ∧ s = .int .i64 j ∧ Hid (its.take j = jts.take j) ∧ Hid (Below w2.heap.size w2 wr)) (fun s _ => n - (intOf s).toNat)
      case atStart => exact ⟨0, by omega, rfl, Lib.hid rfl, HB6⟩
      case round =>
        obtain ⟨j, hjn, rfl, hr, hb⟩ := hrel
        have b3 := (hb.out.cell (p := ⟨w.heap.size, 3, none⟩) (by have := S2.out; show w.heap.size < _; omega)).trans (X1.out 3)
        have b3' := (hb.out.cell (p := ⟨w.heap.size + 1, 3, none⟩) S2.out).trans (X2.out 3)
        change _ = some (Value.slice A n c) at b3
        change _ = some (Value.slice D n e) at b3'
        by_cases hlt : j < n
        · have g1 := List.getElem?_eq_getElem (l := its) (i := j) (by have := HN.out.1; omega)
          have g2 := List.getElem?_eq_getElem (l := jts) (i := j) (by have := HN.out.2; omega)
          obtain ⟨g, o, k1, i1, t1, B, n1, c1, B', n2, c2, rfl, hg, e0, e1, e2, e3, e4, hx⟩ := (HL.out).at_ g1
          obtain ⟨g', o', k3, i3, t3, E, n3, c3, E', n4, c4, rfl, hg', d0, d1, d2, d3, d4, hy⟩ := (HM.out).at_ g2
          have hle := size_at g1
          have HB := Lib.hid (below_next B2.out hb.out)
          have hyes := fun h => take_same g1 g2 hr.out h
          have hno := fun h => at_same g1 g2 h
          generalize its[j]'(by have := HN.out.1; omega) = x at *
          generalize jts[j]'(by have := HN.out.2; omega) = y at *
          have cc := fun (q : Nat) => HB.out.cell (p := ⟨g, q, none⟩) hg
          have cc' := fun (q : Nat) => HB.out.cell (p := ⟨g', q, none⟩) hg'
          rw [Nat.zero_add] at e0 e1 e2 e3 e4 d0 d1 d2 d3 d4
          rw [← cc] at e0 e1 e2 e3 e4
          rw [← cc'] at d0 d1 d2 d3 d4
          have HCC : Hid (∀ q : BelowBy wr, Calls Try.prog 15 #[vag k1 i1 t1 B n1 c1 B' n2 c2, vag k3 i3 t3 E n3 c3 E' n4 c4] q.val (Gives (.bool (eqB x y)) q.val)) := Lib.hid (fun q =>
            IH.out x y q.val _ _ (by omega) ((hx.below HB.out).below q.below) ((hy.below HB.out).below q.below))
          unfold vag at HCC
          have HY := Lib.hid hyes
          have HNN := Lib.hid hno
          have z3 := BelowBy.cell b3
          have z3' := BelowBy.cell b3'
          have q0 := BelowBy.cell e0
          have q1 := BelowBy.cell e1
          have q2 := BelowBy.cell e2
          have q3 := BelowBy.cell e3
          have q4 := BelowBy.cell e4
          have r0 := BelowBy.cell d0
          have r1 := BelowBy.cell d1
          have r2 := BelowBy.cell d2
          have r3 := BelowBy.cell d3
          have r4 := BelowBy.cell d4
          clear hx hy cc cc' hyes hno g1 g2 hle e0 e1 e2 e3 e4 d0 d1 d2 d3 d4
          go_wp2_with fail
          refine wp_region_gives (by kernel_rfl) (by kernel_rfl) ?_
          repeat (quiet_step ((go_at_call 15; exact gives_by (HCC.out _))))
          refine wpQuiet_nil ?_
          intro _ hw'
          obtain ⟨q, rfl⟩ := hw'
          obtain ⟨wq, hwq⟩ : ∃ wq, wq = q.val := ⟨_, rfl⟩
          have HQ : Hid (Below w2.heap.size w2 wq) := Lib.hid (by rw [hwq]; exact below_next hb.out q.below)
          rw [← hwq]
          clear hwq z3 z3' q0 q1 q2 q3 q4 r0 r1 r2 r3 r4 HCC b3 b3'
          by_cases hxy : x = y
          · have HR := Lib.hid (HY.out hxy)
            rw [eqB_true hxy]
            clear hxy
            go_wp2
            go_roundw
            case rel => exact ⟨j + 1, by omega, by go_num, HR, HQ⟩
            case measure => simp [intOf]; omega
          · have HR := Lib.hid (E2.out (HNN.out hxy))
            rw [eqB_false hxy]
            clear hxy
            go_wp2
            go_ret
            exact ⟨ret_bool HR.out.symm, below_next B2.out HQ.out⟩
        · have HR := Lib.hid (EY.out HKS.out (by
            have := hr.out
            rwa [show j = n by omega, HN.out.1, List.take_length, ← HN.out.1, HN.out.2, List.take_length] at this))
          go_wp2
          go_ret
          exact ⟨ret_bool HR.out.symm, below_next B2.out hb.out⟩

set_option maxRecDepth 100000 in
set_option maxHeartbeats 4000000 in
theorem refSame_all (m : Nat) : RSameUpto m := by
  induction m with
  | zero => intro x _ _ _ _ h; have := size_pos x; omega
  | succ m ih =>
    intro x y w v u hsz hv hu
    have IH := Lib.hid ih
    clear ih
    obtain ⟨k, i, t, its, ks⟩ := x
    obtain ⟨k', i', t', jts, ls⟩ := y
    obtain ⟨A, c, A', c', rfl, _, _, _, h1, h2, hL, h3, h4, hS⟩ := hv.open
    obtain ⟨D, e, D', e', rfl, _, _, _, _, _, hM, _, _, hT⟩ := hu.open
    rw [VT.size_mk] at hsz
    have BB : Hid (∀ (o o' : Obj), Below w.heap.size w ((w.alloc o).alloc o')) := Lib.hid (fun o o' => (below_one _ _).trans (Below.alloc (Below.refl _ _) (by simp) _))
    by_cases q1 : k = k'
    · subst q1
      by_cases q2 : i = i'
      · subst q2
        by_cases q3 : t = t'
        · subst q3
          by_cases q4 : its.length = jts.length
          · by_cases q5 : ks.length = ls.length
            · exact refSame_loop m IH k i t its ks A c A' c' jts ls D e D' e' w hL hM hS hT h1 h2 h3 h4 (by omega) q4 q5
            · have HR : Hid (eqB (VT.mk k i t its ks) (VT.mk k i t jts ls) = false) := Lib.hid (eqB_false (fun q => q5 (by injection q; simp [*])))
              have f4 : (((its.length : Nat) : Int) != ((jts.length : Nat) : Int)) = false := by rw [bne_eq_false_iff_eq]; omega
              have f5 : (((ks.length : Nat) : Int) != ((ls.length : Nat) : Int)) = true := by rw [bne_iff_ne]; omega
              clear hv hu hL hM hS hT q4 q5
              unfold vag
              go_enter Try.func15, Try.ntmps15
              go_wp2
              go_ret
              exact ⟨ret_bool HR.out.symm, BB.out _ _⟩
          · have HR : Hid (eqB (VT.mk k i t its ks) (VT.mk k i t jts ls) = false) := Lib.hid (eqB_false (fun q => q4 (by injection q; simp [*])))
            have f4 : (((its.length : Nat) : Int) != ((jts.length : Nat) : Int)) = true := by rw [bne_iff_ne]; omega
            clear hv hu hL hM hS hT q4
            unfold vag
            go_enter Try.func15, Try.ntmps15
            go_wp2
            go_ret
            exact ⟨ret_bool HR.out.symm, BB.out _ _⟩
        · have HR : Hid (eqB (VT.mk k i t its ks) (VT.mk k i t' jts ls) = false) := Lib.hid (eqB_false (fun q => q3 (by injection q)))
          have f3 : (t.toList == t'.toList) = false := by rw [beq_eq_false_iff_ne]; exact fun q => q3 (str_inj q)
          clear hv hu hL hM hS hT q3
          unfold vag
          go_enter Try.func15, Try.ntmps15
          go_wp2
          go_ret
          exact ⟨ret_bool HR.out.symm, BB.out _ _⟩
      · have HR : Hid (eqB (VT.mk k i t its ks) (VT.mk k i' t' jts ls) = false) := Lib.hid (eqB_false (fun q => q2 (by injection q)))
        have f2 : (i != i') = true := by rw [bne_iff_ne]; exact q2
        clear hv hu hL hM hS hT q2
        unfold vag
        go_enter Try.func15, Try.ntmps15
        go_wp2
        go_ret
        exact ⟨ret_bool HR.out.symm, BB.out _ _⟩
    · have HR : Hid (eqB (VT.mk k i t its ks) (VT.mk k' i' t' jts ls) = false) := Lib.hid (eqB_false (fun q => q1 (by injection q)))
      have f1 : (k != k') = true := by rw [bne_iff_ne]; exact q1
      clear hv hu hL hM hS hT q1
      unfold vag
      go_enter Try.func15, Try.ntmps15
      go_wp2
      go_ret
      exact ⟨ret_bool HR.out.symm, BB.out _ _⟩
theorem refSame_any {x y : VT} {v u : Value} {w : World} (h : Lies w (Lo w) x v) (h' : Lies w (Lo w) y u) : Calls Try.prog 15 #[v, u] w (Gives (.bool (eqB x y)) w) := refSame_all x.size x y w v u (Nat.le_refl _) h h'
end Go.Proofs.Ytidinbeanaifmaa
namespace Go.Proofs.Ytidinbeanaifmaa
open Go.RowKit

theorem thn_r0 (c : Int) : thn c 0 = c := by unfold thn; split <;> omega
theorem size0 {a b : ByteArray} (h : a.size = 0) (k : b.size = 0) : a = b := by
  cases a with | mk a => cases b with | mk b =>
  have h1 : a = #[] := Array.eq_empty_of_size_eq_zero h
  have h2 : b = #[] := Array.eq_empty_of_size_eq_zero k
  rw [h1, h2]
theorem len0 {α : Type} {l : List α} (h : l.length = 0) : l = [] := List.eq_nil_of_length_eq_zero h

section
variable {k k' i i' : Int} {t t' : ByteArray} {its jts : List VT} {ks ls : List ByteArray}
theorem wf_kind (h : okF (.mk k i t its ks) = true) : 0 ≤ k ∧ k ≤ 6 := by
  by_cases hk : 0 ≤ k ∧ k ≤ 6
  · exact hk
  · unfold okF VT.k at h
    simp only [show ¬ k = 0 from by omega, show ¬ k = 1 from by omega, show ¬ k = 2 from by omega, show ¬ k = 3 from by omega, show ¬ k = 4 from by omega, show ¬ k = 5 from by omega, show ¬ k = 6 from by omega, if_false] at h
    cases h
theorem wf_int (h : okF (.mk k i t its ks) = true) (hk : k = 0 ∨ k = 1 ∨ k = 2 ∨ k = 6) : t.size = 0 ∧ its = [] := by
  rcases hk with rfl | rfl | rfl | rfl
  · rw [okF_0] at h; simp only [Bool.and_eq_true, decide_eq_true_eq] at h; exact ⟨h.2.1, len0 h.2.2.1⟩
  · rw [okF_1] at h; simp only [Bool.and_eq_true, decide_eq_true_eq] at h; exact ⟨h.2.1, len0 h.2.2.1⟩
  · rw [okF_2] at h; simp only [Bool.and_eq_true, decide_eq_true_eq] at h; exact ⟨h.1, len0 h.2.1⟩
  · rw [okF_6] at h; simp only [Bool.and_eq_true, decide_eq_true_eq] at h; exact ⟨h.2.1, len0 h.2.2.1⟩
theorem wf_text (h : okF (.mk 3 i t its ks) = true) : i = 0 ∧ its = [] := by
  rw [okF_3] at h; simp only [Bool.and_eq_true, decide_eq_true_eq] at h; exact ⟨h.1, len0 h.2.1⟩
theorem wf_list (h : okF (.mk 4 i t its ks) = true) : i = 0 ∧ t.size = 0 := by
  rw [okF_4] at h; simp only [Bool.and_eq_true, decide_eq_true_eq] at h; exact ⟨h.1, h.2.1⟩
theorem wf_map (h : okF (.mk 5 i t its ks) = true) : i = 0 ∧ t.size = 0 ∧ ks.length = its.length := by
  rw [okF_5] at h; simp only [Bool.and_eq_true, decide_eq_true_eq] at h; exact ⟨h.1, h.2.1, h.2.2.1⟩
theorem cmp_ne (h : k ≠ k') : (VT.mk k i t its ks).cmp (.mk k' i' t' jts ls) = cmpI k k' := by
  rw [VT.cmp_mk]; exact thn_ne (fun e => h (cmpI_zero.1 e))
theorem cmp_int (hx : t.size = 0 ∧ its = []) (hy : t'.size = 0 ∧ jts = []) : (VT.mk k i t its ks).cmp (.mk k i' t' jts ls) = cmpI i i' := by
  rw [VT.cmp_mk]
  simp only [VT.k, VT.i, VT.t, VT.its, VT.ks]
  rw [hx.2, hy.2, cmps_nil, thn_eq (cmpI_zero.2 rfl), thn_eq (c := cmpS t t') (cmpS_zero.2 (size0 hx.1 hy.1))]
  exact thn_r0 _
theorem cmp_text (hx : i = 0 ∧ its = []) (hy : i' = 0 ∧ jts = []) : (VT.mk k i t its ks).cmp (.mk k i' t' jts ls) = cmpS t t' := by
  rw [VT.cmp_mk]
  simp only [VT.k, VT.i, VT.t, VT.its, VT.ks]
  rw [hx.2, hy.2, hx.1, hy.1, cmps_nil, thn_eq (cmpI_zero.2 rfl), thn_eq (cmpI_zero.2 rfl)]
  exact thn_r0 _
theorem cmp_row (hx : i = 0 ∧ t.size = 0) (hy : i' = 0 ∧ t'.size = 0) : (VT.mk k i t its ks).cmp (.mk k i' t' jts ls) = cmps (decide (k = 5)) its ks jts ls := by
  rw [VT.cmp_mk]
  simp only [VT.k, VT.i, VT.t, VT.its, VT.ks]
  rw [hx.1, hy.1, thn_eq (cmpI_zero.2 rfl), thn_eq (cmpI_zero.2 rfl), thn_eq (c := cmpS t t') (cmpS_zero.2 (size0 hx.2 hy.2))]
end

set_option maxHeartbeats 4000000 in
theorem valCmp_all (m : Nat) : CmpUpto m := by
  induction m with
  | zero => intro x _ _ _ _ h; have := size_pos x; omega
  | succ m ih =>
    intro x y w v u hsz hwx hwy hv hu
    have IH := Lib.hid ih
    clear ih
    obtain ⟨k, i, t, its, ks⟩ := x
    obtain ⟨k', i', t', jts, ls⟩ := y
    obtain ⟨A, c, A', c', rfl, _, _, _, h1, h2, hL, h3, h4, hS⟩ := hv.open
    obtain ⟨D, e, D', e', rfl, _, _, _, g1, g2, hM, g3, g4, hT⟩ := hu.open
    rw [VT.size_mk] at hsz
    rw [VT.all_mk, Bool.and_eq_true] at hwx hwy
    obtain ⟨w2, hw2⟩ : ∃ w2, w2 = (w.alloc (.cells #[.int .i64 k, .int .i64 i, .string t, .slice A its.length c, .slice A' ks.length c'] 26)).alloc (.cells #[.int .i64 k', .int .i64 i', .string t', .slice D jts.length e, .slice D' ls.length e'] 26) := ⟨_, rfl⟩
    have B2 : Hid (Below w.heap.size w w2) := Lib.hid (by rw [hw2]; exact (below_one _ _).trans (Below.alloc (Below.refl _ _) (by simp) _))
    have HCK := Lib.hid (cmpInt_any k k' w2)
    by_cases hk : k = k'
    · subst hk
      by_cases k3 : k = 3
      · subst k3
        have HR := Lib.hid (cmp_text (k := 3) (ks := ks) (ls := ls) (t := t) (t' := t') (wf_text hwx.1) (wf_text hwy.1))
        have HC := Lib.hid (cmpStr_any t t' w2)
        have HZ := Lib.hid (show cmpI 3 3 = 0 from cmpI_zero.2 rfl)
        have HW := Lib.hid hw2
        clear hv hu hL hM hS hT hwx hwy hw2
        unfold vag
        go_enter Try.func74, Try.ntmps74
        go_wp2_with fail
        rw [← HW.out]
        refine (HCK.out).mono ?_
        rintro z w' ⟨rfl, rfl⟩
        rw [HZ.out, HW.out]
        go_wp2_with fail
        rw [← HW.out]
        refine (HC.out).mono ?_
        rintro z w' ⟨rfl, rfl⟩
        go_wp2
        go_ret
        exact ⟨by rw [HR.out]; rfl, B2.out⟩
      · by_cases k45 : k = 4 ∨ k = 5
        · have hLb := hL.below B2.out
          have hMb := hM.below B2.out
          have hSb := hS.below B2.out
          have hTb := hT.below B2.out
          have HZ := Lib.hid (show cmpI k k = 0 from cmpI_zero.2 rfl)
          have HR : Hid ((VT.mk k i t its ks).cmp (.mk k i' t' jts ls) = cmps (decide (k = 5)) its ks jts ls) := by
            rcases k45 with rfl | rfl
            · exact Lib.hid (cmp_row (wf_list hwx.1) (wf_list hwy.1))
            · exact Lib.hid (cmp_row ⟨(wf_map hwx.1).1, (wf_map hwx.1).2.1⟩ ⟨(wf_map hwy.1).1, (wf_map hwy.1).2.1⟩)
          have HC : Hid (Calls Try.prog 97 #[vag k i t A its.length c A' ks.length c', vag k i' t' D jts.length e D' ls.length e'] w2 (Gives (.int .i64 (cmps (decide (k = 5)) its ks jts ls)) w2)) := by
            rcases k45 with rfl | rfl
            · by_cases hle : its.length ≤ jts.length
              · exact Lib.hid (cmpItems_4le m IH i t its ks A c A' c' i' t' jts ls D e D' e' w2 hLb hMb h1 h2 g1 g2 (by omega) hwx.2 hwy.2 hle)
              · exact Lib.hid (cmpItems_4gt m IH i t its ks A c A' c' i' t' jts ls D e D' e' w2 hLb hMb h1 h2 g1 g2 (by omega) hwx.2 hwy.2 (by omega))
            · by_cases hle : its.length ≤ jts.length
              · exact Lib.hid (cmpItems_5le m IH i t its ks A c A' c' i' t' jts ls D e D' e' w2 hLb hMb hSb hTb h1 h2 g1 g2 (by omega) hwx.2 hwy.2 (wf_map hwx.1).2.2 (wf_map hwy.1).2.2 hle)
              · exact Lib.hid (cmpItems_5gt m IH i t its ks A c A' c' i' t' jts ls D e D' e' w2 hLb hMb hSb hTb h1 h2 g1 g2 (by omega) hwx.2 hwy.2 (wf_map hwx.1).2.2 (wf_map hwy.1).2.2 (by omega))
          have f3 : (k == 3) = false := by rw [beq_eq_false_iff_ne]; exact k3
          have HW := Lib.hid hw2
          unfold vag at HC
          generalize cmps (decide (k = 5)) its ks jts ls = z at *
          rcases k45 with rfl | rfl
          · clear hv hu hL hM hS hT hwx hwy hw2 hLb hMb hSb hTb k3 f3
            unfold vag
            go_enter Try.func74, Try.ntmps74
            go_wp2_with fail
            rw [← HW.out]
            refine (HCK.out).mono ?_
            rintro z w' ⟨rfl, rfl⟩
            rw [HZ.out, HW.out]
            go_wp2_with fail
            rw [← HW.out]
            refine (HC.out).mono ?_
            rintro z w' ⟨rfl, hb⟩
            have HB := Lib.hid (below_next B2.out hb)
            clear hb
            go_wp2
            go_ret
            exact ⟨by rw [HR.out]; rfl, HB.out⟩
          · clear hv hu hL hM hS hT hwx hwy hw2 hLb hMb hSb hTb k3 f3
            unfold vag
            go_enter Try.func74, Try.ntmps74
            go_wp2_with fail
            rw [← HW.out]
            refine (HCK.out).mono ?_
            rintro z w' ⟨rfl, rfl⟩
            rw [HZ.out, HW.out]
            go_wp2_with fail
            rw [← HW.out]
            refine (HC.out).mono ?_
            rintro z w' ⟨rfl, hb⟩
            have HB := Lib.hid (below_next B2.out hb)
            clear hb
            go_wp2
            go_ret
            exact ⟨by rw [HR.out]; rfl, HB.out⟩
        · have hk6 := wf_kind hwx.1
          have hk4 : k = 0 ∨ k = 1 ∨ k = 2 ∨ k = 6 := by omega
          have HR := Lib.hid (cmp_int (k := k) (ks := ks) (ls := ls) (i := i) (i' := i') (wf_int hwx.1 hk4) (wf_int hwy.1 hk4))
          have HC := Lib.hid (cmpInt_any i i' w2)
          have HZ := Lib.hid (show cmpI k k = 0 from cmpI_zero.2 rfl)
          have f3 : (k == 3) = false := by rw [beq_eq_false_iff_ne]; omega
          have f4 : (k == 4) = false := by rw [beq_eq_false_iff_ne]; omega
          have f5 : (k == 5) = false := by rw [beq_eq_false_iff_ne]; omega
          have HW := Lib.hid hw2
          clear hv hu hL hM hS hT hwx hwy hw2 k3 k45 hk6 hk4
          unfold vag
          go_enter Try.func74, Try.ntmps74
          go_wp2_with fail
          rw [← HW.out]
          refine (HCK.out).mono ?_
          rintro z w' ⟨rfl, rfl⟩
          rw [HZ.out, HW.out]
          go_wp2_with fail
          rw [← HW.out]
          refine (HC.out).mono ?_
          rintro z w' ⟨rfl, rfl⟩
          go_wp2
          go_ret
          exact ⟨by rw [HR.out]; rfl, B2.out⟩
    · have HR := Lib.hid (cmp_ne (i := i) (t := t) (its := its) (ks := ks) (i' := i') (t' := t') (jts := jts) (ls := ls) hk)
      have g1 : (cmpI k k' != 0) = true := by rw [bne_iff_ne]; exact fun e => hk (cmpI_zero.1 e)
      have HW := Lib.hid hw2
      clear hv hu hL hM hS hT hwx hwy hw2 hk
      generalize cmpI k k' = z at *
      unfold vag
      go_enter Try.func74, Try.ntmps74
      go_wp2_with fail
      rw [← HW.out]
      refine (HCK.out).mono ?_
      rintro z w' ⟨rfl, rfl⟩
      go_wp2
      go_ret
      exact ⟨by rw [HR.out]; rfl, B2.out⟩

/-- Order's answer -/
def VT.ord (x y : VT) : Int := if x.wf && y.wf then x.cmp y else 0

set_option maxHeartbeats 1000000 in
theorem valOrder_any {x y : VT} {v u : Value} {w : World} (hv : Lies w (Lo w) x v) (hu : Lies w (Lo w) y u) : Calls Try.prog 37 #[v, u] w (Gives (.int .i64 (x.ord y)) w) := by
  obtain ⟨o, ho⟩ : ∃ o, o = x.ord y := ⟨_, rfl⟩
  rw [← ho]
  unfold VT.ord at ho
  have HX := Lib.hid (fun (w' : World) (hb : Below w.heap.size w w') => wf_any (hv.below hb))
  have HY := Lib.hid (fun (w' : World) (hb : Below w.heap.size w w') => wf_any (hu.below hb))
  have HC := Lib.hid (fun (w' : World) (hb : Below w.heap.size w w') (h1 : x.wf = true) (h2 : y.wf = true) => valCmp_all x.size x y w' v u (Nat.le_refl _) h1 h2 (hv.below hb) (hu.below hb))
  obtain ⟨k, i, t, its, ks⟩ := x
  obtain ⟨k', i', t', jts, ls⟩ := y
  obtain ⟨A, c, A', c', rfl, _, _, _, h1, h2, hL, h3, h4, hS⟩ := hv.open
  obtain ⟨D, e, D', e', rfl, _, _, _, g1, g2, hM, g3, g4, hT⟩ := hu.open
  obtain ⟨w2, hw2⟩ : ∃ w2, w2 = (w.alloc (.cells #[.int .i64 k, .int .i64 i, .string t, .slice A its.length c, .slice A' ks.length c'] 26)).alloc (.cells #[.int .i64 k', .int .i64 i', .string t', .slice D jts.length e, .slice D' ls.length e'] 26) := ⟨_, rfl⟩
  have B2 : Hid (Below w.heap.size w w2) := Lib.hid (by rw [hw2]; exact (below_one _ _).trans (Below.alloc (Below.refl _ _) (by simp) _))
  have S2 : Hid (w.heap.size + 1 < w2.heap.size) := Lib.hid (by rw [hw2]; simp)
  have X1 : Hid (∀ j, w2.cell? ⟨w.heap.size, j, none⟩ = (#[.int .i64 k, .int .i64 i, .string t, .slice A its.length c, .slice A' ks.length c'] : Array Value)[j]?) := Lib.hid (fun j => by
    rw [hw2, World.cell?_alloc_lt _ _ _ (by simp), World.cell?_alloc_at _ _ _ _ rfl])
  have X2 : Hid (∀ j, w2.cell? ⟨w.heap.size + 1, j, none⟩ = (#[.int .i64 k', .int .i64 i', .string t', .slice D jts.length e, .slice D' ls.length e'] : Array Value)[j]?) := Lib.hid (fun j => by
    rw [hw2, World.cell?_alloc_at _ _ _ _ (by simp)])
  have H1 := Lib.hid (HX.out w2 B2.out)
  have HW := Lib.hid hw2
  clear hv hu hL hM hS hT hw2
  generalize (VT.mk k i t its ks).wf = p at *
  generalize (VT.mk k' i' t' jts ls).wf = q at *
  generalize (VT.mk k i t its ks).cmp (.mk k' i' t' jts ls) = z at *
  have O1 : Hid (p = false → o = 0) := Lib.hid (fun h => by rw [ho, h]; rfl)
  have O2 : Hid (q = false → o = 0) := Lib.hid (fun h => by rw [ho, h, Bool.and_false]; rfl)
  have O3 : Hid (p = true → q = true → o = z) := Lib.hid (fun h h' => by rw [ho, h, h']; rfl)
  clear ho
  unfold vag at *
  go_enter Try.func37, Try.ntmps37
  go_wp2_with fail
  rw [← HW.out]
  refine (H1.out).mono ?_
  rintro z' w3 ⟨rfl, hb⟩
  have HB3 := Lib.hid (below_next B2.out hb)
  have a0 := (hb.cell (p := ⟨w.heap.size, 0, none⟩) (by have := S2.out; show w.heap.size < _; omega)).trans (X1.out 0)
  have a1 := (hb.cell (p := ⟨w.heap.size, 1, none⟩) (by have := S2.out; show w.heap.size < _; omega)).trans (X1.out 1)
  have a2 := (hb.cell (p := ⟨w.heap.size, 2, none⟩) (by have := S2.out; show w.heap.size < _; omega)).trans (X1.out 2)
  have a3 := (hb.cell (p := ⟨w.heap.size, 3, none⟩) (by have := S2.out; show w.heap.size < _; omega)).trans (X1.out 3)
  have a4 := (hb.cell (p := ⟨w.heap.size, 4, none⟩) (by have := S2.out; show w.heap.size < _; omega)).trans (X1.out 4)
  have b0 := (hb.cell (p := ⟨w.heap.size + 1, 0, none⟩) S2.out).trans (X2.out 0)
  have b1 := (hb.cell (p := ⟨w.heap.size + 1, 1, none⟩) S2.out).trans (X2.out 1)
  have b2 := (hb.cell (p := ⟨w.heap.size + 1, 2, none⟩) S2.out).trans (X2.out 2)
  have b3 := (hb.cell (p := ⟨w.heap.size + 1, 3, none⟩) S2.out).trans (X2.out 3)
  have b4 := (hb.cell (p := ⟨w.heap.size + 1, 4, none⟩) S2.out).trans (X2.out 4)
  have S3 : Hid (w.heap.size + 1 < w3.heap.size) := Lib.hid (by have := S2.out; have := hb.size; omega)
  clear hb
  cases p with
  | false =>
    have O := Lib.hid (O1.out rfl)
    clear O1 O2 O3
    go_wp2
    go_ret
    exact ⟨by rw [O.out]; rfl, HB3.out⟩
  | true =>
    have H2 := Lib.hid (HY.out w3 HB3.out)
    have O4 := Lib.hid (O3.out rfl)
    have HC2 := Lib.hid (fun w' hb h2 => HC.out w' hb rfl h2)
    clear O1 O3 HC
    go_wp2_with fail
    refine (H2.out).mono ?_
    rintro z' w4 ⟨rfl, hb⟩
    have HB4 := Lib.hid (below_next HB3.out hb)
    have cc := fun j => hb.cell (p := ⟨w.heap.size, j, none⟩) (by have := S3.out; show w.heap.size < _; omega)
    have cd := fun j => hb.cell (p := ⟨w.heap.size + 1, j, none⟩) S3.out
    rw [← cc] at a0 a1 a2 a3 a4
    rw [← cd] at b0 b1 b2 b3 b4
    clear hb cc cd
    cases q with
    | false =>
      have O := Lib.hid (O2.out rfl)
      clear O2 O4
      go_wp2
      go_ret
      exact ⟨by rw [O.out]; rfl, HB4.out⟩
    | true =>
      have H3 := Lib.hid (HC2.out w4 HB4.out rfl)
      have O := Lib.hid (O4.out rfl)
      clear O2 O4
      go_wp2_with fail
      refine (H3.out).mono ?_
      rintro z' w5 ⟨rfl, hb⟩
      have HB5 := Lib.hid (below_next HB4.out hb)
      clear hb
      go_wp2
      go_ret
      exact ⟨by rw [O.out]; rfl, HB5.out⟩
end Go.Proofs.Ytidinbeanaifmaa
namespace Go.Proofs.Ytidinbeanaifmaa
open Go.RowKit

mutual
def VT.enc : VT → List UInt8
  | .mk k i t its ks => Go.Proofs.Ytidinbeanaifmaa.enc k ++ (if k = 1 ∨ k = 2 ∨ k = 6 then Go.Proofs.Ytidinbeanaifmaa.enc i else if k = 3 then encText t.data.toList else if k = 4 ∨ k = 5 then Go.Proofs.Ytidinbeanaifmaa.enc (its.length : Nat) ++ encs (decide (k = 5)) its ks else [])
def encs (m : Bool) : List VT → List ByteArray → List UInt8
  | [], _ => []
  | x :: r, ks => (if m then encText (ks.headD ByteArray.empty).data.toList else []) ++ (x.enc ++ encs m r ks.tail)
end
theorem VT.enc_mk (k i : Int) (t : ByteArray) (its : List VT) (ks : List ByteArray) : (VT.mk k i t its ks).enc =
    Go.Proofs.Ytidinbeanaifmaa.enc k ++ (if k = 1 ∨ k = 2 ∨ k = 6 then Go.Proofs.Ytidinbeanaifmaa.enc i else if k = 3 then encText t.data.toList else if k = 4 ∨ k = 5 then Go.Proofs.Ytidinbeanaifmaa.enc (its.length : Nat) ++ encs (decide (k = 5)) its ks else []) := by rw [VT.enc]
theorem encs_append (m : Bool) : ∀ (a b : List VT) (ks : List ByteArray), encs m (a ++ b) ks = encs m a ks ++ encs m b (ks.drop a.length)
  | [], b, ks => by simp [encs]
  | x :: a, b, ks => by
    rw [List.cons_append, encs, encs, encs_append m a b ks.tail, List.append_assoc, List.append_assoc]
    simp [List.drop_tail]
theorem encs_take {m : Bool} {its : List VT} {ks : List ByteArray} {j : Nat} {x : VT} (h : its[j]? = some x) :
    encs m (its.take (j + 1)) ks = encs m (its.take j) ks ++ ((if m then encText (ks.getD j ByteArray.empty).data.toList else []) ++ x.enc) := by
  have hj := (List.getElem?_eq_some_iff.1 h).1
  rw [List.take_add_one, h, encs_append]
  simp only [Option.toList_some, encs, List.append_nil]
  have e : (ks.drop (its.take j).length).headD ByteArray.empty = ks.getD j ByteArray.empty := by
    rw [List.headD_eq_head?_getD, List.head?_drop, List.getD_eq_getElem?_getD, List.length_take, Nat.min_eq_left (by omega)]
  rw [e]
theorem encs_take_len (m : Bool) (its : List VT) (ks : List ByteArray) (j : Nat) : (encs m (its.take j) ks).length ≤ (encs m its ks).length := by
  have := encs_append m (its.take j) (its.drop j) ks
  rw [List.take_append_drop] at this
  rw [this, List.length_append]
  omega
theorem encText_len (s : List UInt8) : s.length ≤ (encText s).length := by unfold encText; rw [List.length_append]; omega

/-- below base nothing turns, and no block of another type than byte -/
structure Frm (base : Nat) (w w' : World) : Prop where
  below : Below base w w'
  keep : ∀ (g : Nat) (t : TypeId) (cs : Array Value), Bk w g t cs → t ≠ 5 → Bk w' g t cs
theorem Frm.refl (base : Nat) (w : World) : Frm base w w := ⟨Below.refl _ _, fun _ _ _ h _ => h⟩
theorem Frm.trans {base : Nat} {a b c : World} (h : Frm base a b) (k : Frm base b c) : Frm base a c := ⟨h.below.trans k.below, fun g t cs hg ht => k.keep g t cs (h.keep g t cs hg ht) ht⟩
theorem Frm.of_below {base : Nat} {w w' : World} (h : Below w.heap.size w w') (hB : base ≤ w.heap.size) : Frm base w w' := ⟨h.mono hB, fun _ _ _ hg _ => hg.below h hg.lt⟩
theorem Frm.of_grown {base n : Nat} {w w' : World} {v : Value} {xs : List Value} (hg : w.grownBy w' v.ownBlock) (ho : w.ownsRow base 5 1 v n xs) (hB : base ≤ w.heap.size) : Frm base w w' :=
  ⟨(Below.refl _ _).grown hg hB (fun k hk => (ho.lt k hk).1), fun g t cs h ht => h.grown hg (by
    intro e
    rcases ho.2 with ⟨rfl, _⟩ | ⟨g', cap, cur, rfl, _, hgg, _⟩
    · cases e
    · injection e with e
      subst e
      unfold Bk at h
      have h' : w.heap[g]? = some (.cells cur 5 (0, 0)) := hgg
      rw [h] at h'
      injection h' with h'
      injection h' with _ e2
      exact ht e2)⟩
/-- an owned row of bytes handed back -/
def App (base : Nat) (l : List UInt8) (w : World) (e : Ending) (w' : World) : Prop :=
  ∃ A n c, e = .returned (.slice A n c) ∧ Hid (l.length = n) ∧ Hid (w'.ownsRow base 5 1 (.slice A n c) n (l.map b8)) ∧ Hid (Frm base w w') ∧ n ≤ c ∧ c ≤ 9223372036854775807

section
variable {w : World} {base n c : Nat} {A : Option Addr} {l : List UInt8}
set_option maxRecDepth 100000 in
set_option maxHeartbeats 1000000 in
theorem appendInt_v (x : Int) (ho : w.ownsRow base 5 1 (.slice A n c) n (l.map b8)) (hB : base ≤ w.heap.size) (hn : n ≤ 70000000000000) (h1 : -9223372036854775808 ≤ x) (h2 : x ≤ 9223372036854775807) :
    Calls Try.prog 105 #[.slice A n c, .int .i64 x] w (App base (l ++ Go.Proofs.Ytidinbeanaifmaa.enc x) w) := by
  obtain ⟨i, hi, hz, hs, hb⟩ := info_parts Try.infob
  have HO := Lib.hid ho
  have HL := Lib.hid (own_len ho)
  have HP := Lib.hid (PutInt_any none 0 0 [] 0 w x (Rb.nil0 w 0) (Nat.zero_le _) (by omega) h1 h2)
  have HN := Lib.hid hn
  clear ho hn h1 h2
  go_enter Try.func105, Try.ntmps105
  go_wp2_with fail
  refine (HP.out).mono ?_
  intro e w2 hq
  obtain ⟨A2, n2, c2, rfl, hl2, hc2, hm2, R2, O2, B2⟩ := own_named hq
  have HO2 := Lib.hid (HO.out.kept (grown_of_below (r := none) B2.out) (by cases h : (Value.slice A n c).ownBlock <;> simp))
  have S2 : Hid (w.heap.size ≤ w2.heap.size) := Lib.hid B2.out.size
  clear hq
  have hn2 : Hid (n2 ≤ 10) := Lib.hid (by rw [← hl2.out, List.nil_append]; exact enc_len x)
  go_wp2_with (at_builtin; refine wpList_append_b8 rfl _ _ 50 rfl base 5 i (.int .u8 0) Try.underlying50 hi hz hs hb rfl _ n _ rfl HO2.out w2.heap.size A2 n2 c2 ([] ++ Go.Proofs.Ytidinbeanaifmaa.enc x) rfl R2.out ?_ ?_ ?_)
  · have := hn2.out; have := HN.out; omega
  · have := S2.out; omega
  · intro v3 w3 hown hg
    obtain ⟨A3, c3, rfl, g1, g2⟩ := own_form hown
    unfold maxLen at g2
    have F := Lib.hid ((Frm.of_below B2.out hB).trans (Frm.of_grown hg HO2.out (by have := S2.out; omega)))
    have OW : Hid (w3.ownsRow base 5 1 (.slice A3 (n + n2) c3) (n + n2) ((l ++ Go.Proofs.Ytidinbeanaifmaa.enc x).map b8)) := Lib.hid (by simpa using hown)
    have LEN : Hid ((l ++ Go.Proofs.Ytidinbeanaifmaa.enc x).length = n + n2) := Lib.hid (by rw [List.length_append, HL.out, ← hl2.out, List.nil_append])
    clear hown hg
    go_wp2
    go_ret
    exact ⟨A3, n + n2, c3, rfl, LEN, OW, F, g1, g2⟩
set_option maxRecDepth 100000 in
set_option maxHeartbeats 1000000 in
theorem appendText_v (s : ByteArray) (ho : w.ownsRow base 5 1 (.slice A n c) n (l.map b8)) (hB : base ≤ w.heap.size) (hn : n ≤ 70000000000000) (hs : s.size ≤ 30000000000000) :
    Calls Try.prog 106 #[.slice A n c, .string s] w (App base (l ++ encText s.data.toList) w) := by
  obtain ⟨i, hi, hz, hsz, hb⟩ := info_parts Try.infob
  have HO := Lib.hid ho
  have HL := Lib.hid (own_len ho)
  have HP := Lib.hid (PutText_any none 0 0 [] 0 w s (Rb.nil0 w 0) (Nat.zero_le _) (by omega) (by omega))
  have HN := Lib.hid (And.intro hn hs)
  clear ho hn hs
  go_enter Try.func106, Try.ntmps106
  go_wp2_with fail
  refine (HP.out).mono ?_
  intro e w2 hq
  obtain ⟨A2, n2, c2, rfl, hl2, hc2, hm2, R2, O2, B2⟩ := own_named hq
  have HO2 := Lib.hid (HO.out.kept (grown_of_below (r := none) B2.out) (by cases h : (Value.slice A n c).ownBlock <;> simp))
  have S2 : Hid (w.heap.size ≤ w2.heap.size) := Lib.hid B2.out.size
  clear hq
  have hn2 : Hid (n2 ≤ 10 + s.size) := Lib.hid (by
    rw [← hl2.out, List.nil_append]
    unfold encText
    rw [List.length_append]
    have := enc_len (s.data.toList.length : Nat)
    have e : s.data.toList.length = s.size := rfl
    omega)
  go_wp2_with (at_builtin; refine wpList_append_b8 rfl _ _ 50 rfl base 5 i (.int .u8 0) Try.underlying50 hi hz hsz hb rfl _ n _ rfl HO2.out w2.heap.size A2 n2 c2 ([] ++ encText s.data.toList) rfl R2.out ?_ ?_ ?_)
  · have := hn2.out; have := HN.out.1; have := HN.out.2; omega
  · have := S2.out; omega
  · intro v3 w3 hown hg
    obtain ⟨A3, c3, rfl, g1, g2⟩ := own_form hown
    unfold maxLen at g2
    have F := Lib.hid ((Frm.of_below B2.out hB).trans (Frm.of_grown hg HO2.out (by have := S2.out; omega)))
    have OW : Hid (w3.ownsRow base 5 1 (.slice A3 (n + n2) c3) (n + n2) ((l ++ encText s.data.toList).map b8)) := Lib.hid (by simpa using hown)
    have LEN : Hid ((l ++ encText s.data.toList).length = n + n2) := Lib.hid (by rw [List.length_append, HL.out, ← hl2.out, List.nil_append])
    clear hown hg
    go_wp2
    go_ret
    exact ⟨A3, n + n2, c3, rfl, LEN, OW, F, g1, g2⟩
end
end Go.Proofs.Ytidinbeanaifmaa
namespace Go.Proofs.Ytidinbeanaifmaa
open Go.RowKit

/-- what appendValue is asked of values of at most m nodes -/
def EncUpto (m : Nat) : Prop := ∀ (x : VT) (w : World) (v : Value) (base n c : Nat) (A : Option Addr) (l : List UInt8), x.size ≤ m → x.all okF = true → Lies w (fun b => b < base) x v → w.ownsRow base 5 1 (.slice A n c) n (l.map b8) → base ≤ w.heap.size →
  n + x.enc.length ≤ 30000000000000 → Calls Try.prog 83 #[.slice A n c, v] w (App base (l ++ x.enc) w)
theorem App.to {base : Nat} {l l' : List UInt8} {w w1 : World} {e : Ending} {w' : World} (h : App base l w1 e w') (hf : Frm base w w1) (hl : l = l') : App base l' w e w' := by
  obtain ⟨A, n, c, h1, h2, h3, h4, h5⟩ := h
  subst hl
  exact ⟨A, n, c, h1, h2, h3, Lib.hid (hf.trans h4.out), h5⟩

set_option maxRecDepth 100000 in
set_option maxHeartbeats 4000000 in
theorem encItems_4 (m : Nat) (IH : Hid (EncUpto m)) (i : Int) (t : ByteArray) (its : List VT) (ks : List ByteArray) (A : Option Addr) (c : Nat) (A' : Option Addr) (c' : Nat) (w : World) (base n0 c0 : Nat) (A0 : Option Addr) (l : List UInt8)
    (hL : LiesL w (fun b => b < base) A 0 its) (h1 : its.length ≤ c) (h2 : c ≤ 9223372036854775807) (hsz : sizes its ≤ m) (hw : alls okF its = true)
    (ho : w.ownsRow base 5 1 (.slice A0 n0 c0) n0 (l.map b8)) (hB : base ≤ w.heap.size) (hn : n0 + (enc (its.length : Nat) ++ encs false its ks).length ≤ 30000000000000) :
    Calls Try.prog 107 #[.slice A0 n0 c0, vag 4 i t A its.length c A' ks.length c'] w (App base (l ++ (enc (its.length : Nat) ++ encs false its ks)) w) := by
  have HL := Lib.hid hL
  have HWF := Lib.hid hw
  have HNN := Lib.hid hn
  have HBB := Lib.hid hB
  obtain ⟨w1, hw1⟩ : ∃ w1, w1 = w.alloc (.cells #[.int .i64 4, .int .i64 i, .string t, .slice A its.length c, .slice A' ks.length c'] 26) := ⟨_, rfl⟩
  have P1 : Hid (Bk w1 w.heap.size 26 #[.int .i64 4, .int .i64 i, .string t, .slice A its.length c, .slice A' ks.length c']) := Lib.hid (by rw [hw1]; exact Bk.new _ _ _)
  have F1 : Hid (Frm base w w1) := Lib.hid (by rw [hw1]; exact Frm.of_below (below_one _ _) hB)
  have O1 := Lib.hid (ho.kept (grown_of_below (r := none) (hw1 ▸ below_one w _ : Below w.heap.size w w1)) (by cases h : (Value.slice A0 n0 c0).ownBlock <;> simp))
  have HA := Lib.hid (appendInt_v (its.length : Nat) O1.out (Nat.le_trans hB F1.out.below.size) (by have := hn; rw [List.length_append] at this; omega) (by omega) (by omega))
  have HW := Lib.hid hw1
  clear hL hw hn hB ho hw1
  unfold vag
  go_enter Try.func107, Try.ntmps107
  go_wp2_with fail
  rw [← HW.out]
  refine (HA.out).mono ?_
  rintro e w2 ⟨A2, n2, c2, rfl, hl2, O2, F2, _, _⟩
  have P2 := Lib.hid (F2.out.keep _ _ _ P1.out (by decide))
  have FF := Lib.hid (F1.out.trans F2.out)
  have p3 := P2.out.cell 3
  change _ = some (Value.slice A its.length c) at p3
  go_wp2_with fail
  go_loopw [15, 0, 5, 6] (fun s b _ _ wr => ∃ (j : Nat) (AI : Option Addr) (ni ci : Nat), j ≤ its.length ∧ s = .int .i64 j ∧ b = .slice AI ni ci ∧ Hid ((l ++ (enc (its.length : Nat) ++ encs false (its.take j) ks)).length = ni) ∧
    Hid (wr.ownsRow base 5 1 (.slice AI ni ci) ni ((l ++ (enc (its.length : Nat) ++ encs false (its.take j) ks)).map b8)) ∧ Hid (Frm base w wr) ∧ Hid (Bk wr w.heap.size 26 #[.int .i64 4, .int .i64 i, .string t, .slice A its.length c, .slice A' ks.length c'])) (fun s _ _ _ _ => its.length - (intOf s).toNat)
  case atStart => exact ⟨0, A2, n2, c2, by omega, rfl, rfl, Lib.hid (by simpa [encs] using hl2.out), Lib.hid (by simpa [encs] using O2.out), FF, P2⟩
  case round =>
    obtain ⟨j, AI, ni, ci, hjn, rfl, rfl, hni, HO, HF, HP⟩ := hrel
    have p0 := HP.out.cell 0
    change _ = some (Value.int .i64 4) at p0
    have p4 := HP.out.cell 4
    change _ = some (Value.slice A' ks.length c') at p4
    by_cases hlt : j < its.length
    · have g1 := List.getElem?_eq_getElem (l := its) (i := j) hlt
      obtain ⟨g, o, k', i', t', B, n', c1, B', n1, cc2, rfl, hg, e0, e1, e2, e3, e4, hx⟩ := (HL.out).at_ g1
      have hwx := all_at HWF.out g1
      have hle := size_at g1
      have htk := encs_take (m := false) (ks := ks) g1
      have htl := encs_take_len false its ks (j + 1)
      generalize its[j]'hlt = x at *
      have cc := fun (q : Nat) => HF.out.below.cell (p := ⟨g, q, none⟩) hg
      rw [Nat.zero_add] at e0 e1 e2 e3 e4
      rw [← cc] at e0 e1 e2 e3 e4
      have hlen : ni + ((if false = true then encText (ks.getD j ByteArray.empty).data.toList else []) ++ x.enc).length ≤ 30000000000000 := by
        have h3 := HNN.out
        have h4 := hni.out
        rw [htk, List.length_append] at htl
        rw [List.length_append] at h3 h4
        rw [List.length_append] at h4
        have h5 := own_len O1.out
        omega
      have HX := Lib.hid (fun (W : World) (hb : Below base w W) => (hx.keep (fun p hp => hb.cell hp) (fun _ h => h) : Lies W (fun b => b < base) x _))
      have HTK := Lib.hid htk
      have HWX := Lib.hid hwx
      have HLE := Lib.hid hle
      obtain ⟨wa, hwa⟩ : ∃ wa, wa = wr.alloc (.cells #[.int .i64 k', .int .i64 i', .string t', .slice B n' c1, .slice B' n1 cc2] 26) := ⟨_, rfl⟩
      have hbr : base ≤ wr.heap.size := Nat.le_trans HBB.out HF.out.below.size
      have QA : Hid (Bk wa wr.heap.size 26 #[.int .i64 k', .int .i64 i', .string t', .slice B n' c1, .slice B' n1 cc2]) := Lib.hid (by rw [hwa]; exact Bk.new _ _ _)
      have PA : Hid (Bk wa w.heap.size 26 #[.int .i64 4, .int .i64 i, .string t, .slice (some ⟨g, o, none⟩) its.length c, .slice A' ks.length c']) := Lib.hid (by rw [hwa]; exact HP.out.alloc _)
      have FA : Hid (Frm base w wa) := Lib.hid (by rw [hwa]; exact HF.out.trans (Frm.of_below (below_one _ _) hbr))
      have OA : Hid (wa.ownsRow base 5 1 (.slice AI ni ci) ni ((l ++ (enc (its.length : Nat) ++ encs false (its.take j) ks)).map b8)) := Lib.hid (by rw [hwa]; exact HO.out.alloc _)
      have BA : Hid (base ≤ wa.heap.size) := Lib.hid (by rw [hwa]; simp; omega)
      have HWA := Lib.hid hwa
      clear hx cc htk htl hwx hle g1 hwa hbr
      have HNW : Hid (ni + x.enc.length ≤ 30000000000000) := Lib.hid (by simpa using hlen)
      clear hlen
      have pa0 := PA.out.cell 0
      change _ = some (Value.int .i64 4) at pa0
      rw [HWA.out] at pa0
      have HV := Lib.hid (IH.out x wa _ base ni ci AI _ (by have := HLE.out; omega) HWX.out (HX.out wa FA.out.below) OA.out BA.out HNW.out)
      unfold vag at HV
      clear p4 p0
      go_wp2_with fail
      rw [← HWA.out]
      refine (HV.out).mono ?_
      rintro e w5 ⟨A5, n5, c5, rfl, hl5, O5, F5, _, _⟩
      have P5 := Lib.hid (F5.out.keep _ _ _ PA.out (by decide))
      have FF5 := Lib.hid (FA.out.trans F5.out)
      go_wp2
      go_roundw
      case rel => exact ⟨j + 1, A5, n5, c5, by omega, by go_num, rfl, Lib.hid (by rw [HTK.out, ← hl5.out]; congr 1; simp), Lib.hid (by rw [HTK.out]; have := O5.out; simpa using this), FF5, P5⟩
      case measure => simp [intOf]; omega
    · obtain rfl : j = its.length := by omega
      have O8 : Hid (wr.ownsRow base 5 1 (.slice AI ni ci) ni ((l ++ (enc (its.length : Nat) ++ encs false its ks)).map b8)) := Lib.hid (by have := HO.out; rwa [List.take_length] at this)
      have L8 : Hid ((l ++ (enc (its.length : Nat) ++ encs false its ks)).length = ni) := Lib.hid (by have := hni.out; rwa [List.take_length] at this)
      have b8_ := own_bounds O8.out
      go_wp2
      go_ret
      exact ⟨AI, ni, ci, rfl, L8, O8, HF, b8_.1, b8_.2⟩

set_option maxRecDepth 100000 in
set_option maxHeartbeats 4000000 in
theorem encItems_5 (m : Nat) (IH : Hid (EncUpto m)) (i : Int) (t : ByteArray) (its : List VT) (ks : List ByteArray) (A : Option Addr) (c : Nat) (A' : Option Addr) (c' : Nat) (w : World) (base n0 c0 : Nat) (A0 : Option Addr) (l : List UInt8)
    (hL : LiesL w (fun b => b < base) A 0 its) (hS : LiesS w (fun b => b < base) A' ks) (hk : ks.length = its.length) (hkc : ks.length ≤ c') (hcm' : c' ≤ 9223372036854775807) (h1 : its.length ≤ c) (h2 : c ≤ 9223372036854775807) (hsz : sizes its ≤ m) (hw : alls okF its = true)
    (ho : w.ownsRow base 5 1 (.slice A0 n0 c0) n0 (l.map b8)) (hB : base ≤ w.heap.size) (hn : n0 + (enc (its.length : Nat) ++ encs true its ks).length ≤ 30000000000000) :
    Calls Try.prog 107 #[.slice A0 n0 c0, vag 5 i t A its.length c A' ks.length c'] w (App base (l ++ (enc (its.length : Nat) ++ encs true its ks)) w) := by
  have HL := Lib.hid hL
  have HS := Lib.hid hS
  have HKL := Lib.hid hk
  have HWF := Lib.hid hw
  have HNN := Lib.hid hn
  have HBB := Lib.hid hB
  obtain ⟨w1, hw1⟩ : ∃ w1, w1 = w.alloc (.cells #[.int .i64 5, .int .i64 i, .string t, .slice A its.length c, .slice A' ks.length c'] 26) := ⟨_, rfl⟩
  have P1 : Hid (Bk w1 w.heap.size 26 #[.int .i64 5, .int .i64 i, .string t, .slice A its.length c, .slice A' ks.length c']) := Lib.hid (by rw [hw1]; exact Bk.new _ _ _)
  have F1 : Hid (Frm base w w1) := Lib.hid (by rw [hw1]; exact Frm.of_below (below_one _ _) hB)
  have O1 := Lib.hid (ho.kept (grown_of_below (r := none) (hw1 ▸ below_one w _ : Below w.heap.size w w1)) (by cases h : (Value.slice A0 n0 c0).ownBlock <;> simp))
  have HA := Lib.hid (appendInt_v (its.length : Nat) O1.out (Nat.le_trans hB F1.out.below.size) (by have := hn; rw [List.length_append] at this; omega) (by omega) (by omega))
  have HW := Lib.hid hw1
  clear hL hS hk hw hn hB ho hw1
  unfold vag
  go_enter Try.func107, Try.ntmps107
  go_wp2_with fail
  rw [← HW.out]
  refine (HA.out).mono ?_
  rintro e w2 ⟨A2, n2, c2, rfl, hl2, O2, F2, _, _⟩
  have P2 := Lib.hid (F2.out.keep _ _ _ P1.out (by decide))
  have FF := Lib.hid (F1.out.trans F2.out)
  have p3 := P2.out.cell 3
  change _ = some (Value.slice A its.length c) at p3
  go_wp2_with fail
  go_loopw [15, 0, 5, 6] (fun s b _ _ wr => ∃ (j : Nat) (AI : Option Addr) (ni ci : Nat), j ≤ its.length ∧ s = .int .i64 j ∧ b = .slice AI ni ci ∧ Hid ((l ++ (enc (its.length : Nat) ++ encs true (its.take j) ks)).length = ni) ∧
    Hid (wr.ownsRow base 5 1 (.slice AI ni ci) ni ((l ++ (enc (its.length : Nat) ++ encs true (its.take j) ks)).map b8)) ∧ Hid (Frm base w wr) ∧ Hid (Bk wr w.heap.size 26 #[.int .i64 5, .int .i64 i, .string t, .slice A its.length c, .slice A' ks.length c'])) (fun s _ _ _ _ => its.length - (intOf s).toNat)
  case atStart => exact ⟨0, A2, n2, c2, by omega, rfl, rfl, Lib.hid (by simpa [encs] using hl2.out), Lib.hid (by simpa [encs] using O2.out), FF, P2⟩
  case round =>
    obtain ⟨j, AI, ni, ci, hjn, rfl, rfl, hni, HO, HF, HP⟩ := hrel
    have p0 := HP.out.cell 0
    change _ = some (Value.int .i64 5) at p0
    have p4 := HP.out.cell 4
    change _ = some (Value.slice A' ks.length c') at p4
    by_cases hlt : j < its.length
    · have g1 := List.getElem?_eq_getElem (l := its) (i := j) hlt
      obtain ⟨g, o, k', i', t', B, n', c1, B', n1, cc2, rfl, hg, e0, e1, e2, e3, e4, hx⟩ := (HL.out).at_ g1
      have hwx := all_at HWF.out g1
      have hle := size_at g1
      have htk := encs_take (m := true) (ks := ks) g1
      have htl := encs_take_len true its ks (j + 1)
      generalize its[j]'hlt = x at *
      have cc := fun (q : Nat) => HF.out.below.cell (p := ⟨g, q, none⟩) hg
      rw [Nat.zero_add] at e0 e1 e2 e3 e4
      rw [← cc] at e0 e1 e2 e3 e4
      have hlen : ni + ((if true = true then encText (ks.getD j ByteArray.empty).data.toList else []) ++ x.enc).length ≤ 30000000000000 := by
        have h3 := HNN.out
        have h4 := hni.out
        rw [htk, List.length_append] at htl
        rw [List.length_append] at h3 h4
        rw [List.length_append] at h4
        have h5 := own_len O1.out
        omega
      have HX := Lib.hid (fun (W : World) (hb : Below base w W) => (hx.keep (fun p hp => hb.cell hp) (fun _ h => h) : Lies W (fun b => b < base) x _))
      have HTK := Lib.hid htk
      have HWX := Lib.hid hwx
      have HLE := Lib.hid hle
      obtain ⟨wa, hwa⟩ : ∃ wa, wa = wr.alloc (.cells #[.int .i64 k', .int .i64 i', .string t', .slice B n' c1, .slice B' n1 cc2] 26) := ⟨_, rfl⟩
      have hbr : base ≤ wr.heap.size := Nat.le_trans HBB.out HF.out.below.size
      have QA : Hid (Bk wa wr.heap.size 26 #[.int .i64 k', .int .i64 i', .string t', .slice B n' c1, .slice B' n1 cc2]) := Lib.hid (by rw [hwa]; exact Bk.new _ _ _)
      have PA : Hid (Bk wa w.heap.size 26 #[.int .i64 5, .int .i64 i, .string t, .slice (some ⟨g, o, none⟩) its.length c, .slice A' ks.length c']) := Lib.hid (by rw [hwa]; exact HP.out.alloc _)
      have FA : Hid (Frm base w wa) := Lib.hid (by rw [hwa]; exact HF.out.trans (Frm.of_below (below_one _ _) hbr))
      have OA : Hid (wa.ownsRow base 5 1 (.slice AI ni ci) ni ((l ++ (enc (its.length : Nat) ++ encs true (its.take j) ks)).map b8)) := Lib.hid (by rw [hwa]; exact HO.out.alloc _)
      have BA : Hid (base ≤ wa.heap.size) := Lib.hid (by rw [hwa]; simp; omega)
      have HWA := Lib.hid hwa
      clear hx cc htk htl hwx hle g1 hwa hbr
      have hkj : ks[j]? = some (ks.getD j ByteArray.empty) := by rw [List.getD_eq_getElem?_getD, List.getElem?_eq_getElem (by have := HKL.out; omega)]; rfl
      obtain ⟨_, gk, ok, rfl, hgk, f0⟩ := HS.out j _ hkj
      have hjk : j < ks.length := by have := HKL.out; omega
      rw [← FA.out.below.cell (p := ⟨gk, ok + j, none⟩) hgk] at f0
      generalize ks.getD j ByteArray.empty = s at *
      have hns : ni + (encText s.data.toList).length + x.enc.length ≤ 30000000000000 := by
        have h3 := hlen
        rw [if_pos rfl, List.length_append] at h3
        omega
      have hss : s.size ≤ 30000000000000 := by
        have h3 := encText_len s.data.toList
        have h4 : s.data.toList.length = s.size := rfl
        omega
      have HT := Lib.hid (appendText_v s OA.out BA.out (by omega) hss)
      have HNS := Lib.hid hns
      have pa0 := PA.out.cell 0
      change _ = some (Value.int .i64 5) at pa0
      have pa4 := PA.out.cell 4
      change _ = some (Value.slice (some ⟨gk, ok, none⟩) ks.length c') at pa4
      rw [HWA.out] at pa0 pa4 f0
      clear hlen hkj hns hss p0 p4
      go_wp2_with fail
      rw [← HWA.out]
      refine (HT.out).mono ?_
      rintro e w4 ⟨A4, n4, c4, rfl, hl4, O4, F4, _, _⟩
      have Q4 := Lib.hid (F4.out.keep _ _ _ QA.out (by decide))
      have P4 := Lib.hid (F4.out.keep _ _ _ PA.out (by decide))
      have FW := Lib.hid (FA.out.trans F4.out)
      have BW : Hid (base ≤ w4.heap.size) := Lib.hid (Nat.le_trans BA.out F4.out.below.size)
      have HNW : Hid (n4 + x.enc.length ≤ 30000000000000) := Lib.hid (by
        have h3 := HNS.out
        have h4 := hl4.out
        have h5 := own_len OA.out
        rw [List.length_append] at h4
        omega)
      have q0 := Q4.out.cell 0
      have q1 := Q4.out.cell 1
      have q2 := Q4.out.cell 2
      have q3 := Q4.out.cell 3
      have q4 := Q4.out.cell 4
      have HV := Lib.hid (IH.out x w4 _ base n4 c4 A4 _ (by have := HLE.out; omega) HWX.out (HX.out w4 FW.out.below) O4.out BW.out HNW.out)
      unfold vag at HV
      clear pa0 pa4 f0 e0 e1 e2 e3 e4
      go_wp2_with fail
      refine (HV.out).mono ?_
      rintro e w5 ⟨A5, n5, c5, rfl, hl5, O5, F5, _, _⟩
      have P5 := Lib.hid (F5.out.keep _ _ _ P4.out (by decide))
      have FF5 := Lib.hid (FW.out.trans F5.out)
      go_wp2
      go_roundw
      case rel => exact ⟨j + 1, A5, n5, c5, by omega, by go_num, rfl, Lib.hid (by rw [HTK.out, ← hl5.out]; congr 1; simp), Lib.hid (by rw [HTK.out]; have := O5.out; simpa using this), FF5, P5⟩
      case measure => simp [intOf]; omega
    · obtain rfl : j = its.length := by omega
      have O8 : Hid (wr.ownsRow base 5 1 (.slice AI ni ci) ni ((l ++ (enc (its.length : Nat) ++ encs true its ks)).map b8)) := Lib.hid (by have := HO.out; rwa [List.take_length] at this)
      have L8 : Hid ((l ++ (enc (its.length : Nat) ++ encs true its ks)).length = ni) := Lib.hid (by have := hni.out; rwa [List.take_length] at this)
      have b8_ := own_bounds O8.out
      go_wp2
      go_ret
      exact ⟨AI, ni, ci, rfl, L8, O8, HF, b8_.1, b8_.2⟩
end Go.Proofs.Ytidinbeanaifmaa
namespace Go.Proofs.Ytidinbeanaifmaa
open Go.RowKit

theorem encI {k i : Int} {t : ByteArray} {its : List VT} {ks : List ByteArray} (h : k = 1 ∨ k = 2 ∨ k = 6) : (VT.mk k i t its ks).enc = Go.Proofs.Ytidinbeanaifmaa.enc k ++ Go.Proofs.Ytidinbeanaifmaa.enc i := by rw [VT.enc_mk, if_pos h]
theorem encTx {i : Int} {t : ByteArray} {its : List VT} {ks : List ByteArray} : (VT.mk 3 i t its ks).enc = Go.Proofs.Ytidinbeanaifmaa.enc 3 ++ encText t.data.toList := by rw [VT.enc_mk, if_neg (by omega), if_pos rfl]
theorem encN {i : Int} {t : ByteArray} {its : List VT} {ks : List ByteArray} : (VT.mk 0 i t its ks).enc = Go.Proofs.Ytidinbeanaifmaa.enc 0 := by rw [VT.enc_mk, if_neg (by omega), if_neg (by omega), if_neg (by omega), List.append_nil]
theorem encIt {k i : Int} {t : ByteArray} {its : List VT} {ks : List ByteArray} (h : k = 4 ∨ k = 5) : (VT.mk k i t its ks).enc = Go.Proofs.Ytidinbeanaifmaa.enc k ++ (Go.Proofs.Ytidinbeanaifmaa.enc (its.length : Nat) ++ encs (decide (k = 5)) its ks) := by
  rw [VT.enc_mk, if_neg (by omega), if_neg (by omega), if_pos h]

set_option maxRecDepth 100000 in
set_option maxHeartbeats 2000000 in
set_option linter.unusedVariables false in
theorem av_0 (m : Nat) (IH : Hid (EncUpto m)) (i : Int) (t : ByteArray) (its : List VT) (ks : List ByteArray) (A : Option Addr) (c : Nat) (A' : Option Addr) (c' : Nat) (w : World) (base n0 c0 : Nat) (A0 : Option Addr) (l : List UInt8)
    (hi : -9223372036854775808 ≤ i ∧ i ≤ 9223372036854775807) (hL : LiesL w (fun b => b < base) A 0 its) (hS : LiesS w (fun b => b < base) A' ks) (hkc : ks.length ≤ c') (hcm' : c' ≤ 9223372036854775807) (h1 : its.length ≤ c) (h2 : c ≤ 9223372036854775807) (hsz : sizes its ≤ m) (hw : alls okF its = true) (hf : okF (.mk 0 i t its ks) = true)
    (ho : w.ownsRow base 5 1 (.slice A0 n0 c0) n0 (l.map b8)) (hB : base ≤ w.heap.size) (hn : n0 + (VT.mk 0 i t its ks).enc.length ≤ 30000000000000) :
    Calls Try.prog 83 #[.slice A0 n0 c0, vag 0 i t A its.length c A' ks.length c'] w (App base (l ++ (VT.mk 0 i t its ks).enc) w) := by
  have HNN := Lib.hid hn
  obtain ⟨w1, hw1⟩ : ∃ w1, w1 = w.alloc (.cells #[.int .i64 0, .int .i64 i, .string t, .slice A its.length c, .slice A' ks.length c'] 26) := ⟨_, rfl⟩
  have P1 : Hid (Bk w1 w.heap.size 26 #[.int .i64 0, .int .i64 i, .string t, .slice A its.length c, .slice A' ks.length c']) := Lib.hid (by rw [hw1]; exact Bk.new _ _ _)
  have F1 : Hid (Frm base w w1) := Lib.hid (by rw [hw1]; exact Frm.of_below (below_one _ _) hB)
  have O1 := Lib.hid (ho.kept (grown_of_below (r := none) (hw1 ▸ below_one w _ : Below w.heap.size w w1)) (by cases h : (Value.slice A0 n0 c0).ownBlock <;> simp))
  have B1 := Lib.hid (Nat.le_trans hB F1.out.below.size)
  have LL := Lib.hid (own_len ho)
  have HA := Lib.hid (appendInt_v 0 O1.out B1.out (by omega) (by omega) (by omega))
  have HW := Lib.hid hw1
  have HE := Lib.hid (encN (i := i) (t := t) (its := its) (ks := ks))
  clear hL hS hw hf ho hB hn hw1
  unfold vag
  go_enter Try.func83, Try.ntmps83
  go_wp2_with fail
  rw [← HW.out]
  refine (HA.out).mono ?_
  rintro e w2 ⟨A2, n2, c2, rfl, hl2, O2, F2, _, _⟩
  have P2 := Lib.hid (F2.out.keep _ _ _ P1.out (by decide))
  have FF := Lib.hid (F1.out.trans F2.out)
  have B2 := Lib.hid (Nat.le_trans B1.out F2.out.below.size)
  have p0 := P2.out.cell 0
  have p1 := P2.out.cell 1
  have p2 := P2.out.cell 2
  have p3 := P2.out.cell 3
  have p4 := P2.out.cell 4
  have b8_ := own_bounds O2.out
  go_wp2
  go_ret
  exact ⟨A2, n2, c2, rfl, Lib.hid (by rw [HE.out]; exact hl2.out), Lib.hid (by rw [HE.out]; exact O2.out), FF, b8_.1, b8_.2⟩

set_option maxRecDepth 100000 in
set_option maxHeartbeats 2000000 in
set_option linter.unusedVariables false in
theorem av_1 (m : Nat) (IH : Hid (EncUpto m)) (i : Int) (t : ByteArray) (its : List VT) (ks : List ByteArray) (A : Option Addr) (c : Nat) (A' : Option Addr) (c' : Nat) (w : World) (base n0 c0 : Nat) (A0 : Option Addr) (l : List UInt8)
    (hi : -9223372036854775808 ≤ i ∧ i ≤ 9223372036854775807) (hL : LiesL w (fun b => b < base) A 0 its) (hS : LiesS w (fun b => b < base) A' ks) (hkc : ks.length ≤ c') (hcm' : c' ≤ 9223372036854775807) (h1 : its.length ≤ c) (h2 : c ≤ 9223372036854775807) (hsz : sizes its ≤ m) (hw : alls okF its = true) (hf : okF (.mk 1 i t its ks) = true)
    (ho : w.ownsRow base 5 1 (.slice A0 n0 c0) n0 (l.map b8)) (hB : base ≤ w.heap.size) (hn : n0 + (VT.mk 1 i t its ks).enc.length ≤ 30000000000000) :
    Calls Try.prog 83 #[.slice A0 n0 c0, vag 1 i t A its.length c A' ks.length c'] w (App base (l ++ (VT.mk 1 i t its ks).enc) w) := by
  have HNN := Lib.hid hn
  obtain ⟨w1, hw1⟩ : ∃ w1, w1 = w.alloc (.cells #[.int .i64 1, .int .i64 i, .string t, .slice A its.length c, .slice A' ks.length c'] 26) := ⟨_, rfl⟩
  have P1 : Hid (Bk w1 w.heap.size 26 #[.int .i64 1, .int .i64 i, .string t, .slice A its.length c, .slice A' ks.length c']) := Lib.hid (by rw [hw1]; exact Bk.new _ _ _)
  have F1 : Hid (Frm base w w1) := Lib.hid (by rw [hw1]; exact Frm.of_below (below_one _ _) hB)
  have O1 := Lib.hid (ho.kept (grown_of_below (r := none) (hw1 ▸ below_one w _ : Below w.heap.size w w1)) (by cases h : (Value.slice A0 n0 c0).ownBlock <;> simp))
  have B1 := Lib.hid (Nat.le_trans hB F1.out.below.size)
  have LL := Lib.hid (own_len ho)
  have HA := Lib.hid (appendInt_v 1 O1.out B1.out (by omega) (by omega) (by omega))
  have HW := Lib.hid hw1
  have HE := Lib.hid (encI (k := 1) (i := i) (t := t) (its := its) (ks := ks) (by omega))
  have HI := Lib.hid hi
  clear hL hS hw hf ho hB hn hw1 hi
  unfold vag
  go_enter Try.func83, Try.ntmps83
  go_wp2_with fail
  rw [← HW.out]
  refine (HA.out).mono ?_
  rintro e w2 ⟨A2, n2, c2, rfl, hl2, O2, F2, _, _⟩
  have P2 := Lib.hid (F2.out.keep _ _ _ P1.out (by decide))
  have FF := Lib.hid (F1.out.trans F2.out)
  have B2 := Lib.hid (Nat.le_trans B1.out F2.out.below.size)
  have p0 := P2.out.cell 0
  have p1 := P2.out.cell 1
  have p2 := P2.out.cell 2
  have p3 := P2.out.cell 3
  have p4 := P2.out.cell 4
  have HC := Lib.hid (appendInt_v i O2.out B2.out (by
    have h3 := hl2.out
    have h4 := HNN.out
    have h5 := LL.out
    rw [HE.out, List.length_append] at h4
    rw [List.length_append] at h3
    omega) HI.out.1 HI.out.2)
  go_wp2_with fail
  refine (HC.out).mono ?_
  rintro e w3 ⟨A3, n3, c3, rfl, hl3, O3, F3, g1, g2⟩
  have FX := Lib.hid (FF.out.trans F3.out)
  clear p0 p1 p2 p3 p4
  go_wp2
  go_ret
  exact ⟨A3, n3, c3, rfl, Lib.hid (by rw [HE.out, ← List.append_assoc]; exact hl3.out), Lib.hid (by rw [HE.out, ← List.append_assoc]; exact O3.out), FX, g1, g2⟩

set_option maxRecDepth 100000 in
set_option maxHeartbeats 2000000 in
set_option linter.unusedVariables false in
theorem av_2 (m : Nat) (IH : Hid (EncUpto m)) (i : Int) (t : ByteArray) (its : List VT) (ks : List ByteArray) (A : Option Addr) (c : Nat) (A' : Option Addr) (c' : Nat) (w : World) (base n0 c0 : Nat) (A0 : Option Addr) (l : List UInt8)
    (hi : -9223372036854775808 ≤ i ∧ i ≤ 9223372036854775807) (hL : LiesL w (fun b => b < base) A 0 its) (hS : LiesS w (fun b => b < base) A' ks) (hkc : ks.length ≤ c') (hcm' : c' ≤ 9223372036854775807) (h1 : its.length ≤ c) (h2 : c ≤ 9223372036854775807) (hsz : sizes its ≤ m) (hw : alls okF its = true) (hf : okF (.mk 2 i t its ks) = true)
    (ho : w.ownsRow base 5 1 (.slice A0 n0 c0) n0 (l.map b8)) (hB : base ≤ w.heap.size) (hn : n0 + (VT.mk 2 i t its ks).enc.length ≤ 30000000000000) :
    Calls Try.prog 83 #[.slice A0 n0 c0, vag 2 i t A its.length c A' ks.length c'] w (App base (l ++ (VT.mk 2 i t its ks).enc) w) := by
  have HNN := Lib.hid hn
  obtain ⟨w1, hw1⟩ : ∃ w1, w1 = w.alloc (.cells #[.int .i64 2, .int .i64 i, .string t, .slice A its.length c, .slice A' ks.length c'] 26) := ⟨_, rfl⟩
  have P1 : Hid (Bk w1 w.heap.size 26 #[.int .i64 2, .int .i64 i, .string t, .slice A its.length c, .slice A' ks.length c']) := Lib.hid (by rw [hw1]; exact Bk.new _ _ _)
  have F1 : Hid (Frm base w w1) := Lib.hid (by rw [hw1]; exact Frm.of_below (below_one _ _) hB)
  have O1 := Lib.hid (ho.kept (grown_of_below (r := none) (hw1 ▸ below_one w _ : Below w.heap.size w w1)) (by cases h : (Value.slice A0 n0 c0).ownBlock <;> simp))
  have B1 := Lib.hid (Nat.le_trans hB F1.out.below.size)
  have LL := Lib.hid (own_len ho)
  have HA := Lib.hid (appendInt_v 2 O1.out B1.out (by omega) (by omega) (by omega))
  have HW := Lib.hid hw1
  have HE := Lib.hid (encI (k := 2) (i := i) (t := t) (its := its) (ks := ks) (by omega))
  have HI := Lib.hid hi
  clear hL hS hw hf ho hB hn hw1 hi
  unfold vag
  go_enter Try.func83, Try.ntmps83
  go_wp2_with fail
  rw [← HW.out]
  refine (HA.out).mono ?_
  rintro e w2 ⟨A2, n2, c2, rfl, hl2, O2, F2, _, _⟩
  have P2 := Lib.hid (F2.out.keep _ _ _ P1.out (by decide))
  have FF := Lib.hid (F1.out.trans F2.out)
  have B2 := Lib.hid (Nat.le_trans B1.out F2.out.below.size)
  have p0 := P2.out.cell 0
  have p1 := P2.out.cell 1
  have p2 := P2.out.cell 2
  have p3 := P2.out.cell 3
  have p4 := P2.out.cell 4
  have HC := Lib.hid (appendInt_v i O2.out B2.out (by
    have h3 := hl2.out
    have h4 := HNN.out
    have h5 := LL.out
    rw [HE.out, List.length_append] at h4
    rw [List.length_append] at h3
    omega) HI.out.1 HI.out.2)
  go_wp2_with fail
  refine (HC.out).mono ?_
  rintro e w3 ⟨A3, n3, c3, rfl, hl3, O3, F3, g1, g2⟩
  have FX := Lib.hid (FF.out.trans F3.out)
  clear p0 p1 p2 p3 p4
  go_wp2
  go_ret
  exact ⟨A3, n3, c3, rfl, Lib.hid (by rw [HE.out, ← List.append_assoc]; exact hl3.out), Lib.hid (by rw [HE.out, ← List.append_assoc]; exact O3.out), FX, g1, g2⟩

set_option maxRecDepth 100000 in
set_option maxHeartbeats 2000000 in
set_option linter.unusedVariables false in
theorem av_3 (m : Nat) (IH : Hid (EncUpto m)) (i : Int) (t : ByteArray) (its : List VT) (ks : List ByteArray) (A : Option Addr) (c : Nat) (A' : Option Addr) (c' : Nat) (w : World) (base n0 c0 : Nat) (A0 : Option Addr) (l : List UInt8)
    (hi : -9223372036854775808 ≤ i ∧ i ≤ 9223372036854775807) (hL : LiesL w (fun b => b < base) A 0 its) (hS : LiesS w (fun b => b < base) A' ks) (hkc : ks.length ≤ c') (hcm' : c' ≤ 9223372036854775807) (h1 : its.length ≤ c) (h2 : c ≤ 9223372036854775807) (hsz : sizes its ≤ m) (hw : alls okF its = true) (hf : okF (.mk 3 i t its ks) = true)
    (ho : w.ownsRow base 5 1 (.slice A0 n0 c0) n0 (l.map b8)) (hB : base ≤ w.heap.size) (hn : n0 + (VT.mk 3 i t its ks).enc.length ≤ 30000000000000) :
    Calls Try.prog 83 #[.slice A0 n0 c0, vag 3 i t A its.length c A' ks.length c'] w (App base (l ++ (VT.mk 3 i t its ks).enc) w) := by
  have HNN := Lib.hid hn
  obtain ⟨w1, hw1⟩ : ∃ w1, w1 = w.alloc (.cells #[.int .i64 3, .int .i64 i, .string t, .slice A its.length c, .slice A' ks.length c'] 26) := ⟨_, rfl⟩
  have P1 : Hid (Bk w1 w.heap.size 26 #[.int .i64 3, .int .i64 i, .string t, .slice A its.length c, .slice A' ks.length c']) := Lib.hid (by rw [hw1]; exact Bk.new _ _ _)
  have F1 : Hid (Frm base w w1) := Lib.hid (by rw [hw1]; exact Frm.of_below (below_one _ _) hB)
  have O1 := Lib.hid (ho.kept (grown_of_below (r := none) (hw1 ▸ below_one w _ : Below w.heap.size w w1)) (by cases h : (Value.slice A0 n0 c0).ownBlock <;> simp))
  have B1 := Lib.hid (Nat.le_trans hB F1.out.below.size)
  have LL := Lib.hid (own_len ho)
  have HA := Lib.hid (appendInt_v 3 O1.out B1.out (by omega) (by omega) (by omega))
  have HW := Lib.hid hw1
  have HE := Lib.hid (encTx (i := i) (t := t) (its := its) (ks := ks))
  clear hL hS hw hf ho hB hn hw1
  unfold vag
  go_enter Try.func83, Try.ntmps83
  go_wp2_with fail
  rw [← HW.out]
  refine (HA.out).mono ?_
  rintro e w2 ⟨A2, n2, c2, rfl, hl2, O2, F2, _, _⟩
  have P2 := Lib.hid (F2.out.keep _ _ _ P1.out (by decide))
  have FF := Lib.hid (F1.out.trans F2.out)
  have B2 := Lib.hid (Nat.le_trans B1.out F2.out.below.size)
  have p0 := P2.out.cell 0
  have p1 := P2.out.cell 1
  have p2 := P2.out.cell 2
  have p3 := P2.out.cell 3
  have p4 := P2.out.cell 4
  have htx := encText_len t.data.toList
  have hts : t.data.toList.length = t.size := rfl
  have HC := Lib.hid (appendText_v t O2.out B2.out (by
    have h3 := hl2.out
    have h4 := HNN.out
    have h5 := LL.out
    rw [HE.out, List.length_append] at h4
    rw [List.length_append] at h3
    omega) (by
    have h4 := HNN.out
    rw [HE.out, List.length_append] at h4
    omega))
  clear htx hts
  go_wp2_with fail
  refine (HC.out).mono ?_
  rintro e w3 ⟨A3, n3, c3, rfl, hl3, O3, F3, g1, g2⟩
  have FX := Lib.hid (FF.out.trans F3.out)
  clear p0 p1 p2 p3 p4
  go_wp2
  go_ret
  exact ⟨A3, n3, c3, rfl, Lib.hid (by rw [HE.out, ← List.append_assoc]; exact hl3.out), Lib.hid (by rw [HE.out, ← List.append_assoc]; exact O3.out), FX, g1, g2⟩

set_option maxRecDepth 100000 in
set_option maxHeartbeats 2000000 in
set_option linter.unusedVariables false in
theorem av_4 (m : Nat) (IH : Hid (EncUpto m)) (i : Int) (t : ByteArray) (its : List VT) (ks : List ByteArray) (A : Option Addr) (c : Nat) (A' : Option Addr) (c' : Nat) (w : World) (base n0 c0 : Nat) (A0 : Option Addr) (l : List UInt8)
    (hi : -9223372036854775808 ≤ i ∧ i ≤ 9223372036854775807) (hL : LiesL w (fun b => b < base) A 0 its) (hS : LiesS w (fun b => b < base) A' ks) (hkc : ks.length ≤ c') (hcm' : c' ≤ 9223372036854775807) (h1 : its.length ≤ c) (h2 : c ≤ 9223372036854775807) (hsz : sizes its ≤ m) (hw : alls okF its = true) (hf : okF (.mk 4 i t its ks) = true)
    (ho : w.ownsRow base 5 1 (.slice A0 n0 c0) n0 (l.map b8)) (hB : base ≤ w.heap.size) (hn : n0 + (VT.mk 4 i t its ks).enc.length ≤ 30000000000000) :
    Calls Try.prog 83 #[.slice A0 n0 c0, vag 4 i t A its.length c A' ks.length c'] w (App base (l ++ (VT.mk 4 i t its ks).enc) w) := by
  have HNN := Lib.hid hn
  obtain ⟨w1, hw1⟩ : ∃ w1, w1 = w.alloc (.cells #[.int .i64 4, .int .i64 i, .string t, .slice A its.length c, .slice A' ks.length c'] 26) := ⟨_, rfl⟩
  have P1 : Hid (Bk w1 w.heap.size 26 #[.int .i64 4, .int .i64 i, .string t, .slice A its.length c, .slice A' ks.length c']) := Lib.hid (by rw [hw1]; exact Bk.new _ _ _)
  have F1 : Hid (Frm base w w1) := Lib.hid (by rw [hw1]; exact Frm.of_below (below_one _ _) hB)
  have O1 := Lib.hid (ho.kept (grown_of_below (r := none) (hw1 ▸ below_one w _ : Below w.heap.size w w1)) (by cases h : (Value.slice A0 n0 c0).ownBlock <;> simp))
  have B1 := Lib.hid (Nat.le_trans hB F1.out.below.size)
  have LL := Lib.hid (own_len ho)
  have HA := Lib.hid (appendInt_v 4 O1.out B1.out (by omega) (by omega) (by omega))
  have HW := Lib.hid hw1
  have HE := Lib.hid (encIt (k := 4) (i := i) (t := t) (its := its) (ks := ks) (by omega))
  have HCC := Lib.hid (fun (W : World) (hb : Below base w W) (n2 c2 : Nat) (A2 : Option Addr) (l2 : List UInt8) (h5 : W.ownsRow base 5 1 (.slice A2 n2 c2) n2 (l2.map b8)) (h6 : base ≤ W.heap.size) (h7 : n2 + (Go.Proofs.Ytidinbeanaifmaa.enc (its.length : Nat) ++ encs false its ks).length ≤ 30000000000000) =>
    encItems_4 m IH i t its ks A c A' c' W base n2 c2 A2 l2 (hL.keep (fun p hp => hb.cell hp) (fun _ h => h)) h1 h2 hsz hw h5 h6 h7)
  clear hL hS hw hf ho hB hn hw1
  unfold vag
  go_enter Try.func83, Try.ntmps83
  go_wp2_with fail
  rw [← HW.out]
  refine (HA.out).mono ?_
  rintro e w2 ⟨A2, n2, c2, rfl, hl2, O2, F2, _, _⟩
  have P2 := Lib.hid (F2.out.keep _ _ _ P1.out (by decide))
  have FF := Lib.hid (F1.out.trans F2.out)
  have B2 := Lib.hid (Nat.le_trans B1.out F2.out.below.size)
  have p0 := P2.out.cell 0
  have p1 := P2.out.cell 1
  have p2 := P2.out.cell 2
  have p3 := P2.out.cell 3
  have p4 := P2.out.cell 4
  have HC := Lib.hid (HCC.out w2 FF.out.below n2 c2 A2 _ O2.out B2.out (by
    have h3 := hl2.out
    have h4 := HNN.out
    have h5 := LL.out
    rw [HE.out, List.length_append] at h4
    rw [List.length_append] at h3
    change n0 + ((Go.Proofs.Ytidinbeanaifmaa.enc 4).length + (Go.Proofs.Ytidinbeanaifmaa.enc (its.length : Nat) ++ encs false its ks).length) ≤ _ at h4
    omega))
  unfold vag at HC
  go_wp2_with fail
  refine (HC.out).mono ?_
  rintro e w3 ⟨A3, n3, c3, rfl, hl3, O3, F3, g1, g2⟩
  have FX := Lib.hid (FF.out.trans F3.out)
  clear p0 p1 p2 p3 p4
  go_wp2
  go_ret
  exact ⟨A3, n3, c3, rfl, Lib.hid (by rw [HE.out, ← List.append_assoc]; exact hl3.out), Lib.hid (by rw [HE.out, ← List.append_assoc]; exact O3.out), FX, g1, g2⟩

set_option maxRecDepth 100000 in
set_option maxHeartbeats 2000000 in
set_option linter.unusedVariables false in
theorem av_5 (m : Nat) (IH : Hid (EncUpto m)) (i : Int) (t : ByteArray) (its : List VT) (ks : List ByteArray) (A : Option Addr) (c : Nat) (A' : Option Addr) (c' : Nat) (w : World) (base n0 c0 : Nat) (A0 : Option Addr) (l : List UInt8)
    (hi : -9223372036854775808 ≤ i ∧ i ≤ 9223372036854775807) (hL : LiesL w (fun b => b < base) A 0 its) (hS : LiesS w (fun b => b < base) A' ks) (hkc : ks.length ≤ c') (hcm' : c' ≤ 9223372036854775807) (h1 : its.length ≤ c) (h2 : c ≤ 9223372036854775807) (hsz : sizes its ≤ m) (hw : alls okF its = true) (hf : okF (.mk 5 i t its ks) = true)
    (ho : w.ownsRow base 5 1 (.slice A0 n0 c0) n0 (l.map b8)) (hB : base ≤ w.heap.size) (hn : n0 + (VT.mk 5 i t its ks).enc.length ≤ 30000000000000) :
    Calls Try.prog 83 #[.slice A0 n0 c0, vag 5 i t A its.length c A' ks.length c'] w (App base (l ++ (VT.mk 5 i t its ks).enc) w) := by
  have HNN := Lib.hid hn
  obtain ⟨w1, hw1⟩ : ∃ w1, w1 = w.alloc (.cells #[.int .i64 5, .int .i64 i, .string t, .slice A its.length c, .slice A' ks.length c'] 26) := ⟨_, rfl⟩
  have P1 : Hid (Bk w1 w.heap.size 26 #[.int .i64 5, .int .i64 i, .string t, .slice A its.length c, .slice A' ks.length c']) := Lib.hid (by rw [hw1]; exact Bk.new _ _ _)
  have F1 : Hid (Frm base w w1) := Lib.hid (by rw [hw1]; exact Frm.of_below (below_one _ _) hB)
  have O1 := Lib.hid (ho.kept (grown_of_below (r := none) (hw1 ▸ below_one w _ : Below w.heap.size w w1)) (by cases h : (Value.slice A0 n0 c0).ownBlock <;> simp))
  have B1 := Lib.hid (Nat.le_trans hB F1.out.below.size)
  have LL := Lib.hid (own_len ho)
  have HA := Lib.hid (appendInt_v 5 O1.out B1.out (by omega) (by omega) (by omega))
  have HW := Lib.hid hw1
  have HE := Lib.hid (encIt (k := 5) (i := i) (t := t) (its := its) (ks := ks) (by omega))
  have HCC := Lib.hid (fun (W : World) (hb : Below base w W) (n2 c2 : Nat) (A2 : Option Addr) (l2 : List UInt8) (h5 : W.ownsRow base 5 1 (.slice A2 n2 c2) n2 (l2.map b8)) (h6 : base ≤ W.heap.size) (h7 : n2 + (Go.Proofs.Ytidinbeanaifmaa.enc (its.length : Nat) ++ encs true its ks).length ≤ 30000000000000) =>
    encItems_5 m IH i t its ks A c A' c' W base n2 c2 A2 l2 (hL.keep (fun p hp => hb.cell hp) (fun _ h => h)) (hS.keep (fun p hp => hb.cell hp) (fun _ h => h)) (wf_map hf).2.2 hkc hcm' h1 h2 hsz hw h5 h6 h7)
  clear hL hS hw hf ho hB hn hw1
  unfold vag
  go_enter Try.func83, Try.ntmps83
  go_wp2_with fail
  rw [← HW.out]
  refine (HA.out).mono ?_
  rintro e w2 ⟨A2, n2, c2, rfl, hl2, O2, F2, _, _⟩
  have P2 := Lib.hid (F2.out.keep _ _ _ P1.out (by decide))
  have FF := Lib.hid (F1.out.trans F2.out)
  have B2 := Lib.hid (Nat.le_trans B1.out F2.out.below.size)
  have p0 := P2.out.cell 0
  have p1 := P2.out.cell 1
  have p2 := P2.out.cell 2
  have p3 := P2.out.cell 3
  have p4 := P2.out.cell 4
  have HC := Lib.hid (HCC.out w2 FF.out.below n2 c2 A2 _ O2.out B2.out (by
    have h3 := hl2.out
    have h4 := HNN.out
    have h5 := LL.out
    rw [HE.out, List.length_append] at h4
    rw [List.length_append] at h3
    change n0 + ((Go.Proofs.Ytidinbeanaifmaa.enc 5).length + (Go.Proofs.Ytidinbeanaifmaa.enc (its.length : Nat) ++ encs true its ks).length) ≤ _ at h4
    omega))
  unfold vag at HC
  go_wp2_with fail
  refine (HC.out).mono ?_
  rintro e w3 ⟨A3, n3, c3, rfl, hl3, O3, F3, g1, g2⟩
  have FX := Lib.hid (FF.out.trans F3.out)
  clear p0 p1 p2 p3 p4
  go_wp2
  go_ret
  exact ⟨A3, n3, c3, rfl, Lib.hid (by rw [HE.out, ← List.append_assoc]; exact hl3.out), Lib.hid (by rw [HE.out, ← List.append_assoc]; exact O3.out), FX, g1, g2⟩

set_option maxRecDepth 100000 in
set_option maxHeartbeats 2000000 in
set_option linter.unusedVariables false in
theorem av_6 (m : Nat) (IH : Hid (EncUpto m)) (i : Int) (t : ByteArray) (its : List VT) (ks : List ByteArray) (A : Option Addr) (c : Nat) (A' : Option Addr) (c' : Nat) (w : World) (base n0 c0 : Nat) (A0 : Option Addr) (l : List UInt8)
    (hi : -9223372036854775808 ≤ i ∧ i ≤ 9223372036854775807) (hL : LiesL w (fun b => b < base) A 0 its) (hS : LiesS w (fun b => b < base) A' ks) (hkc : ks.length ≤ c') (hcm' : c' ≤ 9223372036854775807) (h1 : its.length ≤ c) (h2 : c ≤ 9223372036854775807) (hsz : sizes its ≤ m) (hw : alls okF its = true) (hf : okF (.mk 6 i t its ks) = true)
    (ho : w.ownsRow base 5 1 (.slice A0 n0 c0) n0 (l.map b8)) (hB : base ≤ w.heap.size) (hn : n0 + (VT.mk 6 i t its ks).enc.length ≤ 30000000000000) :
    Calls Try.prog 83 #[.slice A0 n0 c0, vag 6 i t A its.length c A' ks.length c'] w (App base (l ++ (VT.mk 6 i t its ks).enc) w) := by
  have HNN := Lib.hid hn
  obtain ⟨w1, hw1⟩ : ∃ w1, w1 = w.alloc (.cells #[.int .i64 6, .int .i64 i, .string t, .slice A its.length c, .slice A' ks.length c'] 26) := ⟨_, rfl⟩
  have P1 : Hid (Bk w1 w.heap.size 26 #[.int .i64 6, .int .i64 i, .string t, .slice A its.length c, .slice A' ks.length c']) := Lib.hid (by rw [hw1]; exact Bk.new _ _ _)
  have F1 : Hid (Frm base w w1) := Lib.hid (by rw [hw1]; exact Frm.of_below (below_one _ _) hB)
  have O1 := Lib.hid (ho.kept (grown_of_below (r := none) (hw1 ▸ below_one w _ : Below w.heap.size w w1)) (by cases h : (Value.slice A0 n0 c0).ownBlock <;> simp))
  have B1 := Lib.hid (Nat.le_trans hB F1.out.below.size)
  have LL := Lib.hid (own_len ho)
  have HA := Lib.hid (appendInt_v 6 O1.out B1.out (by omega) (by omega) (by omega))
  have HW := Lib.hid hw1
  have HE := Lib.hid (encI (k := 6) (i := i) (t := t) (its := its) (ks := ks) (by omega))
  have HI := Lib.hid hi
  clear hL hS hw hf ho hB hn hw1 hi
  unfold vag
  go_enter Try.func83, Try.ntmps83
  go_wp2_with fail
  rw [← HW.out]
  refine (HA.out).mono ?_
  rintro e w2 ⟨A2, n2, c2, rfl, hl2, O2, F2, _, _⟩
  have P2 := Lib.hid (F2.out.keep _ _ _ P1.out (by decide))
  have FF := Lib.hid (F1.out.trans F2.out)
  have B2 := Lib.hid (Nat.le_trans B1.out F2.out.below.size)
  have p0 := P2.out.cell 0
  have p1 := P2.out.cell 1
  have p2 := P2.out.cell 2
  have p3 := P2.out.cell 3
  have p4 := P2.out.cell 4
  have HC := Lib.hid (appendInt_v i O2.out B2.out (by
    have h3 := hl2.out
    have h4 := HNN.out
    have h5 := LL.out
    rw [HE.out, List.length_append] at h4
    rw [List.length_append] at h3
    omega) HI.out.1 HI.out.2)
  go_wp2_with fail
  refine (HC.out).mono ?_
  rintro e w3 ⟨A3, n3, c3, rfl, hl3, O3, F3, g1, g2⟩
  have FX := Lib.hid (FF.out.trans F3.out)
  clear p0 p1 p2 p3 p4
  go_wp2
  go_ret
  exact ⟨A3, n3, c3, rfl, Lib.hid (by rw [HE.out, ← List.append_assoc]; exact hl3.out), Lib.hid (by rw [HE.out, ← List.append_assoc]; exact O3.out), FX, g1, g2⟩

theorem valEnc_all (m : Nat) : EncUpto m := by
  induction m with
  | zero => intro x _ _ _ _ _ _ _ h; have := size_pos x; omega
  | succ m ih =>
    intro x w v base n c A l hsz hw hv ho hB hn
    have IH := Lib.hid ih
    obtain ⟨k, i, t, its, ks⟩ := x
    obtain ⟨A1, c1, A', c', rfl, _, hi, _, h1, h2, hL, h3, h4, hS⟩ := hv.open
    rw [VT.size_mk] at hsz
    rw [VT.all_mk, Bool.and_eq_true] at hw
    have hk := wf_kind hw.1
    obtain rfl | rfl | rfl | rfl | rfl | rfl | rfl : k = 0 ∨ k = 1 ∨ k = 2 ∨ k = 3 ∨ k = 4 ∨ k = 5 ∨ k = 6 := by omega
    · exact av_0 m IH i t its ks A1 c1 A' c' w base n c A l hi hL hS h3 h4 h1 h2 (by omega) hw.2 hw.1 ho hB hn
    · exact av_1 m IH i t its ks A1 c1 A' c' w base n c A l hi hL hS h3 h4 h1 h2 (by omega) hw.2 hw.1 ho hB hn
    · exact av_2 m IH i t its ks A1 c1 A' c' w base n c A l hi hL hS h3 h4 h1 h2 (by omega) hw.2 hw.1 ho hB hn
    · exact av_3 m IH i t its ks A1 c1 A' c' w base n c A l hi hL hS h3 h4 h1 h2 (by omega) hw.2 hw.1 ho hB hn
    · exact av_4 m IH i t its ks A1 c1 A' c' w base n c A l hi hL hS h3 h4 h1 h2 (by omega) hw.2 hw.1 ho hB hn
    · exact av_5 m IH i t its ks A1 c1 A' c' w base n c A l hi hL hS h3 h4 h1 h2 (by omega) hw.2 hw.1 ho hB hn
    · exact av_6 m IH i t its ks A1 c1 A' c' w base n c A l hi hL hS h3 h4 h1 h2 (by omega) hw.2 hw.1 ho hB hn

/-- the encoding of a well-formed value, and nothing of another one -/
def encOf (x : VT) : List UInt8 := if x.wf = true then x.enc else []
theorem encOf_yes {x : VT} (h : x.wf = true) : encOf x = x.enc := by unfold encOf; rw [if_pos h]
theorem encOf_no {x : VT} (h : x.wf = false) : encOf x = [] := by unfold encOf; rw [h]; rfl

set_option maxRecDepth 100000 in
set_option maxHeartbeats 2000000 in
theorem valEncode_any {A : Option Addr} {n c B : Nat} {l : List UInt8} {x : VT} {v : Value} {w : World} (hr : Rb w B A n l) (hB : B ≤ w.heap.size) (hv : Lies w (Lo w) x v) (hn : n + x.enc.length ≤ 30000000000000) :
    Calls Try.prog 46 #[.slice A n c, v] w (OwnRes w (l ++ encOf x)) := by
  obtain ⟨iB, hiB, hzB, hsB, hbB⟩ := info_parts Try.infob
  have HT := Lib.hid (fun (w' : World) (hb : Below w.heap.size w w') => wf_any (hv.below hb))
  have HE := Lib.hid (fun (w' : World) (hb : Below w.heap.size w w') (hx : x.all okF = true) (n2 c2 : Nat) (A2 : Option Addr) (l2 : List UInt8) (h5 : w'.ownsRow w.heap.size 5 1 (.slice A2 n2 c2) n2 (l2.map b8)) (h7 : n2 + x.enc.length ≤ 30000000000000) =>
    valEnc_all x.size x w' v w.heap.size n2 c2 A2 l2 (Nat.le_refl _) hx (hv.keep (fun p hp => hb.cell hp) (fun _ h => h)) h5 hb.size h7)
  have HY := Lib.hid (encOf_yes (x := x))
  have HN := Lib.hid (encOf_no (x := x))
  have HR := Lib.hid hr
  have HLN := Lib.hid hn
  have HBN := Lib.hid hB
  obtain ⟨k, i, t, its, ks⟩ := x
  obtain ⟨A1, c1, A', c', rfl, _, _, _, _, _, _, _, _, _⟩ := hv.open
  have hnb : n ≤ 30000000000000 := by omega
  clear hv hr hn
  generalize hx : VT.mk k i t its ks = x at *
  clear hx
  unfold VT.wf at *
  generalize hb : x.all okF = b at *
  have HBE := Lib.hid hb
  clear hb
  obtain ⟨w1, hw1⟩ : ∃ w1, w1 = w.alloc (.cells #[.int .i64 k, .int .i64 i, .string t, .slice A1 its.length c1, .slice A' ks.length c'] 26) := ⟨_, rfl⟩
  have P1 : Hid (Bk w1 w.heap.size 26 #[.int .i64 k, .int .i64 i, .string t, .slice A1 its.length c1, .slice A' ks.length c']) := Lib.hid (by rw [hw1]; exact Bk.new _ _ _)
  have B1 : Hid (Below w.heap.size w w1) := Lib.hid (by rw [hw1]; exact below_one _ _)
  have HW := Lib.hid hw1
  clear hw1 hB
  unfold vag at *
  go_enter Try.func46, Try.ntmps46
  go_wp2_with (at_make; rw [← HW.out]; refine wpList_make_own _ rfl _ _ 50 rfl w.heap.size 5 iB (.int .u8 0) 1 Try.underlying50 hiB hzB hsB _ _ _ n rfl rfl ?_ ?_ ?_ ?_ ?_)
  · rfl
  · rw [hbB]; omega
  · unfold maxLen; omega
  · exact B1.out.size
  · intro w2 hown hg
    have H2 := Lib.hid hown
    have B2 := Lib.hid (B1.out.grown hg B1.out.size (fun k hk => by cases hk))
    have P2 := Lib.hid (P1.out.grown hg (by simp))
    clear hown hg
    go_wp2_with (at_builtin; refine wpList_append_b8 rfl _ _ 50 rfl w.heap.size 5 iB (.int .u8 0) Try.underlying50 hiB hzB hsB hbB rfl _ 0 [] rfl H2.out B A n c l rfl (HR.out.below (B2.out.mono HBN.out)) ?_ ?_ ?_)
    · omega
    · exact B2.out.size
    · intro v3 w3 hown hg
      have hown' : w3.ownsRow w.heap.size 5 1 v3 n (l.map b8) := by simpa using hown
      obtain ⟨A3, c3, rfl, g1, g2⟩ := own_form hown'
      have O3 := Lib.hid hown'
      have B3 := Lib.hid (B2.out.grown hg B2.out.size (fun k hk => (H2.out.lt k hk).1))
      have FR3 := Lib.hid (Frm.of_grown hg H2.out B2.out.size)
      have P3 := Lib.hid (FR3.out.keep _ _ _ P2.out (by decide))
      have p0 := P3.out.cell 0
      have p1 := P3.out.cell 1
      have p2 := P3.out.cell 2
      have p3 := P3.out.cell 3
      have p4 := P3.out.cell 4
      have T3 := Lib.hid (HT.out w3 B3.out)
      clear hown hown' hg
      go_wp2_with fail
      refine (T3.out).mono ?_
      rintro e w4 ⟨rfl, hb⟩
      have O4 := Lib.hid (O3.out.kept (grown_of_below (r := none) hb) (by cases h : (Value.slice A3 n c3).ownBlock <;> simp))
      have B4 := Lib.hid (B3.out.trans (hb.mono B3.out.size))
      have P4 := Lib.hid (P3.out.below hb P3.out.lt)
      clear hb p0 p1 p2 p3 p4
      cases b with
      | false =>
        have R := Lib.hid (HN.out rfl)
        clear HN HY HE HT T3
        go_wp2
        go_ret
        exact ⟨_, rfl, by rw [R.out, List.append_nil]; have := own_len O4.out; rw [this]; exact O4.out, B4.out⟩
      | true =>
        have R := Lib.hid (HY.out rfl)
        have E4 := Lib.hid (HE.out w4 B4.out rfl n c3 A3 l O4.out HLN.out)
        have p0 := P4.out.cell 0
        have p1 := P4.out.cell 1
        have p2 := P4.out.cell 2
        have p3 := P4.out.cell 3
        have p4 := P4.out.cell 4
        clear HN HY HE HT T3
        go_wp2_with fail
        refine (E4.out).mono ?_
        rintro e w5 ⟨A5, n5, c5, rfl, hl5, O5, F5, _, _⟩
        have B5 := Lib.hid (B4.out.trans F5.out.below)
        clear p0 p1 p2 p3 p4
        go_wp2
        go_ret
        exact ⟨_, rfl, by rw [R.out, hl5.out]; exact O5.out, B5.out⟩
end Go.Proofs.Ytidinbeanaifmaa
namespace Go.Proofs.Ytidinbeanaifmaa
open Go.RowKit

theorem conv_rb {w : World} {B n : Nat} {A : Option Addr} {l : List UInt8} (c : Nat) (h : Rb w B A n l) : (convert 50 9 (.slice A n c)).run Try.prog w = .ok (.string ⟨l.toArray⟩) w := by
  have hl := h.len
  cases A with
  | none =>
    have h0 : l = [] := by
      cases l with
      | nil => rfl
      | cons x r => obtain ⟨g, o, e, _⟩ := h.2 (by simp); cases e
    subst h0
    obtain rfl : n = 0 := by simpa using hl.symm
    simp [convert, run_underlying Try.underlying50, run_underlying Try.underlying9, run_underlying Try.underlying5, Conv.bytesToString]
    rfl
  | some a =>
    subst hl
    refine run_convert_bytes_back w 50 9 5 a c l Try.underlying50 Try.underlying5 Try.underlying9 (fun j hj => ?_)
    obtain ⟨g, o, e, _, hc⟩ := h.2 (by intro e; subst e; simp at hj)
    injection e with e
    subst e
    rw [Addr.add_lit]
    exact hc j _ (List.getElem?_eq_getElem hj)
end Go.Proofs.Ytidinbeanaifmaa
namespace Go.Proofs.Ytidinbeanaifmaa

def kA : ByteArray := ⟨#[97]⟩
def kB : ByteArray := ⟨#[98]⟩
def iT (n : Int) : VT := .mk 2 n ⟨#[]⟩ [] []
def xT (s : ByteArray) : VT := .mk 3 0 s [] []
def mT : VT := .mk 5 0 ⟨#[]⟩ [iT 2, iT 1] [kA, kB]
theorem less_ab : less kA kB = true := by unfold less; rw [ByteArray.toList_eq, ByteArray.toList_eq]; rfl
theorem less_self (a : ByteArray) : less a a = false := bl_irrefl _
theorem rise2 (a b : ByteArray) : rising [a, b] = (less a b && true) := rfl
theorem perm2 {α : Type} {l : List α} {x y : α} (h : l.Perm [x, y]) : l = [x, y] ∨ l = [y, x] := by
  have hl := h.length_eq
  match l, hl with
  | [p, q], _ =>
    have hp : p ∈ [x, y] := h.mem_iff.1 (by simp)
    simp only [List.mem_cons, List.not_mem_nil, or_false] at hp
    rcases hp with rfl | rfl
    · have := (List.perm_cons p).1 h
      rw [List.perm_singleton] at this
      injection this with this
      left; rw [this]
    · have := (List.perm_cons p).1 (h.trans (List.Perm.swap _ _ _))
      rw [List.perm_singleton] at this
      injection this with this
      right; rw [this]
theorem sorts_ba {es : List (ByteArray × VT)} (h : Sorts [kB, kA] [iT 1, iT 2] es) : es = [(kA, iT 2), (kB, iT 1)] := by
  rcases perm2 h.1 with h1 | h1
  · have := h.2 0 1 (by omega) (by rw [h1]; decide)
    rw [h1] at this
    exact absurd (less_ab.symm.trans this) (by decide)
  · exact h1
theorem within_m : mT.within = true := by rfl
theorem map_ba {es : List (ByteArray × VT)} (h : Sorts [kB, kA] [iT 1, iT 2] es) : mapV es = mT ∧ mapE es = 0 := by
  rw [sorts_ba h]
  have e : rising (List.map (·.1) [(kA, iT 2), (kB, iT 1)]) = true := by
    show rising [kA, kB] = true
    rw [rise2, less_ab]; rfl
  unfold mapV mapE
  rw [if_pos e, if_pos e]
  exact limT_yes within_m
theorem map_aa {es : List (ByteArray × VT)} (h : Sorts [kA, kA] [iT 1, iT 2] es) : mapE es = 9 := by
  have e : rising (es.map (·.1)) = false := by
    rcases perm2 h.1 with h1 | h1
    · rw [h1]
      show rising [kA, kA] = false
      rw [rise2, less_self]; rfl
    · rw [h1]
      show rising [kA, kA] = false
      rw [rise2, less_self]; rfl
  unfold mapE
  rw [e]
  rfl
theorem iT_wf (n : Int) : (iT n).all okF = true := by unfold iT; rw [VT.all_mk, okF_2]; rfl
theorem xT_wf (s : ByteArray) : (xT s).all okF = true := by unfold xT; rw [VT.all_mk, okF_3]; rfl
theorem isMap_m : isMapT mT = true := by
  unfold isMapT VT.wf mT VT.k
  rw [VT.all_mk, okF_5, rise2, less_ab]
  unfold alls alls alls
  rw [iT_wf, iT_wf]
  rfl
theorem get_a {y : VT} {b : Bool} (h : GetSpec mT kA y b) : y = iT 2 ∧ b = true := by
  rcases h with ⟨h, _⟩ | ⟨_, p, hp, rfl, h1, _⟩
  · rw [isMap_m] at h; cases h
  · have h0 : p = 0 := by
      rcases Nat.eq_zero_or_pos p with h | h
      · exact h
      · have := hp.2.1 0 h
        exact absurd ((less_self kA).symm.trans this) (by decide)
    subst h0
    have ha : isAt mT.ks kA 0 = true := by
      unfold isAt
      rw [decide_eq_true (show 0 < mT.ks.length by decide), decide_eq_true (show mT.ks.getD 0 ByteArray.empty = kA from rfl)]
      rfl
    have := h1 ha
    exact ⟨by injection this.symm, ha⟩
def lT : VT := .mk 4 0 ⟨#[]⟩ [iT 5, xT ⟨#[120]⟩] []
theorem lT_wf : lT.wf = true := by
  unfold lT VT.wf
  rw [VT.all_mk, okF_4]
  unfold alls alls alls
  rw [iT_wf, xT_wf]
  rfl
theorem enc_l : encOf lT = [8, 4, 4, 10, 6, 2, 120] := by rw [encOf_yes lT_wf]; decide
theorem ord_9 : (iT 9).ord (xT ⟨#[]⟩) = -1 := by
  unfold VT.ord VT.wf
  rw [iT_wf, xT_wf]
  unfold iT xT
  rw [VT.cmp_mk]
  rfl
end Go.Proofs.Ytidinbeanaifmaa
namespace Go.Proofs.Ytidinbeanaifmaa
open Go.RowKit

def iV (n : Int) : Value := .agg #[.int .i64 2, .int .i64 n, .string ⟨#[]⟩, .slice none 0 0, .slice none 0 0]
def xV (s : ByteArray) : Value := .agg #[.int .i64 3, .int .i64 0, .string s, .slice none 0 0, .slice none 0 0]
theorem iT_lies (w : World) (R : Nat → Prop) (n : Int) (h : -9223372036854775808 ≤ n ∧ n ≤ 9223372036854775807) : Lies w R (iT n) (iV n) := by
  unfold iT
  rw [Lies]
  exact ⟨none, 0, none, 0, rfl, by omega, h, by decide, Nat.le_refl _, by omega, LiesL.none_, Nat.le_refl _, by omega, LiesS.none_⟩
theorem xT_lies (w : World) (R : Nat → Prop) (s : ByteArray) (h : s.size ≤ 9223372036854775807) : Lies w R (xT s) (xV s) := by
  unfold xT
  rw [Lies]
  exact ⟨none, 0, none, 0, rfl, by omega, by omega, h, Nat.le_refl _, by omega, LiesL.none_, Nat.le_refl _, by omega, LiesS.none_⟩
/-- two strings in a block -/
theorem strs2 {w : World} {g : Nat} {t : TypeId} {a b : ByteArray} (h : Bk w g t #[.string a, .string b]) (ha : a.size ≤ 9223372036854775807) (hb : b.size ≤ 9223372036854775807) : LiesS w (Lo w) (some ⟨g, 0, none⟩) [a, b] := by
  intro j s hj
  match j with
  | 0 => simp at hj; subst hj; exact ⟨ha, g, 0, rfl, h.lt, h.cell 0⟩
  | 1 => simp at hj; subst hj; exact ⟨hb, g, 0, rfl, h.lt, h.cell 1⟩
  | j + 2 => simp at hj
/-- two values in a block -/
theorem vals2 {w : World} {g : Nat} {t : TypeId} {x y : VT} {a b s p q a' b' s' p' q' : Value} (h : Bk w g t #[a, b, s, p, q, a', b', s', p', q']) (hx : Lies w (Lo w) x (.agg #[a, b, s, p, q])) (hy : Lies w (Lo w) y (.agg #[a', b', s', p', q'])) :
    LiesL w (Lo w) (some ⟨g, 0, none⟩) 0 [x, y] := by
  rw [LiesL, LiesL, LiesL]
  exact ⟨⟨g, 0, a, b, s, p, q, rfl, h.lt, h.cell 0, h.cell 1, h.cell 2, h.cell 3, h.cell 4, hx⟩, ⟨g, 0, a', b', s', p', q', rfl, h.lt, h.cell 5, h.cell 6, h.cell 7, h.cell 8, h.cell 9, hy⟩, trivial⟩

set_option maxRecDepth 100000 in
set_option maxHeartbeats 8000000 in
theorem works_any (w : World) : Calls Try.prog 12 #[] w (Gives (.bool true) w) := by
  go_enter Try.func12, Try.ntmps12
  go_wp2_with fail
  refine (Int_any 1 _).mono ?_
  rintro e w1 ⟨rfl, hb1⟩
  have K1 : Hid (Bk w1 w.heap.size 9 #[.string kB, .string kA]) := Lib.hid ((Bk.new w _ _).below hb1 (by simp))
  have B1 : Hid (Below w.heap.size w w1) := Lib.hid (below_via (Below.refl _ _) hb1)
  clear hb1
  go_wp2_with fail
  refine (Int_any 2 _).mono ?_
  rintro e w2 ⟨rfl, hb⟩
  have K2 := Lib.hid (K1.out.below hb K1.out.lt)
  have B2 := Lib.hid (below_next B1.out hb)
  clear hb
  obtain ⟨w3, hw3⟩ : ∃ w3, w3 = w2.alloc (.cells #[.int .i64 2, .int .i64 1, .string ⟨#[]⟩, .slice none 0 0, .slice none 0 0, .int .i64 2, .int .i64 2, .string ⟨#[]⟩, .slice none 0 0, .slice none 0 0] 26) := ⟨_, rfl⟩
  have K3 : Hid (Bk w3 w.heap.size 9 #[.string kB, .string kA]) := Lib.hid (by rw [hw3]; exact K2.out.alloc _)
  have V3 : Hid (Bk w3 w2.heap.size 26 #[.int .i64 2, .int .i64 1, .string ⟨#[]⟩, .slice none 0 0, .slice none 0 0, .int .i64 2, .int .i64 2, .string ⟨#[]⟩, .slice none 0 0, .slice none 0 0]) := Lib.hid (by rw [hw3]; exact Bk.new _ _ _)
  have B3 : Hid (Below w.heap.size w w3) := Lib.hid (by rw [hw3]; exact B2.out.alloc B2.out.size _)
  have M3 := Lib.hid (Map_any (some ⟨w.heap.size, 0, none⟩) 2 [kB, kA] (some ⟨w2.heap.size, 0, none⟩) 2 [iT 1, iT 2] w3 (strs2 K3.out (by decide) (by decide)) (vals2 V3.out (iT_lies _ _ 1 (by omega)) (iT_lies _ _ 2 (by omega))) (Nat.le_refl _) (Nat.le_refl _) (by decide) (by decide))
  have HW3 := Lib.hid hw3
  clear hw3
  go_wp2_with fail
  rw [← HW3.out]
  refine (M3.out).mono ?_
  rintro e w4 ⟨y, r, hsp, v, rfl, hov, hb⟩
  obtain ⟨rfl, rfl⟩ : y = mT ∧ r = 0 := by
    rcases hsp with ⟨h, _⟩ | ⟨_, es, he, rfl, rfl⟩
    · exact absurd rfl h
    · exact map_ba he
  obtain ⟨mk, mi, mt, mA, mn, mc, mA', mn', mc', rfl⟩ := hov.form
  have MO := Lib.hid hov.lies
  have B4 := Lib.hid (below_next B3.out hb)
  clear hsp hov hb M3
  go_wp2_with fail
  refine (Int_any 1 _).mono ?_
  rintro e w5 ⟨rfl, hb⟩
  have b45 : Below w4.heap.size w4 w5 := ((below_one w4 _).trans (Below.alloc (Below.refl _ _) (by simp) _)).trans (hb.mono (Nat.le_trans (Nat.le_succ _) (by simp)))
  have MB5 : Hid (Bk w5 w4.heap.size 26 #[.int .i64 mk, .int .i64 mi, .string mt, .slice mA mn mc, .slice mA' mn' mc']) := Lib.hid (((Bk.new w4 _ _).alloc _).below hb (by simp; omega))
  have K5 : Hid (Bk w5 (w4.heap.size + 1) 9 #[.string kA, .string kA]) := Lib.hid (by
    have h := Bk.new (w4.alloc (.cells #[.int .i64 mk, .int .i64 mi, .string mt, .slice mA mn mc, .slice mA' mn' mc'] 26)) 9 #[.string kA, .string kA]
    have e : (w4.alloc (.cells #[.int .i64 mk, .int .i64 mi, .string mt, .slice mA mn mc, .slice mA' mn' mc'] 26)).heap.size = w4.heap.size + 1 := by simp
    rw [e] at h
    exact h.below hb (by simp))
  have MO5 := Lib.hid (MO.out.below b45)
  have B5 := Lib.hid (below_next B4.out b45)
  clear hb b45
  go_wp2_with fail
  refine (Int_any 2 _).mono ?_
  rintro e w6 ⟨rfl, hb⟩
  have K6 := Lib.hid (K5.out.below hb K5.out.lt)
  have MB6 := Lib.hid (MB5.out.below hb MB5.out.lt)
  have MO6 := Lib.hid (MO5.out.below hb)
  have B6 := Lib.hid (below_next B5.out hb)
  clear hb
  obtain ⟨w7, hw7⟩ : ∃ w7, w7 = w6.alloc (.cells #[.int .i64 2, .int .i64 1, .string ⟨#[]⟩, .slice none 0 0, .slice none 0 0, .int .i64 2, .int .i64 2, .string ⟨#[]⟩, .slice none 0 0, .slice none 0 0] 26) := ⟨_, rfl⟩
  have K7 : Hid (Bk w7 (w4.heap.size + 1) 9 #[.string kA, .string kA]) := Lib.hid (by rw [hw7]; exact K6.out.alloc _)
  have V7 : Hid (Bk w7 w6.heap.size 26 #[.int .i64 2, .int .i64 1, .string ⟨#[]⟩, .slice none 0 0, .slice none 0 0, .int .i64 2, .int .i64 2, .string ⟨#[]⟩, .slice none 0 0, .slice none 0 0]) := Lib.hid (by rw [hw7]; exact Bk.new _ _ _)
  have MB7 := Lib.hid (show Bk w7 _ _ _ from by rw [hw7]; exact MB6.out.alloc _)
  have MO7 := Lib.hid (MO6.out.below (by rw [hw7]; exact below_one _ _ : Below w6.heap.size w6 w7))
  have B7 : Hid (Below w.heap.size w w7) := Lib.hid (by rw [hw7]; exact B6.out.alloc B6.out.size _)
  have M7 := Lib.hid (Map_any (some ⟨w4.heap.size + 1, 0, none⟩) 2 [kA, kA] (some ⟨w6.heap.size, 0, none⟩) 2 [iT 1, iT 2] w7 (strs2 K7.out (by decide) (by decide)) (vals2 V7.out (iT_lies _ _ 1 (by omega)) (iT_lies _ _ 2 (by omega))) (Nat.le_refl _) (Nat.le_refl _) (by decide) (by decide))
  have HW7 := Lib.hid hw7
  clear hw7
  go_wp2_with fail
  rw [← HW7.out]
  refine (M7.out).mono ?_
  rintro e w8 ⟨y, r, hsp, v, rfl, hov, hb⟩
  obtain rfl : r = 9 := by
    rcases hsp with ⟨h, _⟩ | ⟨_, es, he, rfl, rfl⟩
    · exact absurd rfl h
    · exact map_aa he
  obtain ⟨nk, ni, nt, nA, nn, nc, nA', nn', nc', rfl⟩ := hov.form
  have MB8 := Lib.hid (MB7.out.below hb MB7.out.lt)
  have MO8 := Lib.hid (MO7.out.below hb)
  have B8 := Lib.hid (below_next B7.out hb)
  clear hsp hov hb M7
  obtain ⟨w9, hw9⟩ : ∃ w9, w9 = w8.alloc (.cells #[.int .i64 nk, .int .i64 ni, .string nt, .slice nA nn nc, .slice nA' nn' nc'] 26) := ⟨_, rfl⟩
  have B89 : Hid (Below w8.heap.size w8 w9) := Lib.hid (by rw [hw9]; exact below_one _ _)
  have MB9 := Lib.hid (MB8.out.below B89.out MB8.out.lt)
  have MO9 := Lib.hid (MO8.out.below B89.out)
  have B9 := Lib.hid (below_next B8.out B89.out)
  have G9 := Lib.hid (Get_any kA MO9.out (by decide))
  have c0 := MB9.out.cell 0
  have c1 := MB9.out.cell 1
  have c2 := MB9.out.cell 2
  have c3 := MB9.out.cell 3
  have c4 := MB9.out.cell 4
  change _ = some (Value.int .i64 mk) at c0
  change _ = some (Value.int .i64 mi) at c1
  change _ = some (Value.string mt) at c2
  change _ = some (Value.slice mA mn mc) at c3
  change _ = some (Value.slice mA' mn' mc') at c4
  rw [hw9] at c0 c1 c2 c3 c4
  have HW9 := Lib.hid hw9
  clear hw9
  go_wp2_with fail
  rw [← HW9.out]
  refine (G9.out).mono ?_
  rintro e w10 ⟨y, b, hsp, v, rfl, hov, hb⟩
  obtain ⟨rfl, rfl⟩ := get_a hsp
  obtain ⟨xk, xi, xt, xA, xn, xc, xA', xn', xc', rfl⟩ := hov.form
  have XO := Lib.hid hov.lies
  have B10 := Lib.hid (below_next B9.out hb)
  clear hsp hov hb c0 c1 c2 c3 c4 G9
  go_wp2_with fail
  refine (Int_any 5 _).mono ?_
  rintro e w11 ⟨rfl, hb⟩
  have XB11 : Hid (Bk w11 w10.heap.size 26 #[.int .i64 xk, .int .i64 xi, .string xt, .slice xA xn xc, .slice xA' xn' xc']) := Lib.hid ((Bk.new w10 _ _).below hb (by simp))
  have b11 : Below w10.heap.size w10 w11 := below_via (Below.refl _ _) hb
  have XO11 := Lib.hid (XO.out.below b11)
  have B11 := Lib.hid (below_next B10.out b11)
  clear hb b11
  go_wp2_with fail
  refine (Text_any ⟨#[120]⟩ _).mono ?_
  rintro e w12 ⟨rfl, hb⟩
  have XB12 := Lib.hid (XB11.out.below hb XB11.out.lt)
  have XO12 := Lib.hid (XO11.out.below hb)
  have B12 := Lib.hid (below_next B11.out hb)
  clear hb
  obtain ⟨w13, hw13⟩ : ∃ w13, w13 = w12.alloc (.cells #[.int .i64 2, .int .i64 5, .string ⟨#[]⟩, .slice none 0 0, .slice none 0 0, .int .i64 3, .int .i64 0, .string ⟨#[120]⟩, .slice none 0 0, .slice none 0 0] 26) := ⟨_, rfl⟩
  have V13 : Hid (Bk w13 w12.heap.size 26 #[.int .i64 2, .int .i64 5, .string ⟨#[]⟩, .slice none 0 0, .slice none 0 0, .int .i64 3, .int .i64 0, .string ⟨#[120]⟩, .slice none 0 0, .slice none 0 0]) := Lib.hid (by rw [hw13]; exact Bk.new _ _ _)
  have b13 : Below w12.heap.size w12 w13 := by rw [hw13]; exact below_one _ _
  have XB13 := Lib.hid (XB12.out.below b13 XB12.out.lt)
  have XO13 := Lib.hid (XO12.out.below b13)
  have B13 := Lib.hid (below_next B12.out b13)
  have L13 := Lib.hid (List_any (A := some ⟨w12.heap.size, 0, none⟩) (c := 2) (its := [iT 5, xT ⟨#[120]⟩]) (w := w13) (vals2 V13.out (iT_lies _ _ 5 (by omega)) (xT_lies _ _ _ (by decide))) (Nat.le_refl _) (by omega) (by decide) (by decide))
  have HW13 := Lib.hid hw13
  clear hw13 b13
  go_wp2_with fail
  rw [← HW13.out]
  refine (L13.out).mono ?_
  rintro e w14 ⟨v, rfl, hov, hb⟩
  have XB14 := Lib.hid (XB13.out.below hb XB13.out.lt)
  have XO14 := Lib.hid (XO13.out.below hb)
  have B14 := Lib.hid (below_next B13.out hb)
  have E14 := Lib.hid (valEncode_any (A := none) (n := 0) (c := 0) (B := 0) (l := []) (Rb.nil0 w14 0) (Nat.zero_le _) hov.lies (by decide))
  clear hov hb L13
  go_wp2_with fail
  refine (E14.out).mono ?_
  intro e w15 hq
  obtain ⟨A2, n2, c2, rfl, hl2, hc2, hm2, R2, O2, hb⟩ := own_named hq
  have XB15 := Lib.hid (XB14.out.below hb.out XB14.out.lt)
  have XO15 := Lib.hid (XO14.out.below hb.out)
  have B15 := Lib.hid (below_next B14.out hb.out)
  have HCV : ∀ q : BelowBy w15, (convert 50 9 (.slice A2 n2 c2)).run Try.prog q.val = .ok (.string ⟨#[8, 4, 4, 10, 6, 2, 120]⟩) q.val := fun q => by
    have h := conv_rb c2 (R2.out.below q.below)
    rw [List.nil_append, show encOf (.mk 4 0 ⟨#[]⟩ [iT 5, xT ⟨#[120]⟩] []) = [8, 4, 4, 10, 6, 2, 120] from enc_l] at h
    exact h
  have HSM : Hid (∀ q : BelowBy w15, Calls Try.prog 32 #[.agg #[.int .i64 xk, .int .i64 xi, .string xt, .slice xA xn xc, .slice xA' xn' xc'], iV 2] q.val (Gives (.bool true) q.val)) := Lib.hid (fun q => by
    have h := valSame_all (iT 2).size (iT 2) (iT 2) q.val _ (iV 2) (Nat.le_refl _) (XO15.out.below q.below) (iT_lies _ _ 2 (by omega))
    rwa [eqB_true rfl] at h)
  have HOR : Hid (∀ q : BelowBy w15, Calls Try.prog 37 #[iV 9, xV ⟨#[]⟩] q.val (Gives (.int .i64 (-1)) q.val)) := Lib.hid (fun q => by
    have h := valOrder_any (iT_lies q.val (Lo q.val) 9 (by omega)) (xT_lies q.val (Lo q.val) ⟨#[]⟩ (by decide))
    rwa [ord_9] at h)
  unfold iV at HSM
  unfold iV xV at HOR
  have x0 := BelowBy.cell (show w15.cell? ⟨w10.heap.size, 0, none⟩ = some (.int .i64 xk) from XB15.out.cell 0)
  have x1 := BelowBy.cell (show w15.cell? ⟨w10.heap.size, 1, none⟩ = some (.int .i64 xi) from XB15.out.cell 1)
  have x2 := BelowBy.cell (show w15.cell? ⟨w10.heap.size, 2, none⟩ = some (.string xt) from XB15.out.cell 2)
  have x3 := BelowBy.cell (show w15.cell? ⟨w10.heap.size, 3, none⟩ = some (.slice xA xn xc) from XB15.out.cell 3)
  have x4 := BelowBy.cell (show w15.cell? ⟨w10.heap.size, 4, none⟩ = some (.slice xA' xn' xc') from XB15.out.cell 4)
  clear hq E14 hb
  go_wp2_with fail
  refine wp_region_gives (by kernel_rfl) (by kernel_rfl) ?_
  repeat (quiet_step ((first | (go_at_call 22; exact gives_by (Int_any _ _)) | (go_at_call 18; exact gives_by (Text_any _ _)) | (go_at_call 32; exact gives_by (HSM.out _)) | (go_at_call 37; exact gives_by (HOR.out _)))))
  refine wpQuiet_nil ?_
  intro _ hw'
  obtain ⟨q, rfl⟩ := hw'
  go_wp2
  go_ret
  exact ⟨rfl, below_next B15.out q.below⟩
end Go.Proofs.Ytidinbeanaifmaa
namespace Go.Proofs.Ytidinbeanaifmaa.opens
open Go.ChangeShapes Go.WideShapes Go.ChangeAt Go.RowKit Go.Deep

theorem Try.vcells : Try.prog.cellsOf 26 = 5 := by kernel_rfl
theorem Try.icells : Try.prog.cellsOf 3 = 1 := by kernel_rfl
theorem Try.scells : Try.prog.cellsOf 9 = 1 := by kernel_rfl
theorem Try.lcells : Try.prog.cellsOf 23 = 1 := by kernel_rfl
theorem Try.kcells : Try.prog.cellsOf 22 = 1 := by kernel_rfl

theorem ints64 {a : Int} (h : (Lit.int .i64 a).wf = true) : -9223372036854775808 ≤ a ∧ a ≤ 9223372036854775807 := by
  simpa [Lit.wf, IntKind.min, IntKind.max, IntKind.signed, IntKind.bits] using h

theorem spot_zero {w : World} {a : Addr} {v : Value} (h : w.cell? (a.add 0) = some v) : a.spot = none := by
  have h1 := World.cell?_spot h
  simpa [Addr.add] using h1
section
variable {H : Type} {enc : TypeId × Value → H} {W : World} {base : Nat} {spare : Nat → Bool} {held : Bool}
theorem strs_lie {n : Nat} {cs : List Value} {y : DataW H × List MemPlace} (h : DataW.trod enc Try.prog W base spare held n 22 cs = some y) :
    ∃ A m c ks, cs = [.slice A m c] ∧ ks.length = m ∧ m ≤ c ∧ c ≤ 9223372036854775807 ∧ LiesS W (Lo W) A ks := by
  rcases open_strings Try.underlying22 Try.underlying9 Try.scells h with ⟨rfl, _⟩ | ⟨a, len, cap, ss, rfl, _, hl, hm, hss, _, hc, hsz⟩
  · exact ⟨none, 0, 0, [], rfl, rfl, Nat.le_refl _, by omega, LiesS.none_⟩
  · unfold maxLen at hm hsz
    have hle : len ≤ ss.length := by rw [hss]; split <;> omega
    refine ⟨some a, len, cap, ss.take len, rfl, by rw [List.length_take]; omega, hl, hm, fun j s hj => ?_⟩
    have hj' : ss[j]? = some s := by
      rw [List.getElem?_take] at hj
      split at hj
      · exact hj
      · cases hj
    have hlt := (List.getElem?_eq_some_iff.1 hj').1
    have h1 := hc j hlt
    rw [List.getD_eq_getElem?_getD, hj'] at h1
    have hspot := spot_zero (hc 0 (by omega))
    obtain ⟨g, o, spot⟩ := a
    have hspot : spot = none := hspot
    subst hspot
    rw [Addr.add_lit] at h1
    exact ⟨hsz s (List.mem_of_getElem? hj'), g, o, rfl, World.block_lt_of_cell? W _ h1, h1⟩

set_option maxRecDepth 100000 in
theorem value_lies : ∀ (fuel : Nat) (cs : List Value) (y : DataW H × List MemPlace), DataW.trod enc Try.prog W base spare held fuel 26 cs = some y →
    ∃ (x : VT) (a b s p q : Value), cs = [a, b, s, p, q] ∧ Lies W (Lo W) x (.agg #[a, b, s, p, q]) := by
  intro fuel
  induction fuel using Nat.strongRecOn with
  | ind fuel ih =>
    intro cs y h
    obtain ⟨xs, n, rfl, _, hl, hx, hf⟩ := DataW.trod_struct Try.underlying26 h
    rw [Try.vcells] at hl
    match cs, hl with
    | [a, b, s, p, q], _ =>
      match xs, hx with
      | [x0, x1, x2, x3, x4], _ =>
        have f0 := hf 0 _ rfl
        have f1 := hf 1 _ rfl
        have f2 := hf 2 _ rfl
        have f3 := hf 3 _ rfl
        have f4 := hf 4 _ rfl
        change DataW.trod enc Try.prog W base spare held n 3 (([a, b, s, p, q].drop 0).take (Try.prog.cellsOf 3)) = some x0 at f0
        rw [Try.icells] at f0
        change DataW.trod enc Try.prog W base spare held n 3 (([a, b, s, p, q].drop 1).take (Try.prog.cellsOf 3)) = some x1 at f1
        rw [Try.icells] at f1
        change DataW.trod enc Try.prog W base spare held n 9 (([a, b, s, p, q].drop 2).take (Try.prog.cellsOf 9)) = some x2 at f2
        rw [Try.scells] at f2
        change DataW.trod enc Try.prog W base spare held n 23 (([a, b, s, p, q].drop 3).take (Try.prog.cellsOf 23)) = some x3 at f3
        rw [Try.lcells] at f3
        change DataW.trod enc Try.prog W base spare held n 22 (([a, b, s, p, q].drop 4).take (Try.prog.cellsOf 22)) = some x4 at f4
        rw [Try.kcells] at f4
        change DataW.trod enc Try.prog W base spare held n 3 [a] = some x0 at f0
        change DataW.trod enc Try.prog W base spare held n 3 [b] = some x1 at f1
        change DataW.trod enc Try.prog W base spare held n 9 [s] = some x2 at f2
        change DataW.trod enc Try.prog W base spare held n 23 [p] = some x3 at f3
        change DataW.trod enc Try.prog W base spare held n 22 [q] = some x4 at f4
        obtain ⟨k, hk, _, wk⟩ := DataW.trod_int Try.underlying3 f0
        obtain ⟨i, hi, _, wi⟩ := DataW.trod_int Try.underlying3 f1
        obtain ⟨t, ht, _, wt⟩ := DataW.trod_string Try.underlying9 f2
        obtain ⟨Ak, mk, ck, ks, hks, hkl, hkc, hkm, hS⟩ := strs_lie f4
        simp only [List.cons.injEq, and_true] at hk hi ht hks
        subst hk hi ht hks hkl
        unfold maxLen at wt
        rcases DataW.trod_slice Try.underlying23 f3 with ⟨hp, _⟩ | ⟨ad, len, cap, elems, rest, n', rfl, hp, _, _, hlc, hcm, _, hel, _⟩
        · simp only [List.cons.injEq, and_true] at hp
          subst hp
          refine ⟨.mk k i t [] ks, _, _, _, _, _, rfl, ?_⟩
          rw [Lies]
          exact ⟨none, 0, Ak, ck, rfl, ints64 wk, ints64 wi, wt, Nat.le_refl _, by omega, LiesL.none_, hkc, hkm, hS⟩
        · simp only [List.cons.injEq, and_true] at hp
          subst hp
          unfold maxLen at hcm
          rename_i hlen
          have each : ∀ j, ∃ (x : VT), j < len → ∃ a b s p q, W.cell? (ad.add (j * 5)) = some a ∧ W.cell? ((ad.add (j * 5)).add 1) = some b ∧ W.cell? ((ad.add (j * 5)).add 2) = some s ∧ W.cell? ((ad.add (j * 5)).add 3) = some p ∧ W.cell? ((ad.add (j * 5)).add 4) = some q ∧
              Lies W (Lo W) x (.agg #[a, b, s, p, q]) := by
            intro j
            by_cases hj : j < len
            · have h1 := hel j hj
              rw [Try.vcells] at h1
              have h2 : elems[j]? = some (elems[j]'(by omega)) := List.getElem?_eq_getElem _
              rw [h2] at h1
              obtain ⟨cs', hc1, hc2⟩ := Option.bind_eq_some_iff.1 h1
              obtain ⟨x, a, b, s, p, q, rfl, hxl⟩ := ih n' (by omega) cs' _ hc2
              obtain ⟨_, _, h3⟩ := World.cells?_some hc1
              have e0 := h3 0 (by omega)
              have e1 := h3 1 (by omega)
              have e2 := h3 2 (by omega)
              have e3 := h3 3 (by omega)
              have e4 := h3 4 (by omega)
              have ez : (ad.add (j * 5)).add 0 = ad.add (j * 5) := by simp [Addr.add]
              rw [ez] at e0
              exact ⟨x, fun _ => ⟨a, b, s, p, q, e0, e1, e2, e3, e4, hxl⟩⟩
            · exact ⟨default, fun h => absurd h hj⟩
          obtain ⟨f, hf⟩ := Classical.axiomOfChoice each
          have hll : ((List.range len).map f).length = len := by simp
          refine ⟨.mk k i t ((List.range len).map f) ks, _, _, _, _, _, rfl, ?_⟩
          rw [Lies, hll]
          refine ⟨some ad, cap, Ak, ck, rfl, ints64 wk, ints64 wi, wt, hlc, hcm, LiesL.of_at (fun j x hj => ?_), hkc, hkm, hS⟩
          rw [List.getElem?_map] at hj
          have hjl : j < len := by
            rcases Nat.lt_or_ge j len with h | h
            · exact h
            · rw [List.getElem?_eq_none (by simpa using h)] at hj; cases hj
          rw [List.getElem?_range hjl] at hj
          simp at hj
          subst hj
          obtain ⟨a0, b0, s0, p0, q0, z0, _⟩ := hf 0 (by omega)
          have hspot := spot_zero (a := ad) (by simpa using z0)
          obtain ⟨a, b, s, p, q, e0, e1, e2, e3, e4, hxl⟩ := hf j hjl
          obtain ⟨g, o, spot⟩ := ad
          have hspot : spot = none := hspot
          subst hspot
          rw [Addr.add_lit] at e0 e1 e2 e3 e4
          rw [Addr.add_lit] at e1 e2 e3 e4
          rw [Nat.zero_add]
          exact ⟨g, o, a, b, s, p, q, rfl, World.block_lt_of_cell? W _ e0, e0, e1, e2, e3, e4, hxl⟩

set_option maxRecDepth 100000 in
theorem value {r : Reach} {b0 : Nat} {v : Value} {d : DataW H} {ps : List MemPlace} (hval : Value.okWide Try.prog W r b0 26 v) (hd : DataW.Trod enc Try.prog W base spare held 26 v d ps) :
    ∃ x : VT, Lies W (Lo W) x v := by
  obtain ⟨cs, rfl, _⟩ := okWide_struct Try.underlying26 hval
  obtain ⟨fuel, hf⟩ := hd
  obtain ⟨x, a, b, s, p, q, hcs, hx⟩ := value_lies fuel _ _ hf
  refine ⟨x, ?_⟩
  have : cs = #[a, b, s, p, q] := by
    apply Array.toList_inj.1
    simpa [Value.cells] using hcs
  rw [this]
  exact hx
end
end Go.Proofs.Ytidinbeanaifmaa.opens
namespace Go.Proofs.Ytidinbeanaifmaa.opens
open Go.ChangeShapes Go.WideShapes Go.ChangeAt Go.RowKit

theorem Try.vbytes : Try.prog.bytesOf 26 = 80 := by kernel_rfl
theorem Try.sbytes : Try.prog.bytesOf 9 = 16 := by kernel_rfl
theorem alls_of {p : VT → Bool} : ∀ {l : List VT}, (∀ (j : Nat) (x : VT), l[j]? = some x → x.all p = true) → alls p l = true
  | [], _ => rfl
  | x :: r, h => by
    rw [alls, h 0 x rfl, alls_of (fun j y hj => h (j + 1) y (by simpa using hj))]
    rfl
theorem weightsAll_in {H : Type} {P : Program} {e : TypeId} : ∀ {l : List (DataW H)} {d : DataW H}, d ∈ l → ∀ n ∈ d.weights P e, n ∈ DataW.weightsAll P e l
  | [], _, h, _, _ => by cases h
  | x :: r, d, h, n, hn => by
    rw [DataW.weightsAll]
    rcases List.mem_cons.1 h with rfl | h
    · exact List.mem_append_left _ hn
    · exact List.mem_append_right _ (weightsAll_in h n hn)
section
variable {H : Type} {enc : TypeId × Value → H} {W : World} {base : Nat} {spare : Nat → Bool} {held : Bool}
theorem row_reach {e t : TypeId} {bytes fuel : Nat} {A : Option Addr} {m c : Nat} {y : DataW H × List MemPlace} (ht : Try.prog.underlying t = some (.slice e)) (hb : Try.prog.bytesOf e = bytes)
    (h : DataW.trod enc Try.prog W base spare held fuel t [.slice A m c] = some y) (hw : ∀ n ∈ y.1.weights Try.prog t, n ≤ reachBytes) : m * bytes ≤ 140737488355328 := by
  rcases DataW.trod_slice ht h with ⟨e1, _⟩ | ⟨ad, len, cap, elems, rest, n', _, e1, rfl, _, _, _, hlen, _⟩
  · simp only [List.cons.injEq, and_true, Value.slice.injEq] at e1
    rw [e1.2.1]; omega
  · simp only [List.cons.injEq, and_true, Value.slice.injEq] at e1
    have h1 := hw ((elems.length + rest.length) * bytes) (by rw [DataW.weights, ht]; simp [hb])
    rw [e1.2.1, ← hlen]
    unfold reachBytes at h1
    rw [Nat.add_mul] at h1
    omega
set_option maxRecDepth 100000 in
theorem reach_lies : ∀ (fuel : Nat) (a b s p q : Value) (y : DataW H × List MemPlace), DataW.trod enc Try.prog W base spare held fuel 26 [a, b, s, p, q] = some y → (∀ n ∈ y.1.weights Try.prog 26, n ≤ reachBytes) →
    ∀ x : VT, Lies W (Lo W) x (.agg #[a, b, s, p, q]) → x.all reachF = true := by
  intro fuel
  induction fuel using Nat.strongRecOn with
  | ind fuel ih =>
    intro a b s p q y h hw x hx
    obtain ⟨xs, n, rfl, rfl, hl, hxs, hf⟩ := DataW.trod_struct Try.underlying26 h
    match xs, hxs with
    | [x0, x1, x2, x3, x4], _ =>
      have f3 := hf 3 _ rfl
      have f4 := hf 4 _ rfl
      change DataW.trod enc Try.prog W base spare held n 23 (([a, b, s, p, q].drop 3).take (Try.prog.cellsOf 23)) = some x3 at f3
      rw [Try.lcells] at f3
      change DataW.trod enc Try.prog W base spare held n 22 (([a, b, s, p, q].drop 4).take (Try.prog.cellsOf 22)) = some x4 at f4
      rw [Try.kcells] at f4
      change DataW.trod enc Try.prog W base spare held n 23 [p] = some x3 at f3
      change DataW.trod enc Try.prog W base spare held n 22 [q] = some x4 at f4
      have w3 : ∀ n ∈ x3.1.weights Try.prog 23, n ≤ reachBytes := fun m hm => hw m (by
        show m ∈ DataW.weights _ _ (.agg _)
        rw [DataW.weights, Try.underlying26]
        exact DataW.weights_mem_each (j := 3) rfl rfl m hm)
      have w4 : ∀ n ∈ x4.1.weights Try.prog 22, n ≤ reachBytes := fun m hm => hw m (by
        show m ∈ DataW.weights _ _ (.agg _)
        rw [DataW.weights, Try.underlying26]
        exact DataW.weights_mem_each (j := 4) rfl rfl m hm)
      obtain ⟨k, i, t, its, ks⟩ := x
      obtain ⟨A, c, A', c', e, _, _, _, _, _, hL, _, _, hS⟩ := hx.open
      unfold vag at e
      injection e with e
      have e' := congrArg Array.toList e
      simp only [List.cons.injEq, and_true] at e'
      obtain ⟨rfl, rfl, rfl, rfl, rfl⟩ := e'
      have r1 := row_reach Try.underlying23 Try.vbytes f3 w3
      have r2 := row_reach Try.underlying22 Try.sbytes f4 w4
      rw [VT.all_mk]
      have hr : reachF (.mk k i t its ks) = true := by
        unfold reachF VT.its VT.ks
        rw [decide_eq_true r1, decide_eq_true r2]
        rfl
      rw [hr, Bool.true_and]
      refine alls_of (fun j z hj => ?_)
      have hjl := (List.getElem?_eq_some_iff.1 hj).1
      obtain ⟨g, o, k', i', t', B, n', c1, B', n1, c2, hA, hg, e0, e1, e2, e3, e4, hz⟩ := hL.at_ hj
      subst hA
      rcases DataW.trod_slice Try.underlying23 f3 with ⟨q1, _⟩ | ⟨ad, len, cap, elems, rest, n2, rfl, q1, rfl, _, _, _, hlen, hel, _⟩
      · simp only [List.cons.injEq, and_true, Value.slice.injEq] at q1
        omega
      · simp only [List.cons.injEq, and_true, Value.slice.injEq, Option.some.injEq] at q1
        obtain ⟨rfl, hl2, _⟩ := q1
        have h1 := hel j (by omega)
        rw [Try.vcells] at h1
        have h2 : elems[j]? = some (elems[j]'(by omega)) := List.getElem?_eq_getElem _
        rw [h2] at h1
        obtain ⟨cs', hc1, hc2⟩ := Option.bind_eq_some_iff.1 h1
        obtain ⟨_, hcl, h3⟩ := World.cells?_some hc1
        have wz : ∀ n ∈ (elems[j]'(by omega)).1.weights Try.prog 26, n ≤ reachBytes := fun m hm => w3 m (by
          show m ∈ DataW.weights _ _ (.slice _ _)
          rw [DataW.weights, Try.underlying23]
          exact List.mem_cons_of_mem _ (List.mem_append_left _ (weightsAll_in (List.mem_map_of_mem (List.getElem_mem _)) m hm)))
        obtain ⟨d0, d1, d2, d3, d4, rfl⟩ : ∃ d0 d1 d2 d3 d4, cs' = [d0, d1, d2, d3, d4] := by
          match cs', hcl with
          | [d0, d1, d2, d3, d4], _ => exact ⟨_, _, _, _, _, rfl⟩
        have g0 := h3 0 (by omega)
        have g1 := h3 1 (by omega)
        have g2 := h3 2 (by omega)
        have g3 := h3 3 (by omega)
        have g4 := h3 4 (by omega)
        rw [Addr.add_lit, Addr.add_lit] at g0 g1 g2 g3 g4
        rw [Nat.zero_add] at e0 e1 e2 e3 e4
        obtain rfl := Option.some.inj (e0.symm.trans (show W.cell? ⟨g, o + j * 5, none⟩ = some d0 from g0))
        obtain rfl := Option.some.inj (e1.symm.trans (show W.cell? ⟨g, o + j * 5 + 1, none⟩ = some d1 from g1))
        obtain rfl := Option.some.inj (e2.symm.trans (show W.cell? ⟨g, o + j * 5 + 2, none⟩ = some d2 from g2))
        obtain rfl := Option.some.inj (e3.symm.trans (show W.cell? ⟨g, o + j * 5 + 3, none⟩ = some d3 from g3))
        obtain rfl := Option.some.inj (e4.symm.trans (show W.cell? ⟨g, o + j * 5 + 4, none⟩ = some d4 from g4))
        exact ih n2 (by omega) _ _ _ _ _ _ hc2 wz z hz

set_option maxRecDepth 100000 in
theorem value_reach {r : Reach} {b0 : Nat} {v : Value} {d : DataW H} {ps : List MemPlace} (hval : Value.okWide Try.prog W r b0 26 v) (hd : DataW.Trod enc Try.prog W base spare held 26 v d ps) (hw : ∀ n ∈ d.weights Try.prog 26, n ≤ reachBytes) :
    ∃ x : VT, Lies W (Lo W) x v ∧ x.all reachF = true := by
  obtain ⟨cs, rfl, _⟩ := okWide_struct Try.underlying26 hval
  obtain ⟨fuel, hf⟩ := hd
  obtain ⟨x, a, b, s, p, q, hcs, hx⟩ := value_lies fuel _ _ hf
  have : cs = #[a, b, s, p, q] := by
    apply Array.toList_inj.1
    simpa [Value.cells] using hcs
  subst this
  exact ⟨x, hx, reach_lies fuel a b s p q _ hf hw x hx⟩
end
end Go.Proofs.Ytidinbeanaifmaa.opens
namespace Go.Proofs.Ytidinbeanaifmaa.opens
open Go.ChangeShapes Go.WideShapes Go.ChangeAt Go.RowKit

theorem int64 {a : Int} (h : (Lit.int .i64 a).wf = true) : -9223372036854775808 ≤ a ∧ a ≤ 9223372036854775807 := by
  simpa [Lit.wf, IntKind.min, IntKind.max, IntKind.signed, IntKind.bits] using h

/-- numbers that fit a byte, as bytes -/
theorem as_bytes : ∀ (zs : List Int), (∀ n ∈ zs, (Lit.int .u8 n).wf = true) → ∃ l : List UInt8, zs = l.map fun c => (c.toNat : Int)
  | [], _ => ⟨[], rfl⟩
  | z :: r, h => by
    obtain ⟨l, hl⟩ := as_bytes r fun n hn => h n (List.mem_cons_of_mem _ hn)
    have hz : 0 ≤ z ∧ z ≤ 255 := by simpa [Lit.wf, IntKind.min, IntKind.max, IntKind.signed, IntKind.bits] using h z List.mem_cons_self
    refine ⟨UInt8.ofNat z.toNat :: l, ?_⟩
    rw [List.map_cons, ← hl]
    congr 1
    have : (UInt8.ofNat z.toNat).toNat = z.toNat := by simp; omega
    rw [this]
    omega

section
variable {H : Type} {enc : TypeId × Value → H} {P : Program} {W : World} {base : Nat} {spare : Nat → Bool} {held : Bool}
/-- a slice of bytes that came in reads as a list -/
theorem bytes {r : Reach} {b0 : Nat} {t e : TypeId} {v : Value} {d : DataW H} {ps : List MemPlace} (ht : P.underlying t = some (.slice e)) (he : P.underlying e = some (.int .u8)) (hc : P.cellsOf e = 1)
    (hval : Value.okWide P W r b0 t v) (hd : DataW.Trod enc P W base spare held t v d ps) : ∃ A n c l, v = .slice A n c ∧ Rb W W.heap.size A n l ∧ n ≤ c ∧ c ≤ maxLen := by
  obtain ⟨A, n, c, rfl⟩ := okWide_slice ht hval
  obtain ⟨fuel, hf⟩ := hd
  rcases open_ints ht he hc hf with ⟨hcs, _⟩ | ⟨x, len, cap, zs, hcs, _, hl, hm, hz, _, hcell, hwz⟩
  · simp [Value.cells] at hcs
    obtain ⟨rfl, rfl, rfl⟩ := hcs
    exact ⟨none, 0, 0, [], rfl, ⟨rfl, fun h => absurd rfl h⟩, Nat.le_refl _, Nat.zero_le _⟩
  · simp [Value.cells] at hcs
    obtain ⟨rfl, rfl, rfl⟩ := hcs
    obtain ⟨l, hlz⟩ := as_bytes zs hwz
    have hlen : n ≤ l.length := by
      have h1 : zs.length = l.length := by rw [hlz, List.length_map]
      rw [← h1, hz]
      split <;> omega
    refine ⟨some x, n, c, l.take n, rfl, ⟨by rw [List.length_take]; omega, fun hne => ?_⟩, hl, hm⟩
    have hpos : 0 < zs.length := by
      rw [hlz, List.length_map]
      rcases Nat.eq_zero_or_pos n with h0 | h0
      · subst h0; simp at hne
      · omega
    obtain ⟨b, off, rfl, hcc⟩ := ints_at hcell hpos
    refine ⟨b, off, rfl, World.block_lt_of_cell? W _ (hcc 0 hpos), fun j c' hj => ?_⟩
    have hj2 : l[j]? = some c' := by
      rw [List.getElem?_take] at hj
      split at hj
      · exact hj
      · cases hj
    have hjl : j < zs.length := by rw [hlz, List.length_map]; exact (List.getElem?_eq_some_iff.1 hj2).1
    rw [hcc j hjl, hlz, List.getD_eq_getElem?_getD, List.getElem?_map, hj2]
    rfl
end
end Go.Proofs.Ytidinbeanaifmaa.opens
