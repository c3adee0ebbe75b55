/-
  Texts of layers 1 and 2, part G: contracts of the code's functions and what they lean on.
-/
import Derived.Test.YtjbjoalinfhahaaBE
import Derived.Test.YtjbjoalinfhahaaBD
namespace Go.Proofs.Ytjbjoalinfhahaa
open Go.RowKit

/-- equal or not -/
noncomputable def eqB {α : Type} (a b : α) : Bool := @decide (a = b) (Classical.propDecidable _)
theorem eqB_true {α : Type} {a b : α} (h : a = b) : eqB a b = true := @decide_eq_true _ (Classical.propDecidable _) h
theorem eqB_false {α : Type} {a b : α} (h : a ≠ b) : eqB a b = false := @decide_eq_false _ (Classical.propDecidable _) h
theorem of_eqB {α : Type} {a b : α} (h : eqB a b = true) : a = b := @of_decide_eq_true _ (Classical.propDecidable _) h
theorem of_eqB_false {α : Type} {a b : α} (h : eqB a b = false) : a ≠ b := @of_decide_eq_false _ (Classical.propDecidable _) h

/-- a world that differs above w alone -/
structure BelowBy (w : World) where
  val : World
  below : Below w.heap.size w val
instance (w : World) : Inhabited (BelowBy w) := ⟨⟨w, Below.refl _ _⟩⟩
theorem wp_region_gives {P : Program} {id : Nat} {Q : Exit → Act → World → Prop} {a : Act} {w : World} {l : List Oper} (hm : P.follows .mixedOrders = true) (hB : Region.lexB .any l.toArray = true)
    (h : wpQuiet P l.toArray (fun w' => ∃ q : BelowBy w, w' = q.val) (fun a' => ∀ w', (∃ q : BelowBy w, w' = q.val) → Q .normal a' w') l a) : (Code.region id l.toArray true).wp P Q a w :=
  wp_region_quiet (C := fun w' => ∃ q : BelowBy w, w' = q.val) hm hB ⟨⟨{ w with drawn := w.drawn + 1 }, ⟨rfl, rfl, rfl, Nat.le_refl _, fun _ _ => rfl⟩⟩, rfl⟩ (by simpa using h)
theorem gives_by {P : Program} {f : FuncId} {args : Array Value} {w : World} {q : BelowBy w} {v : Value} (h : Calls P f args q.val (Gives v q.val)) :
    Calls P f args q.val fun e w'' => e = .returned v ∧ ∃ p : BelowBy w, w'' = p.val :=
  h.mono fun _ w' hh => ⟨hh.1, ⟨w', below_next q.below hh.2⟩, rfl⟩

section
variable {w : World}
theorem take_same {α : Type} {l r : List α} {j : Nat} {x y : α} (h : l[j]? = some x) (k : r[j]? = some y) (e : l.take j = r.take j) (hx : x = y) : l.take (j + 1) = r.take (j + 1) := by
  rw [List.take_add_one, List.take_add_one, h, k, e, hx]
theorem at_same {α : Type} {l r : List α} {j : Nat} {x y : α} (h : l[j]? = some x) (k : r[j]? = some y) (hx : x ≠ y) : l ≠ r := by
  intro e
  subst e
  rw [h] at k
  exact hx (by injection k)

set_option maxHeartbeats 1000000 in
theorem eqStrs_any (A : Option Addr) (c : Nat) (ks : List ByteArray) (A' : Option Addr) (c' : Nat) (ls : List ByteArray) (w : World) (hS : LiesS w (Lo w) A ks) (hS' : LiesS w (Lo w) A' ls) (hc : ks.length ≤ c) (hm : c ≤ 9223372036854775807) :
    Calls Try.prog 72 #[.slice A ks.length c, .slice A' ls.length c'] w (Gives (.bool (eqB ks ls)) w) := by
  have HS := Lib.hid hS
  have HS' := Lib.hid hS'
  clear hS hS'
  by_cases hlen : ks.length = ls.length
  · have t0 : (((ks.length : Nat) : Int) != ((ls.length : Nat) : Int)) = false := by rw [bne_eq_false_iff_eq]; omega
    go_enter Try.func72, Try.ntmps72
    go_wp2
    go_loopw [13, 5] (fun t _ wr => ∃ j q : Nat, j ≤ ks.length ∧ t = .int .i64 j ∧ wr = w.drewN q ∧ Hid (ks.take j = ls.take j)) (fun t _ _ => ks.length - (intOf t).toNat)
    case atStart => exact ⟨0, 0, by omega, rfl, rfl, Lib.hid rfl⟩
    case round =>
      obtain ⟨j, q, hjn, rfl, rfl, hr⟩ := hrel
      by_cases hlt : j < ks.length
      · have h1 : ks[j]? = some (ks.getD j ByteArray.empty) := by rw [List.getD_eq_getElem?_getD, List.getElem?_eq_getElem hlt]; rfl
        have h2 : ls[j]? = some (ls.getD j ByteArray.empty) := by rw [List.getD_eq_getElem?_getD, List.getElem?_eq_getElem (by omega)]; rfl
        obtain ⟨_, g, o, rfl, hg, e0⟩ := HS.out j _ h1
        obtain ⟨_, g', o', rfl, hg', e1⟩ := HS'.out j _ h2
        have hy := fun h => take_same h1 h2 hr.out h
        have hn := fun h => at_same h1 h2 h
        generalize ks.getD j ByteArray.empty = s at *
        generalize ls.getD j ByteArray.empty = t at *
        have HY := Lib.hid hy
        have HNN := Lib.hid hn
        clear hy hn h1 h2
        by_cases hst : s = t
        · have HR := Lib.hid (HY.out hst)
          have t1 : (s.toList == t.toList) = true := by rw [hst, beq_iff_eq]
          clear hst
          go_wp2_with fail
          go_quiet (fail)
          go_wp2
          go_roundw
          case rel => exact ⟨j + 1, _, by omega, by go_num, rfl, HR⟩
          case measure => simp [intOf]; omega
        · have HR := Lib.hid (eqB_false (HNN.out hst))
          have t1 : (s.toList == t.toList) = false := by rw [beq_eq_false_iff_ne]; exact fun e => hst (str_inj e)
          clear hst
          go_wp2_with fail
          go_quiet (fail)
          go_wp2
          go_ret
          exact ⟨ret_bool HR.out.symm, below_drew (below_drew (Below.refl _ _) _) _⟩
      · have HR : Hid (eqB ks ls = true) := Lib.hid (eqB_true (by
          have := hr.out
          rwa [show j = ks.length by omega, List.take_length, hlen, List.take_length] at this))
        go_wp2
        go_ret
        exact ⟨ret_bool HR.out.symm, below_drew (Below.refl _ _) _⟩
  · have t0 : (((ks.length : Nat) : Int) != ((ls.length : Nat) : Int)) = true := by rw [bne_iff_ne]; omega
    have HR := Lib.hid (eqB_false (fun e : ks = ls => hlen (by rw [e])))
    clear hlen
    go_enter Try.func72, Try.ntmps72
    go_wp2
    go_ret
    exact ⟨ret_bool HR.out.symm, Below.refl _ _⟩
end
end Go.Proofs.Ytjbjoalinfhahaa
namespace Go.Proofs.Ytjbjoalinfhahaa
open Go.RowKit

set_option maxHeartbeats 1000000 in
theorem eqFunc_of (m : Nat) (IH : Hid (∀ (x y : VT) (w : World) (v u : Value), x.size ≤ m → Lies w (Lo w) x v → Lies w (Lo w) y u → Calls Try.prog 32 #[v, u] w (Gives (.bool (eqB x y)) w)))
    (A : Option Addr) (c : Nat) (its : List VT) (A' : Option Addr) (c' : Nat) (jts : List VT) (w : World) (hL : LiesL w (Lo w) A 0 its) (hL' : LiesL w (Lo w) A' 0 jts) (hlc : its.length ≤ c) (hcm : c ≤ 9223372036854775807) (hsz : sizes its ≤ m) :
    Calls Try.prog 73 #[.slice A its.length c, .slice A' jts.length c', .func (.func 32) #[] #[]] w (Gives (.bool (eqB its jts)) w) := by
  have HL := Lib.hid hL
  have HL' := Lib.hid hL'
  clear hL hL'
  by_cases hlen : its.length = jts.length
  · have t0 : (((its.length : Nat) : Int) != ((jts.length : Nat) : Int)) = false := by rw [bne_eq_false_iff_eq]; omega
    have HLN := Lib.hid hlen
    clear hlen
    go_enter Try.func73, Try.ntmps73
    go_wp2_with fail
    go_loopw [17, 7, 8, 9] (fun t _ _ _ wr => ∃ j : Nat, j ≤ its.length ∧ t = .int .i64 j ∧ Hid (its.take j = jts.take j) ∧ Hid (Below w.heap.size w wr)) (fun t _ _ _ _ => its.length - (intOf t).toNat)
    case atStart => exact ⟨0, by omega, rfl, Lib.hid rfl, Lib.hid (Below.refl _ _)⟩
    case round =>
      obtain ⟨j, hjn, rfl, hr, hb⟩ := hrel
      by_cases hlt : j < its.length
      · have h1 := List.getElem?_eq_getElem (l := its) (i := j) hlt
        have h2 := List.getElem?_eq_getElem (l := jts) (i := j) (by have := HLN.out; omega)
        have hjl : j < jts.length := by have := HLN.out; omega
        obtain ⟨g, o, k', i', t', B, n', c1, B', n1, c2, rfl, hg, e0, e1, e2, e3, e4, hx⟩ := (HL.out).at_ h1
        obtain ⟨g', o', k'', i'', t'', D, n'', c3, D', n2, c4, rfl, hg', d0, d1, d2, d3, d4, hy⟩ := (HL'.out).at_ h2
        have hle := size_at h1
        have hyes := fun h => take_same h1 h2 hr.out h
        have hno := fun h => at_same h1 h2 h
        have cc := fun (q : Nat) => hb.out.cell (p := ⟨g, q, none⟩) hg
        have cc' := fun (q : Nat) => hb.out.cell (p := ⟨g', q, none⟩) hg'
        rw [Nat.zero_add] at e0 e1 e2 e3 e4 d0 d1 d2 d3 d4
        rw [← cc] at e0 e1 e2 e3 e4
        rw [← cc'] at d0 d1 d2 d3 d4
        generalize its[j]'hlt = x at *
        generalize jts[j]'(by have := HLN.out; omega) = y at *
        unfold vag at hx hy
        have hb1 : Below w.heap.size w ((wr.alloc (.cells #[.int .i64 k', .int .i64 i', .string t', .slice B n' c1, .slice B' n1 c2] 26)).alloc (.cells #[.int .i64 k'', .int .i64 i'', .string t'', .slice D n'' c3, .slice D' n2 c4] 26)) :=
          (hb.out.alloc hb.out.size _).alloc (by have := hb.out.size; simp; omega) _
        have hc := IH.out x y _ _ _ (by omega) (hx.below hb1) (hy.below hb1)
        have HC := Lib.hid hc
        have HY := Lib.hid hyes
        have HNN := Lib.hid hno
        have HB := Lib.hid hb1
        have dd := fun (q : Nat) => Below.cell (below_one wr (.cells #[.int .i64 k', .int .i64 i', .string t', .slice B n' c1, .slice B' n1 c2] 26)) (p := ⟨g', q, none⟩) (Nat.lt_of_lt_of_le hg' hb.out.size)
        rw [← dd] at d0 d1 d2 d3 d4
        clear hc hx hy cc cc' hyes hno hb1 h1 h2 dd
        go_wp2_with fail
        refine (HC.out).mono ?_
        rintro e w' ⟨rfl, hb2⟩
        have HB2 := Lib.hid (below_next HB.out hb2)
        clear hb2
        by_cases hxy : x = y
        · have HR := Lib.hid (HY.out hxy)
          rw [eqB_true hxy]
          clear hxy
          go_wp2
          go_roundw
          case rel => exact ⟨j + 1, by omega, by go_num, HR, HB2⟩
          case measure => simp [intOf]; omega
        · have HR := Lib.hid (eqB_false (HNN.out hxy))
          rw [eqB_false hxy]
          clear hxy
          go_wp2
          go_ret
          exact ⟨ret_bool HR.out.symm, HB2.out⟩
      · have HR : Hid (eqB its jts = true) := Lib.hid (eqB_true (by
          have := hr.out
          rwa [show j = its.length by omega, List.take_length, HLN.out, List.take_length] at this))
        go_wp2
        go_ret
        exact ⟨ret_bool HR.out.symm, hb.out⟩
  · have t0 : (((its.length : Nat) : Int) != ((jts.length : Nat) : Int)) = true := by rw [bne_iff_ne]; omega
    have HR := Lib.hid (eqB_false (fun e : its = jts => hlen (by rw [e])))
    clear hlen
    go_enter Try.func73, Try.ntmps73
    go_wp2_with fail
    go_ret
    exact ⟨ret_bool HR.out.symm, Below.refl _ _⟩

set_option maxHeartbeats 1000000 in
theorem valSame_all (m : Nat) : ∀ (x y : VT) (w : World) (v u : Value), x.size ≤ m → Lies w (Lo w) x v → Lies w (Lo w) y u → Calls Try.prog 32 #[v, u] w (Gives (.bool (eqB x y)) w) := by
  induction m with
  | zero => intro x _ _ _ _ h; have := size_pos x; omega
  | succ m ih =>
    intro x y w v u hsz hv hu
    have IH := Lib.hid ih
    clear ih
    obtain ⟨k, i, t, its, ks⟩ := x
    obtain ⟨k', i', t', jts, ls⟩ := y
    obtain ⟨A, c, A', c', rfl, _, _, _, h1, h2, hL, h3, h4, hS⟩ := hv.open
    obtain ⟨D, e, D', e', rfl, _, _, _, _, _, hM, _, _, hT⟩ := hu.open
    rw [VT.size_mk] at hsz
    obtain ⟨w2, hw2⟩ : ∃ w2, w2 = (w.alloc (.cells #[.int .i64 k, .int .i64 i, .string t, .slice A its.length c, .slice A' ks.length c'] 26)).alloc (.cells #[.int .i64 k', .int .i64 i', .string t', .slice D jts.length e, .slice D' ls.length e'] 26) := ⟨_, rfl⟩
    have B2 : Hid (Below w.heap.size w w2) := Lib.hid (by rw [hw2]; exact (below_one _ _).trans (Below.alloc (Below.refl _ _) (by simp) _))
    have S2 : Hid (w.heap.size + 1 < w2.heap.size) := Lib.hid (by rw [hw2]; simp)
    have X1 : Hid (∀ j, w2.cell? ⟨w.heap.size, j, none⟩ = (#[.int .i64 k, .int .i64 i, .string t, .slice A its.length c, .slice A' ks.length c'] : Array Value)[j]?) := Lib.hid (fun j => by
      rw [hw2, World.cell?_alloc_lt _ _ _ (by simp), World.cell?_alloc_at _ _ _ _ rfl])
    have X2 : Hid (∀ j, w2.cell? ⟨w.heap.size + 1, j, none⟩ = (#[.int .i64 k', .int .i64 i', .string t', .slice D jts.length e, .slice D' ls.length e'] : Array Value)[j]?) := Lib.hid (fun j => by
      rw [hw2, World.cell?_alloc_at _ _ _ _ (by simp)])
    have HK := Lib.hid (eqStrs_any A' c' ks D' e' ls w2 (hS.below B2.out) (hT.below B2.out) h3 h4)
    have HI := Lib.hid (fun (w3 : World) (hb : Below w.heap.size w w3) => eqFunc_of m IH A c its D e jts w3 (hL.below hb) (hM.below hb) h1 h2 (by omega))
    clear hv hu hL hM hS hT
    by_cases t1 : k = k'
    · by_cases t2 : i = i'
      · by_cases t3 : t = t'
        · subst t1 t2 t3
          unfold vag
          go_enter Try.func32, Try.ntmps32
          go_wp2_with fail
          rw [← hw2]
          have HW := Lib.hid hw2
          clear hw2
          refine (HK.out).mono ?_
          rintro x w3 ⟨rfl, hb⟩
          by_cases t4 : ks = ls
          · have T4 := Lib.hid t4
            rw [eqB_true t4]
            clear t4
            have HB := Lib.hid (below_next B2.out hb)
            have c1 := (hb.cell (p := ⟨w.heap.size, 3, none⟩) (by have := S2.out; show w.heap.size < _; omega)).trans (X1.out 3)
            have c2 := (hb.cell (p := ⟨w.heap.size + 1, 3, none⟩) S2.out).trans (X2.out 3)
            have HC := Lib.hid (HI.out w3 HB.out)
            clear hb
            go_wp2_with fail
            refine (HC.out).mono ?_
            rintro x w4 ⟨rfl, hb⟩
            have HB2 := Lib.hid (below_next HB.out hb)
            clear hb
            by_cases t5 : its = jts
            · have HR : Hid (eqB (VT.mk k i t its ks) (VT.mk k i t jts ls) = true) := Lib.hid (eqB_true (by rw [T4.out, t5]))
              rw [eqB_true t5]
              clear t5
              go_wp2
              go_ret
              exact ⟨ret_bool HR.out.symm, HB2.out⟩
            · have HR : Hid (eqB (VT.mk k i t its ks) (VT.mk k i t jts ls) = false) := Lib.hid (eqB_false (fun h => t5 (by injection h)))
              rw [eqB_false t5]
              clear t5
              go_wp2
              go_ret
              exact ⟨ret_bool HR.out.symm, HB2.out⟩
          · have HR : Hid (eqB (VT.mk k i t its ks) (VT.mk k i t jts ls) = false) := Lib.hid (eqB_false (fun h => t4 (by injection h)))
            rw [eqB_false t4]
            clear t4
            have HB := Lib.hid (below_next B2.out hb)
            clear hb
            go_wp2
            go_ret
            exact ⟨ret_bool HR.out.symm, HB.out⟩
        · subst t1 t2
          have f3 : (t.toList == t'.toList) = false := by rw [beq_eq_false_iff_ne]; exact fun e => t3 (str_inj e)
          have HR : Hid (eqB (VT.mk k i t its ks) (VT.mk k i t' jts ls) = false) := Lib.hid (eqB_false (fun h => t3 (by injection h)))
          have HW := Lib.hid hw2
          clear t3 hw2
          unfold vag
          go_enter Try.func32, Try.ntmps32
          go_wp2
          go_ret
          exact ⟨ret_bool HR.out.symm, by rw [← HW.out]; exact B2.out⟩
      · subst t1
        have f2 : (i != i') = true := by rw [bne_iff_ne]; exact t2
        have HR : Hid (eqB (VT.mk k i t its ks) (VT.mk k i' t' jts ls) = false) := Lib.hid (eqB_false (fun h => t2 (by injection h)))
        have HW := Lib.hid hw2
        clear t2 hw2
        unfold vag
        go_enter Try.func32, Try.ntmps32
        go_wp2
        go_ret
        exact ⟨ret_bool HR.out.symm, by rw [← HW.out]; exact B2.out⟩
    · have f1 : (k != k') = true := by rw [bne_iff_ne]; exact t1
      have HR : Hid (eqB (VT.mk k i t its ks) (VT.mk k' i' t' jts ls) = false) := Lib.hid (eqB_false (fun h => t1 (by injection h)))
      have HW := Lib.hid hw2
      clear t1 hw2
      unfold vag
      go_enter Try.func32, Try.ntmps32
      go_wp2
      go_ret
      exact ⟨ret_bool HR.out.symm, by rw [← HW.out]; exact B2.out⟩
end Go.Proofs.Ytjbjoalinfhahaa
namespace Go.Proofs.Ytjbjoalinfhahaa

def thn (c d : Int) : Int := if c = 0 then d else c
def cmpI (a b : Int) : Int := if a < b then -1 else if b < a then 1 else 0
def cmpS (a b : ByteArray) : Int := if less a b = true then -1 else if less b a = true then 1 else 0
mutual
def VT.cmp : VT → VT → Int
  | .mk k i t its ks, y => thn (cmpI k y.k) (thn (cmpI i y.i) (thn (cmpS t y.t) (cmps (decide (k = 5)) its ks y.its y.ks)))
def cmps (m : Bool) : List VT → List ByteArray → List VT → List ByteArray → Int
  | [], _, ys, _ => if ys.length = 0 then 0 else -1
  | x :: xs, ks, ys, ls => match ys with
    | [] => 1
    | y :: ys' => thn (if m then cmpS (ks.headD ByteArray.empty) (ls.headD ByteArray.empty) else 0) (thn (x.cmp y) (cmps m xs ks.tail ys' ls.tail))
end
theorem VT.cmp_mk (k i : Int) (t : ByteArray) (its : List VT) (ks : List ByteArray) (y : VT) :
    (VT.mk k i t its ks).cmp y = thn (cmpI k y.k) (thn (cmpI i y.i) (thn (cmpS t y.t) (cmps (decide (k = 5)) its ks y.its y.ks))) := by rw [VT.cmp]
theorem cmps_nil (m : Bool) (ks : List ByteArray) (ys : List VT) (ls : List ByteArray) : cmps m [] ks ys ls = if ys.length = 0 then 0 else -1 := by rw [cmps]
theorem cmps_out (m : Bool) (x : VT) (xs : List VT) (ks : List ByteArray) (ls : List ByteArray) : cmps m (x :: xs) ks [] ls = 1 := by rw [cmps]
theorem cmps_cons (m : Bool) (x : VT) (xs : List VT) (ks : List ByteArray) (y : VT) (ys : List VT) (ls : List ByteArray) :
    cmps m (x :: xs) ks (y :: ys) ls = thn (if m then cmpS (ks.headD ByteArray.empty) (ls.headD ByteArray.empty) else 0) (thn (x.cmp y) (cmps m xs ks.tail ys ls.tail)) := by rw [cmps]

theorem thn_zero {c d : Int} : thn c d = 0 ↔ c = 0 ∧ d = 0 := by
  unfold thn
  split
  · rename_i h; simp [h]
  · rename_i h; simp [h]
theorem thn_neg (c d : Int) : thn (-c) (-d) = -thn c d := by
  unfold thn
  by_cases h : c = 0
  · rw [if_pos h, if_pos (by omega)]
  · rw [if_neg h, if_neg (by omega)]
theorem thn_le {c d : Int} : thn c d ≤ 0 ↔ c < 0 ∨ (c = 0 ∧ d ≤ 0) := by
  unfold thn
  split
  · rename_i h; omega
  · rename_i h; omega
theorem cmpI_neg (a b : Int) : cmpI a b = -cmpI b a := by unfold cmpI; repeat' split <;> omega
theorem cmpI_zero {a b : Int} : cmpI a b = 0 ↔ a = b := by unfold cmpI; repeat' split <;> omega
theorem cmpI_trans {a b c : Int} (h : cmpI a b ≤ 0) (k : cmpI b c ≤ 0) : cmpI a c ≤ 0 := by unfold cmpI at *; repeat' split <;> repeat' split at h <;> repeat' split at k <;> omega
theorem cmpS_ways (a b : ByteArray) : (less a b = true ∧ less b a = false ∧ a ≠ b ∧ cmpS a b = -1) ∨ (a = b ∧ cmpS a b = 0) ∨ (less b a = true ∧ less a b = false ∧ a ≠ b ∧ cmpS a b = 1) := by
  unfold cmpS less
  rcases str_ways a b with ⟨s1, _, _, s4, s5⟩ | ⟨he, s1, _, _, s4⟩ | ⟨s1, _, _, s4, s5⟩
  · exact Or.inl ⟨s1, s4, s5, by rw [if_pos s1]⟩
  · exact Or.inr (Or.inl ⟨he, by rw [if_neg (by rw [s1]; decide), if_neg (by rw [s4]; decide)]⟩)
  · exact Or.inr (Or.inr ⟨s4, s1, s5, by rw [if_neg (by rw [s1]; decide), if_pos s4]⟩)
theorem cmpS_self (a : ByteArray) : cmpS a a = 0 := by
  rcases cmpS_ways a a with ⟨_, _, h, _⟩ | ⟨_, h⟩ | ⟨_, _, h, _⟩
  · exact absurd rfl h
  · exact h
  · exact absurd rfl h
theorem cmpS_zero {a b : ByteArray} : cmpS a b = 0 ↔ a = b := by
  constructor
  · intro h
    rcases cmpS_ways a b with ⟨_, _, _, e⟩ | ⟨e, _⟩ | ⟨_, _, _, e⟩
    · rw [h] at e; exact absurd e (by decide)
    · exact e
    · rw [h] at e; exact absurd e (by decide)
  · rintro rfl; exact cmpS_self a
theorem cmpS_neg (a b : ByteArray) : cmpS a b = -cmpS b a := by
  rcases cmpS_ways a b with ⟨h1, h2, _, e⟩ | ⟨rfl, e⟩ | ⟨h1, h2, _, e⟩
  · rw [e]; unfold cmpS; rw [h1, h2]; decide
  · rw [cmpS_self]; rfl
  · rw [e]; unfold cmpS; rw [h1]; simp
theorem cmpS_trans {a b c : ByteArray} (h : cmpS a b ≤ 0) (k : cmpS b c ≤ 0) : cmpS a c ≤ 0 := by
  rcases cmpS_ways a b with ⟨h1, _, _, _⟩ | ⟨rfl, _⟩ | ⟨_, _, _, e⟩
  · rcases cmpS_ways b c with ⟨k1, _, _, _⟩ | ⟨rfl, _⟩ | ⟨_, _, _, e⟩
    · have : less a c = true := bl_trans _ _ _ h1 k1
      unfold cmpS
      rw [if_pos this]
      decide
    · exact h
    · rw [e] at k; exact absurd k (by decide)
  · exact k
  · rw [e] at h; exact absurd h (by decide)

/-- one step of a comparison pair by pair that is a total order -/
theorem thn_trans {c1 c2 c3 d1 d2 d3 : Int} (hc : c1 ≤ 0 → c2 ≤ 0 → c3 ≤ 0) (hz : c1 = 0 → c3 = c2) (hz' : c2 = 0 → c3 = c1) (hs : c1 < 0 → c2 < 0 → c3 ≠ 0) (hd : c1 = 0 → c2 = 0 → d1 ≤ 0 → d2 ≤ 0 → d3 ≤ 0)
    (h : thn c1 d1 ≤ 0) (k : thn c2 d2 ≤ 0) : thn c3 d3 ≤ 0 := by
  rw [thn_le] at *
  rcases h with h | ⟨h, h'⟩ <;> rcases k with k | ⟨k, k'⟩
  · left; have := hc (by omega) (by omega); have := hs h k; omega
  · left; have := hz' k; omega
  · left; have := hz h; omega
  · right; exact ⟨by have := hz h; omega, hd h k h' k'⟩

mutual
theorem VT.cmp_neg : ∀ x y : VT, x.cmp y = -(y.cmp x)
  | .mk k i t its ks, .mk k' i' t' jts ls => by
    rw [VT.cmp_mk, VT.cmp_mk]
    simp only [VT.k, VT.i, VT.t, VT.its, VT.ks]
    by_cases h : k = k'
    · subst h
      rw [cmpI_neg i i', cmpS_neg t t', cmps_neg (decide (k = 5)) its ks jts ls, show cmpI k k = 0 from cmpI_zero.2 rfl, ← thn_neg, ← thn_neg, ← thn_neg]
      rfl
    · have h1 : cmpI k k' ≠ 0 := fun e => h (cmpI_zero.1 e)
      have h2 : cmpI k' k ≠ 0 := fun e => h (cmpI_zero.1 e).symm
      unfold thn
      rw [if_neg h1, if_neg h2, cmpI_neg]
theorem cmps_neg (m : Bool) : ∀ (xs : List VT) (ks : List ByteArray) (ys : List VT) (ls : List ByteArray), cmps m xs ks ys ls = -(cmps m ys ls xs ks)
  | [], ks, [], ls => by rw [cmps_nil, cmps_nil]; rfl
  | [], ks, y :: ys, ls => by rw [cmps_nil, cmps_out]; simp
  | x :: xs, ks, [], ls => by rw [cmps_nil, cmps_out]; simp
  | x :: xs, ks, y :: ys, ls => by
    rw [cmps_cons, cmps_cons, VT.cmp_neg x y, cmps_neg m xs ks.tail ys ls.tail, ← thn_neg, ← thn_neg]
    cases m with
    | true => simp only [if_true]; rw [cmpS_neg]
    | false => rfl
end

mutual
theorem VT.cmp_self : ∀ x : VT, x.cmp x = 0
  | .mk k i t its ks => by
    rw [VT.cmp_mk]
    simp only [VT.k, VT.i, VT.t, VT.its, VT.ks]
    rw [cmpI_zero.2 rfl, cmpI_zero.2 rfl, cmpS_self, cmps_self]
    rfl
theorem cmps_self (m : Bool) : ∀ (xs : List VT) (ks : List ByteArray), cmps m xs ks xs ks = 0
  | [], ks => by rw [cmps_nil]; rfl
  | x :: xs, ks => by
    rw [cmps_cons, cmpS_self, VT.cmp_self x, cmps_self m xs]
    cases m <;> rfl
end

/-- what well formed says of the keys -/
theorem wf_keys {k i : Int} {t : ByteArray} {its : List VT} {ks : List ByteArray} (h : okF (.mk k i t its ks) = true) : (k = 5 → ks.length = its.length) ∧ (k ≠ 5 → ks = []) := by
  constructor
  · rintro rfl
    rw [okF_5] at h
    simp at h
    exact h.2.2.1
  · intro hk
    apply List.eq_nil_of_length_eq_zero
    by_cases hk' : 0 ≤ k ∧ k ≤ 6
    · obtain rfl | rfl | rfl | rfl | rfl | rfl | rfl : k = 0 ∨ k = 1 ∨ k = 2 ∨ k = 3 ∨ k = 4 ∨ k = 5 ∨ k = 6 := by omega
      · rw [okF_0] at h; simp only [Bool.and_eq_true, decide_eq_true_eq] at h; exact h.2.2.2
      · rw [okF_1] at h; simp only [Bool.and_eq_true, decide_eq_true_eq] at h; exact h.2.2.2
      · rw [okF_2] at h; simp only [Bool.and_eq_true, decide_eq_true_eq] at h; exact h.2.2
      · rw [okF_3] at h; simp only [Bool.and_eq_true, decide_eq_true_eq] at h; exact h.2.2
      · rw [okF_4] at h; simp only [Bool.and_eq_true, decide_eq_true_eq] at h; exact h.2.2
      · exact absurd rfl hk
      · rw [okF_6] at h; simp only [Bool.and_eq_true, decide_eq_true_eq] at h; exact h.2.2.2
    · unfold okF VT.k at h
      simp only [show ¬ k = 0 from by omega, show ¬ k = 1 from by omega, show ¬ k = 2 from by omega, show ¬ k = 3 from by omega, show ¬ k = 4 from by omega, show ¬ k = 5 from by omega, show ¬ k = 6 from by omega, if_false] at h
      cases h

mutual
theorem VT.cmp_eq : ∀ x y : VT, x.all okF = true → y.all okF = true → x.cmp y = 0 → x = y
  | .mk k i t its ks, .mk k' i' t' jts ls, hx, hy, h => by
    rw [VT.cmp_mk] at h
    simp only [VT.k, VT.i, VT.t, VT.its, VT.ks] at h
    rw [thn_zero, thn_zero, thn_zero] at h
    obtain ⟨h1, h2, h3, h4⟩ := h
    obtain rfl := cmpI_zero.1 h1
    obtain rfl := cmpI_zero.1 h2
    obtain rfl := cmpS_zero.1 h3
    rw [VT.all_mk, Bool.and_eq_true] at hx hy
    have kx := wf_keys hx.1
    have ky := wf_keys hy.1
    by_cases hk : k = 5
    · rw [decide_eq_true hk] at h4
      obtain ⟨e1, e2⟩ := cmps_eq true its ks jts ls hx.2 hy.2 (fun _ => ⟨kx.1 hk, ky.1 hk⟩) h4
      rw [e1, e2 rfl]
    · rw [decide_eq_false hk] at h4
      obtain ⟨e1, _⟩ := cmps_eq false its ks jts ls hx.2 hy.2 (fun e => by cases e) h4
      rw [e1, kx.2 hk, ky.2 hk]
theorem cmps_eq (m : Bool) : ∀ (xs : List VT) (ks : List ByteArray) (ys : List VT) (ls : List ByteArray), alls okF xs = true → alls okF ys = true → (m = true → ks.length = xs.length ∧ ls.length = ys.length) → cmps m xs ks ys ls = 0 → xs = ys ∧ (m = true → ks = ls)
  | [], ks, [], ls, _, _, hm, _ => ⟨rfl, fun e => by
      obtain ⟨h1, h2⟩ := hm e
      rw [List.eq_nil_of_length_eq_zero h1, List.eq_nil_of_length_eq_zero h2]⟩
  | [], ks, y :: ys, ls, _, _, _, h => by rw [cmps_nil] at h; simp at h
  | x :: xs, ks, [], ls, _, _, _, h => by rw [cmps_out] at h; exact absurd h (by decide)
  | x :: xs, ks, y :: ys, ls, hx, hy, hm, h => by
    rw [cmps_cons, thn_zero, thn_zero] at h
    obtain ⟨h1, h2, h3⟩ := h
    simp only [alls, Bool.and_eq_true] at hx hy
    obtain rfl := VT.cmp_eq x y hx.1 hy.1 h2
    have hl : m = true → ks.tail.length = xs.length ∧ ls.tail.length = ys.length := fun e => by
      obtain ⟨a, b⟩ := hm e
      simp at a b ⊢
      omega
    obtain ⟨rfl, e2⟩ := cmps_eq m xs ks.tail ys ls.tail hx.2 hy.2 hl h3
    refine ⟨rfl, fun e => ?_⟩
    have e3 := e2 e
    obtain ⟨a, b⟩ := hm e
    rw [e, if_pos rfl] at h1
    have e4 := cmpS_zero.1 h1
    cases ks with
    | nil => simp at a
    | cons k ks => cases ls with
      | nil => simp at b
      | cons l ls => simp at e3 e4; rw [e3, e4]
end

mutual
theorem VT.cmp_trans : ∀ x y z : VT, x.all okF = true → y.all okF = true → z.all okF = true → x.cmp y ≤ 0 → y.cmp z ≤ 0 → x.cmp z ≤ 0
  | .mk k i t its ks, .mk k1 i1 t1 its1 ks1, .mk k2 i2 t2 its2 ks2, hx, hy, hz, h, h' => by
    rw [VT.cmp_mk] at *
    simp only [VT.k, VT.i, VT.t, VT.its, VT.ks] at *
    rw [VT.all_mk, Bool.and_eq_true] at hx hy hz
    refine thn_trans (fun a b => cmpI_trans a b) (fun a => by rw [cmpI_zero.1 a]) (fun b => by rw [cmpI_zero.1 b]) (fun a b e => ?_) (fun a b => ?_) h h'
    · rw [cmpI_zero.1 e, cmpI_neg] at a; omega
    have ek := cmpI_zero.1 a
    refine thn_trans (fun a b => cmpI_trans a b) (fun a => by rw [cmpI_zero.1 a]) (fun b => by rw [cmpI_zero.1 b]) (fun a b e => ?_) (fun a b => ?_)
    · rw [cmpI_zero.1 e, cmpI_neg] at a; omega
    refine thn_trans (fun a b => cmpS_trans a b) (fun a => by rw [cmpS_zero.1 a]) (fun b => by rw [cmpS_zero.1 b]) (fun a b e => ?_) (fun a b => ?_)
    · rw [cmpS_zero.1 e, cmpS_neg] at a; omega
    rw [← ek]
    exact cmps_trans _ its ks its1 ks1 its2 ks2 hx.2 hy.2 hz.2
theorem cmps_trans (m : Bool) : ∀ (xs : List VT) (ks : List ByteArray) (ys : List VT) (ls : List ByteArray) (zs : List VT) (ms : List ByteArray), alls okF xs = true → alls okF ys = true → alls okF zs = true →
    cmps m xs ks ys ls ≤ 0 → cmps m ys ls zs ms ≤ 0 → cmps m xs ks zs ms ≤ 0
  | [], ks, ys, ls, zs, ms, _, _, _, _, _ => by rw [cmps_nil]; split <;> decide
  | x :: xs, ks, [], ls, zs, ms, _, _, _, h, _ => by rw [cmps_out] at h; exact absurd h (by decide)
  | x :: xs, ks, y :: ys, ls, [], ms, _, _, _, _, h => by rw [cmps_out] at h; exact absurd h (by decide)
  | x :: xs, ks, y :: ys, ls, z :: zs, ms, hx, hy, hz, h, h' => by
    rw [cmps_cons] at *
    simp only [alls, Bool.and_eq_true] at hx hy hz
    refine thn_trans (fun a b => ?_) (fun a => ?_) (fun b => ?_) (fun a b e => ?_) (fun _ _ => ?_) h h'
    · cases m with
      | true => exact cmpS_trans a b
      | false => exact Int.le_refl _
    · cases m with
      | true => simp only [if_true] at *; rw [cmpS_zero.1 a]
      | false => rfl
    · cases m with
      | true => simp only [if_true] at *; rw [cmpS_zero.1 b]
      | false => rfl
    · cases m with
      | true => simp only [if_true] at *; rw [cmpS_zero.1 e, cmpS_neg] at a; omega
      | false => simp at a
    refine thn_trans (fun a b => VT.cmp_trans x y z hx.1 hy.1 hz.1 a b) (fun a => ?_) (fun b => ?_) (fun a b e => ?_) (fun _ _ => cmps_trans m xs ks.tail ys ls.tail zs ms.tail hx.2 hy.2 hz.2)
    · rw [VT.cmp_eq x y hx.1 hy.1 a]
    · rw [VT.cmp_eq y z hy.1 hz.1 b]
    · rw [VT.cmp_eq x z hx.1 hz.1 e, VT.cmp_neg] at a; omega
end
end Go.Proofs.Ytjbjoalinfhahaa
namespace Go.Proofs.Ytjbjoalinfhahaa
open Go.RowKit

set_option maxHeartbeats 400000 in
theorem cmpInt_any (a b : Int) (w : World) : Calls Try.prog 96 #[.int .i64 a, .int .i64 b] w (Says (.int .i64 (cmpI a b)) w) := by
  by_cases h1 : a < b
  · have e : cmpI a b = -1 := by unfold cmpI; rw [if_pos h1]
    rw [e]
    have f1 : decide (a < b) = true := decide_eq_true h1
    clear e h1
    go_enter Try.func96, Try.ntmps96
    go_wp2
    go_ret
    exact ⟨rfl, rfl⟩
  · by_cases h2 : b < a
    · have e : cmpI a b = 1 := by unfold cmpI; rw [if_neg h1, if_pos h2]
      rw [e]
      have f1 : decide (a < b) = false := decide_eq_false h1
      have f2 : decide (b < a) = true := decide_eq_true h2
      clear e h1 h2
      go_enter Try.func96, Try.ntmps96
      go_wp2
      go_ret
      exact ⟨rfl, rfl⟩
    · have e : cmpI a b = 0 := by unfold cmpI; rw [if_neg h1, if_neg h2]
      rw [e]
      have f1 : decide (a < b) = false := decide_eq_false h1
      have f2 : decide (b < a) = false := decide_eq_false h2
      clear e h1 h2
      go_enter Try.func96, Try.ntmps96
      go_wp2
      go_ret
      exact ⟨rfl, rfl⟩

set_option maxHeartbeats 400000 in
theorem cmpStr_any (a b : ByteArray) (w : World) : Calls Try.prog 59 #[.string a, .string b] w (Says (.int .i64 (cmpS a b)) w) := by
  have e := cmpS_ways a b
  rcases str_ways a b with ⟨s1, s2, s3, s4, hne⟩ | ⟨he, s1, s2, s3, s4⟩ | ⟨s1, s2, s3, s4, hne⟩
  · have e1 : cmpS a b = -1 := by unfold cmpS less; rw [if_pos s1]
    rw [e1]
    clear e e1 hne
    go_enter Try.func59, Try.ntmps59
    go_wp2
    go_ret
    exact ⟨rfl, rfl⟩
  · have e1 : cmpS a b = 0 := cmpS_zero.2 he
    rw [e1]
    clear e e1 he
    go_enter Try.func59, Try.ntmps59
    go_wp2
    go_ret
    exact ⟨rfl, rfl⟩
  · have e1 : cmpS a b = 1 := by unfold cmpS less; rw [s1, if_neg (by decide), if_pos s4]
    rw [e1]
    clear e e1 hne
    go_enter Try.func59, Try.ntmps59
    go_wp2
    go_ret
    exact ⟨rfl, rfl⟩
end Go.Proofs.Ytjbjoalinfhahaa
namespace Go.Proofs.Ytjbjoalinfhahaa
open Go.RowKit

/-- what compare is asked of items of at most m nodes -/
def CmpUpto (m : Nat) : Prop := ∀ (x y : VT) (w : World) (v u : Value), x.size ≤ m → x.all okF = true → y.all okF = true → Lies w (Lo w) x v → Lies w (Lo w) y u → Calls Try.prog 74 #[v, u] w (Gives (.int .i64 (x.cmp y)) w)

theorem BelowBy.cell {w : World} {p : Addr} {v : Value} (h : w.cell? p = some v) : ∀ q : BelowBy w, q.val.cell? p = some v := fun q => (q.below.cell (World.block_lt_of_cell? w p h)).trans h
theorem cmps_drop {M : Bool} {xs ys : List VT} {ks ls : List ByteArray} {j : Nat} {x y : VT} (h1 : xs[j]? = some x) (h2 : ys[j]? = some y) :
    cmps M (xs.drop j) (ks.drop j) (ys.drop j) (ls.drop j) = thn (if M then cmpS (ks.getD j ByteArray.empty) (ls.getD j ByteArray.empty) else 0) (thn (x.cmp y) (cmps M (xs.drop (j + 1)) (ks.drop (j + 1)) (ys.drop (j + 1)) (ls.drop (j + 1)))) := by
  obtain ⟨hx, rfl⟩ := List.getElem?_eq_some_iff.1 h1
  obtain ⟨hy, rfl⟩ := List.getElem?_eq_some_iff.1 h2
  rw [List.drop_eq_getElem_cons hx, List.drop_eq_getElem_cons hy, cmps_cons, List.tail_drop, List.tail_drop]
  have e : ∀ l : List ByteArray, (l.drop j).headD ByteArray.empty = l.getD j ByteArray.empty := fun l => by
    rw [List.headD_eq_head?_getD, List.head?_drop, List.getD_eq_getElem?_getD]
  rw [e, e]
theorem cmps_end {M : Bool} {xs ys : List VT} {ks ls : List ByteArray} {j : Nat} (h : j = xs.length ∧ j ≤ ys.length ∨ j = ys.length ∧ j ≤ xs.length) : cmps M (xs.drop j) ks (ys.drop j) ls = cmpI (xs.length : Nat) (ys.length : Nat) := by
  rcases h with ⟨rfl, h⟩ | ⟨rfl, h⟩
  · rw [List.drop_length, cmps_nil, List.length_drop]
    unfold cmpI
    repeat' split <;> omega
  · rw [List.drop_length]
    cases hx : xs.drop ys.length with
    | nil =>
      have := congrArg List.length hx
      rw [List.length_drop, List.length_nil] at this
      rw [cmps_nil]
      unfold cmpI
      repeat' split <;> first | omega | simp at *
    | cons x r =>
      have := congrArg List.length hx
      rw [List.length_drop, List.length_cons] at this
      rw [cmps_out]
      unfold cmpI
      repeat' split <;> omega
theorem thn_ne {c d : Int} (h : c ≠ 0) : thn c d = c := by unfold thn; rw [if_neg h]
theorem thn_eq {c d : Int} (h : c = 0) : thn c d = d := by unfold thn; rw [if_pos h]

set_option maxHeartbeats 4000000 in
set_option linter.unusedVariables false in
theorem cmpItems_4le (m : Nat) (IH : Hid (CmpUpto m)) (i : Int) (t : ByteArray) (its : List VT) (ks : List ByteArray) (A : Option Addr) (c : Nat) (A' : Option Addr) (c' : Nat)
    (i' : Int) (t' : ByteArray) (jts : List VT) (ls : List ByteArray) (D : Option Addr) (e : Nat) (D' : Option Addr) (e' : Nat) (w : World)
    (hL : LiesL w (Lo w) A 0 its) (hM : LiesL w (Lo w) D 0 jts) (h1 : its.length ≤ c) (h2 : c ≤ 9223372036854775807) (h3 : jts.length ≤ e) (h4 : e ≤ 9223372036854775807)
    (hsz : sizes its ≤ m) (hw : alls okF its = true) (hw' : alls okF jts = true)  (hle : its.length ≤ jts.length) :
    Calls Try.prog 97 #[vag 4 i t A its.length c A' ks.length c', vag 4 i' t' D jts.length e D' ls.length e'] w (Gives (.int .i64 (cmps false its ks jts ls)) w) := by
  have HL := Lib.hid hL
  have HM := Lib.hid hM
  have HWF := Lib.hid (And.intro hw hw')
  clear hL hM hw hw'
  obtain ⟨w2, hw2⟩ : ∃ w2, w2 = (w.alloc (.cells #[.int .i64 4, .int .i64 i, .string t, .slice A its.length c, .slice A' ks.length c'] 26)).alloc (.cells #[.int .i64 4, .int .i64 i', .string t', .slice D jts.length e, .slice D' ls.length e'] 26) := ⟨_, rfl⟩
  have B2 : Hid (Below w.heap.size w w2) := Lib.hid (by rw [hw2]; exact (below_one _ _).trans (Below.alloc (Below.refl _ _) (by simp) _))
  have S2 : Hid (w.heap.size + 1 < w2.heap.size) := Lib.hid (by rw [hw2]; simp)
  have X1 : Hid (∀ j, w2.cell? ⟨w.heap.size, j, none⟩ = (#[.int .i64 4, .int .i64 i, .string t, .slice A its.length c, .slice A' ks.length c'] : Array Value)[j]?) := Lib.hid (fun j => by
    rw [hw2, World.cell?_alloc_lt _ _ _ (by simp), World.cell?_alloc_at _ _ _ _ rfl])
  have X2 : Hid (∀ j, w2.cell? ⟨w.heap.size + 1, j, none⟩ = (#[.int .i64 4, .int .i64 i', .string t', .slice D jts.length e, .slice D' ls.length e'] : Array Value)[j]?) := Lib.hid (fun j => by
    rw [hw2, World.cell?_alloc_at _ _ _ _ (by simp)])
  have HW := Lib.hid hw2
  clear hw2
  unfold vag
  go_enter Try.func97, Try.ntmps97
  go_wp2
  rw [← HW.out]
  go_loopw [15, 5, 6, 7] (fun s _ _ _ wr => ∃ j : Nat, j ≤ its.length ∧ s = .int .i64 j ∧ Hid (cmps false its ks jts ls = cmps false (its.drop j) (ks.drop j) (jts.drop j) (ls.drop j)) ∧ Hid (Below w2.heap.size w2 wr)) (fun s _ _ _ _ => its.length - (intOf s).toNat)
  case atStart => exact ⟨0, by omega, rfl, Lib.hid rfl, Lib.hid (Below.refl _ _)⟩
  case round =>
    obtain ⟨j, hjn, rfl, HJ, hb⟩ := hrel
    have b3 := (hb.out.cell (p := ⟨w.heap.size, 3, none⟩) (by have := S2.out; show w.heap.size < _; omega)).trans (X1.out 3)
    have b3' := (hb.out.cell (p := ⟨w.heap.size + 1, 3, none⟩) S2.out).trans (X2.out 3)
    change _ = some (Value.slice A its.length c) at b3
    change _ = some (Value.slice D jts.length e) at b3'
    by_cases hlt : j < its.length
    · have hot : j < jts.length := by omega
      have b0 := (hb.out.cell (p := ⟨w.heap.size, 0, none⟩) (by have := S2.out; show w.heap.size < _; omega)).trans (X1.out 0)
      have h1 := List.getElem?_eq_getElem (l := its) (i := j) (by omega)
      have h2 := List.getElem?_eq_getElem (l := jts) (i := j) (by omega)
      have HB := Lib.hid (below_next B2.out hb.out)
      have hwx := all_at HWF.out.1 h1
      have hwy := all_at HWF.out.2 h2
      obtain ⟨g, o, k1, i1, t1, B, n1, c1, B', n2, c2, hA, hg, e0, e1, e2, e3, e4, hx⟩ := (HL.out).at_ h1
      obtain ⟨g', o', k3, i3, t3, E, n3, c3, E', n4, c4, hD, hg', d0, d1, d2, d3, d4, hy⟩ := (HM.out).at_ h2
      subst hA hD
      have hle2 : (its[j]'(by omega)).size ≤ m := Nat.le_trans (size_at h1) hsz
      have hdr := cmps_drop (M := false) (ks := ks) (ls := ls) h1 h2
      generalize its[j]'(by omega) = x at *
      generalize jts[j]'(by omega) = y at *
      have cc := fun (q : Nat) => HB.out.cell (p := ⟨g, q, none⟩) hg
      have cc' := fun (q : Nat) => HB.out.cell (p := ⟨g', q, none⟩) hg'
      rw [Nat.zero_add] at e0 e1 e2 e3 e4 d0 d1 d2 d3 d4
      rw [← cc] at e0 e1 e2 e3 e4
      rw [← cc'] at d0 d1 d2 d3 d4
      rw [hdr] at HJ
      have HY := Lib.hid (And.intro hx hy)
      have HSZ := Lib.hid hle2
      have HWX := Lib.hid (And.intro hwx hwy)
      clear hx hy hle2 hwx hwy cc cc' hdr h1 h2
      have HJ := Lib.hid (HJ.out.trans (thn_eq rfl))
      have z3 := BelowBy.cell b3
      have z3' := BelowBy.cell b3'
      have q0 := BelowBy.cell e0
      have q1 := BelowBy.cell e1
      have q2 := BelowBy.cell e2
      have q3 := BelowBy.cell e3
      have q4 := BelowBy.cell e4
      have r0 := BelowBy.cell d0
      have r1 := BelowBy.cell d1
      have r2 := BelowBy.cell d2
      have r3 := BelowBy.cell d3
      have r4 := BelowBy.cell d4
      have HCC : Hid (∀ q : BelowBy wr, Calls Try.prog 74 #[vag k1 i1 t1 B n1 c1 B' n2 c2, vag k3 i3 t3 E n3 c3 E' n4 c4] q.val (Gives (.int .i64 (x.cmp y)) q.val)) := Lib.hid (fun q =>
        IH.out x y q.val _ _ HSZ.out HWX.out.1 HWX.out.2 ((HY.out.1.below HB.out).below q.below) ((HY.out.2.below HB.out).below q.below))
      unfold vag at HCC
      clear b3 b3' e0 e1 e2 e3 e4 d0 d1 d2 d3 d4
      go_wp2_with fail
      refine wp_region_gives (by kernel_rfl) (by kernel_rfl) ?_
      repeat (quiet_step ((go_at_call 74; exact gives_by (HCC.out _))))
      refine wpQuiet_nil ?_
      intro _ hw'
      obtain ⟨q, rfl⟩ := hw'
      obtain ⟨wq, hwq⟩ : ∃ wq, wq = q.val := ⟨_, rfl⟩
      have HQ : Hid (Below w2.heap.size w2 wq) := Lib.hid (by rw [hwq]; exact below_next hb.out q.below)
      rw [← hwq]
      clear hwq z3 z3' q0 q1 q2 q3 q4 r0 r1 r2 r3 r4 HCC
      by_cases hcz : x.cmp y = 0
      · rw [hcz]
        have HJ2 := Lib.hid (HJ.out.trans (by exact thn_eq hcz))
        clear hcz
        go_wp2
        go_roundw
        case rel => exact ⟨j + 1, by omega, by go_num, HJ2, HQ⟩
        case measure => simp [intOf]; omega
      · have HJ2 := Lib.hid (HJ.out.trans (by exact thn_ne hcz))
        have g1 : (x.cmp y != 0) = true := by rw [bne_iff_ne]; exact hcz
        clear hcz
        generalize x.cmp y = z at *
        go_wp2
        go_ret
        exact ⟨by rw [HJ2.out]; rfl, below_next B2.out HQ.out⟩
    · obtain rfl : j = its.length := by omega
      have HJ2 := Lib.hid (HJ.out.trans (cmps_end (by omega)))
      have HCI := Lib.hid (cmpInt_any (its.length : Nat) (jts.length : Nat) wr)
      go_wp2_with fail
      refine (HCI.out).mono ?_
      rintro e w' ⟨rfl, rfl⟩
      go_wp2
      go_ret
      exact ⟨by rw [HJ2.out]; rfl, below_next B2.out hb.out⟩

set_option maxHeartbeats 4000000 in
set_option linter.unusedVariables false in
theorem cmpItems_4gt (m : Nat) (IH : Hid (CmpUpto m)) (i : Int) (t : ByteArray) (its : List VT) (ks : List ByteArray) (A : Option Addr) (c : Nat) (A' : Option Addr) (c' : Nat)
    (i' : Int) (t' : ByteArray) (jts : List VT) (ls : List ByteArray) (D : Option Addr) (e : Nat) (D' : Option Addr) (e' : Nat) (w : World)
    (hL : LiesL w (Lo w) A 0 its) (hM : LiesL w (Lo w) D 0 jts) (h1 : its.length ≤ c) (h2 : c ≤ 9223372036854775807) (h3 : jts.length ≤ e) (h4 : e ≤ 9223372036854775807)
    (hsz : sizes its ≤ m) (hw : alls okF its = true) (hw' : alls okF jts = true)  (hle : jts.length < its.length) :
    Calls Try.prog 97 #[vag 4 i t A its.length c A' ks.length c', vag 4 i' t' D jts.length e D' ls.length e'] w (Gives (.int .i64 (cmps false its ks jts ls)) w) := by
  have HL := Lib.hid hL
  have HM := Lib.hid hM
  have HWF := Lib.hid (And.intro hw hw')
  clear hL hM hw hw'
  obtain ⟨w2, hw2⟩ : ∃ w2, w2 = (w.alloc (.cells #[.int .i64 4, .int .i64 i, .string t, .slice A its.length c, .slice A' ks.length c'] 26)).alloc (.cells #[.int .i64 4, .int .i64 i', .string t', .slice D jts.length e, .slice D' ls.length e'] 26) := ⟨_, rfl⟩
  have B2 : Hid (Below w.heap.size w w2) := Lib.hid (by rw [hw2]; exact (below_one _ _).trans (Below.alloc (Below.refl _ _) (by simp) _))
  have S2 : Hid (w.heap.size + 1 < w2.heap.size) := Lib.hid (by rw [hw2]; simp)
  have X1 : Hid (∀ j, w2.cell? ⟨w.heap.size, j, none⟩ = (#[.int .i64 4, .int .i64 i, .string t, .slice A its.length c, .slice A' ks.length c'] : Array Value)[j]?) := Lib.hid (fun j => by
    rw [hw2, World.cell?_alloc_lt _ _ _ (by simp), World.cell?_alloc_at _ _ _ _ rfl])
  have X2 : Hid (∀ j, w2.cell? ⟨w.heap.size + 1, j, none⟩ = (#[.int .i64 4, .int .i64 i', .string t', .slice D jts.length e, .slice D' ls.length e'] : Array Value)[j]?) := Lib.hid (fun j => by
    rw [hw2, World.cell?_alloc_at _ _ _ _ (by simp)])
  have HW := Lib.hid hw2
  clear hw2
  unfold vag
  go_enter Try.func97, Try.ntmps97
  go_wp2
  rw [← HW.out]
  go_loopw [15, 5, 6, 7] (fun s _ _ _ wr => ∃ j : Nat, j ≤ jts.length ∧ s = .int .i64 j ∧ Hid (cmps false its ks jts ls = cmps false (its.drop j) (ks.drop j) (jts.drop j) (ls.drop j)) ∧ Hid (Below w2.heap.size w2 wr)) (fun s _ _ _ _ => jts.length - (intOf s).toNat)
  case atStart => exact ⟨0, by omega, rfl, Lib.hid rfl, Lib.hid (Below.refl _ _)⟩
  case round =>
    obtain ⟨j, hjn, rfl, HJ, hb⟩ := hrel
    have b3 := (hb.out.cell (p := ⟨w.heap.size, 3, none⟩) (by have := S2.out; show w.heap.size < _; omega)).trans (X1.out 3)
    have b3' := (hb.out.cell (p := ⟨w.heap.size + 1, 3, none⟩) S2.out).trans (X2.out 3)
    change _ = some (Value.slice A its.length c) at b3
    change _ = some (Value.slice D jts.length e) at b3'
    by_cases hlt : j < jts.length
    · have hot : j < its.length := by omega
      have b0 := (hb.out.cell (p := ⟨w.heap.size, 0, none⟩) (by have := S2.out; show w.heap.size < _; omega)).trans (X1.out 0)
      have h1 := List.getElem?_eq_getElem (l := its) (i := j) (by omega)
      have h2 := List.getElem?_eq_getElem (l := jts) (i := j) (by omega)
      have HB := Lib.hid (below_next B2.out hb.out)
      have hwx := all_at HWF.out.1 h1
      have hwy := all_at HWF.out.2 h2
      obtain ⟨g, o, k1, i1, t1, B, n1, c1, B', n2, c2, hA, hg, e0, e1, e2, e3, e4, hx⟩ := (HL.out).at_ h1
      obtain ⟨g', o', k3, i3, t3, E, n3, c3, E', n4, c4, hD, hg', d0, d1, d2, d3, d4, hy⟩ := (HM.out).at_ h2
      subst hA hD
      have hle2 : (its[j]'(by omega)).size ≤ m := Nat.le_trans (size_at h1) hsz
      have hdr := cmps_drop (M := false) (ks := ks) (ls := ls) h1 h2
      generalize its[j]'(by omega) = x at *
      generalize jts[j]'(by omega) = y at *
      have cc := fun (q : Nat) => HB.out.cell (p := ⟨g, q, none⟩) hg
      have cc' := fun (q : Nat) => HB.out.cell (p := ⟨g', q, none⟩) hg'
      rw [Nat.zero_add] at e0 e1 e2 e3 e4 d0 d1 d2 d3 d4
      rw [← cc] at e0 e1 e2 e3 e4
      rw [← cc'] at d0 d1 d2 d3 d4
      rw [hdr] at HJ
      have HY := Lib.hid (And.intro hx hy)
      have HSZ := Lib.hid hle2
      have HWX := Lib.hid (And.intro hwx hwy)
      clear hx hy hle2 hwx hwy cc cc' hdr h1 h2
      have HJ := Lib.hid (HJ.out.trans (thn_eq rfl))
      have z3 := BelowBy.cell b3
      have z3' := BelowBy.cell b3'
      have q0 := BelowBy.cell e0
      have q1 := BelowBy.cell e1
      have q2 := BelowBy.cell e2
      have q3 := BelowBy.cell e3
      have q4 := BelowBy.cell e4
      have r0 := BelowBy.cell d0
      have r1 := BelowBy.cell d1
      have r2 := BelowBy.cell d2
      have r3 := BelowBy.cell d3
      have r4 := BelowBy.cell d4
      have HCC : Hid (∀ q : BelowBy wr, Calls Try.prog 74 #[vag k1 i1 t1 B n1 c1 B' n2 c2, vag k3 i3 t3 E n3 c3 E' n4 c4] q.val (Gives (.int .i64 (x.cmp y)) q.val)) := Lib.hid (fun q =>
        IH.out x y q.val _ _ HSZ.out HWX.out.1 HWX.out.2 ((HY.out.1.below HB.out).below q.below) ((HY.out.2.below HB.out).below q.below))
      unfold vag at HCC
      clear b3 b3' e0 e1 e2 e3 e4 d0 d1 d2 d3 d4
      go_wp2_with fail
      refine wp_region_gives (by kernel_rfl) (by kernel_rfl) ?_
      repeat (quiet_step ((go_at_call 74; exact gives_by (HCC.out _))))
      refine wpQuiet_nil ?_
      intro _ hw'
      obtain ⟨q, rfl⟩ := hw'
      obtain ⟨wq, hwq⟩ : ∃ wq, wq = q.val := ⟨_, rfl⟩
      have HQ : Hid (Below w2.heap.size w2 wq) := Lib.hid (by rw [hwq]; exact below_next hb.out q.below)
      rw [← hwq]
      clear hwq z3 z3' q0 q1 q2 q3 q4 r0 r1 r2 r3 r4 HCC
      by_cases hcz : x.cmp y = 0
      · rw [hcz]
        have HJ2 := Lib.hid (HJ.out.trans (by exact thn_eq hcz))
        clear hcz
        go_wp2
        go_roundw
        case rel => exact ⟨j + 1, by omega, by go_num, HJ2, HQ⟩
        case measure => simp [intOf]; omega
      · have HJ2 := Lib.hid (HJ.out.trans (by exact thn_ne hcz))
        have g1 : (x.cmp y != 0) = true := by rw [bne_iff_ne]; exact hcz
        clear hcz
        generalize x.cmp y = z at *
        go_wp2
        go_ret
        exact ⟨by rw [HJ2.out]; rfl, below_next B2.out HQ.out⟩
    · obtain rfl : j = jts.length := by omega
      have HJ2 := Lib.hid (HJ.out.trans (cmps_end (by omega)))
      have HCI := Lib.hid (cmpInt_any (its.length : Nat) (jts.length : Nat) wr)
      go_wp2_with fail
      refine (HCI.out).mono ?_
      rintro e w' ⟨rfl, rfl⟩
      go_wp2
      go_ret
      exact ⟨by rw [HJ2.out]; rfl, below_next B2.out hb.out⟩

set_option maxHeartbeats 4000000 in
set_option linter.unusedVariables false in
theorem cmpItems_5le (m : Nat) (IH : Hid (CmpUpto m)) (i : Int) (t : ByteArray) (its : List VT) (ks : List ByteArray) (A : Option Addr) (c : Nat) (A' : Option Addr) (c' : Nat)
    (i' : Int) (t' : ByteArray) (jts : List VT) (ls : List ByteArray) (D : Option Addr) (e : Nat) (D' : Option Addr) (e' : Nat) (w : World)
    (hL : LiesL w (Lo w) A 0 its) (hM : LiesL w (Lo w) D 0 jts) (hS : LiesS w (Lo w) A' ks) (hT : LiesS w (Lo w) D' ls) (h1 : its.length ≤ c) (h2 : c ≤ 9223372036854775807) (h3 : jts.length ≤ e) (h4 : e ≤ 9223372036854775807)
    (hsz : sizes its ≤ m) (hw : alls okF its = true) (hw' : alls okF jts = true) (hk : ks.length = its.length) (hl : ls.length = jts.length) (hle : its.length ≤ jts.length) :
    Calls Try.prog 97 #[vag 5 i t A its.length c A' ks.length c', vag 5 i' t' D jts.length e D' ls.length e'] w (Gives (.int .i64 (cmps true its ks jts ls)) w) := by
  have HL := Lib.hid hL
  have HM := Lib.hid hM
  have HS := Lib.hid hS
  have HT := Lib.hid hT
  have HWF := Lib.hid (And.intro hw hw')
  clear hL hM hS hT hw hw'
  have HKL := Lib.hid (And.intro hk hl)
  clear hk hl
  obtain ⟨w2, hw2⟩ : ∃ w2, w2 = (w.alloc (.cells #[.int .i64 5, .int .i64 i, .string t, .slice A its.length c, .slice A' ks.length c'] 26)).alloc (.cells #[.int .i64 5, .int .i64 i', .string t', .slice D jts.length e, .slice D' ls.length e'] 26) := ⟨_, rfl⟩
  have B2 : Hid (Below w.heap.size w w2) := Lib.hid (by rw [hw2]; exact (below_one _ _).trans (Below.alloc (Below.refl _ _) (by simp) _))
  have S2 : Hid (w.heap.size + 1 < w2.heap.size) := Lib.hid (by rw [hw2]; simp)
  have X1 : Hid (∀ j, w2.cell? ⟨w.heap.size, j, none⟩ = (#[.int .i64 5, .int .i64 i, .string t, .slice A its.length c, .slice A' ks.length c'] : Array Value)[j]?) := Lib.hid (fun j => by
    rw [hw2, World.cell?_alloc_lt _ _ _ (by simp), World.cell?_alloc_at _ _ _ _ rfl])
  have X2 : Hid (∀ j, w2.cell? ⟨w.heap.size + 1, j, none⟩ = (#[.int .i64 5, .int .i64 i', .string t', .slice D jts.length e, .slice D' ls.length e'] : Array Value)[j]?) := Lib.hid (fun j => by
    rw [hw2, World.cell?_alloc_at _ _ _ _ (by simp)])
  have HW := Lib.hid hw2
  clear hw2
  unfold vag
  go_enter Try.func97, Try.ntmps97
  go_wp2
  rw [← HW.out]
  go_loopw [15, 5, 6, 7] (fun s _ _ _ wr => ∃ j : Nat, j ≤ its.length ∧ s = .int .i64 j ∧ Hid (cmps true its ks jts ls = cmps true (its.drop j) (ks.drop j) (jts.drop j) (ls.drop j)) ∧ Hid (Below w2.heap.size w2 wr)) (fun s _ _ _ _ => its.length - (intOf s).toNat)
  case atStart => exact ⟨0, by omega, rfl, Lib.hid rfl, Lib.hid (Below.refl _ _)⟩
  case round =>
    obtain ⟨j, hjn, rfl, HJ, hb⟩ := hrel
    have b3 := (hb.out.cell (p := ⟨w.heap.size, 3, none⟩) (by have := S2.out; show w.heap.size < _; omega)).trans (X1.out 3)
    have b3' := (hb.out.cell (p := ⟨w.heap.size + 1, 3, none⟩) S2.out).trans (X2.out 3)
    change _ = some (Value.slice A its.length c) at b3
    change _ = some (Value.slice D jts.length e) at b3'
    by_cases hlt : j < its.length
    · have hot : j < jts.length := by omega
      have b0 := (hb.out.cell (p := ⟨w.heap.size, 0, none⟩) (by have := S2.out; show w.heap.size < _; omega)).trans (X1.out 0)
      have h1 := List.getElem?_eq_getElem (l := its) (i := j) (by omega)
      have h2 := List.getElem?_eq_getElem (l := jts) (i := j) (by omega)
      have HB := Lib.hid (below_next B2.out hb.out)
      have hwx := all_at HWF.out.1 h1
      have hwy := all_at HWF.out.2 h2
      obtain ⟨g, o, k1, i1, t1, B, n1, c1, B', n2, c2, hA, hg, e0, e1, e2, e3, e4, hx⟩ := (HL.out).at_ h1
      obtain ⟨g', o', k3, i3, t3, E, n3, c3, E', n4, c4, hD, hg', d0, d1, d2, d3, d4, hy⟩ := (HM.out).at_ h2
      subst hA hD
      have hle2 : (its[j]'(by omega)).size ≤ m := Nat.le_trans (size_at h1) hsz
      have hdr := cmps_drop (M := true) (ks := ks) (ls := ls) h1 h2
      generalize its[j]'(by omega) = x at *
      generalize jts[j]'(by omega) = y at *
      have cc := fun (q : Nat) => HB.out.cell (p := ⟨g, q, none⟩) hg
      have cc' := fun (q : Nat) => HB.out.cell (p := ⟨g', q, none⟩) hg'
      rw [Nat.zero_add] at e0 e1 e2 e3 e4 d0 d1 d2 d3 d4
      rw [← cc] at e0 e1 e2 e3 e4
      rw [← cc'] at d0 d1 d2 d3 d4
      rw [hdr] at HJ
      have HY := Lib.hid (And.intro hx hy)
      have HSZ := Lib.hid hle2
      have HWX := Lib.hid (And.intro hwx hwy)
      clear hx hy hle2 hwx hwy cc cc' hdr h1 h2
      have hkj : ks[j]? = some (ks.getD j ByteArray.empty) := by rw [List.getD_eq_getElem?_getD, List.getElem?_eq_getElem (by have := HKL.out.1; omega)]; rfl
      have hlj : ls[j]? = some (ls.getD j ByteArray.empty) := by rw [List.getD_eq_getElem?_getD, List.getElem?_eq_getElem (by have := HKL.out.2; omega)]; rfl
      have hjk : j < ks.length := by have := HKL.out.1; omega
      have hjl : j < ls.length := by have := HKL.out.2; omega
      obtain ⟨_, gk, ok, hA', hgk, f0⟩ := HS.out j _ hkj
      obtain ⟨_, gl, ol, hD', hgl, f1⟩ := HT.out j _ hlj
      subst hA' hD'
      have b4 := (hb.out.cell (p := ⟨w.heap.size, 4, none⟩) (by have := S2.out; show w.heap.size < _; omega)).trans (X1.out 4)
      have b4' := (hb.out.cell (p := ⟨w.heap.size + 1, 4, none⟩) S2.out).trans (X2.out 4)
      change _ = some (Value.slice (some ⟨gk, ok, none⟩) ks.length c') at b4
      change _ = some (Value.slice (some ⟨gl, ol, none⟩) ls.length e') at b4'
      rw [← HB.out.cell (p := ⟨gk, ok + j, none⟩) hgk] at f0
      rw [← HB.out.cell (p := ⟨gl, ol + j, none⟩) hgl] at f1
      clear hkj hlj
      generalize ks.getD j ByteArray.empty = s1 at *
      generalize ls.getD j ByteArray.empty = s2 at *
      have HCS := Lib.hid (fun w' => cmpStr_any s1 s2 w')
      go_wp2_with fail
      go_quiet ((go_at_call 59; exact Calls.quiet_of_same ((HCS.out _).mono fun _ _ h => ⟨h.1, h.2.symm⟩)))
      by_cases hcs : cmpS s1 s2 = 0
      · rw [hcs]
        have HJ := Lib.hid (HJ.out.trans (thn_eq hcs))
        clear hcs
        obtain ⟨W, hW⟩ : ∃ W, W = wr.drewN nq := ⟨_, rfl⟩
        have HB2 : Hid (Below w2.heap.size w2 W) := Lib.hid (by rw [hW]; exact below_drew hb.out _)
        have HBW : Hid (Below w.heap.size w W) := Lib.hid (below_next B2.out HB2.out)
        have ec : ∀ p, W.cell? p = wr.cell? p := fun p => by rw [hW]; exact World.cell?_drewN _ _ _
        rw [← ec] at b3 b3' e0 e1 e2 e3 e4 d0 d1 d2 d3 d4
        rw [← hW]
        clear hW ec b0 b4 b4' f0 f1 HCS
        have z3 := BelowBy.cell b3
        have z3' := BelowBy.cell b3'
        have q0 := BelowBy.cell e0
        have q1 := BelowBy.cell e1
        have q2 := BelowBy.cell e2
        have q3 := BelowBy.cell e3
        have q4 := BelowBy.cell e4
        have r0 := BelowBy.cell d0
        have r1 := BelowBy.cell d1
        have r2 := BelowBy.cell d2
        have r3 := BelowBy.cell d3
        have r4 := BelowBy.cell d4
        have HCC : Hid (∀ q : BelowBy W, Calls Try.prog 74 #[vag k1 i1 t1 B n1 c1 B' n2 c2, vag k3 i3 t3 E n3 c3 E' n4 c4] q.val (Gives (.int .i64 (x.cmp y)) q.val)) := Lib.hid (fun q =>
          IH.out x y q.val _ _ HSZ.out HWX.out.1 HWX.out.2 ((HY.out.1.below HBW.out).below q.below) ((HY.out.2.below HBW.out).below q.below))
        unfold vag at HCC
        have HBW2 := Lib.hid HB2.out
        clear b3 b3' e0 e1 e2 e3 e4 d0 d1 d2 d3 d4
        go_wp2_with fail
        refine wp_region_gives (by kernel_rfl) (by kernel_rfl) ?_
        repeat (quiet_step ((go_at_call 74; exact gives_by (HCC.out _))))
        refine wpQuiet_nil ?_
        intro _ hw'
        obtain ⟨q, rfl⟩ := hw'
        obtain ⟨wq, hwq⟩ : ∃ wq, wq = q.val := ⟨_, rfl⟩
        have HQ : Hid (Below w2.heap.size w2 wq) := Lib.hid (by rw [hwq]; exact below_next HB2.out q.below)
        rw [← hwq]
        clear hwq z3 z3' q0 q1 q2 q3 q4 r0 r1 r2 r3 r4 HCC
        by_cases hcz : x.cmp y = 0
        · rw [hcz]
          have HJ2 := Lib.hid (HJ.out.trans (by exact thn_eq hcz))
          clear hcz
          go_wp2
          go_roundw
          case rel => exact ⟨j + 1, by omega, by go_num, HJ2, HQ⟩
          case measure => simp [intOf]; omega
        · have HJ2 := Lib.hid (HJ.out.trans (by exact thn_ne hcz))
          have g1 : (x.cmp y != 0) = true := by rw [bne_iff_ne]; exact hcz
          clear hcz
          generalize x.cmp y = z at *
          go_wp2
          go_ret
          exact ⟨by rw [HJ2.out]; rfl, below_next B2.out HQ.out⟩
      · have HJ := Lib.hid (HJ.out.trans (thn_ne hcs))
        have g1 : (cmpS s1 s2 != 0) = true := by rw [bne_iff_ne]; exact hcs
        clear hcs HCS
        generalize cmpS s1 s2 = z at *
        go_wp2
        go_ret
        exact ⟨by rw [HJ.out]; rfl, below_next B2.out (below_drew hb.out _)⟩
    · obtain rfl : j = its.length := by omega
      have HJ2 := Lib.hid (HJ.out.trans (cmps_end (by omega)))
      have HCI := Lib.hid (cmpInt_any (its.length : Nat) (jts.length : Nat) wr)
      go_wp2_with fail
      refine (HCI.out).mono ?_
      rintro e w' ⟨rfl, rfl⟩
      go_wp2
      go_ret
      exact ⟨by rw [HJ2.out]; rfl, below_next B2.out hb.out⟩

set_option maxHeartbeats 4000000 in
set_option linter.unusedVariables false in
theorem cmpItems_5gt (m : Nat) (IH : Hid (CmpUpto m)) (i : Int) (t : ByteArray) (its : List VT) (ks : List ByteArray) (A : Option Addr) (c : Nat) (A' : Option Addr) (c' : Nat)
    (i' : Int) (t' : ByteArray) (jts : List VT) (ls : List ByteArray) (D : Option Addr) (e : Nat) (D' : Option Addr) (e' : Nat) (w : World)
    (hL : LiesL w (Lo w) A 0 its) (hM : LiesL w (Lo w) D 0 jts) (hS : LiesS w (Lo w) A' ks) (hT : LiesS w (Lo w) D' ls) (h1 : its.length ≤ c) (h2 : c ≤ 9223372036854775807) (h3 : jts.length ≤ e) (h4 : e ≤ 9223372036854775807)
    (hsz : sizes its ≤ m) (hw : alls okF its = true) (hw' : alls okF jts = true) (hk : ks.length = its.length) (hl : ls.length = jts.length) (hle : jts.length < its.length) :
    Calls Try.prog 97 #[vag 5 i t A its.length c A' ks.length c', vag 5 i' t' D jts.length e D' ls.length e'] w (Gives (.int .i64 (cmps true its ks jts ls)) w) := by
  have HL := Lib.hid hL
  have HM := Lib.hid hM
  have HS := Lib.hid hS
  have HT := Lib.hid hT
  have HWF := Lib.hid (And.intro hw hw')
  clear hL hM hS hT hw hw'
  have HKL := Lib.hid (And.intro hk hl)
  clear hk hl
  obtain ⟨w2, hw2⟩ : ∃ w2, w2 = (w.alloc (.cells #[.int .i64 5, .int .i64 i, .string t, .slice A its.length c, .slice A' ks.length c'] 26)).alloc (.cells #[.int .i64 5, .int .i64 i', .string t', .slice D jts.length e, .slice D' ls.length e'] 26) := ⟨_, rfl⟩
  have B2 : Hid (Below w.heap.size w w2) := Lib.hid (by rw [hw2]; exact (below_one _ _).trans (Below.alloc (Below.refl _ _) (by simp) _))
  have S2 : Hid (w.heap.size + 1 < w2.heap.size) := Lib.hid (by rw [hw2]; simp)
  have X1 : Hid (∀ j, w2.cell? ⟨w.heap.size, j, none⟩ = (#[.int .i64 5, .int .i64 i, .string t, .slice A its.length c, .slice A' ks.length c'] : Array Value)[j]?) := Lib.hid (fun j => by
    rw [hw2, World.cell?_alloc_lt _ _ _ (by simp), World.cell?_alloc_at _ _ _ _ rfl])
  have X2 : Hid (∀ j, w2.cell? ⟨w.heap.size + 1, j, none⟩ = (#[.int .i64 5, .int .i64 i', .string t', .slice D jts.length e, .slice D' ls.length e'] : Array Value)[j]?) := Lib.hid (fun j => by
    rw [hw2, World.cell?_alloc_at _ _ _ _ (by simp)])
  have HW := Lib.hid hw2
  clear hw2
  unfold vag
  go_enter Try.func97, Try.ntmps97
  go_wp2
  rw [← HW.out]
  go_loopw [15, 5, 6, 7] (fun s _ _ _ wr => ∃ j : Nat, j ≤ jts.length ∧ s = .int .i64 j ∧ Hid (cmps true its ks jts ls = cmps true (its.drop j) (ks.drop j) (jts.drop j) (ls.drop j)) ∧ Hid (Below w2.heap.size w2 wr)) (fun s _ _ _ _ => jts.length - (intOf s).toNat)
  case atStart => exact ⟨0, by omega, rfl, Lib.hid rfl, Lib.hid (Below.refl _ _)⟩
  case round =>
    obtain ⟨j, hjn, rfl, HJ, hb⟩ := hrel
    have b3 := (hb.out.cell (p := ⟨w.heap.size, 3, none⟩) (by have := S2.out; show w.heap.size < _; omega)).trans (X1.out 3)
    have b3' := (hb.out.cell (p := ⟨w.heap.size + 1, 3, none⟩) S2.out).trans (X2.out 3)
    change _ = some (Value.slice A its.length c) at b3
    change _ = some (Value.slice D jts.length e) at b3'
    by_cases hlt : j < jts.length
    · have hot : j < its.length := by omega
      have b0 := (hb.out.cell (p := ⟨w.heap.size, 0, none⟩) (by have := S2.out; show w.heap.size < _; omega)).trans (X1.out 0)
      have h1 := List.getElem?_eq_getElem (l := its) (i := j) (by omega)
      have h2 := List.getElem?_eq_getElem (l := jts) (i := j) (by omega)
      have HB := Lib.hid (below_next B2.out hb.out)
      have hwx := all_at HWF.out.1 h1
      have hwy := all_at HWF.out.2 h2
      obtain ⟨g, o, k1, i1, t1, B, n1, c1, B', n2, c2, hA, hg, e0, e1, e2, e3, e4, hx⟩ := (HL.out).at_ h1
      obtain ⟨g', o', k3, i3, t3, E, n3, c3, E', n4, c4, hD, hg', d0, d1, d2, d3, d4, hy⟩ := (HM.out).at_ h2
      subst hA hD
      have hle2 : (its[j]'(by omega)).size ≤ m := Nat.le_trans (size_at h1) hsz
      have hdr := cmps_drop (M := true) (ks := ks) (ls := ls) h1 h2
      generalize its[j]'(by omega) = x at *
      generalize jts[j]'(by omega) = y at *
      have cc := fun (q : Nat) => HB.out.cell (p := ⟨g, q, none⟩) hg
      have cc' := fun (q : Nat) => HB.out.cell (p := ⟨g', q, none⟩) hg'
      rw [Nat.zero_add] at e0 e1 e2 e3 e4 d0 d1 d2 d3 d4
      rw [← cc] at e0 e1 e2 e3 e4
      rw [← cc'] at d0 d1 d2 d3 d4
      rw [hdr] at HJ
      have HY := Lib.hid (And.intro hx hy)
      have HSZ := Lib.hid hle2
      have HWX := Lib.hid (And.intro hwx hwy)
      clear hx hy hle2 hwx hwy cc cc' hdr h1 h2
      have hkj : ks[j]? = some (ks.getD j ByteArray.empty) := by rw [List.getD_eq_getElem?_getD, List.getElem?_eq_getElem (by have := HKL.out.1; omega)]; rfl
      have hlj : ls[j]? = some (ls.getD j ByteArray.empty) := by rw [List.getD_eq_getElem?_getD, List.getElem?_eq_getElem (by have := HKL.out.2; omega)]; rfl
      have hjk : j < ks.length := by have := HKL.out.1; omega
      have hjl : j < ls.length := by have := HKL.out.2; omega
      obtain ⟨_, gk, ok, hA', hgk, f0⟩ := HS.out j _ hkj
      obtain ⟨_, gl, ol, hD', hgl, f1⟩ := HT.out j _ hlj
      subst hA' hD'
      have b4 := (hb.out.cell (p := ⟨w.heap.size, 4, none⟩) (by have := S2.out; show w.heap.size < _; omega)).trans (X1.out 4)
      have b4' := (hb.out.cell (p := ⟨w.heap.size + 1, 4, none⟩) S2.out).trans (X2.out 4)
      change _ = some (Value.slice (some ⟨gk, ok, none⟩) ks.length c') at b4
      change _ = some (Value.slice (some ⟨gl, ol, none⟩) ls.length e') at b4'
      rw [← HB.out.cell (p := ⟨gk, ok + j, none⟩) hgk] at f0
      rw [← HB.out.cell (p := ⟨gl, ol + j, none⟩) hgl] at f1
      clear hkj hlj
      generalize ks.getD j ByteArray.empty = s1 at *
      generalize ls.getD j ByteArray.empty = s2 at *
      have HCS := Lib.hid (fun w' => cmpStr_any s1 s2 w')
      go_wp2_with fail
      go_quiet ((go_at_call 59; exact Calls.quiet_of_same ((HCS.out _).mono fun _ _ h => ⟨h.1, h.2.symm⟩)))
      by_cases hcs : cmpS s1 s2 = 0
      · rw [hcs]
        have HJ := Lib.hid (HJ.out.trans (thn_eq hcs))
        clear hcs
        obtain ⟨W, hW⟩ : ∃ W, W = wr.drewN nq := ⟨_, rfl⟩
        have HB2 : Hid (Below w2.heap.size w2 W) := Lib.hid (by rw [hW]; exact below_drew hb.out _)
        have HBW : Hid (Below w.heap.size w W) := Lib.hid (below_next B2.out HB2.out)
        have ec : ∀ p, W.cell? p = wr.cell? p := fun p => by rw [hW]; exact World.cell?_drewN _ _ _
        rw [← ec] at b3 b3' e0 e1 e2 e3 e4 d0 d1 d2 d3 d4
        rw [← hW]
        clear hW ec b0 b4 b4' f0 f1 HCS
        have z3 := BelowBy.cell b3
        have z3' := BelowBy.cell b3'
        have q0 := BelowBy.cell e0
        have q1 := BelowBy.cell e1
        have q2 := BelowBy.cell e2
        have q3 := BelowBy.cell e3
        have q4 := BelowBy.cell e4
        have r0 := BelowBy.cell d0
        have r1 := BelowBy.cell d1
        have r2 := BelowBy.cell d2
        have r3 := BelowBy.cell d3
        have r4 := BelowBy.cell d4
        have HCC : Hid (∀ q : BelowBy W, Calls Try.prog 74 #[vag k1 i1 t1 B n1 c1 B' n2 c2, vag k3 i3 t3 E n3 c3 E' n4 c4] q.val (Gives (.int .i64 (x.cmp y)) q.val)) := Lib.hid (fun q =>
          IH.out x y q.val _ _ HSZ.out HWX.out.1 HWX.out.2 ((HY.out.1.below HBW.out).below q.below) ((HY.out.2.below HBW.out).below q.below))
        unfold vag at HCC
        have HBW2 := Lib.hid HB2.out
        clear b3 b3' e0 e1 e2 e3 e4 d0 d1 d2 d3 d4
        go_wp2_with fail
        refine wp_region_gives (by kernel_rfl) (by kernel_rfl) ?_
        repeat (quiet_step ((go_at_call 74; exact gives_by (HCC.out _))))
        refine wpQuiet_nil ?_
        intro _ hw'
        obtain ⟨q, rfl⟩ := hw'
        obtain ⟨wq, hwq⟩ : ∃ wq, wq = q.val := ⟨_, rfl⟩
        have HQ : Hid (Below w2.heap.size w2 wq) := Lib.hid (by rw [hwq]; exact below_next HB2.out q.below)
        rw [← hwq]
        clear hwq z3 z3' q0 q1 q2 q3 q4 r0 r1 r2 r3 r4 HCC
        by_cases hcz : x.cmp y = 0
        · rw [hcz]
          have HJ2 := Lib.hid (HJ.out.trans (by exact thn_eq hcz))
          clear hcz
          go_wp2
          go_roundw
          case rel => exact ⟨j + 1, by omega, by go_num, HJ2, HQ⟩
          case measure => simp [intOf]; omega
        · have HJ2 := Lib.hid (HJ.out.trans (by exact thn_ne hcz))
          have g1 : (x.cmp y != 0) = true := by rw [bne_iff_ne]; exact hcz
          clear hcz
          generalize x.cmp y = z at *
          go_wp2
          go_ret
          exact ⟨by rw [HJ2.out]; rfl, below_next B2.out HQ.out⟩
      · have HJ := Lib.hid (HJ.out.trans (thn_ne hcs))
        have g1 : (cmpS s1 s2 != 0) = true := by rw [bne_iff_ne]; exact hcs
        clear hcs HCS
        generalize cmpS s1 s2 = z at *
        go_wp2
        go_ret
        exact ⟨by rw [HJ.out]; rfl, below_next B2.out (below_drew hb.out _)⟩
    · obtain rfl : j = jts.length := by omega
      have HJ2 := Lib.hid (HJ.out.trans (cmps_end (by omega)))
      have HCI := Lib.hid (cmpInt_any (its.length : Nat) (jts.length : Nat) wr)
      go_wp2_with fail
      refine (HCI.out).mono ?_
      rintro e w' ⟨rfl, rfl⟩
      go_wp2
      go_ret
      exact ⟨by rw [HJ2.out]; rfl, below_next B2.out hb.out⟩
end Go.Proofs.Ytjbjoalinfhahaa
namespace Go.Proofs.Ytjbjoalinfhahaa
open Go.RowKit

theorem thn_r0 (c : Int) : thn c 0 = c := by unfold thn; split <;> omega
theorem size0 {a b : ByteArray} (h : a.size = 0) (k : b.size = 0) : a = b := by
  cases a with | mk a => cases b with | mk b =>
  have h1 : a = #[] := Array.eq_empty_of_size_eq_zero h
  have h2 : b = #[] := Array.eq_empty_of_size_eq_zero k
  rw [h1, h2]
theorem len0 {α : Type} {l : List α} (h : l.length = 0) : l = [] := List.eq_nil_of_length_eq_zero h

section
variable {k k' i i' : Int} {t t' : ByteArray} {its jts : List VT} {ks ls : List ByteArray}
theorem wf_kind (h : okF (.mk k i t its ks) = true) : 0 ≤ k ∧ k ≤ 6 := by
  by_cases hk : 0 ≤ k ∧ k ≤ 6
  · exact hk
  · unfold okF VT.k at h
    simp only [show ¬ k = 0 from by omega, show ¬ k = 1 from by omega, show ¬ k = 2 from by omega, show ¬ k = 3 from by omega, show ¬ k = 4 from by omega, show ¬ k = 5 from by omega, show ¬ k = 6 from by omega, if_false] at h
    cases h
theorem wf_int (h : okF (.mk k i t its ks) = true) (hk : k = 0 ∨ k = 1 ∨ k = 2 ∨ k = 6) : t.size = 0 ∧ its = [] := by
  rcases hk with rfl | rfl | rfl | rfl
  · rw [okF_0] at h; simp only [Bool.and_eq_true, decide_eq_true_eq] at h; exact ⟨h.2.1, len0 h.2.2.1⟩
  · rw [okF_1] at h; simp only [Bool.and_eq_true, decide_eq_true_eq] at h; exact ⟨h.2.1, len0 h.2.2.1⟩
  · rw [okF_2] at h; simp only [Bool.and_eq_true, decide_eq_true_eq] at h; exact ⟨h.1, len0 h.2.1⟩
  · rw [okF_6] at h; simp only [Bool.and_eq_true, decide_eq_true_eq] at h; exact ⟨h.2.1, len0 h.2.2.1⟩
theorem wf_text (h : okF (.mk 3 i t its ks) = true) : i = 0 ∧ its = [] := by
  rw [okF_3] at h; simp only [Bool.and_eq_true, decide_eq_true_eq] at h; exact ⟨h.1, len0 h.2.1⟩
theorem wf_list (h : okF (.mk 4 i t its ks) = true) : i = 0 ∧ t.size = 0 := by
  rw [okF_4] at h; simp only [Bool.and_eq_true, decide_eq_true_eq] at h; exact ⟨h.1, h.2.1⟩
theorem wf_map (h : okF (.mk 5 i t its ks) = true) : i = 0 ∧ t.size = 0 ∧ ks.length = its.length := by
  rw [okF_5] at h; simp only [Bool.and_eq_true, decide_eq_true_eq] at h; exact ⟨h.1, h.2.1, h.2.2.1⟩
theorem cmp_ne (h : k ≠ k') : (VT.mk k i t its ks).cmp (.mk k' i' t' jts ls) = cmpI k k' := by
  rw [VT.cmp_mk]; exact thn_ne (fun e => h (cmpI_zero.1 e))
theorem cmp_int (hx : t.size = 0 ∧ its = []) (hy : t'.size = 0 ∧ jts = []) : (VT.mk k i t its ks).cmp (.mk k i' t' jts ls) = cmpI i i' := by
  rw [VT.cmp_mk]
  simp only [VT.k, VT.i, VT.t, VT.its, VT.ks]
  rw [hx.2, hy.2, cmps_nil, thn_eq (cmpI_zero.2 rfl), thn_eq (c := cmpS t t') (cmpS_zero.2 (size0 hx.1 hy.1))]
  exact thn_r0 _
theorem cmp_text (hx : i = 0 ∧ its = []) (hy : i' = 0 ∧ jts = []) : (VT.mk k i t its ks).cmp (.mk k i' t' jts ls) = cmpS t t' := by
  rw [VT.cmp_mk]
  simp only [VT.k, VT.i, VT.t, VT.its, VT.ks]
  rw [hx.2, hy.2, hx.1, hy.1, cmps_nil, thn_eq (cmpI_zero.2 rfl), thn_eq (cmpI_zero.2 rfl)]
  exact thn_r0 _
theorem cmp_row (hx : i = 0 ∧ t.size = 0) (hy : i' = 0 ∧ t'.size = 0) : (VT.mk k i t its ks).cmp (.mk k i' t' jts ls) = cmps (decide (k = 5)) its ks jts ls := by
  rw [VT.cmp_mk]
  simp only [VT.k, VT.i, VT.t, VT.its, VT.ks]
  rw [hx.1, hy.1, thn_eq (cmpI_zero.2 rfl), thn_eq (cmpI_zero.2 rfl), thn_eq (c := cmpS t t') (cmpS_zero.2 (size0 hx.2 hy.2))]
end

set_option maxHeartbeats 4000000 in
theorem valCmp_all (m : Nat) : CmpUpto m := by
  induction m with
  | zero => intro x _ _ _ _ h; have := size_pos x; omega
  | succ m ih =>
    intro x y w v u hsz hwx hwy hv hu
    have IH := Lib.hid ih
    clear ih
    obtain ⟨k, i, t, its, ks⟩ := x
    obtain ⟨k', i', t', jts, ls⟩ := y
    obtain ⟨A, c, A', c', rfl, _, _, _, h1, h2, hL, h3, h4, hS⟩ := hv.open
    obtain ⟨D, e, D', e', rfl, _, _, _, g1, g2, hM, g3, g4, hT⟩ := hu.open
    rw [VT.size_mk] at hsz
    rw [VT.all_mk, Bool.and_eq_true] at hwx hwy
    obtain ⟨w2, hw2⟩ : ∃ w2, w2 = (w.alloc (.cells #[.int .i64 k, .int .i64 i, .string t, .slice A its.length c, .slice A' ks.length c'] 26)).alloc (.cells #[.int .i64 k', .int .i64 i', .string t', .slice D jts.length e, .slice D' ls.length e'] 26) := ⟨_, rfl⟩
    have B2 : Hid (Below w.heap.size w w2) := Lib.hid (by rw [hw2]; exact (below_one _ _).trans (Below.alloc (Below.refl _ _) (by simp) _))
    have HCK := Lib.hid (cmpInt_any k k' w2)
    by_cases hk : k = k'
    · subst hk
      by_cases k3 : k = 3
      · subst k3
        have HR := Lib.hid (cmp_text (k := 3) (ks := ks) (ls := ls) (t := t) (t' := t') (wf_text hwx.1) (wf_text hwy.1))
        have HC := Lib.hid (cmpStr_any t t' w2)
        have HZ := Lib.hid (show cmpI 3 3 = 0 from cmpI_zero.2 rfl)
        have HW := Lib.hid hw2
        clear hv hu hL hM hS hT hwx hwy hw2
        unfold vag
        go_enter Try.func74, Try.ntmps74
        go_wp2_with fail
        rw [← HW.out]
        refine (HCK.out).mono ?_
        rintro z w' ⟨rfl, rfl⟩
        rw [HZ.out, HW.out]
        go_wp2_with fail
        rw [← HW.out]
        refine (HC.out).mono ?_
        rintro z w' ⟨rfl, rfl⟩
        go_wp2
        go_ret
        exact ⟨by rw [HR.out]; rfl, B2.out⟩
      · by_cases k45 : k = 4 ∨ k = 5
        · have hLb := hL.below B2.out
          have hMb := hM.below B2.out
          have hSb := hS.below B2.out
          have hTb := hT.below B2.out
          have HZ := Lib.hid (show cmpI k k = 0 from cmpI_zero.2 rfl)
          have HR : Hid ((VT.mk k i t its ks).cmp (.mk k i' t' jts ls) = cmps (decide (k = 5)) its ks jts ls) := by
            rcases k45 with rfl | rfl
            · exact Lib.hid (cmp_row (wf_list hwx.1) (wf_list hwy.1))
            · exact Lib.hid (cmp_row ⟨(wf_map hwx.1).1, (wf_map hwx.1).2.1⟩ ⟨(wf_map hwy.1).1, (wf_map hwy.1).2.1⟩)
          have HC : Hid (Calls Try.prog 97 #[vag k i t A its.length c A' ks.length c', vag k i' t' D jts.length e D' ls.length e'] w2 (Gives (.int .i64 (cmps (decide (k = 5)) its ks jts ls)) w2)) := by
            rcases k45 with rfl | rfl
            · by_cases hle : its.length ≤ jts.length
              · exact Lib.hid (cmpItems_4le m IH i t its ks A c A' c' i' t' jts ls D e D' e' w2 hLb hMb h1 h2 g1 g2 (by omega) hwx.2 hwy.2 hle)
              · exact Lib.hid (cmpItems_4gt m IH i t its ks A c A' c' i' t' jts ls D e D' e' w2 hLb hMb h1 h2 g1 g2 (by omega) hwx.2 hwy.2 (by omega))
            · by_cases hle : its.length ≤ jts.length
              · exact Lib.hid (cmpItems_5le m IH i t its ks A c A' c' i' t' jts ls D e D' e' w2 hLb hMb hSb hTb h1 h2 g1 g2 (by omega) hwx.2 hwy.2 (wf_map hwx.1).2.2 (wf_map hwy.1).2.2 hle)
              · exact Lib.hid (cmpItems_5gt m IH i t its ks A c A' c' i' t' jts ls D e D' e' w2 hLb hMb hSb hTb h1 h2 g1 g2 (by omega) hwx.2 hwy.2 (wf_map hwx.1).2.2 (wf_map hwy.1).2.2 (by omega))
          have f3 : (k == 3) = false := by rw [beq_eq_false_iff_ne]; exact k3
          have HW := Lib.hid hw2
          unfold vag at HC
          generalize cmps (decide (k = 5)) its ks jts ls = z at *
          rcases k45 with rfl | rfl
          · clear hv hu hL hM hS hT hwx hwy hw2 hLb hMb hSb hTb k3 f3
            unfold vag
            go_enter Try.func74, Try.ntmps74
            go_wp2_with fail
            rw [← HW.out]
            refine (HCK.out).mono ?_
            rintro z w' ⟨rfl, rfl⟩
            rw [HZ.out, HW.out]
            go_wp2_with fail
            rw [← HW.out]
            refine (HC.out).mono ?_
            rintro z w' ⟨rfl, hb⟩
            have HB := Lib.hid (below_next B2.out hb)
            clear hb
            go_wp2
            go_ret
            exact ⟨by rw [HR.out]; rfl, HB.out⟩
          · clear hv hu hL hM hS hT hwx hwy hw2 hLb hMb hSb hTb k3 f3
            unfold vag
            go_enter Try.func74, Try.ntmps74
            go_wp2_with fail
            rw [← HW.out]
            refine (HCK.out).mono ?_
            rintro z w' ⟨rfl, rfl⟩
            rw [HZ.out, HW.out]
            go_wp2_with fail
            rw [← HW.out]
            refine (HC.out).mono ?_
            rintro z w' ⟨rfl, hb⟩
            have HB := Lib.hid (below_next B2.out hb)
            clear hb
            go_wp2
            go_ret
            exact ⟨by rw [HR.out]; rfl, HB.out⟩
        · have hk6 := wf_kind hwx.1
          have hk4 : k = 0 ∨ k = 1 ∨ k = 2 ∨ k = 6 := by omega
          have HR := Lib.hid (cmp_int (k := k) (ks := ks) (ls := ls) (i := i) (i' := i') (wf_int hwx.1 hk4) (wf_int hwy.1 hk4))
          have HC := Lib.hid (cmpInt_any i i' w2)
          have HZ := Lib.hid (show cmpI k k = 0 from cmpI_zero.2 rfl)
          have f3 : (k == 3) = false := by rw [beq_eq_false_iff_ne]; omega
          have f4 : (k == 4) = false := by rw [beq_eq_false_iff_ne]; omega
          have f5 : (k == 5) = false := by rw [beq_eq_false_iff_ne]; omega
          have HW := Lib.hid hw2
          clear hv hu hL hM hS hT hwx hwy hw2 k3 k45 hk6 hk4
          unfold vag
          go_enter Try.func74, Try.ntmps74
          go_wp2_with fail
          rw [← HW.out]
          refine (HCK.out).mono ?_
          rintro z w' ⟨rfl, rfl⟩
          rw [HZ.out, HW.out]
          go_wp2_with fail
          rw [← HW.out]
          refine (HC.out).mono ?_
          rintro z w' ⟨rfl, rfl⟩
          go_wp2
          go_ret
          exact ⟨by rw [HR.out]; rfl, B2.out⟩
    · have HR := Lib.hid (cmp_ne (i := i) (t := t) (its := its) (ks := ks) (i' := i') (t' := t') (jts := jts) (ls := ls) hk)
      have g1 : (cmpI k k' != 0) = true := by rw [bne_iff_ne]; exact fun e => hk (cmpI_zero.1 e)
      have HW := Lib.hid hw2
      clear hv hu hL hM hS hT hwx hwy hw2 hk
      generalize cmpI k k' = z at *
      unfold vag
      go_enter Try.func74, Try.ntmps74
      go_wp2_with fail
      rw [← HW.out]
      refine (HCK.out).mono ?_
      rintro z w' ⟨rfl, rfl⟩
      go_wp2
      go_ret
      exact ⟨by rw [HR.out]; rfl, B2.out⟩

/-- Order's answer -/
def VT.ord (x y : VT) : Int := if x.wf && y.wf then x.cmp y else 0

set_option maxHeartbeats 1000000 in
theorem valOrder_any {x y : VT} {v u : Value} {w : World} (hv : Lies w (Lo w) x v) (hu : Lies w (Lo w) y u) : Calls Try.prog 37 #[v, u] w (Gives (.int .i64 (x.ord y)) w) := by
  obtain ⟨o, ho⟩ : ∃ o, o = x.ord y := ⟨_, rfl⟩
  rw [← ho]
  unfold VT.ord at ho
  have HX := Lib.hid (fun (w' : World) (hb : Below w.heap.size w w') => wf_any (hv.below hb))
  have HY := Lib.hid (fun (w' : World) (hb : Below w.heap.size w w') => wf_any (hu.below hb))
  have HC := Lib.hid (fun (w' : World) (hb : Below w.heap.size w w') (h1 : x.wf = true) (h2 : y.wf = true) => valCmp_all x.size x y w' v u (Nat.le_refl _) h1 h2 (hv.below hb) (hu.below hb))
  obtain ⟨k, i, t, its, ks⟩ := x
  obtain ⟨k', i', t', jts, ls⟩ := y
  obtain ⟨A, c, A', c', rfl, _, _, _, h1, h2, hL, h3, h4, hS⟩ := hv.open
  obtain ⟨D, e, D', e', rfl, _, _, _, g1, g2, hM, g3, g4, hT⟩ := hu.open
  obtain ⟨w2, hw2⟩ : ∃ w2, w2 = (w.alloc (.cells #[.int .i64 k, .int .i64 i, .string t, .slice A its.length c, .slice A' ks.length c'] 26)).alloc (.cells #[.int .i64 k', .int .i64 i', .string t', .slice D jts.length e, .slice D' ls.length e'] 26) := ⟨_, rfl⟩
  have B2 : Hid (Below w.heap.size w w2) := Lib.hid (by rw [hw2]; exact (below_one _ _).trans (Below.alloc (Below.refl _ _) (by simp) _))
  have S2 : Hid (w.heap.size + 1 < w2.heap.size) := Lib.hid (by rw [hw2]; simp)
  have X1 : Hid (∀ j, w2.cell? ⟨w.heap.size, j, none⟩ = (#[.int .i64 k, .int .i64 i, .string t, .slice A its.length c, .slice A' ks.length c'] : Array Value)[j]?) := Lib.hid (fun j => by
    rw [hw2, World.cell?_alloc_lt _ _ _ (by simp), World.cell?_alloc_at _ _ _ _ rfl])
  have X2 : Hid (∀ j, w2.cell? ⟨w.heap.size + 1, j, none⟩ = (#[.int .i64 k', .int .i64 i', .string t', .slice D jts.length e, .slice D' ls.length e'] : Array Value)[j]?) := Lib.hid (fun j => by
    rw [hw2, World.cell?_alloc_at _ _ _ _ (by simp)])
  have H1 := Lib.hid (HX.out w2 B2.out)
  have HW := Lib.hid hw2
  clear hv hu hL hM hS hT hw2
  generalize (VT.mk k i t its ks).wf = p at *
  generalize (VT.mk k' i' t' jts ls).wf = q at *
  generalize (VT.mk k i t its ks).cmp (.mk k' i' t' jts ls) = z at *
  have O1 : Hid (p = false → o = 0) := Lib.hid (fun h => by rw [ho, h]; rfl)
  have O2 : Hid (q = false → o = 0) := Lib.hid (fun h => by rw [ho, h, Bool.and_false]; rfl)
  have O3 : Hid (p = true → q = true → o = z) := Lib.hid (fun h h' => by rw [ho, h, h']; rfl)
  clear ho
  unfold vag at *
  go_enter Try.func37, Try.ntmps37
  go_wp2_with fail
  rw [← HW.out]
  refine (H1.out).mono ?_
  rintro z' w3 ⟨rfl, hb⟩
  have HB3 := Lib.hid (below_next B2.out hb)
  have a0 := (hb.cell (p := ⟨w.heap.size, 0, none⟩) (by have := S2.out; show w.heap.size < _; omega)).trans (X1.out 0)
  have a1 := (hb.cell (p := ⟨w.heap.size, 1, none⟩) (by have := S2.out; show w.heap.size < _; omega)).trans (X1.out 1)
  have a2 := (hb.cell (p := ⟨w.heap.size, 2, none⟩) (by have := S2.out; show w.heap.size < _; omega)).trans (X1.out 2)
  have a3 := (hb.cell (p := ⟨w.heap.size, 3, none⟩) (by have := S2.out; show w.heap.size < _; omega)).trans (X1.out 3)
  have a4 := (hb.cell (p := ⟨w.heap.size, 4, none⟩) (by have := S2.out; show w.heap.size < _; omega)).trans (X1.out 4)
  have b0 := (hb.cell (p := ⟨w.heap.size + 1, 0, none⟩) S2.out).trans (X2.out 0)
  have b1 := (hb.cell (p := ⟨w.heap.size + 1, 1, none⟩) S2.out).trans (X2.out 1)
  have b2 := (hb.cell (p := ⟨w.heap.size + 1, 2, none⟩) S2.out).trans (X2.out 2)
  have b3 := (hb.cell (p := ⟨w.heap.size + 1, 3, none⟩) S2.out).trans (X2.out 3)
  have b4 := (hb.cell (p := ⟨w.heap.size + 1, 4, none⟩) S2.out).trans (X2.out 4)
  have S3 : Hid (w.heap.size + 1 < w3.heap.size) := Lib.hid (by have := S2.out; have := hb.size; omega)
  clear hb
  cases p with
  | false =>
    have O := Lib.hid (O1.out rfl)
    clear O1 O2 O3
    go_wp2
    go_ret
    exact ⟨by rw [O.out]; rfl, HB3.out⟩
  | true =>
    have H2 := Lib.hid (HY.out w3 HB3.out)
    have O4 := Lib.hid (O3.out rfl)
    have HC2 := Lib.hid (fun w' hb h2 => HC.out w' hb rfl h2)
    clear O1 O3 HC
    go_wp2_with fail
    refine (H2.out).mono ?_
    rintro z' w4 ⟨rfl, hb⟩
    have HB4 := Lib.hid (below_next HB3.out hb)
    have cc := fun j => hb.cell (p := ⟨w.heap.size, j, none⟩) (by have := S3.out; show w.heap.size < _; omega)
    have cd := fun j => hb.cell (p := ⟨w.heap.size + 1, j, none⟩) S3.out
    rw [← cc] at a0 a1 a2 a3 a4
    rw [← cd] at b0 b1 b2 b3 b4
    clear hb cc cd
    cases q with
    | false =>
      have O := Lib.hid (O2.out rfl)
      clear O2 O4
      go_wp2
      go_ret
      exact ⟨by rw [O.out]; rfl, HB4.out⟩
    | true =>
      have H3 := Lib.hid (HC2.out w4 HB4.out rfl)
      have O := Lib.hid (O4.out rfl)
      clear O2 O4
      go_wp2_with fail
      refine (H3.out).mono ?_
      rintro z' w5 ⟨rfl, hb⟩
      have HB5 := Lib.hid (below_next HB4.out hb)
      clear hb
      go_wp2
      go_ret
      exact ⟨by rw [O.out]; rfl, HB5.out⟩
end Go.Proofs.Ytjbjoalinfhahaa
