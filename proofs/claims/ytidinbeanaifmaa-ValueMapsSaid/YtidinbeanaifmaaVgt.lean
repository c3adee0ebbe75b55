/-
  isMap, Get and List of the code.
-/
import Derived.Test.YtidinbeanaifmaaVbs
import Derived.Test.YtidinbeanaifmaaVnl
namespace Go.Proofs.Ytidinbeanaifmaa
open Go.RowKit

def isMapT (x : VT) : Bool := decide (x.k = 5) && x.wf

set_option maxHeartbeats 1000000 in
theorem isMap_any {x : VT} {v : Value} {w : World} (h : Lies w (Lo w) x v) : Calls Try.prog 77 #[v] w (Gives (.bool (isMapT x)) w) := by
  have hc := wf_any (h.below (below_one w (.cells v.cells 26)))
  obtain ⟨k, i, t, its, ks⟩ := x
  obtain ⟨A, c, A', c', rfl, _, _, _, _, _, _, _, _, _⟩ := h.open
  by_cases hk : k = 5
  · subst hk
    have e : isMapT (.mk 5 i t its ks) = (VT.mk 5 i t its ks).wf := by unfold isMapT VT.k; simp
    rw [e]
    generalize (VT.mk 5 i t its ks).wf = b at *
    unfold vag Value.cells at hc
    unfold vag
    have HC := Lib.hid hc
    clear hc h e
    go_enter Try.func77, Try.ntmps77
    go_wp2_with fail
    refine (HC.out).mono ?_
    rintro e w' ⟨rfl, hb⟩
    have HB := Lib.hid (below_via (Below.refl _ _) hb)
    clear hb
    go_wp2
    go_ret
    exact ⟨rfl, HB.out⟩
  · have e : isMapT (.mk k i t its ks) = false := by unfold isMapT VT.k; rw [decide_eq_false hk]; rfl
    rw [e]
    have f1 : (k == 5) = false := by rw [beq_eq_false_iff_ne]; exact hk
    clear hc h e hk
    unfold vag
    go_enter Try.func77, Try.ntmps77
    go_wp2
    go_ret
    exact ⟨rfl, below_one _ _⟩

def GetSpec (x : VT) (key : ByteArray) (y : VT) (b : Bool) : Prop :=
  (isMapT x = false ∧ y = nullT ∧ b = false) ∨ (isMapT x = true ∧ ∃ p, Pos x.ks key p ∧ b = isAt x.ks key p ∧ (b = true → x.its[p]? = some y) ∧ (b = false → y = nullT))
/-- a value of the call's own and a bool -/
def MakesB (x : VT) (r : Bool) (w : World) (e : Ending) (w' : World) : Prop := ∃ v, e = .returned (.tuple #[v, .bool r]) ∧ Ownd w' w.heap.size x v ∧ Below w.heap.size w w'
theorem map_wf {i : Int} {t : ByteArray} {its : List VT} {ks : List ByteArray} (h : (VT.mk 5 i t its ks).wf = true) : ks.length = its.length ∧ rising ks = true ∧ alls okF its = true := by
  unfold VT.wf at h
  rw [VT.all_mk, okF_5, Bool.and_eq_true, Bool.and_eq_true, Bool.and_eq_true, Bool.and_eq_true, decide_eq_true_eq, decide_eq_true_eq, decide_eq_true_eq] at h
  exact ⟨h.1.2.2.1, h.1.2.2.2, h.2⟩

set_option maxRecDepth 100000 in
set_option maxHeartbeats 4000000 in
theorem Get_any {x : VT} {v : Value} {w : World} (key : ByteArray) (h : Lies w (Lo w) x v) (hr : x.all reachF = true) :
    Calls Try.prog 40 #[v, .string key] w fun e w' => ∃ y b, GetSpec x key y b ∧ MakesB y b w e w' := by
  have HT := Lib.hid (fun (w' : World) (hb : Below w.heap.size w w') => isMap_any (h.below hb))
  obtain ⟨k, i, t, its, ks⟩ := x
  obtain ⟨A, c, A', c', rfl, _, _, _, hlc, hcm, hL, hkc, hcm', hS⟩ := h.open
  obtain ⟨r1, r2, r3⟩ := reach_mk hr
  have HL := Lib.hid hL
  have HS := Lib.hid hS
  have HRE := Lib.hid (And.intro r1 (And.intro r2 r3))
  obtain ⟨w2, hw2⟩ : ∃ w2, w2 = (w.alloc (.cells #[.int .i64 k, .int .i64 i, .string t, .slice A its.length c, .slice A' ks.length c'] 26)).alloc (.cells #[.int .i64 0, .int .i64 0, .string ⟨#[]⟩, .slice none 0 0, .slice none 0 0] 26) := ⟨_, rfl⟩
  have B2 : Hid (Below w.heap.size w w2) := Lib.hid (by rw [hw2]; exact (below_one _ _).trans (Below.alloc (Below.refl _ _) (by simp) _))
  have P2 : Hid (Bk w2 w.heap.size 26 #[.int .i64 k, .int .i64 i, .string t, .slice A its.length c, .slice A' ks.length c']) := Lib.hid (by rw [hw2]; exact (Bk.new _ _ _).alloc _)
  have Q2 : Hid (Bk w2 (w.heap.size + 1) 26 #[.int .i64 0, .int .i64 0, .string ⟨#[]⟩, .slice none 0 0, .slice none 0 0]) := Lib.hid (by rw [hw2]; have := Bk.new (w.alloc (.cells #[.int .i64 k, .int .i64 i, .string t, .slice A its.length c, .slice A' ks.length c'] 26)) 26 #[.int .i64 0, .int .i64 0, .string ⟨#[]⟩, .slice none 0 0, .slice none 0 0]; simpa using this)
  have HW := Lib.hid hw2
  have H1 := Lib.hid (HT.out w2 B2.out)
  have SN : Hid (isMapT (.mk k i t its ks) = false → GetSpec (.mk k i t its ks) key nullT false) := Lib.hid (fun h => Or.inl ⟨h, rfl, rfl⟩)
  have SY : Hid (isMapT (.mk k i t its ks) = true → k = 5 ∧ ks.length = its.length ∧ rising ks = true) := Lib.hid (fun h => by
    unfold isMapT VT.k at h
    rw [Bool.and_eq_true, decide_eq_true_eq] at h
    obtain ⟨rfl, h⟩ := h
    exact ⟨rfl, (map_wf h).1, (map_wf h).2.1⟩)
  have SG : Hid (isMapT (.mk k i t its ks) = true → ∀ p y, Pos ks key p → (isAt ks key p = true → its[p]? = some y) → (isAt ks key p = false → y = nullT) → GetSpec (.mk k i t its ks) key y (isAt ks key p)) :=
    Lib.hid (fun h p y h1 h2 h3 => Or.inr ⟨h, p, h1, rfl, h2, h3⟩)
  clear h hw2 hr hL hS r1 r2 r3
  generalize isMapT (.mk k i t its ks) = b at *
  generalize VT.mk k i t its ks = x at *
  have e0 := P2.out.cell 0
  unfold vag at *
  go_enter Try.func40, Try.ntmps40
  go_wp2_with fail
  rw [← HW.out]
  refine (H1.out).mono ?_
  rintro e w3 ⟨rfl, hb⟩
  have P3 := Lib.hid (P2.out.below hb P2.out.lt)
  have Q3 := Lib.hid (Q2.out.below hb Q2.out.lt)
  have B3 := Lib.hid (below_next B2.out hb)
  clear hb e0
  cases b with
  | false =>
    have G := Lib.hid (SN.out rfl)
    clear SN SY SG
    go_wp2_with fail
    refine (Null_any w3).mono ?_
    unfold zeroV
    rintro e w4 ⟨rfl, hb⟩
    have Q4 := Lib.hid (Q3.out.below hb Q3.out.lt)
    have B4 := Lib.hid (below_next B3.out hb)
    clear hb
    have q0 := Q4.out.cell 0
    have q1 := Q4.out.cell 1
    have q2 := Q4.out.cell 2
    have q3 := Q4.out.cell 3
    have q4 := Q4.out.cell 4
    have f0 := Q4.out.frozen 0
    have f1 := Q4.out.frozen 1
    have f2 := Q4.out.frozen 2
    have f3 := Q4.out.frozen 3
    have f4 := Q4.out.frozen 4
    go_wp2
    obtain ⟨wf, hwf⟩ : ∃ wf, wf = ((((w4.setCell ⟨w.heap.size + 1, 0, none⟩ (.int .i64 0)).setCell ⟨w.heap.size + 1, 1, none⟩ (.int .i64 0)).setCell ⟨w.heap.size + 1, 2, none⟩ (.string ⟨#[]⟩)).setCell ⟨w.heap.size + 1, 3, none⟩ (.slice none 0 0)).setCell ⟨w.heap.size + 1, 4, none⟩ (.slice none 0 0) := ⟨_, rfl⟩
    have QF : Hid (Bk wf (w.heap.size + 1) 26 #[.int .i64 0, .int .i64 0, .string ⟨#[]⟩, .slice none 0 0, .slice none 0 0]) := Lib.hid (by rw [hwf]; exact ((((Q4.out.put 0 _).put 1 _).put 2 _).put 3 _).put 4 _)
    have BF : Hid (Below w.heap.size w wf) := Lib.hid (by
      rw [hwf]
      exact ((((B4.out.setCell (p := ⟨w.heap.size + 1, 0, none⟩) (by show w.heap.size ≤ w.heap.size + 1; omega) _).setCell (p := ⟨w.heap.size + 1, 1, none⟩) (by show w.heap.size ≤ w.heap.size + 1; omega) _).setCell (p := ⟨w.heap.size + 1, 2, none⟩) (by show w.heap.size ≤ w.heap.size + 1; omega) _).setCell (p := ⟨w.heap.size + 1, 3, none⟩) (by show w.heap.size ≤ w.heap.size + 1; omega) _).setCell (p := ⟨w.heap.size + 1, 4, none⟩) (by show w.heap.size ≤ w.heap.size + 1; omega) _)
    rw [← hwf]
    refine bodyPost_ret (results_row2 rfl _ _ (w.heap.size + 1) 26 _ (0, 0) _ rfl QF.out Try.underlying26 rfl (by kernel_rfl)) rfl ?_
    exact ⟨nullT, false, G.out, _, rfl, zero_ownd _ _, BF.out⟩
  | true =>
    obtain ⟨hk5, hkl, hri⟩ := SY.out rfl
    have G := Lib.hid (SG.out rfl)
    have HSR := Lib.hid (search_any A' c' ks key w3 (HS.out.below B3.out) (by have := HRE.out.2.1; omega) hri)
    have HKL := Lib.hid hkl
    have p4 := P3.out.cell 4
    change _ = some (Value.slice A' ks.length c') at p4
    clear SN SY SG hk5 hkl hri
    go_wp2_with fail
    refine (HSR.out).mono ?_
    rintro e w' ⟨p, hpos, rfl, rfl⟩
    have HPS := Lib.hid hpos
    clear hpos p4
    cases ha : isAt ks key p with
    | false =>
      have G2 := Lib.hid (G.out p nullT HPS.out (fun h => by rw [ha] at h; cases h) (fun _ => rfl))
      rw [ha] at G2
      clear ha G
      have G := G2
      go_wp2_with fail
      refine (Null_any w3).mono ?_
      unfold zeroV
      rintro e w4 ⟨rfl, hb⟩
      have Q4 := Lib.hid (Q3.out.below hb Q3.out.lt)
      have B4 := Lib.hid (below_next B3.out hb)
      clear hb
      have q0 := Q4.out.cell 0
      have q1 := Q4.out.cell 1
      have q2 := Q4.out.cell 2
      have q3 := Q4.out.cell 3
      have q4 := Q4.out.cell 4
      have f0 := Q4.out.frozen 0
      have f1 := Q4.out.frozen 1
      have f2 := Q4.out.frozen 2
      have f3 := Q4.out.frozen 3
      have f4 := Q4.out.frozen 4
      go_wp2
      obtain ⟨wf, hwf⟩ : ∃ wf, wf = ((((w4.setCell ⟨w.heap.size + 1, 0, none⟩ (.int .i64 0)).setCell ⟨w.heap.size + 1, 1, none⟩ (.int .i64 0)).setCell ⟨w.heap.size + 1, 2, none⟩ (.string ⟨#[]⟩)).setCell ⟨w.heap.size + 1, 3, none⟩ (.slice none 0 0)).setCell ⟨w.heap.size + 1, 4, none⟩ (.slice none 0 0) := ⟨_, rfl⟩
      have QF : Hid (Bk wf (w.heap.size + 1) 26 #[.int .i64 0, .int .i64 0, .string ⟨#[]⟩, .slice none 0 0, .slice none 0 0]) := Lib.hid (by rw [hwf]; exact ((((Q4.out.put 0 _).put 1 _).put 2 _).put 3 _).put 4 _)
      have BF : Hid (Below w.heap.size w wf) := Lib.hid (by
        rw [hwf]
        exact ((((B4.out.setCell (p := ⟨w.heap.size + 1, 0, none⟩) (by show w.heap.size ≤ w.heap.size + 1; omega) _).setCell (p := ⟨w.heap.size + 1, 1, none⟩) (by show w.heap.size ≤ w.heap.size + 1; omega) _).setCell (p := ⟨w.heap.size + 1, 2, none⟩) (by show w.heap.size ≤ w.heap.size + 1; omega) _).setCell (p := ⟨w.heap.size + 1, 3, none⟩) (by show w.heap.size ≤ w.heap.size + 1; omega) _).setCell (p := ⟨w.heap.size + 1, 4, none⟩) (by show w.heap.size ≤ w.heap.size + 1; omega) _)
      rw [← hwf]
      refine bodyPost_ret (results_row2 rfl _ _ (w.heap.size + 1) 26 _ (0, 0) _ rfl QF.out Try.underlying26 rfl (by kernel_rfl)) rfl ?_
      exact ⟨nullT, false, G.out, _, rfl, zero_ownd _ _, BF.out⟩
    | true =>
      have hpn : p < ks.length := by
        unfold isAt at ha
        rw [Bool.and_eq_true, decide_eq_true_eq] at ha
        exact ha.1
      have hpi : p < its.length := by have := HKL.out; omega
      have h1 := List.getElem?_eq_getElem (l := its) (i := p) hpi
      obtain ⟨g, o, k', i', t', B, n', c1, B', n1, c2, rfl, hg, e0, e1, e2, e3, e4, hx⟩ := (HL.out).at_ h1
      have hrx := all_at HRE.out.2.2 h1
      have G2 := Lib.hid (G.out p (its[p]'hpi) HPS.out (fun _ => h1) (fun h => by rw [ha] at h; cases h))
      rw [ha] at G2
      generalize its[p]'hpi = y at *
      rw [Nat.zero_add] at e0 e1 e2 e3 e4
      have cc := fun (q : Nat) => B3.out.cell (p := ⟨g, q, none⟩) hg
      rw [← cc] at e0 e1 e2 e3 e4
      have HCP := Lib.hid (Copy_any (hx.below B3.out) hrx)
      unfold vag at HCP
      have p3 := P3.out.cell 3
      change _ = some (Value.slice (some ⟨g, o, none⟩) its.length c) at p3
      clear ha G cc hx hrx h1
      go_wp2_with fail
      refine (HCP.out).mono ?_
      rintro e w4 ⟨v, rfl, hov, hb⟩
      have Q4 := Lib.hid (Q3.out.below hb Q3.out.lt)
      have B4 := Lib.hid (below_next B3.out hb)
      obtain ⟨k2, i2, t2, D, n3, c3, D', n4, c4, rfl⟩ := hov.form
      have OV := Lib.hid hov
      have LT3 := Lib.hid Q3.out.lt
      have q0 := Q4.out.cell 0
      have q1 := Q4.out.cell 1
      have q2 := Q4.out.cell 2
      have q3 := Q4.out.cell 3
      have q4 := Q4.out.cell 4
      have f0 := Q4.out.frozen 0
      have f1 := Q4.out.frozen 1
      have f2 := Q4.out.frozen 2
      have f3 := Q4.out.frozen 3
      have f4 := Q4.out.frozen 4
      clear hb hov e0 e1 e2 e3 e4 p3
      go_wp2
      obtain ⟨wf, hwf⟩ : ∃ wf, wf = ((((w4.setCell ⟨w.heap.size + 1, 0, none⟩ (.int .i64 k2)).setCell ⟨w.heap.size + 1, 1, none⟩ (.int .i64 i2)).setCell ⟨w.heap.size + 1, 2, none⟩ (.string t2)).setCell ⟨w.heap.size + 1, 3, none⟩ (.slice D n3 c3)).setCell ⟨w.heap.size + 1, 4, none⟩ (.slice D' n4 c4) := ⟨_, rfl⟩
      have QF : Hid (Bk wf (w.heap.size + 1) 26 #[.int .i64 k2, .int .i64 i2, .string t2, .slice D n3 c3, .slice D' n4 c4]) := Lib.hid (by rw [hwf]; exact ((((Q4.out.put 0 _).put 1 _).put 2 _).put 3 _).put 4 _)
      have SF : Hid (∀ b, b ≠ w.heap.size + 1 → wf.heap[b]? = w4.heap[b]?) := Lib.hid (fun b hb => by
        rw [hwf]; exact ((((Below.heap_setCell _ _ _ _ hb).trans (Below.heap_setCell _ _ _ _ hb)).trans (Below.heap_setCell _ _ _ _ hb)).trans (Below.heap_setCell _ _ _ _ hb)).trans (Below.heap_setCell _ _ _ _ hb))
      have BF : Hid (Below w.heap.size w wf) := Lib.hid (by
        rw [hwf]
        exact ((((B4.out.setCell (p := ⟨w.heap.size + 1, 0, none⟩) (by show w.heap.size ≤ w.heap.size + 1; omega) _).setCell (p := ⟨w.heap.size + 1, 1, none⟩) (by show w.heap.size ≤ w.heap.size + 1; omega) _).setCell (p := ⟨w.heap.size + 1, 2, none⟩) (by show w.heap.size ≤ w.heap.size + 1; omega) _).setCell (p := ⟨w.heap.size + 1, 3, none⟩) (by show w.heap.size ≤ w.heap.size + 1; omega) _).setCell (p := ⟨w.heap.size + 1, 4, none⟩) (by show w.heap.size ≤ w.heap.size + 1; omega) _)
      rw [← hwf]
      refine bodyPost_ret (results_row2 rfl _ _ (w.heap.size + 1) 26 _ (0, 0) _ rfl QF.out Try.underlying26 rfl (by kernel_rfl)) rfl ?_
      exact ⟨_, _, G2.out, _, rfl, (OV.out.keep (fun b h1 _ => SF.out b (by have := LT3.out; omega))).mono (by have := LT3.out; omega), BF.out⟩

set_option maxRecDepth 100000 in
set_option maxHeartbeats 1000000 in
theorem List_any {A : Option Addr} {c : Nat} {its : List VT} {w : World} (hL : LiesL w (Lo w) A 0 its) (hc : its.length ≤ c) (hm : c ≤ 9223372036854775807) (hr : its.length * 80 ≤ 140737488355328) (hr2 : alls reachF its = true) :
    Calls Try.prog 16 #[.slice A its.length c] w (Copies (.mk 4 0 ⟨#[]⟩ its []) w) := by
  have hl : Lies w (Lo w) (.mk 4 0 ⟨#[]⟩ its []) (.agg #[.int .i64 4, .int .i64 0, .string ⟨#[]⟩, .slice A its.length c, .slice none 0 0]) := by
    rw [Lies]
    exact ⟨A, c, none, 0, rfl, by omega, by omega, by decide, hc, hm, hL, Nat.le_refl _, by omega, LiesS.none_⟩
  have hrr : (VT.mk 4 0 ⟨#[]⟩ its []).all reachF = true := by
    rw [VT.all_mk, hr2, Bool.and_true]
    unfold reachF VT.its VT.ks
    rw [Bool.and_eq_true, decide_eq_true_eq, decide_eq_true_eq]
    exact ⟨hr, by simp⟩
  obtain ⟨w1, hw1⟩ : ∃ w1, w1 = w.alloc (.cells #[.int .i64 0, .int .i64 0, .string ⟨#[]⟩, .slice none 0 0, .slice none 0 0] 26) := ⟨_, rfl⟩
  have B1 : Hid (Below w.heap.size w w1) := Lib.hid (by rw [hw1]; exact below_one _ _)
  have Q1 : Hid (Bk w1 w.heap.size 26 #[.int .i64 0, .int .i64 0, .string ⟨#[]⟩, .slice none 0 0, .slice none 0 0]) := Lib.hid (by rw [hw1]; exact Bk.new _ _ _)
  have HC := Lib.hid (Copy_any (hl.below B1.out) hrr)
  have HW1 := Lib.hid hw1
  clear hw1 hl hrr hL hr hr2
  go_enter Try.func16, Try.ntmps16
  go_wp2_with fail
  rw [← HW1.out]
  refine (HC.out).mono ?_
  rintro e w4 ⟨v, rfl, hov, hb⟩
  have Q4 := Lib.hid (Q1.out.below hb Q1.out.lt)
  have B4 := Lib.hid (below_next B1.out hb)
  obtain ⟨k2, i2, t2, D, n3, c3, D', n4, c4, rfl⟩ := hov.form
  have OV := Lib.hid hov
  have LT3 := Lib.hid Q1.out.lt
  have q0 := Q4.out.cell 0
  have q1 := Q4.out.cell 1
  have q2 := Q4.out.cell 2
  have q3 := Q4.out.cell 3
  have q4 := Q4.out.cell 4
  have f0 := Q4.out.frozen 0
  have f1 := Q4.out.frozen 1
  have f2 := Q4.out.frozen 2
  have f3 := Q4.out.frozen 3
  have f4 := Q4.out.frozen 4
  clear hb hov
  go_wp2
  obtain ⟨wf, hwf⟩ : ∃ wf, wf = ((((w4.setCell ⟨w.heap.size, 0, none⟩ (.int .i64 k2)).setCell ⟨w.heap.size, 1, none⟩ (.int .i64 i2)).setCell ⟨w.heap.size, 2, none⟩ (.string t2)).setCell ⟨w.heap.size, 3, none⟩ (.slice D n3 c3)).setCell ⟨w.heap.size, 4, none⟩ (.slice D' n4 c4) := ⟨_, rfl⟩
  have QF : Hid (Bk wf w.heap.size 26 #[.int .i64 k2, .int .i64 i2, .string t2, .slice D n3 c3, .slice D' n4 c4]) := Lib.hid (by rw [hwf]; exact ((((Q4.out.put 0 _).put 1 _).put 2 _).put 3 _).put 4 _)
  have SF : Hid (∀ b, b ≠ w.heap.size → wf.heap[b]? = w4.heap[b]?) := Lib.hid (fun b hb => by
    rw [hwf]; exact ((((Below.heap_setCell _ _ _ _ hb).trans (Below.heap_setCell _ _ _ _ hb)).trans (Below.heap_setCell _ _ _ _ hb)).trans (Below.heap_setCell _ _ _ _ hb)).trans (Below.heap_setCell _ _ _ _ hb))
  have BF : Hid (Below w.heap.size w wf) := Lib.hid (by
    rw [hwf]
    exact ((((B4.out.setCell (p := ⟨w.heap.size, 0, none⟩) (Nat.le_refl _) _).setCell (p := ⟨w.heap.size, 1, none⟩) (Nat.le_refl _) _).setCell (p := ⟨w.heap.size, 2, none⟩) (Nat.le_refl _) _).setCell (p := ⟨w.heap.size, 3, none⟩) (Nat.le_refl _) _).setCell (p := ⟨w.heap.size, 4, none⟩) (Nat.le_refl _) _)
  rw [← hwf]
  refine bodyPost_ret (results_cell_row rfl _ _ w.heap.size 26 _ (0, 0) _ rfl QF.out Try.underlying26 rfl (by kernel_rfl)) rfl ?_
  exact ⟨_, rfl, (OV.out.keep (fun b h1 _ => SF.out b (by have := LT3.out; omega))).mono (by have := LT3.out; omega), BF.out⟩
end Go.Proofs.Ytidinbeanaifmaa
