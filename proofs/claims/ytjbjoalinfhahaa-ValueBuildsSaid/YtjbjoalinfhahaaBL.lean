/-
  Texts of layers 1 and 2, part L: contracts of the code's functions and what they lean on.
-/
import Derived.Test.YtjbjoalinfhahaaBG
import Derived.Test.YtjbjoalinfhahaaBI
import Derived.Test.YtjbjoalinfhahaaBA
import Derived.Test.YtjbjoalinfhahaaChecked
import Derived.Laws.IdiomStrings
import Derived.Test.YtjbjoalinfhahaaBJ
import Derived.Test.YtjbjoalinfhahaaBK
namespace Go.Proofs.Ytjbjoalinfhahaa
open Go.RowKit

theorem rising_lt {ks : List ByteArray} (h : rising ks = true) : ∀ {j i : Nat}, i < j → j < ks.length → less (ks.getD i ByteArray.empty) (ks.getD j ByteArray.empty) = true := by
  have step : ∀ i, i + 1 < ks.length → less (ks.getD i ByteArray.empty) (ks.getD (i + 1) ByteArray.empty) = true := fun i hi => by
    unfold rising risingTo at h
    rw [List.all_eq_true] at h
    exact h i (List.mem_range.2 (by omega))
  intro j
  induction j with
  | zero => intro i h; omega
  | succ j ih =>
    intro i hij hj
    by_cases h1 : i = j
    · subst h1; exact step i hj
    · exact bl_trans _ _ _ (ih (by omega) (by omega)) (step j hj)
/-- where a key stands, or would stand -/
def Pos (ks : List ByteArray) (t : ByteArray) (p : Nat) : Prop := p ≤ ks.length ∧ (∀ q, q < p → less (ks.getD q ByteArray.empty) t = true) ∧ (∀ q, p ≤ q → q < ks.length → less (ks.getD q ByteArray.empty) t = false)
/-- is it there -/
def isAt (ks : List ByteArray) (t : ByteArray) (p : Nat) : Bool := decide (p < ks.length) && decide (ks.getD p ByteArray.empty = t)

set_option maxHeartbeats 400000 in
theorem lessStr_any (a b : ByteArray) (w : World) : Calls Try.prog 99 #[.string a, .string b] w (Says (.bool (less a b)) w) := by
  unfold less
  generalize hl : Op.bytesLess a.toList b.toList = r
  go_enter Try.func99, Try.ntmps99
  go_wp2
  go_ret
  exact ⟨rfl, rfl⟩
theorem isNaN_any (a : ByteArray) (w : World) : Calls Try.prog 100 #[.string a] w (Says (.bool false) w) := by
  go_enter Try.func100, Try.ntmps100
  go_wp2
  go_ret
  exact ⟨rfl, rfl⟩

set_option maxRecDepth 100000 in
set_option maxHeartbeats 2000000 in
theorem search_any (A : Option Addr) (c : Nat) (ks : List ByteArray) (t : ByteArray) (w : World) (hS : LiesS w (Lo w) A ks) (hn2 : ks.length ≤ 4611686018427387904) (hr : rising ks = true) :
    Calls Try.prog 78 #[.slice A ks.length c, .string t] w fun e w' => ∃ p, Pos ks t p ∧ e = .returned (.tuple #[.int .i64 (p : Nat), .bool (isAt ks t p)]) ∧ w = w' := by
  have HS := Lib.hid hS
  have HR := Lib.hid (fun (j i : Nat) (h : i < j) (h' : j < ks.length) => rising_lt hr h h')
  clear hS hr
  obtain ⟨n, hn⟩ : ∃ n, n = ks.length := ⟨_, rfl⟩
  rw [← hn] at hn2 ⊢
  have HN := Lib.hid hn
  clear hn
  go_enter Try.func78, Try.ntmps78
  go_wp2
  go_loopw [7, 8, 9] (fun x y _ wr => w = wr ∧ ∃ i j : Nat, x = .int .i64 i ∧ y = .int .i64 j ∧ i ≤ j ∧ j ≤ n ∧ Hid (∀ q, q < i → less (ks.getD q ByteArray.empty) t = true) ∧ Hid (∀ q, j ≤ q → q < n → less (ks.getD q ByteArray.empty) t = false)) (fun x y _ _ => (intOf y).toNat - (intOf x).toNat)
  case atStart => exact ⟨rfl, 0, n, rfl, rfl, by omega, by omega, Lib.hid (fun q h => by omega), Lib.hid (fun q h h' => by omega)⟩
  case round =>
    obtain ⟨rfl, i, j, rfl, rfl, hij, hjn, HL, HG⟩ := hrel
    by_cases hlt : i < j
    · have hh : (i + j) / 2 < n := by omega
      have hi2 : i ≤ (i + j) / 2 := by omega
      have hj2 : (i + j) / 2 < j := by omega
      obtain ⟨hks, g, o, rfl, hg, k0⟩ := HS.out.at_ (j := (i + j) / 2) (by rw [← HN.out]; exact hh)
      have HLT := Lib.hid (fun (h : less (ks.getD ((i + j) / 2) ByteArray.empty) t = true) (q : Nat) (hq : q < (i + j) / 2 + 1) => (by
        by_cases h1 : q = (i + j) / 2
        · subst h1; exact h
        · exact bl_trans _ _ _ (HR.out ((i + j) / 2) q (by omega) (by rw [← HN.out]; exact hh)) h : less (ks.getD q ByteArray.empty) t = true))
      have HGT := Lib.hid (fun (h : less (ks.getD ((i + j) / 2) ByteArray.empty) t = false) (q : Nat) (h1 : (i + j) / 2 ≤ q) (h2 : q < n) => (by
        by_cases h3 : q = (i + j) / 2
        · subst h3; exact h
        · cases h4 : less (ks.getD q ByteArray.empty) t with
          | false => rfl
          | true => rw [← h]; exact (bl_trans _ _ _ (HR.out q ((i + j) / 2) (by omega) (by rw [← HN.out]; exact h2)) h4).symm : less (ks.getD q ByteArray.empty) t = false))
      generalize ks.getD ((i + j) / 2) ByteArray.empty = s at *
      have HC := Lib.hid (lessStr_any s t w)
      cases hl : less s t with
      | true =>
        have HQ := Lib.hid (HLT.out hl)
        have HLL := Lib.hid hl
        clear hl
        go_wp2_with fail
        refine (HC.out).mono ?_
        rw [HLL.out]
        rintro e w' ⟨rfl, rfl⟩
        go_wp2
        go_roundw
        case rel => exact ⟨trivial, (i + j) / 2 + 1, j, by go_num, rfl, by omega, by omega, HQ, HG⟩
        case measure => simp [intOf]; omega
      | false =>
        have HQ := Lib.hid (HGT.out hl)
        have HLL := Lib.hid hl
        clear hl
        go_wp2_with fail
        refine (HC.out).mono ?_
        rw [HLL.out]
        rintro e w' ⟨rfl, rfl⟩
        go_wp2
        go_roundw
        case rel => exact ⟨trivial, i, (i + j) / 2, rfl, by go_num, by omega, by omega, HL, HQ⟩
        case measure => simp [intOf]; omega
    · obtain rfl : i = j := by omega
      have HP : Hid (Pos ks t i) := Lib.hid ⟨by rw [← HN.out]; exact hjn, HL.out, fun q h1 h2 => HG.out q h1 (by rw [HN.out]; exact h2)⟩
      by_cases hin : i < n
      · obtain ⟨hks, g, o, rfl, hg, k0⟩ := HS.out.at_ (j := i) (by rw [← HN.out]; exact hin)
        have t1 : decide ((i : Int) < (n : Int)) = true := decide_eq_true (by omega)
        have HY := Lib.hid (fun (h : ks.getD i ByteArray.empty = t) => (by unfold isAt; rw [decide_eq_true (by rw [← HN.out]; exact hin), decide_eq_true h]; rfl : isAt ks t i = true))
        have HX := Lib.hid (fun (h : ks.getD i ByteArray.empty ≠ t) => (by unfold isAt; rw [decide_eq_false h, Bool.and_false] : isAt ks t i = false))
        generalize ks.getD i ByteArray.empty = s at *
        have HC := Lib.hid (isNaN_any s w)
        by_cases hst : s = t
        · have HE := Lib.hid (HY.out hst)
          subst hst
          go_wp2_with fail
          go_ret2
          exact ⟨i, HP.out, by rw [HE.out]; rfl, rfl⟩
        · have HE := Lib.hid (HX.out hst)
          have t2 : (s.toList == t.toList) = false := by rw [beq_eq_false_iff_ne]; exact fun e => hst (str_inj e)
          clear hst
          go_wp2_with fail
          refine (HC.out).mono ?_
          rintro e w' ⟨rfl, rfl⟩
          go_wp2
          go_ret2
          exact ⟨i, HP.out, by rw [HE.out]; rfl, rfl⟩
      · have t1 : decide ((i : Int) < (n : Int)) = false := decide_eq_false (by omega)
        have HE : Hid (isAt ks t i = false) := Lib.hid (by unfold isAt; rw [decide_eq_false (by rw [← HN.out]; exact hin)]; rfl)
        go_wp2
        go_ret2
        exact ⟨i, HP.out, by rw [HE.out]; rfl, rfl⟩
end Go.Proofs.Ytjbjoalinfhahaa
namespace Go.Proofs.Ytjbjoalinfhahaa
open Go.RowKit

def isMapT (x : VT) : Bool := decide (x.k = 5) && x.wf

set_option maxHeartbeats 1000000 in
theorem isMap_any {x : VT} {v : Value} {w : World} (h : Lies w (Lo w) x v) : Calls Try.prog 77 #[v] w (Gives (.bool (isMapT x)) w) := by
  have hc := wf_any (h.below (below_one w (.cells v.cells 26)))
  obtain ⟨k, i, t, its, ks⟩ := x
  obtain ⟨A, c, A', c', rfl, _, _, _, _, _, _, _, _, _⟩ := h.open
  by_cases hk : k = 5
  · subst hk
    have e : isMapT (.mk 5 i t its ks) = (VT.mk 5 i t its ks).wf := by unfold isMapT VT.k; simp
    rw [e]
    generalize (VT.mk 5 i t its ks).wf = b at *
    unfold vag Value.cells at hc
    unfold vag
    have HC := Lib.hid hc
    clear hc h e
    go_enter Try.func77, Try.ntmps77
    go_wp2_with fail
    refine (HC.out).mono ?_
    rintro e w' ⟨rfl, hb⟩
    have HB := Lib.hid (below_via (Below.refl _ _) hb)
    clear hb
    go_wp2
    go_ret
    exact ⟨rfl, HB.out⟩
  · have e : isMapT (.mk k i t its ks) = false := by unfold isMapT VT.k; rw [decide_eq_false hk]; rfl
    rw [e]
    have f1 : (k == 5) = false := by rw [beq_eq_false_iff_ne]; exact hk
    clear hc h e hk
    unfold vag
    go_enter Try.func77, Try.ntmps77
    go_wp2
    go_ret
    exact ⟨rfl, below_one _ _⟩

def GetSpec (x : VT) (key : ByteArray) (y : VT) (b : Bool) : Prop :=
  (isMapT x = false ∧ y = nullT ∧ b = false) ∨ (isMapT x = true ∧ ∃ p, Pos x.ks key p ∧ b = isAt x.ks key p ∧ (b = true → x.its[p]? = some y) ∧ (b = false → y = nullT))
/-- a value of the call's own and a bool -/
def MakesB (x : VT) (r : Bool) (w : World) (e : Ending) (w' : World) : Prop := ∃ v, e = .returned (.tuple #[v, .bool r]) ∧ Ownd w' w.heap.size x v ∧ Below w.heap.size w w'
theorem map_wf {i : Int} {t : ByteArray} {its : List VT} {ks : List ByteArray} (h : (VT.mk 5 i t its ks).wf = true) : ks.length = its.length ∧ rising ks = true ∧ alls okF its = true := by
  unfold VT.wf at h
  rw [VT.all_mk, okF_5, Bool.and_eq_true, Bool.and_eq_true, Bool.and_eq_true, Bool.and_eq_true, decide_eq_true_eq, decide_eq_true_eq, decide_eq_true_eq] at h
  exact ⟨h.1.2.2.1, h.1.2.2.2, h.2⟩

set_option maxRecDepth 100000 in
set_option maxHeartbeats 4000000 in
theorem Get_any {x : VT} {v : Value} {w : World} (key : ByteArray) (h : Lies w (Lo w) x v) (hr : x.all reachF = true) :
    Calls Try.prog 40 #[v, .string key] w fun e w' => ∃ y b, GetSpec x key y b ∧ MakesB y b w e w' := by
  have HT := Lib.hid (fun (w' : World) (hb : Below w.heap.size w w') => isMap_any (h.below hb))
  obtain ⟨k, i, t, its, ks⟩ := x
  obtain ⟨A, c, A', c', rfl, _, _, _, hlc, hcm, hL, hkc, hcm', hS⟩ := h.open
  obtain ⟨r1, r2, r3⟩ := reach_mk hr
  have HL := Lib.hid hL
  have HS := Lib.hid hS
  have HRE := Lib.hid (And.intro r1 (And.intro r2 r3))
  obtain ⟨w2, hw2⟩ : ∃ w2, w2 = (w.alloc (.cells #[.int .i64 k, .int .i64 i, .string t, .slice A its.length c, .slice A' ks.length c'] 26)).alloc (.cells #[.int .i64 0, .int .i64 0, .string ⟨#[]⟩, .slice none 0 0, .slice none 0 0] 26) := ⟨_, rfl⟩
  have B2 : Hid (Below w.heap.size w w2) := Lib.hid (by rw [hw2]; exact (below_one _ _).trans (Below.alloc (Below.refl _ _) (by simp) _))
  have P2 : Hid (Bk w2 w.heap.size 26 #[.int .i64 k, .int .i64 i, .string t, .slice A its.length c, .slice A' ks.length c']) := Lib.hid (by rw [hw2]; exact (Bk.new _ _ _).alloc _)
  have Q2 : Hid (Bk w2 (w.heap.size + 1) 26 #[.int .i64 0, .int .i64 0, .string ⟨#[]⟩, .slice none 0 0, .slice none 0 0]) := Lib.hid (by rw [hw2]; have := Bk.new (w.alloc (.cells #[.int .i64 k, .int .i64 i, .string t, .slice A its.length c, .slice A' ks.length c'] 26)) 26 #[.int .i64 0, .int .i64 0, .string ⟨#[]⟩, .slice none 0 0, .slice none 0 0]; simpa using this)
  have HW := Lib.hid hw2
  have H1 := Lib.hid (HT.out w2 B2.out)
  have SN : Hid (isMapT (.mk k i t its ks) = false → GetSpec (.mk k i t its ks) key nullT false) := Lib.hid (fun h => Or.inl ⟨h, rfl, rfl⟩)
  have SY : Hid (isMapT (.mk k i t its ks) = true → k = 5 ∧ ks.length = its.length ∧ rising ks = true) := Lib.hid (fun h => by
    unfold isMapT VT.k at h
    rw [Bool.and_eq_true, decide_eq_true_eq] at h
    obtain ⟨rfl, h⟩ := h
    exact ⟨rfl, (map_wf h).1, (map_wf h).2.1⟩)
  have SG : Hid (isMapT (.mk k i t its ks) = true → ∀ p y, Pos ks key p → (isAt ks key p = true → its[p]? = some y) → (isAt ks key p = false → y = nullT) → GetSpec (.mk k i t its ks) key y (isAt ks key p)) :=
    Lib.hid (fun h p y h1 h2 h3 => Or.inr ⟨h, p, h1, rfl, h2, h3⟩)
  clear h hw2 hr hL hS r1 r2 r3
  generalize isMapT (.mk k i t its ks) = b at *
  generalize VT.mk k i t its ks = x at *
  have e0 := P2.out.cell 0
  unfold vag at *
  go_enter Try.func40, Try.ntmps40
  go_wp2_with fail
  rw [← HW.out]
  refine (H1.out).mono ?_
  rintro e w3 ⟨rfl, hb⟩
  have P3 := Lib.hid (P2.out.below hb P2.out.lt)
  have Q3 := Lib.hid (Q2.out.below hb Q2.out.lt)
  have B3 := Lib.hid (below_next B2.out hb)
  clear hb e0
  cases b with
  | false =>
    have G := Lib.hid (SN.out rfl)
    clear SN SY SG
    go_wp2_with fail
    refine (Null_any w3).mono ?_
    unfold zeroV
    rintro e w4 ⟨rfl, hb⟩
    have Q4 := Lib.hid (Q3.out.below hb Q3.out.lt)
    have B4 := Lib.hid (below_next B3.out hb)
    clear hb
    have q0 := Q4.out.cell 0
    have q1 := Q4.out.cell 1
    have q2 := Q4.out.cell 2
    have q3 := Q4.out.cell 3
    have q4 := Q4.out.cell 4
    have f0 := Q4.out.frozen 0
    have f1 := Q4.out.frozen 1
    have f2 := Q4.out.frozen 2
    have f3 := Q4.out.frozen 3
    have f4 := Q4.out.frozen 4
    go_wp2
    obtain ⟨wf, hwf⟩ : ∃ wf, wf = ((((w4.setCell ⟨w.heap.size + 1, 0, none⟩ (.int .i64 0)).setCell ⟨w.heap.size + 1, 1, none⟩ (.int .i64 0)).setCell ⟨w.heap.size + 1, 2, none⟩ (.string ⟨#[]⟩)).setCell ⟨w.heap.size + 1, 3, none⟩ (.slice none 0 0)).setCell ⟨w.heap.size + 1, 4, none⟩ (.slice none 0 0) := ⟨_, rfl⟩
    have QF : Hid (Bk wf (w.heap.size + 1) 26 #[.int .i64 0, .int .i64 0, .string ⟨#[]⟩, .slice none 0 0, .slice none 0 0]) := Lib.hid (by rw [hwf]; exact ((((Q4.out.put 0 _).put 1 _).put 2 _).put 3 _).put 4 _)
    have BF : Hid (Below w.heap.size w wf) := Lib.hid (by
      rw [hwf]
      exact ((((B4.out.setCell (p := ⟨w.heap.size + 1, 0, none⟩) (by show w.heap.size ≤ w.heap.size + 1; omega) _).setCell (p := ⟨w.heap.size + 1, 1, none⟩) (by show w.heap.size ≤ w.heap.size + 1; omega) _).setCell (p := ⟨w.heap.size + 1, 2, none⟩) (by show w.heap.size ≤ w.heap.size + 1; omega) _).setCell (p := ⟨w.heap.size + 1, 3, none⟩) (by show w.heap.size ≤ w.heap.size + 1; omega) _).setCell (p := ⟨w.heap.size + 1, 4, none⟩) (by show w.heap.size ≤ w.heap.size + 1; omega) _)
    rw [← hwf]
    refine bodyPost_ret (results_row2 rfl _ _ (w.heap.size + 1) 26 _ (0, 0) _ rfl QF.out Try.underlying26 rfl (by kernel_rfl)) rfl ?_
    exact ⟨nullT, false, G.out, _, rfl, zero_ownd _ _, BF.out⟩
  | true =>
    obtain ⟨hk5, hkl, hri⟩ := SY.out rfl
    have G := Lib.hid (SG.out rfl)
    have HSR := Lib.hid (search_any A' c' ks key w3 (HS.out.below B3.out) (by have := HRE.out.2.1; omega) hri)
    have HKL := Lib.hid hkl
    have p4 := P3.out.cell 4
    change _ = some (Value.slice A' ks.length c') at p4
    clear SN SY SG hk5 hkl hri
    go_wp2_with fail
    refine (HSR.out).mono ?_
    rintro e w' ⟨p, hpos, rfl, rfl⟩
    have HPS := Lib.hid hpos
    clear hpos p4
    cases ha : isAt ks key p with
    | false =>
      have G2 := Lib.hid (G.out p nullT HPS.out (fun h => by rw [ha] at h; cases h) (fun _ => rfl))
      rw [ha] at G2
      clear ha G
      have G := G2
      go_wp2_with fail
      refine (Null_any w3).mono ?_
      unfold zeroV
      rintro e w4 ⟨rfl, hb⟩
      have Q4 := Lib.hid (Q3.out.below hb Q3.out.lt)
      have B4 := Lib.hid (below_next B3.out hb)
      clear hb
      have q0 := Q4.out.cell 0
      have q1 := Q4.out.cell 1
      have q2 := Q4.out.cell 2
      have q3 := Q4.out.cell 3
      have q4 := Q4.out.cell 4
      have f0 := Q4.out.frozen 0
      have f1 := Q4.out.frozen 1
      have f2 := Q4.out.frozen 2
      have f3 := Q4.out.frozen 3
      have f4 := Q4.out.frozen 4
      go_wp2
      obtain ⟨wf, hwf⟩ : ∃ wf, wf = ((((w4.setCell ⟨w.heap.size + 1, 0, none⟩ (.int .i64 0)).setCell ⟨w.heap.size + 1, 1, none⟩ (.int .i64 0)).setCell ⟨w.heap.size + 1, 2, none⟩ (.string ⟨#[]⟩)).setCell ⟨w.heap.size + 1, 3, none⟩ (.slice none 0 0)).setCell ⟨w.heap.size + 1, 4, none⟩ (.slice none 0 0) := ⟨_, rfl⟩
      have QF : Hid (Bk wf (w.heap.size + 1) 26 #[.int .i64 0, .int .i64 0, .string ⟨#[]⟩, .slice none 0 0, .slice none 0 0]) := Lib.hid (by rw [hwf]; exact ((((Q4.out.put 0 _).put 1 _).put 2 _).put 3 _).put 4 _)
      have BF : Hid (Below w.heap.size w wf) := Lib.hid (by
        rw [hwf]
        exact ((((B4.out.setCell (p := ⟨w.heap.size + 1, 0, none⟩) (by show w.heap.size ≤ w.heap.size + 1; omega) _).setCell (p := ⟨w.heap.size + 1, 1, none⟩) (by show w.heap.size ≤ w.heap.size + 1; omega) _).setCell (p := ⟨w.heap.size + 1, 2, none⟩) (by show w.heap.size ≤ w.heap.size + 1; omega) _).setCell (p := ⟨w.heap.size + 1, 3, none⟩) (by show w.heap.size ≤ w.heap.size + 1; omega) _).setCell (p := ⟨w.heap.size + 1, 4, none⟩) (by show w.heap.size ≤ w.heap.size + 1; omega) _)
      rw [← hwf]
      refine bodyPost_ret (results_row2 rfl _ _ (w.heap.size + 1) 26 _ (0, 0) _ rfl QF.out Try.underlying26 rfl (by kernel_rfl)) rfl ?_
      exact ⟨nullT, false, G.out, _, rfl, zero_ownd _ _, BF.out⟩
    | true =>
      have hpn : p < ks.length := by
        unfold isAt at ha
        rw [Bool.and_eq_true, decide_eq_true_eq] at ha
        exact ha.1
      have hpi : p < its.length := by have := HKL.out; omega
      have h1 := List.getElem?_eq_getElem (l := its) (i := p) hpi
      obtain ⟨g, o, k', i', t', B, n', c1, B', n1, c2, rfl, hg, e0, e1, e2, e3, e4, hx⟩ := (HL.out).at_ h1
      have hrx := all_at HRE.out.2.2 h1
      have G2 := Lib.hid (G.out p (its[p]'hpi) HPS.out (fun _ => h1) (fun h => by rw [ha] at h; cases h))
      rw [ha] at G2
      generalize its[p]'hpi = y at *
      rw [Nat.zero_add] at e0 e1 e2 e3 e4
      have cc := fun (q : Nat) => B3.out.cell (p := ⟨g, q, none⟩) hg
      rw [← cc] at e0 e1 e2 e3 e4
      have HCP := Lib.hid (Copy_any (hx.below B3.out) hrx)
      unfold vag at HCP
      have p3 := P3.out.cell 3
      change _ = some (Value.slice (some ⟨g, o, none⟩) its.length c) at p3
      clear ha G cc hx hrx h1
      go_wp2_with fail
      refine (HCP.out).mono ?_
      rintro e w4 ⟨v, rfl, hov, hb⟩
      have Q4 := Lib.hid (Q3.out.below hb Q3.out.lt)
      have B4 := Lib.hid (below_next B3.out hb)
      obtain ⟨k2, i2, t2, D, n3, c3, D', n4, c4, rfl⟩ := hov.form
      have OV := Lib.hid hov
      have LT3 := Lib.hid Q3.out.lt
      have q0 := Q4.out.cell 0
      have q1 := Q4.out.cell 1
      have q2 := Q4.out.cell 2
      have q3 := Q4.out.cell 3
      have q4 := Q4.out.cell 4
      have f0 := Q4.out.frozen 0
      have f1 := Q4.out.frozen 1
      have f2 := Q4.out.frozen 2
      have f3 := Q4.out.frozen 3
      have f4 := Q4.out.frozen 4
      clear hb hov e0 e1 e2 e3 e4 p3
      go_wp2
      obtain ⟨wf, hwf⟩ : ∃ wf, wf = ((((w4.setCell ⟨w.heap.size + 1, 0, none⟩ (.int .i64 k2)).setCell ⟨w.heap.size + 1, 1, none⟩ (.int .i64 i2)).setCell ⟨w.heap.size + 1, 2, none⟩ (.string t2)).setCell ⟨w.heap.size + 1, 3, none⟩ (.slice D n3 c3)).setCell ⟨w.heap.size + 1, 4, none⟩ (.slice D' n4 c4) := ⟨_, rfl⟩
      have QF : Hid (Bk wf (w.heap.size + 1) 26 #[.int .i64 k2, .int .i64 i2, .string t2, .slice D n3 c3, .slice D' n4 c4]) := Lib.hid (by rw [hwf]; exact ((((Q4.out.put 0 _).put 1 _).put 2 _).put 3 _).put 4 _)
      have SF : Hid (∀ b, b ≠ w.heap.size + 1 → wf.heap[b]? = w4.heap[b]?) := Lib.hid (fun b hb => by
        rw [hwf]; exact ((((Below.heap_setCell _ _ _ _ hb).trans (Below.heap_setCell _ _ _ _ hb)).trans (Below.heap_setCell _ _ _ _ hb)).trans (Below.heap_setCell _ _ _ _ hb)).trans (Below.heap_setCell _ _ _ _ hb))
      have BF : Hid (Below w.heap.size w wf) := Lib.hid (by
        rw [hwf]
        exact ((((B4.out.setCell (p := ⟨w.heap.size + 1, 0, none⟩) (by show w.heap.size ≤ w.heap.size + 1; omega) _).setCell (p := ⟨w.heap.size + 1, 1, none⟩) (by show w.heap.size ≤ w.heap.size + 1; omega) _).setCell (p := ⟨w.heap.size + 1, 2, none⟩) (by show w.heap.size ≤ w.heap.size + 1; omega) _).setCell (p := ⟨w.heap.size + 1, 3, none⟩) (by show w.heap.size ≤ w.heap.size + 1; omega) _).setCell (p := ⟨w.heap.size + 1, 4, none⟩) (by show w.heap.size ≤ w.heap.size + 1; omega) _)
      rw [← hwf]
      refine bodyPost_ret (results_row2 rfl _ _ (w.heap.size + 1) 26 _ (0, 0) _ rfl QF.out Try.underlying26 rfl (by kernel_rfl)) rfl ?_
      exact ⟨_, _, G2.out, _, rfl, (OV.out.keep (fun b h1 _ => SF.out b (by have := LT3.out; omega))).mono (by have := LT3.out; omega), BF.out⟩

set_option maxRecDepth 100000 in
set_option maxHeartbeats 1000000 in
theorem List_any {A : Option Addr} {c : Nat} {its : List VT} {w : World} (hL : LiesL w (Lo w) A 0 its) (hc : its.length ≤ c) (hm : c ≤ 9223372036854775807) (hr : its.length * 80 ≤ 140737488355328) (hr2 : alls reachF its = true) :
    Calls Try.prog 16 #[.slice A its.length c] w (Copies (.mk 4 0 ⟨#[]⟩ its []) w) := by
  have hl : Lies w (Lo w) (.mk 4 0 ⟨#[]⟩ its []) (.agg #[.int .i64 4, .int .i64 0, .string ⟨#[]⟩, .slice A its.length c, .slice none 0 0]) := by
    rw [Lies]
    exact ⟨A, c, none, 0, rfl, by omega, by omega, by decide, hc, hm, hL, Nat.le_refl _, by omega, LiesS.none_⟩
  have hrr : (VT.mk 4 0 ⟨#[]⟩ its []).all reachF = true := by
    rw [VT.all_mk, hr2, Bool.and_true]
    unfold reachF VT.its VT.ks
    rw [Bool.and_eq_true, decide_eq_true_eq, decide_eq_true_eq]
    exact ⟨hr, by simp⟩
  obtain ⟨w1, hw1⟩ : ∃ w1, w1 = w.alloc (.cells #[.int .i64 0, .int .i64 0, .string ⟨#[]⟩, .slice none 0 0, .slice none 0 0] 26) := ⟨_, rfl⟩
  have B1 : Hid (Below w.heap.size w w1) := Lib.hid (by rw [hw1]; exact below_one _ _)
  have Q1 : Hid (Bk w1 w.heap.size 26 #[.int .i64 0, .int .i64 0, .string ⟨#[]⟩, .slice none 0 0, .slice none 0 0]) := Lib.hid (by rw [hw1]; exact Bk.new _ _ _)
  have HC := Lib.hid (Copy_any (hl.below B1.out) hrr)
  have HW1 := Lib.hid hw1
  clear hw1 hl hrr hL hr hr2
  go_enter Try.func16, Try.ntmps16
  go_wp2_with fail
  rw [← HW1.out]
  refine (HC.out).mono ?_
  rintro e w4 ⟨v, rfl, hov, hb⟩
  have Q4 := Lib.hid (Q1.out.below hb Q1.out.lt)
  have B4 := Lib.hid (below_next B1.out hb)
  obtain ⟨k2, i2, t2, D, n3, c3, D', n4, c4, rfl⟩ := hov.form
  have OV := Lib.hid hov
  have LT3 := Lib.hid Q1.out.lt
  have q0 := Q4.out.cell 0
  have q1 := Q4.out.cell 1
  have q2 := Q4.out.cell 2
  have q3 := Q4.out.cell 3
  have q4 := Q4.out.cell 4
  have f0 := Q4.out.frozen 0
  have f1 := Q4.out.frozen 1
  have f2 := Q4.out.frozen 2
  have f3 := Q4.out.frozen 3
  have f4 := Q4.out.frozen 4
  clear hb hov
  go_wp2
  obtain ⟨wf, hwf⟩ : ∃ wf, wf = ((((w4.setCell ⟨w.heap.size, 0, none⟩ (.int .i64 k2)).setCell ⟨w.heap.size, 1, none⟩ (.int .i64 i2)).setCell ⟨w.heap.size, 2, none⟩ (.string t2)).setCell ⟨w.heap.size, 3, none⟩ (.slice D n3 c3)).setCell ⟨w.heap.size, 4, none⟩ (.slice D' n4 c4) := ⟨_, rfl⟩
  have QF : Hid (Bk wf w.heap.size 26 #[.int .i64 k2, .int .i64 i2, .string t2, .slice D n3 c3, .slice D' n4 c4]) := Lib.hid (by rw [hwf]; exact ((((Q4.out.put 0 _).put 1 _).put 2 _).put 3 _).put 4 _)
  have SF : Hid (∀ b, b ≠ w.heap.size → wf.heap[b]? = w4.heap[b]?) := Lib.hid (fun b hb => by
    rw [hwf]; exact ((((Below.heap_setCell _ _ _ _ hb).trans (Below.heap_setCell _ _ _ _ hb)).trans (Below.heap_setCell _ _ _ _ hb)).trans (Below.heap_setCell _ _ _ _ hb)).trans (Below.heap_setCell _ _ _ _ hb))
  have BF : Hid (Below w.heap.size w wf) := Lib.hid (by
    rw [hwf]
    exact ((((B4.out.setCell (p := ⟨w.heap.size, 0, none⟩) (Nat.le_refl _) _).setCell (p := ⟨w.heap.size, 1, none⟩) (Nat.le_refl _) _).setCell (p := ⟨w.heap.size, 2, none⟩) (Nat.le_refl _) _).setCell (p := ⟨w.heap.size, 3, none⟩) (Nat.le_refl _) _).setCell (p := ⟨w.heap.size, 4, none⟩) (Nat.le_refl _) _)
  rw [← hwf]
  refine bodyPost_ret (results_cell_row rfl _ _ w.heap.size 26 _ (0, 0) _ rfl QF.out Try.underlying26 rfl (by kernel_rfl)) rfl ?_
  exact ⟨_, rfl, (OV.out.keep (fun b h1 _ => SF.out b (by have := LT3.out; omega))).mono (by have := LT3.out; omega), BF.out⟩
end Go.Proofs.Ytjbjoalinfhahaa
namespace Go.Proofs.Ytjbjoalinfhahaa
open Go.RowKit

theorem conv_rb {w : World} {B n : Nat} {A : Option Addr} {l : List UInt8} (c : Nat) (h : Rb w B A n l) : (convert 50 9 (.slice A n c)).run Try.prog w = .ok (.string ⟨l.toArray⟩) w := by
  have hl := h.len
  cases A with
  | none =>
    have h0 : l = [] := by
      cases l with
      | nil => rfl
      | cons x r => obtain ⟨g, o, e, _⟩ := h.2 (by simp); cases e
    subst h0
    obtain rfl : n = 0 := by simpa using hl.symm
    simp [convert, run_underlying Try.underlying50, run_underlying Try.underlying9, run_underlying Try.underlying5, Conv.bytesToString]
    rfl
  | some a =>
    subst hl
    refine run_convert_bytes_back w 50 9 5 a c l Try.underlying50 Try.underlying5 Try.underlying9 (fun j hj => ?_)
    obtain ⟨g, o, e, _, hc⟩ := h.2 (by intro e; subst e; simp at hj)
    injection e with e
    subst e
    rw [Addr.add_lit]
    exact hc j _ (List.getElem?_eq_getElem hj)
end Go.Proofs.Ytjbjoalinfhahaa
namespace Go.Proofs.Ytjbjoalinfhahaa

def kA : ByteArray := ⟨#[97]⟩
def kB : ByteArray := ⟨#[98]⟩
def iT (n : Int) : VT := .mk 2 n ⟨#[]⟩ [] []
def xT (s : ByteArray) : VT := .mk 3 0 s [] []
def mT : VT := .mk 5 0 ⟨#[]⟩ [iT 2, iT 1] [kA, kB]
theorem less_ab : less kA kB = true := by unfold less; rw [ByteArray.toList_eq, ByteArray.toList_eq]; rfl
theorem less_self (a : ByteArray) : less a a = false := bl_irrefl _
theorem rise2 (a b : ByteArray) : rising [a, b] = (less a b && true) := rfl
theorem perm2 {α : Type} {l : List α} {x y : α} (h : l.Perm [x, y]) : l = [x, y] ∨ l = [y, x] := by
  have hl := h.length_eq
  match l, hl with
  | [p, q], _ =>
    have hp : p ∈ [x, y] := h.mem_iff.1 (by simp)
    simp only [List.mem_cons, List.not_mem_nil, or_false] at hp
    rcases hp with rfl | rfl
    · have := (List.perm_cons p).1 h
      rw [List.perm_singleton] at this
      injection this with this
      left; rw [this]
    · have := (List.perm_cons p).1 (h.trans (List.Perm.swap _ _ _))
      rw [List.perm_singleton] at this
      injection this with this
      right; rw [this]
theorem sorts_ba {es : List (ByteArray × VT)} (h : Sorts [kB, kA] [iT 1, iT 2] es) : es = [(kA, iT 2), (kB, iT 1)] := by
  rcases perm2 h.1 with h1 | h1
  · have := h.2 0 1 (by omega) (by rw [h1]; decide)
    rw [h1] at this
    exact absurd (less_ab.symm.trans this) (by decide)
  · exact h1
theorem within_m : mT.within = true := by rfl
theorem map_ba {es : List (ByteArray × VT)} (h : Sorts [kB, kA] [iT 1, iT 2] es) : mapV es = mT ∧ mapE es = 0 := by
  rw [sorts_ba h]
  have e : rising (List.map (·.1) [(kA, iT 2), (kB, iT 1)]) = true := by
    show rising [kA, kB] = true
    rw [rise2, less_ab]; rfl
  unfold mapV mapE
  rw [if_pos e, if_pos e]
  exact limT_yes within_m
theorem map_aa {es : List (ByteArray × VT)} (h : Sorts [kA, kA] [iT 1, iT 2] es) : mapE es = 9 := by
  have e : rising (es.map (·.1)) = false := by
    rcases perm2 h.1 with h1 | h1
    · rw [h1]
      show rising [kA, kA] = false
      rw [rise2, less_self]; rfl
    · rw [h1]
      show rising [kA, kA] = false
      rw [rise2, less_self]; rfl
  unfold mapE
  rw [e]
  rfl
theorem iT_wf (n : Int) : (iT n).all okF = true := by unfold iT; rw [VT.all_mk, okF_2]; rfl
theorem xT_wf (s : ByteArray) : (xT s).all okF = true := by unfold xT; rw [VT.all_mk, okF_3]; rfl
theorem isMap_m : isMapT mT = true := by
  unfold isMapT VT.wf mT VT.k
  rw [VT.all_mk, okF_5, rise2, less_ab]
  unfold alls alls alls
  rw [iT_wf, iT_wf]
  rfl
theorem get_a {y : VT} {b : Bool} (h : GetSpec mT kA y b) : y = iT 2 ∧ b = true := by
  rcases h with ⟨h, _⟩ | ⟨_, p, hp, rfl, h1, _⟩
  · rw [isMap_m] at h; cases h
  · have h0 : p = 0 := by
      rcases Nat.eq_zero_or_pos p with h | h
      · exact h
      · have := hp.2.1 0 h
        exact absurd ((less_self kA).symm.trans this) (by decide)
    subst h0
    have ha : isAt mT.ks kA 0 = true := by
      unfold isAt
      rw [decide_eq_true (show 0 < mT.ks.length by decide), decide_eq_true (show mT.ks.getD 0 ByteArray.empty = kA from rfl)]
      rfl
    have := h1 ha
    exact ⟨by injection this.symm, ha⟩
def lT : VT := .mk 4 0 ⟨#[]⟩ [iT 5, xT ⟨#[120]⟩] []
theorem lT_wf : lT.wf = true := by
  unfold lT VT.wf
  rw [VT.all_mk, okF_4]
  unfold alls alls alls
  rw [iT_wf, xT_wf]
  rfl
theorem enc_l : encOf lT = [8, 4, 4, 10, 6, 2, 120] := by rw [encOf_yes lT_wf]; decide
theorem ord_9 : (iT 9).ord (xT ⟨#[]⟩) = -1 := by
  unfold VT.ord VT.wf
  rw [iT_wf, xT_wf]
  unfold iT xT
  rw [VT.cmp_mk]
  rfl
end Go.Proofs.Ytjbjoalinfhahaa
namespace Go.Proofs.Ytjbjoalinfhahaa
open Go.RowKit

def iV (n : Int) : Value := .agg #[.int .i64 2, .int .i64 n, .string ⟨#[]⟩, .slice none 0 0, .slice none 0 0]
def xV (s : ByteArray) : Value := .agg #[.int .i64 3, .int .i64 0, .string s, .slice none 0 0, .slice none 0 0]
theorem iT_lies (w : World) (R : Nat → Prop) (n : Int) (h : -9223372036854775808 ≤ n ∧ n ≤ 9223372036854775807) : Lies w R (iT n) (iV n) := by
  unfold iT
  rw [Lies]
  exact ⟨none, 0, none, 0, rfl, by omega, h, by decide, Nat.le_refl _, by omega, LiesL.none_, Nat.le_refl _, by omega, LiesS.none_⟩
theorem xT_lies (w : World) (R : Nat → Prop) (s : ByteArray) (h : s.size ≤ 9223372036854775807) : Lies w R (xT s) (xV s) := by
  unfold xT
  rw [Lies]
  exact ⟨none, 0, none, 0, rfl, by omega, by omega, h, Nat.le_refl _, by omega, LiesL.none_, Nat.le_refl _, by omega, LiesS.none_⟩
/-- two strings in a block -/
theorem strs2 {w : World} {g : Nat} {t : TypeId} {a b : ByteArray} (h : Bk w g t #[.string a, .string b]) (ha : a.size ≤ 9223372036854775807) (hb : b.size ≤ 9223372036854775807) : LiesS w (Lo w) (some ⟨g, 0, none⟩) [a, b] := by
  intro j s hj
  match j with
  | 0 => simp at hj; subst hj; exact ⟨ha, g, 0, rfl, h.lt, h.cell 0⟩
  | 1 => simp at hj; subst hj; exact ⟨hb, g, 0, rfl, h.lt, h.cell 1⟩
  | j + 2 => simp at hj
/-- two values in a block -/
theorem vals2 {w : World} {g : Nat} {t : TypeId} {x y : VT} {a b s p q a' b' s' p' q' : Value} (h : Bk w g t #[a, b, s, p, q, a', b', s', p', q']) (hx : Lies w (Lo w) x (.agg #[a, b, s, p, q])) (hy : Lies w (Lo w) y (.agg #[a', b', s', p', q'])) :
    LiesL w (Lo w) (some ⟨g, 0, none⟩) 0 [x, y] := by
  rw [LiesL, LiesL, LiesL]
  exact ⟨⟨g, 0, a, b, s, p, q, rfl, h.lt, h.cell 0, h.cell 1, h.cell 2, h.cell 3, h.cell 4, hx⟩, ⟨g, 0, a', b', s', p', q', rfl, h.lt, h.cell 5, h.cell 6, h.cell 7, h.cell 8, h.cell 9, hy⟩, trivial⟩

set_option maxRecDepth 100000 in
set_option maxHeartbeats 8000000 in
theorem works_any (w : World) : Calls Try.prog 12 #[] w (Gives (.bool true) w) := by
  go_enter Try.func12, Try.ntmps12
  go_wp2_with fail
  refine (Int_any 1 _).mono ?_
  rintro e w1 ⟨rfl, hb1⟩
  have K1 : Hid (Bk w1 w.heap.size 9 #[.string kB, .string kA]) := Lib.hid ((Bk.new w _ _).below hb1 (by simp))
  have B1 : Hid (Below w.heap.size w w1) := Lib.hid (below_via (Below.refl _ _) hb1)
  clear hb1
  go_wp2_with fail
  refine (Int_any 2 _).mono ?_
  rintro e w2 ⟨rfl, hb⟩
  have K2 := Lib.hid (K1.out.below hb K1.out.lt)
  have B2 := Lib.hid (below_next B1.out hb)
  clear hb
  obtain ⟨w3, hw3⟩ : ∃ w3, w3 = w2.alloc (.cells #[.int .i64 2, .int .i64 1, .string ⟨#[]⟩, .slice none 0 0, .slice none 0 0, .int .i64 2, .int .i64 2, .string ⟨#[]⟩, .slice none 0 0, .slice none 0 0] 26) := ⟨_, rfl⟩
  have K3 : Hid (Bk w3 w.heap.size 9 #[.string kB, .string kA]) := Lib.hid (by rw [hw3]; exact K2.out.alloc _)
  have V3 : Hid (Bk w3 w2.heap.size 26 #[.int .i64 2, .int .i64 1, .string ⟨#[]⟩, .slice none 0 0, .slice none 0 0, .int .i64 2, .int .i64 2, .string ⟨#[]⟩, .slice none 0 0, .slice none 0 0]) := Lib.hid (by rw [hw3]; exact Bk.new _ _ _)
  have B3 : Hid (Below w.heap.size w w3) := Lib.hid (by rw [hw3]; exact B2.out.alloc B2.out.size _)
  have M3 := Lib.hid (Map_any (some ⟨w.heap.size, 0, none⟩) 2 [kB, kA] (some ⟨w2.heap.size, 0, none⟩) 2 [iT 1, iT 2] w3 (strs2 K3.out (by decide) (by decide)) (vals2 V3.out (iT_lies _ _ 1 (by omega)) (iT_lies _ _ 2 (by omega))) (Nat.le_refl _) (Nat.le_refl _) (by decide) (by decide))
  have HW3 := Lib.hid hw3
  clear hw3
  go_wp2_with fail
  rw [← HW3.out]
  refine (M3.out).mono ?_
  rintro e w4 ⟨y, r, hsp, v, rfl, hov, hb⟩
  obtain ⟨rfl, rfl⟩ : y = mT ∧ r = 0 := by
    rcases hsp with ⟨h, _⟩ | ⟨_, es, he, rfl, rfl⟩
    · exact absurd rfl h
    · exact map_ba he
  obtain ⟨mk, mi, mt, mA, mn, mc, mA', mn', mc', rfl⟩ := hov.form
  have MO := Lib.hid hov.lies
  have B4 := Lib.hid (below_next B3.out hb)
  clear hsp hov hb M3
  go_wp2_with fail
  refine (Int_any 1 _).mono ?_
  rintro e w5 ⟨rfl, hb⟩
  have b45 : Below w4.heap.size w4 w5 := ((below_one w4 _).trans (Below.alloc (Below.refl _ _) (by simp) _)).trans (hb.mono (Nat.le_trans (Nat.le_succ _) (by simp)))
  have MB5 : Hid (Bk w5 w4.heap.size 26 #[.int .i64 mk, .int .i64 mi, .string mt, .slice mA mn mc, .slice mA' mn' mc']) := Lib.hid (((Bk.new w4 _ _).alloc _).below hb (by simp; omega))
  have K5 : Hid (Bk w5 (w4.heap.size + 1) 9 #[.string kA, .string kA]) := Lib.hid (by
    have h := Bk.new (w4.alloc (.cells #[.int .i64 mk, .int .i64 mi, .string mt, .slice mA mn mc, .slice mA' mn' mc'] 26)) 9 #[.string kA, .string kA]
    have e : (w4.alloc (.cells #[.int .i64 mk, .int .i64 mi, .string mt, .slice mA mn mc, .slice mA' mn' mc'] 26)).heap.size = w4.heap.size + 1 := by simp
    rw [e] at h
    exact h.below hb (by simp))
  have MO5 := Lib.hid (MO.out.below b45)
  have B5 := Lib.hid (below_next B4.out b45)
  clear hb b45
  go_wp2_with fail
  refine (Int_any 2 _).mono ?_
  rintro e w6 ⟨rfl, hb⟩
  have K6 := Lib.hid (K5.out.below hb K5.out.lt)
  have MB6 := Lib.hid (MB5.out.below hb MB5.out.lt)
  have MO6 := Lib.hid (MO5.out.below hb)
  have B6 := Lib.hid (below_next B5.out hb)
  clear hb
  obtain ⟨w7, hw7⟩ : ∃ w7, w7 = w6.alloc (.cells #[.int .i64 2, .int .i64 1, .string ⟨#[]⟩, .slice none 0 0, .slice none 0 0, .int .i64 2, .int .i64 2, .string ⟨#[]⟩, .slice none 0 0, .slice none 0 0] 26) := ⟨_, rfl⟩
  have K7 : Hid (Bk w7 (w4.heap.size + 1) 9 #[.string kA, .string kA]) := Lib.hid (by rw [hw7]; exact K6.out.alloc _)
  have V7 : Hid (Bk w7 w6.heap.size 26 #[.int .i64 2, .int .i64 1, .string ⟨#[]⟩, .slice none 0 0, .slice none 0 0, .int .i64 2, .int .i64 2, .string ⟨#[]⟩, .slice none 0 0, .slice none 0 0]) := Lib.hid (by rw [hw7]; exact Bk.new _ _ _)
  have MB7 := Lib.hid (show Bk w7 _ _ _ from by rw [hw7]; exact MB6.out.alloc _)
  have MO7 := Lib.hid (MO6.out.below (by rw [hw7]; exact below_one _ _ : Below w6.heap.size w6 w7))
  have B7 : Hid (Below w.heap.size w w7) := Lib.hid (by rw [hw7]; exact B6.out.alloc B6.out.size _)
  have M7 := Lib.hid (Map_any (some ⟨w4.heap.size + 1, 0, none⟩) 2 [kA, kA] (some ⟨w6.heap.size, 0, none⟩) 2 [iT 1, iT 2] w7 (strs2 K7.out (by decide) (by decide)) (vals2 V7.out (iT_lies _ _ 1 (by omega)) (iT_lies _ _ 2 (by omega))) (Nat.le_refl _) (Nat.le_refl _) (by decide) (by decide))
  have HW7 := Lib.hid hw7
  clear hw7
  go_wp2_with fail
  rw [← HW7.out]
  refine (M7.out).mono ?_
  rintro e w8 ⟨y, r, hsp, v, rfl, hov, hb⟩
  obtain rfl : r = 9 := by
    rcases hsp with ⟨h, _⟩ | ⟨_, es, he, rfl, rfl⟩
    · exact absurd rfl h
    · exact map_aa he
  obtain ⟨nk, ni, nt, nA, nn, nc, nA', nn', nc', rfl⟩ := hov.form
  have MB8 := Lib.hid (MB7.out.below hb MB7.out.lt)
  have MO8 := Lib.hid (MO7.out.below hb)
  have B8 := Lib.hid (below_next B7.out hb)
  clear hsp hov hb M7
  obtain ⟨w9, hw9⟩ : ∃ w9, w9 = w8.alloc (.cells #[.int .i64 nk, .int .i64 ni, .string nt, .slice nA nn nc, .slice nA' nn' nc'] 26) := ⟨_, rfl⟩
  have B89 : Hid (Below w8.heap.size w8 w9) := Lib.hid (by rw [hw9]; exact below_one _ _)
  have MB9 := Lib.hid (MB8.out.below B89.out MB8.out.lt)
  have MO9 := Lib.hid (MO8.out.below B89.out)
  have B9 := Lib.hid (below_next B8.out B89.out)
  have G9 := Lib.hid (Get_any kA MO9.out (by decide))
  have c0 := MB9.out.cell 0
  have c1 := MB9.out.cell 1
  have c2 := MB9.out.cell 2
  have c3 := MB9.out.cell 3
  have c4 := MB9.out.cell 4
  change _ = some (Value.int .i64 mk) at c0
  change _ = some (Value.int .i64 mi) at c1
  change _ = some (Value.string mt) at c2
  change _ = some (Value.slice mA mn mc) at c3
  change _ = some (Value.slice mA' mn' mc') at c4
  rw [hw9] at c0 c1 c2 c3 c4
  have HW9 := Lib.hid hw9
  clear hw9
  go_wp2_with fail
  rw [← HW9.out]
  refine (G9.out).mono ?_
  rintro e w10 ⟨y, b, hsp, v, rfl, hov, hb⟩
  obtain ⟨rfl, rfl⟩ := get_a hsp
  obtain ⟨xk, xi, xt, xA, xn, xc, xA', xn', xc', rfl⟩ := hov.form
  have XO := Lib.hid hov.lies
  have B10 := Lib.hid (below_next B9.out hb)
  clear hsp hov hb c0 c1 c2 c3 c4 G9
  go_wp2_with fail
  refine (Int_any 5 _).mono ?_
  rintro e w11 ⟨rfl, hb⟩
  have XB11 : Hid (Bk w11 w10.heap.size 26 #[.int .i64 xk, .int .i64 xi, .string xt, .slice xA xn xc, .slice xA' xn' xc']) := Lib.hid ((Bk.new w10 _ _).below hb (by simp))
  have b11 : Below w10.heap.size w10 w11 := below_via (Below.refl _ _) hb
  have XO11 := Lib.hid (XO.out.below b11)
  have B11 := Lib.hid (below_next B10.out b11)
  clear hb b11
  go_wp2_with fail
  refine (Text_any ⟨#[120]⟩ _).mono ?_
  rintro e w12 ⟨rfl, hb⟩
  have XB12 := Lib.hid (XB11.out.below hb XB11.out.lt)
  have XO12 := Lib.hid (XO11.out.below hb)
  have B12 := Lib.hid (below_next B11.out hb)
  clear hb
  obtain ⟨w13, hw13⟩ : ∃ w13, w13 = w12.alloc (.cells #[.int .i64 2, .int .i64 5, .string ⟨#[]⟩, .slice none 0 0, .slice none 0 0, .int .i64 3, .int .i64 0, .string ⟨#[120]⟩, .slice none 0 0, .slice none 0 0] 26) := ⟨_, rfl⟩
  have V13 : Hid (Bk w13 w12.heap.size 26 #[.int .i64 2, .int .i64 5, .string ⟨#[]⟩, .slice none 0 0, .slice none 0 0, .int .i64 3, .int .i64 0, .string ⟨#[120]⟩, .slice none 0 0, .slice none 0 0]) := Lib.hid (by rw [hw13]; exact Bk.new _ _ _)
  have b13 : Below w12.heap.size w12 w13 := by rw [hw13]; exact below_one _ _
  have XB13 := Lib.hid (XB12.out.below b13 XB12.out.lt)
  have XO13 := Lib.hid (XO12.out.below b13)
  have B13 := Lib.hid (below_next B12.out b13)
  have L13 := Lib.hid (List_any (A := some ⟨w12.heap.size, 0, none⟩) (c := 2) (its := [iT 5, xT ⟨#[120]⟩]) (w := w13) (vals2 V13.out (iT_lies _ _ 5 (by omega)) (xT_lies _ _ _ (by decide))) (Nat.le_refl _) (by omega) (by decide) (by decide))
  have HW13 := Lib.hid hw13
  clear hw13 b13
  go_wp2_with fail
  rw [← HW13.out]
  refine (L13.out).mono ?_
  rintro e w14 ⟨v, rfl, hov, hb⟩
  have XB14 := Lib.hid (XB13.out.below hb XB13.out.lt)
  have XO14 := Lib.hid (XO13.out.below hb)
  have B14 := Lib.hid (below_next B13.out hb)
  have E14 := Lib.hid (valEncode_any (A := none) (n := 0) (c := 0) (B := 0) (l := []) (Rb.nil0 w14 0) (Nat.zero_le _) hov.lies (by decide))
  clear hov hb L13
  go_wp2_with fail
  refine (E14.out).mono ?_
  intro e w15 hq
  obtain ⟨A2, n2, c2, rfl, hl2, hc2, hm2, R2, O2, hb⟩ := own_named hq
  have XB15 := Lib.hid (XB14.out.below hb.out XB14.out.lt)
  have XO15 := Lib.hid (XO14.out.below hb.out)
  have B15 := Lib.hid (below_next B14.out hb.out)
  have HCV : ∀ q : BelowBy w15, (convert 50 9 (.slice A2 n2 c2)).run Try.prog q.val = .ok (.string ⟨#[8, 4, 4, 10, 6, 2, 120]⟩) q.val := fun q => by
    have h := conv_rb c2 (R2.out.below q.below)
    rw [List.nil_append, show encOf (.mk 4 0 ⟨#[]⟩ [iT 5, xT ⟨#[120]⟩] []) = [8, 4, 4, 10, 6, 2, 120] from enc_l] at h
    exact h
  have HSM : Hid (∀ q : BelowBy w15, Calls Try.prog 32 #[.agg #[.int .i64 xk, .int .i64 xi, .string xt, .slice xA xn xc, .slice xA' xn' xc'], iV 2] q.val (Gives (.bool true) q.val)) := Lib.hid (fun q => by
    have h := valSame_all (iT 2).size (iT 2) (iT 2) q.val _ (iV 2) (Nat.le_refl _) (XO15.out.below q.below) (iT_lies _ _ 2 (by omega))
    rwa [eqB_true rfl] at h)
  have HOR : Hid (∀ q : BelowBy w15, Calls Try.prog 37 #[iV 9, xV ⟨#[]⟩] q.val (Gives (.int .i64 (-1)) q.val)) := Lib.hid (fun q => by
    have h := valOrder_any (iT_lies q.val (Lo q.val) 9 (by omega)) (xT_lies q.val (Lo q.val) ⟨#[]⟩ (by decide))
    rwa [ord_9] at h)
  unfold iV at HSM
  unfold iV xV at HOR
  have x0 := BelowBy.cell (show w15.cell? ⟨w10.heap.size, 0, none⟩ = some (.int .i64 xk) from XB15.out.cell 0)
  have x1 := BelowBy.cell (show w15.cell? ⟨w10.heap.size, 1, none⟩ = some (.int .i64 xi) from XB15.out.cell 1)
  have x2 := BelowBy.cell (show w15.cell? ⟨w10.heap.size, 2, none⟩ = some (.string xt) from XB15.out.cell 2)
  have x3 := BelowBy.cell (show w15.cell? ⟨w10.heap.size, 3, none⟩ = some (.slice xA xn xc) from XB15.out.cell 3)
  have x4 := BelowBy.cell (show w15.cell? ⟨w10.heap.size, 4, none⟩ = some (.slice xA' xn' xc') from XB15.out.cell 4)
  clear hq E14 hb
  go_wp2_with fail
  refine wp_region_gives (by kernel_rfl) (by kernel_rfl) ?_
  repeat (quiet_step ((first | (go_at_call 22; exact gives_by (Int_any _ _)) | (go_at_call 18; exact gives_by (Text_any _ _)) | (go_at_call 32; exact gives_by (HSM.out _)) | (go_at_call 37; exact gives_by (HOR.out _)))))
  refine wpQuiet_nil ?_
  intro _ hw'
  obtain ⟨q, rfl⟩ := hw'
  go_wp2
  go_ret
  exact ⟨rfl, below_next B15.out q.below⟩
end Go.Proofs.Ytjbjoalinfhahaa
