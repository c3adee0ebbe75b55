/-
  The walk of WireOwn.
-/
import Derived.Test.YtlhloebpppmgdaaLawE
namespace Go.Proofs.Ytlhloebpppmgdaa
open Go.RowKit

section
variable {w : World} {p : Nat}
/-- a reader that Open did not return -/
def Zr (w : World) (p : Nat) : Prop := Bk w p 48 #[.slice none 0 0, .int .i64 0, .bool false]

set_option maxHeartbeats 400000 in
theorem nilErr : Calls Try.prog 24 #[.pointer none] w (Says (.int .i64 1) w) := by
  go_enter Try.func24, Try.ntmps24
  go_wp2
  go_ret
  exact ⟨rfl, rfl⟩
set_option maxHeartbeats 400000 in
theorem zeroErr (h : Zr w p) : Calls Try.prog 24 #[.pointer (some ⟨p, 0, none⟩)] w (Says (.int .i64 1) w) := by
  have h2 : w.cell? ⟨p, 2, none⟩ = some (.bool false) := Bk.cell h 2
  go_enter Try.func24, Try.ntmps24
  go_wp2
  go_ret
  exact ⟨rfl, rfl⟩
theorem nilFail (x : Int) : Calls Try.prog 26 #[.pointer none, .int .i64 x] w (Says (.tuple #[]) w) := by
  go_enter Try.func26, Try.ntmps26
  go_wp2_with (go_at_call 24; refine nilErr.mono ?_; rintro e w' ⟨rfl, rfl⟩)
  go_end0
  exact ⟨rfl, rfl⟩
theorem zeroFail (x : Int) (h : Zr w p) : Calls Try.prog 26 #[.pointer (some ⟨p, 0, none⟩), .int .i64 x] w (Says (.tuple #[]) w) := by
  have H := Lib.hid h
  clear h
  go_enter Try.func26, Try.ntmps26
  go_wp2_with (go_at_call 24; refine (zeroErr H.out).mono ?_; rintro e w' ⟨rfl, rfl⟩)
  go_end0
  exact ⟨rfl, rfl⟩
theorem nilLeft : Calls Try.prog 25 #[.pointer none] w (Says (.int .i64 0) w) := by
  go_enter Try.func25, Try.ntmps25
  go_wp2_with (go_at_call 24; refine nilErr.mono ?_; rintro e w' ⟨rfl, rfl⟩)
  go_ret
  exact ⟨rfl, rfl⟩
theorem zeroLeft (h : Zr w p) : Calls Try.prog 25 #[.pointer (some ⟨p, 0, none⟩)] w (Says (.int .i64 0) w) := by
  have H := Lib.hid h
  clear h
  go_enter Try.func25, Try.ntmps25
  go_wp2_with (go_at_call 24; refine (zeroErr H.out).mono ?_; rintro e w' ⟨rfl, rfl⟩)
  go_ret
  exact ⟨rfl, rfl⟩
theorem nilEnd : Calls Try.prog 27 #[.pointer none] w (Says (.int .i64 1) w) := by
  go_enter Try.func27, Try.ntmps27
  go_wp2_with (first | (go_at_call 25; refine nilLeft.mono ?_; rintro e w' ⟨rfl, rfl⟩) | (go_at_call 24; refine nilErr.mono ?_; rintro e w' ⟨rfl, rfl⟩))
  go_ret
  exact ⟨rfl, rfl⟩
theorem zeroEnd (h : Zr w p) : Calls Try.prog 27 #[.pointer (some ⟨p, 0, none⟩)] w (Says (.int .i64 1) w) := by
  have H := Lib.hid h
  clear h
  go_enter Try.func27, Try.ntmps27
  go_wp2_with (first | (go_at_call 25; refine (zeroLeft H.out).mono ?_; rintro e w' ⟨rfl, rfl⟩) | (go_at_call 24; refine (zeroErr H.out).mono ?_; rintro e w' ⟨rfl, rfl⟩))
  go_ret
  exact ⟨rfl, rfl⟩
theorem nilInt (low high : Int) : Calls Try.prog 21 #[.pointer none, .int .i64 low, .int .i64 high] w (Says (.int .i64 0) w) := by
  go_enter Try.func21, Try.ntmps21
  go_wp2_with (go_at_call 24; refine nilErr.mono ?_; rintro e w' ⟨rfl, rfl⟩)
  go_ret
  exact ⟨rfl, rfl⟩
theorem zeroInt (low high : Int) (h : Zr w p) : Calls Try.prog 21 #[.pointer (some ⟨p, 0, none⟩), .int .i64 low, .int .i64 high] w (Says (.int .i64 0) w) := by
  have H := Lib.hid h
  clear h
  go_enter Try.func21, Try.ntmps21
  go_wp2_with (go_at_call 24; refine (zeroErr H.out).mono ?_; rintro e w' ⟨rfl, rfl⟩)
  go_ret
  exact ⟨rfl, rfl⟩
theorem zeroText (most : Int) (h : Zr w p) : Calls Try.prog 22 #[.pointer (some ⟨p, 0, none⟩), .int .i64 most] w (Says (.string ⟨#[]⟩) w) := by
  have H := Lib.hid h
  clear h
  go_enter Try.func22, Try.ntmps22
  go_wp2_with (first | (go_at_call 21; refine (zeroInt _ _ H.out).mono ?_; rintro e w' ⟨rfl, rfl⟩) | (go_at_call 25; refine (zeroLeft H.out).mono ?_; rintro e w' ⟨rfl, rfl⟩) | (go_at_call 24; refine (zeroErr H.out).mono ?_; rintro e w' ⟨rfl, rfl⟩))
  go_ret
  exact ⟨rfl, rfl⟩
theorem nilBool : Calls Try.prog 23 #[.pointer none] w (Says (.bool false) w) := by
  go_enter Try.func23, Try.ntmps23
  go_wp2_with (go_at_call 24; refine nilErr.mono ?_; rintro e w' ⟨rfl, rfl⟩)
  go_ret
  exact ⟨rfl, rfl⟩
end

/-- nothing from block B on has turned -/
def Above (B : Nat) (w w' : World) : Prop := ∀ k, B ≤ k → w'.heap[k]? = w.heap[k]?

theorem own_above {w w' : World} {base : Nat} {e : TypeId} {size n : Nat} {v : Value} {xs : List Value} (h : w.ownsRow base e size v n xs) (ha : Above base w w') : w'.ownsRow base e size v n xs := by
  refine ⟨h.1, ?_⟩
  rcases h.2 with h0 | ⟨g, cap, cur, hv, hb, hg, r⟩
  · exact .inl h0
  · exact .inr ⟨g, cap, cur, hv, hb, (ha g hb).trans hg, r⟩

set_option maxHeartbeats 400000 in
theorem wOpen_far {w : World} {B : Nat} {A : Option Addr} {n c : Nat} {l : List UInt8} (hr : Rb w B A n l) (hB : B ≤ w.heap.size) (hn : n ≤ 70368744177000) :
    Calls Try.prog 18 #[.slice A n c] w fun e w' => ∃ p, e = .returned (.pointer (some ⟨p, 0, none⟩)) ∧ w.heap.size ≤ p ∧ Below w.heap.size w w' ∧ ∀ w'', Above w.heap.size w' w'' → WRd w'' p l 0 := by
  have HR := Lib.hid hr
  clear hr
  go_enter Try.func18, Try.ntmps18
  go_wp2_with fail
  refine (copyOf_any A n c l 0 B w HR.out hB (by omega) (by omega) (by omega)).mono ?_
  rintro e w1 ⟨v, rfl, hown, hb⟩
  obtain ⟨A', c', rfl, hnc, hcm⟩ := own_form hown
  unfold maxLen at hcm
  have H1 := Lib.hid hown
  have H2 := Lib.hid hb
  clear hown hb
  go_wp2
  go_ret
  refine ⟨_, rfl, H2.out.size, H2.out.alloc H2.out.size _, fun w'' ha => ⟨A', n, c', l, (ha _ H2.out.size).trans (Bk.new _ _ _), ?_, hnc, by omega, fun _ => rfl⟩⟩
  exact Ow.of_own (own_above (H1.out.alloc _) ha)

/-- an owned row, its head and cells -/
theorem own_stored {w : World} {base : Nat} {e : TypeId} {A : Option Addr} {n c k : Nat} {xs : List Value} (h : w.ownsRow base e 1 (.slice A n c) n xs) (hk : k < n) (u : Value) :
    ∃ g old, A = some ⟨g, 0, none⟩ ∧ base ≤ g ∧ w.cell? ⟨g, k, none⟩ = some old ∧ w.frozen? ⟨g, k, none⟩ = false ∧ ∃ ys, (w.setCell ⟨g, k, none⟩ u).ownsRow base e 1 (.slice A n c) n ys := by
  have hlen := h.1
  rcases h.2 with ⟨_, rfl⟩ | ⟨g, cap, cur, hv, hb, _⟩
  · omega
  · injection hv with hA hn hc
    subst hA hc
    have hcell := h.cellAt k (by omega)
    have hx : xs[k]? = some xs[k] := List.getElem?_eq_getElem (by omega)
    exact ⟨g, _, rfl, hb, by rw [hcell, hx], h.frozenAt k, _, (h.stored k u).1⟩

set_option maxHeartbeats 4000000 in
theorem WireOwn_walk (A : Option Addr) (n c : Nat) (l : List UInt8) (x : Int) (w : World) (hr : Rb w w.heap.size A n l) (_ : n ≤ c) (_ : c ≤ maxLen) (h1 : -9223372036854775808 ≤ x) (h2 : x ≤ 9223372036854775807) :
    Calls Try.prog 9 #[.slice A n c, .int .i64 x] w (Holds w) := by
  have HR := Lib.hid hr
  have H12 : Hid (-9223372036854775808 ≤ x ∧ x ≤ 9223372036854775807) := Lib.hid ⟨h1, h2⟩
  clear hr h1 h2
  by_cases hbig : 100 < n
  · have t1 : decide ((100 : Int) < (n : Int)) = true := by rw [decide_eq_true_eq]; omega
    clear hbig
    go_enter Try.func9, Try.ntmps9
    go_wp2_with fail
    refine (works_below _ _ (Below.refl _ _)).mono ?_
    rintro e w4 ⟨rfl, hb4⟩
    have B4 := Lib.hid hb4
    clear hb4
    go_wp2
    go_ret
    exact ⟨rfl, B4.out⟩
  have t1 : decide ((100 : Int) < (n : Int)) = false := by rw [decide_eq_false_iff_not]; omega
  have HN : Hid (n ≤ 100) := Lib.hid (by omega)
  obtain ⟨i, hi, hz, hs, hb⟩ := info_parts Try.infob
  clear hbig
  go_enter Try.func9, Try.ntmps9
  go_wp2_with (at_builtin; refine wpList_append_b8 rfl _ _ 22 rfl w.heap.size 5 i (.int .u8 0) Try.underlying22 hi hz hs hb rfl _ 0 [] rfl (own_empty w 5) w.heap.size A n c l rfl (HR.out.alloc (Nat.le_refl _) _) ?_ ?_ ?_)
  · have := HN.out; omega
  · simp
  intro v1 w1 hown hg
  have hown' : w1.ownsRow w.heap.size 5 1 v1 n (l.map b8) := by simpa using hown
  have hbl : Below w.heap.size w w1 := ((Below.refl _ _).alloc (Nat.le_refl _) _).grown hg (by simp) (fun k hk => by simp [Value.ownBlock] at hk; omega)
  obtain ⟨A1, c1, rfl, i1, _⟩ := own_form hown'
  have O1 := Lib.hid hown'
  have B1 := Lib.hid hbl
  clear hown hown' hg hbl
  go_wp2_with fail
  refine (PutInt_any A1 n c1 l w1.heap.size w1 x (Rb.own O1.out) (Nat.le_refl _) (by have := HN.out; omega) H12.out.1 H12.out.2).mono ?_
  intro e w2 hres
  obtain ⟨A2, n2, c2, rfl, N2, i2, j2, R2, O2, hb2⟩ := own_named hres
  clear hres
  have B2 := Lib.hid (B1.out.trans (hb2.out.mono B1.out.size))
  have R1 := Lib.hid ((Rb.own O1.out).below hb2.out)
  go_wp2_with fail
  refine (wOpen_far R1.out hb2.out.size (by have := HN.out; omega)).mono ?_
  rintro e w3 ⟨p, rfl, hpl, hb3, hfar⟩
  have B3 := Lib.hid (B2.out.trans (hb3.mono B2.out.size))
  have O3 := Lib.hid (O1.out.kept (row := none) (w' := w3) ⟨(hb3.os.trans hb2.out.os), hb3.tape.trans hb2.out.tape, hb3.output.trans hb2.out.output, Nat.le_trans hb2.out.size hb3.size, fun k hk _ => (hb3.block k (Nat.lt_of_lt_of_le hk hb2.out.size)).trans (hb2.out.block k hk)⟩ (by cases hv : Value.ownBlock (.slice A1 n c1) <;> simp))
  have O2 : Hid (w3.ownsRow w1.heap.size 5 1 (.slice A2 n2 c2) n2 ((l ++ enc x).map b8)) := Lib.hid (O2.out.kept (row := none) ⟨hb3.os, hb3.tape, hb3.output, hb3.size, fun k hk _ => hb3.block k hk⟩ (by cases hv : Value.ownBlock (.slice A2 n2 c2) <;> simp))
  have FAR : Hid (∀ w'', Above w1.heap.size w3 w'' → WRd w'' p l 0) := Lib.hid (fun w'' ha => hfar w'' (fun k hk => ha k (Nat.le_trans hb2.out.size hk)))
  have LP : Hid (w1.heap.size ≤ p) := Lib.hid (Nat.le_trans hb2.out.size hpl)
  have SZ : Hid (w1.heap.size ≤ w3.heap.size) := Lib.hid (Nat.le_trans hb2.out.size hb3.size)
  clear hpl hb3 hfar
  go_wp2_with fail
  go_loopw [27] (fun j wr => ∃ k : Nat, k ≤ n ∧ j = .int .i64 k ∧ Hid (∃ ys, wr.ownsRow w.heap.size 5 1 (.slice A1 n c1) n ys) ∧ Hid (Above w1.heap.size w3 wr) ∧ Hid (Below w.heap.size w wr) ∧ Hid (wr.heap.size = w3.heap.size)) (fun j _ => n - (intOf j).toNat)
  case atStart => exact ⟨0, Nat.zero_le _, rfl, ⟨_, O3.out⟩, fun _ _ => rfl, B3.out, rfl⟩
  case round =>
    obtain ⟨k, hkn, rfl, ho, ha, hb, hsz⟩ := hrel
    by_cases hlt : k < n
    · obtain ⟨ys, hys⟩ := ho.out
      obtain ⟨g, old, rfl, hbg, hcell, hfr, hst⟩ := own_stored hys hlt (.int .u8 255)
      have hg1 : g < w1.heap.size := (O1.out.lt g rfl).2
      have HG1 := Lib.hid hg1
      have HBG := Lib.hid hbg
      have HST := Lib.hid hst
      have hn100 : n ≤ 100 := HN.out
      clear hg1 hbg hst hys ho
      go_wp2
      go_roundw
      case rel => exact ⟨k + 1, by omega, by go_num, HST, fun q hq => (Below.heap_setCell _ _ _ q (by have := HG1.out; show q ≠ g; omega)).trans (ha.out q hq), hb.out.setCell (p := ⟨g, k, none⟩) HBG.out _, by simp [Hid, World.setCell]; exact hsz.out⟩
      case measure => simp [intOf]; omega
    · have hdec : decide (k < n) = false := by rw [decide_eq_false_iff_not]; exact hlt
      clear hlt ho
      obtain ⟨w4, hw4⟩ : ∃ w4, w4 = wr.alloc (.cells #[.slice none 0 0, .int .i64 0, .bool false] 48) := ⟨_, rfl⟩
      have Z0 : Hid (Zr w4 wr.heap.size) := Lib.hid (by rw [hw4]; exact Bk.new _ _ _)
      have P4 : Hid (WRd w4 p l 0) := Lib.hid (by rw [hw4]; exact (FAR.out wr ha.out).below ((Below.refl _ _).alloc (Nat.le_refl _) _))
      have O4 : Hid (Rb w4 w4.heap.size A2 n2 (l ++ enc x)) := Lib.hid (by rw [hw4]; exact Rb.own ((own_above O2.out ha.out).alloc _))
      have B4 : Hid (Below w.heap.size w w4) := Lib.hid (by rw [hw4]; exact hb.out.alloc hb.out.size _)
      have HW4 := Lib.hid hw4
      clear hw4
      go_wp2_with fail
      rw [← HW4.out]
      refine (nilFail _).mono ?_
      rintro e w' ⟨rfl, rfl⟩
      go_wp2_with fail
      refine (zeroFail _ Z0.out).mono ?_
      rintro e w' ⟨rfl, rfl⟩
      go_wp2_with fail
      refine nilErr.mono ?_
      rintro e w' ⟨rfl, rfl⟩
      go_wp2_with fail
      refine (zeroErr Z0.out).mono ?_
      rintro e w' ⟨rfl, rfl⟩
      go_wp2_with fail
      refine nilEnd.mono ?_
      rintro e w' ⟨rfl, rfl⟩
      go_wp2_with fail
      refine (zeroEnd Z0.out).mono ?_
      rintro e w' ⟨rfl, rfl⟩
      go_wp2_with fail
      refine (nilInt _ _).mono ?_
      rintro e w' ⟨rfl, rfl⟩
      go_wp2_with fail
      refine (zeroText _ Z0.out).mono ?_
      rintro e w' ⟨rfl, rfl⟩
      go_wp2_with fail
      refine nilBool.mono ?_
      rintro e w' ⟨rfl, rfl⟩
      go_wp2_with fail
      refine (zeroLeft Z0.out).mono ?_
      rintro e w' ⟨rfl, rfl⟩
      go_wp2_with fail
      refine (refPutInt_any A n c l w.heap.size w4 x (HR.out.below B4.out) B4.out.size (by have := HN.out; omega) H12.out.1 H12.out.2).mono ?_
      intro e w5 hres
      obtain ⟨A5, n5, c5, rfl, N5, i5, j5, R5, _, hb5⟩ := own_named hres
      clear hres
      have P5 := Lib.hid (P4.out.below hb5.out)
      have O5 := Lib.hid (O4.out.below hb5.out)
      have B5 := Lib.hid (B4.out.trans (hb5.out.mono B4.out.size))
      clear hb5
      go_wp2_with fail
      refine (equal_yes O5.out R5.out (by omega) rfl).mono ?_
      rintro e w6 ⟨rfl, k6, rfl⟩
      obtain ⟨w6, hw6⟩ : ∃ w6, w6 = w5.drewN k6 := ⟨_, rfl⟩
      have hbd : Below w5.heap.size w5 w6 := by rw [hw6]; exact below_drewN (Below.refl _ _) _
      rw [← hw6]
      have P6 := Lib.hid (P5.out.below hbd)
      have B6 := Lib.hid (B5.out.trans (hbd.mono B5.out.size))
      have LP6 : Hid (w.heap.size ≤ p) := Lib.hid (Nat.le_trans B1.out.size LP.out)
      clear hbd hw6
      go_wp2_with fail
      refine (wInt_ok _ _ P6.out).mono ?_
      obtain ⟨y, hy⟩ : ∃ y, y = (intR l (-9223372036854775808) 9223372036854775807).1 := ⟨_, rfl⟩
      rw [← hy]
      rintro e w7 ⟨rfl, hg, _⟩
      have B7 := Lib.hid (below_only B6.out hg B6.out.size LP6.out)
      have HY := Lib.hid hy
      clear hg hy
      go_wp2_with fail
      refine (rOpen_any (HR.out.below B7.out) B7.out.size (by have := HN.out; omega)).mono ?_
      rintro e w8 ⟨q, rfl, hq, hql, hb8⟩
      have Q8 := Lib.hid hq
      have LQ : Hid (w.heap.size ≤ q) := Lib.hid (Nat.le_trans B7.out.size hql)
      have B8 := Lib.hid (B7.out.trans (hb8.mono B7.out.size))
      clear hq hql hb8
      go_wp2_with fail
      refine (rInt_ok _ _ Q8.out).mono ?_
      rw [← HY.out]
      rintro e w9 ⟨rfl, hg, _⟩
      have B9 := Lib.hid (below_only B8.out hg B8.out.size LQ.out)
      clear hg
      go_wp2_with fail
      refine (works_below _ _ B9.out).mono ?_
      rintro e w10 ⟨rfl, hb10⟩
      have B10 := Lib.hid hb10
      clear hb10
      go_wp2
      go_ret
      exact ⟨rfl, B10.out⟩
end Go.Proofs.Ytlhloebpppmgdaa
