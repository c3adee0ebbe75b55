/-
  VtextParses returns true for every input, and its arguments read afterwards as they read before: what it leans on.
-/
import Derived.Test.YtlgmhhimbabkjaaGreatDoorYEVtextParses
import Derived.Test.YtlgmhhimbabkjaaGreatDoorYCVtextParses
import Derived.Test.YtlgmhhimbabkjaaGreatDoorYAVtextParses
import Derived.Test.YtlgmhhimbabkjaaGreatDoorRc
namespace Go.Proofs.YtlgmhhimbabkjaaGreatDoor
open Go.RowKit

theorem Rn.up {w : World} {p : Nat} {s : ByteArray} {i n : Nat} (h : Rn w p s i n) (hn : n < 1000) : Rn (w.setCell ⟨p, 2, none⟩ (.int .i64 ((n : Int) + 1))) p s i (n + 1) := by
  refine ⟨?_, h.2.1, h.2.2.1, hn⟩
  have := h.1.put 2 (.int .i64 ((n : Int) + 1))
  simpa [Sb] using this
theorem sta_num {c : UInt8} (h : sta c = true) (h1 : c.toNat ≠ 110) (h2 : c.toNat ≠ 116) (h3 : c.toNat ≠ 102) (h4 : c.toNat ≠ 34) (h5 : c.toNat ≠ 91) (h6 : c.toNat ≠ 123) : c = 45 ∨ dig c = true := by
  have ne : ∀ x : UInt8, c.toNat ≠ x.toNat → (c == x) = false := fun x hx => beq_eq_false_iff_ne.2 (fun e => hx (by rw [e]))
  unfold sta at h
  rw [ne 110 h1, ne 116 h2, ne 102 h3, ne 34 h4, ne 91 h5, ne 123 h6] at h
  simp only [Bool.false_or, Bool.or_eq_true, beq_iff_eq] at h
  exact h
theorem bod_ne {val : Nat → Nat → PR (VT × Nat)} {l : List UInt8} {c : UInt8} {i n : Nat} (h1 : c.toNat ≠ 110) (h2 : c.toNat ≠ 116) (h3 : c.toNat ≠ 102) (h4 : c.toNat ≠ 34) (h5 : c.toNat ≠ 91) (h6 : c.toNat ≠ 123) :
    bodP val l c i n = (intP l c i).bind fun v j => .ok (.mk 2 v ⟨#[]⟩ [] [], n) j := by
  have ne : ∀ x : UInt8, c.toNat ≠ x.toNat → ¬ c = x := fun x hx e => hx (by rw [e])
  unfold bodP
  rw [if_neg (ne 110 h1), if_neg (ne 116 h2), if_neg (ne 102 h3), if_neg (ne 34 h4), if_neg (ne 91 h5), if_neg (ne 123 h6)]
theorem wrd_first {l : List UInt8} {c : UInt8} {r : List UInt8} {q : Nat} (h : l[q]? = some c) : wrdP l (c :: r) q = wrdP l r (q + 1) := by
  rw [wrdP, tkP_ok h (by simp)]
  rfl

set_option maxRecDepth 100000 in
set_option maxHeartbeats 16000000 in
theorem rv_none {w : World} {p : Nat} {s : ByteArray} {i n q : Nat} {d : Int} {R : PR (VT × Nat)} (h : Rn w p s i n) (hq : q = skip s.data.toList i) (hN : s.data.toList.length ≤ q) (hR : R = .err q 4) :
    Calls Tryz.prog 27 #[.pointer (some ⟨p, 0, none⟩), .int .i64 d] w (RvalR R p s w) := by
  have HP := Lib.hid h
  have hss := h.2.2.1
  have hn := h.2.2.2
  have hpw := h.1.lt
  have HN := Lib.hid hN
  have HE := Lib.hid hR
  clear hN hR
  obtain ⟨rb, hrb⟩ : ∃ rb, rb = w.heap.size := ⟨_, rfl⟩
  have NQ : Hid (rb ≠ p ∧ w.heap.size ≤ rb) := Lib.hid ⟨by omega, by omega⟩
  clear h
  go_enter Tryz.func27, Tryz.ntmps27
  go_upto_region 1 with (fail)
  obtain ⟨w1, hw1⟩ : ∃ w1, w1 = w.alloc (.cells #[.int .i64 0, .int .i64 0, .string ⟨#[]⟩, .slice none 0 0, .slice none 0 0] 25) := ⟨_, rfl⟩
  have KR : Hid (Bk w1 rb 25 #[.int .i64 0, .int .i64 0, .string ⟨#[]⟩, .slice none 0 0, .slice none 0 0]) := Lib.hid (by rw [hrb, hw1]; exact Bk.new _ _ _)
  have B1 : Hid (Below w.heap.size w w1) := Lib.hid (by rw [hw1]; exact (Below.refl _ _).alloc (Nat.le_refl _) _)
  have P1 := Lib.hid (HP.out.frs (FrS.of_below (S := fun _ => False) B1.out) (fun h => h))
  have ZW : Hid (rb < w1.heap.size) := Lib.hid KR.out.lt
  rw [← hw1, ← hrb]
  clear hw1 hrb hpw
  go_wp2_with fail
  refine (rblank_run P1.out).mono ?_
  rintro _ w2 ⟨rfl, hp2, hf2⟩
  have P2 := Lib.hid hp2
  have F2 := Lib.hid hf2
  rw [← hq] at P2
  clear hp2 hf2 hq
  go_wp2_with fail
  refine (rpeek_run P2.out).mono ?_
  rintro _ w3 (⟨c3, hc3, rfl, hd3⟩ | ⟨hn3, rfl, hb3, hf3⟩)
  · have := at_lt hc3
    have := HN.out
    rw [list_len] at this
    omega
  · have HB3 := Lib.hid hb3
    have F3 := Lib.hid (F2.out.trans hf3)
    have ST := Lib.hid (starts_any 0 w3)
    obtain ⟨i9, n9, hb9, hq9, hi0, hi1⟩ := hb3
    have c1 := hb9.cell 1
    have c4 := hb9.cell 4
    have HQ9 := Lib.hid hb9
    clear hb9 hf3 hn3 hq9
    go_wp2_with fail
    refine (ST.out).mono ?_
    rintro _ W ⟨rfl, rfl⟩
    clear ST
    go_wp2_with fail
    refine (fail_bad HQ9.out (by decide) _ 3).mono ?_
    rintro _ W2 ⟨rfl, rfl⟩
    have RBx1 := Lib.hid (F3.out.bk KR.out (fun e => NQ.out.1 e))
    have d0 := RBx1.out.cell 0
    have d1 := RBx1.out.cell 1
    have d2 := RBx1.out.cell 2
    have d3 := RBx1.out.cell 3
    have d4 := RBx1.out.cell 4
    have f0 := RBx1.out.frozen 0
    have f1 := RBx1.out.frozen 1
    have f2 := RBx1.out.frozen 2
    have f3 := RBx1.out.frozen 3
    have f4 := RBx1.out.frozen 4
    go_wp2
    obtain ⟨wz, hwz⟩ : ∃ wz, wz = put5 w3 rb 0 (.int .i64 0) (.int .i64 0) (.string ⟨#[]⟩) (.slice none 0 0) (.slice none 0 0) := ⟨_, rfl⟩
    have QZ : Hid (Bk wz rb 25 #[.int .i64 0, .int .i64 0, .string ⟨#[]⟩, .slice none 0 0, .slice none 0 0]) := Lib.hid (by rw [hwz]; exact put5_bk (t := 25) (cs := #[.int .i64 0, .int .i64 0, .string ⟨#[]⟩, .slice none 0 0, .slice none 0 0]) RBx1.out)
    have GZ : Hid (FrS (One rb) w3 wz) := Lib.hid (by rw [hwz]; exact frs_put5S rfl)
    have FZ : Hid (FrS (One p) w wz) := Lib.hid (by rw [hwz]; exact frs_put5 ((FrS.of_below B1.out).trans F3.out) NQ.out.2)
    change bodyPost _ _ _ _ _ (put5 w3 rb 0 (.int .i64 0) (.int .i64 0) (.string ⟨#[]⟩) (.slice none 0 0) (.slice none 0 0))
    rw [← hwz]
    refine bodyPost_ret (results_cell_row rfl _ _ rb 25 _ (0, 0) _ rfl QZ.out Tryz.underlying25 rfl (by kernel_rfl)) rfl ?_
    refine ⟨FZ, 0, 0, ⟨#[]⟩, none, 0, 0, none, 0, 0, rfl, ?_⟩
    exact .inr ⟨_, _, HE, Lib.hid (HB3.out.frs GZ.out (fun e => NQ.out.1 e.symm))⟩
set_option maxRecDepth 100000 in
set_option maxHeartbeats 16000000 in
theorem rv_start {w : World} {p : Nat} {s : ByteArray} {i n q : Nat} {d : Int} {R : PR (VT × Nat)} (h : Rn w p s i n) (hq : q = skip s.data.toList i) {c : UInt8} (hc : s.data.toList[q]? = some c) (hs : sta c = false) (hR : R = .err q 3) :
    Calls Tryz.prog 27 #[.pointer (some ⟨p, 0, none⟩), .int .i64 d] w (RvalR R p s w) := by
  have HP := Lib.hid h
  have hss := h.2.2.1
  have hn := h.2.2.2
  have hpw := h.1.lt
  have HC := Lib.hid hc
  have HE := Lib.hid hR
  clear hR
  obtain ⟨rb, hrb⟩ : ∃ rb, rb = w.heap.size := ⟨_, rfl⟩
  have NQ : Hid (rb ≠ p ∧ w.heap.size ≤ rb) := Lib.hid ⟨by omega, by omega⟩
  clear h
  go_enter Tryz.func27, Tryz.ntmps27
  go_upto_region 1 with (fail)
  obtain ⟨w1, hw1⟩ : ∃ w1, w1 = w.alloc (.cells #[.int .i64 0, .int .i64 0, .string ⟨#[]⟩, .slice none 0 0, .slice none 0 0] 25) := ⟨_, rfl⟩
  have KR : Hid (Bk w1 rb 25 #[.int .i64 0, .int .i64 0, .string ⟨#[]⟩, .slice none 0 0, .slice none 0 0]) := Lib.hid (by rw [hrb, hw1]; exact Bk.new _ _ _)
  have B1 : Hid (Below w.heap.size w w1) := Lib.hid (by rw [hw1]; exact (Below.refl _ _).alloc (Nat.le_refl _) _)
  have P1 := Lib.hid (HP.out.frs (FrS.of_below (S := fun _ => False) B1.out) (fun h => h))
  have ZW : Hid (rb < w1.heap.size) := Lib.hid KR.out.lt
  rw [← hw1, ← hrb]
  clear hw1 hrb hpw
  go_wp2_with fail
  refine (rblank_run P1.out).mono ?_
  rintro _ w2 ⟨rfl, hp2, hf2⟩
  have P2 := Lib.hid hp2
  have F2 := Lib.hid hf2
  rw [← hq] at P2
  clear hp2 hf2 hq
  go_wp2_with fail
  refine (rpeek_run P2.out).mono ?_
  rintro _ w3 (⟨c3, hc3, rfl, hd3⟩ | ⟨hn3, rfl, hb3, hf3⟩)
  · obtain rfl : c3 = c := by
      rw [HC.out] at hc3
      injection hc3 with hc3
      exact hc3.symm
    have P3 := Lib.hid (P2.out.dr hd3)
    have F3 := Lib.hid (F2.out.trans hd3.frs)
    have hq2 := at_lt hc3
    have hlc : c3.toNat < 256 := c3.toNat_lt
    have hcc : s[q] = c3 := by have := in_at hq2; rw [hc3] at this; injection this with this; exact this.symm
    clear hd3 hc3
    have c1 := P3.out.1.cell 1
    have c2 := P3.out.1.cell 2
    have c4 := P3.out.1.cell 4
    have fz2 := P3.out.1.frozen 2
    have ST := Lib.hid (starts_any c3 w3)
    rw [hs] at ST
    clear hc
    go_wp2_with fail
    refine (ST.out).mono ?_
    rintro _ W ⟨rfl, rfl⟩
    clear ST
    go_wp2_with fail
    refine (fail_run P3.out.1 _ 3).mono ?_
    rintro _ w4 ⟨rfl, hbb, hff⟩
    have HB4 : Hid (Bad w4 p s q 3) := Lib.hid ⟨_, _, hbb, by decide, by omega, by omega⟩
    have F4 := Lib.hid (F3.out.trans hff)
    clear c1 c2 c4 fz2
    have c4 := hbb.cell 4
    clear hbb hff
    have RBx2 := Lib.hid (F4.out.bk KR.out (fun e => NQ.out.1 e))
    have d0 := RBx2.out.cell 0
    have d1 := RBx2.out.cell 1
    have d2 := RBx2.out.cell 2
    have d3 := RBx2.out.cell 3
    have d4 := RBx2.out.cell 4
    have f0 := RBx2.out.frozen 0
    have f1 := RBx2.out.frozen 1
    have f2 := RBx2.out.frozen 2
    have f3 := RBx2.out.frozen 3
    have f4 := RBx2.out.frozen 4
    go_wp2
    obtain ⟨wz, hwz⟩ : ∃ wz, wz = put5 w4 rb 0 (.int .i64 0) (.int .i64 0) (.string ⟨#[]⟩) (.slice none 0 0) (.slice none 0 0) := ⟨_, rfl⟩
    have QZ : Hid (Bk wz rb 25 #[.int .i64 0, .int .i64 0, .string ⟨#[]⟩, .slice none 0 0, .slice none 0 0]) := Lib.hid (by rw [hwz]; exact put5_bk (t := 25) (cs := #[.int .i64 0, .int .i64 0, .string ⟨#[]⟩, .slice none 0 0, .slice none 0 0]) RBx2.out)
    have GZ : Hid (FrS (One rb) w4 wz) := Lib.hid (by rw [hwz]; exact frs_put5S rfl)
    have FZ : Hid (FrS (One p) w wz) := Lib.hid (by rw [hwz]; exact frs_put5 ((FrS.of_below B1.out).trans F4.out) NQ.out.2)
    change bodyPost _ _ _ _ _ (put5 w4 rb 0 (.int .i64 0) (.int .i64 0) (.string ⟨#[]⟩) (.slice none 0 0) (.slice none 0 0))
    rw [← hwz]
    refine bodyPost_ret (results_cell_row rfl _ _ rb 25 _ (0, 0) _ rfl QZ.out Tryz.underlying25 rfl (by kernel_rfl)) rfl ?_
    refine ⟨FZ, 0, 0, ⟨#[]⟩, none, 0, 0, none, 0, 0, rfl, ?_⟩
    exact .inr ⟨_, _, HE, Lib.hid (HB4.out.frs GZ.out (fun e => NQ.out.1 e.symm))⟩
  · rw [List.getElem?_eq_none hn3] at hc
    cases hc
set_option maxRecDepth 100000 in
set_option maxHeartbeats 16000000 in
theorem rv_deep {w : World} {p : Nat} {s : ByteArray} {i n q : Nat} {d : Int} {R : PR (VT × Nat)} (h : Rn w p s i n) (hq : q = skip s.data.toList i) {c : UInt8} (hc : s.data.toList[q]? = some c) (hs : sta c = true) (hd : 16 < d) (hR : R = .err q 7) :
    Calls Tryz.prog 27 #[.pointer (some ⟨p, 0, none⟩), .int .i64 d] w (RvalR R p s w) := by
  have HP := Lib.hid h
  have hss := h.2.2.1
  have hn := h.2.2.2
  have hpw := h.1.lt
  have HC := Lib.hid hc
  have HE := Lib.hid hR
  clear hR
  obtain ⟨rb, hrb⟩ : ∃ rb, rb = w.heap.size := ⟨_, rfl⟩
  have NQ : Hid (rb ≠ p ∧ w.heap.size ≤ rb) := Lib.hid ⟨by omega, by omega⟩
  clear h
  go_enter Tryz.func27, Tryz.ntmps27
  go_upto_region 1 with (fail)
  obtain ⟨w1, hw1⟩ : ∃ w1, w1 = w.alloc (.cells #[.int .i64 0, .int .i64 0, .string ⟨#[]⟩, .slice none 0 0, .slice none 0 0] 25) := ⟨_, rfl⟩
  have KR : Hid (Bk w1 rb 25 #[.int .i64 0, .int .i64 0, .string ⟨#[]⟩, .slice none 0 0, .slice none 0 0]) := Lib.hid (by rw [hrb, hw1]; exact Bk.new _ _ _)
  have B1 : Hid (Below w.heap.size w w1) := Lib.hid (by rw [hw1]; exact (Below.refl _ _).alloc (Nat.le_refl _) _)
  have P1 := Lib.hid (HP.out.frs (FrS.of_below (S := fun _ => False) B1.out) (fun h => h))
  have ZW : Hid (rb < w1.heap.size) := Lib.hid KR.out.lt
  rw [← hw1, ← hrb]
  clear hw1 hrb hpw
  go_wp2_with fail
  refine (rblank_run P1.out).mono ?_
  rintro _ w2 ⟨rfl, hp2, hf2⟩
  have P2 := Lib.hid hp2
  have F2 := Lib.hid hf2
  rw [← hq] at P2
  clear hp2 hf2 hq
  go_wp2_with fail
  refine (rpeek_run P2.out).mono ?_
  rintro _ w3 (⟨c3, hc3, rfl, hd3⟩ | ⟨hn3, rfl, hb3, hf3⟩)
  · obtain rfl : c3 = c := by
      rw [HC.out] at hc3
      injection hc3 with hc3
      exact hc3.symm
    have P3 := Lib.hid (P2.out.dr hd3)
    have F3 := Lib.hid (F2.out.trans hd3.frs)
    have hq2 := at_lt hc3
    have hlc : c3.toNat < 256 := c3.toNat_lt
    have hcc : s[q] = c3 := by have := in_at hq2; rw [hc3] at this; injection this with this; exact this.symm
    clear hd3 hc3
    have c1 := P3.out.1.cell 1
    have c2 := P3.out.1.cell 2
    have c4 := P3.out.1.cell 4
    have fz2 := P3.out.1.frozen 2
    have ST := Lib.hid (starts_any c3 w3)
    rw [hs] at ST
    clear hc
    go_wp2_with fail
    refine (ST.out).mono ?_
    rintro _ W ⟨rfl, rfl⟩
    clear ST
    go_wp2_with fail
    refine (fail_run P3.out.1 _ 7).mono ?_
    rintro _ w4 ⟨rfl, hbb, hff⟩
    have HB4 : Hid (Bad w4 p s q 7) := Lib.hid ⟨_, _, hbb, by decide, by omega, by omega⟩
    have F4 := Lib.hid (F3.out.trans hff)
    clear c1 c2 c4 fz2
    have c4 := hbb.cell 4
    clear hbb hff
    have RBx3 := Lib.hid (F4.out.bk KR.out (fun e => NQ.out.1 e))
    have d0 := RBx3.out.cell 0
    have d1 := RBx3.out.cell 1
    have d2 := RBx3.out.cell 2
    have d3 := RBx3.out.cell 3
    have d4 := RBx3.out.cell 4
    have f0 := RBx3.out.frozen 0
    have f1 := RBx3.out.frozen 1
    have f2 := RBx3.out.frozen 2
    have f3 := RBx3.out.frozen 3
    have f4 := RBx3.out.frozen 4
    go_wp2
    obtain ⟨wz, hwz⟩ : ∃ wz, wz = put5 w4 rb 0 (.int .i64 0) (.int .i64 0) (.string ⟨#[]⟩) (.slice none 0 0) (.slice none 0 0) := ⟨_, rfl⟩
    have QZ : Hid (Bk wz rb 25 #[.int .i64 0, .int .i64 0, .string ⟨#[]⟩, .slice none 0 0, .slice none 0 0]) := Lib.hid (by rw [hwz]; exact put5_bk (t := 25) (cs := #[.int .i64 0, .int .i64 0, .string ⟨#[]⟩, .slice none 0 0, .slice none 0 0]) RBx3.out)
    have GZ : Hid (FrS (One rb) w4 wz) := Lib.hid (by rw [hwz]; exact frs_put5S rfl)
    have FZ : Hid (FrS (One p) w wz) := Lib.hid (by rw [hwz]; exact frs_put5 ((FrS.of_below B1.out).trans F4.out) NQ.out.2)
    change bodyPost _ _ _ _ _ (put5 w4 rb 0 (.int .i64 0) (.int .i64 0) (.string ⟨#[]⟩) (.slice none 0 0) (.slice none 0 0))
    rw [← hwz]
    refine bodyPost_ret (results_cell_row rfl _ _ rb 25 _ (0, 0) _ rfl QZ.out Tryz.underlying25 rfl (by kernel_rfl)) rfl ?_
    refine ⟨FZ, 0, 0, ⟨#[]⟩, none, 0, 0, none, 0, 0, rfl, ?_⟩
    exact .inr ⟨_, _, HE, Lib.hid (HB4.out.frs GZ.out (fun e => NQ.out.1 e.symm))⟩
  · rw [List.getElem?_eq_none hn3] at hc
    cases hc
set_option maxRecDepth 100000 in
set_option maxHeartbeats 16000000 in
theorem rv_many {w : World} {p : Nat} {s : ByteArray} {i n q : Nat} {d : Int} {R : PR (VT × Nat)} (h : Rn w p s i n) (hq : q = skip s.data.toList i) {c : UInt8} (hc : s.data.toList[q]? = some c) (hs : sta c = true) (hd : ¬ 16 < d) (hn1 : 1000 ≤ n) (hR : R = .err q 6) :
    Calls Tryz.prog 27 #[.pointer (some ⟨p, 0, none⟩), .int .i64 d] w (RvalR R p s w) := by
  have HP := Lib.hid h
  have hss := h.2.2.1
  have hn := h.2.2.2
  have hpw := h.1.lt
  have HC := Lib.hid hc
  have HE := Lib.hid hR
  clear hR
  obtain ⟨rb, hrb⟩ : ∃ rb, rb = w.heap.size := ⟨_, rfl⟩
  have NQ : Hid (rb ≠ p ∧ w.heap.size ≤ rb) := Lib.hid ⟨by omega, by omega⟩
  clear h
  go_enter Tryz.func27, Tryz.ntmps27
  go_upto_region 1 with (fail)
  obtain ⟨w1, hw1⟩ : ∃ w1, w1 = w.alloc (.cells #[.int .i64 0, .int .i64 0, .string ⟨#[]⟩, .slice none 0 0, .slice none 0 0] 25) := ⟨_, rfl⟩
  have KR : Hid (Bk w1 rb 25 #[.int .i64 0, .int .i64 0, .string ⟨#[]⟩, .slice none 0 0, .slice none 0 0]) := Lib.hid (by rw [hrb, hw1]; exact Bk.new _ _ _)
  have B1 : Hid (Below w.heap.size w w1) := Lib.hid (by rw [hw1]; exact (Below.refl _ _).alloc (Nat.le_refl _) _)
  have P1 := Lib.hid (HP.out.frs (FrS.of_below (S := fun _ => False) B1.out) (fun h => h))
  have ZW : Hid (rb < w1.heap.size) := Lib.hid KR.out.lt
  rw [← hw1, ← hrb]
  clear hw1 hrb hpw
  go_wp2_with fail
  refine (rblank_run P1.out).mono ?_
  rintro _ w2 ⟨rfl, hp2, hf2⟩
  have P2 := Lib.hid hp2
  have F2 := Lib.hid hf2
  rw [← hq] at P2
  clear hp2 hf2 hq
  go_wp2_with fail
  refine (rpeek_run P2.out).mono ?_
  rintro _ w3 (⟨c3, hc3, rfl, hd3⟩ | ⟨hn3, rfl, hb3, hf3⟩)
  · obtain rfl : c3 = c := by
      rw [HC.out] at hc3
      injection hc3 with hc3
      exact hc3.symm
    have P3 := Lib.hid (P2.out.dr hd3)
    have F3 := Lib.hid (F2.out.trans hd3.frs)
    have hq2 := at_lt hc3
    have hlc : c3.toNat < 256 := c3.toNat_lt
    have hcc : s[q] = c3 := by have := in_at hq2; rw [hc3] at this; injection this with this; exact this.symm
    clear hd3 hc3
    have c1 := P3.out.1.cell 1
    have c2 := P3.out.1.cell 2
    have c4 := P3.out.1.cell 4
    have fz2 := P3.out.1.frozen 2
    have ST := Lib.hid (starts_any c3 w3)
    rw [hs] at ST
    have t1000 : (1000 : Int) ≤ (n : Int) := by omega
    clear hc
    go_wp2_with fail
    refine (ST.out).mono ?_
    rintro _ W ⟨rfl, rfl⟩
    clear ST
    go_wp2_with fail
    refine (fail_run P3.out.1 _ 6).mono ?_
    rintro _ w4 ⟨rfl, hbb, hff⟩
    have HB4 : Hid (Bad w4 p s q 6) := Lib.hid ⟨_, _, hbb, by decide, by omega, by omega⟩
    have F4 := Lib.hid (F3.out.trans hff)
    clear c1 c2 c4 fz2
    have c4 := hbb.cell 4
    clear hbb hff
    have RBx4 := Lib.hid (F4.out.bk KR.out (fun e => NQ.out.1 e))
    have d0 := RBx4.out.cell 0
    have d1 := RBx4.out.cell 1
    have d2 := RBx4.out.cell 2
    have d3 := RBx4.out.cell 3
    have d4 := RBx4.out.cell 4
    have f0 := RBx4.out.frozen 0
    have f1 := RBx4.out.frozen 1
    have f2 := RBx4.out.frozen 2
    have f3 := RBx4.out.frozen 3
    have f4 := RBx4.out.frozen 4
    go_wp2
    obtain ⟨wz, hwz⟩ : ∃ wz, wz = put5 w4 rb 0 (.int .i64 0) (.int .i64 0) (.string ⟨#[]⟩) (.slice none 0 0) (.slice none 0 0) := ⟨_, rfl⟩
    have QZ : Hid (Bk wz rb 25 #[.int .i64 0, .int .i64 0, .string ⟨#[]⟩, .slice none 0 0, .slice none 0 0]) := Lib.hid (by rw [hwz]; exact put5_bk (t := 25) (cs := #[.int .i64 0, .int .i64 0, .string ⟨#[]⟩, .slice none 0 0, .slice none 0 0]) RBx4.out)
    have GZ : Hid (FrS (One rb) w4 wz) := Lib.hid (by rw [hwz]; exact frs_put5S rfl)
    have FZ : Hid (FrS (One p) w wz) := Lib.hid (by rw [hwz]; exact frs_put5 ((FrS.of_below B1.out).trans F4.out) NQ.out.2)
    change bodyPost _ _ _ _ _ (put5 w4 rb 0 (.int .i64 0) (.int .i64 0) (.string ⟨#[]⟩) (.slice none 0 0) (.slice none 0 0))
    rw [← hwz]
    refine bodyPost_ret (results_cell_row rfl _ _ rb 25 _ (0, 0) _ rfl QZ.out Tryz.underlying25 rfl (by kernel_rfl)) rfl ?_
    refine ⟨FZ, 0, 0, ⟨#[]⟩, none, 0, 0, none, 0, 0, rfl, ?_⟩
    exact .inr ⟨_, _, HE, Lib.hid (HB4.out.frs GZ.out (fun e => NQ.out.1 e.symm))⟩
  · rw [List.getElem?_eq_none hn3] at hc
    cases hc
end Go.Proofs.YtlgmhhimbabkjaaGreatDoor
namespace Go.Proofs.YtlgmhhimbabkjaaGreatDoor
open Go.RowKit

set_option maxRecDepth 100000 in
set_option maxHeartbeats 4000000 in
theorem rv_110 {k : Nat} (hv : RvalC k) {w : World} {p : Nat} {s : ByteArray} {i n q : Nat} {d : Int} {R : PR (VT × Nat)} (h : Rn w p s i n) (hq : q = skip s.data.toList i) {c : UInt8} (hc : s.data.toList[q]? = some c) (hs : sta c = true) (hd : d + 1 + (k : Int) = 17) (hd1 : 1 ≤ d) (hn1 : n < 1000) (h110 : c.toNat = 110) (hR : R = bodP (valP s.data.toList k) s.data.toList c (q + 1) (n + 1)) :
    Calls Tryz.prog 27 #[.pointer (some ⟨p, 0, none⟩), .int .i64 d] w (RvalR R p s w) := by
  have HP := Lib.hid h
  have hss := h.2.2.1
  have hn := h.2.2.2
  have hpw := h.1.lt
  have HC := Lib.hid hc
  have HE := Lib.hid hR
  have HVK := Lib.hid hv
  clear hR hv
  have HX110 := Lib.hid h110
  clear h110
  obtain ⟨rb, hrb⟩ : ∃ rb, rb = w.heap.size := ⟨_, rfl⟩
  have NQ : Hid (rb ≠ p ∧ w.heap.size ≤ rb) := Lib.hid ⟨by omega, by omega⟩
  clear h
  go_enter Tryz.func27, Tryz.ntmps27
  go_upto_region 1 with (fail)
  obtain ⟨w1, hw1⟩ : ∃ w1, w1 = w.alloc (.cells #[.int .i64 0, .int .i64 0, .string ⟨#[]⟩, .slice none 0 0, .slice none 0 0] 25) := ⟨_, rfl⟩
  have KR : Hid (Bk w1 rb 25 #[.int .i64 0, .int .i64 0, .string ⟨#[]⟩, .slice none 0 0, .slice none 0 0]) := Lib.hid (by rw [hrb, hw1]; exact Bk.new _ _ _)
  have B1 : Hid (Below w.heap.size w w1) := Lib.hid (by rw [hw1]; exact (Below.refl _ _).alloc (Nat.le_refl _) _)
  have P1 := Lib.hid (HP.out.frs (FrS.of_below (S := fun _ => False) B1.out) (fun h => h))
  have ZW : Hid (rb < w1.heap.size) := Lib.hid KR.out.lt
  rw [← hw1, ← hrb]
  clear hw1 hrb hpw
  go_wp2_with fail
  refine (rblank_run P1.out).mono ?_
  rintro _ w2 ⟨rfl, hp2, hf2⟩
  have P2 := Lib.hid hp2
  have F2 := Lib.hid hf2
  rw [← hq] at P2
  clear hp2 hf2 hq
  go_wp2_with fail
  refine (rpeek_run P2.out).mono ?_
  rintro _ w3 (⟨c3, hc3, rfl, hd3⟩ | ⟨hn3, rfl, hb3, hf3⟩)
  · obtain rfl : c3 = c := by
      rw [HC.out] at hc3
      injection hc3 with hc3
      exact hc3.symm
    have P3 := Lib.hid (P2.out.dr hd3)
    have F3 := Lib.hid (F2.out.trans hd3.frs)
    have hq2 := at_lt hc3
    have hlc : c3.toNat < 256 := c3.toNat_lt
    have hcc : s[q] = c3 := by have := in_at hq2; rw [hc3] at this; injection this with this; exact this.symm
    clear hd3 hc3
    have c1 := P3.out.1.cell 1
    have c2 := P3.out.1.cell 2
    have c4 := P3.out.1.cell 4
    have fz2 := P3.out.1.frozen 2
    have ST := Lib.hid (starts_any c3 w3)
    clear hc
    have t16 : ¬ (16 : Int) < d := by omega
    rw [hs] at ST
    have t1000 : ¬ (1000 : Int) ≤ (n : Int) := by omega
    have hn9 : n + 1 ≤ 1000 := by omega
    have P4 := Lib.hid (P3.out.up (by omega))
    have F4 := Lib.hid (F3.out.trans (FrS.one w3 p 2 (.int .i64 ((n : Int) + 1))))
    go_wp2_with fail
    refine (ST.out).mono ?_
    rintro _ W ⟨rfl, rfl⟩
    clear ST
    go_upto_region 12 with (fail)
    generalize w3.setCell ⟨p, 2, none⟩ (.int .i64 ((n : Int) + 1)) = w4 at *
    clear c1 c2 c4 fz2 t1000
    have h110 := HX110.out
    have HE1 : Hid (R = _) := Lib.hid (HE.out.trans (by unfold bodP; rw [if_pos (UInt8.toNat_inj.1 h110)]))
    have hd9 : d + 1 + (k : Int) = 17 := hd
    have t110 : ((c3.toNat : Int) == 110) = true := by rw [beq_iff_eq]; omega
    have HWF : Hid (wrdP s.data.toList [110, 117, 108, 108] q = wrdP s.data.toList [117, 108, 108] (q + 1)) := Lib.hid (wrd_first (by rw [HC.out, show c3 = 110 from UInt8.toNat_inj.1 h110]))
    have HW := Lib.hid (word_any ⟨#[110, 117, 108, 108]⟩ P4.out (by decide) (by decide))
    clear h110
    clear hd t16
    go_wp2_with fail
    refine (HW.out).mono ?_
    rintro _ w5 ⟨rfl, hf5, hw5⟩
    have F5 := Lib.hid (F4.out.trans hf5)
    have HW5 := Lib.hid hw5
    clear hw5 hf5 HW
    have RBx5 := Lib.hid (F5.out.bk KR.out (fun e => NQ.out.1 e))
    have d0 := RBx5.out.cell 0
    have d1 := RBx5.out.cell 1
    have d2 := RBx5.out.cell 2
    have d3 := RBx5.out.cell 3
    have d4 := RBx5.out.cell 4
    have f0 := RBx5.out.frozen 0
    have f1 := RBx5.out.frozen 1
    have f2 := RBx5.out.frozen 2
    have f3 := RBx5.out.frozen 3
    have f4 := RBx5.out.frozen 4
    go_wp2
    obtain ⟨wz, hwz⟩ : ∃ wz, wz = put5 w5 rb 0 (.int .i64 0) (.int .i64 0) (.string ⟨#[]⟩) (.slice none 0 0) (.slice none 0 0) := ⟨_, rfl⟩
    have QZ : Hid (Bk wz rb 25 #[.int .i64 0, .int .i64 0, .string ⟨#[]⟩, .slice none 0 0, .slice none 0 0]) := Lib.hid (by rw [hwz]; exact put5_bk (t := 25) (cs := #[.int .i64 0, .int .i64 0, .string ⟨#[]⟩, .slice none 0 0, .slice none 0 0]) RBx5.out)
    have GZ : Hid (FrS (One rb) w5 wz) := Lib.hid (by rw [hwz]; exact frs_put5S rfl)
    have FZ : Hid (FrS (One p) w wz) := Lib.hid (by rw [hwz]; exact frs_put5 ((FrS.of_below B1.out).trans F5.out) NQ.out.2)
    change bodyPost _ _ _ _ _ (put5 w5 rb 0 (.int .i64 0) (.int .i64 0) (.string ⟨#[]⟩) (.slice none 0 0) (.slice none 0 0))
    rw [← hwz]
    refine bodyPost_ret (results_cell_row rfl _ _ rb 25 _ (0, 0) _ rfl QZ.out Tryz.underlying25 rfl (by kernel_rfl)) rfl ?_
    refine ⟨FZ, 0, 0, ⟨#[]⟩, none, 0, 0, none, 0, 0, rfl, ?_⟩
    rcases HW5.out with ⟨j, hj, hr⟩ | ⟨j, e, hj, hb⟩
    · have hj2 := HWF.out.symm.trans hj.out
      exact .inl ⟨nullT, n + 1, j, Lib.hid (by rw [HE1.out, hj2]; rfl), Lib.hid (leaf_lies (by decide) (by decide) (by decide)), Lib.hid (hr.frs GZ.out (fun e => NQ.out.1 e.symm))⟩
    · have hj2 := HWF.out.symm.trans hj.out
      exact .inr ⟨j, e, Lib.hid (by rw [HE1.out, hj2]; rfl), Lib.hid (hb.frs GZ.out (fun e => NQ.out.1 e.symm))⟩
  · rw [List.getElem?_eq_none hn3] at hc
    cases hc
set_option maxRecDepth 100000 in
set_option maxHeartbeats 4000000 in
theorem rv_116 {k : Nat} (hv : RvalC k) {w : World} {p : Nat} {s : ByteArray} {i n q : Nat} {d : Int} {R : PR (VT × Nat)} (h : Rn w p s i n) (hq : q = skip s.data.toList i) {c : UInt8} (hc : s.data.toList[q]? = some c) (hs : sta c = true) (hd : d + 1 + (k : Int) = 17) (hd1 : 1 ≤ d) (hn1 : n < 1000) (h116 : c.toNat = 116) (hR : R = bodP (valP s.data.toList k) s.data.toList c (q + 1) (n + 1)) :
    Calls Tryz.prog 27 #[.pointer (some ⟨p, 0, none⟩), .int .i64 d] w (RvalR R p s w) := by
  have HP := Lib.hid h
  have hss := h.2.2.1
  have hn := h.2.2.2
  have hpw := h.1.lt
  have HC := Lib.hid hc
  have HE := Lib.hid hR
  have HVK := Lib.hid hv
  clear hR hv
  have HX116 := Lib.hid h116
  clear h116
  obtain ⟨rb, hrb⟩ : ∃ rb, rb = w.heap.size := ⟨_, rfl⟩
  have NQ : Hid (rb ≠ p ∧ w.heap.size ≤ rb) := Lib.hid ⟨by omega, by omega⟩
  clear h
  go_enter Tryz.func27, Tryz.ntmps27
  go_upto_region 1 with (fail)
  obtain ⟨w1, hw1⟩ : ∃ w1, w1 = w.alloc (.cells #[.int .i64 0, .int .i64 0, .string ⟨#[]⟩, .slice none 0 0, .slice none 0 0] 25) := ⟨_, rfl⟩
  have KR : Hid (Bk w1 rb 25 #[.int .i64 0, .int .i64 0, .string ⟨#[]⟩, .slice none 0 0, .slice none 0 0]) := Lib.hid (by rw [hrb, hw1]; exact Bk.new _ _ _)
  have B1 : Hid (Below w.heap.size w w1) := Lib.hid (by rw [hw1]; exact (Below.refl _ _).alloc (Nat.le_refl _) _)
  have P1 := Lib.hid (HP.out.frs (FrS.of_below (S := fun _ => False) B1.out) (fun h => h))
  have ZW : Hid (rb < w1.heap.size) := Lib.hid KR.out.lt
  rw [← hw1, ← hrb]
  clear hw1 hrb hpw
  go_wp2_with fail
  refine (rblank_run P1.out).mono ?_
  rintro _ w2 ⟨rfl, hp2, hf2⟩
  have P2 := Lib.hid hp2
  have F2 := Lib.hid hf2
  rw [← hq] at P2
  clear hp2 hf2 hq
  go_wp2_with fail
  refine (rpeek_run P2.out).mono ?_
  rintro _ w3 (⟨c3, hc3, rfl, hd3⟩ | ⟨hn3, rfl, hb3, hf3⟩)
  · obtain rfl : c3 = c := by
      rw [HC.out] at hc3
      injection hc3 with hc3
      exact hc3.symm
    have P3 := Lib.hid (P2.out.dr hd3)
    have F3 := Lib.hid (F2.out.trans hd3.frs)
    have hq2 := at_lt hc3
    have hlc : c3.toNat < 256 := c3.toNat_lt
    have hcc : s[q] = c3 := by have := in_at hq2; rw [hc3] at this; injection this with this; exact this.symm
    clear hd3 hc3
    have c1 := P3.out.1.cell 1
    have c2 := P3.out.1.cell 2
    have c4 := P3.out.1.cell 4
    have fz2 := P3.out.1.frozen 2
    have ST := Lib.hid (starts_any c3 w3)
    clear hc
    have t16 : ¬ (16 : Int) < d := by omega
    rw [hs] at ST
    have t1000 : ¬ (1000 : Int) ≤ (n : Int) := by omega
    have hn9 : n + 1 ≤ 1000 := by omega
    have P4 := Lib.hid (P3.out.up (by omega))
    have F4 := Lib.hid (F3.out.trans (FrS.one w3 p 2 (.int .i64 ((n : Int) + 1))))
    go_wp2_with fail
    refine (ST.out).mono ?_
    rintro _ W ⟨rfl, rfl⟩
    clear ST
    go_upto_region 12 with (fail)
    generalize w3.setCell ⟨p, 2, none⟩ (.int .i64 ((n : Int) + 1)) = w4 at *
    clear c1 c2 c4 fz2 t1000
    have h116 := HX116.out
    have h110 : c3.toNat ≠ 110 := by omega
    have HE1 : Hid (R = _) := Lib.hid (HE.out.trans (by unfold bodP; rw [if_neg (by intro e; rw [e] at h110; exact h110 rfl), if_pos (UInt8.toNat_inj.1 h116)]))
    have hd9 : d + 1 + (k : Int) = 17 := hd
    have t110 : ((c3.toNat : Int) == 110) = false := by rw [beq_eq_false_iff_ne]; omega
    have t116 : ((c3.toNat : Int) == 116) = true := by rw [beq_iff_eq]; omega
    have HWF : Hid (wrdP s.data.toList [116, 114, 117, 101] q = wrdP s.data.toList [114, 117, 101] (q + 1)) := Lib.hid (wrd_first (by rw [HC.out, show c3 = 116 from UInt8.toNat_inj.1 h116]))
    have HW := Lib.hid (word_any ⟨#[116, 114, 117, 101]⟩ P4.out (by decide) (by decide))
    clear h110 h116
    clear hd t16
    go_wp2_with fail
    refine (HW.out).mono ?_
    rintro _ w5 ⟨rfl, hf5, hw5⟩
    have F5 := Lib.hid (F4.out.trans hf5)
    have HW5 := Lib.hid hw5
    clear hw5 hf5 HW
    have RBx6 := Lib.hid (F5.out.bk KR.out (fun e => NQ.out.1 e))
    have d0 := RBx6.out.cell 0
    have d1 := RBx6.out.cell 1
    have d2 := RBx6.out.cell 2
    have d3 := RBx6.out.cell 3
    have d4 := RBx6.out.cell 4
    have f0 := RBx6.out.frozen 0
    have f1 := RBx6.out.frozen 1
    have f2 := RBx6.out.frozen 2
    have f3 := RBx6.out.frozen 3
    have f4 := RBx6.out.frozen 4
    go_wp2
    obtain ⟨wz, hwz⟩ : ∃ wz, wz = put5 w5 rb 0 (.int .i64 1) (.int .i64 1) (.string ⟨#[]⟩) (.slice none 0 0) (.slice none 0 0) := ⟨_, rfl⟩
    have QZ : Hid (Bk wz rb 25 #[.int .i64 1, .int .i64 1, .string ⟨#[]⟩, .slice none 0 0, .slice none 0 0]) := Lib.hid (by rw [hwz]; exact put5_bk (t := 25) (cs := #[.int .i64 0, .int .i64 0, .string ⟨#[]⟩, .slice none 0 0, .slice none 0 0]) RBx6.out)
    have GZ : Hid (FrS (One rb) w5 wz) := Lib.hid (by rw [hwz]; exact frs_put5S rfl)
    have FZ : Hid (FrS (One p) w wz) := Lib.hid (by rw [hwz]; exact frs_put5 ((FrS.of_below B1.out).trans F5.out) NQ.out.2)
    change bodyPost _ _ _ _ _ (put5 w5 rb 0 (.int .i64 1) (.int .i64 1) (.string ⟨#[]⟩) (.slice none 0 0) (.slice none 0 0))
    rw [← hwz]
    refine bodyPost_ret (results_cell_row rfl _ _ rb 25 _ (0, 0) _ rfl QZ.out Tryz.underlying25 rfl (by kernel_rfl)) rfl ?_
    refine ⟨FZ, 1, 1, ⟨#[]⟩, none, 0, 0, none, 0, 0, rfl, ?_⟩
    rcases HW5.out with ⟨j, hj, hr⟩ | ⟨j, e, hj, hb⟩
    · have hj2 := HWF.out.symm.trans hj.out
      exact .inl ⟨(.mk 1 1 ⟨#[]⟩ [] []), n + 1, j, Lib.hid (by rw [HE1.out, hj2]; rfl), Lib.hid (leaf_lies (by decide) (by decide) (by decide)), Lib.hid (hr.frs GZ.out (fun e => NQ.out.1 e.symm))⟩
    · have hj2 := HWF.out.symm.trans hj.out
      exact .inr ⟨j, e, Lib.hid (by rw [HE1.out, hj2]; rfl), Lib.hid (hb.frs GZ.out (fun e => NQ.out.1 e.symm))⟩
  · rw [List.getElem?_eq_none hn3] at hc
    cases hc
set_option maxRecDepth 100000 in
set_option maxHeartbeats 4000000 in
theorem rv_102 {k : Nat} (hv : RvalC k) {w : World} {p : Nat} {s : ByteArray} {i n q : Nat} {d : Int} {R : PR (VT × Nat)} (h : Rn w p s i n) (hq : q = skip s.data.toList i) {c : UInt8} (hc : s.data.toList[q]? = some c) (hs : sta c = true) (hd : d + 1 + (k : Int) = 17) (hd1 : 1 ≤ d) (hn1 : n < 1000) (h102 : c.toNat = 102) (hR : R = bodP (valP s.data.toList k) s.data.toList c (q + 1) (n + 1)) :
    Calls Tryz.prog 27 #[.pointer (some ⟨p, 0, none⟩), .int .i64 d] w (RvalR R p s w) := by
  have HP := Lib.hid h
  have hss := h.2.2.1
  have hn := h.2.2.2
  have hpw := h.1.lt
  have HC := Lib.hid hc
  have HE := Lib.hid hR
  have HVK := Lib.hid hv
  clear hR hv
  have HX102 := Lib.hid h102
  clear h102
  obtain ⟨rb, hrb⟩ : ∃ rb, rb = w.heap.size := ⟨_, rfl⟩
  have NQ : Hid (rb ≠ p ∧ w.heap.size ≤ rb) := Lib.hid ⟨by omega, by omega⟩
  clear h
  go_enter Tryz.func27, Tryz.ntmps27
  go_upto_region 1 with (fail)
  obtain ⟨w1, hw1⟩ : ∃ w1, w1 = w.alloc (.cells #[.int .i64 0, .int .i64 0, .string ⟨#[]⟩, .slice none 0 0, .slice none 0 0] 25) := ⟨_, rfl⟩
  have KR : Hid (Bk w1 rb 25 #[.int .i64 0, .int .i64 0, .string ⟨#[]⟩, .slice none 0 0, .slice none 0 0]) := Lib.hid (by rw [hrb, hw1]; exact Bk.new _ _ _)
  have B1 : Hid (Below w.heap.size w w1) := Lib.hid (by rw [hw1]; exact (Below.refl _ _).alloc (Nat.le_refl _) _)
  have P1 := Lib.hid (HP.out.frs (FrS.of_below (S := fun _ => False) B1.out) (fun h => h))
  have ZW : Hid (rb < w1.heap.size) := Lib.hid KR.out.lt
  rw [← hw1, ← hrb]
  clear hw1 hrb hpw
  go_wp2_with fail
  refine (rblank_run P1.out).mono ?_
  rintro _ w2 ⟨rfl, hp2, hf2⟩
  have P2 := Lib.hid hp2
  have F2 := Lib.hid hf2
  rw [← hq] at P2
  clear hp2 hf2 hq
  go_wp2_with fail
  refine (rpeek_run P2.out).mono ?_
  rintro _ w3 (⟨c3, hc3, rfl, hd3⟩ | ⟨hn3, rfl, hb3, hf3⟩)
  · obtain rfl : c3 = c := by
      rw [HC.out] at hc3
      injection hc3 with hc3
      exact hc3.symm
    have P3 := Lib.hid (P2.out.dr hd3)
    have F3 := Lib.hid (F2.out.trans hd3.frs)
    have hq2 := at_lt hc3
    have hlc : c3.toNat < 256 := c3.toNat_lt
    have hcc : s[q] = c3 := by have := in_at hq2; rw [hc3] at this; injection this with this; exact this.symm
    clear hd3 hc3
    have c1 := P3.out.1.cell 1
    have c2 := P3.out.1.cell 2
    have c4 := P3.out.1.cell 4
    have fz2 := P3.out.1.frozen 2
    have ST := Lib.hid (starts_any c3 w3)
    clear hc
    have t16 : ¬ (16 : Int) < d := by omega
    rw [hs] at ST
    have t1000 : ¬ (1000 : Int) ≤ (n : Int) := by omega
    have hn9 : n + 1 ≤ 1000 := by omega
    have P4 := Lib.hid (P3.out.up (by omega))
    have F4 := Lib.hid (F3.out.trans (FrS.one w3 p 2 (.int .i64 ((n : Int) + 1))))
    go_wp2_with fail
    refine (ST.out).mono ?_
    rintro _ W ⟨rfl, rfl⟩
    clear ST
    go_upto_region 12 with (fail)
    generalize w3.setCell ⟨p, 2, none⟩ (.int .i64 ((n : Int) + 1)) = w4 at *
    clear c1 c2 c4 fz2 t1000
    have h102 := HX102.out
    have h110 : c3.toNat ≠ 110 := by omega
    have h116 : c3.toNat ≠ 116 := by omega
    have HE1 : Hid (R = _) := Lib.hid (HE.out.trans (by unfold bodP; rw [if_neg (by intro e; rw [e] at h110; exact h110 rfl), if_neg (by intro e; rw [e] at h116; exact h116 rfl), if_pos (UInt8.toNat_inj.1 h102)]))
    have hd9 : d + 1 + (k : Int) = 17 := hd
    have t110 : ((c3.toNat : Int) == 110) = false := by rw [beq_eq_false_iff_ne]; omega
    have t116 : ((c3.toNat : Int) == 116) = false := by rw [beq_eq_false_iff_ne]; omega
    have t102 : ((c3.toNat : Int) == 102) = true := by rw [beq_iff_eq]; omega
    have HWF : Hid (wrdP s.data.toList [102, 97, 108, 115, 101] q = wrdP s.data.toList [97, 108, 115, 101] (q + 1)) := Lib.hid (wrd_first (by rw [HC.out, show c3 = 102 from UInt8.toNat_inj.1 h102]))
    have HW := Lib.hid (word_any ⟨#[102, 97, 108, 115, 101]⟩ P4.out (by decide) (by decide))
    clear h110 h116 h102
    clear hd t16
    go_wp2_with fail
    refine (HW.out).mono ?_
    rintro _ w5 ⟨rfl, hf5, hw5⟩
    have F5 := Lib.hid (F4.out.trans hf5)
    have HW5 := Lib.hid hw5
    clear hw5 hf5 HW
    have RBx7 := Lib.hid (F5.out.bk KR.out (fun e => NQ.out.1 e))
    have d0 := RBx7.out.cell 0
    have d1 := RBx7.out.cell 1
    have d2 := RBx7.out.cell 2
    have d3 := RBx7.out.cell 3
    have d4 := RBx7.out.cell 4
    have f0 := RBx7.out.frozen 0
    have f1 := RBx7.out.frozen 1
    have f2 := RBx7.out.frozen 2
    have f3 := RBx7.out.frozen 3
    have f4 := RBx7.out.frozen 4
    go_wp2
    obtain ⟨wz, hwz⟩ : ∃ wz, wz = put5 w5 rb 0 (.int .i64 1) (.int .i64 0) (.string ⟨#[]⟩) (.slice none 0 0) (.slice none 0 0) := ⟨_, rfl⟩
    have QZ : Hid (Bk wz rb 25 #[.int .i64 1, .int .i64 0, .string ⟨#[]⟩, .slice none 0 0, .slice none 0 0]) := Lib.hid (by rw [hwz]; exact put5_bk (t := 25) (cs := #[.int .i64 0, .int .i64 0, .string ⟨#[]⟩, .slice none 0 0, .slice none 0 0]) RBx7.out)
    have GZ : Hid (FrS (One rb) w5 wz) := Lib.hid (by rw [hwz]; exact frs_put5S rfl)
    have FZ : Hid (FrS (One p) w wz) := Lib.hid (by rw [hwz]; exact frs_put5 ((FrS.of_below B1.out).trans F5.out) NQ.out.2)
    change bodyPost _ _ _ _ _ (put5 w5 rb 0 (.int .i64 1) (.int .i64 0) (.string ⟨#[]⟩) (.slice none 0 0) (.slice none 0 0))
    rw [← hwz]
    refine bodyPost_ret (results_cell_row rfl _ _ rb 25 _ (0, 0) _ rfl QZ.out Tryz.underlying25 rfl (by kernel_rfl)) rfl ?_
    refine ⟨FZ, 1, 0, ⟨#[]⟩, none, 0, 0, none, 0, 0, rfl, ?_⟩
    rcases HW5.out with ⟨j, hj, hr⟩ | ⟨j, e, hj, hb⟩
    · have hj2 := HWF.out.symm.trans hj.out
      exact .inl ⟨(.mk 1 0 ⟨#[]⟩ [] []), n + 1, j, Lib.hid (by rw [HE1.out, hj2]; rfl), Lib.hid (leaf_lies (by decide) (by decide) (by decide)), Lib.hid (hr.frs GZ.out (fun e => NQ.out.1 e.symm))⟩
    · have hj2 := HWF.out.symm.trans hj.out
      exact .inr ⟨j, e, Lib.hid (by rw [HE1.out, hj2]; rfl), Lib.hid (hb.frs GZ.out (fun e => NQ.out.1 e.symm))⟩
  · rw [List.getElem?_eq_none hn3] at hc
    cases hc
end Go.Proofs.YtlgmhhimbabkjaaGreatDoor
namespace Go.Proofs.YtlgmhhimbabkjaaGreatDoor
open Go.RowKit

set_option maxRecDepth 100000 in
set_option maxHeartbeats 4000000 in
theorem rv_34 {k : Nat} (hv : RvalC k) {w : World} {p : Nat} {s : ByteArray} {i n q : Nat} {d : Int} {R : PR (VT × Nat)} (h : Rn w p s i n) (hq : q = skip s.data.toList i) {c : UInt8} (hc : s.data.toList[q]? = some c) (hs : sta c = true) (hd : d + 1 + (k : Int) = 17) (hd1 : 1 ≤ d) (hn1 : n < 1000) (h34 : c.toNat = 34) (hR : R = bodP (valP s.data.toList k) s.data.toList c (q + 1) (n + 1)) :
    Calls Tryz.prog 27 #[.pointer (some ⟨p, 0, none⟩), .int .i64 d] w (RvalR R p s w) := by
  have HP := Lib.hid h
  have hss := h.2.2.1
  have hn := h.2.2.2
  have hpw := h.1.lt
  have HC := Lib.hid hc
  have HE := Lib.hid hR
  have HVK := Lib.hid hv
  clear hR hv
  have HX34 := Lib.hid h34
  clear h34
  obtain ⟨rb, hrb⟩ : ∃ rb, rb = w.heap.size := ⟨_, rfl⟩
  have NQ : Hid (rb ≠ p ∧ w.heap.size ≤ rb) := Lib.hid ⟨by omega, by omega⟩
  clear h
  go_enter Tryz.func27, Tryz.ntmps27
  go_upto_region 1 with (fail)
  obtain ⟨w1, hw1⟩ : ∃ w1, w1 = w.alloc (.cells #[.int .i64 0, .int .i64 0, .string ⟨#[]⟩, .slice none 0 0, .slice none 0 0] 25) := ⟨_, rfl⟩
  have KR : Hid (Bk w1 rb 25 #[.int .i64 0, .int .i64 0, .string ⟨#[]⟩, .slice none 0 0, .slice none 0 0]) := Lib.hid (by rw [hrb, hw1]; exact Bk.new _ _ _)
  have B1 : Hid (Below w.heap.size w w1) := Lib.hid (by rw [hw1]; exact (Below.refl _ _).alloc (Nat.le_refl _) _)
  have P1 := Lib.hid (HP.out.frs (FrS.of_below (S := fun _ => False) B1.out) (fun h => h))
  have ZW : Hid (rb < w1.heap.size) := Lib.hid KR.out.lt
  rw [← hw1, ← hrb]
  clear hw1 hrb hpw
  go_wp2_with fail
  refine (rblank_run P1.out).mono ?_
  rintro _ w2 ⟨rfl, hp2, hf2⟩
  have P2 := Lib.hid hp2
  have F2 := Lib.hid hf2
  rw [← hq] at P2
  clear hp2 hf2 hq
  go_wp2_with fail
  refine (rpeek_run P2.out).mono ?_
  rintro _ w3 (⟨c3, hc3, rfl, hd3⟩ | ⟨hn3, rfl, hb3, hf3⟩)
  · obtain rfl : c3 = c := by
      rw [HC.out] at hc3
      injection hc3 with hc3
      exact hc3.symm
    have P3 := Lib.hid (P2.out.dr hd3)
    have F3 := Lib.hid (F2.out.trans hd3.frs)
    have hq2 := at_lt hc3
    have hlc : c3.toNat < 256 := c3.toNat_lt
    have hcc : s[q] = c3 := by have := in_at hq2; rw [hc3] at this; injection this with this; exact this.symm
    clear hd3 hc3
    have c1 := P3.out.1.cell 1
    have c2 := P3.out.1.cell 2
    have c4 := P3.out.1.cell 4
    have fz2 := P3.out.1.frozen 2
    have ST := Lib.hid (starts_any c3 w3)
    clear hc
    have t16 : ¬ (16 : Int) < d := by omega
    rw [hs] at ST
    have t1000 : ¬ (1000 : Int) ≤ (n : Int) := by omega
    have hn9 : n + 1 ≤ 1000 := by omega
    have P4 := Lib.hid (P3.out.up (by omega))
    have F4 := Lib.hid (F3.out.trans (FrS.one w3 p 2 (.int .i64 ((n : Int) + 1))))
    go_wp2_with fail
    refine (ST.out).mono ?_
    rintro _ W ⟨rfl, rfl⟩
    clear ST
    go_upto_region 12 with (fail)
    generalize w3.setCell ⟨p, 2, none⟩ (.int .i64 ((n : Int) + 1)) = w4 at *
    clear c1 c2 c4 fz2 t1000
    have h34 := HX34.out
    have h110 : c3.toNat ≠ 110 := by omega
    have h116 : c3.toNat ≠ 116 := by omega
    have h102 : c3.toNat ≠ 102 := by omega
    have HE1 : Hid (R = _) := Lib.hid (HE.out.trans (by unfold bodP; rw [if_neg (by intro e; rw [e] at h110; exact h110 rfl), if_neg (by intro e; rw [e] at h116; exact h116 rfl), if_neg (by intro e; rw [e] at h102; exact h102 rfl), if_pos (UInt8.toNat_inj.1 h34)]))
    have hd9 : d + 1 + (k : Int) = 17 := hd
    have t110 : ((c3.toNat : Int) == 110) = false := by rw [beq_eq_false_iff_ne]; omega
    have t116 : ((c3.toNat : Int) == 116) = false := by rw [beq_eq_false_iff_ne]; omega
    have t102 : ((c3.toNat : Int) == 102) = false := by rw [beq_eq_false_iff_ne]; omega
    have t34 : ((c3.toNat : Int) == 34) = true := by rw [beq_iff_eq]; omega
    have HW := Lib.hid (rliteral_any P4.out hq2)
    have HSZ : Hid (∀ t j, litP s.data.toList (q + 1) = .ok t j → t.size ≤ 4096) := Lib.hid (fun t j h => litP_size h)
    clear h110 h116 h102 h34
    go_wp2_with fail
    refine (HW.out).mono ?_
    rintro e5 w5 hlit
    obtain ⟨tt, rfl, hlit2⟩ : ∃ tt, e5 = .returned (.string tt) ∧ ((∃ j, Hid (litP s.data.toList (q + 1) = .ok tt j) ∧ Rn w5 p s j (n + 1) ∧ FrS (One p) w4 w5) ∨ ∃ a e2, Hid (litP s.data.toList (q + 1) = .err a e2) ∧ Bad w5 p s a e2 ∧ FrS (One p) w4 w5) := by
      rcases hlit with ⟨T, jj, h1, rfl, h2, h3⟩ | ⟨a, e2, T, h1, rfl, h2, h3⟩
      · exact ⟨T, rfl, .inl ⟨jj, h1, h2, h3⟩⟩
      · exact ⟨T, rfl, .inr ⟨a, e2, h1, h2, h3⟩⟩
    have HL5 := Lib.hid hlit2
    have F5 : Hid (FrS (One p) w1 w5) := Lib.hid (by rcases hlit2 with ⟨_, _, _, h⟩ | ⟨_, _, _, _, h⟩ <;> exact F4.out.trans h)
    clear hlit hlit2 HW
    have RBx8 := Lib.hid (F5.out.bk KR.out (fun e => NQ.out.1 e))
    have d0 := RBx8.out.cell 0
    have d1 := RBx8.out.cell 1
    have d2 := RBx8.out.cell 2
    have d3 := RBx8.out.cell 3
    have d4 := RBx8.out.cell 4
    have f0 := RBx8.out.frozen 0
    have f1 := RBx8.out.frozen 1
    have f2 := RBx8.out.frozen 2
    have f3 := RBx8.out.frozen 3
    have f4 := RBx8.out.frozen 4
    go_wp2
    obtain ⟨wz, hwz⟩ : ∃ wz, wz = put5 w5 rb 0 (.int .i64 3) (.int .i64 0) (.string tt) (.slice none 0 0) (.slice none 0 0) := ⟨_, rfl⟩
    have QZ : Hid (Bk wz rb 25 #[.int .i64 3, .int .i64 0, .string tt, .slice none 0 0, .slice none 0 0]) := Lib.hid (by rw [hwz]; exact put5_bk (t := 25) (cs := #[.int .i64 0, .int .i64 0, .string ⟨#[]⟩, .slice none 0 0, .slice none 0 0]) RBx8.out)
    have GZ : Hid (FrS (One rb) w5 wz) := Lib.hid (by rw [hwz]; exact frs_put5S rfl)
    have FZ : Hid (FrS (One p) w wz) := Lib.hid (by rw [hwz]; exact frs_put5 ((FrS.of_below B1.out).trans F5.out) NQ.out.2)
    change bodyPost _ _ _ _ _ (put5 w5 rb 0 (.int .i64 3) (.int .i64 0) (.string tt) (.slice none 0 0) (.slice none 0 0))
    rw [← hwz]
    refine bodyPost_ret (results_cell_row rfl _ _ rb 25 _ (0, 0) _ rfl QZ.out Tryz.underlying25 rfl (by kernel_rfl)) rfl ?_
    refine ⟨FZ, 3, 0, tt, none, 0, 0, none, 0, 0, rfl, ?_⟩
    rcases HL5.out with ⟨j, hj, hr, _⟩ | ⟨j, e, hj, hb, _⟩
    · have hj2 := hj.out
      have hz := HSZ.out _ _ hj2
      exact .inl ⟨.mk 3 0 tt [] [], n + 1, j, Lib.hid (by rw [HE1.out, hj2]; rfl), Lib.hid (leaf_lies (by decide) (by decide) (by omega)), Lib.hid (hr.frs GZ.out (fun e => NQ.out.1 e.symm))⟩
    · have hj2 := hj.out
      exact .inr ⟨j, e, Lib.hid (by rw [HE1.out, hj2]; rfl), Lib.hid (hb.frs GZ.out (fun e => NQ.out.1 e.symm))⟩
  · rw [List.getElem?_eq_none hn3] at hc
    cases hc
end Go.Proofs.YtlgmhhimbabkjaaGreatDoor
namespace Go.Proofs.YtlgmhhimbabkjaaGreatDoor
open Go.RowKit

set_option maxRecDepth 100000 in
set_option maxHeartbeats 4000000 in
theorem rv_91 {k : Nat} (hv : RvalC k) {w : World} {p : Nat} {s : ByteArray} {i n q : Nat} {d : Int} {R : PR (VT × Nat)} (h : Rn w p s i n) (hq : q = skip s.data.toList i) {c : UInt8} (hc : s.data.toList[q]? = some c) (hs : sta c = true) (hd : d + 1 + (k : Int) = 17) (hd1 : 1 ≤ d) (hn1 : n < 1000) (h91 : c.toNat = 91) (hR : R = bodP (valP s.data.toList k) s.data.toList c (q + 1) (n + 1)) :
    Calls Tryz.prog 27 #[.pointer (some ⟨p, 0, none⟩), .int .i64 d] w (RvalR R p s w) := by
  have HP := Lib.hid h
  have hss := h.2.2.1
  have hn := h.2.2.2
  have hpw := h.1.lt
  have HC := Lib.hid hc
  have HE := Lib.hid hR
  have HVK := Lib.hid hv
  clear hR hv
  have HX91 := Lib.hid h91
  clear h91
  obtain ⟨rb, hrb⟩ : ∃ rb, rb = w.heap.size := ⟨_, rfl⟩
  have NQ : Hid (rb ≠ p ∧ w.heap.size ≤ rb) := Lib.hid ⟨by omega, by omega⟩
  clear h
  go_enter Tryz.func27, Tryz.ntmps27
  go_upto_region 1 with (fail)
  obtain ⟨w1, hw1⟩ : ∃ w1, w1 = w.alloc (.cells #[.int .i64 0, .int .i64 0, .string ⟨#[]⟩, .slice none 0 0, .slice none 0 0] 25) := ⟨_, rfl⟩
  have KR : Hid (Bk w1 rb 25 #[.int .i64 0, .int .i64 0, .string ⟨#[]⟩, .slice none 0 0, .slice none 0 0]) := Lib.hid (by rw [hrb, hw1]; exact Bk.new _ _ _)
  have B1 : Hid (Below w.heap.size w w1) := Lib.hid (by rw [hw1]; exact (Below.refl _ _).alloc (Nat.le_refl _) _)
  have P1 := Lib.hid (HP.out.frs (FrS.of_below (S := fun _ => False) B1.out) (fun h => h))
  have ZW : Hid (rb < w1.heap.size) := Lib.hid KR.out.lt
  rw [← hw1, ← hrb]
  clear hw1 hrb hpw
  go_wp2_with fail
  refine (rblank_run P1.out).mono ?_
  rintro _ w2 ⟨rfl, hp2, hf2⟩
  have P2 := Lib.hid hp2
  have F2 := Lib.hid hf2
  rw [← hq] at P2
  clear hp2 hf2 hq
  go_wp2_with fail
  refine (rpeek_run P2.out).mono ?_
  rintro _ w3 (⟨c3, hc3, rfl, hd3⟩ | ⟨hn3, rfl, hb3, hf3⟩)
  · obtain rfl : c3 = c := by
      rw [HC.out] at hc3
      injection hc3 with hc3
      exact hc3.symm
    have P3 := Lib.hid (P2.out.dr hd3)
    have F3 := Lib.hid (F2.out.trans hd3.frs)
    have hq2 := at_lt hc3
    have hlc : c3.toNat < 256 := c3.toNat_lt
    have hcc : s[q] = c3 := by have := in_at hq2; rw [hc3] at this; injection this with this; exact this.symm
    clear hd3 hc3
    have c1 := P3.out.1.cell 1
    have c2 := P3.out.1.cell 2
    have c4 := P3.out.1.cell 4
    have fz2 := P3.out.1.frozen 2
    have ST := Lib.hid (starts_any c3 w3)
    clear hc
    have t16 : ¬ (16 : Int) < d := by omega
    rw [hs] at ST
    have t1000 : ¬ (1000 : Int) ≤ (n : Int) := by omega
    have hn9 : n + 1 ≤ 1000 := by omega
    have P4 := Lib.hid (P3.out.up (by omega))
    have F4 := Lib.hid (F3.out.trans (FrS.one w3 p 2 (.int .i64 ((n : Int) + 1))))
    go_wp2_with fail
    refine (ST.out).mono ?_
    rintro _ W ⟨rfl, rfl⟩
    clear ST
    go_upto_region 12 with (fail)
    generalize w3.setCell ⟨p, 2, none⟩ (.int .i64 ((n : Int) + 1)) = w4 at *
    clear c1 c2 c4 fz2 t1000
    have h91 := HX91.out
    have h110 : c3.toNat ≠ 110 := by omega
    have h116 : c3.toNat ≠ 116 := by omega
    have h102 : c3.toNat ≠ 102 := by omega
    have h34 : c3.toNat ≠ 34 := by omega
    have HE1 : Hid (R = _) := Lib.hid (HE.out.trans (by unfold bodP; rw [if_neg (by intro e; rw [e] at h110; exact h110 rfl), if_neg (by intro e; rw [e] at h116; exact h116 rfl), if_neg (by intro e; rw [e] at h102; exact h102 rfl), if_neg (by intro e; rw [e] at h34; exact h34 rfl), if_pos (UInt8.toNat_inj.1 h91)]))
    have hd9 : d + 1 + (k : Int) = 17 := hd
    have t110 : ((c3.toNat : Int) == 110) = false := by rw [beq_eq_false_iff_ne]; omega
    have t116 : ((c3.toNat : Int) == 116) = false := by rw [beq_eq_false_iff_ne]; omega
    have t102 : ((c3.toNat : Int) == 102) = false := by rw [beq_eq_false_iff_ne]; omega
    have t34 : ((c3.toNat : Int) == 34) = false := by rw [beq_eq_false_iff_ne]; omega
    have t91 : ((c3.toNat : Int) == 91) = true := by rw [beq_iff_eq]; omega
    have HW := Lib.hid (rlist_any HVK.out hd9 (by omega) P4.out hq2)
    rw [← HE1.out] at HW
    clear h110 h116 h102 h34 h91
    go_wp2_with fail
    refine (HW.out).mono ?_
    rintro _ w5 ⟨hf5, k5, i5, t5, A5, m5, c5, A6, m6, c6, rfl, hres⟩
    have F5 := Lib.hid (F4.out.trans hf5.out)
    have HRES := Lib.hid hres
    have G45 : Hid (w1.heap.size ≤ w4.heap.size) := Lib.hid F4.out.size
    clear hres hf5 HW
    have RBx9 := Lib.hid (F5.out.bk KR.out (fun e => NQ.out.1 e))
    have d0 := RBx9.out.cell 0
    have d1 := RBx9.out.cell 1
    have d2 := RBx9.out.cell 2
    have d3 := RBx9.out.cell 3
    have d4 := RBx9.out.cell 4
    have f0 := RBx9.out.frozen 0
    have f1 := RBx9.out.frozen 1
    have f2 := RBx9.out.frozen 2
    have f3 := RBx9.out.frozen 3
    have f4 := RBx9.out.frozen 4
    go_wp2
    obtain ⟨wz, hwz⟩ : ∃ wz, wz = put5 w5 rb 0 (.int .i64 k5) (.int .i64 i5) (.string t5) (.slice A5 m5 c5) (.slice A6 m6 c6) := ⟨_, rfl⟩
    have QZ : Hid (Bk wz rb 25 #[.int .i64 k5, .int .i64 i5, .string t5, .slice A5 m5 c5, .slice A6 m6 c6]) := Lib.hid (by rw [hwz]; exact put5_bk (t := 25) (cs := #[.int .i64 0, .int .i64 0, .string ⟨#[]⟩, .slice none 0 0, .slice none 0 0]) RBx9.out)
    have GZ : Hid (FrS (One rb) w5 wz) := Lib.hid (by rw [hwz]; exact frs_put5S rfl)
    have FZ : Hid (FrS (One p) w wz) := Lib.hid (by rw [hwz]; exact frs_put5 ((FrS.of_below B1.out).trans F5.out) NQ.out.2)
    change bodyPost _ _ _ _ _ (put5 w5 rb 0 (.int .i64 k5) (.int .i64 i5) (.string t5) (.slice A5 m5 c5) (.slice A6 m6 c6))
    rw [← hwz]
    refine bodyPost_ret (results_cell_row rfl _ _ rb 25 _ (0, 0) _ rfl QZ.out Tryz.underlying25 rfl (by kernel_rfl)) rfl ?_
    refine ⟨FZ, k5, i5, t5, A5, m5, c5, A6, m6, c6, rfl, ?_⟩
    rcases HRES.out with ⟨y, n5, j5, h5, hl5, hr5⟩ | ⟨j5, e5, h5, hb5⟩
    · exact .inl ⟨y, n5, j5, h5, Lib.hid (hl5.out.keep (fun a ha => GZ.out.cell ha.2 (fun e => by have e2 : a.block = rb := e; have := ha.1; have := ZW.out; have := G45.out; omega)) (fun b hb => ⟨by have := hb.1; have := B1.out.size; have := G45.out; omega, Nat.lt_of_lt_of_le hb.2 GZ.out.size⟩)), Lib.hid (hr5.out.frs GZ.out (fun e => NQ.out.1 e.symm))⟩
    · exact .inr ⟨j5, e5, h5, Lib.hid (hb5.out.frs GZ.out (fun e => NQ.out.1 e.symm))⟩
  · rw [List.getElem?_eq_none hn3] at hc
    cases hc
set_option maxRecDepth 100000 in
set_option maxHeartbeats 4000000 in
theorem rv_123 {k : Nat} (hv : RvalC k) {w : World} {p : Nat} {s : ByteArray} {i n q : Nat} {d : Int} {R : PR (VT × Nat)} (h : Rn w p s i n) (hq : q = skip s.data.toList i) {c : UInt8} (hc : s.data.toList[q]? = some c) (hs : sta c = true) (hd : d + 1 + (k : Int) = 17) (hd1 : 1 ≤ d) (hn1 : n < 1000) (h123 : c.toNat = 123) (hR : R = bodP (valP s.data.toList k) s.data.toList c (q + 1) (n + 1)) :
    Calls Tryz.prog 27 #[.pointer (some ⟨p, 0, none⟩), .int .i64 d] w (RvalR R p s w) := by
  have HP := Lib.hid h
  have hss := h.2.2.1
  have hn := h.2.2.2
  have hpw := h.1.lt
  have HC := Lib.hid hc
  have HE := Lib.hid hR
  have HVK := Lib.hid hv
  clear hR hv
  have HX123 := Lib.hid h123
  clear h123
  obtain ⟨rb, hrb⟩ : ∃ rb, rb = w.heap.size := ⟨_, rfl⟩
  have NQ : Hid (rb ≠ p ∧ w.heap.size ≤ rb) := Lib.hid ⟨by omega, by omega⟩
  clear h
  go_enter Tryz.func27, Tryz.ntmps27
  go_upto_region 1 with (fail)
  obtain ⟨w1, hw1⟩ : ∃ w1, w1 = w.alloc (.cells #[.int .i64 0, .int .i64 0, .string ⟨#[]⟩, .slice none 0 0, .slice none 0 0] 25) := ⟨_, rfl⟩
  have KR : Hid (Bk w1 rb 25 #[.int .i64 0, .int .i64 0, .string ⟨#[]⟩, .slice none 0 0, .slice none 0 0]) := Lib.hid (by rw [hrb, hw1]; exact Bk.new _ _ _)
  have B1 : Hid (Below w.heap.size w w1) := Lib.hid (by rw [hw1]; exact (Below.refl _ _).alloc (Nat.le_refl _) _)
  have P1 := Lib.hid (HP.out.frs (FrS.of_below (S := fun _ => False) B1.out) (fun h => h))
  have ZW : Hid (rb < w1.heap.size) := Lib.hid KR.out.lt
  rw [← hw1, ← hrb]
  clear hw1 hrb hpw
  go_wp2_with fail
  refine (rblank_run P1.out).mono ?_
  rintro _ w2 ⟨rfl, hp2, hf2⟩
  have P2 := Lib.hid hp2
  have F2 := Lib.hid hf2
  rw [← hq] at P2
  clear hp2 hf2 hq
  go_wp2_with fail
  refine (rpeek_run P2.out).mono ?_
  rintro _ w3 (⟨c3, hc3, rfl, hd3⟩ | ⟨hn3, rfl, hb3, hf3⟩)
  · obtain rfl : c3 = c := by
      rw [HC.out] at hc3
      injection hc3 with hc3
      exact hc3.symm
    have P3 := Lib.hid (P2.out.dr hd3)
    have F3 := Lib.hid (F2.out.trans hd3.frs)
    have hq2 := at_lt hc3
    have hlc : c3.toNat < 256 := c3.toNat_lt
    have hcc : s[q] = c3 := by have := in_at hq2; rw [hc3] at this; injection this with this; exact this.symm
    clear hd3 hc3
    have c1 := P3.out.1.cell 1
    have c2 := P3.out.1.cell 2
    have c4 := P3.out.1.cell 4
    have fz2 := P3.out.1.frozen 2
    have ST := Lib.hid (starts_any c3 w3)
    clear hc
    have t16 : ¬ (16 : Int) < d := by omega
    rw [hs] at ST
    have t1000 : ¬ (1000 : Int) ≤ (n : Int) := by omega
    have hn9 : n + 1 ≤ 1000 := by omega
    have P4 := Lib.hid (P3.out.up (by omega))
    have F4 := Lib.hid (F3.out.trans (FrS.one w3 p 2 (.int .i64 ((n : Int) + 1))))
    go_wp2_with fail
    refine (ST.out).mono ?_
    rintro _ W ⟨rfl, rfl⟩
    clear ST
    go_upto_region 12 with (fail)
    generalize w3.setCell ⟨p, 2, none⟩ (.int .i64 ((n : Int) + 1)) = w4 at *
    clear c1 c2 c4 fz2 t1000
    have h123 := HX123.out
    have h110 : c3.toNat ≠ 110 := by omega
    have h116 : c3.toNat ≠ 116 := by omega
    have h102 : c3.toNat ≠ 102 := by omega
    have h34 : c3.toNat ≠ 34 := by omega
    have h91 : c3.toNat ≠ 91 := by omega
    have HE1 : Hid (R = _) := Lib.hid (HE.out.trans (by unfold bodP; rw [if_neg (by intro e; rw [e] at h110; exact h110 rfl), if_neg (by intro e; rw [e] at h116; exact h116 rfl), if_neg (by intro e; rw [e] at h102; exact h102 rfl), if_neg (by intro e; rw [e] at h34; exact h34 rfl), if_neg (by intro e; rw [e] at h91; exact h91 rfl), if_pos (UInt8.toNat_inj.1 h123)]))
    have hd9 : d + 1 + (k : Int) = 17 := hd
    have t110 : ((c3.toNat : Int) == 110) = false := by rw [beq_eq_false_iff_ne]; omega
    have t116 : ((c3.toNat : Int) == 116) = false := by rw [beq_eq_false_iff_ne]; omega
    have t102 : ((c3.toNat : Int) == 102) = false := by rw [beq_eq_false_iff_ne]; omega
    have t34 : ((c3.toNat : Int) == 34) = false := by rw [beq_eq_false_iff_ne]; omega
    have t91 : ((c3.toNat : Int) == 91) = false := by rw [beq_eq_false_iff_ne]; omega
    have t123 : ((c3.toNat : Int) == 123) = true := by rw [beq_iff_eq]; omega
    have HW := Lib.hid (robj_any HVK.out hd9 (by omega) P4.out hq2)
    rw [← HE1.out] at HW
    clear h110 h116 h102 h34 h91 h123
    go_wp2_with fail
    refine (HW.out).mono ?_
    rintro _ w5 ⟨hf5, k5, i5, t5, A5, m5, c5, A6, m6, c6, rfl, hres⟩
    have F5 := Lib.hid (F4.out.trans hf5.out)
    have HRES := Lib.hid hres
    have G45 : Hid (w1.heap.size ≤ w4.heap.size) := Lib.hid F4.out.size
    clear hres hf5 HW
    have RBx10 := Lib.hid (F5.out.bk KR.out (fun e => NQ.out.1 e))
    have d0 := RBx10.out.cell 0
    have d1 := RBx10.out.cell 1
    have d2 := RBx10.out.cell 2
    have d3 := RBx10.out.cell 3
    have d4 := RBx10.out.cell 4
    have f0 := RBx10.out.frozen 0
    have f1 := RBx10.out.frozen 1
    have f2 := RBx10.out.frozen 2
    have f3 := RBx10.out.frozen 3
    have f4 := RBx10.out.frozen 4
    go_wp2
    obtain ⟨wz, hwz⟩ : ∃ wz, wz = put5 w5 rb 0 (.int .i64 k5) (.int .i64 i5) (.string t5) (.slice A5 m5 c5) (.slice A6 m6 c6) := ⟨_, rfl⟩
    have QZ : Hid (Bk wz rb 25 #[.int .i64 k5, .int .i64 i5, .string t5, .slice A5 m5 c5, .slice A6 m6 c6]) := Lib.hid (by rw [hwz]; exact put5_bk (t := 25) (cs := #[.int .i64 0, .int .i64 0, .string ⟨#[]⟩, .slice none 0 0, .slice none 0 0]) RBx10.out)
    have GZ : Hid (FrS (One rb) w5 wz) := Lib.hid (by rw [hwz]; exact frs_put5S rfl)
    have FZ : Hid (FrS (One p) w wz) := Lib.hid (by rw [hwz]; exact frs_put5 ((FrS.of_below B1.out).trans F5.out) NQ.out.2)
    change bodyPost _ _ _ _ _ (put5 w5 rb 0 (.int .i64 k5) (.int .i64 i5) (.string t5) (.slice A5 m5 c5) (.slice A6 m6 c6))
    rw [← hwz]
    refine bodyPost_ret (results_cell_row rfl _ _ rb 25 _ (0, 0) _ rfl QZ.out Tryz.underlying25 rfl (by kernel_rfl)) rfl ?_
    refine ⟨FZ, k5, i5, t5, A5, m5, c5, A6, m6, c6, rfl, ?_⟩
    rcases HRES.out with ⟨y, n5, j5, h5, hl5, hr5⟩ | ⟨j5, e5, h5, hb5⟩
    · exact .inl ⟨y, n5, j5, h5, Lib.hid (hl5.out.keep (fun a ha => GZ.out.cell ha.2 (fun e => by have e2 : a.block = rb := e; have := ha.1; have := ZW.out; have := G45.out; omega)) (fun b hb => ⟨by have := hb.1; have := B1.out.size; have := G45.out; omega, Nat.lt_of_lt_of_le hb.2 GZ.out.size⟩)), Lib.hid (hr5.out.frs GZ.out (fun e => NQ.out.1 e.symm))⟩
    · exact .inr ⟨j5, e5, h5, Lib.hid (hb5.out.frs GZ.out (fun e => NQ.out.1 e.symm))⟩
  · rw [List.getElem?_eq_none hn3] at hc
    cases hc
set_option maxRecDepth 100000 in
set_option maxHeartbeats 4000000 in
theorem rv_num {k : Nat} (hv : RvalC k) {w : World} {p : Nat} {s : ByteArray} {i n q : Nat} {d : Int} {R : PR (VT × Nat)} (h : Rn w p s i n) (hq : q = skip s.data.toList i) {c : UInt8} (hc : s.data.toList[q]? = some c) (hs : sta c = true) (hd : d + 1 + (k : Int) = 17) (hd1 : 1 ≤ d) (hn1 : n < 1000) (h110 : c.toNat ≠ 110) (h116 : c.toNat ≠ 116) (h102 : c.toNat ≠ 102) (h34 : c.toNat ≠ 34) (h91 : c.toNat ≠ 91) (h123 : c.toNat ≠ 123) (hR : R = bodP (valP s.data.toList k) s.data.toList c (q + 1) (n + 1)) :
    Calls Tryz.prog 27 #[.pointer (some ⟨p, 0, none⟩), .int .i64 d] w (RvalR R p s w) := by
  have HP := Lib.hid h
  have hss := h.2.2.1
  have hn := h.2.2.2
  have hpw := h.1.lt
  have HC := Lib.hid hc
  have HE := Lib.hid hR
  have HVK := Lib.hid hv
  clear hR hv
  have HX110 := Lib.hid h110
  have HX116 := Lib.hid h116
  have HX102 := Lib.hid h102
  have HX34 := Lib.hid h34
  have HX91 := Lib.hid h91
  have HX123 := Lib.hid h123
  clear h110 h116 h102 h34 h91 h123
  obtain ⟨rb, hrb⟩ : ∃ rb, rb = w.heap.size := ⟨_, rfl⟩
  have NQ : Hid (rb ≠ p ∧ w.heap.size ≤ rb) := Lib.hid ⟨by omega, by omega⟩
  clear h
  go_enter Tryz.func27, Tryz.ntmps27
  go_upto_region 1 with (fail)
  obtain ⟨w1, hw1⟩ : ∃ w1, w1 = w.alloc (.cells #[.int .i64 0, .int .i64 0, .string ⟨#[]⟩, .slice none 0 0, .slice none 0 0] 25) := ⟨_, rfl⟩
  have KR : Hid (Bk w1 rb 25 #[.int .i64 0, .int .i64 0, .string ⟨#[]⟩, .slice none 0 0, .slice none 0 0]) := Lib.hid (by rw [hrb, hw1]; exact Bk.new _ _ _)
  have B1 : Hid (Below w.heap.size w w1) := Lib.hid (by rw [hw1]; exact (Below.refl _ _).alloc (Nat.le_refl _) _)
  have P1 := Lib.hid (HP.out.frs (FrS.of_below (S := fun _ => False) B1.out) (fun h => h))
  have ZW : Hid (rb < w1.heap.size) := Lib.hid KR.out.lt
  rw [← hw1, ← hrb]
  clear hw1 hrb hpw
  go_wp2_with fail
  refine (rblank_run P1.out).mono ?_
  rintro _ w2 ⟨rfl, hp2, hf2⟩
  have P2 := Lib.hid hp2
  have F2 := Lib.hid hf2
  rw [← hq] at P2
  clear hp2 hf2 hq
  go_wp2_with fail
  refine (rpeek_run P2.out).mono ?_
  rintro _ w3 (⟨c3, hc3, rfl, hd3⟩ | ⟨hn3, rfl, hb3, hf3⟩)
  · obtain rfl : c3 = c := by
      rw [HC.out] at hc3
      injection hc3 with hc3
      exact hc3.symm
    have P3 := Lib.hid (P2.out.dr hd3)
    have F3 := Lib.hid (F2.out.trans hd3.frs)
    have hq2 := at_lt hc3
    have hlc : c3.toNat < 256 := c3.toNat_lt
    have hcc : s[q] = c3 := by have := in_at hq2; rw [hc3] at this; injection this with this; exact this.symm
    clear hd3 hc3
    have c1 := P3.out.1.cell 1
    have c2 := P3.out.1.cell 2
    have c4 := P3.out.1.cell 4
    have fz2 := P3.out.1.frozen 2
    have ST := Lib.hid (starts_any c3 w3)
    clear hc
    have t16 : ¬ (16 : Int) < d := by omega
    rw [hs] at ST
    have t1000 : ¬ (1000 : Int) ≤ (n : Int) := by omega
    have hn9 : n + 1 ≤ 1000 := by omega
    have P4 := Lib.hid (P3.out.up (by omega))
    have F4 := Lib.hid (F3.out.trans (FrS.one w3 p 2 (.int .i64 ((n : Int) + 1))))
    go_wp2_with fail
    refine (ST.out).mono ?_
    rintro _ W ⟨rfl, rfl⟩
    clear ST
    go_upto_region 12 with (fail)
    generalize w3.setCell ⟨p, 2, none⟩ (.int .i64 ((n : Int) + 1)) = w4 at *
    clear c1 c2 c4 fz2 t1000
    have h110 := HX110.out
    have h116 := HX116.out
    have h102 := HX102.out
    have h34 := HX34.out
    have h91 := HX91.out
    have h123 := HX123.out
    have HE1 : Hid (R = _) := Lib.hid (HE.out.trans (bod_ne h110 h116 h102 h34 h91 h123))
    have HNU := Lib.hid (number_any P4.out hq2 (by rw [hcc]; exact sta_num hs h110 h116 h102 h34 h91 h123))
    rw [hcc] at HNU
    have HIB : Hid (∀ v j, intP s.data.toList c3 (q + 1) = .ok v j → -9223372036854775808 ≤ v ∧ v ≤ 9223372036854775807) := Lib.hid (fun v j h => intP_bounds h)
    have t110 : ((c3.toNat : Int) == 110) = false := by rw [beq_eq_false_iff_ne]; omega
    have t116 : ((c3.toNat : Int) == 116) = false := by rw [beq_eq_false_iff_ne]; omega
    have t102 : ((c3.toNat : Int) == 102) = false := by rw [beq_eq_false_iff_ne]; omega
    have t34 : ((c3.toNat : Int) == 34) = false := by rw [beq_eq_false_iff_ne]; omega
    have t91 : ((c3.toNat : Int) == 91) = false := by rw [beq_eq_false_iff_ne]; omega
    have t123 : ((c3.toNat : Int) == 123) = false := by rw [beq_eq_false_iff_ne]; omega
    clear h110 h116 h102 h34 h91 h123
    go_wp2_with fail
    refine (HNU.out).mono ?_
    rintro e5 w5 ⟨hf5, hnum⟩
    have F5 := Lib.hid (F4.out.trans hf5.out)
    obtain ⟨k5, v5, rfl, hnum2⟩ : ∃ k5 v5 : Int, e5 = .returned (.agg #[.int .i64 k5, .int .i64 v5, .string ⟨#[]⟩, .slice none 0 0, .slice none 0 0]) ∧ ((∃ j, intP s.data.toList c3 (q + 1) = .ok v5 j ∧ k5 = 2 ∧ Rn w5 p s j (n + 1)) ∨ ∃ j e, intP s.data.toList c3 (q + 1) = .err j e ∧ Bad w5 p s j e) := by
      rcases hnum with ⟨v, j, h1, rfl, h2⟩ | ⟨j, e, h1, rfl, h2⟩
      · exact ⟨2, v, rfl, .inl ⟨j, h1.out, rfl, h2.out⟩⟩
      · exact ⟨0, 0, rfl, .inr ⟨j, e, h1.out, h2.out⟩⟩
    have HN5 := Lib.hid hnum2
    clear hnum hnum2 hf5 HNU
    have RBx11 := Lib.hid (F5.out.bk KR.out (fun e => NQ.out.1 e))
    have d0 := RBx11.out.cell 0
    have d1 := RBx11.out.cell 1
    have d2 := RBx11.out.cell 2
    have d3 := RBx11.out.cell 3
    have d4 := RBx11.out.cell 4
    have f0 := RBx11.out.frozen 0
    have f1 := RBx11.out.frozen 1
    have f2 := RBx11.out.frozen 2
    have f3 := RBx11.out.frozen 3
    have f4 := RBx11.out.frozen 4
    go_wp2
    obtain ⟨wz, hwz⟩ : ∃ wz, wz = put5 w5 rb 0 (.int .i64 k5) (.int .i64 v5) (.string ⟨#[]⟩) (.slice none 0 0) (.slice none 0 0) := ⟨_, rfl⟩
    have QZ : Hid (Bk wz rb 25 #[.int .i64 k5, .int .i64 v5, .string ⟨#[]⟩, .slice none 0 0, .slice none 0 0]) := Lib.hid (by rw [hwz]; exact put5_bk (t := 25) (cs := #[.int .i64 0, .int .i64 0, .string ⟨#[]⟩, .slice none 0 0, .slice none 0 0]) RBx11.out)
    have GZ : Hid (FrS (One rb) w5 wz) := Lib.hid (by rw [hwz]; exact frs_put5S rfl)
    have FZ : Hid (FrS (One p) w wz) := Lib.hid (by rw [hwz]; exact frs_put5 ((FrS.of_below B1.out).trans F5.out) NQ.out.2)
    change bodyPost _ _ _ _ _ (put5 w5 rb 0 (.int .i64 k5) (.int .i64 v5) (.string ⟨#[]⟩) (.slice none 0 0) (.slice none 0 0))
    rw [← hwz]
    refine bodyPost_ret (results_cell_row rfl _ _ rb 25 _ (0, 0) _ rfl QZ.out Tryz.underlying25 rfl (by kernel_rfl)) rfl ?_
    refine ⟨FZ, k5, v5, ⟨#[]⟩, none, 0, 0, none, 0, 0, rfl, ?_⟩
    rcases HN5.out with ⟨j, hj, rfl, hr⟩ | ⟨j, e, hj, hb⟩
    · have hz := HIB.out _ _ hj
      exact .inl ⟨.mk 2 v5 ⟨#[]⟩ [] [], n + 1, j, Lib.hid (by rw [HE1.out, hj]; rfl), Lib.hid (leaf_lies (by decide) hz (by decide)), Lib.hid (hr.frs GZ.out (fun e => NQ.out.1 e.symm))⟩
    · exact .inr ⟨j, e, Lib.hid (by rw [HE1.out, hj]; rfl), Lib.hid (hb.frs GZ.out (fun e => NQ.out.1 e.symm))⟩
  · rw [List.getElem?_eq_none hn3] at hc
    cases hc
end Go.Proofs.YtlgmhhimbabkjaaGreatDoor
namespace Go.Proofs.YtlgmhhimbabkjaaGreatDoor
open Go.RowKit

theorem results_ref {w : World} {tmps : Array Value} {q0 : Nat} {a b c d e x y : Value} (h2 : tmps.getD 2 undef = .pointer (some ⟨q0, 0, none⟩)) (h3 : tmps.getD 3 undef = x) (h4 : tmps.getD 4 undef = y)
    (hq0 : Bk w q0 25 #[a, b, c, d, e]) :
    (results Tryz.f14 tmps).run Tryz.prog w = .ok (.tuple #[.agg #[a, b, c, d, e], x, y]) w := by
  have e0 := run_loadVar_row (P := Tryz.prog) w q0 25 25 #[a, b, c, d, e] (0, 0) _ hq0 Tryz.underlying25 rfl (by kernel_rfl)
  simp only [Array.getD_eq_getD_getElem?] at h2 h3 h4
  simp [results, h2, h3, h4, asAddr, e0]

set_option maxRecDepth 100000 in
set_option maxHeartbeats 8000000 in
theorem rParse_of (hV : RvalC 16) (s : ByteArray) (w : World) (hs : s.size ≤ 1000000) :
    Calls Tryz.prog 14 #[.string s] w (ParR (parP s.data.toList) w) := by
  have HV := Lib.hid hV
  clear hV
  go_enter Tryz.func14, Tryz.ntmps14
  go_wp2_with fail
  obtain ⟨w1, hw1⟩ : ∃ w1, w1 = w.alloc (.cells #[.int .i64 0, .int .i64 0, .string ⟨#[]⟩, .slice none 0 0, .slice none 0 0] 25) := ⟨_, rfl⟩
  obtain ⟨w2, hw2⟩ : ∃ w2, w2 = w1.alloc (.cells #[.string s, .int .i64 0, .int .i64 0, .int .i64 0, .int .i64 0] 53) := ⟨_, rfl⟩
  have z1 : w1.heap.size = w.heap.size + 1 := by rw [hw1, World.size_alloc]
  have z2 : w2.heap.size = w.heap.size + 1 + 1 := by rw [hw2, World.size_alloc, z1]
  have B2 : Hid (Below w.heap.size w w2) := Lib.hid (by rw [hw2, hw1]; exact ((Below.refl _ _).alloc (Nat.le_refl _) _).alloc (by simp) _)
  have K0 : Hid (Bk w2 w.heap.size 25 #[.int .i64 0, .int .i64 0, .string ⟨#[]⟩, .slice none 0 0, .slice none 0 0]) := Lib.hid (by rw [hw2, hw1]; exact (Bk.new w _ _).alloc _)
  have P2 : Hid (Rn w2 (w.heap.size + 1) s 0 0) := Lib.hid ⟨by rw [← z1, hw2]; exact Bk.new w1 _ _, Nat.zero_le _, hs, by omega⟩
  have Z2 := Lib.hid z2
  rw [← hw1, ← hw2]
  clear hw1 hw2 z1 z2
  refine (HV.out w2 (w.heap.size + 1) s 0 0 1 (by omega) (by omega) P2.out).mono ?_
  rintro _ w3 ⟨hf3, k5, i5, t5, A5, m5, c5, A6, m6, c6, rfl, hres⟩
  have F3 : Hid (FrS (fun b => w.heap.size ≤ b) w w3) := Lib.hid ((FrS.of_below (S := fun b => w.heap.size ≤ b) B2.out).next hf3.out (fun i _ h => by have e2 : i = w.heap.size + 1 := h; omega))
  have L0 := Lib.hid (hf3.out.bk K0.out (fun e => by have e2 : w.heap.size = w.heap.size + 1 := e; omega))
  have HRES := Lib.hid hres
  have Z3 := Lib.hid hf3.out.size
  clear hres
  go_upto_region 3 with (fail)
  obtain ⟨w4, hw4⟩ : ∃ w4, w4 = w3.alloc (.cells #[.int .i64 k5, .int .i64 i5, .string t5, .slice A5 m5 c5, .slice A6 m6 c6] 25) := ⟨_, rfl⟩
  have A4 : Hid (FrS (fun _ => False) w3 w4) := Lib.hid (by rw [hw4]; exact FrS.of_below ((Below.refl _ _).alloc (Nat.le_refl _) _))
  have F4 : Hid (FrS (fun b => w.heap.size ≤ b) w w4) := Lib.hid (F3.out.next A4.out (fun i _ h => h.elim))
  have N4 := Lib.hid (A4.out.bk L0.out (fun h => h))
  have V4 : Hid (Bk w4 w3.heap.size 25 #[.int .i64 k5, .int .i64 i5, .string t5, .slice A5 m5 c5, .slice A6 m6 c6]) := Lib.hid (by rw [hw4]; exact Bk.new _ _ _)
  have NV : Hid (w3.heap.size ≠ w.heap.size + 1) := Lib.hid (by have := Z2.out; have := Z3.out; omega)
  rw [← hw4]
  clear hw4
  rcases HRES.out with ⟨x, n5, j5, hr5, hl5, hp5⟩ | ⟨j5, q5, hr5, hb5⟩
  · have P4 := Lib.hid (hp5.out.frs A4.out (fun h => h))
    have LX4 : Hid (Lies w4 (New w2 w4) x (.agg #[.int .i64 k5, .int .i64 i5, .string t5, .slice A5 m5 c5, .slice A6 m6 c6])) := Lib.hid (hl5.out.keep (fun q hq => A4.out.cell hq.2 (fun h => h)) (fun b hb => ⟨hb.1, Nat.lt_of_lt_of_le hb.2 A4.out.size⟩))
    have HPR : Hid (parP s.data.toList = if skip s.data.toList j5 = s.data.toList.length then .ok x (skip s.data.toList j5) else .err (skip s.data.toList j5) 3) := Lib.hid (by unfold parP; rw [hr5.out]; rfl)
    clear hr5 hl5 hp5
    go_wp2_with fail
    refine (rblank_run P4.out).mono ?_
    rintro _ w5 ⟨rfl, hp6, hf6⟩
    have P5 := Lib.hid hp6
    have HF5 := Lib.hid hf6
    have N0 := Lib.hid (hf6.bk N4.out (fun e => by have e2 : w.heap.size = w.heap.size + 1 := e; omega))
    have V5 := Lib.hid (hf6.bk V4.out (fun e => NV.out e))
    have F5 : Hid (FrS (fun b => w.heap.size ≤ b) w w5) := Lib.hid (F4.out.next hf6 (fun i _ h => by have e2 : i = w.heap.size + 1 := h; omega))
    have LX5 : Hid (Lies w5 (New w2 w5) x (.agg #[.int .i64 k5, .int .i64 i5, .string t5, .slice A5 m5 c5, .slice A6 m6 c6])) := Lib.hid (LX4.out.keep (fun q hq => hf6.cell hq.2 (fun e => by have e2 : q.block = w.heap.size + 1 := e; have := hq.1; have := Z2.out; omega)) (fun b hb => ⟨hb.1, Nat.lt_of_lt_of_le hb.2 hf6.size⟩))
    have c1 := P5.out.1.cell 1
    have hle := P5.out.2.1
    generalize skip s.data.toList j5 = q at *
    clear hp6 hf6
    by_cases hq : q < s.size
    · have tq : decide ((q : Int) < (s.size : Int)) = true := by rw [decide_eq_true_iff]; omega
      have HE : Hid (parP s.data.toList = .err q 3) := Lib.hid (by rw [HPR.out, if_neg (by rw [list_len]; omega)])
      go_wp2_with fail
      refine (fail_run P5.out.1 _ 3).mono ?_
      rintro _ w6 ⟨rfl, hbb, hff⟩
      have HB : Hid (Bad w6 (w.heap.size + 1) s q 3) := Lib.hid ⟨_, _, hbb, by decide, by omega, by omega⟩
      have F6 : Hid (FrS (fun b => w.heap.size ≤ b) w w6) := Lib.hid (F5.out.next hff (fun i _ h => by have e2 : i = w.heap.size + 1 := h; omega))
      have N6 := Lib.hid (hff.bk N0.out (fun e => by have e2 : w.heap.size = w.heap.size + 1 := e; omega))
      clear hbb hff c1
      obtain ⟨i9, n9, hb9, hq9, _, _⟩ := HB.out
      have s3 := hb9.cell 3
      have s4 := hb9.cell 4
      have s9 : ((3 : Int) == 0) = false := beq_eq_false_iff_ne.2 hq9
      have s9n : ((3 : Int) != 0) = true := bne_iff_ne.2 hq9
      clear hb9 hq9
      have d0 := N6.out.cell 0
      have d1 := N6.out.cell 1
      have d2 := N6.out.cell 2
      have d3 := N6.out.cell 3
      have d4 := N6.out.cell 4
      have f0 := N6.out.frozen 0
      have f1 := N6.out.frozen 1
      have f2 := N6.out.frozen 2
      have f3 := N6.out.frozen 3
      have f4 := N6.out.frozen 4
      go_wp2_with fail
      go_region
      all_goals (
        go_wp2
        obtain ⟨w7, hw7⟩ : ∃ w7, w7 = (put5 w6 w.heap.size 0 (.int .i64 0) (.int .i64 0) (.string ⟨#[]⟩) (.slice none 0 0) (.slice none 0 0)).drew := ⟨_, rfl⟩
        have M0 : Hid (Bk w7 w.heap.size 25 #[.int .i64 0, .int .i64 0, .string ⟨#[]⟩, .slice none 0 0, .slice none 0 0]) := Lib.hid (by rw [hw7]; exact (Dr.drew _).bk (put5_bk N6.out))
        have F7 : Hid (FrS (fun b => w.heap.size ≤ b) w w7) := Lib.hid (by rw [hw7]; exact (F6.out.trans (frs_put5S (Nat.le_refl _))).trans (Dr.drew _).frs)
        change bodyPost _ _ _ _ _ (put5 w6 w.heap.size 0 (.int .i64 0) (.int .i64 0) (.string ⟨#[]⟩) (.slice none 0 0) (.slice none 0 0)).drew
        rw [← hw7]
        refine bodyPost_ret (results_ref rfl rfl rfl M0.out) rfl ?_
        exact ⟨F7.out.below (Nat.le_refl _) (fun b h => h), .inr ⟨q, 3, HE, rfl⟩⟩)
    · have tq : decide ((q : Int) < (s.size : Int)) = false := by rw [decide_eq_false_iff_not]; omega
      have HE : Hid (parP s.data.toList = .ok x q) := Lib.hid (by rw [HPR.out, if_pos (by rw [list_len]; omega)])
      have s4 := P5.out.1.cell 4
      have d0 := N0.out.cell 0
      have d1 := N0.out.cell 1
      have d2 := N0.out.cell 2
      have d3 := N0.out.cell 3
      have d4 := N0.out.cell 4
      have f0 := N0.out.frozen 0
      have f1 := N0.out.frozen 1
      have f2 := N0.out.frozen 2
      have f3 := N0.out.frozen 3
      have f4 := N0.out.frozen 4
      have g0 := V5.out.cell 0
      have g1 := V5.out.cell 1
      have g2 := V5.out.cell 2
      have g3 := V5.out.cell 3
      have g4 := V5.out.cell 4
      go_wp2
      obtain ⟨w7, hw7⟩ : ∃ w7, w7 = put5 w5 w.heap.size 0 (.int .i64 k5) (.int .i64 i5) (.string t5) (.slice A5 m5 c5) (.slice A6 m6 c6) := ⟨_, rfl⟩
      have M0 : Hid (Bk w7 w.heap.size 25 #[.int .i64 k5, .int .i64 i5, .string t5, .slice A5 m5 c5, .slice A6 m6 c6]) := Lib.hid (by rw [hw7]; exact put5_bk N0.out)
      have LX7 : Hid (Lies w7 (New w w7) x (.agg #[.int .i64 k5, .int .i64 i5, .string t5, .slice A5 m5 c5, .slice A6 m6 c6])) := Lib.hid (by
        rw [hw7]
        exact LX5.out.keep (fun q hq => World.cell?_of_block (put5_far (by have := hq.1; have := Z2.out; omega))) (fun b hb => ⟨by have := hb.1; have := Z2.out; omega, by rw [put5_size]; exact hb.2⟩))
      have F7 : Hid (FrS (fun b => w.heap.size ≤ b) w w7) := Lib.hid (by rw [hw7]; exact F5.out.trans (frs_put5S (Nat.le_refl _)))
      change bodyPost _ _ _ _ _ (put5 w5 w.heap.size 0 (.int .i64 k5) (.int .i64 i5) (.string t5) (.slice A5 m5 c5) (.slice A6 m6 c6))
      rw [← hw7]
      refine bodyPost_ret (results_ref rfl rfl rfl M0.out) rfl ?_
      exact ⟨F7.out.below (Nat.le_refl _) (fun b h => h), .inl ⟨k5, i5, t5, A5, m5, c5, A6, m6, c6, x, q, rfl, HE, LX7⟩⟩
  · have HB4 := Lib.hid (hb5.out.frs A4.out (fun h => h))
    have HE : Hid (parP s.data.toList = .err j5 q5) := Lib.hid (by unfold parP; rw [hr5.out]; rfl)
    clear hr5 hb5
    go_wp2_with fail
    refine (rblank_bad HB4.out).mono ?_
    rintro _ w6 ⟨rfl, hd⟩
    have HB := Lib.hid (HB4.out.dr hd)
    have F6 : Hid (FrS (fun b => w.heap.size ≤ b) w w6) := Lib.hid (F4.out.trans hd.frs)
    have N6 := Lib.hid (hd.bk N4.out)
    clear hd
    obtain ⟨i8, n8, hb8, hq8, hlo8, hhi8⟩ := HB.out
    have HQ8 := Lib.hid hb8
    have c1 := hb8.cell 1
    clear hb8
    by_cases hq : i8 < (s.size : Int)
    · have tq : decide (i8 < (s.size : Int)) = true := decide_eq_true hq
      go_wp2_with fail
      refine (fail_bad HQ8.out hq8 _ 3).mono ?_
      rintro _ _ ⟨rfl, rfl⟩
      clear c1
      obtain ⟨i9, n9, hb9, hq9, _, _⟩ := HB.out
      have s3 := hb9.cell 3
      have s4 := hb9.cell 4
      have s9 : ((q5 : Int) == 0) = false := beq_eq_false_iff_ne.2 hq9
      have s9n : ((q5 : Int) != 0) = true := bne_iff_ne.2 hq9
      clear hb9 hq9
      have d0 := N6.out.cell 0
      have d1 := N6.out.cell 1
      have d2 := N6.out.cell 2
      have d3 := N6.out.cell 3
      have d4 := N6.out.cell 4
      have f0 := N6.out.frozen 0
      have f1 := N6.out.frozen 1
      have f2 := N6.out.frozen 2
      have f3 := N6.out.frozen 3
      have f4 := N6.out.frozen 4
      go_wp2_with fail
      go_region
      all_goals (
        go_wp2
        obtain ⟨w7, hw7⟩ : ∃ w7, w7 = (put5 w6 w.heap.size 0 (.int .i64 0) (.int .i64 0) (.string ⟨#[]⟩) (.slice none 0 0) (.slice none 0 0)).drew := ⟨_, rfl⟩
        have M0 : Hid (Bk w7 w.heap.size 25 #[.int .i64 0, .int .i64 0, .string ⟨#[]⟩, .slice none 0 0, .slice none 0 0]) := Lib.hid (by rw [hw7]; exact (Dr.drew _).bk (put5_bk N6.out))
        have F7 : Hid (FrS (fun b => w.heap.size ≤ b) w w7) := Lib.hid (by rw [hw7]; exact (F6.out.trans (frs_put5S (Nat.le_refl _))).trans (Dr.drew _).frs)
        change bodyPost _ _ _ _ _ (put5 w6 w.heap.size 0 (.int .i64 0) (.int .i64 0) (.string ⟨#[]⟩) (.slice none 0 0) (.slice none 0 0)).drew
        rw [← hw7]
        refine bodyPost_ret (results_ref rfl rfl rfl M0.out) rfl ?_
        exact ⟨F7.out.below (Nat.le_refl _) (fun b h => h), .inr ⟨j5, q5, HE, rfl⟩⟩)
    · have tq : decide (i8 < (s.size : Int)) = false := decide_eq_false hq
      clear c1
      have c1 := HQ8.out.cell 1
      obtain ⟨i9, n9, hb9, hq9, _, _⟩ := HB.out
      have s3 := hb9.cell 3
      have s4 := hb9.cell 4
      have s9 : ((q5 : Int) == 0) = false := beq_eq_false_iff_ne.2 hq9
      have s9n : ((q5 : Int) != 0) = true := bne_iff_ne.2 hq9
      clear hb9 hq9
      have d0 := N6.out.cell 0
      have d1 := N6.out.cell 1
      have d2 := N6.out.cell 2
      have d3 := N6.out.cell 3
      have d4 := N6.out.cell 4
      have f0 := N6.out.frozen 0
      have f1 := N6.out.frozen 1
      have f2 := N6.out.frozen 2
      have f3 := N6.out.frozen 3
      have f4 := N6.out.frozen 4
      go_wp2_with fail
      go_region
      all_goals (
        go_wp2
        obtain ⟨w7, hw7⟩ : ∃ w7, w7 = (put5 w6 w.heap.size 0 (.int .i64 0) (.int .i64 0) (.string ⟨#[]⟩) (.slice none 0 0) (.slice none 0 0)).drew := ⟨_, rfl⟩
        have M0 : Hid (Bk w7 w.heap.size 25 #[.int .i64 0, .int .i64 0, .string ⟨#[]⟩, .slice none 0 0, .slice none 0 0]) := Lib.hid (by rw [hw7]; exact (Dr.drew _).bk (put5_bk N6.out))
        have F7 : Hid (FrS (fun b => w.heap.size ≤ b) w w7) := Lib.hid (by rw [hw7]; exact (F6.out.trans (frs_put5S (Nat.le_refl _))).trans (Dr.drew _).frs)
        change bodyPost _ _ _ _ _ (put5 w6 w.heap.size 0 (.int .i64 0) (.int .i64 0) (.string ⟨#[]⟩) (.slice none 0 0) (.slice none 0 0)).drew
        rw [← hw7]
        refine bodyPost_ret (results_ref rfl rfl rfl M0.out) rfl ?_
        exact ⟨F7.out.below (Nat.le_refl _) (fun b h => h), .inr ⟨j5, q5, HE, rfl⟩⟩)
end Go.Proofs.YtlgmhhimbabkjaaGreatDoor
namespace Go.Proofs.YtlgmhhimbabkjaaGreatDoor
open Go.RowKit


theorem rval_step {k : Nat} (hk : ∀ k', k = k' + 1 → RvalC k') : RvalC k := by
  intro w p s i n d hd hd1 h
  cases hc : s.data.toList[skip s.data.toList i]? with
  | none =>
    have hl := List.getElem?_eq_none_iff.1 hc
    exact rv_none h rfl hl (by cases k <;> (unfold valP; rw [tkP_none hl]; rfl))
  | some c =>
    cases hs : sta c with
    | false => exact rv_start h rfl hc hs (by cases k <;> (unfold valP; rw [tkP_no hc hs]; rfl))
    | true =>
      cases k with
      | zero => exact rv_deep h rfl hc hs (by omega) (by unfold valP; rw [tkP_ok hc hs]; rfl)
      | succ k =>
        have e : valP s.data.toList (k + 1) i n = if 1000 ≤ n then .err (skip s.data.toList i) 6 else bodP (valP s.data.toList k) s.data.toList c (skip s.data.toList i + 1) (n + 1) := by
          rw [valP, tkP_ok hc hs]; rfl
        by_cases hn : 1000 ≤ n
        · exact rv_many h rfl hc hs (by omega) hn (by rw [e, if_pos hn])
        · have hb : valP s.data.toList (k + 1) i n = bodP (valP s.data.toList k) s.data.toList c (skip s.data.toList i + 1) (n + 1) := by rw [e, if_neg hn]
          have hv := hk k rfl
          have hd9 : d + 1 + (k : Int) = 17 := by omega
          by_cases h110 : c.toNat = 110
          · exact rv_110 hv h rfl hc hs hd9 hd1 (by omega) h110 hb
          by_cases h116 : c.toNat = 116
          · exact rv_116 hv h rfl hc hs hd9 hd1 (by omega) h116 hb
          by_cases h102 : c.toNat = 102
          · exact rv_102 hv h rfl hc hs hd9 hd1 (by omega) h102 hb
          by_cases h34 : c.toNat = 34
          · exact rv_34 hv h rfl hc hs hd9 hd1 (by omega) h34 hb
          by_cases h91 : c.toNat = 91
          · exact rv_91 hv h rfl hc hs hd9 hd1 (by omega) h91 hb
          by_cases h123 : c.toNat = 123
          · exact rv_123 hv h rfl hc hs hd9 hd1 (by omega) h123 hb
          exact rv_num hv h rfl hc hs hd9 hd1 (by omega) h110 h116 h102 h34 h91 h123 hb
theorem rval_any : ∀ k, RvalC k
  | 0 => rval_step (fun _ h => by cases h)
  | k + 1 => rval_step (fun k' h => by injection h with h; subst h; exact rval_any k)
/-- Parse of the reference -/
theorem rParse_any (s : ByteArray) (w : World) (hs : s.size ≤ 1000000) : Calls Tryz.prog 14 #[.string s] w (ParR (parP s.data.toList) w) := rParse_of (rval_any 16) s w hs
end Go.Proofs.YtlgmhhimbabkjaaGreatDoor
