/-
  Contracts of the code's and of the reference's functions, part AF, and what they lean on.
-/
import Derived.Test.YtidinbeanaifmaaCAC
import Derived.Test.YtidinbeanaifmaaCAD
import Derived.Deep.Cut
namespace Go.Proofs.Ytidinbeanaifmaa
open Go.RowKit

theorem rint_k {w : World} {p q : Nat} {l l1 : List UInt8} {k e1 b : Int} (hi : intA l = (k, l1, e1)) (h : RRd w p l 0) (hq : Bk w q 93 #[.pointer (some ⟨p, 0, none⟩), .int .i64 b]) : Calls Try.prog 115 #[.pointer (some ⟨q, 0, none⟩)] w (Turns (.int .i64 k) w p fun w' => RRd w' p l1 e1) := by
  have h1 := rint_any h hq
  have e1 : intS l 0 (-9223372036854775808) 9223372036854775807 = intA l := by unfold intS intA; rw [if_pos rfl]
  rw [e1, hi] at h1
  exact h1
theorem rint_e {w : World} {p q : Nat} {l : List UInt8} {e b : Int} (he : e ≠ 0) (h : RRd w p l e) (hq : Bk w q 93 #[.pointer (some ⟨p, 0, none⟩), .int .i64 b]) : Calls Try.prog 115 #[.pointer (some ⟨q, 0, none⟩)] w (Turns (.int .i64 0) w p fun w' => RRd w' p l e) := by
  have h1 := rint_any h hq
  have e1 : intS l e (-9223372036854775808) 9223372036854775807 = (0, l, e) := by unfold intS; rw [if_neg he]
  rw [e1] at h1
  exact h1
theorem rtext_k {w : World} {p q : Nat} {l : List UInt8} {b : Int} (hl : l.length ≤ 4611686018427387904) (h : RRd w p l 0) (hq : Bk w q 93 #[.pointer (some ⟨p, 0, none⟩), .int .i64 b]) : Calls Try.prog 116 #[.pointer (some ⟨q, 0, none⟩)] w
    (Turns (.string ⟨(textR l 9223372036854775807).1.toArray⟩) w p fun w' => RRd w' p (textR l 9223372036854775807).2.1 (reqE (decide ((textR l 9223372036854775807).1.length ≤ 4096)) (textR l 9223372036854775807).2.2)) := by
  have e1 : textS l 0 9223372036854775807 = textR l 9223372036854775807 := by unfold textS; rw [if_pos rfl]
  have h1 := rtext_any (by rw [e1]; have := textA_len l; omega) h hq (h.dec_ne hq)
  rw [e1] at h1
  exact h1
theorem rdecT_says {w : World} {p n : Nat} {l : List UInt8} (h : RRd w p (textR l 9223372036854775807).2.1 (reqE (decide ((textR l 9223372036854775807).1.length ≤ 4096)) (textR l 9223372036854775807).2.2)) :
    (∃ s l2, decT l n = .ok s l2 n ∧ s = ⟨(textR l 9223372036854775807).1.toArray⟩ ∧ s.size ≤ 4096 ∧ RRd w p l2 0) ∨ ∃ e l2, decT l n = .err e ∧ e ≠ 0 ∧ RRd w p l2 e := by
  by_cases h1 : (textR l 9223372036854775807).2.2 = 0
  · by_cases h2 : (textR l 9223372036854775807).1.length ≤ 4096
    · rw [decide_eq_true h2, h1] at h
      exact Or.inl ⟨_, _, decT_ok n h1 h2, rfl, by simpa [ByteArray.size] using h2, h⟩
    · rw [decide_eq_false h2, h1] at h
      exact Or.inr ⟨3, _, decT_long n h1 h2, by decide, h⟩
  · have h3 := (decT_err n h1).2
    rw [h3] at h
    exact Or.inr ⟨_, _, (decT_err n h1).1, h1, h⟩

set_option maxRecDepth 100000 in
set_option maxHeartbeats 4000000 in
theorem rv_many {w : World} {p q b : Nat} {l : List UInt8} {d : Int} (hr : RRd w p l 0) (hq : Bk w q 93 #[.pointer (some ⟨p, 0, none⟩), .int .i64 (b : Nat)]) (hb : b ≤ 1000) (hbad : 1000 ≤ b) :
    Calls Try.prog 87 #[.pointer (some ⟨q, 0, none⟩), .int .i64 d] w (DecP RRd 93 (.err 3) p q w) := by
  have t1 : decide (((b : Nat) : Int) < 1000) = false := by rw [decide_eq_false_iff_not]; omega
  clear hbad
  obtain ⟨w1, hw1⟩ : ∃ w1, w1 = w.alloc (.cells #[.int .i64 0, .int .i64 0, .string ⟨#[]⟩, .slice none 0 0, .slice none 0 0] 26) := ⟨_, rfl⟩
  have b1 : Below w.heap.size w w1 := by rw [hw1]; exact below_one _ _
  have R1 : Hid (Bk w1 w.heap.size 26 #[.int .i64 0, .int .i64 0, .string ⟨#[]⟩, .slice none 0 0, .slice none 0 0]) := Lib.hid (by rw [hw1]; exact Bk.new _ _ _)
  have W1 := Lib.hid (hr.below b1)
  have Q1 := Lib.hid (hq.below b1 hq.lt)
  have F1 : Hid (FrS (Two p q) w w1) := Lib.hid (FrS.of_below b1)
  have NQ := Lib.hid (hr.dec_ne hq)
  have NE : Hid (w.heap.size ≠ p ∧ w.heap.size ≠ q) := Lib.hid (by have h1 := hr.lt; have h2 := hq.lt; exact ⟨by omega, by omega⟩)
  have HW := Lib.hid hw1
  have c1 := Q1.out.cell 1
  change _ = some (Value.int .i64 (b : Nat)) at c1
  rw [hw1] at c1
  clear hr hq hw1 b1
  go_enter Try.func87, Try.ntmps87
  go_wp2_with fail
  rw [← HW.out]
  refine (rreq_any false W1.out Q1.out).mono ?_
  rintro e1 w2 ⟨rfl, hg, hr2⟩
  have Q2 := Lib.hid (Q1.out.grown hg (by intro e; injection e with e; exact NQ.out e))
  have R2 := Lib.hid (R1.out.grown hg (by intro e; injection e with e; exact NE.out.1 e))
  have F2 := Lib.hid (F1.out.trans (FrS.of_grown hg (Or.inl rfl)))
  have W2 := Lib.hid hr2
  clear hg hr2 c1
  have c1 := Q2.out.cell 1
  change _ = some (Value.int .i64 (b : Nat)) at c1
  have fz := Q2.out.frozen 1
  obtain ⟨w3, hw3⟩ : ∃ w3, w3 = w2.setCell ⟨q, 1, none⟩ (.int .i64 ((b : Nat) + 1)) := ⟨_, rfl⟩
  have g3 : w2.grownBy w3 (some q) := by rw [hw3]; exact turned _ _ _ _
  have Q3 : Hid (Bk w3 q 93 #[.pointer (some ⟨p, 0, none⟩), .int .i64 ((b + 1 : Nat) : Int)]) := Lib.hid (by rw [hw3]; exact Q2.out.put 1 _)
  have R3 := Lib.hid (R2.out.grown g3 (by intro e; injection e with e; exact NE.out.2 e))
  have F3 := Lib.hid (F2.out.trans (FrS.of_grown g3 (Or.inr rfl)))
  have W3 := Lib.hid (W2.out.other Q2.out (by decide) (Ne.symm NQ.out) g3)
  have HW3 := Lib.hid hw3
  clear hw3 g3
  go_wp2_with fail
  rw [← HW3.out]
  refine (rint_e (by decide) W3.out Q3.out).mono ?_
  rintro e1 w4 ⟨rfl, hg, hr4⟩
  have Q4 := Lib.hid (Q3.out.grown hg (by intro e; injection e with e; exact NQ.out e))
  have R4 := Lib.hid (R3.out.grown hg (by intro e; injection e with e; exact NE.out.1 e))
  have F4 := Lib.hid (F3.out.trans (FrS.of_grown hg (Or.inl rfl)))
  have W4 := Lib.hid hr4
  clear hg hr4 c1 fz
  go_upto_region 4 with fail
  obtain ⟨w5, hw5⟩ : ∃ w5, w5 = w4.alloc (.cells #[.int .i64 0, .int .i64 0, .string ⟨#[]⟩, .slice none 0 0, .slice none 0 0] 26) := ⟨_, rfl⟩
  have b5 : Below w4.heap.size w4 w5 := by rw [hw5]; exact below_one _ _
  have V5 : Hid (Bk w5 w4.heap.size 26 #[.int .i64 0, .int .i64 0, .string ⟨#[]⟩, .slice none 0 0, .slice none 0 0]) := Lib.hid (by rw [hw5]; exact Bk.new _ _ _)
  have R5 := Lib.hid (R4.out.below b5 R4.out.lt)
  have Q5 := Lib.hid (Q4.out.below b5 Q4.out.lt)
  have W5 := Lib.hid (W4.out.below b5)
  have F5 : Hid (FrS (Two p q) w w5) := Lib.hid (F4.out.trans (FrS.of_below b5))
  have NG : Hid (w4.heap.size ≠ p) := Lib.hid (by have := W4.out.lt; omega)
  have NG2 : Hid (w4.heap.size ≠ q ∧ w.heap.size < w4.heap.size) := Lib.hid (by have := Q4.out.lt; have := R4.out.lt; exact ⟨by omega, by omega⟩)
  rw [← hw5]
  clear hw5 b5
  have k0 := V5.out.cell 0
  change _ = some (Value.int .i64 0) at k0
  go_wp2_with fail
  refine (rreq_any true W5.out Q5.out).mono ?_
  rintro e1 w6 ⟨rfl, hg, hr6⟩
  have Q6 := Lib.hid (Q5.out.grown hg (by intro e; injection e with e; exact NQ.out e))
  have R6 := Lib.hid (R5.out.grown hg (by intro e; injection e with e; exact NE.out.1 e))
  have F6 := Lib.hid (F5.out.trans (FrS.of_grown hg (Or.inl rfl)))
  have V6 := Lib.hid (V5.out.grown hg (by intro e; injection e with e; exact NG.out e))
  have W6 := Lib.hid hr6
  clear hg hr6 k0
  have k0 := V6.out.cell 0
  change _ = some (Value.int .i64 0) at k0
  go_wp2_with fail
  refine (good_any false (by decide) W6.out Q6.out).mono ?_
  rintro e1 w' ⟨rfl, rfl⟩
  have r0 := R6.out.cell 0
  have r1 := R6.out.cell 1
  have r2 := R6.out.cell 2
  have r3 := R6.out.cell 3
  have r4 := R6.out.cell 4
  have f0 := R6.out.frozen 0
  have f1 := R6.out.frozen 1
  have f2 := R6.out.frozen 2
  have f3 := R6.out.frozen 3
  have f4 := R6.out.frozen 4
  go_wp2
  obtain ⟨wf, hwf⟩ : ∃ wf, wf = ((((w6.setCell ⟨w.heap.size, 0, none⟩ (.int .i64 0)).setCell ⟨w.heap.size, 1, none⟩ (.int .i64 0)).setCell ⟨w.heap.size, 2, none⟩ (.string ⟨#[]⟩)).setCell ⟨w.heap.size, 3, none⟩ (.slice none 0 0)).setCell ⟨w.heap.size, 4, none⟩ (.slice none 0 0) := ⟨_, rfl⟩
  have GF : Hid (w6.grownBy wf (some w.heap.size)) := Lib.hid (by rw [hwf]; exact grownBy_trans (grownBy_trans (grownBy_trans (grownBy_trans (turned w6 w.heap.size 0 _) (turned _ w.heap.size 1 _)) (turned _ w.heap.size 2 _)) (turned _ w.heap.size 3 _)) (turned _ w.heap.size 4 _))
  have RF : Hid (Bk wf w.heap.size 26 #[.int .i64 0, .int .i64 0, .string ⟨#[]⟩, .slice none 0 0, .slice none 0 0]) := Lib.hid (by rw [hwf]; exact ((((R6.out.put 0 _).put 1 _).put 2 _).put 3 _).put 4 _)
  have QF := Lib.hid (Q6.out.grown GF.out (by intro e; injection e with e; exact NE.out.2 e.symm))
  have WF := Lib.hid (W6.out.other R6.out (by decide) (Ne.symm NE.out.1) GF.out)
  have FF : Hid (FrS (Two p q) w wf) := Lib.hid (F6.out.next (S' := fun b => b = w.heap.size) (FrS.of_grown GF.out rfl) (fun i hi e => by omega))
  rw [← hwf]
  refine bodyPost_ret (results_cell_row rfl _ _ w.heap.size 26 _ (0, 0) _ rfl RF.out Try.underlying26 rfl (by kernel_rfl)) rfl ?_
  exact ⟨_, _, _, _, _, _, _, _, _, b + 1, rfl, FF, QF, by omega, Or.inr ⟨3, l, Lib.hid rfl, by decide, WF⟩⟩

set_option maxRecDepth 100000 in
set_option maxHeartbeats 4000000 in
theorem rv_deep {w : World} {p q b : Nat} {l : List UInt8} {d : Int} (hr : RRd w p l 0) (hq : Bk w q 93 #[.pointer (some ⟨p, 0, none⟩), .int .i64 (b : Nat)]) (hb : b ≤ 1000) (hbad : 16 < d) :
    Calls Try.prog 87 #[.pointer (some ⟨q, 0, none⟩), .int .i64 d] w (DecP RRd 93 (.err 3) p q w) := by
  by_cases hm : 1000 ≤ b
  · exact rv_many hr hq hb hm
  · have t1 : decide (((b : Nat) : Int) < 1000) = true := by rw [decide_eq_true_eq]; omega
    have t2 : decide (d ≤ 16) = false := by rw [decide_eq_false_iff_not]; omega
    clear hm
    clear hbad
    obtain ⟨w1, hw1⟩ : ∃ w1, w1 = w.alloc (.cells #[.int .i64 0, .int .i64 0, .string ⟨#[]⟩, .slice none 0 0, .slice none 0 0] 26) := ⟨_, rfl⟩
    have b1 : Below w.heap.size w w1 := by rw [hw1]; exact below_one _ _
    have R1 : Hid (Bk w1 w.heap.size 26 #[.int .i64 0, .int .i64 0, .string ⟨#[]⟩, .slice none 0 0, .slice none 0 0]) := Lib.hid (by rw [hw1]; exact Bk.new _ _ _)
    have W1 := Lib.hid (hr.below b1)
    have Q1 := Lib.hid (hq.below b1 hq.lt)
    have F1 : Hid (FrS (Two p q) w w1) := Lib.hid (FrS.of_below b1)
    have NQ := Lib.hid (hr.dec_ne hq)
    have NE : Hid (w.heap.size ≠ p ∧ w.heap.size ≠ q) := Lib.hid (by have h1 := hr.lt; have h2 := hq.lt; exact ⟨by omega, by omega⟩)
    have HW := Lib.hid hw1
    have c1 := Q1.out.cell 1
    change _ = some (Value.int .i64 (b : Nat)) at c1
    rw [hw1] at c1
    clear hr hq hw1 b1
    go_enter Try.func87, Try.ntmps87
    go_wp2_with fail
    rw [← HW.out]
    refine (rreq_any false W1.out Q1.out).mono ?_
    rintro e1 w2 ⟨rfl, hg, hr2⟩
    have Q2 := Lib.hid (Q1.out.grown hg (by intro e; injection e with e; exact NQ.out e))
    have R2 := Lib.hid (R1.out.grown hg (by intro e; injection e with e; exact NE.out.1 e))
    have F2 := Lib.hid (F1.out.trans (FrS.of_grown hg (Or.inl rfl)))
    have W2 := Lib.hid hr2
    clear hg hr2 c1
    have c1 := Q2.out.cell 1
    change _ = some (Value.int .i64 (b : Nat)) at c1
    have fz := Q2.out.frozen 1
    obtain ⟨w3, hw3⟩ : ∃ w3, w3 = w2.setCell ⟨q, 1, none⟩ (.int .i64 ((b : Nat) + 1)) := ⟨_, rfl⟩
    have g3 : w2.grownBy w3 (some q) := by rw [hw3]; exact turned _ _ _ _
    have Q3 : Hid (Bk w3 q 93 #[.pointer (some ⟨p, 0, none⟩), .int .i64 ((b + 1 : Nat) : Int)]) := Lib.hid (by rw [hw3]; exact Q2.out.put 1 _)
    have R3 := Lib.hid (R2.out.grown g3 (by intro e; injection e with e; exact NE.out.2 e))
    have F3 := Lib.hid (F2.out.trans (FrS.of_grown g3 (Or.inr rfl)))
    have W3 := Lib.hid (W2.out.other Q2.out (by decide) (Ne.symm NQ.out) g3)
    have HW3 := Lib.hid hw3
    clear hw3 g3
    go_wp2_with fail
    rw [← HW3.out]
    refine (rint_e (by decide) W3.out Q3.out).mono ?_
    rintro e1 w4 ⟨rfl, hg, hr4⟩
    have Q4 := Lib.hid (Q3.out.grown hg (by intro e; injection e with e; exact NQ.out e))
    have R4 := Lib.hid (R3.out.grown hg (by intro e; injection e with e; exact NE.out.1 e))
    have F4 := Lib.hid (F3.out.trans (FrS.of_grown hg (Or.inl rfl)))
    have W4 := Lib.hid hr4
    clear hg hr4 c1 fz
    go_upto_region 4 with fail
    obtain ⟨w5, hw5⟩ : ∃ w5, w5 = w4.alloc (.cells #[.int .i64 0, .int .i64 0, .string ⟨#[]⟩, .slice none 0 0, .slice none 0 0] 26) := ⟨_, rfl⟩
    have b5 : Below w4.heap.size w4 w5 := by rw [hw5]; exact below_one _ _
    have V5 : Hid (Bk w5 w4.heap.size 26 #[.int .i64 0, .int .i64 0, .string ⟨#[]⟩, .slice none 0 0, .slice none 0 0]) := Lib.hid (by rw [hw5]; exact Bk.new _ _ _)
    have R5 := Lib.hid (R4.out.below b5 R4.out.lt)
    have Q5 := Lib.hid (Q4.out.below b5 Q4.out.lt)
    have W5 := Lib.hid (W4.out.below b5)
    have F5 : Hid (FrS (Two p q) w w5) := Lib.hid (F4.out.trans (FrS.of_below b5))
    have NG : Hid (w4.heap.size ≠ p) := Lib.hid (by have := W4.out.lt; omega)
    have NG2 : Hid (w4.heap.size ≠ q ∧ w.heap.size < w4.heap.size) := Lib.hid (by have := Q4.out.lt; have := R4.out.lt; exact ⟨by omega, by omega⟩)
    rw [← hw5]
    clear hw5 b5
    have k0 := V5.out.cell 0
    change _ = some (Value.int .i64 0) at k0
    go_wp2_with fail
    refine (rreq_any true W5.out Q5.out).mono ?_
    rintro e1 w6 ⟨rfl, hg, hr6⟩
    have Q6 := Lib.hid (Q5.out.grown hg (by intro e; injection e with e; exact NQ.out e))
    have R6 := Lib.hid (R5.out.grown hg (by intro e; injection e with e; exact NE.out.1 e))
    have F6 := Lib.hid (F5.out.trans (FrS.of_grown hg (Or.inl rfl)))
    have V6 := Lib.hid (V5.out.grown hg (by intro e; injection e with e; exact NG.out e))
    have W6 := Lib.hid hr6
    clear hg hr6 k0
    have k0 := V6.out.cell 0
    change _ = some (Value.int .i64 0) at k0
    go_wp2_with fail
    refine (good_any false (by decide) W6.out Q6.out).mono ?_
    rintro e1 w' ⟨rfl, rfl⟩
    have r0 := R6.out.cell 0
    have r1 := R6.out.cell 1
    have r2 := R6.out.cell 2
    have r3 := R6.out.cell 3
    have r4 := R6.out.cell 4
    have f0 := R6.out.frozen 0
    have f1 := R6.out.frozen 1
    have f2 := R6.out.frozen 2
    have f3 := R6.out.frozen 3
    have f4 := R6.out.frozen 4
    go_wp2
    obtain ⟨wf, hwf⟩ : ∃ wf, wf = ((((w6.setCell ⟨w.heap.size, 0, none⟩ (.int .i64 0)).setCell ⟨w.heap.size, 1, none⟩ (.int .i64 0)).setCell ⟨w.heap.size, 2, none⟩ (.string ⟨#[]⟩)).setCell ⟨w.heap.size, 3, none⟩ (.slice none 0 0)).setCell ⟨w.heap.size, 4, none⟩ (.slice none 0 0) := ⟨_, rfl⟩
    have GF : Hid (w6.grownBy wf (some w.heap.size)) := Lib.hid (by rw [hwf]; exact grownBy_trans (grownBy_trans (grownBy_trans (grownBy_trans (turned w6 w.heap.size 0 _) (turned _ w.heap.size 1 _)) (turned _ w.heap.size 2 _)) (turned _ w.heap.size 3 _)) (turned _ w.heap.size 4 _))
    have RF : Hid (Bk wf w.heap.size 26 #[.int .i64 0, .int .i64 0, .string ⟨#[]⟩, .slice none 0 0, .slice none 0 0]) := Lib.hid (by rw [hwf]; exact ((((R6.out.put 0 _).put 1 _).put 2 _).put 3 _).put 4 _)
    have QF := Lib.hid (Q6.out.grown GF.out (by intro e; injection e with e; exact NE.out.2 e.symm))
    have WF := Lib.hid (W6.out.other R6.out (by decide) (Ne.symm NE.out.1) GF.out)
    have FF : Hid (FrS (Two p q) w wf) := Lib.hid (F6.out.next (S' := fun b => b = w.heap.size) (FrS.of_grown GF.out rfl) (fun i hi e => by omega))
    rw [← hwf]
    refine bodyPost_ret (results_cell_row rfl _ _ w.heap.size 26 _ (0, 0) _ rfl RF.out Try.underlying26 rfl (by kernel_rfl)) rfl ?_
    exact ⟨_, _, _, _, _, _, _, _, _, b + 1, rfl, FF, QF, by omega, Or.inr ⟨3, l, Lib.hid rfl, by decide, WF⟩⟩

set_option maxRecDepth 100000 in
set_option maxHeartbeats 4000000 in
theorem rv_int {w : World} {p q b : Nat} {l : List UInt8} {d e1 : Int} {l1 : List UInt8} (hr : RRd w p l 0) (hq : Bk w q 93 #[.pointer (some ⟨p, 0, none⟩), .int .i64 (b : Nat)]) (hb : b ≤ 1000) (hlt : b < 1000) (hdp : d ≤ 16) (hi : intA l = (0, l1, e1)) (he : e1 ≠ 0) :
    Calls Try.prog 87 #[.pointer (some ⟨q, 0, none⟩), .int .i64 d] w (DecP RRd 93 (.err e1) p q w) := by
  have t1 : decide (((b : Nat) : Int) < 1000) = true := by rw [decide_eq_true_eq]; omega
  have t2 : decide (d ≤ 16) = true := by rw [decide_eq_true_eq]; omega
  clear hlt hdp
  have HE := Lib.hid he
  clear he
  obtain ⟨w1, hw1⟩ : ∃ w1, w1 = w.alloc (.cells #[.int .i64 0, .int .i64 0, .string ⟨#[]⟩, .slice none 0 0, .slice none 0 0] 26) := ⟨_, rfl⟩
  have b1 : Below w.heap.size w w1 := by rw [hw1]; exact below_one _ _
  have R1 : Hid (Bk w1 w.heap.size 26 #[.int .i64 0, .int .i64 0, .string ⟨#[]⟩, .slice none 0 0, .slice none 0 0]) := Lib.hid (by rw [hw1]; exact Bk.new _ _ _)
  have W1 := Lib.hid (hr.below b1)
  have Q1 := Lib.hid (hq.below b1 hq.lt)
  have F1 : Hid (FrS (Two p q) w w1) := Lib.hid (FrS.of_below b1)
  have NQ := Lib.hid (hr.dec_ne hq)
  have NE : Hid (w.heap.size ≠ p ∧ w.heap.size ≠ q) := Lib.hid (by have h1 := hr.lt; have h2 := hq.lt; exact ⟨by omega, by omega⟩)
  have HW := Lib.hid hw1
  have c1 := Q1.out.cell 1
  change _ = some (Value.int .i64 (b : Nat)) at c1
  rw [hw1] at c1
  clear hr hq hw1 b1
  go_enter Try.func87, Try.ntmps87
  go_wp2_with fail
  rw [← HW.out]
  refine (rreq_any true W1.out Q1.out).mono ?_
  rintro e1 w2 ⟨rfl, hg, hr2⟩
  have Q2 := Lib.hid (Q1.out.grown hg (by intro e; injection e with e; exact NQ.out e))
  have R2 := Lib.hid (R1.out.grown hg (by intro e; injection e with e; exact NE.out.1 e))
  have F2 := Lib.hid (F1.out.trans (FrS.of_grown hg (Or.inl rfl)))
  have W2 := Lib.hid hr2
  clear hg hr2 c1
  have c1 := Q2.out.cell 1
  change _ = some (Value.int .i64 (b : Nat)) at c1
  have fz := Q2.out.frozen 1
  obtain ⟨w3, hw3⟩ : ∃ w3, w3 = w2.setCell ⟨q, 1, none⟩ (.int .i64 ((b : Nat) + 1)) := ⟨_, rfl⟩
  have g3 : w2.grownBy w3 (some q) := by rw [hw3]; exact turned _ _ _ _
  have Q3 : Hid (Bk w3 q 93 #[.pointer (some ⟨p, 0, none⟩), .int .i64 ((b + 1 : Nat) : Int)]) := Lib.hid (by rw [hw3]; exact Q2.out.put 1 _)
  have R3 := Lib.hid (R2.out.grown g3 (by intro e; injection e with e; exact NE.out.2 e))
  have F3 := Lib.hid (F2.out.trans (FrS.of_grown g3 (Or.inr rfl)))
  have W3 := Lib.hid (W2.out.other Q2.out (by decide) (Ne.symm NQ.out) g3)
  have HW3 := Lib.hid hw3
  clear hw3 g3
  go_wp2_with fail
  rw [← HW3.out]
  refine (rint_k hi W3.out Q3.out).mono ?_
  rintro e1 w4 ⟨rfl, hg, hr4⟩
  have Q4 := Lib.hid (Q3.out.grown hg (by intro e; injection e with e; exact NQ.out e))
  have R4 := Lib.hid (R3.out.grown hg (by intro e; injection e with e; exact NE.out.1 e))
  have F4 := Lib.hid (F3.out.trans (FrS.of_grown hg (Or.inl rfl)))
  have W4 := Lib.hid hr4
  clear hg hr4 c1 fz
  go_upto_region 4 with fail
  obtain ⟨w5, hw5⟩ : ∃ w5, w5 = w4.alloc (.cells #[.int .i64 0, .int .i64 0, .string ⟨#[]⟩, .slice none 0 0, .slice none 0 0] 26) := ⟨_, rfl⟩
  have b5 : Below w4.heap.size w4 w5 := by rw [hw5]; exact below_one _ _
  have V5 : Hid (Bk w5 w4.heap.size 26 #[.int .i64 0, .int .i64 0, .string ⟨#[]⟩, .slice none 0 0, .slice none 0 0]) := Lib.hid (by rw [hw5]; exact Bk.new _ _ _)
  have R5 := Lib.hid (R4.out.below b5 R4.out.lt)
  have Q5 := Lib.hid (Q4.out.below b5 Q4.out.lt)
  have W5 := Lib.hid (W4.out.below b5)
  have F5 : Hid (FrS (Two p q) w w5) := Lib.hid (F4.out.trans (FrS.of_below b5))
  have NG : Hid (w4.heap.size ≠ p) := Lib.hid (by have := W4.out.lt; omega)
  have NG2 : Hid (w4.heap.size ≠ q ∧ w.heap.size < w4.heap.size) := Lib.hid (by have := Q4.out.lt; have := R4.out.lt; exact ⟨by omega, by omega⟩)
  rw [← hw5]
  clear hw5 b5
  have k0 := V5.out.cell 0
  change _ = some (Value.int .i64 0) at k0
  go_wp2_with fail
  refine (rreq_any true W5.out Q5.out).mono ?_
  rintro e1 w6 ⟨rfl, hg, hr6⟩
  have Q6 := Lib.hid (Q5.out.grown hg (by intro e; injection e with e; exact NQ.out e))
  have R6 := Lib.hid (R5.out.grown hg (by intro e; injection e with e; exact NE.out.1 e))
  have F6 := Lib.hid (F5.out.trans (FrS.of_grown hg (Or.inl rfl)))
  have V6 := Lib.hid (V5.out.grown hg (by intro e; injection e with e; exact NG.out e))
  have W6 := Lib.hid hr6
  clear hg hr6 k0
  have k0 := V6.out.cell 0
  change _ = some (Value.int .i64 0) at k0
  go_wp2_with fail
  refine (good_any false (by rw [reqE_yes, beq_eq_false_iff_ne]; exact HE.out) W6.out Q6.out).mono ?_
  rintro e1 w' ⟨rfl, rfl⟩
  have r0 := R6.out.cell 0
  have r1 := R6.out.cell 1
  have r2 := R6.out.cell 2
  have r3 := R6.out.cell 3
  have r4 := R6.out.cell 4
  have f0 := R6.out.frozen 0
  have f1 := R6.out.frozen 1
  have f2 := R6.out.frozen 2
  have f3 := R6.out.frozen 3
  have f4 := R6.out.frozen 4
  go_wp2
  obtain ⟨wf, hwf⟩ : ∃ wf, wf = ((((w6.setCell ⟨w.heap.size, 0, none⟩ (.int .i64 0)).setCell ⟨w.heap.size, 1, none⟩ (.int .i64 0)).setCell ⟨w.heap.size, 2, none⟩ (.string ⟨#[]⟩)).setCell ⟨w.heap.size, 3, none⟩ (.slice none 0 0)).setCell ⟨w.heap.size, 4, none⟩ (.slice none 0 0) := ⟨_, rfl⟩
  have GF : Hid (w6.grownBy wf (some w.heap.size)) := Lib.hid (by rw [hwf]; exact grownBy_trans (grownBy_trans (grownBy_trans (grownBy_trans (turned w6 w.heap.size 0 _) (turned _ w.heap.size 1 _)) (turned _ w.heap.size 2 _)) (turned _ w.heap.size 3 _)) (turned _ w.heap.size 4 _))
  have RF : Hid (Bk wf w.heap.size 26 #[.int .i64 0, .int .i64 0, .string ⟨#[]⟩, .slice none 0 0, .slice none 0 0]) := Lib.hid (by rw [hwf]; exact ((((R6.out.put 0 _).put 1 _).put 2 _).put 3 _).put 4 _)
  have QF := Lib.hid (Q6.out.grown GF.out (by intro e; injection e with e; exact NE.out.2 e.symm))
  have WF := Lib.hid (W6.out.other R6.out (by decide) (Ne.symm NE.out.1) GF.out)
  have FF : Hid (FrS (Two p q) w wf) := Lib.hid (F6.out.next (S' := fun b => b = w.heap.size) (FrS.of_grown GF.out rfl) (fun i hi e => by omega))
  rw [← hwf]
  refine bodyPost_ret (results_cell_row rfl _ _ w.heap.size 26 _ (0, 0) _ rfl RF.out Try.underlying26 rfl (by kernel_rfl)) rfl ?_
  exact ⟨_, _, _, _, _, _, _, _, _, b + 1, rfl, FF, QF, by omega, Or.inr ⟨e1, l1, Lib.hid rfl, HE.out, WF⟩⟩

set_option maxRecDepth 100000 in
set_option maxHeartbeats 4000000 in
theorem rv_bad {w : World} {p q b : Nat} {l : List UInt8} {d k : Int} {l1 : List UInt8} (hr : RRd w p l 0) (hq : Bk w q 93 #[.pointer (some ⟨p, 0, none⟩), .int .i64 (b : Nat)]) (hb : b ≤ 1000) (hlt : b < 1000) (hdp : d ≤ 16) (hi : intA l = (k, l1, 0)) (hbad : k < 0 ∨ 5 < k) :
    Calls Try.prog 87 #[.pointer (some ⟨q, 0, none⟩), .int .i64 d] w (DecP RRd 93 (.err 3) p q w) := by
  have t1 : decide (((b : Nat) : Int) < 1000) = true := by rw [decide_eq_true_eq]; omega
  have t2 : decide (d ≤ 16) = true := by rw [decide_eq_true_eq]; omega
  clear hlt hdp
  rcases hbad with hbad | hbad
  · have t3 : decide (0 ≤ k) = false := by rw [decide_eq_false_iff_not]; omega
    clear hbad
    obtain ⟨w1, hw1⟩ : ∃ w1, w1 = w.alloc (.cells #[.int .i64 0, .int .i64 0, .string ⟨#[]⟩, .slice none 0 0, .slice none 0 0] 26) := ⟨_, rfl⟩
    have b1 : Below w.heap.size w w1 := by rw [hw1]; exact below_one _ _
    have R1 : Hid (Bk w1 w.heap.size 26 #[.int .i64 0, .int .i64 0, .string ⟨#[]⟩, .slice none 0 0, .slice none 0 0]) := Lib.hid (by rw [hw1]; exact Bk.new _ _ _)
    have W1 := Lib.hid (hr.below b1)
    have Q1 := Lib.hid (hq.below b1 hq.lt)
    have F1 : Hid (FrS (Two p q) w w1) := Lib.hid (FrS.of_below b1)
    have NQ := Lib.hid (hr.dec_ne hq)
    have NE : Hid (w.heap.size ≠ p ∧ w.heap.size ≠ q) := Lib.hid (by have h1 := hr.lt; have h2 := hq.lt; exact ⟨by omega, by omega⟩)
    have HW := Lib.hid hw1
    have c1 := Q1.out.cell 1
    change _ = some (Value.int .i64 (b : Nat)) at c1
    rw [hw1] at c1
    clear hr hq hw1 b1
    go_enter Try.func87, Try.ntmps87
    go_wp2_with fail
    rw [← HW.out]
    refine (rreq_any true W1.out Q1.out).mono ?_
    rintro e1 w2 ⟨rfl, hg, hr2⟩
    have Q2 := Lib.hid (Q1.out.grown hg (by intro e; injection e with e; exact NQ.out e))
    have R2 := Lib.hid (R1.out.grown hg (by intro e; injection e with e; exact NE.out.1 e))
    have F2 := Lib.hid (F1.out.trans (FrS.of_grown hg (Or.inl rfl)))
    have W2 := Lib.hid hr2
    clear hg hr2 c1
    have c1 := Q2.out.cell 1
    change _ = some (Value.int .i64 (b : Nat)) at c1
    have fz := Q2.out.frozen 1
    obtain ⟨w3, hw3⟩ : ∃ w3, w3 = w2.setCell ⟨q, 1, none⟩ (.int .i64 ((b : Nat) + 1)) := ⟨_, rfl⟩
    have g3 : w2.grownBy w3 (some q) := by rw [hw3]; exact turned _ _ _ _
    have Q3 : Hid (Bk w3 q 93 #[.pointer (some ⟨p, 0, none⟩), .int .i64 ((b + 1 : Nat) : Int)]) := Lib.hid (by rw [hw3]; exact Q2.out.put 1 _)
    have R3 := Lib.hid (R2.out.grown g3 (by intro e; injection e with e; exact NE.out.2 e))
    have F3 := Lib.hid (F2.out.trans (FrS.of_grown g3 (Or.inr rfl)))
    have W3 := Lib.hid (W2.out.other Q2.out (by decide) (Ne.symm NQ.out) g3)
    have HW3 := Lib.hid hw3
    clear hw3 g3
    go_wp2_with fail
    rw [← HW3.out]
    refine (rint_k hi W3.out Q3.out).mono ?_
    rintro e1 w4 ⟨rfl, hg, hr4⟩
    have Q4 := Lib.hid (Q3.out.grown hg (by intro e; injection e with e; exact NQ.out e))
    have R4 := Lib.hid (R3.out.grown hg (by intro e; injection e with e; exact NE.out.1 e))
    have F4 := Lib.hid (F3.out.trans (FrS.of_grown hg (Or.inl rfl)))
    have W4 := Lib.hid hr4
    clear hg hr4 c1 fz
    go_upto_region 4 with fail
    obtain ⟨w5, hw5⟩ : ∃ w5, w5 = w4.alloc (.cells #[.int .i64 k, .int .i64 0, .string ⟨#[]⟩, .slice none 0 0, .slice none 0 0] 26) := ⟨_, rfl⟩
    have b5 : Below w4.heap.size w4 w5 := by rw [hw5]; exact below_one _ _
    have V5 : Hid (Bk w5 w4.heap.size 26 #[.int .i64 k, .int .i64 0, .string ⟨#[]⟩, .slice none 0 0, .slice none 0 0]) := Lib.hid (by rw [hw5]; exact Bk.new _ _ _)
    have R5 := Lib.hid (R4.out.below b5 R4.out.lt)
    have Q5 := Lib.hid (Q4.out.below b5 Q4.out.lt)
    have W5 := Lib.hid (W4.out.below b5)
    have F5 : Hid (FrS (Two p q) w w5) := Lib.hid (F4.out.trans (FrS.of_below b5))
    have NG : Hid (w4.heap.size ≠ p) := Lib.hid (by have := W4.out.lt; omega)
    have NG2 : Hid (w4.heap.size ≠ q ∧ w.heap.size < w4.heap.size) := Lib.hid (by have := Q4.out.lt; have := R4.out.lt; exact ⟨by omega, by omega⟩)
    rw [← hw5]
    clear hw5 b5
    have k0 := V5.out.cell 0
    change _ = some (Value.int .i64 k) at k0
    go_wp2_with fail
    refine (rreq_any false W5.out Q5.out).mono ?_
    rintro e1 w6 ⟨rfl, hg, hr6⟩
    have Q6 := Lib.hid (Q5.out.grown hg (by intro e; injection e with e; exact NQ.out e))
    have R6 := Lib.hid (R5.out.grown hg (by intro e; injection e with e; exact NE.out.1 e))
    have F6 := Lib.hid (F5.out.trans (FrS.of_grown hg (Or.inl rfl)))
    have V6 := Lib.hid (V5.out.grown hg (by intro e; injection e with e; exact NG.out e))
    have W6 := Lib.hid hr6
    clear hg hr6 k0
    have k0 := V6.out.cell 0
    change _ = some (Value.int .i64 k) at k0
    go_wp2_with fail
    refine (good_any false (by decide) W6.out Q6.out).mono ?_
    rintro e1 w' ⟨rfl, rfl⟩
    have r0 := R6.out.cell 0
    have r1 := R6.out.cell 1
    have r2 := R6.out.cell 2
    have r3 := R6.out.cell 3
    have r4 := R6.out.cell 4
    have f0 := R6.out.frozen 0
    have f1 := R6.out.frozen 1
    have f2 := R6.out.frozen 2
    have f3 := R6.out.frozen 3
    have f4 := R6.out.frozen 4
    go_wp2
    obtain ⟨wf, hwf⟩ : ∃ wf, wf = ((((w6.setCell ⟨w.heap.size, 0, none⟩ (.int .i64 0)).setCell ⟨w.heap.size, 1, none⟩ (.int .i64 0)).setCell ⟨w.heap.size, 2, none⟩ (.string ⟨#[]⟩)).setCell ⟨w.heap.size, 3, none⟩ (.slice none 0 0)).setCell ⟨w.heap.size, 4, none⟩ (.slice none 0 0) := ⟨_, rfl⟩
    have GF : Hid (w6.grownBy wf (some w.heap.size)) := Lib.hid (by rw [hwf]; exact grownBy_trans (grownBy_trans (grownBy_trans (grownBy_trans (turned w6 w.heap.size 0 _) (turned _ w.heap.size 1 _)) (turned _ w.heap.size 2 _)) (turned _ w.heap.size 3 _)) (turned _ w.heap.size 4 _))
    have RF : Hid (Bk wf w.heap.size 26 #[.int .i64 0, .int .i64 0, .string ⟨#[]⟩, .slice none 0 0, .slice none 0 0]) := Lib.hid (by rw [hwf]; exact ((((R6.out.put 0 _).put 1 _).put 2 _).put 3 _).put 4 _)
    have QF := Lib.hid (Q6.out.grown GF.out (by intro e; injection e with e; exact NE.out.2 e.symm))
    have WF := Lib.hid (W6.out.other R6.out (by decide) (Ne.symm NE.out.1) GF.out)
    have FF : Hid (FrS (Two p q) w wf) := Lib.hid (F6.out.next (S' := fun b => b = w.heap.size) (FrS.of_grown GF.out rfl) (fun i hi e => by omega))
    rw [← hwf]
    refine bodyPost_ret (results_cell_row rfl _ _ w.heap.size 26 _ (0, 0) _ rfl RF.out Try.underlying26 rfl (by kernel_rfl)) rfl ?_
    exact ⟨_, _, _, _, _, _, _, _, _, b + 1, rfl, FF, QF, by omega, Or.inr ⟨3, l1, Lib.hid rfl, by decide, WF⟩⟩
  · have t3 : decide (0 ≤ k) = true := by rw [decide_eq_true_eq]; omega
    have t4 : decide (k ≤ 5) = false := by rw [decide_eq_false_iff_not]; omega
    clear hbad
    obtain ⟨w1, hw1⟩ : ∃ w1, w1 = w.alloc (.cells #[.int .i64 0, .int .i64 0, .string ⟨#[]⟩, .slice none 0 0, .slice none 0 0] 26) := ⟨_, rfl⟩
    have b1 : Below w.heap.size w w1 := by rw [hw1]; exact below_one _ _
    have R1 : Hid (Bk w1 w.heap.size 26 #[.int .i64 0, .int .i64 0, .string ⟨#[]⟩, .slice none 0 0, .slice none 0 0]) := Lib.hid (by rw [hw1]; exact Bk.new _ _ _)
    have W1 := Lib.hid (hr.below b1)
    have Q1 := Lib.hid (hq.below b1 hq.lt)
    have F1 : Hid (FrS (Two p q) w w1) := Lib.hid (FrS.of_below b1)
    have NQ := Lib.hid (hr.dec_ne hq)
    have NE : Hid (w.heap.size ≠ p ∧ w.heap.size ≠ q) := Lib.hid (by have h1 := hr.lt; have h2 := hq.lt; exact ⟨by omega, by omega⟩)
    have HW := Lib.hid hw1
    have c1 := Q1.out.cell 1
    change _ = some (Value.int .i64 (b : Nat)) at c1
    rw [hw1] at c1
    clear hr hq hw1 b1
    go_enter Try.func87, Try.ntmps87
    go_wp2_with fail
    rw [← HW.out]
    refine (rreq_any true W1.out Q1.out).mono ?_
    rintro e1 w2 ⟨rfl, hg, hr2⟩
    have Q2 := Lib.hid (Q1.out.grown hg (by intro e; injection e with e; exact NQ.out e))
    have R2 := Lib.hid (R1.out.grown hg (by intro e; injection e with e; exact NE.out.1 e))
    have F2 := Lib.hid (F1.out.trans (FrS.of_grown hg (Or.inl rfl)))
    have W2 := Lib.hid hr2
    clear hg hr2 c1
    have c1 := Q2.out.cell 1
    change _ = some (Value.int .i64 (b : Nat)) at c1
    have fz := Q2.out.frozen 1
    obtain ⟨w3, hw3⟩ : ∃ w3, w3 = w2.setCell ⟨q, 1, none⟩ (.int .i64 ((b : Nat) + 1)) := ⟨_, rfl⟩
    have g3 : w2.grownBy w3 (some q) := by rw [hw3]; exact turned _ _ _ _
    have Q3 : Hid (Bk w3 q 93 #[.pointer (some ⟨p, 0, none⟩), .int .i64 ((b + 1 : Nat) : Int)]) := Lib.hid (by rw [hw3]; exact Q2.out.put 1 _)
    have R3 := Lib.hid (R2.out.grown g3 (by intro e; injection e with e; exact NE.out.2 e))
    have F3 := Lib.hid (F2.out.trans (FrS.of_grown g3 (Or.inr rfl)))
    have W3 := Lib.hid (W2.out.other Q2.out (by decide) (Ne.symm NQ.out) g3)
    have HW3 := Lib.hid hw3
    clear hw3 g3
    go_wp2_with fail
    rw [← HW3.out]
    refine (rint_k hi W3.out Q3.out).mono ?_
    rintro e1 w4 ⟨rfl, hg, hr4⟩
    have Q4 := Lib.hid (Q3.out.grown hg (by intro e; injection e with e; exact NQ.out e))
    have R4 := Lib.hid (R3.out.grown hg (by intro e; injection e with e; exact NE.out.1 e))
    have F4 := Lib.hid (F3.out.trans (FrS.of_grown hg (Or.inl rfl)))
    have W4 := Lib.hid hr4
    clear hg hr4 c1 fz
    go_upto_region 4 with fail
    obtain ⟨w5, hw5⟩ : ∃ w5, w5 = w4.alloc (.cells #[.int .i64 k, .int .i64 0, .string ⟨#[]⟩, .slice none 0 0, .slice none 0 0] 26) := ⟨_, rfl⟩
    have b5 : Below w4.heap.size w4 w5 := by rw [hw5]; exact below_one _ _
    have V5 : Hid (Bk w5 w4.heap.size 26 #[.int .i64 k, .int .i64 0, .string ⟨#[]⟩, .slice none 0 0, .slice none 0 0]) := Lib.hid (by rw [hw5]; exact Bk.new _ _ _)
    have R5 := Lib.hid (R4.out.below b5 R4.out.lt)
    have Q5 := Lib.hid (Q4.out.below b5 Q4.out.lt)
    have W5 := Lib.hid (W4.out.below b5)
    have F5 : Hid (FrS (Two p q) w w5) := Lib.hid (F4.out.trans (FrS.of_below b5))
    have NG : Hid (w4.heap.size ≠ p) := Lib.hid (by have := W4.out.lt; omega)
    have NG2 : Hid (w4.heap.size ≠ q ∧ w.heap.size < w4.heap.size) := Lib.hid (by have := Q4.out.lt; have := R4.out.lt; exact ⟨by omega, by omega⟩)
    rw [← hw5]
    clear hw5 b5
    have k0 := V5.out.cell 0
    change _ = some (Value.int .i64 k) at k0
    go_wp2_with fail
    refine (rreq_any false W5.out Q5.out).mono ?_
    rintro e1 w6 ⟨rfl, hg, hr6⟩
    have Q6 := Lib.hid (Q5.out.grown hg (by intro e; injection e with e; exact NQ.out e))
    have R6 := Lib.hid (R5.out.grown hg (by intro e; injection e with e; exact NE.out.1 e))
    have F6 := Lib.hid (F5.out.trans (FrS.of_grown hg (Or.inl rfl)))
    have V6 := Lib.hid (V5.out.grown hg (by intro e; injection e with e; exact NG.out e))
    have W6 := Lib.hid hr6
    clear hg hr6 k0
    have k0 := V6.out.cell 0
    change _ = some (Value.int .i64 k) at k0
    go_wp2_with fail
    refine (good_any false (by decide) W6.out Q6.out).mono ?_
    rintro e1 w' ⟨rfl, rfl⟩
    have r0 := R6.out.cell 0
    have r1 := R6.out.cell 1
    have r2 := R6.out.cell 2
    have r3 := R6.out.cell 3
    have r4 := R6.out.cell 4
    have f0 := R6.out.frozen 0
    have f1 := R6.out.frozen 1
    have f2 := R6.out.frozen 2
    have f3 := R6.out.frozen 3
    have f4 := R6.out.frozen 4
    go_wp2
    obtain ⟨wf, hwf⟩ : ∃ wf, wf = ((((w6.setCell ⟨w.heap.size, 0, none⟩ (.int .i64 0)).setCell ⟨w.heap.size, 1, none⟩ (.int .i64 0)).setCell ⟨w.heap.size, 2, none⟩ (.string ⟨#[]⟩)).setCell ⟨w.heap.size, 3, none⟩ (.slice none 0 0)).setCell ⟨w.heap.size, 4, none⟩ (.slice none 0 0) := ⟨_, rfl⟩
    have GF : Hid (w6.grownBy wf (some w.heap.size)) := Lib.hid (by rw [hwf]; exact grownBy_trans (grownBy_trans (grownBy_trans (grownBy_trans (turned w6 w.heap.size 0 _) (turned _ w.heap.size 1 _)) (turned _ w.heap.size 2 _)) (turned _ w.heap.size 3 _)) (turned _ w.heap.size 4 _))
    have RF : Hid (Bk wf w.heap.size 26 #[.int .i64 0, .int .i64 0, .string ⟨#[]⟩, .slice none 0 0, .slice none 0 0]) := Lib.hid (by rw [hwf]; exact ((((R6.out.put 0 _).put 1 _).put 2 _).put 3 _).put 4 _)
    have QF := Lib.hid (Q6.out.grown GF.out (by intro e; injection e with e; exact NE.out.2 e.symm))
    have WF := Lib.hid (W6.out.other R6.out (by decide) (Ne.symm NE.out.1) GF.out)
    have FF : Hid (FrS (Two p q) w wf) := Lib.hid (F6.out.next (S' := fun b => b = w.heap.size) (FrS.of_grown GF.out rfl) (fun i hi e => by omega))
    rw [← hwf]
    refine bodyPost_ret (results_cell_row rfl _ _ w.heap.size 26 _ (0, 0) _ rfl RF.out Try.underlying26 rfl (by kernel_rfl)) rfl ?_
    exact ⟨_, _, _, _, _, _, _, _, _, b + 1, rfl, FF, QF, by omega, Or.inr ⟨3, l1, Lib.hid rfl, by decide, WF⟩⟩

set_option maxRecDepth 100000 in
set_option maxHeartbeats 4000000 in
theorem rv_0 {w : World} {p q b : Nat} {l : List UInt8} {d : Int} {l1 : List UInt8} (hr : RRd w p l 0) (hq : Bk w q 93 #[.pointer (some ⟨p, 0, none⟩), .int .i64 (b : Nat)]) (hb : b ≤ 1000) (hlt : b < 1000) (hdp : d ≤ 16) (hi : intA l = (0, l1, 0)) :
    Calls Try.prog 87 #[.pointer (some ⟨q, 0, none⟩), .int .i64 d] w (DecP RRd 93 (.ok nullT l1 (b + 1)) p q w) := by
  have t1 : decide (((b : Nat) : Int) < 1000) = true := by rw [decide_eq_true_eq]; omega
  have t2 : decide (d ≤ 16) = true := by rw [decide_eq_true_eq]; omega
  clear hlt hdp
  obtain ⟨w1, hw1⟩ : ∃ w1, w1 = w.alloc (.cells #[.int .i64 0, .int .i64 0, .string ⟨#[]⟩, .slice none 0 0, .slice none 0 0] 26) := ⟨_, rfl⟩
  have b1 : Below w.heap.size w w1 := by rw [hw1]; exact below_one _ _
  have R1 : Hid (Bk w1 w.heap.size 26 #[.int .i64 0, .int .i64 0, .string ⟨#[]⟩, .slice none 0 0, .slice none 0 0]) := Lib.hid (by rw [hw1]; exact Bk.new _ _ _)
  have W1 := Lib.hid (hr.below b1)
  have Q1 := Lib.hid (hq.below b1 hq.lt)
  have F1 : Hid (FrS (Two p q) w w1) := Lib.hid (FrS.of_below b1)
  have NQ := Lib.hid (hr.dec_ne hq)
  have NE : Hid (w.heap.size ≠ p ∧ w.heap.size ≠ q) := Lib.hid (by have h1 := hr.lt; have h2 := hq.lt; exact ⟨by omega, by omega⟩)
  have HW := Lib.hid hw1
  have c1 := Q1.out.cell 1
  change _ = some (Value.int .i64 (b : Nat)) at c1
  rw [hw1] at c1
  clear hr hq hw1 b1
  go_enter Try.func87, Try.ntmps87
  go_wp2_with fail
  rw [← HW.out]
  refine (rreq_any true W1.out Q1.out).mono ?_
  rintro e1 w2 ⟨rfl, hg, hr2⟩
  have Q2 := Lib.hid (Q1.out.grown hg (by intro e; injection e with e; exact NQ.out e))
  have R2 := Lib.hid (R1.out.grown hg (by intro e; injection e with e; exact NE.out.1 e))
  have F2 := Lib.hid (F1.out.trans (FrS.of_grown hg (Or.inl rfl)))
  have W2 := Lib.hid hr2
  clear hg hr2 c1
  have c1 := Q2.out.cell 1
  change _ = some (Value.int .i64 (b : Nat)) at c1
  have fz := Q2.out.frozen 1
  obtain ⟨w3, hw3⟩ : ∃ w3, w3 = w2.setCell ⟨q, 1, none⟩ (.int .i64 ((b : Nat) + 1)) := ⟨_, rfl⟩
  have g3 : w2.grownBy w3 (some q) := by rw [hw3]; exact turned _ _ _ _
  have Q3 : Hid (Bk w3 q 93 #[.pointer (some ⟨p, 0, none⟩), .int .i64 ((b + 1 : Nat) : Int)]) := Lib.hid (by rw [hw3]; exact Q2.out.put 1 _)
  have R3 := Lib.hid (R2.out.grown g3 (by intro e; injection e with e; exact NE.out.2 e))
  have F3 := Lib.hid (F2.out.trans (FrS.of_grown g3 (Or.inr rfl)))
  have W3 := Lib.hid (W2.out.other Q2.out (by decide) (Ne.symm NQ.out) g3)
  have HW3 := Lib.hid hw3
  clear hw3 g3
  go_wp2_with fail
  rw [← HW3.out]
  refine (rint_k hi W3.out Q3.out).mono ?_
  rintro e1 w4 ⟨rfl, hg, hr4⟩
  have Q4 := Lib.hid (Q3.out.grown hg (by intro e; injection e with e; exact NQ.out e))
  have R4 := Lib.hid (R3.out.grown hg (by intro e; injection e with e; exact NE.out.1 e))
  have F4 := Lib.hid (F3.out.trans (FrS.of_grown hg (Or.inl rfl)))
  have W4 := Lib.hid hr4
  clear hg hr4 c1 fz
  go_upto_region 4 with fail
  obtain ⟨w5, hw5⟩ : ∃ w5, w5 = w4.alloc (.cells #[.int .i64 0, .int .i64 0, .string ⟨#[]⟩, .slice none 0 0, .slice none 0 0] 26) := ⟨_, rfl⟩
  have b5 : Below w4.heap.size w4 w5 := by rw [hw5]; exact below_one _ _
  have V5 : Hid (Bk w5 w4.heap.size 26 #[.int .i64 0, .int .i64 0, .string ⟨#[]⟩, .slice none 0 0, .slice none 0 0]) := Lib.hid (by rw [hw5]; exact Bk.new _ _ _)
  have R5 := Lib.hid (R4.out.below b5 R4.out.lt)
  have Q5 := Lib.hid (Q4.out.below b5 Q4.out.lt)
  have W5 := Lib.hid (W4.out.below b5)
  have F5 : Hid (FrS (Two p q) w w5) := Lib.hid (F4.out.trans (FrS.of_below b5))
  have NG : Hid (w4.heap.size ≠ p) := Lib.hid (by have := W4.out.lt; omega)
  have NG2 : Hid (w4.heap.size ≠ q ∧ w.heap.size < w4.heap.size) := Lib.hid (by have := Q4.out.lt; have := R4.out.lt; exact ⟨by omega, by omega⟩)
  rw [← hw5]
  clear hw5 b5
  have k0 := V5.out.cell 0
  change _ = some (Value.int .i64 0) at k0
  go_wp2_with fail
  refine (rreq_any true W5.out Q5.out).mono ?_
  rintro e1 w6 ⟨rfl, hg, hr6⟩
  have Q6 := Lib.hid (Q5.out.grown hg (by intro e; injection e with e; exact NQ.out e))
  have R6 := Lib.hid (R5.out.grown hg (by intro e; injection e with e; exact NE.out.1 e))
  have F6 := Lib.hid (F5.out.trans (FrS.of_grown hg (Or.inl rfl)))
  have V6 := Lib.hid (V5.out.grown hg (by intro e; injection e with e; exact NG.out e))
  have W6 := Lib.hid hr6
  clear hg hr6 k0
  have k0 := V6.out.cell 0
  change _ = some (Value.int .i64 0) at k0
  go_wp2_with fail
  refine (good_any true (by decide) W6.out Q6.out).mono ?_
  rintro e1 w' ⟨rfl, rfl⟩
  clear k0
  have v0 := V6.out.cell 0
  change _ = some (Value.int .i64 0) at v0
  have v1 := V6.out.cell 1
  change _ = some (Value.int .i64 0) at v1
  have v2 := V6.out.cell 2
  change _ = some (Value.string ⟨#[]⟩) at v2
  have v3 := V6.out.cell 3
  change _ = some (Value.slice none 0 0) at v3
  have v4 := V6.out.cell 4
  change _ = some (Value.slice none 0 0) at v4
  have r0 := R6.out.cell 0
  have r1 := R6.out.cell 1
  have r2 := R6.out.cell 2
  have r3 := R6.out.cell 3
  have r4 := R6.out.cell 4
  have f0 := R6.out.frozen 0
  have f1 := R6.out.frozen 1
  have f2 := R6.out.frozen 2
  have f3 := R6.out.frozen 3
  have f4 := R6.out.frozen 4
  go_wp2
  obtain ⟨wf, hwf⟩ : ∃ wf, wf = ((((w6.setCell ⟨w.heap.size, 0, none⟩ (.int .i64 0)).setCell ⟨w.heap.size, 1, none⟩ (.int .i64 0)).setCell ⟨w.heap.size, 2, none⟩ (.string ⟨#[]⟩)).setCell ⟨w.heap.size, 3, none⟩ (.slice none 0 0)).setCell ⟨w.heap.size, 4, none⟩ (.slice none 0 0) := ⟨_, rfl⟩
  have GF : Hid (w6.grownBy wf (some w.heap.size)) := Lib.hid (by rw [hwf]; exact grownBy_trans (grownBy_trans (grownBy_trans (grownBy_trans (turned w6 w.heap.size 0 _) (turned _ w.heap.size 1 _)) (turned _ w.heap.size 2 _)) (turned _ w.heap.size 3 _)) (turned _ w.heap.size 4 _))
  have RF : Hid (Bk wf w.heap.size 26 #[.int .i64 0, .int .i64 0, .string ⟨#[]⟩, .slice none 0 0, .slice none 0 0]) := Lib.hid (by rw [hwf]; exact ((((R6.out.put 0 _).put 1 _).put 2 _).put 3 _).put 4 _)
  have QF := Lib.hid (Q6.out.grown GF.out (by intro e; injection e with e; exact NE.out.2 e.symm))
  have WF := Lib.hid (W6.out.other R6.out (by decide) (Ne.symm NE.out.1) GF.out)
  have FF : Hid (FrS (Two p q) w wf) := Lib.hid (F6.out.next (S' := fun b => b = w.heap.size) (FrS.of_grown GF.out rfl) (fun i hi e => by omega))
  rw [← hwf]
  refine bodyPost_ret (results_cell_row rfl _ _ w.heap.size 26 _ (0, 0) _ rfl RF.out Try.underlying26 rfl (by kernel_rfl)) rfl ?_
  exact ⟨_, _, _, _, _, _, _, _, _, b + 1, rfl, FF, QF, by omega, Or.inl ⟨nullT, l1, Lib.hid rfl, WF, Lib.hid (zero_lies _ _)⟩⟩

set_option maxRecDepth 100000 in
set_option maxHeartbeats 4000000 in
theorem rv_1 {w : World} {p q b : Nat} {l : List UInt8} {d i e2 : Int} {l1 l2 : List UInt8} (hr : RRd w p l 0) (hq : Bk w q 93 #[.pointer (some ⟨p, 0, none⟩), .int .i64 (b : Nat)]) (hb : b ≤ 1000) (hlt : b < 1000) (hdp : d ≤ 16) (hi : intA l = (1, l1, 0)) (hi2 : intA l1 = (i, l2, e2)) :
    Calls Try.prog 87 #[.pointer (some ⟨q, 0, none⟩), .int .i64 d] w (DecP RRd 93 (if e2 ≠ 0 then .err e2 else if i = 0 ∨ i = 1 then .ok (.mk 1 i ⟨#[]⟩ [] []) l2 (b + 1) else .err 3) p q w) := by
  have t1 : decide (((b : Nat) : Int) < 1000) = true := by rw [decide_eq_true_eq]; omega
  have t2 : decide (d ≤ 16) = true := by rw [decide_eq_true_eq]; omega
  clear hlt hdp
  have HIB := Lib.hid (show -9223372036854775808 ≤ i ∧ i ≤ 9223372036854775807 by have := intA_in l1; rw [hi2] at this; exact this)
  by_cases he2 : e2 = 0
  · subst he2
    rw [if_neg (by decide)]
    by_cases h01 : i = 0 ∨ i = 1
    · rw [if_pos h01]
      rcases h01 with rfl | rfl
      · obtain ⟨w1, hw1⟩ : ∃ w1, w1 = w.alloc (.cells #[.int .i64 0, .int .i64 0, .string ⟨#[]⟩, .slice none 0 0, .slice none 0 0] 26) := ⟨_, rfl⟩
        have b1 : Below w.heap.size w w1 := by rw [hw1]; exact below_one _ _
        have R1 : Hid (Bk w1 w.heap.size 26 #[.int .i64 0, .int .i64 0, .string ⟨#[]⟩, .slice none 0 0, .slice none 0 0]) := Lib.hid (by rw [hw1]; exact Bk.new _ _ _)
        have W1 := Lib.hid (hr.below b1)
        have Q1 := Lib.hid (hq.below b1 hq.lt)
        have F1 : Hid (FrS (Two p q) w w1) := Lib.hid (FrS.of_below b1)
        have NQ := Lib.hid (hr.dec_ne hq)
        have NE : Hid (w.heap.size ≠ p ∧ w.heap.size ≠ q) := Lib.hid (by have h1 := hr.lt; have h2 := hq.lt; exact ⟨by omega, by omega⟩)
        have HW := Lib.hid hw1
        have c1 := Q1.out.cell 1
        change _ = some (Value.int .i64 (b : Nat)) at c1
        rw [hw1] at c1
        clear hr hq hw1 b1
        go_enter Try.func87, Try.ntmps87
        go_wp2_with fail
        rw [← HW.out]
        refine (rreq_any true W1.out Q1.out).mono ?_
        rintro e1 w2 ⟨rfl, hg, hr2⟩
        have Q2 := Lib.hid (Q1.out.grown hg (by intro e; injection e with e; exact NQ.out e))
        have R2 := Lib.hid (R1.out.grown hg (by intro e; injection e with e; exact NE.out.1 e))
        have F2 := Lib.hid (F1.out.trans (FrS.of_grown hg (Or.inl rfl)))
        have W2 := Lib.hid hr2
        clear hg hr2 c1
        have c1 := Q2.out.cell 1
        change _ = some (Value.int .i64 (b : Nat)) at c1
        have fz := Q2.out.frozen 1
        obtain ⟨w3, hw3⟩ : ∃ w3, w3 = w2.setCell ⟨q, 1, none⟩ (.int .i64 ((b : Nat) + 1)) := ⟨_, rfl⟩
        have g3 : w2.grownBy w3 (some q) := by rw [hw3]; exact turned _ _ _ _
        have Q3 : Hid (Bk w3 q 93 #[.pointer (some ⟨p, 0, none⟩), .int .i64 ((b + 1 : Nat) : Int)]) := Lib.hid (by rw [hw3]; exact Q2.out.put 1 _)
        have R3 := Lib.hid (R2.out.grown g3 (by intro e; injection e with e; exact NE.out.2 e))
        have F3 := Lib.hid (F2.out.trans (FrS.of_grown g3 (Or.inr rfl)))
        have W3 := Lib.hid (W2.out.other Q2.out (by decide) (Ne.symm NQ.out) g3)
        have HW3 := Lib.hid hw3
        clear hw3 g3
        go_wp2_with fail
        rw [← HW3.out]
        refine (rint_k hi W3.out Q3.out).mono ?_
        rintro e1 w4 ⟨rfl, hg, hr4⟩
        have Q4 := Lib.hid (Q3.out.grown hg (by intro e; injection e with e; exact NQ.out e))
        have R4 := Lib.hid (R3.out.grown hg (by intro e; injection e with e; exact NE.out.1 e))
        have F4 := Lib.hid (F3.out.trans (FrS.of_grown hg (Or.inl rfl)))
        have W4 := Lib.hid hr4
        clear hg hr4 c1 fz
        go_upto_region 4 with fail
        obtain ⟨w5, hw5⟩ : ∃ w5, w5 = w4.alloc (.cells #[.int .i64 1, .int .i64 0, .string ⟨#[]⟩, .slice none 0 0, .slice none 0 0] 26) := ⟨_, rfl⟩
        have b5 : Below w4.heap.size w4 w5 := by rw [hw5]; exact below_one _ _
        have V5 : Hid (Bk w5 w4.heap.size 26 #[.int .i64 1, .int .i64 0, .string ⟨#[]⟩, .slice none 0 0, .slice none 0 0]) := Lib.hid (by rw [hw5]; exact Bk.new _ _ _)
        have R5 := Lib.hid (R4.out.below b5 R4.out.lt)
        have Q5 := Lib.hid (Q4.out.below b5 Q4.out.lt)
        have W5 := Lib.hid (W4.out.below b5)
        have F5 : Hid (FrS (Two p q) w w5) := Lib.hid (F4.out.trans (FrS.of_below b5))
        have NG : Hid (w4.heap.size ≠ p) := Lib.hid (by have := W4.out.lt; omega)
        have NG2 : Hid (w4.heap.size ≠ q ∧ w.heap.size < w4.heap.size) := Lib.hid (by have := Q4.out.lt; have := R4.out.lt; exact ⟨by omega, by omega⟩)
        rw [← hw5]
        clear hw5 b5
        have k0 := V5.out.cell 0
        change _ = some (Value.int .i64 1) at k0
        go_wp2_with fail
        refine (rreq_any true W5.out Q5.out).mono ?_
        rintro e1 w6 ⟨rfl, hg, hr6⟩
        have Q6 := Lib.hid (Q5.out.grown hg (by intro e; injection e with e; exact NQ.out e))
        have R6 := Lib.hid (R5.out.grown hg (by intro e; injection e with e; exact NE.out.1 e))
        have F6 := Lib.hid (F5.out.trans (FrS.of_grown hg (Or.inl rfl)))
        have V6 := Lib.hid (V5.out.grown hg (by intro e; injection e with e; exact NG.out e))
        have W6 := Lib.hid hr6
        clear hg hr6 k0
        have k0 := V6.out.cell 0
        change _ = some (Value.int .i64 1) at k0
        go_wp2_with fail
        refine (good_any true (by decide) W6.out Q6.out).mono ?_
        rintro e1 w' ⟨rfl, rfl⟩
        go_wp2_with fail
        refine (rint_k hi2 W6.out Q6.out).mono ?_
        rintro e1 w7 ⟨rfl, hg, hrr⟩
        have Q7 := Lib.hid (Q6.out.grown hg (by intro e; injection e with e; exact NQ.out e))
        have R7 := Lib.hid (R6.out.grown hg (by intro e; injection e with e; exact NE.out.1 e))
        have F7 := Lib.hid (F6.out.trans (FrS.of_grown hg (Or.inl rfl)))
        have V7 := Lib.hid (V6.out.grown hg (by intro e; injection e with e; exact NG.out e))
        have W7 := Lib.hid hrr
        clear hg hrr k0
        have k0 := V7.out.cell 0
        change _ = some (Value.int .i64 1) at k0
        have v1 := V7.out.cell 1
        have fz := V7.out.frozen 1
        obtain ⟨w8, hw8⟩ : ∃ w8, w8 = w7.setCell ⟨w4.heap.size, 1, none⟩ (.int .i64 0) := ⟨_, rfl⟩
        have g8 : w7.grownBy w8 (some w4.heap.size) := by rw [hw8]; exact turned _ _ _ _
        have V8 := Lib.hid (show Bk w8 w4.heap.size 26 _ by rw [hw8]; exact V7.out.put 1 (.int .i64 0))
        have Q8 := Lib.hid (Q7.out.grown g8 (by intro e; injection e with e; exact NG2.out.1 e.symm))
        have R8 := Lib.hid (R7.out.grown g8 (by intro e; injection e with e; have := NG2.out.2; omega))
        have F8 : Hid (FrS (Two p q) w w8) := Lib.hid (F7.out.next (S' := fun b => b = w4.heap.size) (FrS.of_grown g8 rfl) (fun i hi e => by have := NG2.out.2; omega))
        have W8 := Lib.hid (W7.out.other V7.out (by decide) (Ne.symm NG.out) g8)
        have HW8 := Lib.hid hw8
        clear hw8 g8
        clear k0
        have i0 := V8.out.cell 1
        change _ = some (Value.int .i64 0) at i0
        go_upto_region 10 with fail
        rw [← HW8.out]
        clear v1 fz
        go_wp2_with fail
        refine (rreq_any true W8.out Q8.out).mono ?_
        rintro e1 w9 ⟨rfl, hg, hrr⟩
        have Q9 := Lib.hid (Q8.out.grown hg (by intro e; injection e with e; exact NQ.out e))
        have R9 := Lib.hid (R8.out.grown hg (by intro e; injection e with e; exact NE.out.1 e))
        have F9 := Lib.hid (F8.out.trans (FrS.of_grown hg (Or.inl rfl)))
        have V9 := Lib.hid (V8.out.grown hg (by intro e; injection e with e; exact NG.out e))
        have W9 := Lib.hid hrr
        clear hg hrr i0
        have k0 := trivial
        clear k0
        have v0 := V9.out.cell 0
        change _ = some (Value.int .i64 1) at v0
        have v1 := V9.out.cell 1
        change _ = some (Value.int .i64 0) at v1
        have v2 := V9.out.cell 2
        change _ = some (Value.string ⟨#[]⟩) at v2
        have v3 := V9.out.cell 3
        change _ = some (Value.slice none 0 0) at v3
        have v4 := V9.out.cell 4
        change _ = some (Value.slice none 0 0) at v4
        have r0 := R9.out.cell 0
        have r1 := R9.out.cell 1
        have r2 := R9.out.cell 2
        have r3 := R9.out.cell 3
        have r4 := R9.out.cell 4
        have f0 := R9.out.frozen 0
        have f1 := R9.out.frozen 1
        have f2 := R9.out.frozen 2
        have f3 := R9.out.frozen 3
        have f4 := R9.out.frozen 4
        go_wp2
        obtain ⟨wf, hwf⟩ : ∃ wf, wf = ((((w9.setCell ⟨w.heap.size, 0, none⟩ (.int .i64 1)).setCell ⟨w.heap.size, 1, none⟩ (.int .i64 0)).setCell ⟨w.heap.size, 2, none⟩ (.string ⟨#[]⟩)).setCell ⟨w.heap.size, 3, none⟩ (.slice none 0 0)).setCell ⟨w.heap.size, 4, none⟩ (.slice none 0 0) := ⟨_, rfl⟩
        have GF : Hid (w9.grownBy wf (some w.heap.size)) := Lib.hid (by rw [hwf]; exact grownBy_trans (grownBy_trans (grownBy_trans (grownBy_trans (turned w9 w.heap.size 0 _) (turned _ w.heap.size 1 _)) (turned _ w.heap.size 2 _)) (turned _ w.heap.size 3 _)) (turned _ w.heap.size 4 _))
        have RF : Hid (Bk wf w.heap.size 26 #[.int .i64 1, .int .i64 0, .string ⟨#[]⟩, .slice none 0 0, .slice none 0 0]) := Lib.hid (by rw [hwf]; exact ((((R9.out.put 0 _).put 1 _).put 2 _).put 3 _).put 4 _)
        have QF := Lib.hid (Q9.out.grown GF.out (by intro e; injection e with e; exact NE.out.2 e.symm))
        have WF := Lib.hid (W9.out.other R9.out (by decide) (Ne.symm NE.out.1) GF.out)
        have FF : Hid (FrS (Two p q) w wf) := Lib.hid (F9.out.next (S' := fun b => b = w.heap.size) (FrS.of_grown GF.out rfl) (fun i hi e => by omega))
        rw [← hwf]
        refine bodyPost_ret (results_cell_row rfl _ _ w.heap.size 26 _ (0, 0) _ rfl RF.out Try.underlying26 rfl (by kernel_rfl)) rfl ?_
        exact ⟨_, _, _, _, _, _, _, _, _, b + 1, rfl, FF, QF, by omega, Or.inl ⟨_, l2, Lib.hid rfl, WF, Lib.hid (leaf_lies (by omega) HIB.out (by decide))⟩⟩
      · obtain ⟨w1, hw1⟩ : ∃ w1, w1 = w.alloc (.cells #[.int .i64 0, .int .i64 0, .string ⟨#[]⟩, .slice none 0 0, .slice none 0 0] 26) := ⟨_, rfl⟩
        have b1 : Below w.heap.size w w1 := by rw [hw1]; exact below_one _ _
        have R1 : Hid (Bk w1 w.heap.size 26 #[.int .i64 0, .int .i64 0, .string ⟨#[]⟩, .slice none 0 0, .slice none 0 0]) := Lib.hid (by rw [hw1]; exact Bk.new _ _ _)
        have W1 := Lib.hid (hr.below b1)
        have Q1 := Lib.hid (hq.below b1 hq.lt)
        have F1 : Hid (FrS (Two p q) w w1) := Lib.hid (FrS.of_below b1)
        have NQ := Lib.hid (hr.dec_ne hq)
        have NE : Hid (w.heap.size ≠ p ∧ w.heap.size ≠ q) := Lib.hid (by have h1 := hr.lt; have h2 := hq.lt; exact ⟨by omega, by omega⟩)
        have HW := Lib.hid hw1
        have c1 := Q1.out.cell 1
        change _ = some (Value.int .i64 (b : Nat)) at c1
        rw [hw1] at c1
        clear hr hq hw1 b1
        go_enter Try.func87, Try.ntmps87
        go_wp2_with fail
        rw [← HW.out]
        refine (rreq_any true W1.out Q1.out).mono ?_
        rintro e1 w2 ⟨rfl, hg, hr2⟩
        have Q2 := Lib.hid (Q1.out.grown hg (by intro e; injection e with e; exact NQ.out e))
        have R2 := Lib.hid (R1.out.grown hg (by intro e; injection e with e; exact NE.out.1 e))
        have F2 := Lib.hid (F1.out.trans (FrS.of_grown hg (Or.inl rfl)))
        have W2 := Lib.hid hr2
        clear hg hr2 c1
        have c1 := Q2.out.cell 1
        change _ = some (Value.int .i64 (b : Nat)) at c1
        have fz := Q2.out.frozen 1
        obtain ⟨w3, hw3⟩ : ∃ w3, w3 = w2.setCell ⟨q, 1, none⟩ (.int .i64 ((b : Nat) + 1)) := ⟨_, rfl⟩
        have g3 : w2.grownBy w3 (some q) := by rw [hw3]; exact turned _ _ _ _
        have Q3 : Hid (Bk w3 q 93 #[.pointer (some ⟨p, 0, none⟩), .int .i64 ((b + 1 : Nat) : Int)]) := Lib.hid (by rw [hw3]; exact Q2.out.put 1 _)
        have R3 := Lib.hid (R2.out.grown g3 (by intro e; injection e with e; exact NE.out.2 e))
        have F3 := Lib.hid (F2.out.trans (FrS.of_grown g3 (Or.inr rfl)))
        have W3 := Lib.hid (W2.out.other Q2.out (by decide) (Ne.symm NQ.out) g3)
        have HW3 := Lib.hid hw3
        clear hw3 g3
        go_wp2_with fail
        rw [← HW3.out]
        refine (rint_k hi W3.out Q3.out).mono ?_
        rintro e1 w4 ⟨rfl, hg, hr4⟩
        have Q4 := Lib.hid (Q3.out.grown hg (by intro e; injection e with e; exact NQ.out e))
        have R4 := Lib.hid (R3.out.grown hg (by intro e; injection e with e; exact NE.out.1 e))
        have F4 := Lib.hid (F3.out.trans (FrS.of_grown hg (Or.inl rfl)))
        have W4 := Lib.hid hr4
        clear hg hr4 c1 fz
        go_upto_region 4 with fail
        obtain ⟨w5, hw5⟩ : ∃ w5, w5 = w4.alloc (.cells #[.int .i64 1, .int .i64 0, .string ⟨#[]⟩, .slice none 0 0, .slice none 0 0] 26) := ⟨_, rfl⟩
        have b5 : Below w4.heap.size w4 w5 := by rw [hw5]; exact below_one _ _
        have V5 : Hid (Bk w5 w4.heap.size 26 #[.int .i64 1, .int .i64 0, .string ⟨#[]⟩, .slice none 0 0, .slice none 0 0]) := Lib.hid (by rw [hw5]; exact Bk.new _ _ _)
        have R5 := Lib.hid (R4.out.below b5 R4.out.lt)
        have Q5 := Lib.hid (Q4.out.below b5 Q4.out.lt)
        have W5 := Lib.hid (W4.out.below b5)
        have F5 : Hid (FrS (Two p q) w w5) := Lib.hid (F4.out.trans (FrS.of_below b5))
        have NG : Hid (w4.heap.size ≠ p) := Lib.hid (by have := W4.out.lt; omega)
        have NG2 : Hid (w4.heap.size ≠ q ∧ w.heap.size < w4.heap.size) := Lib.hid (by have := Q4.out.lt; have := R4.out.lt; exact ⟨by omega, by omega⟩)
        rw [← hw5]
        clear hw5 b5
        have k0 := V5.out.cell 0
        change _ = some (Value.int .i64 1) at k0
        go_wp2_with fail
        refine (rreq_any true W5.out Q5.out).mono ?_
        rintro e1 w6 ⟨rfl, hg, hr6⟩
        have Q6 := Lib.hid (Q5.out.grown hg (by intro e; injection e with e; exact NQ.out e))
        have R6 := Lib.hid (R5.out.grown hg (by intro e; injection e with e; exact NE.out.1 e))
        have F6 := Lib.hid (F5.out.trans (FrS.of_grown hg (Or.inl rfl)))
        have V6 := Lib.hid (V5.out.grown hg (by intro e; injection e with e; exact NG.out e))
        have W6 := Lib.hid hr6
        clear hg hr6 k0
        have k0 := V6.out.cell 0
        change _ = some (Value.int .i64 1) at k0
        go_wp2_with fail
        refine (good_any true (by decide) W6.out Q6.out).mono ?_
        rintro e1 w' ⟨rfl, rfl⟩
        go_wp2_with fail
        refine (rint_k hi2 W6.out Q6.out).mono ?_
        rintro e1 w7 ⟨rfl, hg, hrr⟩
        have Q7 := Lib.hid (Q6.out.grown hg (by intro e; injection e with e; exact NQ.out e))
        have R7 := Lib.hid (R6.out.grown hg (by intro e; injection e with e; exact NE.out.1 e))
        have F7 := Lib.hid (F6.out.trans (FrS.of_grown hg (Or.inl rfl)))
        have V7 := Lib.hid (V6.out.grown hg (by intro e; injection e with e; exact NG.out e))
        have W7 := Lib.hid hrr
        clear hg hrr k0
        have k0 := V7.out.cell 0
        change _ = some (Value.int .i64 1) at k0
        have v1 := V7.out.cell 1
        have fz := V7.out.frozen 1
        obtain ⟨w8, hw8⟩ : ∃ w8, w8 = w7.setCell ⟨w4.heap.size, 1, none⟩ (.int .i64 1) := ⟨_, rfl⟩
        have g8 : w7.grownBy w8 (some w4.heap.size) := by rw [hw8]; exact turned _ _ _ _
        have V8 := Lib.hid (show Bk w8 w4.heap.size 26 _ by rw [hw8]; exact V7.out.put 1 (.int .i64 1))
        have Q8 := Lib.hid (Q7.out.grown g8 (by intro e; injection e with e; exact NG2.out.1 e.symm))
        have R8 := Lib.hid (R7.out.grown g8 (by intro e; injection e with e; have := NG2.out.2; omega))
        have F8 : Hid (FrS (Two p q) w w8) := Lib.hid (F7.out.next (S' := fun b => b = w4.heap.size) (FrS.of_grown g8 rfl) (fun i hi e => by have := NG2.out.2; omega))
        have W8 := Lib.hid (W7.out.other V7.out (by decide) (Ne.symm NG.out) g8)
        have HW8 := Lib.hid hw8
        clear hw8 g8
        clear k0
        have i0 := V8.out.cell 1
        change _ = some (Value.int .i64 1) at i0
        go_upto_region 10 with fail
        rw [← HW8.out]
        clear v1 fz
        go_wp2_with fail
        refine (rreq_any true W8.out Q8.out).mono ?_
        rintro e1 w9 ⟨rfl, hg, hrr⟩
        have Q9 := Lib.hid (Q8.out.grown hg (by intro e; injection e with e; exact NQ.out e))
        have R9 := Lib.hid (R8.out.grown hg (by intro e; injection e with e; exact NE.out.1 e))
        have F9 := Lib.hid (F8.out.trans (FrS.of_grown hg (Or.inl rfl)))
        have V9 := Lib.hid (V8.out.grown hg (by intro e; injection e with e; exact NG.out e))
        have W9 := Lib.hid hrr
        clear hg hrr i0
        have k0 := trivial
        clear k0
        have v0 := V9.out.cell 0
        change _ = some (Value.int .i64 1) at v0
        have v1 := V9.out.cell 1
        change _ = some (Value.int .i64 1) at v1
        have v2 := V9.out.cell 2
        change _ = some (Value.string ⟨#[]⟩) at v2
        have v3 := V9.out.cell 3
        change _ = some (Value.slice none 0 0) at v3
        have v4 := V9.out.cell 4
        change _ = some (Value.slice none 0 0) at v4
        have r0 := R9.out.cell 0
        have r1 := R9.out.cell 1
        have r2 := R9.out.cell 2
        have r3 := R9.out.cell 3
        have r4 := R9.out.cell 4
        have f0 := R9.out.frozen 0
        have f1 := R9.out.frozen 1
        have f2 := R9.out.frozen 2
        have f3 := R9.out.frozen 3
        have f4 := R9.out.frozen 4
        go_wp2
        obtain ⟨wf, hwf⟩ : ∃ wf, wf = ((((w9.setCell ⟨w.heap.size, 0, none⟩ (.int .i64 1)).setCell ⟨w.heap.size, 1, none⟩ (.int .i64 1)).setCell ⟨w.heap.size, 2, none⟩ (.string ⟨#[]⟩)).setCell ⟨w.heap.size, 3, none⟩ (.slice none 0 0)).setCell ⟨w.heap.size, 4, none⟩ (.slice none 0 0) := ⟨_, rfl⟩
        have GF : Hid (w9.grownBy wf (some w.heap.size)) := Lib.hid (by rw [hwf]; exact grownBy_trans (grownBy_trans (grownBy_trans (grownBy_trans (turned w9 w.heap.size 0 _) (turned _ w.heap.size 1 _)) (turned _ w.heap.size 2 _)) (turned _ w.heap.size 3 _)) (turned _ w.heap.size 4 _))
        have RF : Hid (Bk wf w.heap.size 26 #[.int .i64 1, .int .i64 1, .string ⟨#[]⟩, .slice none 0 0, .slice none 0 0]) := Lib.hid (by rw [hwf]; exact ((((R9.out.put 0 _).put 1 _).put 2 _).put 3 _).put 4 _)
        have QF := Lib.hid (Q9.out.grown GF.out (by intro e; injection e with e; exact NE.out.2 e.symm))
        have WF := Lib.hid (W9.out.other R9.out (by decide) (Ne.symm NE.out.1) GF.out)
        have FF : Hid (FrS (Two p q) w wf) := Lib.hid (F9.out.next (S' := fun b => b = w.heap.size) (FrS.of_grown GF.out rfl) (fun i hi e => by omega))
        rw [← hwf]
        refine bodyPost_ret (results_cell_row rfl _ _ w.heap.size 26 _ (0, 0) _ rfl RF.out Try.underlying26 rfl (by kernel_rfl)) rfl ?_
        exact ⟨_, _, _, _, _, _, _, _, _, b + 1, rfl, FF, QF, by omega, Or.inl ⟨_, l2, Lib.hid rfl, WF, Lib.hid (leaf_lies (by omega) HIB.out (by decide))⟩⟩
    · rw [if_neg h01]
      have i00 : (i == 0) = false := by rw [beq_eq_false_iff_ne]; omega
      have i01 : (i == 1) = false := by rw [beq_eq_false_iff_ne]; omega
      clear h01
      obtain ⟨w1, hw1⟩ : ∃ w1, w1 = w.alloc (.cells #[.int .i64 0, .int .i64 0, .string ⟨#[]⟩, .slice none 0 0, .slice none 0 0] 26) := ⟨_, rfl⟩
      have b1 : Below w.heap.size w w1 := by rw [hw1]; exact below_one _ _
      have R1 : Hid (Bk w1 w.heap.size 26 #[.int .i64 0, .int .i64 0, .string ⟨#[]⟩, .slice none 0 0, .slice none 0 0]) := Lib.hid (by rw [hw1]; exact Bk.new _ _ _)
      have W1 := Lib.hid (hr.below b1)
      have Q1 := Lib.hid (hq.below b1 hq.lt)
      have F1 : Hid (FrS (Two p q) w w1) := Lib.hid (FrS.of_below b1)
      have NQ := Lib.hid (hr.dec_ne hq)
      have NE : Hid (w.heap.size ≠ p ∧ w.heap.size ≠ q) := Lib.hid (by have h1 := hr.lt; have h2 := hq.lt; exact ⟨by omega, by omega⟩)
      have HW := Lib.hid hw1
      have c1 := Q1.out.cell 1
      change _ = some (Value.int .i64 (b : Nat)) at c1
      rw [hw1] at c1
      clear hr hq hw1 b1
      go_enter Try.func87, Try.ntmps87
      go_wp2_with fail
      rw [← HW.out]
      refine (rreq_any true W1.out Q1.out).mono ?_
      rintro e1 w2 ⟨rfl, hg, hr2⟩
      have Q2 := Lib.hid (Q1.out.grown hg (by intro e; injection e with e; exact NQ.out e))
      have R2 := Lib.hid (R1.out.grown hg (by intro e; injection e with e; exact NE.out.1 e))
      have F2 := Lib.hid (F1.out.trans (FrS.of_grown hg (Or.inl rfl)))
      have W2 := Lib.hid hr2
      clear hg hr2 c1
      have c1 := Q2.out.cell 1
      change _ = some (Value.int .i64 (b : Nat)) at c1
      have fz := Q2.out.frozen 1
      obtain ⟨w3, hw3⟩ : ∃ w3, w3 = w2.setCell ⟨q, 1, none⟩ (.int .i64 ((b : Nat) + 1)) := ⟨_, rfl⟩
      have g3 : w2.grownBy w3 (some q) := by rw [hw3]; exact turned _ _ _ _
      have Q3 : Hid (Bk w3 q 93 #[.pointer (some ⟨p, 0, none⟩), .int .i64 ((b + 1 : Nat) : Int)]) := Lib.hid (by rw [hw3]; exact Q2.out.put 1 _)
      have R3 := Lib.hid (R2.out.grown g3 (by intro e; injection e with e; exact NE.out.2 e))
      have F3 := Lib.hid (F2.out.trans (FrS.of_grown g3 (Or.inr rfl)))
      have W3 := Lib.hid (W2.out.other Q2.out (by decide) (Ne.symm NQ.out) g3)
      have HW3 := Lib.hid hw3
      clear hw3 g3
      go_wp2_with fail
      rw [← HW3.out]
      refine (rint_k hi W3.out Q3.out).mono ?_
      rintro e1 w4 ⟨rfl, hg, hr4⟩
      have Q4 := Lib.hid (Q3.out.grown hg (by intro e; injection e with e; exact NQ.out e))
      have R4 := Lib.hid (R3.out.grown hg (by intro e; injection e with e; exact NE.out.1 e))
      have F4 := Lib.hid (F3.out.trans (FrS.of_grown hg (Or.inl rfl)))
      have W4 := Lib.hid hr4
      clear hg hr4 c1 fz
      go_upto_region 4 with fail
      obtain ⟨w5, hw5⟩ : ∃ w5, w5 = w4.alloc (.cells #[.int .i64 1, .int .i64 0, .string ⟨#[]⟩, .slice none 0 0, .slice none 0 0] 26) := ⟨_, rfl⟩
      have b5 : Below w4.heap.size w4 w5 := by rw [hw5]; exact below_one _ _
      have V5 : Hid (Bk w5 w4.heap.size 26 #[.int .i64 1, .int .i64 0, .string ⟨#[]⟩, .slice none 0 0, .slice none 0 0]) := Lib.hid (by rw [hw5]; exact Bk.new _ _ _)
      have R5 := Lib.hid (R4.out.below b5 R4.out.lt)
      have Q5 := Lib.hid (Q4.out.below b5 Q4.out.lt)
      have W5 := Lib.hid (W4.out.below b5)
      have F5 : Hid (FrS (Two p q) w w5) := Lib.hid (F4.out.trans (FrS.of_below b5))
      have NG : Hid (w4.heap.size ≠ p) := Lib.hid (by have := W4.out.lt; omega)
      have NG2 : Hid (w4.heap.size ≠ q ∧ w.heap.size < w4.heap.size) := Lib.hid (by have := Q4.out.lt; have := R4.out.lt; exact ⟨by omega, by omega⟩)
      rw [← hw5]
      clear hw5 b5
      have k0 := V5.out.cell 0
      change _ = some (Value.int .i64 1) at k0
      go_wp2_with fail
      refine (rreq_any true W5.out Q5.out).mono ?_
      rintro e1 w6 ⟨rfl, hg, hr6⟩
      have Q6 := Lib.hid (Q5.out.grown hg (by intro e; injection e with e; exact NQ.out e))
      have R6 := Lib.hid (R5.out.grown hg (by intro e; injection e with e; exact NE.out.1 e))
      have F6 := Lib.hid (F5.out.trans (FrS.of_grown hg (Or.inl rfl)))
      have V6 := Lib.hid (V5.out.grown hg (by intro e; injection e with e; exact NG.out e))
      have W6 := Lib.hid hr6
      clear hg hr6 k0
      have k0 := V6.out.cell 0
      change _ = some (Value.int .i64 1) at k0
      go_wp2_with fail
      refine (good_any true (by decide) W6.out Q6.out).mono ?_
      rintro e1 w' ⟨rfl, rfl⟩
      go_wp2_with fail
      refine (rint_k hi2 W6.out Q6.out).mono ?_
      rintro e1 w7 ⟨rfl, hg, hrr⟩
      have Q7 := Lib.hid (Q6.out.grown hg (by intro e; injection e with e; exact NQ.out e))
      have R7 := Lib.hid (R6.out.grown hg (by intro e; injection e with e; exact NE.out.1 e))
      have F7 := Lib.hid (F6.out.trans (FrS.of_grown hg (Or.inl rfl)))
      have V7 := Lib.hid (V6.out.grown hg (by intro e; injection e with e; exact NG.out e))
      have W7 := Lib.hid hrr
      clear hg hrr k0
      have k0 := V7.out.cell 0
      change _ = some (Value.int .i64 1) at k0
      have v1 := V7.out.cell 1
      have fz := V7.out.frozen 1
      obtain ⟨w8, hw8⟩ : ∃ w8, w8 = w7.setCell ⟨w4.heap.size, 1, none⟩ (.int .i64 i) := ⟨_, rfl⟩
      have g8 : w7.grownBy w8 (some w4.heap.size) := by rw [hw8]; exact turned _ _ _ _
      have V8 := Lib.hid (show Bk w8 w4.heap.size 26 _ by rw [hw8]; exact V7.out.put 1 (.int .i64 i))
      have Q8 := Lib.hid (Q7.out.grown g8 (by intro e; injection e with e; exact NG2.out.1 e.symm))
      have R8 := Lib.hid (R7.out.grown g8 (by intro e; injection e with e; have := NG2.out.2; omega))
      have F8 : Hid (FrS (Two p q) w w8) := Lib.hid (F7.out.next (S' := fun b => b = w4.heap.size) (FrS.of_grown g8 rfl) (fun i hi e => by have := NG2.out.2; omega))
      have W8 := Lib.hid (W7.out.other V7.out (by decide) (Ne.symm NG.out) g8)
      have HW8 := Lib.hid hw8
      clear hw8 g8
      clear k0
      have i0 := V8.out.cell 1
      change _ = some (Value.int .i64 i) at i0
      go_upto_region 10 with fail
      rw [← HW8.out]
      clear v1 fz
      go_wp2_with fail
      refine (rreq_any false W8.out Q8.out).mono ?_
      rintro e1 w9 ⟨rfl, hg, hrr⟩
      have Q9 := Lib.hid (Q8.out.grown hg (by intro e; injection e with e; exact NQ.out e))
      have R9 := Lib.hid (R8.out.grown hg (by intro e; injection e with e; exact NE.out.1 e))
      have F9 := Lib.hid (F8.out.trans (FrS.of_grown hg (Or.inl rfl)))
      have V9 := Lib.hid (V8.out.grown hg (by intro e; injection e with e; exact NG.out e))
      have W9 := Lib.hid hrr
      clear hg hrr i0
      have k0 := trivial
      clear k0
      have v0 := V9.out.cell 0
      change _ = some (Value.int .i64 1) at v0
      have v1 := V9.out.cell 1
      change _ = some (Value.int .i64 i) at v1
      have v2 := V9.out.cell 2
      change _ = some (Value.string ⟨#[]⟩) at v2
      have v3 := V9.out.cell 3
      change _ = some (Value.slice none 0 0) at v3
      have v4 := V9.out.cell 4
      change _ = some (Value.slice none 0 0) at v4
      have r0 := R9.out.cell 0
      have r1 := R9.out.cell 1
      have r2 := R9.out.cell 2
      have r3 := R9.out.cell 3
      have r4 := R9.out.cell 4
      have f0 := R9.out.frozen 0
      have f1 := R9.out.frozen 1
      have f2 := R9.out.frozen 2
      have f3 := R9.out.frozen 3
      have f4 := R9.out.frozen 4
      go_wp2
      obtain ⟨wf, hwf⟩ : ∃ wf, wf = ((((w9.setCell ⟨w.heap.size, 0, none⟩ (.int .i64 1)).setCell ⟨w.heap.size, 1, none⟩ (.int .i64 i)).setCell ⟨w.heap.size, 2, none⟩ (.string ⟨#[]⟩)).setCell ⟨w.heap.size, 3, none⟩ (.slice none 0 0)).setCell ⟨w.heap.size, 4, none⟩ (.slice none 0 0) := ⟨_, rfl⟩
      have GF : Hid (w9.grownBy wf (some w.heap.size)) := Lib.hid (by rw [hwf]; exact grownBy_trans (grownBy_trans (grownBy_trans (grownBy_trans (turned w9 w.heap.size 0 _) (turned _ w.heap.size 1 _)) (turned _ w.heap.size 2 _)) (turned _ w.heap.size 3 _)) (turned _ w.heap.size 4 _))
      have RF : Hid (Bk wf w.heap.size 26 #[.int .i64 1, .int .i64 i, .string ⟨#[]⟩, .slice none 0 0, .slice none 0 0]) := Lib.hid (by rw [hwf]; exact ((((R9.out.put 0 _).put 1 _).put 2 _).put 3 _).put 4 _)
      have QF := Lib.hid (Q9.out.grown GF.out (by intro e; injection e with e; exact NE.out.2 e.symm))
      have WF := Lib.hid (W9.out.other R9.out (by decide) (Ne.symm NE.out.1) GF.out)
      have FF : Hid (FrS (Two p q) w wf) := Lib.hid (F9.out.next (S' := fun b => b = w.heap.size) (FrS.of_grown GF.out rfl) (fun i hi e => by omega))
      rw [← hwf]
      refine bodyPost_ret (results_cell_row rfl _ _ w.heap.size 26 _ (0, 0) _ rfl RF.out Try.underlying26 rfl (by kernel_rfl)) rfl ?_
      exact ⟨_, _, _, _, _, _, _, _, _, b + 1, rfl, FF, QF, by omega, Or.inr ⟨3, l2, Lib.hid rfl, by decide, WF⟩⟩
  · have hiz : i = 0 := by
      have h := intA_err (l := l1) (by rw [hi2]; exact he2)
      rw [hi2] at h
      injection h
    subst hiz
    rw [if_pos he2]
    have HE2 := Lib.hid he2
    clear he2
    obtain ⟨w1, hw1⟩ : ∃ w1, w1 = w.alloc (.cells #[.int .i64 0, .int .i64 0, .string ⟨#[]⟩, .slice none 0 0, .slice none 0 0] 26) := ⟨_, rfl⟩
    have b1 : Below w.heap.size w w1 := by rw [hw1]; exact below_one _ _
    have R1 : Hid (Bk w1 w.heap.size 26 #[.int .i64 0, .int .i64 0, .string ⟨#[]⟩, .slice none 0 0, .slice none 0 0]) := Lib.hid (by rw [hw1]; exact Bk.new _ _ _)
    have W1 := Lib.hid (hr.below b1)
    have Q1 := Lib.hid (hq.below b1 hq.lt)
    have F1 : Hid (FrS (Two p q) w w1) := Lib.hid (FrS.of_below b1)
    have NQ := Lib.hid (hr.dec_ne hq)
    have NE : Hid (w.heap.size ≠ p ∧ w.heap.size ≠ q) := Lib.hid (by have h1 := hr.lt; have h2 := hq.lt; exact ⟨by omega, by omega⟩)
    have HW := Lib.hid hw1
    have c1 := Q1.out.cell 1
    change _ = some (Value.int .i64 (b : Nat)) at c1
    rw [hw1] at c1
    clear hr hq hw1 b1
    go_enter Try.func87, Try.ntmps87
    go_wp2_with fail
    rw [← HW.out]
    refine (rreq_any true W1.out Q1.out).mono ?_
    rintro e1 w2 ⟨rfl, hg, hr2⟩
    have Q2 := Lib.hid (Q1.out.grown hg (by intro e; injection e with e; exact NQ.out e))
    have R2 := Lib.hid (R1.out.grown hg (by intro e; injection e with e; exact NE.out.1 e))
    have F2 := Lib.hid (F1.out.trans (FrS.of_grown hg (Or.inl rfl)))
    have W2 := Lib.hid hr2
    clear hg hr2 c1
    have c1 := Q2.out.cell 1
    change _ = some (Value.int .i64 (b : Nat)) at c1
    have fz := Q2.out.frozen 1
    obtain ⟨w3, hw3⟩ : ∃ w3, w3 = w2.setCell ⟨q, 1, none⟩ (.int .i64 ((b : Nat) + 1)) := ⟨_, rfl⟩
    have g3 : w2.grownBy w3 (some q) := by rw [hw3]; exact turned _ _ _ _
    have Q3 : Hid (Bk w3 q 93 #[.pointer (some ⟨p, 0, none⟩), .int .i64 ((b + 1 : Nat) : Int)]) := Lib.hid (by rw [hw3]; exact Q2.out.put 1 _)
    have R3 := Lib.hid (R2.out.grown g3 (by intro e; injection e with e; exact NE.out.2 e))
    have F3 := Lib.hid (F2.out.trans (FrS.of_grown g3 (Or.inr rfl)))
    have W3 := Lib.hid (W2.out.other Q2.out (by decide) (Ne.symm NQ.out) g3)
    have HW3 := Lib.hid hw3
    clear hw3 g3
    go_wp2_with fail
    rw [← HW3.out]
    refine (rint_k hi W3.out Q3.out).mono ?_
    rintro e1 w4 ⟨rfl, hg, hr4⟩
    have Q4 := Lib.hid (Q3.out.grown hg (by intro e; injection e with e; exact NQ.out e))
    have R4 := Lib.hid (R3.out.grown hg (by intro e; injection e with e; exact NE.out.1 e))
    have F4 := Lib.hid (F3.out.trans (FrS.of_grown hg (Or.inl rfl)))
    have W4 := Lib.hid hr4
    clear hg hr4 c1 fz
    go_upto_region 4 with fail
    obtain ⟨w5, hw5⟩ : ∃ w5, w5 = w4.alloc (.cells #[.int .i64 1, .int .i64 0, .string ⟨#[]⟩, .slice none 0 0, .slice none 0 0] 26) := ⟨_, rfl⟩
    have b5 : Below w4.heap.size w4 w5 := by rw [hw5]; exact below_one _ _
    have V5 : Hid (Bk w5 w4.heap.size 26 #[.int .i64 1, .int .i64 0, .string ⟨#[]⟩, .slice none 0 0, .slice none 0 0]) := Lib.hid (by rw [hw5]; exact Bk.new _ _ _)
    have R5 := Lib.hid (R4.out.below b5 R4.out.lt)
    have Q5 := Lib.hid (Q4.out.below b5 Q4.out.lt)
    have W5 := Lib.hid (W4.out.below b5)
    have F5 : Hid (FrS (Two p q) w w5) := Lib.hid (F4.out.trans (FrS.of_below b5))
    have NG : Hid (w4.heap.size ≠ p) := Lib.hid (by have := W4.out.lt; omega)
    have NG2 : Hid (w4.heap.size ≠ q ∧ w.heap.size < w4.heap.size) := Lib.hid (by have := Q4.out.lt; have := R4.out.lt; exact ⟨by omega, by omega⟩)
    rw [← hw5]
    clear hw5 b5
    have k0 := V5.out.cell 0
    change _ = some (Value.int .i64 1) at k0
    go_wp2_with fail
    refine (rreq_any true W5.out Q5.out).mono ?_
    rintro e1 w6 ⟨rfl, hg, hr6⟩
    have Q6 := Lib.hid (Q5.out.grown hg (by intro e; injection e with e; exact NQ.out e))
    have R6 := Lib.hid (R5.out.grown hg (by intro e; injection e with e; exact NE.out.1 e))
    have F6 := Lib.hid (F5.out.trans (FrS.of_grown hg (Or.inl rfl)))
    have V6 := Lib.hid (V5.out.grown hg (by intro e; injection e with e; exact NG.out e))
    have W6 := Lib.hid hr6
    clear hg hr6 k0
    have k0 := V6.out.cell 0
    change _ = some (Value.int .i64 1) at k0
    go_wp2_with fail
    refine (good_any true (by decide) W6.out Q6.out).mono ?_
    rintro e1 w' ⟨rfl, rfl⟩
    go_wp2_with fail
    refine (rint_k hi2 W6.out Q6.out).mono ?_
    rintro e1 w7 ⟨rfl, hg, hrr⟩
    have Q7 := Lib.hid (Q6.out.grown hg (by intro e; injection e with e; exact NQ.out e))
    have R7 := Lib.hid (R6.out.grown hg (by intro e; injection e with e; exact NE.out.1 e))
    have F7 := Lib.hid (F6.out.trans (FrS.of_grown hg (Or.inl rfl)))
    have V7 := Lib.hid (V6.out.grown hg (by intro e; injection e with e; exact NG.out e))
    have W7 := Lib.hid hrr
    clear hg hrr k0
    have k0 := V7.out.cell 0
    change _ = some (Value.int .i64 1) at k0
    have v1 := V7.out.cell 1
    have fz := V7.out.frozen 1
    obtain ⟨w8, hw8⟩ : ∃ w8, w8 = w7.setCell ⟨w4.heap.size, 1, none⟩ (.int .i64 0) := ⟨_, rfl⟩
    have g8 : w7.grownBy w8 (some w4.heap.size) := by rw [hw8]; exact turned _ _ _ _
    have V8 := Lib.hid (show Bk w8 w4.heap.size 26 _ by rw [hw8]; exact V7.out.put 1 (.int .i64 0))
    have Q8 := Lib.hid (Q7.out.grown g8 (by intro e; injection e with e; exact NG2.out.1 e.symm))
    have R8 := Lib.hid (R7.out.grown g8 (by intro e; injection e with e; have := NG2.out.2; omega))
    have F8 : Hid (FrS (Two p q) w w8) := Lib.hid (F7.out.next (S' := fun b => b = w4.heap.size) (FrS.of_grown g8 rfl) (fun i hi e => by have := NG2.out.2; omega))
    have W8 := Lib.hid (W7.out.other V7.out (by decide) (Ne.symm NG.out) g8)
    have HW8 := Lib.hid hw8
    clear hw8 g8
    clear k0
    have i0 := V8.out.cell 1
    change _ = some (Value.int .i64 0) at i0
    go_upto_region 10 with fail
    rw [← HW8.out]
    clear v1 fz
    go_wp2_with fail
    refine (rreq_any true W8.out Q8.out).mono ?_
    rintro e1 w9 ⟨rfl, hg, hrr⟩
    have Q9 := Lib.hid (Q8.out.grown hg (by intro e; injection e with e; exact NQ.out e))
    have R9 := Lib.hid (R8.out.grown hg (by intro e; injection e with e; exact NE.out.1 e))
    have F9 := Lib.hid (F8.out.trans (FrS.of_grown hg (Or.inl rfl)))
    have V9 := Lib.hid (V8.out.grown hg (by intro e; injection e with e; exact NG.out e))
    have W9 := Lib.hid hrr
    clear hg hrr i0
    have k0 := trivial
    clear k0
    have v0 := V9.out.cell 0
    change _ = some (Value.int .i64 1) at v0
    have v1 := V9.out.cell 1
    change _ = some (Value.int .i64 0) at v1
    have v2 := V9.out.cell 2
    change _ = some (Value.string ⟨#[]⟩) at v2
    have v3 := V9.out.cell 3
    change _ = some (Value.slice none 0 0) at v3
    have v4 := V9.out.cell 4
    change _ = some (Value.slice none 0 0) at v4
    have r0 := R9.out.cell 0
    have r1 := R9.out.cell 1
    have r2 := R9.out.cell 2
    have r3 := R9.out.cell 3
    have r4 := R9.out.cell 4
    have f0 := R9.out.frozen 0
    have f1 := R9.out.frozen 1
    have f2 := R9.out.frozen 2
    have f3 := R9.out.frozen 3
    have f4 := R9.out.frozen 4
    go_wp2
    obtain ⟨wf, hwf⟩ : ∃ wf, wf = ((((w9.setCell ⟨w.heap.size, 0, none⟩ (.int .i64 1)).setCell ⟨w.heap.size, 1, none⟩ (.int .i64 0)).setCell ⟨w.heap.size, 2, none⟩ (.string ⟨#[]⟩)).setCell ⟨w.heap.size, 3, none⟩ (.slice none 0 0)).setCell ⟨w.heap.size, 4, none⟩ (.slice none 0 0) := ⟨_, rfl⟩
    have GF : Hid (w9.grownBy wf (some w.heap.size)) := Lib.hid (by rw [hwf]; exact grownBy_trans (grownBy_trans (grownBy_trans (grownBy_trans (turned w9 w.heap.size 0 _) (turned _ w.heap.size 1 _)) (turned _ w.heap.size 2 _)) (turned _ w.heap.size 3 _)) (turned _ w.heap.size 4 _))
    have RF : Hid (Bk wf w.heap.size 26 #[.int .i64 1, .int .i64 0, .string ⟨#[]⟩, .slice none 0 0, .slice none 0 0]) := Lib.hid (by rw [hwf]; exact ((((R9.out.put 0 _).put 1 _).put 2 _).put 3 _).put 4 _)
    have QF := Lib.hid (Q9.out.grown GF.out (by intro e; injection e with e; exact NE.out.2 e.symm))
    have WF := Lib.hid (W9.out.other R9.out (by decide) (Ne.symm NE.out.1) GF.out)
    have FF : Hid (FrS (Two p q) w wf) := Lib.hid (F9.out.next (S' := fun b => b = w.heap.size) (FrS.of_grown GF.out rfl) (fun i hi e => by omega))
    rw [← hwf]
    refine bodyPost_ret (results_cell_row rfl _ _ w.heap.size 26 _ (0, 0) _ rfl RF.out Try.underlying26 rfl (by kernel_rfl)) rfl ?_
    exact ⟨_, _, _, _, _, _, _, _, _, b + 1, rfl, FF, QF, by omega, Or.inr ⟨e2, l2, Lib.hid rfl, HE2.out, WF⟩⟩

set_option maxRecDepth 100000 in
set_option maxHeartbeats 4000000 in
theorem rv_2 {w : World} {p q b : Nat} {l : List UInt8} {d i e2 : Int} {l1 l2 : List UInt8} (hr : RRd w p l 0) (hq : Bk w q 93 #[.pointer (some ⟨p, 0, none⟩), .int .i64 (b : Nat)]) (hb : b ≤ 1000) (hlt : b < 1000) (hdp : d ≤ 16) (hi : intA l = (2, l1, 0)) (hi2 : intA l1 = (i, l2, e2)) :
    Calls Try.prog 87 #[.pointer (some ⟨q, 0, none⟩), .int .i64 d] w (DecP RRd 93 (if e2 ≠ 0 then .err e2 else .ok (.mk 2 i ⟨#[]⟩ [] []) l2 (b + 1)) p q w) := by
  have t1 : decide (((b : Nat) : Int) < 1000) = true := by rw [decide_eq_true_eq]; omega
  have t2 : decide (d ≤ 16) = true := by rw [decide_eq_true_eq]; omega
  clear hlt hdp
  have HIB := Lib.hid (show -9223372036854775808 ≤ i ∧ i ≤ 9223372036854775807 by have := intA_in l1; rw [hi2] at this; exact this)
  by_cases he2 : e2 = 0
  · subst he2
    rw [if_neg (by decide)]
    obtain ⟨w1, hw1⟩ : ∃ w1, w1 = w.alloc (.cells #[.int .i64 0, .int .i64 0, .string ⟨#[]⟩, .slice none 0 0, .slice none 0 0] 26) := ⟨_, rfl⟩
    have b1 : Below w.heap.size w w1 := by rw [hw1]; exact below_one _ _
    have R1 : Hid (Bk w1 w.heap.size 26 #[.int .i64 0, .int .i64 0, .string ⟨#[]⟩, .slice none 0 0, .slice none 0 0]) := Lib.hid (by rw [hw1]; exact Bk.new _ _ _)
    have W1 := Lib.hid (hr.below b1)
    have Q1 := Lib.hid (hq.below b1 hq.lt)
    have F1 : Hid (FrS (Two p q) w w1) := Lib.hid (FrS.of_below b1)
    have NQ := Lib.hid (hr.dec_ne hq)
    have NE : Hid (w.heap.size ≠ p ∧ w.heap.size ≠ q) := Lib.hid (by have h1 := hr.lt; have h2 := hq.lt; exact ⟨by omega, by omega⟩)
    have HW := Lib.hid hw1
    have c1 := Q1.out.cell 1
    change _ = some (Value.int .i64 (b : Nat)) at c1
    rw [hw1] at c1
    clear hr hq hw1 b1
    go_enter Try.func87, Try.ntmps87
    go_wp2_with fail
    rw [← HW.out]
    refine (rreq_any true W1.out Q1.out).mono ?_
    rintro e1 w2 ⟨rfl, hg, hr2⟩
    have Q2 := Lib.hid (Q1.out.grown hg (by intro e; injection e with e; exact NQ.out e))
    have R2 := Lib.hid (R1.out.grown hg (by intro e; injection e with e; exact NE.out.1 e))
    have F2 := Lib.hid (F1.out.trans (FrS.of_grown hg (Or.inl rfl)))
    have W2 := Lib.hid hr2
    clear hg hr2 c1
    have c1 := Q2.out.cell 1
    change _ = some (Value.int .i64 (b : Nat)) at c1
    have fz := Q2.out.frozen 1
    obtain ⟨w3, hw3⟩ : ∃ w3, w3 = w2.setCell ⟨q, 1, none⟩ (.int .i64 ((b : Nat) + 1)) := ⟨_, rfl⟩
    have g3 : w2.grownBy w3 (some q) := by rw [hw3]; exact turned _ _ _ _
    have Q3 : Hid (Bk w3 q 93 #[.pointer (some ⟨p, 0, none⟩), .int .i64 ((b + 1 : Nat) : Int)]) := Lib.hid (by rw [hw3]; exact Q2.out.put 1 _)
    have R3 := Lib.hid (R2.out.grown g3 (by intro e; injection e with e; exact NE.out.2 e))
    have F3 := Lib.hid (F2.out.trans (FrS.of_grown g3 (Or.inr rfl)))
    have W3 := Lib.hid (W2.out.other Q2.out (by decide) (Ne.symm NQ.out) g3)
    have HW3 := Lib.hid hw3
    clear hw3 g3
    go_wp2_with fail
    rw [← HW3.out]
    refine (rint_k hi W3.out Q3.out).mono ?_
    rintro e1 w4 ⟨rfl, hg, hr4⟩
    have Q4 := Lib.hid (Q3.out.grown hg (by intro e; injection e with e; exact NQ.out e))
    have R4 := Lib.hid (R3.out.grown hg (by intro e; injection e with e; exact NE.out.1 e))
    have F4 := Lib.hid (F3.out.trans (FrS.of_grown hg (Or.inl rfl)))
    have W4 := Lib.hid hr4
    clear hg hr4 c1 fz
    go_upto_region 4 with fail
    obtain ⟨w5, hw5⟩ : ∃ w5, w5 = w4.alloc (.cells #[.int .i64 2, .int .i64 0, .string ⟨#[]⟩, .slice none 0 0, .slice none 0 0] 26) := ⟨_, rfl⟩
    have b5 : Below w4.heap.size w4 w5 := by rw [hw5]; exact below_one _ _
    have V5 : Hid (Bk w5 w4.heap.size 26 #[.int .i64 2, .int .i64 0, .string ⟨#[]⟩, .slice none 0 0, .slice none 0 0]) := Lib.hid (by rw [hw5]; exact Bk.new _ _ _)
    have R5 := Lib.hid (R4.out.below b5 R4.out.lt)
    have Q5 := Lib.hid (Q4.out.below b5 Q4.out.lt)
    have W5 := Lib.hid (W4.out.below b5)
    have F5 : Hid (FrS (Two p q) w w5) := Lib.hid (F4.out.trans (FrS.of_below b5))
    have NG : Hid (w4.heap.size ≠ p) := Lib.hid (by have := W4.out.lt; omega)
    have NG2 : Hid (w4.heap.size ≠ q ∧ w.heap.size < w4.heap.size) := Lib.hid (by have := Q4.out.lt; have := R4.out.lt; exact ⟨by omega, by omega⟩)
    rw [← hw5]
    clear hw5 b5
    have k0 := V5.out.cell 0
    change _ = some (Value.int .i64 2) at k0
    go_wp2_with fail
    refine (rreq_any true W5.out Q5.out).mono ?_
    rintro e1 w6 ⟨rfl, hg, hr6⟩
    have Q6 := Lib.hid (Q5.out.grown hg (by intro e; injection e with e; exact NQ.out e))
    have R6 := Lib.hid (R5.out.grown hg (by intro e; injection e with e; exact NE.out.1 e))
    have F6 := Lib.hid (F5.out.trans (FrS.of_grown hg (Or.inl rfl)))
    have V6 := Lib.hid (V5.out.grown hg (by intro e; injection e with e; exact NG.out e))
    have W6 := Lib.hid hr6
    clear hg hr6 k0
    have k0 := V6.out.cell 0
    change _ = some (Value.int .i64 2) at k0
    go_wp2_with fail
    refine (good_any true (by decide) W6.out Q6.out).mono ?_
    rintro e1 w' ⟨rfl, rfl⟩
    go_wp2_with fail
    refine (rint_k hi2 W6.out Q6.out).mono ?_
    rintro e1 w7 ⟨rfl, hg, hrr⟩
    have Q7 := Lib.hid (Q6.out.grown hg (by intro e; injection e with e; exact NQ.out e))
    have R7 := Lib.hid (R6.out.grown hg (by intro e; injection e with e; exact NE.out.1 e))
    have F7 := Lib.hid (F6.out.trans (FrS.of_grown hg (Or.inl rfl)))
    have V7 := Lib.hid (V6.out.grown hg (by intro e; injection e with e; exact NG.out e))
    have W7 := Lib.hid hrr
    clear hg hrr k0
    have k0 := V7.out.cell 0
    change _ = some (Value.int .i64 2) at k0
    have v1 := V7.out.cell 1
    have fz := V7.out.frozen 1
    obtain ⟨w8, hw8⟩ : ∃ w8, w8 = w7.setCell ⟨w4.heap.size, 1, none⟩ (.int .i64 i) := ⟨_, rfl⟩
    have g8 : w7.grownBy w8 (some w4.heap.size) := by rw [hw8]; exact turned _ _ _ _
    have V8 := Lib.hid (show Bk w8 w4.heap.size 26 _ by rw [hw8]; exact V7.out.put 1 (.int .i64 i))
    have Q8 := Lib.hid (Q7.out.grown g8 (by intro e; injection e with e; exact NG2.out.1 e.symm))
    have R8 := Lib.hid (R7.out.grown g8 (by intro e; injection e with e; have := NG2.out.2; omega))
    have F8 : Hid (FrS (Two p q) w w8) := Lib.hid (F7.out.next (S' := fun b => b = w4.heap.size) (FrS.of_grown g8 rfl) (fun i hi e => by have := NG2.out.2; omega))
    have W8 := Lib.hid (W7.out.other V7.out (by decide) (Ne.symm NG.out) g8)
    have HW8 := Lib.hid hw8
    clear hw8 g8
    go_upto_region 18 with fail
    rw [← HW8.out]
    clear v1 fz
    clear k0
    have v0 := V8.out.cell 0
    change _ = some (Value.int .i64 2) at v0
    have v1 := V8.out.cell 1
    change _ = some (Value.int .i64 i) at v1
    have v2 := V8.out.cell 2
    change _ = some (Value.string ⟨#[]⟩) at v2
    have v3 := V8.out.cell 3
    change _ = some (Value.slice none 0 0) at v3
    have v4 := V8.out.cell 4
    change _ = some (Value.slice none 0 0) at v4
    have r0 := R8.out.cell 0
    have r1 := R8.out.cell 1
    have r2 := R8.out.cell 2
    have r3 := R8.out.cell 3
    have r4 := R8.out.cell 4
    have f0 := R8.out.frozen 0
    have f1 := R8.out.frozen 1
    have f2 := R8.out.frozen 2
    have f3 := R8.out.frozen 3
    have f4 := R8.out.frozen 4
    go_wp2
    obtain ⟨wf, hwf⟩ : ∃ wf, wf = ((((w8.setCell ⟨w.heap.size, 0, none⟩ (.int .i64 2)).setCell ⟨w.heap.size, 1, none⟩ (.int .i64 i)).setCell ⟨w.heap.size, 2, none⟩ (.string ⟨#[]⟩)).setCell ⟨w.heap.size, 3, none⟩ (.slice none 0 0)).setCell ⟨w.heap.size, 4, none⟩ (.slice none 0 0) := ⟨_, rfl⟩
    have GF : Hid (w8.grownBy wf (some w.heap.size)) := Lib.hid (by rw [hwf]; exact grownBy_trans (grownBy_trans (grownBy_trans (grownBy_trans (turned w8 w.heap.size 0 _) (turned _ w.heap.size 1 _)) (turned _ w.heap.size 2 _)) (turned _ w.heap.size 3 _)) (turned _ w.heap.size 4 _))
    have RF : Hid (Bk wf w.heap.size 26 #[.int .i64 2, .int .i64 i, .string ⟨#[]⟩, .slice none 0 0, .slice none 0 0]) := Lib.hid (by rw [hwf]; exact ((((R8.out.put 0 _).put 1 _).put 2 _).put 3 _).put 4 _)
    have QF := Lib.hid (Q8.out.grown GF.out (by intro e; injection e with e; exact NE.out.2 e.symm))
    have WF := Lib.hid (W8.out.other R8.out (by decide) (Ne.symm NE.out.1) GF.out)
    have FF : Hid (FrS (Two p q) w wf) := Lib.hid (F8.out.next (S' := fun b => b = w.heap.size) (FrS.of_grown GF.out rfl) (fun i hi e => by omega))
    rw [← hwf]
    refine bodyPost_ret (results_cell_row rfl _ _ w.heap.size 26 _ (0, 0) _ rfl RF.out Try.underlying26 rfl (by kernel_rfl)) rfl ?_
    exact ⟨_, _, _, _, _, _, _, _, _, b + 1, rfl, FF, QF, by omega, Or.inl ⟨_, l2, Lib.hid rfl, WF, Lib.hid (leaf_lies (by omega) HIB.out (by decide))⟩⟩
  · rw [if_pos he2]
    have HE2 := Lib.hid he2
    clear he2
    obtain ⟨w1, hw1⟩ : ∃ w1, w1 = w.alloc (.cells #[.int .i64 0, .int .i64 0, .string ⟨#[]⟩, .slice none 0 0, .slice none 0 0] 26) := ⟨_, rfl⟩
    have b1 : Below w.heap.size w w1 := by rw [hw1]; exact below_one _ _
    have R1 : Hid (Bk w1 w.heap.size 26 #[.int .i64 0, .int .i64 0, .string ⟨#[]⟩, .slice none 0 0, .slice none 0 0]) := Lib.hid (by rw [hw1]; exact Bk.new _ _ _)
    have W1 := Lib.hid (hr.below b1)
    have Q1 := Lib.hid (hq.below b1 hq.lt)
    have F1 : Hid (FrS (Two p q) w w1) := Lib.hid (FrS.of_below b1)
    have NQ := Lib.hid (hr.dec_ne hq)
    have NE : Hid (w.heap.size ≠ p ∧ w.heap.size ≠ q) := Lib.hid (by have h1 := hr.lt; have h2 := hq.lt; exact ⟨by omega, by omega⟩)
    have HW := Lib.hid hw1
    have c1 := Q1.out.cell 1
    change _ = some (Value.int .i64 (b : Nat)) at c1
    rw [hw1] at c1
    clear hr hq hw1 b1
    go_enter Try.func87, Try.ntmps87
    go_wp2_with fail
    rw [← HW.out]
    refine (rreq_any true W1.out Q1.out).mono ?_
    rintro e1 w2 ⟨rfl, hg, hr2⟩
    have Q2 := Lib.hid (Q1.out.grown hg (by intro e; injection e with e; exact NQ.out e))
    have R2 := Lib.hid (R1.out.grown hg (by intro e; injection e with e; exact NE.out.1 e))
    have F2 := Lib.hid (F1.out.trans (FrS.of_grown hg (Or.inl rfl)))
    have W2 := Lib.hid hr2
    clear hg hr2 c1
    have c1 := Q2.out.cell 1
    change _ = some (Value.int .i64 (b : Nat)) at c1
    have fz := Q2.out.frozen 1
    obtain ⟨w3, hw3⟩ : ∃ w3, w3 = w2.setCell ⟨q, 1, none⟩ (.int .i64 ((b : Nat) + 1)) := ⟨_, rfl⟩
    have g3 : w2.grownBy w3 (some q) := by rw [hw3]; exact turned _ _ _ _
    have Q3 : Hid (Bk w3 q 93 #[.pointer (some ⟨p, 0, none⟩), .int .i64 ((b + 1 : Nat) : Int)]) := Lib.hid (by rw [hw3]; exact Q2.out.put 1 _)
    have R3 := Lib.hid (R2.out.grown g3 (by intro e; injection e with e; exact NE.out.2 e))
    have F3 := Lib.hid (F2.out.trans (FrS.of_grown g3 (Or.inr rfl)))
    have W3 := Lib.hid (W2.out.other Q2.out (by decide) (Ne.symm NQ.out) g3)
    have HW3 := Lib.hid hw3
    clear hw3 g3
    go_wp2_with fail
    rw [← HW3.out]
    refine (rint_k hi W3.out Q3.out).mono ?_
    rintro e1 w4 ⟨rfl, hg, hr4⟩
    have Q4 := Lib.hid (Q3.out.grown hg (by intro e; injection e with e; exact NQ.out e))
    have R4 := Lib.hid (R3.out.grown hg (by intro e; injection e with e; exact NE.out.1 e))
    have F4 := Lib.hid (F3.out.trans (FrS.of_grown hg (Or.inl rfl)))
    have W4 := Lib.hid hr4
    clear hg hr4 c1 fz
    go_upto_region 4 with fail
    obtain ⟨w5, hw5⟩ : ∃ w5, w5 = w4.alloc (.cells #[.int .i64 2, .int .i64 0, .string ⟨#[]⟩, .slice none 0 0, .slice none 0 0] 26) := ⟨_, rfl⟩
    have b5 : Below w4.heap.size w4 w5 := by rw [hw5]; exact below_one _ _
    have V5 : Hid (Bk w5 w4.heap.size 26 #[.int .i64 2, .int .i64 0, .string ⟨#[]⟩, .slice none 0 0, .slice none 0 0]) := Lib.hid (by rw [hw5]; exact Bk.new _ _ _)
    have R5 := Lib.hid (R4.out.below b5 R4.out.lt)
    have Q5 := Lib.hid (Q4.out.below b5 Q4.out.lt)
    have W5 := Lib.hid (W4.out.below b5)
    have F5 : Hid (FrS (Two p q) w w5) := Lib.hid (F4.out.trans (FrS.of_below b5))
    have NG : Hid (w4.heap.size ≠ p) := Lib.hid (by have := W4.out.lt; omega)
    have NG2 : Hid (w4.heap.size ≠ q ∧ w.heap.size < w4.heap.size) := Lib.hid (by have := Q4.out.lt; have := R4.out.lt; exact ⟨by omega, by omega⟩)
    rw [← hw5]
    clear hw5 b5
    have k0 := V5.out.cell 0
    change _ = some (Value.int .i64 2) at k0
    go_wp2_with fail
    refine (rreq_any true W5.out Q5.out).mono ?_
    rintro e1 w6 ⟨rfl, hg, hr6⟩
    have Q6 := Lib.hid (Q5.out.grown hg (by intro e; injection e with e; exact NQ.out e))
    have R6 := Lib.hid (R5.out.grown hg (by intro e; injection e with e; exact NE.out.1 e))
    have F6 := Lib.hid (F5.out.trans (FrS.of_grown hg (Or.inl rfl)))
    have V6 := Lib.hid (V5.out.grown hg (by intro e; injection e with e; exact NG.out e))
    have W6 := Lib.hid hr6
    clear hg hr6 k0
    have k0 := V6.out.cell 0
    change _ = some (Value.int .i64 2) at k0
    go_wp2_with fail
    refine (good_any true (by decide) W6.out Q6.out).mono ?_
    rintro e1 w' ⟨rfl, rfl⟩
    go_wp2_with fail
    refine (rint_k hi2 W6.out Q6.out).mono ?_
    rintro e1 w7 ⟨rfl, hg, hrr⟩
    have Q7 := Lib.hid (Q6.out.grown hg (by intro e; injection e with e; exact NQ.out e))
    have R7 := Lib.hid (R6.out.grown hg (by intro e; injection e with e; exact NE.out.1 e))
    have F7 := Lib.hid (F6.out.trans (FrS.of_grown hg (Or.inl rfl)))
    have V7 := Lib.hid (V6.out.grown hg (by intro e; injection e with e; exact NG.out e))
    have W7 := Lib.hid hrr
    clear hg hrr k0
    have k0 := V7.out.cell 0
    change _ = some (Value.int .i64 2) at k0
    have v1 := V7.out.cell 1
    have fz := V7.out.frozen 1
    obtain ⟨w8, hw8⟩ : ∃ w8, w8 = w7.setCell ⟨w4.heap.size, 1, none⟩ (.int .i64 i) := ⟨_, rfl⟩
    have g8 : w7.grownBy w8 (some w4.heap.size) := by rw [hw8]; exact turned _ _ _ _
    have V8 := Lib.hid (show Bk w8 w4.heap.size 26 _ by rw [hw8]; exact V7.out.put 1 (.int .i64 i))
    have Q8 := Lib.hid (Q7.out.grown g8 (by intro e; injection e with e; exact NG2.out.1 e.symm))
    have R8 := Lib.hid (R7.out.grown g8 (by intro e; injection e with e; have := NG2.out.2; omega))
    have F8 : Hid (FrS (Two p q) w w8) := Lib.hid (F7.out.next (S' := fun b => b = w4.heap.size) (FrS.of_grown g8 rfl) (fun i hi e => by have := NG2.out.2; omega))
    have W8 := Lib.hid (W7.out.other V7.out (by decide) (Ne.symm NG.out) g8)
    have HW8 := Lib.hid hw8
    clear hw8 g8
    go_upto_region 18 with fail
    rw [← HW8.out]
    clear v1 fz
    clear k0
    have v0 := V8.out.cell 0
    change _ = some (Value.int .i64 2) at v0
    have v1 := V8.out.cell 1
    change _ = some (Value.int .i64 i) at v1
    have v2 := V8.out.cell 2
    change _ = some (Value.string ⟨#[]⟩) at v2
    have v3 := V8.out.cell 3
    change _ = some (Value.slice none 0 0) at v3
    have v4 := V8.out.cell 4
    change _ = some (Value.slice none 0 0) at v4
    have r0 := R8.out.cell 0
    have r1 := R8.out.cell 1
    have r2 := R8.out.cell 2
    have r3 := R8.out.cell 3
    have r4 := R8.out.cell 4
    have f0 := R8.out.frozen 0
    have f1 := R8.out.frozen 1
    have f2 := R8.out.frozen 2
    have f3 := R8.out.frozen 3
    have f4 := R8.out.frozen 4
    go_wp2
    obtain ⟨wf, hwf⟩ : ∃ wf, wf = ((((w8.setCell ⟨w.heap.size, 0, none⟩ (.int .i64 2)).setCell ⟨w.heap.size, 1, none⟩ (.int .i64 i)).setCell ⟨w.heap.size, 2, none⟩ (.string ⟨#[]⟩)).setCell ⟨w.heap.size, 3, none⟩ (.slice none 0 0)).setCell ⟨w.heap.size, 4, none⟩ (.slice none 0 0) := ⟨_, rfl⟩
    have GF : Hid (w8.grownBy wf (some w.heap.size)) := Lib.hid (by rw [hwf]; exact grownBy_trans (grownBy_trans (grownBy_trans (grownBy_trans (turned w8 w.heap.size 0 _) (turned _ w.heap.size 1 _)) (turned _ w.heap.size 2 _)) (turned _ w.heap.size 3 _)) (turned _ w.heap.size 4 _))
    have RF : Hid (Bk wf w.heap.size 26 #[.int .i64 2, .int .i64 i, .string ⟨#[]⟩, .slice none 0 0, .slice none 0 0]) := Lib.hid (by rw [hwf]; exact ((((R8.out.put 0 _).put 1 _).put 2 _).put 3 _).put 4 _)
    have QF := Lib.hid (Q8.out.grown GF.out (by intro e; injection e with e; exact NE.out.2 e.symm))
    have WF := Lib.hid (W8.out.other R8.out (by decide) (Ne.symm NE.out.1) GF.out)
    have FF : Hid (FrS (Two p q) w wf) := Lib.hid (F8.out.next (S' := fun b => b = w.heap.size) (FrS.of_grown GF.out rfl) (fun i hi e => by omega))
    rw [← hwf]
    refine bodyPost_ret (results_cell_row rfl _ _ w.heap.size 26 _ (0, 0) _ rfl RF.out Try.underlying26 rfl (by kernel_rfl)) rfl ?_
    exact ⟨_, _, _, _, _, _, _, _, _, b + 1, rfl, FF, QF, by omega, Or.inr ⟨e2, l2, Lib.hid rfl, HE2.out, WF⟩⟩

set_option maxRecDepth 100000 in
set_option maxHeartbeats 4000000 in
theorem rv_3 {w : World} {p q b : Nat} {l : List UInt8} {d : Int} {l1 : List UInt8} (hr : RRd w p l 0) (hq : Bk w q 93 #[.pointer (some ⟨p, 0, none⟩), .int .i64 (b : Nat)]) (hb : b ≤ 1000) (hlt : b < 1000) (hdp : d ≤ 16) (hl : l1.length ≤ 4611686018427387904) (hi : intA l = (3, l1, 0)) :
    Calls Try.prog 87 #[.pointer (some ⟨q, 0, none⟩), .int .i64 d] w (DecP RRd 93 (match decT l1 (b + 1) with | .err e => .err e | .ok s l2 n1 => .ok (.mk 3 0 s [] []) l2 n1) p q w) := by
  have t1 : decide (((b : Nat) : Int) < 1000) = true := by rw [decide_eq_true_eq]; omega
  have t2 : decide (d ≤ 16) = true := by rw [decide_eq_true_eq]; omega
  clear hlt hdp
  have HL1 := Lib.hid hl
  clear hl
  obtain ⟨RES, hRES⟩ : ∃ RES : DR VT, RES = (match decT l1 (b + 1) with | .err e => .err e | .ok s l2 n1 => .ok (.mk 3 0 s [] []) l2 n1) := ⟨_, rfl⟩
  rw [← hRES]
  have HRES := Lib.hid hRES
  clear hRES
  obtain ⟨w1, hw1⟩ : ∃ w1, w1 = w.alloc (.cells #[.int .i64 0, .int .i64 0, .string ⟨#[]⟩, .slice none 0 0, .slice none 0 0] 26) := ⟨_, rfl⟩
  have b1 : Below w.heap.size w w1 := by rw [hw1]; exact below_one _ _
  have R1 : Hid (Bk w1 w.heap.size 26 #[.int .i64 0, .int .i64 0, .string ⟨#[]⟩, .slice none 0 0, .slice none 0 0]) := Lib.hid (by rw [hw1]; exact Bk.new _ _ _)
  have W1 := Lib.hid (hr.below b1)
  have Q1 := Lib.hid (hq.below b1 hq.lt)
  have F1 : Hid (FrS (Two p q) w w1) := Lib.hid (FrS.of_below b1)
  have NQ := Lib.hid (hr.dec_ne hq)
  have NE : Hid (w.heap.size ≠ p ∧ w.heap.size ≠ q) := Lib.hid (by have h1 := hr.lt; have h2 := hq.lt; exact ⟨by omega, by omega⟩)
  have HW := Lib.hid hw1
  have c1 := Q1.out.cell 1
  change _ = some (Value.int .i64 (b : Nat)) at c1
  rw [hw1] at c1
  clear hr hq hw1 b1
  go_enter Try.func87, Try.ntmps87
  go_wp2_with fail
  rw [← HW.out]
  refine (rreq_any true W1.out Q1.out).mono ?_
  rintro e1 w2 ⟨rfl, hg, hr2⟩
  have Q2 := Lib.hid (Q1.out.grown hg (by intro e; injection e with e; exact NQ.out e))
  have R2 := Lib.hid (R1.out.grown hg (by intro e; injection e with e; exact NE.out.1 e))
  have F2 := Lib.hid (F1.out.trans (FrS.of_grown hg (Or.inl rfl)))
  have W2 := Lib.hid hr2
  clear hg hr2 c1
  have c1 := Q2.out.cell 1
  change _ = some (Value.int .i64 (b : Nat)) at c1
  have fz := Q2.out.frozen 1
  obtain ⟨w3, hw3⟩ : ∃ w3, w3 = w2.setCell ⟨q, 1, none⟩ (.int .i64 ((b : Nat) + 1)) := ⟨_, rfl⟩
  have g3 : w2.grownBy w3 (some q) := by rw [hw3]; exact turned _ _ _ _
  have Q3 : Hid (Bk w3 q 93 #[.pointer (some ⟨p, 0, none⟩), .int .i64 ((b + 1 : Nat) : Int)]) := Lib.hid (by rw [hw3]; exact Q2.out.put 1 _)
  have R3 := Lib.hid (R2.out.grown g3 (by intro e; injection e with e; exact NE.out.2 e))
  have F3 := Lib.hid (F2.out.trans (FrS.of_grown g3 (Or.inr rfl)))
  have W3 := Lib.hid (W2.out.other Q2.out (by decide) (Ne.symm NQ.out) g3)
  have HW3 := Lib.hid hw3
  clear hw3 g3
  go_wp2_with fail
  rw [← HW3.out]
  refine (rint_k hi W3.out Q3.out).mono ?_
  rintro e1 w4 ⟨rfl, hg, hr4⟩
  have Q4 := Lib.hid (Q3.out.grown hg (by intro e; injection e with e; exact NQ.out e))
  have R4 := Lib.hid (R3.out.grown hg (by intro e; injection e with e; exact NE.out.1 e))
  have F4 := Lib.hid (F3.out.trans (FrS.of_grown hg (Or.inl rfl)))
  have W4 := Lib.hid hr4
  clear hg hr4 c1 fz
  go_upto_region 4 with fail
  obtain ⟨w5, hw5⟩ : ∃ w5, w5 = w4.alloc (.cells #[.int .i64 3, .int .i64 0, .string ⟨#[]⟩, .slice none 0 0, .slice none 0 0] 26) := ⟨_, rfl⟩
  have b5 : Below w4.heap.size w4 w5 := by rw [hw5]; exact below_one _ _
  have V5 : Hid (Bk w5 w4.heap.size 26 #[.int .i64 3, .int .i64 0, .string ⟨#[]⟩, .slice none 0 0, .slice none 0 0]) := Lib.hid (by rw [hw5]; exact Bk.new _ _ _)
  have R5 := Lib.hid (R4.out.below b5 R4.out.lt)
  have Q5 := Lib.hid (Q4.out.below b5 Q4.out.lt)
  have W5 := Lib.hid (W4.out.below b5)
  have F5 : Hid (FrS (Two p q) w w5) := Lib.hid (F4.out.trans (FrS.of_below b5))
  have NG : Hid (w4.heap.size ≠ p) := Lib.hid (by have := W4.out.lt; omega)
  have NG2 : Hid (w4.heap.size ≠ q ∧ w.heap.size < w4.heap.size) := Lib.hid (by have := Q4.out.lt; have := R4.out.lt; exact ⟨by omega, by omega⟩)
  rw [← hw5]
  clear hw5 b5
  have k0 := V5.out.cell 0
  change _ = some (Value.int .i64 3) at k0
  go_wp2_with fail
  refine (rreq_any true W5.out Q5.out).mono ?_
  rintro e1 w6 ⟨rfl, hg, hr6⟩
  have Q6 := Lib.hid (Q5.out.grown hg (by intro e; injection e with e; exact NQ.out e))
  have R6 := Lib.hid (R5.out.grown hg (by intro e; injection e with e; exact NE.out.1 e))
  have F6 := Lib.hid (F5.out.trans (FrS.of_grown hg (Or.inl rfl)))
  have V6 := Lib.hid (V5.out.grown hg (by intro e; injection e with e; exact NG.out e))
  have W6 := Lib.hid hr6
  clear hg hr6 k0
  have k0 := V6.out.cell 0
  change _ = some (Value.int .i64 3) at k0
  go_wp2_with fail
  refine (good_any true (by decide) W6.out Q6.out).mono ?_
  rintro e1 w' ⟨rfl, rfl⟩
  have HTX := Lib.hid (rtext_k HL1.out W6.out Q6.out)
  obtain ⟨s, hs⟩ : ∃ s : ByteArray, s = ⟨(textR l1 9223372036854775807).1.toArray⟩ := ⟨_, rfl⟩
  rw [← hs] at HTX
  have HSS := Lib.hid hs
  clear hs
  go_wp2_with fail
  refine (HTX.out).mono ?_
  rintro e1 w7 ⟨rfl, hg, hrr⟩
  have Q7 := Lib.hid (Q6.out.grown hg (by intro e; injection e with e; exact NQ.out e))
  have R7 := Lib.hid (R6.out.grown hg (by intro e; injection e with e; exact NE.out.1 e))
  have F7 := Lib.hid (F6.out.trans (FrS.of_grown hg (Or.inl rfl)))
  have V7 := Lib.hid (V6.out.grown hg (by intro e; injection e with e; exact NG.out e))
  have W7 := Lib.hid hrr
  clear hg hrr k0
  have k0 := V7.out.cell 0
  change _ = some (Value.int .i64 3) at k0
  have v2 := V7.out.cell 2
  have fz := V7.out.frozen 2
  obtain ⟨w8, hw8⟩ : ∃ w8, w8 = w7.setCell ⟨w4.heap.size, 2, none⟩ (.string s) := ⟨_, rfl⟩
  have g8 : w7.grownBy w8 (some w4.heap.size) := by rw [hw8]; exact turned _ _ _ _
  have V8 := Lib.hid (show Bk w8 w4.heap.size 26 _ by rw [hw8]; exact V7.out.put 2 (.string s))
  have Q8 := Lib.hid (Q7.out.grown g8 (by intro e; injection e with e; exact NG2.out.1 e.symm))
  have R8 := Lib.hid (R7.out.grown g8 (by intro e; injection e with e; have := NG2.out.2; omega))
  have F8 : Hid (FrS (Two p q) w w8) := Lib.hid (F7.out.next (S' := fun b => b = w4.heap.size) (FrS.of_grown g8 rfl) (fun i hi e => by have := NG2.out.2; omega))
  have W8 := Lib.hid (W7.out.other V7.out (by decide) (Ne.symm NG.out) g8)
  have HW8 := Lib.hid hw8
  clear hw8 g8
  go_upto_region 18 with fail
  rw [← HW8.out]
  clear v2 fz
  clear k0
  have v0 := V8.out.cell 0
  change _ = some (Value.int .i64 3) at v0
  have v1 := V8.out.cell 1
  change _ = some (Value.int .i64 0) at v1
  have v2 := V8.out.cell 2
  change _ = some (Value.string s) at v2
  have v3 := V8.out.cell 3
  change _ = some (Value.slice none 0 0) at v3
  have v4 := V8.out.cell 4
  change _ = some (Value.slice none 0 0) at v4
  have r0 := R8.out.cell 0
  have r1 := R8.out.cell 1
  have r2 := R8.out.cell 2
  have r3 := R8.out.cell 3
  have r4 := R8.out.cell 4
  have f0 := R8.out.frozen 0
  have f1 := R8.out.frozen 1
  have f2 := R8.out.frozen 2
  have f3 := R8.out.frozen 3
  have f4 := R8.out.frozen 4
  go_wp2
  obtain ⟨wf, hwf⟩ : ∃ wf, wf = ((((w8.setCell ⟨w.heap.size, 0, none⟩ (.int .i64 3)).setCell ⟨w.heap.size, 1, none⟩ (.int .i64 0)).setCell ⟨w.heap.size, 2, none⟩ (.string s)).setCell ⟨w.heap.size, 3, none⟩ (.slice none 0 0)).setCell ⟨w.heap.size, 4, none⟩ (.slice none 0 0) := ⟨_, rfl⟩
  have GF : Hid (w8.grownBy wf (some w.heap.size)) := Lib.hid (by rw [hwf]; exact grownBy_trans (grownBy_trans (grownBy_trans (grownBy_trans (turned w8 w.heap.size 0 _) (turned _ w.heap.size 1 _)) (turned _ w.heap.size 2 _)) (turned _ w.heap.size 3 _)) (turned _ w.heap.size 4 _))
  have RF : Hid (Bk wf w.heap.size 26 #[.int .i64 3, .int .i64 0, .string s, .slice none 0 0, .slice none 0 0]) := Lib.hid (by rw [hwf]; exact ((((R8.out.put 0 _).put 1 _).put 2 _).put 3 _).put 4 _)
  have QF := Lib.hid (Q8.out.grown GF.out (by intro e; injection e with e; exact NE.out.2 e.symm))
  have WF := Lib.hid (W8.out.other R8.out (by decide) (Ne.symm NE.out.1) GF.out)
  have FF : Hid (FrS (Two p q) w wf) := Lib.hid (F8.out.next (S' := fun b => b = w.heap.size) (FrS.of_grown GF.out rfl) (fun i hi e => by omega))
  rw [← hwf]
  refine bodyPost_ret (results_cell_row rfl _ _ w.heap.size 26 _ (0, 0) _ rfl RF.out Try.underlying26 rfl (by kernel_rfl)) rfl ?_
  rcases rdecT_says (n := b + 1) WF.out with ⟨s2, l2, h1, h2, h3, h4⟩ | ⟨e2, l2, h1, h2, h3⟩
  · have hr := HRES.out
    rw [h1] at hr
    obtain rfl := HSS.out.trans h2.symm
    rw [hr]
    exact ⟨_, _, _, _, _, _, _, _, _, b + 1, rfl, FF, QF, by omega, Or.inl ⟨_, l2, Lib.hid rfl, Lib.hid h4, Lib.hid (leaf_lies (by omega) (by omega) (by omega))⟩⟩
  · have hr := HRES.out
    rw [h1] at hr
    rw [hr]
    exact ⟨_, _, _, _, _, _, _, _, _, b + 1, rfl, FF, QF, by omega, Or.inr ⟨e2, l2, Lib.hid rfl, h2, Lib.hid h3⟩⟩

/-- what a reader's items of the reference hands back -/
def ItsR (RD : World → Nat → List UInt8 → Int → Prop) (DT : TypeId) (r : DR (List VT × List ByteArray)) (K : Int) (p q : Nat) (w : World) (en : Ending) (w' : World) : Prop :=
  ∃ (AI : Option Addr) (nI cI : Nat) (AK : Option Addr) (nK cK b' : Nat), en = .returned (.agg #[.int .i64 K, .int .i64 0, .string ⟨#[]⟩, .slice AI nI cI, .slice AK nK cK]) ∧ Hid (FrS (Two p q) w w') ∧ Hid (Bk w' q DT #[.pointer (some ⟨p, 0, none⟩), .int .i64 (b' : Nat)]) ∧ b' ≤ 1001 ∧
    ((∃ its ks l', Hid (r = .ok (its, ks) l' b') ∧ Hid (RD w' p l' 0) ∧ Hid (Lies w' (New w w') (.mk K 0 ⟨#[]⟩ its ks) (.agg #[.int .i64 K, .int .i64 0, .string ⟨#[]⟩, .slice AI nI cI, .slice AK nK cK]))) ∨
      ∃ e l', Hid (r = .err e) ∧ e ≠ 0 ∧ Hid (RD w' p l' e))

set_option maxRecDepth 100000 in
set_option maxHeartbeats 4000000 in
theorem rv_4 {w : World} {p q b : Nat} {l : List UInt8} {d : Int} {l1 : List UInt8} {dec : Nat → List UInt8 → DR VT} (hr : RRd w p l 0) (hq : Bk w q 93 #[.pointer (some ⟨p, 0, none⟩), .int .i64 (b : Nat)]) (hb : b ≤ 1000) (hlt : b < 1000) (hdp : d ≤ 16) (hi : intA l = (4, l1, 0))
    (hit : ∀ (W : World), RRd W p l1 0 → Bk W q 93 #[.pointer (some ⟨p, 0, none⟩), .int .i64 ((b + 1 : Nat) : Int)] → Calls Try.prog 117 #[.pointer (some ⟨q, 0, none⟩), .agg #[.int .i64 4, .int .i64 0, .string ⟨#[]⟩, .slice none 0 0, .slice none 0 0], .int .i64 d] W (ItsR RRd 93 (decI dec false (b + 1) l1) 4 p q W)) :
    Calls Try.prog 87 #[.pointer (some ⟨q, 0, none⟩), .int .i64 d] w (DecP RRd 93 (match decI dec false (b + 1) l1 with | .err e => .err e | .ok r l2 n2 => .ok (.mk 4 0 ⟨#[]⟩ r.1 r.2) l2 n2) p q w) := by
  have t1 : decide (((b : Nat) : Int) < 1000) = true := by rw [decide_eq_true_eq]; omega
  have t2 : decide (d ≤ 16) = true := by rw [decide_eq_true_eq]; omega
  clear hlt hdp
  have HIT := Lib.hid hit
  clear hit
  obtain ⟨RES, hRES⟩ : ∃ RES : DR VT, RES = (match decI dec false (b + 1) l1 with | .err e => .err e | .ok r l2 n2 => .ok (.mk 4 0 ⟨#[]⟩ r.1 r.2) l2 n2) := ⟨_, rfl⟩
  rw [← hRES]
  have HRES := Lib.hid hRES
  clear hRES
  obtain ⟨w1, hw1⟩ : ∃ w1, w1 = w.alloc (.cells #[.int .i64 0, .int .i64 0, .string ⟨#[]⟩, .slice none 0 0, .slice none 0 0] 26) := ⟨_, rfl⟩
  have b1 : Below w.heap.size w w1 := by rw [hw1]; exact below_one _ _
  have R1 : Hid (Bk w1 w.heap.size 26 #[.int .i64 0, .int .i64 0, .string ⟨#[]⟩, .slice none 0 0, .slice none 0 0]) := Lib.hid (by rw [hw1]; exact Bk.new _ _ _)
  have W1 := Lib.hid (hr.below b1)
  have Q1 := Lib.hid (hq.below b1 hq.lt)
  have F1 : Hid (FrS (Two p q) w w1) := Lib.hid (FrS.of_below b1)
  have NQ := Lib.hid (hr.dec_ne hq)
  have NE : Hid (w.heap.size ≠ p ∧ w.heap.size ≠ q) := Lib.hid (by have h1 := hr.lt; have h2 := hq.lt; exact ⟨by omega, by omega⟩)
  have HW := Lib.hid hw1
  have c1 := Q1.out.cell 1
  change _ = some (Value.int .i64 (b : Nat)) at c1
  rw [hw1] at c1
  clear hr hq hw1 b1
  go_enter Try.func87, Try.ntmps87
  go_wp2_with fail
  rw [← HW.out]
  refine (rreq_any true W1.out Q1.out).mono ?_
  rintro e1 w2 ⟨rfl, hg, hr2⟩
  have Q2 := Lib.hid (Q1.out.grown hg (by intro e; injection e with e; exact NQ.out e))
  have R2 := Lib.hid (R1.out.grown hg (by intro e; injection e with e; exact NE.out.1 e))
  have F2 := Lib.hid (F1.out.trans (FrS.of_grown hg (Or.inl rfl)))
  have W2 := Lib.hid hr2
  clear hg hr2 c1
  have c1 := Q2.out.cell 1
  change _ = some (Value.int .i64 (b : Nat)) at c1
  have fz := Q2.out.frozen 1
  obtain ⟨w3, hw3⟩ : ∃ w3, w3 = w2.setCell ⟨q, 1, none⟩ (.int .i64 ((b : Nat) + 1)) := ⟨_, rfl⟩
  have g3 : w2.grownBy w3 (some q) := by rw [hw3]; exact turned _ _ _ _
  have Q3 : Hid (Bk w3 q 93 #[.pointer (some ⟨p, 0, none⟩), .int .i64 ((b + 1 : Nat) : Int)]) := Lib.hid (by rw [hw3]; exact Q2.out.put 1 _)
  have R3 := Lib.hid (R2.out.grown g3 (by intro e; injection e with e; exact NE.out.2 e))
  have F3 := Lib.hid (F2.out.trans (FrS.of_grown g3 (Or.inr rfl)))
  have W3 := Lib.hid (W2.out.other Q2.out (by decide) (Ne.symm NQ.out) g3)
  have HW3 := Lib.hid hw3
  clear hw3 g3
  go_wp2_with fail
  rw [← HW3.out]
  refine (rint_k hi W3.out Q3.out).mono ?_
  rintro e1 w4 ⟨rfl, hg, hr4⟩
  have Q4 := Lib.hid (Q3.out.grown hg (by intro e; injection e with e; exact NQ.out e))
  have R4 := Lib.hid (R3.out.grown hg (by intro e; injection e with e; exact NE.out.1 e))
  have F4 := Lib.hid (F3.out.trans (FrS.of_grown hg (Or.inl rfl)))
  have W4 := Lib.hid hr4
  clear hg hr4 c1 fz
  go_upto_region 4 with fail
  obtain ⟨w5, hw5⟩ : ∃ w5, w5 = w4.alloc (.cells #[.int .i64 4, .int .i64 0, .string ⟨#[]⟩, .slice none 0 0, .slice none 0 0] 26) := ⟨_, rfl⟩
  have b5 : Below w4.heap.size w4 w5 := by rw [hw5]; exact below_one _ _
  have V5 : Hid (Bk w5 w4.heap.size 26 #[.int .i64 4, .int .i64 0, .string ⟨#[]⟩, .slice none 0 0, .slice none 0 0]) := Lib.hid (by rw [hw5]; exact Bk.new _ _ _)
  have R5 := Lib.hid (R4.out.below b5 R4.out.lt)
  have Q5 := Lib.hid (Q4.out.below b5 Q4.out.lt)
  have W5 := Lib.hid (W4.out.below b5)
  have F5 : Hid (FrS (Two p q) w w5) := Lib.hid (F4.out.trans (FrS.of_below b5))
  have NG : Hid (w4.heap.size ≠ p) := Lib.hid (by have := W4.out.lt; omega)
  have NG2 : Hid (w4.heap.size ≠ q ∧ w.heap.size < w4.heap.size) := Lib.hid (by have := Q4.out.lt; have := R4.out.lt; exact ⟨by omega, by omega⟩)
  rw [← hw5]
  clear hw5 b5
  have k0 := V5.out.cell 0
  change _ = some (Value.int .i64 4) at k0
  go_wp2_with fail
  refine (rreq_any true W5.out Q5.out).mono ?_
  rintro e1 w6 ⟨rfl, hg, hr6⟩
  have Q6 := Lib.hid (Q5.out.grown hg (by intro e; injection e with e; exact NQ.out e))
  have R6 := Lib.hid (R5.out.grown hg (by intro e; injection e with e; exact NE.out.1 e))
  have F6 := Lib.hid (F5.out.trans (FrS.of_grown hg (Or.inl rfl)))
  have V6 := Lib.hid (V5.out.grown hg (by intro e; injection e with e; exact NG.out e))
  have W6 := Lib.hid hr6
  clear hg hr6 k0
  have k0 := V6.out.cell 0
  change _ = some (Value.int .i64 4) at k0
  go_wp2_with fail
  refine (good_any true (by decide) W6.out Q6.out).mono ?_
  rintro e1 w' ⟨rfl, rfl⟩
  have N6 : Hid (w.heap.size < w4.heap.size ∧ w4.heap.size < w6.heap.size) := Lib.hid ⟨NG2.out.2, V6.out.lt⟩
  clear k0
  have v0 := V6.out.cell 0
  change _ = some (Value.int .i64 4) at v0
  have v1 := V6.out.cell 1
  change _ = some (Value.int .i64 0) at v1
  have v2 := V6.out.cell 2
  change _ = some (Value.string ⟨#[]⟩) at v2
  have v3 := V6.out.cell 3
  change _ = some (Value.slice none 0 0) at v3
  have v4 := V6.out.cell 4
  change _ = some (Value.slice none 0 0) at v4
  go_wp2_with fail
  refine (HIT.out _ W6.out Q6.out).mono ?_
  rintro e1 w7 ⟨AI, nI, cI, AK, nK, cK, b7, rfl, hf7, Q7, hb7, hst⟩
  have R7 := Lib.hid (hf7.out.bk R6.out (fun h => by rcases h with h | h; exact NE.out.1 h; exact NE.out.2 h))
  have V7 := Lib.hid (hf7.out.bk V6.out (fun h => by rcases h with h | h; exact NG.out h; exact NG2.out.1 h))
  have F7 : Hid (FrS (Two p q) w w7) := Lib.hid (F6.out.trans hf7.out)
  clear v0 v1 v2 v3 v4
  rcases hst with ⟨its, ks, l7, HEQ, W7, HLS⟩ | ⟨e7, l7, HEQ, he7, W7⟩
  · clear HIT
    have y0 := V7.out.cell 0
    have y1 := V7.out.cell 1
    have y2 := V7.out.cell 2
    have y3 := V7.out.cell 3
    have y4 := V7.out.cell 4
    have z0 := V7.out.frozen 0
    have z1 := V7.out.frozen 1
    have z2 := V7.out.frozen 2
    have z3 := V7.out.frozen 3
    have z4 := V7.out.frozen 4
    go_upto_region 18 with fail
    obtain ⟨w8, hw8⟩ : ∃ w8, w8 = ((((w7.setCell ⟨w4.heap.size, 0, none⟩ (.int .i64 4)).setCell ⟨w4.heap.size, 1, none⟩ (.int .i64 0)).setCell ⟨w4.heap.size, 2, none⟩ (.string ⟨#[]⟩)).setCell ⟨w4.heap.size, 3, none⟩ (.slice AI nI cI)).setCell ⟨w4.heap.size, 4, none⟩ (.slice AK nK cK) := ⟨_, rfl⟩
    have G8 : Hid (w7.grownBy w8 (some w4.heap.size)) := Lib.hid (by rw [hw8]; exact grownBy_trans (grownBy_trans (grownBy_trans (grownBy_trans (turned w7 w4.heap.size 0 _) (turned _ w4.heap.size 1 _)) (turned _ w4.heap.size 2 _)) (turned _ w4.heap.size 3 _)) (turned _ w4.heap.size 4 _))
    have V8 : Hid (Bk w8 w4.heap.size 26 #[.int .i64 4, .int .i64 0, .string ⟨#[]⟩, .slice AI nI cI, .slice AK nK cK]) := Lib.hid (by rw [hw8]; exact ((((V7.out.put 0 _).put 1 _).put 2 _).put 3 _).put 4 _)
    have Q8 := Lib.hid (Q7.out.grown G8.out (by intro e; injection e with e; exact NG2.out.1 e.symm))
    have R8 := Lib.hid (R7.out.grown G8.out (by intro e; injection e with e; have := NG2.out.2; omega))
    have F8 : Hid (FrS (Two p q) w w8) := Lib.hid (F7.out.next (S' := fun b => b = w4.heap.size) (FrS.of_grown G8.out rfl) (fun i hi e => by have := NG2.out.2; omega))
    have W8 := Lib.hid (W7.out.other V7.out (by decide) (Ne.symm NG.out) G8.out)
    have S8 : Hid (w7.heap.size ≤ w8.heap.size) := Lib.hid G8.out.size
    rw [← hw8]
    clear hw8 y0 y1 y2 y3 y4 z0 z1 z2 z3 z4
    have k0 := trivial
    clear k0
    have v0 := V8.out.cell 0
    change _ = some (Value.int .i64 4) at v0
    have v1 := V8.out.cell 1
    change _ = some (Value.int .i64 0) at v1
    have v2 := V8.out.cell 2
    change _ = some (Value.string ⟨#[]⟩) at v2
    have v3 := V8.out.cell 3
    change _ = some (Value.slice AI nI cI) at v3
    have v4 := V8.out.cell 4
    change _ = some (Value.slice AK nK cK) at v4
    have r0 := R8.out.cell 0
    have r1 := R8.out.cell 1
    have r2 := R8.out.cell 2
    have r3 := R8.out.cell 3
    have r4 := R8.out.cell 4
    have f0 := R8.out.frozen 0
    have f1 := R8.out.frozen 1
    have f2 := R8.out.frozen 2
    have f3 := R8.out.frozen 3
    have f4 := R8.out.frozen 4
    go_wp2
    obtain ⟨wf, hwf⟩ : ∃ wf, wf = ((((w8.setCell ⟨w.heap.size, 0, none⟩ (.int .i64 4)).setCell ⟨w.heap.size, 1, none⟩ (.int .i64 0)).setCell ⟨w.heap.size, 2, none⟩ (.string ⟨#[]⟩)).setCell ⟨w.heap.size, 3, none⟩ (.slice AI nI cI)).setCell ⟨w.heap.size, 4, none⟩ (.slice AK nK cK) := ⟨_, rfl⟩
    have GF : Hid (w8.grownBy wf (some w.heap.size)) := Lib.hid (by rw [hwf]; exact grownBy_trans (grownBy_trans (grownBy_trans (grownBy_trans (turned w8 w.heap.size 0 _) (turned _ w.heap.size 1 _)) (turned _ w.heap.size 2 _)) (turned _ w.heap.size 3 _)) (turned _ w.heap.size 4 _))
    have RF : Hid (Bk wf w.heap.size 26 #[.int .i64 4, .int .i64 0, .string ⟨#[]⟩, .slice AI nI cI, .slice AK nK cK]) := Lib.hid (by rw [hwf]; exact ((((R8.out.put 0 _).put 1 _).put 2 _).put 3 _).put 4 _)
    have QF := Lib.hid (Q8.out.grown GF.out (by intro e; injection e with e; exact NE.out.2 e.symm))
    have WF := Lib.hid (W8.out.other R8.out (by decide) (Ne.symm NE.out.1) GF.out)
    have FF : Hid (FrS (Two p q) w wf) := Lib.hid (F8.out.next (S' := fun b => b = w.heap.size) (FrS.of_grown GF.out rfl) (fun i hi e => by omega))
    rw [← hwf]
    refine bodyPost_ret (results_cell_row rfl _ _ w.heap.size 26 _ (0, 0) _ rfl RF.out Try.underlying26 rfl (by kernel_rfl)) rfl ?_
    have hr := HRES.out
    rw [HEQ.out] at hr
    rw [hr]
    refine ⟨_, _, _, _, _, _, _, _, _, b7, rfl, FF, QF, hb7, Or.inl ⟨_, l7, Lib.hid rfl, WF, Lib.hid (HLS.out.keep (fun a ha => ?_) (fun a ha => ?_))⟩⟩
    · exact (GF.out.cell_far a (by have := ha.2; have := S8.out; omega) (fun e => by injection e with e; have := ha.1; have := N6.out; omega)).trans (G8.out.cell_far a ha.2 (fun e => by injection e with e; have := ha.1; have := N6.out; omega))
    · have := ha.1; have := ha.2; have := N6.out; have := GF.out.size; have := S8.out; exact ⟨by omega, by omega⟩
  · have HE7 := Lib.hid he7
    clear he7 HIT
    have y0 := V7.out.cell 0
    have y1 := V7.out.cell 1
    have y2 := V7.out.cell 2
    have y3 := V7.out.cell 3
    have y4 := V7.out.cell 4
    have z0 := V7.out.frozen 0
    have z1 := V7.out.frozen 1
    have z2 := V7.out.frozen 2
    have z3 := V7.out.frozen 3
    have z4 := V7.out.frozen 4
    go_upto_region 18 with fail
    obtain ⟨w8, hw8⟩ : ∃ w8, w8 = ((((w7.setCell ⟨w4.heap.size, 0, none⟩ (.int .i64 4)).setCell ⟨w4.heap.size, 1, none⟩ (.int .i64 0)).setCell ⟨w4.heap.size, 2, none⟩ (.string ⟨#[]⟩)).setCell ⟨w4.heap.size, 3, none⟩ (.slice AI nI cI)).setCell ⟨w4.heap.size, 4, none⟩ (.slice AK nK cK) := ⟨_, rfl⟩
    have G8 : Hid (w7.grownBy w8 (some w4.heap.size)) := Lib.hid (by rw [hw8]; exact grownBy_trans (grownBy_trans (grownBy_trans (grownBy_trans (turned w7 w4.heap.size 0 _) (turned _ w4.heap.size 1 _)) (turned _ w4.heap.size 2 _)) (turned _ w4.heap.size 3 _)) (turned _ w4.heap.size 4 _))
    have V8 : Hid (Bk w8 w4.heap.size 26 #[.int .i64 4, .int .i64 0, .string ⟨#[]⟩, .slice AI nI cI, .slice AK nK cK]) := Lib.hid (by rw [hw8]; exact ((((V7.out.put 0 _).put 1 _).put 2 _).put 3 _).put 4 _)
    have Q8 := Lib.hid (Q7.out.grown G8.out (by intro e; injection e with e; exact NG2.out.1 e.symm))
    have R8 := Lib.hid (R7.out.grown G8.out (by intro e; injection e with e; have := NG2.out.2; omega))
    have F8 : Hid (FrS (Two p q) w w8) := Lib.hid (F7.out.next (S' := fun b => b = w4.heap.size) (FrS.of_grown G8.out rfl) (fun i hi e => by have := NG2.out.2; omega))
    have W8 := Lib.hid (W7.out.other V7.out (by decide) (Ne.symm NG.out) G8.out)
    have S8 : Hid (w7.heap.size ≤ w8.heap.size) := Lib.hid G8.out.size
    rw [← hw8]
    clear hw8 y0 y1 y2 y3 y4 z0 z1 z2 z3 z4
    have k0 := trivial
    clear k0
    have v0 := V8.out.cell 0
    change _ = some (Value.int .i64 4) at v0
    have v1 := V8.out.cell 1
    change _ = some (Value.int .i64 0) at v1
    have v2 := V8.out.cell 2
    change _ = some (Value.string ⟨#[]⟩) at v2
    have v3 := V8.out.cell 3
    change _ = some (Value.slice AI nI cI) at v3
    have v4 := V8.out.cell 4
    change _ = some (Value.slice AK nK cK) at v4
    have r0 := R8.out.cell 0
    have r1 := R8.out.cell 1
    have r2 := R8.out.cell 2
    have r3 := R8.out.cell 3
    have r4 := R8.out.cell 4
    have f0 := R8.out.frozen 0
    have f1 := R8.out.frozen 1
    have f2 := R8.out.frozen 2
    have f3 := R8.out.frozen 3
    have f4 := R8.out.frozen 4
    go_wp2
    obtain ⟨wf, hwf⟩ : ∃ wf, wf = ((((w8.setCell ⟨w.heap.size, 0, none⟩ (.int .i64 4)).setCell ⟨w.heap.size, 1, none⟩ (.int .i64 0)).setCell ⟨w.heap.size, 2, none⟩ (.string ⟨#[]⟩)).setCell ⟨w.heap.size, 3, none⟩ (.slice AI nI cI)).setCell ⟨w.heap.size, 4, none⟩ (.slice AK nK cK) := ⟨_, rfl⟩
    have GF : Hid (w8.grownBy wf (some w.heap.size)) := Lib.hid (by rw [hwf]; exact grownBy_trans (grownBy_trans (grownBy_trans (grownBy_trans (turned w8 w.heap.size 0 _) (turned _ w.heap.size 1 _)) (turned _ w.heap.size 2 _)) (turned _ w.heap.size 3 _)) (turned _ w.heap.size 4 _))
    have RF : Hid (Bk wf w.heap.size 26 #[.int .i64 4, .int .i64 0, .string ⟨#[]⟩, .slice AI nI cI, .slice AK nK cK]) := Lib.hid (by rw [hwf]; exact ((((R8.out.put 0 _).put 1 _).put 2 _).put 3 _).put 4 _)
    have QF := Lib.hid (Q8.out.grown GF.out (by intro e; injection e with e; exact NE.out.2 e.symm))
    have WF := Lib.hid (W8.out.other R8.out (by decide) (Ne.symm NE.out.1) GF.out)
    have FF : Hid (FrS (Two p q) w wf) := Lib.hid (F8.out.next (S' := fun b => b = w.heap.size) (FrS.of_grown GF.out rfl) (fun i hi e => by omega))
    rw [← hwf]
    refine bodyPost_ret (results_cell_row rfl _ _ w.heap.size 26 _ (0, 0) _ rfl RF.out Try.underlying26 rfl (by kernel_rfl)) rfl ?_
    have hr := HRES.out
    rw [HEQ.out] at hr
    rw [hr]
    exact ⟨_, _, _, _, _, _, _, _, _, b7, rfl, FF, QF, hb7, Or.inr ⟨e7, l7, Lib.hid rfl, HE7.out, WF⟩⟩

set_option maxRecDepth 100000 in
set_option maxHeartbeats 4000000 in
theorem rv_5 {w : World} {p q b : Nat} {l : List UInt8} {d : Int} {l1 : List UInt8} {dec : Nat → List UInt8 → DR VT} (hr : RRd w p l 0) (hq : Bk w q 93 #[.pointer (some ⟨p, 0, none⟩), .int .i64 (b : Nat)]) (hb : b ≤ 1000) (hlt : b < 1000) (hdp : d ≤ 16) (hi : intA l = (5, l1, 0))
    (hit : ∀ (W : World), RRd W p l1 0 → Bk W q 93 #[.pointer (some ⟨p, 0, none⟩), .int .i64 ((b + 1 : Nat) : Int)] → Calls Try.prog 117 #[.pointer (some ⟨q, 0, none⟩), .agg #[.int .i64 5, .int .i64 0, .string ⟨#[]⟩, .slice none 0 0, .slice none 0 0], .int .i64 d] W (ItsR RRd 93 (decI dec true (b + 1) l1) 5 p q W)) :
    Calls Try.prog 87 #[.pointer (some ⟨q, 0, none⟩), .int .i64 d] w (DecP RRd 93 (match decI dec true (b + 1) l1 with | .err e => .err e | .ok r l2 n2 => .ok (.mk 5 0 ⟨#[]⟩ r.1 r.2) l2 n2) p q w) := by
  have t1 : decide (((b : Nat) : Int) < 1000) = true := by rw [decide_eq_true_eq]; omega
  have t2 : decide (d ≤ 16) = true := by rw [decide_eq_true_eq]; omega
  clear hlt hdp
  have HIT := Lib.hid hit
  clear hit
  obtain ⟨RES, hRES⟩ : ∃ RES : DR VT, RES = (match decI dec true (b + 1) l1 with | .err e => .err e | .ok r l2 n2 => .ok (.mk 5 0 ⟨#[]⟩ r.1 r.2) l2 n2) := ⟨_, rfl⟩
  rw [← hRES]
  have HRES := Lib.hid hRES
  clear hRES
  obtain ⟨w1, hw1⟩ : ∃ w1, w1 = w.alloc (.cells #[.int .i64 0, .int .i64 0, .string ⟨#[]⟩, .slice none 0 0, .slice none 0 0] 26) := ⟨_, rfl⟩
  have b1 : Below w.heap.size w w1 := by rw [hw1]; exact below_one _ _
  have R1 : Hid (Bk w1 w.heap.size 26 #[.int .i64 0, .int .i64 0, .string ⟨#[]⟩, .slice none 0 0, .slice none 0 0]) := Lib.hid (by rw [hw1]; exact Bk.new _ _ _)
  have W1 := Lib.hid (hr.below b1)
  have Q1 := Lib.hid (hq.below b1 hq.lt)
  have F1 : Hid (FrS (Two p q) w w1) := Lib.hid (FrS.of_below b1)
  have NQ := Lib.hid (hr.dec_ne hq)
  have NE : Hid (w.heap.size ≠ p ∧ w.heap.size ≠ q) := Lib.hid (by have h1 := hr.lt; have h2 := hq.lt; exact ⟨by omega, by omega⟩)
  have HW := Lib.hid hw1
  have c1 := Q1.out.cell 1
  change _ = some (Value.int .i64 (b : Nat)) at c1
  rw [hw1] at c1
  clear hr hq hw1 b1
  go_enter Try.func87, Try.ntmps87
  go_wp2_with fail
  rw [← HW.out]
  refine (rreq_any true W1.out Q1.out).mono ?_
  rintro e1 w2 ⟨rfl, hg, hr2⟩
  have Q2 := Lib.hid (Q1.out.grown hg (by intro e; injection e with e; exact NQ.out e))
  have R2 := Lib.hid (R1.out.grown hg (by intro e; injection e with e; exact NE.out.1 e))
  have F2 := Lib.hid (F1.out.trans (FrS.of_grown hg (Or.inl rfl)))
  have W2 := Lib.hid hr2
  clear hg hr2 c1
  have c1 := Q2.out.cell 1
  change _ = some (Value.int .i64 (b : Nat)) at c1
  have fz := Q2.out.frozen 1
  obtain ⟨w3, hw3⟩ : ∃ w3, w3 = w2.setCell ⟨q, 1, none⟩ (.int .i64 ((b : Nat) + 1)) := ⟨_, rfl⟩
  have g3 : w2.grownBy w3 (some q) := by rw [hw3]; exact turned _ _ _ _
  have Q3 : Hid (Bk w3 q 93 #[.pointer (some ⟨p, 0, none⟩), .int .i64 ((b + 1 : Nat) : Int)]) := Lib.hid (by rw [hw3]; exact Q2.out.put 1 _)
  have R3 := Lib.hid (R2.out.grown g3 (by intro e; injection e with e; exact NE.out.2 e))
  have F3 := Lib.hid (F2.out.trans (FrS.of_grown g3 (Or.inr rfl)))
  have W3 := Lib.hid (W2.out.other Q2.out (by decide) (Ne.symm NQ.out) g3)
  have HW3 := Lib.hid hw3
  clear hw3 g3
  go_wp2_with fail
  rw [← HW3.out]
  refine (rint_k hi W3.out Q3.out).mono ?_
  rintro e1 w4 ⟨rfl, hg, hr4⟩
  have Q4 := Lib.hid (Q3.out.grown hg (by intro e; injection e with e; exact NQ.out e))
  have R4 := Lib.hid (R3.out.grown hg (by intro e; injection e with e; exact NE.out.1 e))
  have F4 := Lib.hid (F3.out.trans (FrS.of_grown hg (Or.inl rfl)))
  have W4 := Lib.hid hr4
  clear hg hr4 c1 fz
  go_upto_region 4 with fail
  obtain ⟨w5, hw5⟩ : ∃ w5, w5 = w4.alloc (.cells #[.int .i64 5, .int .i64 0, .string ⟨#[]⟩, .slice none 0 0, .slice none 0 0] 26) := ⟨_, rfl⟩
  have b5 : Below w4.heap.size w4 w5 := by rw [hw5]; exact below_one _ _
  have V5 : Hid (Bk w5 w4.heap.size 26 #[.int .i64 5, .int .i64 0, .string ⟨#[]⟩, .slice none 0 0, .slice none 0 0]) := Lib.hid (by rw [hw5]; exact Bk.new _ _ _)
  have R5 := Lib.hid (R4.out.below b5 R4.out.lt)
  have Q5 := Lib.hid (Q4.out.below b5 Q4.out.lt)
  have W5 := Lib.hid (W4.out.below b5)
  have F5 : Hid (FrS (Two p q) w w5) := Lib.hid (F4.out.trans (FrS.of_below b5))
  have NG : Hid (w4.heap.size ≠ p) := Lib.hid (by have := W4.out.lt; omega)
  have NG2 : Hid (w4.heap.size ≠ q ∧ w.heap.size < w4.heap.size) := Lib.hid (by have := Q4.out.lt; have := R4.out.lt; exact ⟨by omega, by omega⟩)
  rw [← hw5]
  clear hw5 b5
  have k0 := V5.out.cell 0
  change _ = some (Value.int .i64 5) at k0
  go_wp2_with fail
  refine (rreq_any true W5.out Q5.out).mono ?_
  rintro e1 w6 ⟨rfl, hg, hr6⟩
  have Q6 := Lib.hid (Q5.out.grown hg (by intro e; injection e with e; exact NQ.out e))
  have R6 := Lib.hid (R5.out.grown hg (by intro e; injection e with e; exact NE.out.1 e))
  have F6 := Lib.hid (F5.out.trans (FrS.of_grown hg (Or.inl rfl)))
  have V6 := Lib.hid (V5.out.grown hg (by intro e; injection e with e; exact NG.out e))
  have W6 := Lib.hid hr6
  clear hg hr6 k0
  have k0 := V6.out.cell 0
  change _ = some (Value.int .i64 5) at k0
  go_wp2_with fail
  refine (good_any true (by decide) W6.out Q6.out).mono ?_
  rintro e1 w' ⟨rfl, rfl⟩
  have N6 : Hid (w.heap.size < w4.heap.size ∧ w4.heap.size < w6.heap.size) := Lib.hid ⟨NG2.out.2, V6.out.lt⟩
  clear k0
  have v0 := V6.out.cell 0
  change _ = some (Value.int .i64 5) at v0
  have v1 := V6.out.cell 1
  change _ = some (Value.int .i64 0) at v1
  have v2 := V6.out.cell 2
  change _ = some (Value.string ⟨#[]⟩) at v2
  have v3 := V6.out.cell 3
  change _ = some (Value.slice none 0 0) at v3
  have v4 := V6.out.cell 4
  change _ = some (Value.slice none 0 0) at v4
  go_wp2_with fail
  refine (HIT.out _ W6.out Q6.out).mono ?_
  rintro e1 w7 ⟨AI, nI, cI, AK, nK, cK, b7, rfl, hf7, Q7, hb7, hst⟩
  have R7 := Lib.hid (hf7.out.bk R6.out (fun h => by rcases h with h | h; exact NE.out.1 h; exact NE.out.2 h))
  have V7 := Lib.hid (hf7.out.bk V6.out (fun h => by rcases h with h | h; exact NG.out h; exact NG2.out.1 h))
  have F7 : Hid (FrS (Two p q) w w7) := Lib.hid (F6.out.trans hf7.out)
  clear v0 v1 v2 v3 v4
  rcases hst with ⟨its, ks, l7, HEQ, W7, HLS⟩ | ⟨e7, l7, HEQ, he7, W7⟩
  · clear HIT
    have y0 := V7.out.cell 0
    have y1 := V7.out.cell 1
    have y2 := V7.out.cell 2
    have y3 := V7.out.cell 3
    have y4 := V7.out.cell 4
    have z0 := V7.out.frozen 0
    have z1 := V7.out.frozen 1
    have z2 := V7.out.frozen 2
    have z3 := V7.out.frozen 3
    have z4 := V7.out.frozen 4
    go_upto_region 18 with fail
    obtain ⟨w8, hw8⟩ : ∃ w8, w8 = ((((w7.setCell ⟨w4.heap.size, 0, none⟩ (.int .i64 5)).setCell ⟨w4.heap.size, 1, none⟩ (.int .i64 0)).setCell ⟨w4.heap.size, 2, none⟩ (.string ⟨#[]⟩)).setCell ⟨w4.heap.size, 3, none⟩ (.slice AI nI cI)).setCell ⟨w4.heap.size, 4, none⟩ (.slice AK nK cK) := ⟨_, rfl⟩
    have G8 : Hid (w7.grownBy w8 (some w4.heap.size)) := Lib.hid (by rw [hw8]; exact grownBy_trans (grownBy_trans (grownBy_trans (grownBy_trans (turned w7 w4.heap.size 0 _) (turned _ w4.heap.size 1 _)) (turned _ w4.heap.size 2 _)) (turned _ w4.heap.size 3 _)) (turned _ w4.heap.size 4 _))
    have V8 : Hid (Bk w8 w4.heap.size 26 #[.int .i64 5, .int .i64 0, .string ⟨#[]⟩, .slice AI nI cI, .slice AK nK cK]) := Lib.hid (by rw [hw8]; exact ((((V7.out.put 0 _).put 1 _).put 2 _).put 3 _).put 4 _)
    have Q8 := Lib.hid (Q7.out.grown G8.out (by intro e; injection e with e; exact NG2.out.1 e.symm))
    have R8 := Lib.hid (R7.out.grown G8.out (by intro e; injection e with e; have := NG2.out.2; omega))
    have F8 : Hid (FrS (Two p q) w w8) := Lib.hid (F7.out.next (S' := fun b => b = w4.heap.size) (FrS.of_grown G8.out rfl) (fun i hi e => by have := NG2.out.2; omega))
    have W8 := Lib.hid (W7.out.other V7.out (by decide) (Ne.symm NG.out) G8.out)
    have S8 : Hid (w7.heap.size ≤ w8.heap.size) := Lib.hid G8.out.size
    rw [← hw8]
    clear hw8 y0 y1 y2 y3 y4 z0 z1 z2 z3 z4
    have k0 := trivial
    clear k0
    have v0 := V8.out.cell 0
    change _ = some (Value.int .i64 5) at v0
    have v1 := V8.out.cell 1
    change _ = some (Value.int .i64 0) at v1
    have v2 := V8.out.cell 2
    change _ = some (Value.string ⟨#[]⟩) at v2
    have v3 := V8.out.cell 3
    change _ = some (Value.slice AI nI cI) at v3
    have v4 := V8.out.cell 4
    change _ = some (Value.slice AK nK cK) at v4
    have r0 := R8.out.cell 0
    have r1 := R8.out.cell 1
    have r2 := R8.out.cell 2
    have r3 := R8.out.cell 3
    have r4 := R8.out.cell 4
    have f0 := R8.out.frozen 0
    have f1 := R8.out.frozen 1
    have f2 := R8.out.frozen 2
    have f3 := R8.out.frozen 3
    have f4 := R8.out.frozen 4
    go_wp2
    obtain ⟨wf, hwf⟩ : ∃ wf, wf = ((((w8.setCell ⟨w.heap.size, 0, none⟩ (.int .i64 5)).setCell ⟨w.heap.size, 1, none⟩ (.int .i64 0)).setCell ⟨w.heap.size, 2, none⟩ (.string ⟨#[]⟩)).setCell ⟨w.heap.size, 3, none⟩ (.slice AI nI cI)).setCell ⟨w.heap.size, 4, none⟩ (.slice AK nK cK) := ⟨_, rfl⟩
    have GF : Hid (w8.grownBy wf (some w.heap.size)) := Lib.hid (by rw [hwf]; exact grownBy_trans (grownBy_trans (grownBy_trans (grownBy_trans (turned w8 w.heap.size 0 _) (turned _ w.heap.size 1 _)) (turned _ w.heap.size 2 _)) (turned _ w.heap.size 3 _)) (turned _ w.heap.size 4 _))
    have RF : Hid (Bk wf w.heap.size 26 #[.int .i64 5, .int .i64 0, .string ⟨#[]⟩, .slice AI nI cI, .slice AK nK cK]) := Lib.hid (by rw [hwf]; exact ((((R8.out.put 0 _).put 1 _).put 2 _).put 3 _).put 4 _)
    have QF := Lib.hid (Q8.out.grown GF.out (by intro e; injection e with e; exact NE.out.2 e.symm))
    have WF := Lib.hid (W8.out.other R8.out (by decide) (Ne.symm NE.out.1) GF.out)
    have FF : Hid (FrS (Two p q) w wf) := Lib.hid (F8.out.next (S' := fun b => b = w.heap.size) (FrS.of_grown GF.out rfl) (fun i hi e => by omega))
    rw [← hwf]
    refine bodyPost_ret (results_cell_row rfl _ _ w.heap.size 26 _ (0, 0) _ rfl RF.out Try.underlying26 rfl (by kernel_rfl)) rfl ?_
    have hr := HRES.out
    rw [HEQ.out] at hr
    rw [hr]
    refine ⟨_, _, _, _, _, _, _, _, _, b7, rfl, FF, QF, hb7, Or.inl ⟨_, l7, Lib.hid rfl, WF, Lib.hid (HLS.out.keep (fun a ha => ?_) (fun a ha => ?_))⟩⟩
    · exact (GF.out.cell_far a (by have := ha.2; have := S8.out; omega) (fun e => by injection e with e; have := ha.1; have := N6.out; omega)).trans (G8.out.cell_far a ha.2 (fun e => by injection e with e; have := ha.1; have := N6.out; omega))
    · have := ha.1; have := ha.2; have := N6.out; have := GF.out.size; have := S8.out; exact ⟨by omega, by omega⟩
  · have HE7 := Lib.hid he7
    clear he7 HIT
    have y0 := V7.out.cell 0
    have y1 := V7.out.cell 1
    have y2 := V7.out.cell 2
    have y3 := V7.out.cell 3
    have y4 := V7.out.cell 4
    have z0 := V7.out.frozen 0
    have z1 := V7.out.frozen 1
    have z2 := V7.out.frozen 2
    have z3 := V7.out.frozen 3
    have z4 := V7.out.frozen 4
    go_upto_region 18 with fail
    obtain ⟨w8, hw8⟩ : ∃ w8, w8 = ((((w7.setCell ⟨w4.heap.size, 0, none⟩ (.int .i64 5)).setCell ⟨w4.heap.size, 1, none⟩ (.int .i64 0)).setCell ⟨w4.heap.size, 2, none⟩ (.string ⟨#[]⟩)).setCell ⟨w4.heap.size, 3, none⟩ (.slice AI nI cI)).setCell ⟨w4.heap.size, 4, none⟩ (.slice AK nK cK) := ⟨_, rfl⟩
    have G8 : Hid (w7.grownBy w8 (some w4.heap.size)) := Lib.hid (by rw [hw8]; exact grownBy_trans (grownBy_trans (grownBy_trans (grownBy_trans (turned w7 w4.heap.size 0 _) (turned _ w4.heap.size 1 _)) (turned _ w4.heap.size 2 _)) (turned _ w4.heap.size 3 _)) (turned _ w4.heap.size 4 _))
    have V8 : Hid (Bk w8 w4.heap.size 26 #[.int .i64 5, .int .i64 0, .string ⟨#[]⟩, .slice AI nI cI, .slice AK nK cK]) := Lib.hid (by rw [hw8]; exact ((((V7.out.put 0 _).put 1 _).put 2 _).put 3 _).put 4 _)
    have Q8 := Lib.hid (Q7.out.grown G8.out (by intro e; injection e with e; exact NG2.out.1 e.symm))
    have R8 := Lib.hid (R7.out.grown G8.out (by intro e; injection e with e; have := NG2.out.2; omega))
    have F8 : Hid (FrS (Two p q) w w8) := Lib.hid (F7.out.next (S' := fun b => b = w4.heap.size) (FrS.of_grown G8.out rfl) (fun i hi e => by have := NG2.out.2; omega))
    have W8 := Lib.hid (W7.out.other V7.out (by decide) (Ne.symm NG.out) G8.out)
    have S8 : Hid (w7.heap.size ≤ w8.heap.size) := Lib.hid G8.out.size
    rw [← hw8]
    clear hw8 y0 y1 y2 y3 y4 z0 z1 z2 z3 z4
    have k0 := trivial
    clear k0
    have v0 := V8.out.cell 0
    change _ = some (Value.int .i64 5) at v0
    have v1 := V8.out.cell 1
    change _ = some (Value.int .i64 0) at v1
    have v2 := V8.out.cell 2
    change _ = some (Value.string ⟨#[]⟩) at v2
    have v3 := V8.out.cell 3
    change _ = some (Value.slice AI nI cI) at v3
    have v4 := V8.out.cell 4
    change _ = some (Value.slice AK nK cK) at v4
    have r0 := R8.out.cell 0
    have r1 := R8.out.cell 1
    have r2 := R8.out.cell 2
    have r3 := R8.out.cell 3
    have r4 := R8.out.cell 4
    have f0 := R8.out.frozen 0
    have f1 := R8.out.frozen 1
    have f2 := R8.out.frozen 2
    have f3 := R8.out.frozen 3
    have f4 := R8.out.frozen 4
    go_wp2
    obtain ⟨wf, hwf⟩ : ∃ wf, wf = ((((w8.setCell ⟨w.heap.size, 0, none⟩ (.int .i64 5)).setCell ⟨w.heap.size, 1, none⟩ (.int .i64 0)).setCell ⟨w.heap.size, 2, none⟩ (.string ⟨#[]⟩)).setCell ⟨w.heap.size, 3, none⟩ (.slice AI nI cI)).setCell ⟨w.heap.size, 4, none⟩ (.slice AK nK cK) := ⟨_, rfl⟩
    have GF : Hid (w8.grownBy wf (some w.heap.size)) := Lib.hid (by rw [hwf]; exact grownBy_trans (grownBy_trans (grownBy_trans (grownBy_trans (turned w8 w.heap.size 0 _) (turned _ w.heap.size 1 _)) (turned _ w.heap.size 2 _)) (turned _ w.heap.size 3 _)) (turned _ w.heap.size 4 _))
    have RF : Hid (Bk wf w.heap.size 26 #[.int .i64 5, .int .i64 0, .string ⟨#[]⟩, .slice AI nI cI, .slice AK nK cK]) := Lib.hid (by rw [hwf]; exact ((((R8.out.put 0 _).put 1 _).put 2 _).put 3 _).put 4 _)
    have QF := Lib.hid (Q8.out.grown GF.out (by intro e; injection e with e; exact NE.out.2 e.symm))
    have WF := Lib.hid (W8.out.other R8.out (by decide) (Ne.symm NE.out.1) GF.out)
    have FF : Hid (FrS (Two p q) w wf) := Lib.hid (F8.out.next (S' := fun b => b = w.heap.size) (FrS.of_grown GF.out rfl) (fun i hi e => by omega))
    rw [← hwf]
    refine bodyPost_ret (results_cell_row rfl _ _ w.heap.size 26 _ (0, 0) _ rfl RF.out Try.underlying26 rfl (by kernel_rfl)) rfl ?_
    have hr := HRES.out
    rw [HEQ.out] at hr
    rw [hr]
    exact ⟨_, _, _, _, _, _, _, _, _, b7, rfl, FF, QF, hb7, Or.inr ⟨e7, l7, Lib.hid rfl, HE7.out, WF⟩⟩
end Go.Proofs.Ytidinbeanaifmaa
