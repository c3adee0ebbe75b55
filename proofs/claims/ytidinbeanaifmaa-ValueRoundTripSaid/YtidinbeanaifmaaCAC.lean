/-
  Contracts of the code's and of the reference's functions, part AC, and what they lean on.
-/
import Derived.Test.YtidinbeanaifmaaCAB
import Derived.Deep.Cut
namespace Go.Proofs.Ytidinbeanaifmaa
open Go.RowKit

/-- of what was there only blocks of S may have turned -/
structure FrS (S : Nat → Prop) (w w' : World) : Prop where
  os : w'.os = w.os
  tape : w'.tape = w.tape
  output : w'.output = w.output
  size : w.heap.size ≤ w'.heap.size
  block : ∀ b, b < w.heap.size → ¬ S b → w'.heap[b]? = w.heap[b]?
section
variable {S S' : Nat → Prop} {a b c w w' : World}
theorem FrS.refl (S : Nat → Prop) (w : World) : FrS S w w := ⟨rfl, rfl, rfl, Nat.le_refl _, fun _ _ _ => rfl⟩
theorem FrS.trans (h : FrS S a b) (k : FrS S b c) : FrS S a c :=
  ⟨k.os.trans h.os, k.tape.trans h.tape, k.output.trans h.output, Nat.le_trans h.size k.size, fun i hi hs => (k.block i (Nat.lt_of_lt_of_le hi h.size) hs).trans (h.block i hi hs)⟩
/-- a call that turns blocks which were not there -/
theorem FrS.next (h : FrS S a b) (k : FrS S' b c) (hs : ∀ i, i < a.heap.size → S' i → S i) : FrS S a c :=
  ⟨k.os.trans h.os, k.tape.trans h.tape, k.output.trans h.output, Nat.le_trans h.size k.size, fun i hi hn => (k.block i (Nat.lt_of_lt_of_le hi h.size) (fun e => hn (hs i hi e))).trans (h.block i hi hn)⟩
theorem FrS.of_below (h : Below w.heap.size w w') : FrS S w w' := ⟨h.os, h.tape, h.output, h.size, fun b hb _ => h.block b hb⟩
theorem FrS.of_grown {p : Nat} (h : w.grownBy w' (some p)) (hp : S p) : FrS S w w' := ⟨h.os, h.tape, h.output, h.size, fun b hb hn => h.block b hb (fun e => hn (by injection e with e; rw [e]; exact hp))⟩
theorem FrS.of_row {r : Option Nat} (h : w.grownBy w' r) (hr : ∀ q, r = some q → S q) : FrS S w w' := ⟨h.os, h.tape, h.output, h.size, fun b hb hn => h.block b hb (fun e => hn (hr b e.symm))⟩
theorem FrS.bk (h : FrS S w w') {g : Nat} {t : TypeId} {cs : Array Value} (hb : Bk w g t cs) (hg : ¬ S g) : Bk w' g t cs := (h.block g hb.lt hg).trans hb
theorem FrS.cell (h : FrS S w w') {p : Addr} (hp : p.block < w.heap.size) (hs : ¬ S p.block) : w'.cell? p = w.cell? p := World.cell?_of_block (h.block _ hp hs)
theorem FrS.below (h : FrS S w w') {B : Nat} (hB : B ≤ w.heap.size) (hs : ∀ b, S b → B ≤ b) : Below B w w' := ⟨h.os, h.tape, h.output, h.size, fun b hb => h.block b (by omega) (fun e => by have := hs b e; omega)⟩
theorem FrS.same (h : FrS S w w') {lo : Nat} (hs : ∀ b, S b → b < lo) : SameFrom lo w w' := fun b h1 h2 => h.block b h2 (fun e => by have := hs b e; omega)
end
/-- two blocks, three blocks -/
def Two (p q : Nat) : Nat → Prop := fun b => b = p ∨ b = q
def Three (p q g : Nat) : Nat → Prop := fun b => b = p ∨ b = q ∨ b = g
/-- blocks that were not there -/
def New (w w' : World) : Nat → Prop := fun b => w.heap.size ≤ b ∧ b < w'.heap.size

section
variable {w w' : World} {p q g : Nat} {l : List UInt8} {e b : Int}
theorem WRd.dec_ne {cs : Array Value} (h : WRd w p l e) (hq : Bk w q 90 cs) : q ≠ p := by
  obtain ⟨_, _, _, _, hb, _⟩ := h
  exact hq.ne_ hb (by decide)
theorem RRd.dec_ne {cs : Array Value} (h : RRd w p l e) (hq : Bk w q 93 cs) : q ≠ p := by
  obtain ⟨_, _, _, _, hb, _⟩ := h
  exact hq.ne_ hb (by decide)
theorem WRd.val_ne {cs : Array Value} (h : WRd w p l e) (hq : Bk w g 26 cs) : g ≠ p := by
  obtain ⟨_, _, _, _, hb, _⟩ := h
  exact hq.ne_ hb (by decide)
theorem RRd.val_ne {cs : Array Value} (h : RRd w p l e) (hq : Bk w g 26 cs) : g ≠ p := by
  obtain ⟨_, _, _, _, hb, _⟩ := h
  exact hq.ne_ hb (by decide)
end

/-- what a decoder's value hands back: RD the reader's state, DT the decoder's type -/
def DecP (RD : World → Nat → List UInt8 → Int → Prop) (DT : TypeId) (r : DR VT) (p q : Nat) (w : World) (en : Ending) (w' : World) : Prop :=
  ∃ (k i : Int) (t : ByteArray) (A : Option Addr) (n c : Nat) (A' : Option Addr) (n' c' : Nat) (b' : Nat), en = .returned (.agg #[.int .i64 k, .int .i64 i, .string t, .slice A n c, .slice A' n' c']) ∧
    Hid (FrS (Two p q) w w') ∧ Hid (Bk w' q DT #[.pointer (some ⟨p, 0, none⟩), .int .i64 (b' : Nat)]) ∧ b' ≤ 1001 ∧
    ((∃ x l', Hid (r = .ok x l' b') ∧ Hid (RD w' p l' 0) ∧ Hid (Lies w' (New w w') x (.agg #[.int .i64 k, .int .i64 i, .string t, .slice A n c, .slice A' n' c']))) ∨ ∃ e l', Hid (r = .err e) ∧ e ≠ 0 ∧ Hid (RD w' p l' e))
theorem leaf_lies {w : World} {R : Nat → Prop} {k i : Int} {t : ByteArray} (h1 : -9223372036854775808 ≤ k ∧ k ≤ 9223372036854775807) (h2 : -9223372036854775808 ≤ i ∧ i ≤ 9223372036854775807) (h3 : t.size ≤ 9223372036854775807) :
    Lies w R (.mk k i t [] []) (.agg #[.int .i64 k, .int .i64 i, .string t, .slice none 0 0, .slice none 0 0]) := by
  rw [Lies]
  exact ⟨none, 0, none, 0, rfl, h1, h2, h3, Nat.le_refl _, by omega, LiesL.none_, Nat.le_refl _, by omega, LiesS.none_⟩
end Go.Proofs.Ytidinbeanaifmaa
namespace Go.Proofs.Ytidinbeanaifmaa
open Go.RowKit

theorem wint_k {w : World} {p q : Nat} {l l1 : List UInt8} {k e1 b : Int} (hi : intA l = (k, l1, e1)) (h : WRd w p l 0) (hq : Bk w q 90 #[.pointer (some ⟨p, 0, none⟩), .int .i64 b]) : Calls Try.prog 111 #[.pointer (some ⟨q, 0, none⟩)] w (Turns (.int .i64 k) w p fun w' => WRd w' p l1 e1) := by
  have h1 := wint_any h hq
  have e1 : intS l 0 (-9223372036854775808) 9223372036854775807 = intA l := by unfold intS intA; rw [if_pos rfl]
  rw [e1, hi] at h1
  exact h1
theorem wint_e {w : World} {p q : Nat} {l : List UInt8} {e b : Int} (he : e ≠ 0) (h : WRd w p l e) (hq : Bk w q 90 #[.pointer (some ⟨p, 0, none⟩), .int .i64 b]) : Calls Try.prog 111 #[.pointer (some ⟨q, 0, none⟩)] w (Turns (.int .i64 0) w p fun w' => WRd w' p l e) := by
  have h1 := wint_any h hq
  have e1 : intS l e (-9223372036854775808) 9223372036854775807 = (0, l, e) := by unfold intS; rw [if_neg he]
  rw [e1] at h1
  exact h1
theorem wtext_k {w : World} {p q : Nat} {l : List UInt8} {b : Int} (hl : l.length ≤ 4611686018427387904) (h : WRd w p l 0) (hq : Bk w q 90 #[.pointer (some ⟨p, 0, none⟩), .int .i64 b]) : Calls Try.prog 112 #[.pointer (some ⟨q, 0, none⟩)] w
    (Turns (.string ⟨(textR l 9223372036854775807).1.toArray⟩) w p fun w' => WRd w' p (textR l 9223372036854775807).2.1 (reqE (decide ((textR l 9223372036854775807).1.length ≤ 4096)) (textR l 9223372036854775807).2.2)) := by
  have e1 : textS l 0 9223372036854775807 = textR l 9223372036854775807 := by unfold textS; rw [if_pos rfl]
  have h1 := wtext_any (by rw [e1]; have := textA_len l; omega) h hq (h.dec_ne hq)
  rw [e1] at h1
  exact h1

set_option maxRecDepth 100000 in
set_option maxHeartbeats 4000000 in
theorem dv_many {w : World} {p q b : Nat} {l : List UInt8} {d : Int} (hr : WRd w p l 0) (hq : Bk w q 90 #[.pointer (some ⟨p, 0, none⟩), .int .i64 (b : Nat)]) (hb : b ≤ 1000) (hbad : 1000 ≤ b) :
    Calls Try.prog 86 #[.pointer (some ⟨q, 0, none⟩), .int .i64 d] w (DecP WRd 90 (.err 3) p q w) := by
  have t1 : decide (((b : Nat) : Int) < 1000) = false := by rw [decide_eq_false_iff_not]; omega
  clear hbad
  obtain ⟨w1, hw1⟩ : ∃ w1, w1 = w.alloc (.cells #[.int .i64 0, .int .i64 0, .string ⟨#[]⟩, .slice none 0 0, .slice none 0 0] 26) := ⟨_, rfl⟩
  have b1 : Below w.heap.size w w1 := by rw [hw1]; exact below_one _ _
  have R1 : Hid (Bk w1 w.heap.size 26 #[.int .i64 0, .int .i64 0, .string ⟨#[]⟩, .slice none 0 0, .slice none 0 0]) := Lib.hid (by rw [hw1]; exact Bk.new _ _ _)
  have W1 := Lib.hid (hr.below b1)
  have Q1 := Lib.hid (hq.below b1 hq.lt)
  have F1 : Hid (FrS (Two p q) w w1) := Lib.hid (FrS.of_below b1)
  have NQ := Lib.hid (hr.dec_ne hq)
  have NE : Hid (w.heap.size ≠ p ∧ w.heap.size ≠ q) := Lib.hid (by have h1 := hr.lt; have h2 := hq.lt; exact ⟨by omega, by omega⟩)
  have HW := Lib.hid hw1
  have c1 := Q1.out.cell 1
  change _ = some (Value.int .i64 (b : Nat)) at c1
  rw [hw1] at c1
  clear hr hq hw1 b1
  go_enter Try.func86, Try.ntmps86
  go_wp2_with fail
  rw [← HW.out]
  refine (wreq_any false W1.out Q1.out).mono ?_
  rintro e1 w2 ⟨rfl, hg, hr2⟩
  have Q2 := Lib.hid (Q1.out.grown hg (by intro e; injection e with e; exact NQ.out e))
  have R2 := Lib.hid (R1.out.grown hg (by intro e; injection e with e; exact NE.out.1 e))
  have F2 := Lib.hid (F1.out.trans (FrS.of_grown hg (Or.inl rfl)))
  have W2 := Lib.hid hr2
  clear hg hr2 c1
  have c1 := Q2.out.cell 1
  change _ = some (Value.int .i64 (b : Nat)) at c1
  have fz := Q2.out.frozen 1
  obtain ⟨w3, hw3⟩ : ∃ w3, w3 = w2.setCell ⟨q, 1, none⟩ (.int .i64 ((b : Nat) + 1)) := ⟨_, rfl⟩
  have g3 : w2.grownBy w3 (some q) := by rw [hw3]; exact turned _ _ _ _
  have Q3 : Hid (Bk w3 q 90 #[.pointer (some ⟨p, 0, none⟩), .int .i64 ((b + 1 : Nat) : Int)]) := Lib.hid (by rw [hw3]; exact Q2.out.put 1 _)
  have R3 := Lib.hid (R2.out.grown g3 (by intro e; injection e with e; exact NE.out.2 e))
  have F3 := Lib.hid (F2.out.trans (FrS.of_grown g3 (Or.inr rfl)))
  have W3 := Lib.hid (W2.out.other Q2.out (by decide) (Ne.symm NQ.out) g3)
  have HW3 := Lib.hid hw3
  clear hw3 g3
  go_wp2_with fail
  rw [← HW3.out]
  refine (wint_e (by decide) W3.out Q3.out).mono ?_
  rintro e1 w4 ⟨rfl, hg, hr4⟩
  have Q4 := Lib.hid (Q3.out.grown hg (by intro e; injection e with e; exact NQ.out e))
  have R4 := Lib.hid (R3.out.grown hg (by intro e; injection e with e; exact NE.out.1 e))
  have F4 := Lib.hid (F3.out.trans (FrS.of_grown hg (Or.inl rfl)))
  have W4 := Lib.hid hr4
  clear hg hr4 c1 fz
  go_wp2_with fail
  refine (wreq_any true W4.out Q4.out).mono ?_
  rintro e1 w5 ⟨rfl, hg, hr5⟩
  have Q5 := Lib.hid (Q4.out.grown hg (by intro e; injection e with e; exact NQ.out e))
  have R5 := Lib.hid (R4.out.grown hg (by intro e; injection e with e; exact NE.out.1 e))
  have F5 := Lib.hid (F4.out.trans (FrS.of_grown hg (Or.inl rfl)))
  have W5 := Lib.hid hr5
  clear hg hr5
  go_upto_region 6 with fail
  obtain ⟨w6, hw6⟩ : ∃ w6, w6 = w5.alloc (.cells #[.int .i64 0, .int .i64 0, .string ⟨#[]⟩, .slice none 0 0, .slice none 0 0] 26) := ⟨_, rfl⟩
  have b6 : Below w5.heap.size w5 w6 := by rw [hw6]; exact below_one _ _
  have V6 : Hid (Bk w6 w5.heap.size 26 #[.int .i64 0, .int .i64 0, .string ⟨#[]⟩, .slice none 0 0, .slice none 0 0]) := Lib.hid (by rw [hw6]; exact Bk.new _ _ _)
  have R6 := Lib.hid (R5.out.below b6 R5.out.lt)
  have Q6 := Lib.hid (Q5.out.below b6 Q5.out.lt)
  have W6 := Lib.hid (W5.out.below b6)
  have F6 : Hid (FrS (Two p q) w w6) := Lib.hid (F5.out.trans (FrS.of_below b6))
  have NG : Hid (w5.heap.size ≠ p) := Lib.hid (by have := W5.out.lt; omega)
  have NG2 : Hid (w5.heap.size ≠ q ∧ w.heap.size < w5.heap.size) := Lib.hid (by have := Q5.out.lt; have := R5.out.lt; exact ⟨by omega, by omega⟩)
  rw [← hw6]
  clear hw6 b6
  have v0 := V6.out.cell 0
  change _ = some (Value.int .i64 0) at v0
  have v1 := V6.out.cell 1
  change _ = some (Value.int .i64 0) at v1
  have v2 := V6.out.cell 2
  change _ = some (Value.string ⟨#[]⟩) at v2
  have v3 := V6.out.cell 3
  change _ = some (Value.slice none 0 0) at v3
  have v4 := V6.out.cell 4
  change _ = some (Value.slice none 0 0) at v4
  have r0 := R6.out.cell 0
  have r1 := R6.out.cell 1
  have r2 := R6.out.cell 2
  have r3 := R6.out.cell 3
  have r4 := R6.out.cell 4
  have f0 := R6.out.frozen 0
  have f1 := R6.out.frozen 1
  have f2 := R6.out.frozen 2
  have f3 := R6.out.frozen 3
  have f4 := R6.out.frozen 4
  go_wp2
  obtain ⟨wf, hwf⟩ : ∃ wf, wf = ((((w6.setCell ⟨w.heap.size, 0, none⟩ (.int .i64 0)).setCell ⟨w.heap.size, 1, none⟩ (.int .i64 0)).setCell ⟨w.heap.size, 2, none⟩ (.string ⟨#[]⟩)).setCell ⟨w.heap.size, 3, none⟩ (.slice none 0 0)).setCell ⟨w.heap.size, 4, none⟩ (.slice none 0 0) := ⟨_, rfl⟩
  have GF : Hid (w6.grownBy wf (some w.heap.size)) := Lib.hid (by rw [hwf]; exact grownBy_trans (grownBy_trans (grownBy_trans (grownBy_trans (turned w6 w.heap.size 0 _) (turned _ w.heap.size 1 _)) (turned _ w.heap.size 2 _)) (turned _ w.heap.size 3 _)) (turned _ w.heap.size 4 _))
  have RF : Hid (Bk wf w.heap.size 26 #[.int .i64 0, .int .i64 0, .string ⟨#[]⟩, .slice none 0 0, .slice none 0 0]) := Lib.hid (by rw [hwf]; exact ((((R6.out.put 0 _).put 1 _).put 2 _).put 3 _).put 4 _)
  have QF := Lib.hid (Q6.out.grown GF.out (by intro e; injection e with e; exact NE.out.2 e.symm))
  have WF := Lib.hid (W6.out.other R6.out (by decide) (Ne.symm NE.out.1) GF.out)
  have FF : Hid (FrS (Two p q) w wf) := Lib.hid (F6.out.next (S' := fun b => b = w.heap.size) (FrS.of_grown GF.out rfl) (fun i hi e => by omega))
  rw [← hwf]
  refine bodyPost_ret (results_cell_row rfl _ _ w.heap.size 26 _ (0, 0) _ rfl RF.out Try.underlying26 rfl (by kernel_rfl)) rfl ?_
  exact ⟨_, _, _, _, _, _, _, _, _, b + 1, rfl, FF, QF, by omega, Or.inr ⟨3, l, Lib.hid rfl, by decide, WF⟩⟩

set_option maxRecDepth 100000 in
set_option maxHeartbeats 4000000 in
theorem dv_deep {w : World} {p q b : Nat} {l : List UInt8} {d : Int} (hr : WRd w p l 0) (hq : Bk w q 90 #[.pointer (some ⟨p, 0, none⟩), .int .i64 (b : Nat)]) (hb : b ≤ 1000) (hbad : 16 < d) :
    Calls Try.prog 86 #[.pointer (some ⟨q, 0, none⟩), .int .i64 d] w (DecP WRd 90 (.err 3) p q w) := by
  by_cases hm : 1000 ≤ b
  · exact dv_many hr hq hb hm
  · have t1 : decide (((b : Nat) : Int) < 1000) = true := by rw [decide_eq_true_eq]; omega
    have t2 : decide (d ≤ 16) = false := by rw [decide_eq_false_iff_not]; omega
    clear hm
    clear hbad
    obtain ⟨w1, hw1⟩ : ∃ w1, w1 = w.alloc (.cells #[.int .i64 0, .int .i64 0, .string ⟨#[]⟩, .slice none 0 0, .slice none 0 0] 26) := ⟨_, rfl⟩
    have b1 : Below w.heap.size w w1 := by rw [hw1]; exact below_one _ _
    have R1 : Hid (Bk w1 w.heap.size 26 #[.int .i64 0, .int .i64 0, .string ⟨#[]⟩, .slice none 0 0, .slice none 0 0]) := Lib.hid (by rw [hw1]; exact Bk.new _ _ _)
    have W1 := Lib.hid (hr.below b1)
    have Q1 := Lib.hid (hq.below b1 hq.lt)
    have F1 : Hid (FrS (Two p q) w w1) := Lib.hid (FrS.of_below b1)
    have NQ := Lib.hid (hr.dec_ne hq)
    have NE : Hid (w.heap.size ≠ p ∧ w.heap.size ≠ q) := Lib.hid (by have h1 := hr.lt; have h2 := hq.lt; exact ⟨by omega, by omega⟩)
    have HW := Lib.hid hw1
    have c1 := Q1.out.cell 1
    change _ = some (Value.int .i64 (b : Nat)) at c1
    rw [hw1] at c1
    clear hr hq hw1 b1
    go_enter Try.func86, Try.ntmps86
    go_wp2_with fail
    rw [← HW.out]
    refine (wreq_any false W1.out Q1.out).mono ?_
    rintro e1 w2 ⟨rfl, hg, hr2⟩
    have Q2 := Lib.hid (Q1.out.grown hg (by intro e; injection e with e; exact NQ.out e))
    have R2 := Lib.hid (R1.out.grown hg (by intro e; injection e with e; exact NE.out.1 e))
    have F2 := Lib.hid (F1.out.trans (FrS.of_grown hg (Or.inl rfl)))
    have W2 := Lib.hid hr2
    clear hg hr2 c1
    have c1 := Q2.out.cell 1
    change _ = some (Value.int .i64 (b : Nat)) at c1
    have fz := Q2.out.frozen 1
    obtain ⟨w3, hw3⟩ : ∃ w3, w3 = w2.setCell ⟨q, 1, none⟩ (.int .i64 ((b : Nat) + 1)) := ⟨_, rfl⟩
    have g3 : w2.grownBy w3 (some q) := by rw [hw3]; exact turned _ _ _ _
    have Q3 : Hid (Bk w3 q 90 #[.pointer (some ⟨p, 0, none⟩), .int .i64 ((b + 1 : Nat) : Int)]) := Lib.hid (by rw [hw3]; exact Q2.out.put 1 _)
    have R3 := Lib.hid (R2.out.grown g3 (by intro e; injection e with e; exact NE.out.2 e))
    have F3 := Lib.hid (F2.out.trans (FrS.of_grown g3 (Or.inr rfl)))
    have W3 := Lib.hid (W2.out.other Q2.out (by decide) (Ne.symm NQ.out) g3)
    have HW3 := Lib.hid hw3
    clear hw3 g3
    go_wp2_with fail
    rw [← HW3.out]
    refine (wint_e (by decide) W3.out Q3.out).mono ?_
    rintro e1 w4 ⟨rfl, hg, hr4⟩
    have Q4 := Lib.hid (Q3.out.grown hg (by intro e; injection e with e; exact NQ.out e))
    have R4 := Lib.hid (R3.out.grown hg (by intro e; injection e with e; exact NE.out.1 e))
    have F4 := Lib.hid (F3.out.trans (FrS.of_grown hg (Or.inl rfl)))
    have W4 := Lib.hid hr4
    clear hg hr4 c1 fz
    go_wp2_with fail
    refine (wreq_any true W4.out Q4.out).mono ?_
    rintro e1 w5 ⟨rfl, hg, hr5⟩
    have Q5 := Lib.hid (Q4.out.grown hg (by intro e; injection e with e; exact NQ.out e))
    have R5 := Lib.hid (R4.out.grown hg (by intro e; injection e with e; exact NE.out.1 e))
    have F5 := Lib.hid (F4.out.trans (FrS.of_grown hg (Or.inl rfl)))
    have W5 := Lib.hid hr5
    clear hg hr5
    go_upto_region 6 with fail
    obtain ⟨w6, hw6⟩ : ∃ w6, w6 = w5.alloc (.cells #[.int .i64 0, .int .i64 0, .string ⟨#[]⟩, .slice none 0 0, .slice none 0 0] 26) := ⟨_, rfl⟩
    have b6 : Below w5.heap.size w5 w6 := by rw [hw6]; exact below_one _ _
    have V6 : Hid (Bk w6 w5.heap.size 26 #[.int .i64 0, .int .i64 0, .string ⟨#[]⟩, .slice none 0 0, .slice none 0 0]) := Lib.hid (by rw [hw6]; exact Bk.new _ _ _)
    have R6 := Lib.hid (R5.out.below b6 R5.out.lt)
    have Q6 := Lib.hid (Q5.out.below b6 Q5.out.lt)
    have W6 := Lib.hid (W5.out.below b6)
    have F6 : Hid (FrS (Two p q) w w6) := Lib.hid (F5.out.trans (FrS.of_below b6))
    have NG : Hid (w5.heap.size ≠ p) := Lib.hid (by have := W5.out.lt; omega)
    have NG2 : Hid (w5.heap.size ≠ q ∧ w.heap.size < w5.heap.size) := Lib.hid (by have := Q5.out.lt; have := R5.out.lt; exact ⟨by omega, by omega⟩)
    rw [← hw6]
    clear hw6 b6
    have v0 := V6.out.cell 0
    change _ = some (Value.int .i64 0) at v0
    have v1 := V6.out.cell 1
    change _ = some (Value.int .i64 0) at v1
    have v2 := V6.out.cell 2
    change _ = some (Value.string ⟨#[]⟩) at v2
    have v3 := V6.out.cell 3
    change _ = some (Value.slice none 0 0) at v3
    have v4 := V6.out.cell 4
    change _ = some (Value.slice none 0 0) at v4
    have r0 := R6.out.cell 0
    have r1 := R6.out.cell 1
    have r2 := R6.out.cell 2
    have r3 := R6.out.cell 3
    have r4 := R6.out.cell 4
    have f0 := R6.out.frozen 0
    have f1 := R6.out.frozen 1
    have f2 := R6.out.frozen 2
    have f3 := R6.out.frozen 3
    have f4 := R6.out.frozen 4
    go_wp2
    obtain ⟨wf, hwf⟩ : ∃ wf, wf = ((((w6.setCell ⟨w.heap.size, 0, none⟩ (.int .i64 0)).setCell ⟨w.heap.size, 1, none⟩ (.int .i64 0)).setCell ⟨w.heap.size, 2, none⟩ (.string ⟨#[]⟩)).setCell ⟨w.heap.size, 3, none⟩ (.slice none 0 0)).setCell ⟨w.heap.size, 4, none⟩ (.slice none 0 0) := ⟨_, rfl⟩
    have GF : Hid (w6.grownBy wf (some w.heap.size)) := Lib.hid (by rw [hwf]; exact grownBy_trans (grownBy_trans (grownBy_trans (grownBy_trans (turned w6 w.heap.size 0 _) (turned _ w.heap.size 1 _)) (turned _ w.heap.size 2 _)) (turned _ w.heap.size 3 _)) (turned _ w.heap.size 4 _))
    have RF : Hid (Bk wf w.heap.size 26 #[.int .i64 0, .int .i64 0, .string ⟨#[]⟩, .slice none 0 0, .slice none 0 0]) := Lib.hid (by rw [hwf]; exact ((((R6.out.put 0 _).put 1 _).put 2 _).put 3 _).put 4 _)
    have QF := Lib.hid (Q6.out.grown GF.out (by intro e; injection e with e; exact NE.out.2 e.symm))
    have WF := Lib.hid (W6.out.other R6.out (by decide) (Ne.symm NE.out.1) GF.out)
    have FF : Hid (FrS (Two p q) w wf) := Lib.hid (F6.out.next (S' := fun b => b = w.heap.size) (FrS.of_grown GF.out rfl) (fun i hi e => by omega))
    rw [← hwf]
    refine bodyPost_ret (results_cell_row rfl _ _ w.heap.size 26 _ (0, 0) _ rfl RF.out Try.underlying26 rfl (by kernel_rfl)) rfl ?_
    exact ⟨_, _, _, _, _, _, _, _, _, b + 1, rfl, FF, QF, by omega, Or.inr ⟨3, l, Lib.hid rfl, by decide, WF⟩⟩

set_option maxRecDepth 100000 in
set_option maxHeartbeats 4000000 in
theorem dv_int {w : World} {p q b : Nat} {l : List UInt8} {d e1 : Int} {l1 : List UInt8} (hr : WRd w p l 0) (hq : Bk w q 90 #[.pointer (some ⟨p, 0, none⟩), .int .i64 (b : Nat)]) (hb : b ≤ 1000) (hlt : b < 1000) (hdp : d ≤ 16) (hi : intA l = (0, l1, e1)) (he : e1 ≠ 0) :
    Calls Try.prog 86 #[.pointer (some ⟨q, 0, none⟩), .int .i64 d] w (DecP WRd 90 (.err e1) p q w) := by
  have t1 : decide (((b : Nat) : Int) < 1000) = true := by rw [decide_eq_true_eq]; omega
  have t2 : decide (d ≤ 16) = true := by rw [decide_eq_true_eq]; omega
  clear hlt hdp
  have HE := Lib.hid he
  clear he
  obtain ⟨w1, hw1⟩ : ∃ w1, w1 = w.alloc (.cells #[.int .i64 0, .int .i64 0, .string ⟨#[]⟩, .slice none 0 0, .slice none 0 0] 26) := ⟨_, rfl⟩
  have b1 : Below w.heap.size w w1 := by rw [hw1]; exact below_one _ _
  have R1 : Hid (Bk w1 w.heap.size 26 #[.int .i64 0, .int .i64 0, .string ⟨#[]⟩, .slice none 0 0, .slice none 0 0]) := Lib.hid (by rw [hw1]; exact Bk.new _ _ _)
  have W1 := Lib.hid (hr.below b1)
  have Q1 := Lib.hid (hq.below b1 hq.lt)
  have F1 : Hid (FrS (Two p q) w w1) := Lib.hid (FrS.of_below b1)
  have NQ := Lib.hid (hr.dec_ne hq)
  have NE : Hid (w.heap.size ≠ p ∧ w.heap.size ≠ q) := Lib.hid (by have h1 := hr.lt; have h2 := hq.lt; exact ⟨by omega, by omega⟩)
  have HW := Lib.hid hw1
  have c1 := Q1.out.cell 1
  change _ = some (Value.int .i64 (b : Nat)) at c1
  rw [hw1] at c1
  clear hr hq hw1 b1
  go_enter Try.func86, Try.ntmps86
  go_wp2_with fail
  rw [← HW.out]
  refine (wreq_any true W1.out Q1.out).mono ?_
  rintro e1 w2 ⟨rfl, hg, hr2⟩
  have Q2 := Lib.hid (Q1.out.grown hg (by intro e; injection e with e; exact NQ.out e))
  have R2 := Lib.hid (R1.out.grown hg (by intro e; injection e with e; exact NE.out.1 e))
  have F2 := Lib.hid (F1.out.trans (FrS.of_grown hg (Or.inl rfl)))
  have W2 := Lib.hid hr2
  clear hg hr2 c1
  have c1 := Q2.out.cell 1
  change _ = some (Value.int .i64 (b : Nat)) at c1
  have fz := Q2.out.frozen 1
  obtain ⟨w3, hw3⟩ : ∃ w3, w3 = w2.setCell ⟨q, 1, none⟩ (.int .i64 ((b : Nat) + 1)) := ⟨_, rfl⟩
  have g3 : w2.grownBy w3 (some q) := by rw [hw3]; exact turned _ _ _ _
  have Q3 : Hid (Bk w3 q 90 #[.pointer (some ⟨p, 0, none⟩), .int .i64 ((b + 1 : Nat) : Int)]) := Lib.hid (by rw [hw3]; exact Q2.out.put 1 _)
  have R3 := Lib.hid (R2.out.grown g3 (by intro e; injection e with e; exact NE.out.2 e))
  have F3 := Lib.hid (F2.out.trans (FrS.of_grown g3 (Or.inr rfl)))
  have W3 := Lib.hid (W2.out.other Q2.out (by decide) (Ne.symm NQ.out) g3)
  have HW3 := Lib.hid hw3
  clear hw3 g3
  go_wp2_with fail
  rw [← HW3.out]
  refine (wint_k hi W3.out Q3.out).mono ?_
  rintro e1 w4 ⟨rfl, hg, hr4⟩
  have Q4 := Lib.hid (Q3.out.grown hg (by intro e; injection e with e; exact NQ.out e))
  have R4 := Lib.hid (R3.out.grown hg (by intro e; injection e with e; exact NE.out.1 e))
  have F4 := Lib.hid (F3.out.trans (FrS.of_grown hg (Or.inl rfl)))
  have W4 := Lib.hid hr4
  clear hg hr4 c1 fz
  go_wp2_with fail
  refine (wreq_any true W4.out Q4.out).mono ?_
  rintro e1 w5 ⟨rfl, hg, hr5⟩
  have Q5 := Lib.hid (Q4.out.grown hg (by intro e; injection e with e; exact NQ.out e))
  have R5 := Lib.hid (R4.out.grown hg (by intro e; injection e with e; exact NE.out.1 e))
  have F5 := Lib.hid (F4.out.trans (FrS.of_grown hg (Or.inl rfl)))
  have W5 := Lib.hid hr5
  clear hg hr5
  go_upto_region 6 with fail
  obtain ⟨w6, hw6⟩ : ∃ w6, w6 = w5.alloc (.cells #[.int .i64 0, .int .i64 0, .string ⟨#[]⟩, .slice none 0 0, .slice none 0 0] 26) := ⟨_, rfl⟩
  have b6 : Below w5.heap.size w5 w6 := by rw [hw6]; exact below_one _ _
  have V6 : Hid (Bk w6 w5.heap.size 26 #[.int .i64 0, .int .i64 0, .string ⟨#[]⟩, .slice none 0 0, .slice none 0 0]) := Lib.hid (by rw [hw6]; exact Bk.new _ _ _)
  have R6 := Lib.hid (R5.out.below b6 R5.out.lt)
  have Q6 := Lib.hid (Q5.out.below b6 Q5.out.lt)
  have W6 := Lib.hid (W5.out.below b6)
  have F6 : Hid (FrS (Two p q) w w6) := Lib.hid (F5.out.trans (FrS.of_below b6))
  have NG : Hid (w5.heap.size ≠ p) := Lib.hid (by have := W5.out.lt; omega)
  have NG2 : Hid (w5.heap.size ≠ q ∧ w.heap.size < w5.heap.size) := Lib.hid (by have := Q5.out.lt; have := R5.out.lt; exact ⟨by omega, by omega⟩)
  rw [← hw6]
  clear hw6 b6
  have v0 := V6.out.cell 0
  change _ = some (Value.int .i64 0) at v0
  have v1 := V6.out.cell 1
  change _ = some (Value.int .i64 0) at v1
  have v2 := V6.out.cell 2
  change _ = some (Value.string ⟨#[]⟩) at v2
  have v3 := V6.out.cell 3
  change _ = some (Value.slice none 0 0) at v3
  have v4 := V6.out.cell 4
  change _ = some (Value.slice none 0 0) at v4
  have r0 := R6.out.cell 0
  have r1 := R6.out.cell 1
  have r2 := R6.out.cell 2
  have r3 := R6.out.cell 3
  have r4 := R6.out.cell 4
  have f0 := R6.out.frozen 0
  have f1 := R6.out.frozen 1
  have f2 := R6.out.frozen 2
  have f3 := R6.out.frozen 3
  have f4 := R6.out.frozen 4
  go_wp2
  obtain ⟨wf, hwf⟩ : ∃ wf, wf = ((((w6.setCell ⟨w.heap.size, 0, none⟩ (.int .i64 0)).setCell ⟨w.heap.size, 1, none⟩ (.int .i64 0)).setCell ⟨w.heap.size, 2, none⟩ (.string ⟨#[]⟩)).setCell ⟨w.heap.size, 3, none⟩ (.slice none 0 0)).setCell ⟨w.heap.size, 4, none⟩ (.slice none 0 0) := ⟨_, rfl⟩
  have GF : Hid (w6.grownBy wf (some w.heap.size)) := Lib.hid (by rw [hwf]; exact grownBy_trans (grownBy_trans (grownBy_trans (grownBy_trans (turned w6 w.heap.size 0 _) (turned _ w.heap.size 1 _)) (turned _ w.heap.size 2 _)) (turned _ w.heap.size 3 _)) (turned _ w.heap.size 4 _))
  have RF : Hid (Bk wf w.heap.size 26 #[.int .i64 0, .int .i64 0, .string ⟨#[]⟩, .slice none 0 0, .slice none 0 0]) := Lib.hid (by rw [hwf]; exact ((((R6.out.put 0 _).put 1 _).put 2 _).put 3 _).put 4 _)
  have QF := Lib.hid (Q6.out.grown GF.out (by intro e; injection e with e; exact NE.out.2 e.symm))
  have WF := Lib.hid (W6.out.other R6.out (by decide) (Ne.symm NE.out.1) GF.out)
  have FF : Hid (FrS (Two p q) w wf) := Lib.hid (F6.out.next (S' := fun b => b = w.heap.size) (FrS.of_grown GF.out rfl) (fun i hi e => by omega))
  rw [← hwf]
  refine bodyPost_ret (results_cell_row rfl _ _ w.heap.size 26 _ (0, 0) _ rfl RF.out Try.underlying26 rfl (by kernel_rfl)) rfl ?_
  exact ⟨_, _, _, _, _, _, _, _, _, b + 1, rfl, FF, QF, by omega, Or.inr ⟨e1, l1, Lib.hid rfl, HE.out, WF⟩⟩

set_option maxRecDepth 100000 in
set_option maxHeartbeats 4000000 in
theorem dv_bad {w : World} {p q b : Nat} {l : List UInt8} {d k : Int} {l1 : List UInt8} (hr : WRd w p l 0) (hq : Bk w q 90 #[.pointer (some ⟨p, 0, none⟩), .int .i64 (b : Nat)]) (hb : b ≤ 1000) (hlt : b < 1000) (hdp : d ≤ 16) (hi : intA l = (k, l1, 0)) (hbad : k < 0 ∨ 5 < k) :
    Calls Try.prog 86 #[.pointer (some ⟨q, 0, none⟩), .int .i64 d] w (DecP WRd 90 (.err 3) p q w) := by
  have t1 : decide (((b : Nat) : Int) < 1000) = true := by rw [decide_eq_true_eq]; omega
  have t2 : decide (d ≤ 16) = true := by rw [decide_eq_true_eq]; omega
  clear hlt hdp
  rcases hbad with hbad | hbad
  · have t3 : decide (0 ≤ k) = false := by rw [decide_eq_false_iff_not]; omega
    have k1 : (k == 1) = false := by rw [beq_eq_false_iff_ne]; omega
    have k2 : (k == 2) = false := by rw [beq_eq_false_iff_ne]; omega
    have k3 : (k == 3) = false := by rw [beq_eq_false_iff_ne]; omega
    have k4 : (k == 4) = false := by rw [beq_eq_false_iff_ne]; omega
    have k5 : (k == 5) = false := by rw [beq_eq_false_iff_ne]; omega
    clear hbad
    obtain ⟨w1, hw1⟩ : ∃ w1, w1 = w.alloc (.cells #[.int .i64 0, .int .i64 0, .string ⟨#[]⟩, .slice none 0 0, .slice none 0 0] 26) := ⟨_, rfl⟩
    have b1 : Below w.heap.size w w1 := by rw [hw1]; exact below_one _ _
    have R1 : Hid (Bk w1 w.heap.size 26 #[.int .i64 0, .int .i64 0, .string ⟨#[]⟩, .slice none 0 0, .slice none 0 0]) := Lib.hid (by rw [hw1]; exact Bk.new _ _ _)
    have W1 := Lib.hid (hr.below b1)
    have Q1 := Lib.hid (hq.below b1 hq.lt)
    have F1 : Hid (FrS (Two p q) w w1) := Lib.hid (FrS.of_below b1)
    have NQ := Lib.hid (hr.dec_ne hq)
    have NE : Hid (w.heap.size ≠ p ∧ w.heap.size ≠ q) := Lib.hid (by have h1 := hr.lt; have h2 := hq.lt; exact ⟨by omega, by omega⟩)
    have HW := Lib.hid hw1
    have c1 := Q1.out.cell 1
    change _ = some (Value.int .i64 (b : Nat)) at c1
    rw [hw1] at c1
    clear hr hq hw1 b1
    go_enter Try.func86, Try.ntmps86
    go_wp2_with fail
    rw [← HW.out]
    refine (wreq_any true W1.out Q1.out).mono ?_
    rintro e1 w2 ⟨rfl, hg, hr2⟩
    have Q2 := Lib.hid (Q1.out.grown hg (by intro e; injection e with e; exact NQ.out e))
    have R2 := Lib.hid (R1.out.grown hg (by intro e; injection e with e; exact NE.out.1 e))
    have F2 := Lib.hid (F1.out.trans (FrS.of_grown hg (Or.inl rfl)))
    have W2 := Lib.hid hr2
    clear hg hr2 c1
    have c1 := Q2.out.cell 1
    change _ = some (Value.int .i64 (b : Nat)) at c1
    have fz := Q2.out.frozen 1
    obtain ⟨w3, hw3⟩ : ∃ w3, w3 = w2.setCell ⟨q, 1, none⟩ (.int .i64 ((b : Nat) + 1)) := ⟨_, rfl⟩
    have g3 : w2.grownBy w3 (some q) := by rw [hw3]; exact turned _ _ _ _
    have Q3 : Hid (Bk w3 q 90 #[.pointer (some ⟨p, 0, none⟩), .int .i64 ((b + 1 : Nat) : Int)]) := Lib.hid (by rw [hw3]; exact Q2.out.put 1 _)
    have R3 := Lib.hid (R2.out.grown g3 (by intro e; injection e with e; exact NE.out.2 e))
    have F3 := Lib.hid (F2.out.trans (FrS.of_grown g3 (Or.inr rfl)))
    have W3 := Lib.hid (W2.out.other Q2.out (by decide) (Ne.symm NQ.out) g3)
    have HW3 := Lib.hid hw3
    clear hw3 g3
    go_wp2_with fail
    rw [← HW3.out]
    refine (wint_k hi W3.out Q3.out).mono ?_
    rintro e1 w4 ⟨rfl, hg, hr4⟩
    have Q4 := Lib.hid (Q3.out.grown hg (by intro e; injection e with e; exact NQ.out e))
    have R4 := Lib.hid (R3.out.grown hg (by intro e; injection e with e; exact NE.out.1 e))
    have F4 := Lib.hid (F3.out.trans (FrS.of_grown hg (Or.inl rfl)))
    have W4 := Lib.hid hr4
    clear hg hr4 c1 fz
    go_wp2_with fail
    refine (wreq_any false W4.out Q4.out).mono ?_
    rintro e1 w5 ⟨rfl, hg, hr5⟩
    have Q5 := Lib.hid (Q4.out.grown hg (by intro e; injection e with e; exact NQ.out e))
    have R5 := Lib.hid (R4.out.grown hg (by intro e; injection e with e; exact NE.out.1 e))
    have F5 := Lib.hid (F4.out.trans (FrS.of_grown hg (Or.inl rfl)))
    have W5 := Lib.hid hr5
    clear hg hr5
    go_upto_region 6 with fail
    obtain ⟨w6, hw6⟩ : ∃ w6, w6 = w5.alloc (.cells #[.int .i64 k, .int .i64 0, .string ⟨#[]⟩, .slice none 0 0, .slice none 0 0] 26) := ⟨_, rfl⟩
    have b6 : Below w5.heap.size w5 w6 := by rw [hw6]; exact below_one _ _
    have V6 : Hid (Bk w6 w5.heap.size 26 #[.int .i64 k, .int .i64 0, .string ⟨#[]⟩, .slice none 0 0, .slice none 0 0]) := Lib.hid (by rw [hw6]; exact Bk.new _ _ _)
    have R6 := Lib.hid (R5.out.below b6 R5.out.lt)
    have Q6 := Lib.hid (Q5.out.below b6 Q5.out.lt)
    have W6 := Lib.hid (W5.out.below b6)
    have F6 : Hid (FrS (Two p q) w w6) := Lib.hid (F5.out.trans (FrS.of_below b6))
    have NG : Hid (w5.heap.size ≠ p) := Lib.hid (by have := W5.out.lt; omega)
    have NG2 : Hid (w5.heap.size ≠ q ∧ w.heap.size < w5.heap.size) := Lib.hid (by have := Q5.out.lt; have := R5.out.lt; exact ⟨by omega, by omega⟩)
    rw [← hw6]
    clear hw6 b6
    have v0 := V6.out.cell 0
    change _ = some (Value.int .i64 k) at v0
    have v1 := V6.out.cell 1
    change _ = some (Value.int .i64 0) at v1
    have v2 := V6.out.cell 2
    change _ = some (Value.string ⟨#[]⟩) at v2
    have v3 := V6.out.cell 3
    change _ = some (Value.slice none 0 0) at v3
    have v4 := V6.out.cell 4
    change _ = some (Value.slice none 0 0) at v4
    have r0 := R6.out.cell 0
    have r1 := R6.out.cell 1
    have r2 := R6.out.cell 2
    have r3 := R6.out.cell 3
    have r4 := R6.out.cell 4
    have f0 := R6.out.frozen 0
    have f1 := R6.out.frozen 1
    have f2 := R6.out.frozen 2
    have f3 := R6.out.frozen 3
    have f4 := R6.out.frozen 4
    go_wp2
    obtain ⟨wf, hwf⟩ : ∃ wf, wf = ((((w6.setCell ⟨w.heap.size, 0, none⟩ (.int .i64 k)).setCell ⟨w.heap.size, 1, none⟩ (.int .i64 0)).setCell ⟨w.heap.size, 2, none⟩ (.string ⟨#[]⟩)).setCell ⟨w.heap.size, 3, none⟩ (.slice none 0 0)).setCell ⟨w.heap.size, 4, none⟩ (.slice none 0 0) := ⟨_, rfl⟩
    have GF : Hid (w6.grownBy wf (some w.heap.size)) := Lib.hid (by rw [hwf]; exact grownBy_trans (grownBy_trans (grownBy_trans (grownBy_trans (turned w6 w.heap.size 0 _) (turned _ w.heap.size 1 _)) (turned _ w.heap.size 2 _)) (turned _ w.heap.size 3 _)) (turned _ w.heap.size 4 _))
    have RF : Hid (Bk wf w.heap.size 26 #[.int .i64 k, .int .i64 0, .string ⟨#[]⟩, .slice none 0 0, .slice none 0 0]) := Lib.hid (by rw [hwf]; exact ((((R6.out.put 0 _).put 1 _).put 2 _).put 3 _).put 4 _)
    have QF := Lib.hid (Q6.out.grown GF.out (by intro e; injection e with e; exact NE.out.2 e.symm))
    have WF := Lib.hid (W6.out.other R6.out (by decide) (Ne.symm NE.out.1) GF.out)
    have FF : Hid (FrS (Two p q) w wf) := Lib.hid (F6.out.next (S' := fun b => b = w.heap.size) (FrS.of_grown GF.out rfl) (fun i hi e => by omega))
    rw [← hwf]
    refine bodyPost_ret (results_cell_row rfl _ _ w.heap.size 26 _ (0, 0) _ rfl RF.out Try.underlying26 rfl (by kernel_rfl)) rfl ?_
    exact ⟨_, _, _, _, _, _, _, _, _, b + 1, rfl, FF, QF, by omega, Or.inr ⟨3, l1, Lib.hid rfl, by decide, WF⟩⟩
  · have t3 : decide (0 ≤ k) = true := by rw [decide_eq_true_eq]; omega
    have t4 : decide (k ≤ 5) = false := by rw [decide_eq_false_iff_not]; omega
    have k1 : (k == 1) = false := by rw [beq_eq_false_iff_ne]; omega
    have k2 : (k == 2) = false := by rw [beq_eq_false_iff_ne]; omega
    have k3 : (k == 3) = false := by rw [beq_eq_false_iff_ne]; omega
    have k4 : (k == 4) = false := by rw [beq_eq_false_iff_ne]; omega
    have k5 : (k == 5) = false := by rw [beq_eq_false_iff_ne]; omega
    clear hbad
    obtain ⟨w1, hw1⟩ : ∃ w1, w1 = w.alloc (.cells #[.int .i64 0, .int .i64 0, .string ⟨#[]⟩, .slice none 0 0, .slice none 0 0] 26) := ⟨_, rfl⟩
    have b1 : Below w.heap.size w w1 := by rw [hw1]; exact below_one _ _
    have R1 : Hid (Bk w1 w.heap.size 26 #[.int .i64 0, .int .i64 0, .string ⟨#[]⟩, .slice none 0 0, .slice none 0 0]) := Lib.hid (by rw [hw1]; exact Bk.new _ _ _)
    have W1 := Lib.hid (hr.below b1)
    have Q1 := Lib.hid (hq.below b1 hq.lt)
    have F1 : Hid (FrS (Two p q) w w1) := Lib.hid (FrS.of_below b1)
    have NQ := Lib.hid (hr.dec_ne hq)
    have NE : Hid (w.heap.size ≠ p ∧ w.heap.size ≠ q) := Lib.hid (by have h1 := hr.lt; have h2 := hq.lt; exact ⟨by omega, by omega⟩)
    have HW := Lib.hid hw1
    have c1 := Q1.out.cell 1
    change _ = some (Value.int .i64 (b : Nat)) at c1
    rw [hw1] at c1
    clear hr hq hw1 b1
    go_enter Try.func86, Try.ntmps86
    go_wp2_with fail
    rw [← HW.out]
    refine (wreq_any true W1.out Q1.out).mono ?_
    rintro e1 w2 ⟨rfl, hg, hr2⟩
    have Q2 := Lib.hid (Q1.out.grown hg (by intro e; injection e with e; exact NQ.out e))
    have R2 := Lib.hid (R1.out.grown hg (by intro e; injection e with e; exact NE.out.1 e))
    have F2 := Lib.hid (F1.out.trans (FrS.of_grown hg (Or.inl rfl)))
    have W2 := Lib.hid hr2
    clear hg hr2 c1
    have c1 := Q2.out.cell 1
    change _ = some (Value.int .i64 (b : Nat)) at c1
    have fz := Q2.out.frozen 1
    obtain ⟨w3, hw3⟩ : ∃ w3, w3 = w2.setCell ⟨q, 1, none⟩ (.int .i64 ((b : Nat) + 1)) := ⟨_, rfl⟩
    have g3 : w2.grownBy w3 (some q) := by rw [hw3]; exact turned _ _ _ _
    have Q3 : Hid (Bk w3 q 90 #[.pointer (some ⟨p, 0, none⟩), .int .i64 ((b + 1 : Nat) : Int)]) := Lib.hid (by rw [hw3]; exact Q2.out.put 1 _)
    have R3 := Lib.hid (R2.out.grown g3 (by intro e; injection e with e; exact NE.out.2 e))
    have F3 := Lib.hid (F2.out.trans (FrS.of_grown g3 (Or.inr rfl)))
    have W3 := Lib.hid (W2.out.other Q2.out (by decide) (Ne.symm NQ.out) g3)
    have HW3 := Lib.hid hw3
    clear hw3 g3
    go_wp2_with fail
    rw [← HW3.out]
    refine (wint_k hi W3.out Q3.out).mono ?_
    rintro e1 w4 ⟨rfl, hg, hr4⟩
    have Q4 := Lib.hid (Q3.out.grown hg (by intro e; injection e with e; exact NQ.out e))
    have R4 := Lib.hid (R3.out.grown hg (by intro e; injection e with e; exact NE.out.1 e))
    have F4 := Lib.hid (F3.out.trans (FrS.of_grown hg (Or.inl rfl)))
    have W4 := Lib.hid hr4
    clear hg hr4 c1 fz
    go_wp2_with fail
    refine (wreq_any false W4.out Q4.out).mono ?_
    rintro e1 w5 ⟨rfl, hg, hr5⟩
    have Q5 := Lib.hid (Q4.out.grown hg (by intro e; injection e with e; exact NQ.out e))
    have R5 := Lib.hid (R4.out.grown hg (by intro e; injection e with e; exact NE.out.1 e))
    have F5 := Lib.hid (F4.out.trans (FrS.of_grown hg (Or.inl rfl)))
    have W5 := Lib.hid hr5
    clear hg hr5
    go_upto_region 6 with fail
    obtain ⟨w6, hw6⟩ : ∃ w6, w6 = w5.alloc (.cells #[.int .i64 k, .int .i64 0, .string ⟨#[]⟩, .slice none 0 0, .slice none 0 0] 26) := ⟨_, rfl⟩
    have b6 : Below w5.heap.size w5 w6 := by rw [hw6]; exact below_one _ _
    have V6 : Hid (Bk w6 w5.heap.size 26 #[.int .i64 k, .int .i64 0, .string ⟨#[]⟩, .slice none 0 0, .slice none 0 0]) := Lib.hid (by rw [hw6]; exact Bk.new _ _ _)
    have R6 := Lib.hid (R5.out.below b6 R5.out.lt)
    have Q6 := Lib.hid (Q5.out.below b6 Q5.out.lt)
    have W6 := Lib.hid (W5.out.below b6)
    have F6 : Hid (FrS (Two p q) w w6) := Lib.hid (F5.out.trans (FrS.of_below b6))
    have NG : Hid (w5.heap.size ≠ p) := Lib.hid (by have := W5.out.lt; omega)
    have NG2 : Hid (w5.heap.size ≠ q ∧ w.heap.size < w5.heap.size) := Lib.hid (by have := Q5.out.lt; have := R5.out.lt; exact ⟨by omega, by omega⟩)
    rw [← hw6]
    clear hw6 b6
    have v0 := V6.out.cell 0
    change _ = some (Value.int .i64 k) at v0
    have v1 := V6.out.cell 1
    change _ = some (Value.int .i64 0) at v1
    have v2 := V6.out.cell 2
    change _ = some (Value.string ⟨#[]⟩) at v2
    have v3 := V6.out.cell 3
    change _ = some (Value.slice none 0 0) at v3
    have v4 := V6.out.cell 4
    change _ = some (Value.slice none 0 0) at v4
    have r0 := R6.out.cell 0
    have r1 := R6.out.cell 1
    have r2 := R6.out.cell 2
    have r3 := R6.out.cell 3
    have r4 := R6.out.cell 4
    have f0 := R6.out.frozen 0
    have f1 := R6.out.frozen 1
    have f2 := R6.out.frozen 2
    have f3 := R6.out.frozen 3
    have f4 := R6.out.frozen 4
    go_wp2
    obtain ⟨wf, hwf⟩ : ∃ wf, wf = ((((w6.setCell ⟨w.heap.size, 0, none⟩ (.int .i64 k)).setCell ⟨w.heap.size, 1, none⟩ (.int .i64 0)).setCell ⟨w.heap.size, 2, none⟩ (.string ⟨#[]⟩)).setCell ⟨w.heap.size, 3, none⟩ (.slice none 0 0)).setCell ⟨w.heap.size, 4, none⟩ (.slice none 0 0) := ⟨_, rfl⟩
    have GF : Hid (w6.grownBy wf (some w.heap.size)) := Lib.hid (by rw [hwf]; exact grownBy_trans (grownBy_trans (grownBy_trans (grownBy_trans (turned w6 w.heap.size 0 _) (turned _ w.heap.size 1 _)) (turned _ w.heap.size 2 _)) (turned _ w.heap.size 3 _)) (turned _ w.heap.size 4 _))
    have RF : Hid (Bk wf w.heap.size 26 #[.int .i64 k, .int .i64 0, .string ⟨#[]⟩, .slice none 0 0, .slice none 0 0]) := Lib.hid (by rw [hwf]; exact ((((R6.out.put 0 _).put 1 _).put 2 _).put 3 _).put 4 _)
    have QF := Lib.hid (Q6.out.grown GF.out (by intro e; injection e with e; exact NE.out.2 e.symm))
    have WF := Lib.hid (W6.out.other R6.out (by decide) (Ne.symm NE.out.1) GF.out)
    have FF : Hid (FrS (Two p q) w wf) := Lib.hid (F6.out.next (S' := fun b => b = w.heap.size) (FrS.of_grown GF.out rfl) (fun i hi e => by omega))
    rw [← hwf]
    refine bodyPost_ret (results_cell_row rfl _ _ w.heap.size 26 _ (0, 0) _ rfl RF.out Try.underlying26 rfl (by kernel_rfl)) rfl ?_
    exact ⟨_, _, _, _, _, _, _, _, _, b + 1, rfl, FF, QF, by omega, Or.inr ⟨3, l1, Lib.hid rfl, by decide, WF⟩⟩

set_option maxRecDepth 100000 in
set_option maxHeartbeats 4000000 in
theorem dv_0 {w : World} {p q b : Nat} {l : List UInt8} {d : Int} {l1 : List UInt8} (hr : WRd w p l 0) (hq : Bk w q 90 #[.pointer (some ⟨p, 0, none⟩), .int .i64 (b : Nat)]) (hb : b ≤ 1000) (hlt : b < 1000) (hdp : d ≤ 16) (hi : intA l = (0, l1, 0)) :
    Calls Try.prog 86 #[.pointer (some ⟨q, 0, none⟩), .int .i64 d] w (DecP WRd 90 (.ok nullT l1 (b + 1)) p q w) := by
  have t1 : decide (((b : Nat) : Int) < 1000) = true := by rw [decide_eq_true_eq]; omega
  have t2 : decide (d ≤ 16) = true := by rw [decide_eq_true_eq]; omega
  clear hlt hdp
  obtain ⟨w1, hw1⟩ : ∃ w1, w1 = w.alloc (.cells #[.int .i64 0, .int .i64 0, .string ⟨#[]⟩, .slice none 0 0, .slice none 0 0] 26) := ⟨_, rfl⟩
  have b1 : Below w.heap.size w w1 := by rw [hw1]; exact below_one _ _
  have R1 : Hid (Bk w1 w.heap.size 26 #[.int .i64 0, .int .i64 0, .string ⟨#[]⟩, .slice none 0 0, .slice none 0 0]) := Lib.hid (by rw [hw1]; exact Bk.new _ _ _)
  have W1 := Lib.hid (hr.below b1)
  have Q1 := Lib.hid (hq.below b1 hq.lt)
  have F1 : Hid (FrS (Two p q) w w1) := Lib.hid (FrS.of_below b1)
  have NQ := Lib.hid (hr.dec_ne hq)
  have NE : Hid (w.heap.size ≠ p ∧ w.heap.size ≠ q) := Lib.hid (by have h1 := hr.lt; have h2 := hq.lt; exact ⟨by omega, by omega⟩)
  have HW := Lib.hid hw1
  have c1 := Q1.out.cell 1
  change _ = some (Value.int .i64 (b : Nat)) at c1
  rw [hw1] at c1
  clear hr hq hw1 b1
  go_enter Try.func86, Try.ntmps86
  go_wp2_with fail
  rw [← HW.out]
  refine (wreq_any true W1.out Q1.out).mono ?_
  rintro e1 w2 ⟨rfl, hg, hr2⟩
  have Q2 := Lib.hid (Q1.out.grown hg (by intro e; injection e with e; exact NQ.out e))
  have R2 := Lib.hid (R1.out.grown hg (by intro e; injection e with e; exact NE.out.1 e))
  have F2 := Lib.hid (F1.out.trans (FrS.of_grown hg (Or.inl rfl)))
  have W2 := Lib.hid hr2
  clear hg hr2 c1
  have c1 := Q2.out.cell 1
  change _ = some (Value.int .i64 (b : Nat)) at c1
  have fz := Q2.out.frozen 1
  obtain ⟨w3, hw3⟩ : ∃ w3, w3 = w2.setCell ⟨q, 1, none⟩ (.int .i64 ((b : Nat) + 1)) := ⟨_, rfl⟩
  have g3 : w2.grownBy w3 (some q) := by rw [hw3]; exact turned _ _ _ _
  have Q3 : Hid (Bk w3 q 90 #[.pointer (some ⟨p, 0, none⟩), .int .i64 ((b + 1 : Nat) : Int)]) := Lib.hid (by rw [hw3]; exact Q2.out.put 1 _)
  have R3 := Lib.hid (R2.out.grown g3 (by intro e; injection e with e; exact NE.out.2 e))
  have F3 := Lib.hid (F2.out.trans (FrS.of_grown g3 (Or.inr rfl)))
  have W3 := Lib.hid (W2.out.other Q2.out (by decide) (Ne.symm NQ.out) g3)
  have HW3 := Lib.hid hw3
  clear hw3 g3
  go_wp2_with fail
  rw [← HW3.out]
  refine (wint_k hi W3.out Q3.out).mono ?_
  rintro e1 w4 ⟨rfl, hg, hr4⟩
  have Q4 := Lib.hid (Q3.out.grown hg (by intro e; injection e with e; exact NQ.out e))
  have R4 := Lib.hid (R3.out.grown hg (by intro e; injection e with e; exact NE.out.1 e))
  have F4 := Lib.hid (F3.out.trans (FrS.of_grown hg (Or.inl rfl)))
  have W4 := Lib.hid hr4
  clear hg hr4 c1 fz
  go_wp2_with fail
  refine (wreq_any true W4.out Q4.out).mono ?_
  rintro e1 w5 ⟨rfl, hg, hr5⟩
  have Q5 := Lib.hid (Q4.out.grown hg (by intro e; injection e with e; exact NQ.out e))
  have R5 := Lib.hid (R4.out.grown hg (by intro e; injection e with e; exact NE.out.1 e))
  have F5 := Lib.hid (F4.out.trans (FrS.of_grown hg (Or.inl rfl)))
  have W5 := Lib.hid hr5
  clear hg hr5
  go_upto_region 6 with fail
  obtain ⟨w6, hw6⟩ : ∃ w6, w6 = w5.alloc (.cells #[.int .i64 0, .int .i64 0, .string ⟨#[]⟩, .slice none 0 0, .slice none 0 0] 26) := ⟨_, rfl⟩
  have b6 : Below w5.heap.size w5 w6 := by rw [hw6]; exact below_one _ _
  have V6 : Hid (Bk w6 w5.heap.size 26 #[.int .i64 0, .int .i64 0, .string ⟨#[]⟩, .slice none 0 0, .slice none 0 0]) := Lib.hid (by rw [hw6]; exact Bk.new _ _ _)
  have R6 := Lib.hid (R5.out.below b6 R5.out.lt)
  have Q6 := Lib.hid (Q5.out.below b6 Q5.out.lt)
  have W6 := Lib.hid (W5.out.below b6)
  have F6 : Hid (FrS (Two p q) w w6) := Lib.hid (F5.out.trans (FrS.of_below b6))
  have NG : Hid (w5.heap.size ≠ p) := Lib.hid (by have := W5.out.lt; omega)
  have NG2 : Hid (w5.heap.size ≠ q ∧ w.heap.size < w5.heap.size) := Lib.hid (by have := Q5.out.lt; have := R5.out.lt; exact ⟨by omega, by omega⟩)
  rw [← hw6]
  clear hw6 b6
  have v0 := V6.out.cell 0
  change _ = some (Value.int .i64 0) at v0
  have v1 := V6.out.cell 1
  change _ = some (Value.int .i64 0) at v1
  have v2 := V6.out.cell 2
  change _ = some (Value.string ⟨#[]⟩) at v2
  have v3 := V6.out.cell 3
  change _ = some (Value.slice none 0 0) at v3
  have v4 := V6.out.cell 4
  change _ = some (Value.slice none 0 0) at v4
  have r0 := R6.out.cell 0
  have r1 := R6.out.cell 1
  have r2 := R6.out.cell 2
  have r3 := R6.out.cell 3
  have r4 := R6.out.cell 4
  have f0 := R6.out.frozen 0
  have f1 := R6.out.frozen 1
  have f2 := R6.out.frozen 2
  have f3 := R6.out.frozen 3
  have f4 := R6.out.frozen 4
  go_wp2
  obtain ⟨wf, hwf⟩ : ∃ wf, wf = ((((w6.setCell ⟨w.heap.size, 0, none⟩ (.int .i64 0)).setCell ⟨w.heap.size, 1, none⟩ (.int .i64 0)).setCell ⟨w.heap.size, 2, none⟩ (.string ⟨#[]⟩)).setCell ⟨w.heap.size, 3, none⟩ (.slice none 0 0)).setCell ⟨w.heap.size, 4, none⟩ (.slice none 0 0) := ⟨_, rfl⟩
  have GF : Hid (w6.grownBy wf (some w.heap.size)) := Lib.hid (by rw [hwf]; exact grownBy_trans (grownBy_trans (grownBy_trans (grownBy_trans (turned w6 w.heap.size 0 _) (turned _ w.heap.size 1 _)) (turned _ w.heap.size 2 _)) (turned _ w.heap.size 3 _)) (turned _ w.heap.size 4 _))
  have RF : Hid (Bk wf w.heap.size 26 #[.int .i64 0, .int .i64 0, .string ⟨#[]⟩, .slice none 0 0, .slice none 0 0]) := Lib.hid (by rw [hwf]; exact ((((R6.out.put 0 _).put 1 _).put 2 _).put 3 _).put 4 _)
  have QF := Lib.hid (Q6.out.grown GF.out (by intro e; injection e with e; exact NE.out.2 e.symm))
  have WF := Lib.hid (W6.out.other R6.out (by decide) (Ne.symm NE.out.1) GF.out)
  have FF : Hid (FrS (Two p q) w wf) := Lib.hid (F6.out.next (S' := fun b => b = w.heap.size) (FrS.of_grown GF.out rfl) (fun i hi e => by omega))
  rw [← hwf]
  refine bodyPost_ret (results_cell_row rfl _ _ w.heap.size 26 _ (0, 0) _ rfl RF.out Try.underlying26 rfl (by kernel_rfl)) rfl ?_
  exact ⟨_, _, _, _, _, _, _, _, _, b + 1, rfl, FF, QF, by omega, Or.inl ⟨nullT, l1, Lib.hid rfl, WF, Lib.hid (zero_lies _ _)⟩⟩

set_option maxRecDepth 100000 in
set_option maxHeartbeats 4000000 in
theorem dv_err {w : World} {p q b : Nat} {l : List UInt8} {d e : Int} (hr : WRd w p l e) (hq : Bk w q 90 #[.pointer (some ⟨p, 0, none⟩), .int .i64 (b : Nat)]) (hb : b ≤ 1000) (he : e ≠ 0) :
    Calls Try.prog 86 #[.pointer (some ⟨q, 0, none⟩), .int .i64 d] w (DecP WRd 90 (.err e) p q w) := by
  have HE := Lib.hid he
  clear he
  by_cases hlt : b < 1000
  · by_cases hdp : d ≤ 16
    · have t1 : decide (((b : Nat) : Int) < 1000) = true := by rw [decide_eq_true_eq]; omega
      have t2 : decide (d ≤ 16) = true := by rw [decide_eq_true_eq]; omega
      clear hlt hdp
      obtain ⟨w1, hw1⟩ : ∃ w1, w1 = w.alloc (.cells #[.int .i64 0, .int .i64 0, .string ⟨#[]⟩, .slice none 0 0, .slice none 0 0] 26) := ⟨_, rfl⟩
      have b1 : Below w.heap.size w w1 := by rw [hw1]; exact below_one _ _
      have R1 : Hid (Bk w1 w.heap.size 26 #[.int .i64 0, .int .i64 0, .string ⟨#[]⟩, .slice none 0 0, .slice none 0 0]) := Lib.hid (by rw [hw1]; exact Bk.new _ _ _)
      have W1 := Lib.hid (hr.below b1)
      have Q1 := Lib.hid (hq.below b1 hq.lt)
      have F1 : Hid (FrS (Two p q) w w1) := Lib.hid (FrS.of_below b1)
      have NQ := Lib.hid (hr.dec_ne hq)
      have NE : Hid (w.heap.size ≠ p ∧ w.heap.size ≠ q) := Lib.hid (by have h1 := hr.lt; have h2 := hq.lt; exact ⟨by omega, by omega⟩)
      have HW := Lib.hid hw1
      have c1 := Q1.out.cell 1
      change _ = some (Value.int .i64 (b : Nat)) at c1
      rw [hw1] at c1
      clear hr hq hw1 b1
      go_enter Try.func86, Try.ntmps86
      go_wp2_with fail
      rw [← HW.out]
      refine (wreq_any true W1.out Q1.out).mono ?_
      rintro e1 w2 ⟨rfl, hg, hr2⟩
      have Q2 := Lib.hid (Q1.out.grown hg (by intro e; injection e with e; exact NQ.out e))
      have R2 := Lib.hid (R1.out.grown hg (by intro e; injection e with e; exact NE.out.1 e))
      have F2 := Lib.hid (F1.out.trans (FrS.of_grown hg (Or.inl rfl)))
      have W2 := Lib.hid hr2
      clear hg hr2 c1
      have c1 := Q2.out.cell 1
      change _ = some (Value.int .i64 (b : Nat)) at c1
      have fz := Q2.out.frozen 1
      obtain ⟨w3, hw3⟩ : ∃ w3, w3 = w2.setCell ⟨q, 1, none⟩ (.int .i64 ((b : Nat) + 1)) := ⟨_, rfl⟩
      have g3 : w2.grownBy w3 (some q) := by rw [hw3]; exact turned _ _ _ _
      have Q3 : Hid (Bk w3 q 90 #[.pointer (some ⟨p, 0, none⟩), .int .i64 ((b + 1 : Nat) : Int)]) := Lib.hid (by rw [hw3]; exact Q2.out.put 1 _)
      have R3 := Lib.hid (R2.out.grown g3 (by intro e; injection e with e; exact NE.out.2 e))
      have F3 := Lib.hid (F2.out.trans (FrS.of_grown g3 (Or.inr rfl)))
      have W3 := Lib.hid (W2.out.other Q2.out (by decide) (Ne.symm NQ.out) g3)
      have HW3 := Lib.hid hw3
      clear hw3 g3
      go_wp2_with fail
      rw [← HW3.out]
      refine (wint_e (by rw [reqE_ne HE.out]; exact HE.out) W3.out Q3.out).mono ?_
      rintro e1 w4 ⟨rfl, hg, hr4⟩
      have Q4 := Lib.hid (Q3.out.grown hg (by intro e; injection e with e; exact NQ.out e))
      have R4 := Lib.hid (R3.out.grown hg (by intro e; injection e with e; exact NE.out.1 e))
      have F4 := Lib.hid (F3.out.trans (FrS.of_grown hg (Or.inl rfl)))
      have W4 := Lib.hid hr4
      clear hg hr4 c1 fz
      go_wp2_with fail
      refine (wreq_any true W4.out Q4.out).mono ?_
      rintro e1 w5 ⟨rfl, hg, hr5⟩
      have Q5 := Lib.hid (Q4.out.grown hg (by intro e; injection e with e; exact NQ.out e))
      have R5 := Lib.hid (R4.out.grown hg (by intro e; injection e with e; exact NE.out.1 e))
      have F5 := Lib.hid (F4.out.trans (FrS.of_grown hg (Or.inl rfl)))
      have W5 := Lib.hid hr5
      clear hg hr5
      go_upto_region 6 with fail
      obtain ⟨w6, hw6⟩ : ∃ w6, w6 = w5.alloc (.cells #[.int .i64 0, .int .i64 0, .string ⟨#[]⟩, .slice none 0 0, .slice none 0 0] 26) := ⟨_, rfl⟩
      have b6 : Below w5.heap.size w5 w6 := by rw [hw6]; exact below_one _ _
      have V6 : Hid (Bk w6 w5.heap.size 26 #[.int .i64 0, .int .i64 0, .string ⟨#[]⟩, .slice none 0 0, .slice none 0 0]) := Lib.hid (by rw [hw6]; exact Bk.new _ _ _)
      have R6 := Lib.hid (R5.out.below b6 R5.out.lt)
      have Q6 := Lib.hid (Q5.out.below b6 Q5.out.lt)
      have W6 := Lib.hid (W5.out.below b6)
      have F6 : Hid (FrS (Two p q) w w6) := Lib.hid (F5.out.trans (FrS.of_below b6))
      have NG : Hid (w5.heap.size ≠ p) := Lib.hid (by have := W5.out.lt; omega)
      have NG2 : Hid (w5.heap.size ≠ q ∧ w.heap.size < w5.heap.size) := Lib.hid (by have := Q5.out.lt; have := R5.out.lt; exact ⟨by omega, by omega⟩)
      rw [← hw6]
      clear hw6 b6
      have v0 := V6.out.cell 0
      change _ = some (Value.int .i64 0) at v0
      have v1 := V6.out.cell 1
      change _ = some (Value.int .i64 0) at v1
      have v2 := V6.out.cell 2
      change _ = some (Value.string ⟨#[]⟩) at v2
      have v3 := V6.out.cell 3
      change _ = some (Value.slice none 0 0) at v3
      have v4 := V6.out.cell 4
      change _ = some (Value.slice none 0 0) at v4
      have r0 := R6.out.cell 0
      have r1 := R6.out.cell 1
      have r2 := R6.out.cell 2
      have r3 := R6.out.cell 3
      have r4 := R6.out.cell 4
      have f0 := R6.out.frozen 0
      have f1 := R6.out.frozen 1
      have f2 := R6.out.frozen 2
      have f3 := R6.out.frozen 3
      have f4 := R6.out.frozen 4
      go_wp2
      obtain ⟨wf, hwf⟩ : ∃ wf, wf = ((((w6.setCell ⟨w.heap.size, 0, none⟩ (.int .i64 0)).setCell ⟨w.heap.size, 1, none⟩ (.int .i64 0)).setCell ⟨w.heap.size, 2, none⟩ (.string ⟨#[]⟩)).setCell ⟨w.heap.size, 3, none⟩ (.slice none 0 0)).setCell ⟨w.heap.size, 4, none⟩ (.slice none 0 0) := ⟨_, rfl⟩
      have GF : Hid (w6.grownBy wf (some w.heap.size)) := Lib.hid (by rw [hwf]; exact grownBy_trans (grownBy_trans (grownBy_trans (grownBy_trans (turned w6 w.heap.size 0 _) (turned _ w.heap.size 1 _)) (turned _ w.heap.size 2 _)) (turned _ w.heap.size 3 _)) (turned _ w.heap.size 4 _))
      have RF : Hid (Bk wf w.heap.size 26 #[.int .i64 0, .int .i64 0, .string ⟨#[]⟩, .slice none 0 0, .slice none 0 0]) := Lib.hid (by rw [hwf]; exact ((((R6.out.put 0 _).put 1 _).put 2 _).put 3 _).put 4 _)
      have QF := Lib.hid (Q6.out.grown GF.out (by intro e; injection e with e; exact NE.out.2 e.symm))
      have WF := Lib.hid (W6.out.other R6.out (by decide) (Ne.symm NE.out.1) GF.out)
      have FF : Hid (FrS (Two p q) w wf) := Lib.hid (F6.out.next (S' := fun b => b = w.heap.size) (FrS.of_grown GF.out rfl) (fun i hi e => by omega))
      rw [← hwf]
      refine bodyPost_ret (results_cell_row rfl _ _ w.heap.size 26 _ (0, 0) _ rfl RF.out Try.underlying26 rfl (by kernel_rfl)) rfl ?_
      exact ⟨_, _, _, _, _, _, _, _, _, b + 1, rfl, FF, QF, by omega, Or.inr ⟨e, l, Lib.hid rfl, HE.out, Lib.hid (by have h := WF.out; rwa [reqE_yes, reqE_ne HE.out] at h)⟩⟩
    · have t1 : decide (((b : Nat) : Int) < 1000) = true := by rw [decide_eq_true_eq]; omega
      have t2 : decide (d ≤ 16) = false := by rw [decide_eq_false_iff_not]; omega
      clear hlt hdp
      obtain ⟨w1, hw1⟩ : ∃ w1, w1 = w.alloc (.cells #[.int .i64 0, .int .i64 0, .string ⟨#[]⟩, .slice none 0 0, .slice none 0 0] 26) := ⟨_, rfl⟩
      have b1 : Below w.heap.size w w1 := by rw [hw1]; exact below_one _ _
      have R1 : Hid (Bk w1 w.heap.size 26 #[.int .i64 0, .int .i64 0, .string ⟨#[]⟩, .slice none 0 0, .slice none 0 0]) := Lib.hid (by rw [hw1]; exact Bk.new _ _ _)
      have W1 := Lib.hid (hr.below b1)
      have Q1 := Lib.hid (hq.below b1 hq.lt)
      have F1 : Hid (FrS (Two p q) w w1) := Lib.hid (FrS.of_below b1)
      have NQ := Lib.hid (hr.dec_ne hq)
      have NE : Hid (w.heap.size ≠ p ∧ w.heap.size ≠ q) := Lib.hid (by have h1 := hr.lt; have h2 := hq.lt; exact ⟨by omega, by omega⟩)
      have HW := Lib.hid hw1
      have c1 := Q1.out.cell 1
      change _ = some (Value.int .i64 (b : Nat)) at c1
      rw [hw1] at c1
      clear hr hq hw1 b1
      go_enter Try.func86, Try.ntmps86
      go_wp2_with fail
      rw [← HW.out]
      refine (wreq_any false W1.out Q1.out).mono ?_
      rintro e1 w2 ⟨rfl, hg, hr2⟩
      have Q2 := Lib.hid (Q1.out.grown hg (by intro e; injection e with e; exact NQ.out e))
      have R2 := Lib.hid (R1.out.grown hg (by intro e; injection e with e; exact NE.out.1 e))
      have F2 := Lib.hid (F1.out.trans (FrS.of_grown hg (Or.inl rfl)))
      have W2 := Lib.hid hr2
      clear hg hr2 c1
      have c1 := Q2.out.cell 1
      change _ = some (Value.int .i64 (b : Nat)) at c1
      have fz := Q2.out.frozen 1
      obtain ⟨w3, hw3⟩ : ∃ w3, w3 = w2.setCell ⟨q, 1, none⟩ (.int .i64 ((b : Nat) + 1)) := ⟨_, rfl⟩
      have g3 : w2.grownBy w3 (some q) := by rw [hw3]; exact turned _ _ _ _
      have Q3 : Hid (Bk w3 q 90 #[.pointer (some ⟨p, 0, none⟩), .int .i64 ((b + 1 : Nat) : Int)]) := Lib.hid (by rw [hw3]; exact Q2.out.put 1 _)
      have R3 := Lib.hid (R2.out.grown g3 (by intro e; injection e with e; exact NE.out.2 e))
      have F3 := Lib.hid (F2.out.trans (FrS.of_grown g3 (Or.inr rfl)))
      have W3 := Lib.hid (W2.out.other Q2.out (by decide) (Ne.symm NQ.out) g3)
      have HW3 := Lib.hid hw3
      clear hw3 g3
      go_wp2_with fail
      rw [← HW3.out]
      refine (wint_e (by rw [reqE_ne HE.out]; exact HE.out) W3.out Q3.out).mono ?_
      rintro e1 w4 ⟨rfl, hg, hr4⟩
      have Q4 := Lib.hid (Q3.out.grown hg (by intro e; injection e with e; exact NQ.out e))
      have R4 := Lib.hid (R3.out.grown hg (by intro e; injection e with e; exact NE.out.1 e))
      have F4 := Lib.hid (F3.out.trans (FrS.of_grown hg (Or.inl rfl)))
      have W4 := Lib.hid hr4
      clear hg hr4 c1 fz
      go_wp2_with fail
      refine (wreq_any true W4.out Q4.out).mono ?_
      rintro e1 w5 ⟨rfl, hg, hr5⟩
      have Q5 := Lib.hid (Q4.out.grown hg (by intro e; injection e with e; exact NQ.out e))
      have R5 := Lib.hid (R4.out.grown hg (by intro e; injection e with e; exact NE.out.1 e))
      have F5 := Lib.hid (F4.out.trans (FrS.of_grown hg (Or.inl rfl)))
      have W5 := Lib.hid hr5
      clear hg hr5
      go_upto_region 6 with fail
      obtain ⟨w6, hw6⟩ : ∃ w6, w6 = w5.alloc (.cells #[.int .i64 0, .int .i64 0, .string ⟨#[]⟩, .slice none 0 0, .slice none 0 0] 26) := ⟨_, rfl⟩
      have b6 : Below w5.heap.size w5 w6 := by rw [hw6]; exact below_one _ _
      have V6 : Hid (Bk w6 w5.heap.size 26 #[.int .i64 0, .int .i64 0, .string ⟨#[]⟩, .slice none 0 0, .slice none 0 0]) := Lib.hid (by rw [hw6]; exact Bk.new _ _ _)
      have R6 := Lib.hid (R5.out.below b6 R5.out.lt)
      have Q6 := Lib.hid (Q5.out.below b6 Q5.out.lt)
      have W6 := Lib.hid (W5.out.below b6)
      have F6 : Hid (FrS (Two p q) w w6) := Lib.hid (F5.out.trans (FrS.of_below b6))
      have NG : Hid (w5.heap.size ≠ p) := Lib.hid (by have := W5.out.lt; omega)
      have NG2 : Hid (w5.heap.size ≠ q ∧ w.heap.size < w5.heap.size) := Lib.hid (by have := Q5.out.lt; have := R5.out.lt; exact ⟨by omega, by omega⟩)
      rw [← hw6]
      clear hw6 b6
      have v0 := V6.out.cell 0
      change _ = some (Value.int .i64 0) at v0
      have v1 := V6.out.cell 1
      change _ = some (Value.int .i64 0) at v1
      have v2 := V6.out.cell 2
      change _ = some (Value.string ⟨#[]⟩) at v2
      have v3 := V6.out.cell 3
      change _ = some (Value.slice none 0 0) at v3
      have v4 := V6.out.cell 4
      change _ = some (Value.slice none 0 0) at v4
      have r0 := R6.out.cell 0
      have r1 := R6.out.cell 1
      have r2 := R6.out.cell 2
      have r3 := R6.out.cell 3
      have r4 := R6.out.cell 4
      have f0 := R6.out.frozen 0
      have f1 := R6.out.frozen 1
      have f2 := R6.out.frozen 2
      have f3 := R6.out.frozen 3
      have f4 := R6.out.frozen 4
      go_wp2
      obtain ⟨wf, hwf⟩ : ∃ wf, wf = ((((w6.setCell ⟨w.heap.size, 0, none⟩ (.int .i64 0)).setCell ⟨w.heap.size, 1, none⟩ (.int .i64 0)).setCell ⟨w.heap.size, 2, none⟩ (.string ⟨#[]⟩)).setCell ⟨w.heap.size, 3, none⟩ (.slice none 0 0)).setCell ⟨w.heap.size, 4, none⟩ (.slice none 0 0) := ⟨_, rfl⟩
      have GF : Hid (w6.grownBy wf (some w.heap.size)) := Lib.hid (by rw [hwf]; exact grownBy_trans (grownBy_trans (grownBy_trans (grownBy_trans (turned w6 w.heap.size 0 _) (turned _ w.heap.size 1 _)) (turned _ w.heap.size 2 _)) (turned _ w.heap.size 3 _)) (turned _ w.heap.size 4 _))
      have RF : Hid (Bk wf w.heap.size 26 #[.int .i64 0, .int .i64 0, .string ⟨#[]⟩, .slice none 0 0, .slice none 0 0]) := Lib.hid (by rw [hwf]; exact ((((R6.out.put 0 _).put 1 _).put 2 _).put 3 _).put 4 _)
      have QF := Lib.hid (Q6.out.grown GF.out (by intro e; injection e with e; exact NE.out.2 e.symm))
      have WF := Lib.hid (W6.out.other R6.out (by decide) (Ne.symm NE.out.1) GF.out)
      have FF : Hid (FrS (Two p q) w wf) := Lib.hid (F6.out.next (S' := fun b => b = w.heap.size) (FrS.of_grown GF.out rfl) (fun i hi e => by omega))
      rw [← hwf]
      refine bodyPost_ret (results_cell_row rfl _ _ w.heap.size 26 _ (0, 0) _ rfl RF.out Try.underlying26 rfl (by kernel_rfl)) rfl ?_
      exact ⟨_, _, _, _, _, _, _, _, _, b + 1, rfl, FF, QF, by omega, Or.inr ⟨e, l, Lib.hid rfl, HE.out, Lib.hid (by have h := WF.out; rwa [reqE_yes, reqE_ne HE.out] at h)⟩⟩
  · have t1 : decide (((b : Nat) : Int) < 1000) = false := by rw [decide_eq_false_iff_not]; omega
    clear hlt
    obtain ⟨w1, hw1⟩ : ∃ w1, w1 = w.alloc (.cells #[.int .i64 0, .int .i64 0, .string ⟨#[]⟩, .slice none 0 0, .slice none 0 0] 26) := ⟨_, rfl⟩
    have b1 : Below w.heap.size w w1 := by rw [hw1]; exact below_one _ _
    have R1 : Hid (Bk w1 w.heap.size 26 #[.int .i64 0, .int .i64 0, .string ⟨#[]⟩, .slice none 0 0, .slice none 0 0]) := Lib.hid (by rw [hw1]; exact Bk.new _ _ _)
    have W1 := Lib.hid (hr.below b1)
    have Q1 := Lib.hid (hq.below b1 hq.lt)
    have F1 : Hid (FrS (Two p q) w w1) := Lib.hid (FrS.of_below b1)
    have NQ := Lib.hid (hr.dec_ne hq)
    have NE : Hid (w.heap.size ≠ p ∧ w.heap.size ≠ q) := Lib.hid (by have h1 := hr.lt; have h2 := hq.lt; exact ⟨by omega, by omega⟩)
    have HW := Lib.hid hw1
    have c1 := Q1.out.cell 1
    change _ = some (Value.int .i64 (b : Nat)) at c1
    rw [hw1] at c1
    clear hr hq hw1 b1
    go_enter Try.func86, Try.ntmps86
    go_wp2_with fail
    rw [← HW.out]
    refine (wreq_any false W1.out Q1.out).mono ?_
    rintro e1 w2 ⟨rfl, hg, hr2⟩
    have Q2 := Lib.hid (Q1.out.grown hg (by intro e; injection e with e; exact NQ.out e))
    have R2 := Lib.hid (R1.out.grown hg (by intro e; injection e with e; exact NE.out.1 e))
    have F2 := Lib.hid (F1.out.trans (FrS.of_grown hg (Or.inl rfl)))
    have W2 := Lib.hid hr2
    clear hg hr2 c1
    have c1 := Q2.out.cell 1
    change _ = some (Value.int .i64 (b : Nat)) at c1
    have fz := Q2.out.frozen 1
    obtain ⟨w3, hw3⟩ : ∃ w3, w3 = w2.setCell ⟨q, 1, none⟩ (.int .i64 ((b : Nat) + 1)) := ⟨_, rfl⟩
    have g3 : w2.grownBy w3 (some q) := by rw [hw3]; exact turned _ _ _ _
    have Q3 : Hid (Bk w3 q 90 #[.pointer (some ⟨p, 0, none⟩), .int .i64 ((b + 1 : Nat) : Int)]) := Lib.hid (by rw [hw3]; exact Q2.out.put 1 _)
    have R3 := Lib.hid (R2.out.grown g3 (by intro e; injection e with e; exact NE.out.2 e))
    have F3 := Lib.hid (F2.out.trans (FrS.of_grown g3 (Or.inr rfl)))
    have W3 := Lib.hid (W2.out.other Q2.out (by decide) (Ne.symm NQ.out) g3)
    have HW3 := Lib.hid hw3
    clear hw3 g3
    go_wp2_with fail
    rw [← HW3.out]
    refine (wint_e (by rw [reqE_ne HE.out]; exact HE.out) W3.out Q3.out).mono ?_
    rintro e1 w4 ⟨rfl, hg, hr4⟩
    have Q4 := Lib.hid (Q3.out.grown hg (by intro e; injection e with e; exact NQ.out e))
    have R4 := Lib.hid (R3.out.grown hg (by intro e; injection e with e; exact NE.out.1 e))
    have F4 := Lib.hid (F3.out.trans (FrS.of_grown hg (Or.inl rfl)))
    have W4 := Lib.hid hr4
    clear hg hr4 c1 fz
    go_wp2_with fail
    refine (wreq_any true W4.out Q4.out).mono ?_
    rintro e1 w5 ⟨rfl, hg, hr5⟩
    have Q5 := Lib.hid (Q4.out.grown hg (by intro e; injection e with e; exact NQ.out e))
    have R5 := Lib.hid (R4.out.grown hg (by intro e; injection e with e; exact NE.out.1 e))
    have F5 := Lib.hid (F4.out.trans (FrS.of_grown hg (Or.inl rfl)))
    have W5 := Lib.hid hr5
    clear hg hr5
    go_upto_region 6 with fail
    obtain ⟨w6, hw6⟩ : ∃ w6, w6 = w5.alloc (.cells #[.int .i64 0, .int .i64 0, .string ⟨#[]⟩, .slice none 0 0, .slice none 0 0] 26) := ⟨_, rfl⟩
    have b6 : Below w5.heap.size w5 w6 := by rw [hw6]; exact below_one _ _
    have V6 : Hid (Bk w6 w5.heap.size 26 #[.int .i64 0, .int .i64 0, .string ⟨#[]⟩, .slice none 0 0, .slice none 0 0]) := Lib.hid (by rw [hw6]; exact Bk.new _ _ _)
    have R6 := Lib.hid (R5.out.below b6 R5.out.lt)
    have Q6 := Lib.hid (Q5.out.below b6 Q5.out.lt)
    have W6 := Lib.hid (W5.out.below b6)
    have F6 : Hid (FrS (Two p q) w w6) := Lib.hid (F5.out.trans (FrS.of_below b6))
    have NG : Hid (w5.heap.size ≠ p) := Lib.hid (by have := W5.out.lt; omega)
    have NG2 : Hid (w5.heap.size ≠ q ∧ w.heap.size < w5.heap.size) := Lib.hid (by have := Q5.out.lt; have := R5.out.lt; exact ⟨by omega, by omega⟩)
    rw [← hw6]
    clear hw6 b6
    have v0 := V6.out.cell 0
    change _ = some (Value.int .i64 0) at v0
    have v1 := V6.out.cell 1
    change _ = some (Value.int .i64 0) at v1
    have v2 := V6.out.cell 2
    change _ = some (Value.string ⟨#[]⟩) at v2
    have v3 := V6.out.cell 3
    change _ = some (Value.slice none 0 0) at v3
    have v4 := V6.out.cell 4
    change _ = some (Value.slice none 0 0) at v4
    have r0 := R6.out.cell 0
    have r1 := R6.out.cell 1
    have r2 := R6.out.cell 2
    have r3 := R6.out.cell 3
    have r4 := R6.out.cell 4
    have f0 := R6.out.frozen 0
    have f1 := R6.out.frozen 1
    have f2 := R6.out.frozen 2
    have f3 := R6.out.frozen 3
    have f4 := R6.out.frozen 4
    go_wp2
    obtain ⟨wf, hwf⟩ : ∃ wf, wf = ((((w6.setCell ⟨w.heap.size, 0, none⟩ (.int .i64 0)).setCell ⟨w.heap.size, 1, none⟩ (.int .i64 0)).setCell ⟨w.heap.size, 2, none⟩ (.string ⟨#[]⟩)).setCell ⟨w.heap.size, 3, none⟩ (.slice none 0 0)).setCell ⟨w.heap.size, 4, none⟩ (.slice none 0 0) := ⟨_, rfl⟩
    have GF : Hid (w6.grownBy wf (some w.heap.size)) := Lib.hid (by rw [hwf]; exact grownBy_trans (grownBy_trans (grownBy_trans (grownBy_trans (turned w6 w.heap.size 0 _) (turned _ w.heap.size 1 _)) (turned _ w.heap.size 2 _)) (turned _ w.heap.size 3 _)) (turned _ w.heap.size 4 _))
    have RF : Hid (Bk wf w.heap.size 26 #[.int .i64 0, .int .i64 0, .string ⟨#[]⟩, .slice none 0 0, .slice none 0 0]) := Lib.hid (by rw [hwf]; exact ((((R6.out.put 0 _).put 1 _).put 2 _).put 3 _).put 4 _)
    have QF := Lib.hid (Q6.out.grown GF.out (by intro e; injection e with e; exact NE.out.2 e.symm))
    have WF := Lib.hid (W6.out.other R6.out (by decide) (Ne.symm NE.out.1) GF.out)
    have FF : Hid (FrS (Two p q) w wf) := Lib.hid (F6.out.next (S' := fun b => b = w.heap.size) (FrS.of_grown GF.out rfl) (fun i hi e => by omega))
    rw [← hwf]
    refine bodyPost_ret (results_cell_row rfl _ _ w.heap.size 26 _ (0, 0) _ rfl RF.out Try.underlying26 rfl (by kernel_rfl)) rfl ?_
    exact ⟨_, _, _, _, _, _, _, _, _, b + 1, rfl, FF, QF, by omega, Or.inr ⟨e, l, Lib.hid rfl, HE.out, Lib.hid (by have h := WF.out; rwa [reqE_yes, reqE_ne HE.out] at h)⟩⟩

set_option maxRecDepth 100000 in
set_option maxHeartbeats 4000000 in
theorem dv_1 {w : World} {p q b : Nat} {l : List UInt8} {d i e2 : Int} {l1 l2 : List UInt8} (hr : WRd w p l 0) (hq : Bk w q 90 #[.pointer (some ⟨p, 0, none⟩), .int .i64 (b : Nat)]) (hb : b ≤ 1000) (hlt : b < 1000) (hdp : d ≤ 16) (hi : intA l = (1, l1, 0)) (hi2 : intA l1 = (i, l2, e2)) :
    Calls Try.prog 86 #[.pointer (some ⟨q, 0, none⟩), .int .i64 d] w (DecP WRd 90 (if e2 ≠ 0 then .err e2 else if i = 0 ∨ i = 1 then .ok (.mk 1 i ⟨#[]⟩ [] []) l2 (b + 1) else .err 3) p q w) := by
  have t1 : decide (((b : Nat) : Int) < 1000) = true := by rw [decide_eq_true_eq]; omega
  have t2 : decide (d ≤ 16) = true := by rw [decide_eq_true_eq]; omega
  clear hlt hdp
  have HIB := Lib.hid (show -9223372036854775808 ≤ i ∧ i ≤ 9223372036854775807 by have := intA_in l1; rw [hi2] at this; exact this)
  by_cases he2 : e2 = 0
  · subst he2
    rw [if_neg (by decide)]
    by_cases h01 : i = 0 ∨ i = 1
    · rw [if_pos h01]
      rcases h01 with rfl | rfl
      · obtain ⟨w1, hw1⟩ : ∃ w1, w1 = w.alloc (.cells #[.int .i64 0, .int .i64 0, .string ⟨#[]⟩, .slice none 0 0, .slice none 0 0] 26) := ⟨_, rfl⟩
        have b1 : Below w.heap.size w w1 := by rw [hw1]; exact below_one _ _
        have R1 : Hid (Bk w1 w.heap.size 26 #[.int .i64 0, .int .i64 0, .string ⟨#[]⟩, .slice none 0 0, .slice none 0 0]) := Lib.hid (by rw [hw1]; exact Bk.new _ _ _)
        have W1 := Lib.hid (hr.below b1)
        have Q1 := Lib.hid (hq.below b1 hq.lt)
        have F1 : Hid (FrS (Two p q) w w1) := Lib.hid (FrS.of_below b1)
        have NQ := Lib.hid (hr.dec_ne hq)
        have NE : Hid (w.heap.size ≠ p ∧ w.heap.size ≠ q) := Lib.hid (by have h1 := hr.lt; have h2 := hq.lt; exact ⟨by omega, by omega⟩)
        have HW := Lib.hid hw1
        have c1 := Q1.out.cell 1
        change _ = some (Value.int .i64 (b : Nat)) at c1
        rw [hw1] at c1
        clear hr hq hw1 b1
        go_enter Try.func86, Try.ntmps86
        go_wp2_with fail
        rw [← HW.out]
        refine (wreq_any true W1.out Q1.out).mono ?_
        rintro e1 w2 ⟨rfl, hg, hr2⟩
        have Q2 := Lib.hid (Q1.out.grown hg (by intro e; injection e with e; exact NQ.out e))
        have R2 := Lib.hid (R1.out.grown hg (by intro e; injection e with e; exact NE.out.1 e))
        have F2 := Lib.hid (F1.out.trans (FrS.of_grown hg (Or.inl rfl)))
        have W2 := Lib.hid hr2
        clear hg hr2 c1
        have c1 := Q2.out.cell 1
        change _ = some (Value.int .i64 (b : Nat)) at c1
        have fz := Q2.out.frozen 1
        obtain ⟨w3, hw3⟩ : ∃ w3, w3 = w2.setCell ⟨q, 1, none⟩ (.int .i64 ((b : Nat) + 1)) := ⟨_, rfl⟩
        have g3 : w2.grownBy w3 (some q) := by rw [hw3]; exact turned _ _ _ _
        have Q3 : Hid (Bk w3 q 90 #[.pointer (some ⟨p, 0, none⟩), .int .i64 ((b + 1 : Nat) : Int)]) := Lib.hid (by rw [hw3]; exact Q2.out.put 1 _)
        have R3 := Lib.hid (R2.out.grown g3 (by intro e; injection e with e; exact NE.out.2 e))
        have F3 := Lib.hid (F2.out.trans (FrS.of_grown g3 (Or.inr rfl)))
        have W3 := Lib.hid (W2.out.other Q2.out (by decide) (Ne.symm NQ.out) g3)
        have HW3 := Lib.hid hw3
        clear hw3 g3
        go_wp2_with fail
        rw [← HW3.out]
        refine (wint_k hi W3.out Q3.out).mono ?_
        rintro e1 w4 ⟨rfl, hg, hr4⟩
        have Q4 := Lib.hid (Q3.out.grown hg (by intro e; injection e with e; exact NQ.out e))
        have R4 := Lib.hid (R3.out.grown hg (by intro e; injection e with e; exact NE.out.1 e))
        have F4 := Lib.hid (F3.out.trans (FrS.of_grown hg (Or.inl rfl)))
        have W4 := Lib.hid hr4
        clear hg hr4 c1 fz
        go_wp2_with fail
        refine (wreq_any true W4.out Q4.out).mono ?_
        rintro e1 w5 ⟨rfl, hg, hr5⟩
        have Q5 := Lib.hid (Q4.out.grown hg (by intro e; injection e with e; exact NQ.out e))
        have R5 := Lib.hid (R4.out.grown hg (by intro e; injection e with e; exact NE.out.1 e))
        have F5 := Lib.hid (F4.out.trans (FrS.of_grown hg (Or.inl rfl)))
        have W5 := Lib.hid hr5
        clear hg hr5
        go_upto_region 6 with fail
        obtain ⟨w6, hw6⟩ : ∃ w6, w6 = w5.alloc (.cells #[.int .i64 1, .int .i64 0, .string ⟨#[]⟩, .slice none 0 0, .slice none 0 0] 26) := ⟨_, rfl⟩
        have b6 : Below w5.heap.size w5 w6 := by rw [hw6]; exact below_one _ _
        have V6 : Hid (Bk w6 w5.heap.size 26 #[.int .i64 1, .int .i64 0, .string ⟨#[]⟩, .slice none 0 0, .slice none 0 0]) := Lib.hid (by rw [hw6]; exact Bk.new _ _ _)
        have R6 := Lib.hid (R5.out.below b6 R5.out.lt)
        have Q6 := Lib.hid (Q5.out.below b6 Q5.out.lt)
        have W6 := Lib.hid (W5.out.below b6)
        have F6 : Hid (FrS (Two p q) w w6) := Lib.hid (F5.out.trans (FrS.of_below b6))
        have NG : Hid (w5.heap.size ≠ p) := Lib.hid (by have := W5.out.lt; omega)
        have NG2 : Hid (w5.heap.size ≠ q ∧ w.heap.size < w5.heap.size) := Lib.hid (by have := Q5.out.lt; have := R5.out.lt; exact ⟨by omega, by omega⟩)
        rw [← hw6]
        clear hw6 b6
        go_wp2_with fail
        refine (wint_k hi2 W6.out Q6.out).mono ?_
        rintro e1 w7 ⟨rfl, hg, hrr⟩
        have Q7 := Lib.hid (Q6.out.grown hg (by intro e; injection e with e; exact NQ.out e))
        have R7 := Lib.hid (R6.out.grown hg (by intro e; injection e with e; exact NE.out.1 e))
        have F7 := Lib.hid (F6.out.trans (FrS.of_grown hg (Or.inl rfl)))
        have V7 := Lib.hid (V6.out.grown hg (by intro e; injection e with e; exact NG.out e))
        have W7 := Lib.hid hrr
        clear hg hrr
        have v1 := V7.out.cell 1
        have fz := V7.out.frozen 1
        obtain ⟨w8, hw8⟩ : ∃ w8, w8 = w7.setCell ⟨w5.heap.size, 1, none⟩ (.int .i64 0) := ⟨_, rfl⟩
        have g8 : w7.grownBy w8 (some w5.heap.size) := by rw [hw8]; exact turned _ _ _ _
        have V8 := Lib.hid (show Bk w8 w5.heap.size 26 _ by rw [hw8]; exact V7.out.put 1 (.int .i64 0))
        have Q8 := Lib.hid (Q7.out.grown g8 (by intro e; injection e with e; exact NG2.out.1 e.symm))
        have R8 := Lib.hid (R7.out.grown g8 (by intro e; injection e with e; have := NG2.out.2; omega))
        have F8 : Hid (FrS (Two p q) w w8) := Lib.hid (F7.out.next (S' := fun b => b = w5.heap.size) (FrS.of_grown g8 rfl) (fun i hi e => by have := NG2.out.2; omega))
        have W8 := Lib.hid (W7.out.other V7.out (by decide) (Ne.symm NG.out) g8)
        have HW8 := Lib.hid hw8
        clear hw8 g8
        go_wp2_with fail
        rw [← HW8.out]
        refine (wreq_any true W8.out Q8.out).mono ?_
        rintro e1 w9 ⟨rfl, hg, hrr⟩
        have Q9 := Lib.hid (Q8.out.grown hg (by intro e; injection e with e; exact NQ.out e))
        have R9 := Lib.hid (R8.out.grown hg (by intro e; injection e with e; exact NE.out.1 e))
        have F9 := Lib.hid (F8.out.trans (FrS.of_grown hg (Or.inl rfl)))
        have V9 := Lib.hid (V8.out.grown hg (by intro e; injection e with e; exact NG.out e))
        have W9 := Lib.hid hrr
        clear hg hrr v1 fz
        have v0 := V9.out.cell 0
        change _ = some (Value.int .i64 1) at v0
        have v1 := V9.out.cell 1
        change _ = some (Value.int .i64 0) at v1
        have v2 := V9.out.cell 2
        change _ = some (Value.string ⟨#[]⟩) at v2
        have v3 := V9.out.cell 3
        change _ = some (Value.slice none 0 0) at v3
        have v4 := V9.out.cell 4
        change _ = some (Value.slice none 0 0) at v4
        have r0 := R9.out.cell 0
        have r1 := R9.out.cell 1
        have r2 := R9.out.cell 2
        have r3 := R9.out.cell 3
        have r4 := R9.out.cell 4
        have f0 := R9.out.frozen 0
        have f1 := R9.out.frozen 1
        have f2 := R9.out.frozen 2
        have f3 := R9.out.frozen 3
        have f4 := R9.out.frozen 4
        go_wp2
        obtain ⟨wf, hwf⟩ : ∃ wf, wf = ((((w9.setCell ⟨w.heap.size, 0, none⟩ (.int .i64 1)).setCell ⟨w.heap.size, 1, none⟩ (.int .i64 0)).setCell ⟨w.heap.size, 2, none⟩ (.string ⟨#[]⟩)).setCell ⟨w.heap.size, 3, none⟩ (.slice none 0 0)).setCell ⟨w.heap.size, 4, none⟩ (.slice none 0 0) := ⟨_, rfl⟩
        have GF : Hid (w9.grownBy wf (some w.heap.size)) := Lib.hid (by rw [hwf]; exact grownBy_trans (grownBy_trans (grownBy_trans (grownBy_trans (turned w9 w.heap.size 0 _) (turned _ w.heap.size 1 _)) (turned _ w.heap.size 2 _)) (turned _ w.heap.size 3 _)) (turned _ w.heap.size 4 _))
        have RF : Hid (Bk wf w.heap.size 26 #[.int .i64 1, .int .i64 0, .string ⟨#[]⟩, .slice none 0 0, .slice none 0 0]) := Lib.hid (by rw [hwf]; exact ((((R9.out.put 0 _).put 1 _).put 2 _).put 3 _).put 4 _)
        have QF := Lib.hid (Q9.out.grown GF.out (by intro e; injection e with e; exact NE.out.2 e.symm))
        have WF := Lib.hid (W9.out.other R9.out (by decide) (Ne.symm NE.out.1) GF.out)
        have FF : Hid (FrS (Two p q) w wf) := Lib.hid (F9.out.next (S' := fun b => b = w.heap.size) (FrS.of_grown GF.out rfl) (fun i hi e => by omega))
        rw [← hwf]
        refine bodyPost_ret (results_cell_row rfl _ _ w.heap.size 26 _ (0, 0) _ rfl RF.out Try.underlying26 rfl (by kernel_rfl)) rfl ?_
        exact ⟨_, _, _, _, _, _, _, _, _, b + 1, rfl, FF, QF, by omega, Or.inl ⟨_, l2, Lib.hid rfl, WF, Lib.hid (leaf_lies (by omega) HIB.out (by decide))⟩⟩
      · obtain ⟨w1, hw1⟩ : ∃ w1, w1 = w.alloc (.cells #[.int .i64 0, .int .i64 0, .string ⟨#[]⟩, .slice none 0 0, .slice none 0 0] 26) := ⟨_, rfl⟩
        have b1 : Below w.heap.size w w1 := by rw [hw1]; exact below_one _ _
        have R1 : Hid (Bk w1 w.heap.size 26 #[.int .i64 0, .int .i64 0, .string ⟨#[]⟩, .slice none 0 0, .slice none 0 0]) := Lib.hid (by rw [hw1]; exact Bk.new _ _ _)
        have W1 := Lib.hid (hr.below b1)
        have Q1 := Lib.hid (hq.below b1 hq.lt)
        have F1 : Hid (FrS (Two p q) w w1) := Lib.hid (FrS.of_below b1)
        have NQ := Lib.hid (hr.dec_ne hq)
        have NE : Hid (w.heap.size ≠ p ∧ w.heap.size ≠ q) := Lib.hid (by have h1 := hr.lt; have h2 := hq.lt; exact ⟨by omega, by omega⟩)
        have HW := Lib.hid hw1
        have c1 := Q1.out.cell 1
        change _ = some (Value.int .i64 (b : Nat)) at c1
        rw [hw1] at c1
        clear hr hq hw1 b1
        go_enter Try.func86, Try.ntmps86
        go_wp2_with fail
        rw [← HW.out]
        refine (wreq_any true W1.out Q1.out).mono ?_
        rintro e1 w2 ⟨rfl, hg, hr2⟩
        have Q2 := Lib.hid (Q1.out.grown hg (by intro e; injection e with e; exact NQ.out e))
        have R2 := Lib.hid (R1.out.grown hg (by intro e; injection e with e; exact NE.out.1 e))
        have F2 := Lib.hid (F1.out.trans (FrS.of_grown hg (Or.inl rfl)))
        have W2 := Lib.hid hr2
        clear hg hr2 c1
        have c1 := Q2.out.cell 1
        change _ = some (Value.int .i64 (b : Nat)) at c1
        have fz := Q2.out.frozen 1
        obtain ⟨w3, hw3⟩ : ∃ w3, w3 = w2.setCell ⟨q, 1, none⟩ (.int .i64 ((b : Nat) + 1)) := ⟨_, rfl⟩
        have g3 : w2.grownBy w3 (some q) := by rw [hw3]; exact turned _ _ _ _
        have Q3 : Hid (Bk w3 q 90 #[.pointer (some ⟨p, 0, none⟩), .int .i64 ((b + 1 : Nat) : Int)]) := Lib.hid (by rw [hw3]; exact Q2.out.put 1 _)
        have R3 := Lib.hid (R2.out.grown g3 (by intro e; injection e with e; exact NE.out.2 e))
        have F3 := Lib.hid (F2.out.trans (FrS.of_grown g3 (Or.inr rfl)))
        have W3 := Lib.hid (W2.out.other Q2.out (by decide) (Ne.symm NQ.out) g3)
        have HW3 := Lib.hid hw3
        clear hw3 g3
        go_wp2_with fail
        rw [← HW3.out]
        refine (wint_k hi W3.out Q3.out).mono ?_
        rintro e1 w4 ⟨rfl, hg, hr4⟩
        have Q4 := Lib.hid (Q3.out.grown hg (by intro e; injection e with e; exact NQ.out e))
        have R4 := Lib.hid (R3.out.grown hg (by intro e; injection e with e; exact NE.out.1 e))
        have F4 := Lib.hid (F3.out.trans (FrS.of_grown hg (Or.inl rfl)))
        have W4 := Lib.hid hr4
        clear hg hr4 c1 fz
        go_wp2_with fail
        refine (wreq_any true W4.out Q4.out).mono ?_
        rintro e1 w5 ⟨rfl, hg, hr5⟩
        have Q5 := Lib.hid (Q4.out.grown hg (by intro e; injection e with e; exact NQ.out e))
        have R5 := Lib.hid (R4.out.grown hg (by intro e; injection e with e; exact NE.out.1 e))
        have F5 := Lib.hid (F4.out.trans (FrS.of_grown hg (Or.inl rfl)))
        have W5 := Lib.hid hr5
        clear hg hr5
        go_upto_region 6 with fail
        obtain ⟨w6, hw6⟩ : ∃ w6, w6 = w5.alloc (.cells #[.int .i64 1, .int .i64 0, .string ⟨#[]⟩, .slice none 0 0, .slice none 0 0] 26) := ⟨_, rfl⟩
        have b6 : Below w5.heap.size w5 w6 := by rw [hw6]; exact below_one _ _
        have V6 : Hid (Bk w6 w5.heap.size 26 #[.int .i64 1, .int .i64 0, .string ⟨#[]⟩, .slice none 0 0, .slice none 0 0]) := Lib.hid (by rw [hw6]; exact Bk.new _ _ _)
        have R6 := Lib.hid (R5.out.below b6 R5.out.lt)
        have Q6 := Lib.hid (Q5.out.below b6 Q5.out.lt)
        have W6 := Lib.hid (W5.out.below b6)
        have F6 : Hid (FrS (Two p q) w w6) := Lib.hid (F5.out.trans (FrS.of_below b6))
        have NG : Hid (w5.heap.size ≠ p) := Lib.hid (by have := W5.out.lt; omega)
        have NG2 : Hid (w5.heap.size ≠ q ∧ w.heap.size < w5.heap.size) := Lib.hid (by have := Q5.out.lt; have := R5.out.lt; exact ⟨by omega, by omega⟩)
        rw [← hw6]
        clear hw6 b6
        go_wp2_with fail
        refine (wint_k hi2 W6.out Q6.out).mono ?_
        rintro e1 w7 ⟨rfl, hg, hrr⟩
        have Q7 := Lib.hid (Q6.out.grown hg (by intro e; injection e with e; exact NQ.out e))
        have R7 := Lib.hid (R6.out.grown hg (by intro e; injection e with e; exact NE.out.1 e))
        have F7 := Lib.hid (F6.out.trans (FrS.of_grown hg (Or.inl rfl)))
        have V7 := Lib.hid (V6.out.grown hg (by intro e; injection e with e; exact NG.out e))
        have W7 := Lib.hid hrr
        clear hg hrr
        have v1 := V7.out.cell 1
        have fz := V7.out.frozen 1
        obtain ⟨w8, hw8⟩ : ∃ w8, w8 = w7.setCell ⟨w5.heap.size, 1, none⟩ (.int .i64 1) := ⟨_, rfl⟩
        have g8 : w7.grownBy w8 (some w5.heap.size) := by rw [hw8]; exact turned _ _ _ _
        have V8 := Lib.hid (show Bk w8 w5.heap.size 26 _ by rw [hw8]; exact V7.out.put 1 (.int .i64 1))
        have Q8 := Lib.hid (Q7.out.grown g8 (by intro e; injection e with e; exact NG2.out.1 e.symm))
        have R8 := Lib.hid (R7.out.grown g8 (by intro e; injection e with e; have := NG2.out.2; omega))
        have F8 : Hid (FrS (Two p q) w w8) := Lib.hid (F7.out.next (S' := fun b => b = w5.heap.size) (FrS.of_grown g8 rfl) (fun i hi e => by have := NG2.out.2; omega))
        have W8 := Lib.hid (W7.out.other V7.out (by decide) (Ne.symm NG.out) g8)
        have HW8 := Lib.hid hw8
        clear hw8 g8
        go_wp2_with fail
        rw [← HW8.out]
        refine (wreq_any true W8.out Q8.out).mono ?_
        rintro e1 w9 ⟨rfl, hg, hrr⟩
        have Q9 := Lib.hid (Q8.out.grown hg (by intro e; injection e with e; exact NQ.out e))
        have R9 := Lib.hid (R8.out.grown hg (by intro e; injection e with e; exact NE.out.1 e))
        have F9 := Lib.hid (F8.out.trans (FrS.of_grown hg (Or.inl rfl)))
        have V9 := Lib.hid (V8.out.grown hg (by intro e; injection e with e; exact NG.out e))
        have W9 := Lib.hid hrr
        clear hg hrr v1 fz
        have v0 := V9.out.cell 0
        change _ = some (Value.int .i64 1) at v0
        have v1 := V9.out.cell 1
        change _ = some (Value.int .i64 1) at v1
        have v2 := V9.out.cell 2
        change _ = some (Value.string ⟨#[]⟩) at v2
        have v3 := V9.out.cell 3
        change _ = some (Value.slice none 0 0) at v3
        have v4 := V9.out.cell 4
        change _ = some (Value.slice none 0 0) at v4
        have r0 := R9.out.cell 0
        have r1 := R9.out.cell 1
        have r2 := R9.out.cell 2
        have r3 := R9.out.cell 3
        have r4 := R9.out.cell 4
        have f0 := R9.out.frozen 0
        have f1 := R9.out.frozen 1
        have f2 := R9.out.frozen 2
        have f3 := R9.out.frozen 3
        have f4 := R9.out.frozen 4
        go_wp2
        obtain ⟨wf, hwf⟩ : ∃ wf, wf = ((((w9.setCell ⟨w.heap.size, 0, none⟩ (.int .i64 1)).setCell ⟨w.heap.size, 1, none⟩ (.int .i64 1)).setCell ⟨w.heap.size, 2, none⟩ (.string ⟨#[]⟩)).setCell ⟨w.heap.size, 3, none⟩ (.slice none 0 0)).setCell ⟨w.heap.size, 4, none⟩ (.slice none 0 0) := ⟨_, rfl⟩
        have GF : Hid (w9.grownBy wf (some w.heap.size)) := Lib.hid (by rw [hwf]; exact grownBy_trans (grownBy_trans (grownBy_trans (grownBy_trans (turned w9 w.heap.size 0 _) (turned _ w.heap.size 1 _)) (turned _ w.heap.size 2 _)) (turned _ w.heap.size 3 _)) (turned _ w.heap.size 4 _))
        have RF : Hid (Bk wf w.heap.size 26 #[.int .i64 1, .int .i64 1, .string ⟨#[]⟩, .slice none 0 0, .slice none 0 0]) := Lib.hid (by rw [hwf]; exact ((((R9.out.put 0 _).put 1 _).put 2 _).put 3 _).put 4 _)
        have QF := Lib.hid (Q9.out.grown GF.out (by intro e; injection e with e; exact NE.out.2 e.symm))
        have WF := Lib.hid (W9.out.other R9.out (by decide) (Ne.symm NE.out.1) GF.out)
        have FF : Hid (FrS (Two p q) w wf) := Lib.hid (F9.out.next (S' := fun b => b = w.heap.size) (FrS.of_grown GF.out rfl) (fun i hi e => by omega))
        rw [← hwf]
        refine bodyPost_ret (results_cell_row rfl _ _ w.heap.size 26 _ (0, 0) _ rfl RF.out Try.underlying26 rfl (by kernel_rfl)) rfl ?_
        exact ⟨_, _, _, _, _, _, _, _, _, b + 1, rfl, FF, QF, by omega, Or.inl ⟨_, l2, Lib.hid rfl, WF, Lib.hid (leaf_lies (by omega) HIB.out (by decide))⟩⟩
    · rw [if_neg h01]
      have i0 : (i == 0) = false := by rw [beq_eq_false_iff_ne]; omega
      have i1 : (i == 1) = false := by rw [beq_eq_false_iff_ne]; omega
      clear h01
      obtain ⟨w1, hw1⟩ : ∃ w1, w1 = w.alloc (.cells #[.int .i64 0, .int .i64 0, .string ⟨#[]⟩, .slice none 0 0, .slice none 0 0] 26) := ⟨_, rfl⟩
      have b1 : Below w.heap.size w w1 := by rw [hw1]; exact below_one _ _
      have R1 : Hid (Bk w1 w.heap.size 26 #[.int .i64 0, .int .i64 0, .string ⟨#[]⟩, .slice none 0 0, .slice none 0 0]) := Lib.hid (by rw [hw1]; exact Bk.new _ _ _)
      have W1 := Lib.hid (hr.below b1)
      have Q1 := Lib.hid (hq.below b1 hq.lt)
      have F1 : Hid (FrS (Two p q) w w1) := Lib.hid (FrS.of_below b1)
      have NQ := Lib.hid (hr.dec_ne hq)
      have NE : Hid (w.heap.size ≠ p ∧ w.heap.size ≠ q) := Lib.hid (by have h1 := hr.lt; have h2 := hq.lt; exact ⟨by omega, by omega⟩)
      have HW := Lib.hid hw1
      have c1 := Q1.out.cell 1
      change _ = some (Value.int .i64 (b : Nat)) at c1
      rw [hw1] at c1
      clear hr hq hw1 b1
      go_enter Try.func86, Try.ntmps86
      go_wp2_with fail
      rw [← HW.out]
      refine (wreq_any true W1.out Q1.out).mono ?_
      rintro e1 w2 ⟨rfl, hg, hr2⟩
      have Q2 := Lib.hid (Q1.out.grown hg (by intro e; injection e with e; exact NQ.out e))
      have R2 := Lib.hid (R1.out.grown hg (by intro e; injection e with e; exact NE.out.1 e))
      have F2 := Lib.hid (F1.out.trans (FrS.of_grown hg (Or.inl rfl)))
      have W2 := Lib.hid hr2
      clear hg hr2 c1
      have c1 := Q2.out.cell 1
      change _ = some (Value.int .i64 (b : Nat)) at c1
      have fz := Q2.out.frozen 1
      obtain ⟨w3, hw3⟩ : ∃ w3, w3 = w2.setCell ⟨q, 1, none⟩ (.int .i64 ((b : Nat) + 1)) := ⟨_, rfl⟩
      have g3 : w2.grownBy w3 (some q) := by rw [hw3]; exact turned _ _ _ _
      have Q3 : Hid (Bk w3 q 90 #[.pointer (some ⟨p, 0, none⟩), .int .i64 ((b + 1 : Nat) : Int)]) := Lib.hid (by rw [hw3]; exact Q2.out.put 1 _)
      have R3 := Lib.hid (R2.out.grown g3 (by intro e; injection e with e; exact NE.out.2 e))
      have F3 := Lib.hid (F2.out.trans (FrS.of_grown g3 (Or.inr rfl)))
      have W3 := Lib.hid (W2.out.other Q2.out (by decide) (Ne.symm NQ.out) g3)
      have HW3 := Lib.hid hw3
      clear hw3 g3
      go_wp2_with fail
      rw [← HW3.out]
      refine (wint_k hi W3.out Q3.out).mono ?_
      rintro e1 w4 ⟨rfl, hg, hr4⟩
      have Q4 := Lib.hid (Q3.out.grown hg (by intro e; injection e with e; exact NQ.out e))
      have R4 := Lib.hid (R3.out.grown hg (by intro e; injection e with e; exact NE.out.1 e))
      have F4 := Lib.hid (F3.out.trans (FrS.of_grown hg (Or.inl rfl)))
      have W4 := Lib.hid hr4
      clear hg hr4 c1 fz
      go_wp2_with fail
      refine (wreq_any true W4.out Q4.out).mono ?_
      rintro e1 w5 ⟨rfl, hg, hr5⟩
      have Q5 := Lib.hid (Q4.out.grown hg (by intro e; injection e with e; exact NQ.out e))
      have R5 := Lib.hid (R4.out.grown hg (by intro e; injection e with e; exact NE.out.1 e))
      have F5 := Lib.hid (F4.out.trans (FrS.of_grown hg (Or.inl rfl)))
      have W5 := Lib.hid hr5
      clear hg hr5
      go_upto_region 6 with fail
      obtain ⟨w6, hw6⟩ : ∃ w6, w6 = w5.alloc (.cells #[.int .i64 1, .int .i64 0, .string ⟨#[]⟩, .slice none 0 0, .slice none 0 0] 26) := ⟨_, rfl⟩
      have b6 : Below w5.heap.size w5 w6 := by rw [hw6]; exact below_one _ _
      have V6 : Hid (Bk w6 w5.heap.size 26 #[.int .i64 1, .int .i64 0, .string ⟨#[]⟩, .slice none 0 0, .slice none 0 0]) := Lib.hid (by rw [hw6]; exact Bk.new _ _ _)
      have R6 := Lib.hid (R5.out.below b6 R5.out.lt)
      have Q6 := Lib.hid (Q5.out.below b6 Q5.out.lt)
      have W6 := Lib.hid (W5.out.below b6)
      have F6 : Hid (FrS (Two p q) w w6) := Lib.hid (F5.out.trans (FrS.of_below b6))
      have NG : Hid (w5.heap.size ≠ p) := Lib.hid (by have := W5.out.lt; omega)
      have NG2 : Hid (w5.heap.size ≠ q ∧ w.heap.size < w5.heap.size) := Lib.hid (by have := Q5.out.lt; have := R5.out.lt; exact ⟨by omega, by omega⟩)
      rw [← hw6]
      clear hw6 b6
      go_wp2_with fail
      refine (wint_k hi2 W6.out Q6.out).mono ?_
      rintro e1 w7 ⟨rfl, hg, hrr⟩
      have Q7 := Lib.hid (Q6.out.grown hg (by intro e; injection e with e; exact NQ.out e))
      have R7 := Lib.hid (R6.out.grown hg (by intro e; injection e with e; exact NE.out.1 e))
      have F7 := Lib.hid (F6.out.trans (FrS.of_grown hg (Or.inl rfl)))
      have V7 := Lib.hid (V6.out.grown hg (by intro e; injection e with e; exact NG.out e))
      have W7 := Lib.hid hrr
      clear hg hrr
      have v1 := V7.out.cell 1
      have fz := V7.out.frozen 1
      obtain ⟨w8, hw8⟩ : ∃ w8, w8 = w7.setCell ⟨w5.heap.size, 1, none⟩ (.int .i64 i) := ⟨_, rfl⟩
      have g8 : w7.grownBy w8 (some w5.heap.size) := by rw [hw8]; exact turned _ _ _ _
      have V8 := Lib.hid (show Bk w8 w5.heap.size 26 _ by rw [hw8]; exact V7.out.put 1 (.int .i64 i))
      have Q8 := Lib.hid (Q7.out.grown g8 (by intro e; injection e with e; exact NG2.out.1 e.symm))
      have R8 := Lib.hid (R7.out.grown g8 (by intro e; injection e with e; have := NG2.out.2; omega))
      have F8 : Hid (FrS (Two p q) w w8) := Lib.hid (F7.out.next (S' := fun b => b = w5.heap.size) (FrS.of_grown g8 rfl) (fun i hi e => by have := NG2.out.2; omega))
      have W8 := Lib.hid (W7.out.other V7.out (by decide) (Ne.symm NG.out) g8)
      have HW8 := Lib.hid hw8
      clear hw8 g8
      go_wp2_with fail
      rw [← HW8.out]
      refine (wreq_any false W8.out Q8.out).mono ?_
      rintro e1 w9 ⟨rfl, hg, hrr⟩
      have Q9 := Lib.hid (Q8.out.grown hg (by intro e; injection e with e; exact NQ.out e))
      have R9 := Lib.hid (R8.out.grown hg (by intro e; injection e with e; exact NE.out.1 e))
      have F9 := Lib.hid (F8.out.trans (FrS.of_grown hg (Or.inl rfl)))
      have V9 := Lib.hid (V8.out.grown hg (by intro e; injection e with e; exact NG.out e))
      have W9 := Lib.hid hrr
      clear hg hrr v1 fz
      have v0 := V9.out.cell 0
      change _ = some (Value.int .i64 1) at v0
      have v1 := V9.out.cell 1
      change _ = some (Value.int .i64 i) at v1
      have v2 := V9.out.cell 2
      change _ = some (Value.string ⟨#[]⟩) at v2
      have v3 := V9.out.cell 3
      change _ = some (Value.slice none 0 0) at v3
      have v4 := V9.out.cell 4
      change _ = some (Value.slice none 0 0) at v4
      have r0 := R9.out.cell 0
      have r1 := R9.out.cell 1
      have r2 := R9.out.cell 2
      have r3 := R9.out.cell 3
      have r4 := R9.out.cell 4
      have f0 := R9.out.frozen 0
      have f1 := R9.out.frozen 1
      have f2 := R9.out.frozen 2
      have f3 := R9.out.frozen 3
      have f4 := R9.out.frozen 4
      go_wp2
      obtain ⟨wf, hwf⟩ : ∃ wf, wf = ((((w9.setCell ⟨w.heap.size, 0, none⟩ (.int .i64 1)).setCell ⟨w.heap.size, 1, none⟩ (.int .i64 i)).setCell ⟨w.heap.size, 2, none⟩ (.string ⟨#[]⟩)).setCell ⟨w.heap.size, 3, none⟩ (.slice none 0 0)).setCell ⟨w.heap.size, 4, none⟩ (.slice none 0 0) := ⟨_, rfl⟩
      have GF : Hid (w9.grownBy wf (some w.heap.size)) := Lib.hid (by rw [hwf]; exact grownBy_trans (grownBy_trans (grownBy_trans (grownBy_trans (turned w9 w.heap.size 0 _) (turned _ w.heap.size 1 _)) (turned _ w.heap.size 2 _)) (turned _ w.heap.size 3 _)) (turned _ w.heap.size 4 _))
      have RF : Hid (Bk wf w.heap.size 26 #[.int .i64 1, .int .i64 i, .string ⟨#[]⟩, .slice none 0 0, .slice none 0 0]) := Lib.hid (by rw [hwf]; exact ((((R9.out.put 0 _).put 1 _).put 2 _).put 3 _).put 4 _)
      have QF := Lib.hid (Q9.out.grown GF.out (by intro e; injection e with e; exact NE.out.2 e.symm))
      have WF := Lib.hid (W9.out.other R9.out (by decide) (Ne.symm NE.out.1) GF.out)
      have FF : Hid (FrS (Two p q) w wf) := Lib.hid (F9.out.next (S' := fun b => b = w.heap.size) (FrS.of_grown GF.out rfl) (fun i hi e => by omega))
      rw [← hwf]
      refine bodyPost_ret (results_cell_row rfl _ _ w.heap.size 26 _ (0, 0) _ rfl RF.out Try.underlying26 rfl (by kernel_rfl)) rfl ?_
      exact ⟨_, _, _, _, _, _, _, _, _, b + 1, rfl, FF, QF, by omega, Or.inr ⟨3, l2, Lib.hid rfl, by decide, WF⟩⟩
  · have hiz : i = 0 := by
      have h := intA_err (l := l1) (by rw [hi2]; exact he2)
      rw [hi2] at h
      injection h
    subst hiz
    rw [if_pos he2]
    have HE2 := Lib.hid he2
    clear he2
    obtain ⟨w1, hw1⟩ : ∃ w1, w1 = w.alloc (.cells #[.int .i64 0, .int .i64 0, .string ⟨#[]⟩, .slice none 0 0, .slice none 0 0] 26) := ⟨_, rfl⟩
    have b1 : Below w.heap.size w w1 := by rw [hw1]; exact below_one _ _
    have R1 : Hid (Bk w1 w.heap.size 26 #[.int .i64 0, .int .i64 0, .string ⟨#[]⟩, .slice none 0 0, .slice none 0 0]) := Lib.hid (by rw [hw1]; exact Bk.new _ _ _)
    have W1 := Lib.hid (hr.below b1)
    have Q1 := Lib.hid (hq.below b1 hq.lt)
    have F1 : Hid (FrS (Two p q) w w1) := Lib.hid (FrS.of_below b1)
    have NQ := Lib.hid (hr.dec_ne hq)
    have NE : Hid (w.heap.size ≠ p ∧ w.heap.size ≠ q) := Lib.hid (by have h1 := hr.lt; have h2 := hq.lt; exact ⟨by omega, by omega⟩)
    have HW := Lib.hid hw1
    have c1 := Q1.out.cell 1
    change _ = some (Value.int .i64 (b : Nat)) at c1
    rw [hw1] at c1
    clear hr hq hw1 b1
    go_enter Try.func86, Try.ntmps86
    go_wp2_with fail
    rw [← HW.out]
    refine (wreq_any true W1.out Q1.out).mono ?_
    rintro e1 w2 ⟨rfl, hg, hr2⟩
    have Q2 := Lib.hid (Q1.out.grown hg (by intro e; injection e with e; exact NQ.out e))
    have R2 := Lib.hid (R1.out.grown hg (by intro e; injection e with e; exact NE.out.1 e))
    have F2 := Lib.hid (F1.out.trans (FrS.of_grown hg (Or.inl rfl)))
    have W2 := Lib.hid hr2
    clear hg hr2 c1
    have c1 := Q2.out.cell 1
    change _ = some (Value.int .i64 (b : Nat)) at c1
    have fz := Q2.out.frozen 1
    obtain ⟨w3, hw3⟩ : ∃ w3, w3 = w2.setCell ⟨q, 1, none⟩ (.int .i64 ((b : Nat) + 1)) := ⟨_, rfl⟩
    have g3 : w2.grownBy w3 (some q) := by rw [hw3]; exact turned _ _ _ _
    have Q3 : Hid (Bk w3 q 90 #[.pointer (some ⟨p, 0, none⟩), .int .i64 ((b + 1 : Nat) : Int)]) := Lib.hid (by rw [hw3]; exact Q2.out.put 1 _)
    have R3 := Lib.hid (R2.out.grown g3 (by intro e; injection e with e; exact NE.out.2 e))
    have F3 := Lib.hid (F2.out.trans (FrS.of_grown g3 (Or.inr rfl)))
    have W3 := Lib.hid (W2.out.other Q2.out (by decide) (Ne.symm NQ.out) g3)
    have HW3 := Lib.hid hw3
    clear hw3 g3
    go_wp2_with fail
    rw [← HW3.out]
    refine (wint_k hi W3.out Q3.out).mono ?_
    rintro e1 w4 ⟨rfl, hg, hr4⟩
    have Q4 := Lib.hid (Q3.out.grown hg (by intro e; injection e with e; exact NQ.out e))
    have R4 := Lib.hid (R3.out.grown hg (by intro e; injection e with e; exact NE.out.1 e))
    have F4 := Lib.hid (F3.out.trans (FrS.of_grown hg (Or.inl rfl)))
    have W4 := Lib.hid hr4
    clear hg hr4 c1 fz
    go_wp2_with fail
    refine (wreq_any true W4.out Q4.out).mono ?_
    rintro e1 w5 ⟨rfl, hg, hr5⟩
    have Q5 := Lib.hid (Q4.out.grown hg (by intro e; injection e with e; exact NQ.out e))
    have R5 := Lib.hid (R4.out.grown hg (by intro e; injection e with e; exact NE.out.1 e))
    have F5 := Lib.hid (F4.out.trans (FrS.of_grown hg (Or.inl rfl)))
    have W5 := Lib.hid hr5
    clear hg hr5
    go_upto_region 6 with fail
    obtain ⟨w6, hw6⟩ : ∃ w6, w6 = w5.alloc (.cells #[.int .i64 1, .int .i64 0, .string ⟨#[]⟩, .slice none 0 0, .slice none 0 0] 26) := ⟨_, rfl⟩
    have b6 : Below w5.heap.size w5 w6 := by rw [hw6]; exact below_one _ _
    have V6 : Hid (Bk w6 w5.heap.size 26 #[.int .i64 1, .int .i64 0, .string ⟨#[]⟩, .slice none 0 0, .slice none 0 0]) := Lib.hid (by rw [hw6]; exact Bk.new _ _ _)
    have R6 := Lib.hid (R5.out.below b6 R5.out.lt)
    have Q6 := Lib.hid (Q5.out.below b6 Q5.out.lt)
    have W6 := Lib.hid (W5.out.below b6)
    have F6 : Hid (FrS (Two p q) w w6) := Lib.hid (F5.out.trans (FrS.of_below b6))
    have NG : Hid (w5.heap.size ≠ p) := Lib.hid (by have := W5.out.lt; omega)
    have NG2 : Hid (w5.heap.size ≠ q ∧ w.heap.size < w5.heap.size) := Lib.hid (by have := Q5.out.lt; have := R5.out.lt; exact ⟨by omega, by omega⟩)
    rw [← hw6]
    clear hw6 b6
    go_wp2_with fail
    refine (wint_k hi2 W6.out Q6.out).mono ?_
    rintro e1 w7 ⟨rfl, hg, hrr⟩
    have Q7 := Lib.hid (Q6.out.grown hg (by intro e; injection e with e; exact NQ.out e))
    have R7 := Lib.hid (R6.out.grown hg (by intro e; injection e with e; exact NE.out.1 e))
    have F7 := Lib.hid (F6.out.trans (FrS.of_grown hg (Or.inl rfl)))
    have V7 := Lib.hid (V6.out.grown hg (by intro e; injection e with e; exact NG.out e))
    have W7 := Lib.hid hrr
    clear hg hrr
    have v1 := V7.out.cell 1
    have fz := V7.out.frozen 1
    obtain ⟨w8, hw8⟩ : ∃ w8, w8 = w7.setCell ⟨w5.heap.size, 1, none⟩ (.int .i64 0) := ⟨_, rfl⟩
    have g8 : w7.grownBy w8 (some w5.heap.size) := by rw [hw8]; exact turned _ _ _ _
    have V8 := Lib.hid (show Bk w8 w5.heap.size 26 _ by rw [hw8]; exact V7.out.put 1 (.int .i64 0))
    have Q8 := Lib.hid (Q7.out.grown g8 (by intro e; injection e with e; exact NG2.out.1 e.symm))
    have R8 := Lib.hid (R7.out.grown g8 (by intro e; injection e with e; have := NG2.out.2; omega))
    have F8 : Hid (FrS (Two p q) w w8) := Lib.hid (F7.out.next (S' := fun b => b = w5.heap.size) (FrS.of_grown g8 rfl) (fun i hi e => by have := NG2.out.2; omega))
    have W8 := Lib.hid (W7.out.other V7.out (by decide) (Ne.symm NG.out) g8)
    have HW8 := Lib.hid hw8
    clear hw8 g8
    go_wp2_with fail
    rw [← HW8.out]
    refine (wreq_any true W8.out Q8.out).mono ?_
    rintro e1 w9 ⟨rfl, hg, hrr⟩
    have Q9 := Lib.hid (Q8.out.grown hg (by intro e; injection e with e; exact NQ.out e))
    have R9 := Lib.hid (R8.out.grown hg (by intro e; injection e with e; exact NE.out.1 e))
    have F9 := Lib.hid (F8.out.trans (FrS.of_grown hg (Or.inl rfl)))
    have V9 := Lib.hid (V8.out.grown hg (by intro e; injection e with e; exact NG.out e))
    have W9 := Lib.hid hrr
    clear hg hrr v1 fz
    have v0 := V9.out.cell 0
    change _ = some (Value.int .i64 1) at v0
    have v1 := V9.out.cell 1
    change _ = some (Value.int .i64 0) at v1
    have v2 := V9.out.cell 2
    change _ = some (Value.string ⟨#[]⟩) at v2
    have v3 := V9.out.cell 3
    change _ = some (Value.slice none 0 0) at v3
    have v4 := V9.out.cell 4
    change _ = some (Value.slice none 0 0) at v4
    have r0 := R9.out.cell 0
    have r1 := R9.out.cell 1
    have r2 := R9.out.cell 2
    have r3 := R9.out.cell 3
    have r4 := R9.out.cell 4
    have f0 := R9.out.frozen 0
    have f1 := R9.out.frozen 1
    have f2 := R9.out.frozen 2
    have f3 := R9.out.frozen 3
    have f4 := R9.out.frozen 4
    go_wp2
    obtain ⟨wf, hwf⟩ : ∃ wf, wf = ((((w9.setCell ⟨w.heap.size, 0, none⟩ (.int .i64 1)).setCell ⟨w.heap.size, 1, none⟩ (.int .i64 0)).setCell ⟨w.heap.size, 2, none⟩ (.string ⟨#[]⟩)).setCell ⟨w.heap.size, 3, none⟩ (.slice none 0 0)).setCell ⟨w.heap.size, 4, none⟩ (.slice none 0 0) := ⟨_, rfl⟩
    have GF : Hid (w9.grownBy wf (some w.heap.size)) := Lib.hid (by rw [hwf]; exact grownBy_trans (grownBy_trans (grownBy_trans (grownBy_trans (turned w9 w.heap.size 0 _) (turned _ w.heap.size 1 _)) (turned _ w.heap.size 2 _)) (turned _ w.heap.size 3 _)) (turned _ w.heap.size 4 _))
    have RF : Hid (Bk wf w.heap.size 26 #[.int .i64 1, .int .i64 0, .string ⟨#[]⟩, .slice none 0 0, .slice none 0 0]) := Lib.hid (by rw [hwf]; exact ((((R9.out.put 0 _).put 1 _).put 2 _).put 3 _).put 4 _)
    have QF := Lib.hid (Q9.out.grown GF.out (by intro e; injection e with e; exact NE.out.2 e.symm))
    have WF := Lib.hid (W9.out.other R9.out (by decide) (Ne.symm NE.out.1) GF.out)
    have FF : Hid (FrS (Two p q) w wf) := Lib.hid (F9.out.next (S' := fun b => b = w.heap.size) (FrS.of_grown GF.out rfl) (fun i hi e => by omega))
    rw [← hwf]
    refine bodyPost_ret (results_cell_row rfl _ _ w.heap.size 26 _ (0, 0) _ rfl RF.out Try.underlying26 rfl (by kernel_rfl)) rfl ?_
    exact ⟨_, _, _, _, _, _, _, _, _, b + 1, rfl, FF, QF, by omega, Or.inr ⟨e2, l2, Lib.hid rfl, HE2.out, WF⟩⟩

set_option maxRecDepth 100000 in
set_option maxHeartbeats 4000000 in
theorem dv_2 {w : World} {p q b : Nat} {l : List UInt8} {d i e2 : Int} {l1 l2 : List UInt8} (hr : WRd w p l 0) (hq : Bk w q 90 #[.pointer (some ⟨p, 0, none⟩), .int .i64 (b : Nat)]) (hb : b ≤ 1000) (hlt : b < 1000) (hdp : d ≤ 16) (hi : intA l = (2, l1, 0)) (hi2 : intA l1 = (i, l2, e2)) :
    Calls Try.prog 86 #[.pointer (some ⟨q, 0, none⟩), .int .i64 d] w (DecP WRd 90 (if e2 ≠ 0 then .err e2 else .ok (.mk 2 i ⟨#[]⟩ [] []) l2 (b + 1)) p q w) := by
  have t1 : decide (((b : Nat) : Int) < 1000) = true := by rw [decide_eq_true_eq]; omega
  have t2 : decide (d ≤ 16) = true := by rw [decide_eq_true_eq]; omega
  clear hlt hdp
  have HIB := Lib.hid (show -9223372036854775808 ≤ i ∧ i ≤ 9223372036854775807 by have := intA_in l1; rw [hi2] at this; exact this)
  by_cases he2 : e2 = 0
  · subst he2
    rw [if_neg (by decide)]
    obtain ⟨w1, hw1⟩ : ∃ w1, w1 = w.alloc (.cells #[.int .i64 0, .int .i64 0, .string ⟨#[]⟩, .slice none 0 0, .slice none 0 0] 26) := ⟨_, rfl⟩
    have b1 : Below w.heap.size w w1 := by rw [hw1]; exact below_one _ _
    have R1 : Hid (Bk w1 w.heap.size 26 #[.int .i64 0, .int .i64 0, .string ⟨#[]⟩, .slice none 0 0, .slice none 0 0]) := Lib.hid (by rw [hw1]; exact Bk.new _ _ _)
    have W1 := Lib.hid (hr.below b1)
    have Q1 := Lib.hid (hq.below b1 hq.lt)
    have F1 : Hid (FrS (Two p q) w w1) := Lib.hid (FrS.of_below b1)
    have NQ := Lib.hid (hr.dec_ne hq)
    have NE : Hid (w.heap.size ≠ p ∧ w.heap.size ≠ q) := Lib.hid (by have h1 := hr.lt; have h2 := hq.lt; exact ⟨by omega, by omega⟩)
    have HW := Lib.hid hw1
    have c1 := Q1.out.cell 1
    change _ = some (Value.int .i64 (b : Nat)) at c1
    rw [hw1] at c1
    clear hr hq hw1 b1
    go_enter Try.func86, Try.ntmps86
    go_wp2_with fail
    rw [← HW.out]
    refine (wreq_any true W1.out Q1.out).mono ?_
    rintro e1 w2 ⟨rfl, hg, hr2⟩
    have Q2 := Lib.hid (Q1.out.grown hg (by intro e; injection e with e; exact NQ.out e))
    have R2 := Lib.hid (R1.out.grown hg (by intro e; injection e with e; exact NE.out.1 e))
    have F2 := Lib.hid (F1.out.trans (FrS.of_grown hg (Or.inl rfl)))
    have W2 := Lib.hid hr2
    clear hg hr2 c1
    have c1 := Q2.out.cell 1
    change _ = some (Value.int .i64 (b : Nat)) at c1
    have fz := Q2.out.frozen 1
    obtain ⟨w3, hw3⟩ : ∃ w3, w3 = w2.setCell ⟨q, 1, none⟩ (.int .i64 ((b : Nat) + 1)) := ⟨_, rfl⟩
    have g3 : w2.grownBy w3 (some q) := by rw [hw3]; exact turned _ _ _ _
    have Q3 : Hid (Bk w3 q 90 #[.pointer (some ⟨p, 0, none⟩), .int .i64 ((b + 1 : Nat) : Int)]) := Lib.hid (by rw [hw3]; exact Q2.out.put 1 _)
    have R3 := Lib.hid (R2.out.grown g3 (by intro e; injection e with e; exact NE.out.2 e))
    have F3 := Lib.hid (F2.out.trans (FrS.of_grown g3 (Or.inr rfl)))
    have W3 := Lib.hid (W2.out.other Q2.out (by decide) (Ne.symm NQ.out) g3)
    have HW3 := Lib.hid hw3
    clear hw3 g3
    go_wp2_with fail
    rw [← HW3.out]
    refine (wint_k hi W3.out Q3.out).mono ?_
    rintro e1 w4 ⟨rfl, hg, hr4⟩
    have Q4 := Lib.hid (Q3.out.grown hg (by intro e; injection e with e; exact NQ.out e))
    have R4 := Lib.hid (R3.out.grown hg (by intro e; injection e with e; exact NE.out.1 e))
    have F4 := Lib.hid (F3.out.trans (FrS.of_grown hg (Or.inl rfl)))
    have W4 := Lib.hid hr4
    clear hg hr4 c1 fz
    go_wp2_with fail
    refine (wreq_any true W4.out Q4.out).mono ?_
    rintro e1 w5 ⟨rfl, hg, hr5⟩
    have Q5 := Lib.hid (Q4.out.grown hg (by intro e; injection e with e; exact NQ.out e))
    have R5 := Lib.hid (R4.out.grown hg (by intro e; injection e with e; exact NE.out.1 e))
    have F5 := Lib.hid (F4.out.trans (FrS.of_grown hg (Or.inl rfl)))
    have W5 := Lib.hid hr5
    clear hg hr5
    go_upto_region 6 with fail
    obtain ⟨w6, hw6⟩ : ∃ w6, w6 = w5.alloc (.cells #[.int .i64 2, .int .i64 0, .string ⟨#[]⟩, .slice none 0 0, .slice none 0 0] 26) := ⟨_, rfl⟩
    have b6 : Below w5.heap.size w5 w6 := by rw [hw6]; exact below_one _ _
    have V6 : Hid (Bk w6 w5.heap.size 26 #[.int .i64 2, .int .i64 0, .string ⟨#[]⟩, .slice none 0 0, .slice none 0 0]) := Lib.hid (by rw [hw6]; exact Bk.new _ _ _)
    have R6 := Lib.hid (R5.out.below b6 R5.out.lt)
    have Q6 := Lib.hid (Q5.out.below b6 Q5.out.lt)
    have W6 := Lib.hid (W5.out.below b6)
    have F6 : Hid (FrS (Two p q) w w6) := Lib.hid (F5.out.trans (FrS.of_below b6))
    have NG : Hid (w5.heap.size ≠ p) := Lib.hid (by have := W5.out.lt; omega)
    have NG2 : Hid (w5.heap.size ≠ q ∧ w.heap.size < w5.heap.size) := Lib.hid (by have := Q5.out.lt; have := R5.out.lt; exact ⟨by omega, by omega⟩)
    rw [← hw6]
    clear hw6 b6
    go_wp2_with fail
    refine (wint_k hi2 W6.out Q6.out).mono ?_
    rintro e1 w7 ⟨rfl, hg, hrr⟩
    have Q7 := Lib.hid (Q6.out.grown hg (by intro e; injection e with e; exact NQ.out e))
    have R7 := Lib.hid (R6.out.grown hg (by intro e; injection e with e; exact NE.out.1 e))
    have F7 := Lib.hid (F6.out.trans (FrS.of_grown hg (Or.inl rfl)))
    have V7 := Lib.hid (V6.out.grown hg (by intro e; injection e with e; exact NG.out e))
    have W7 := Lib.hid hrr
    clear hg hrr
    have v1 := V7.out.cell 1
    have fz := V7.out.frozen 1
    obtain ⟨w8, hw8⟩ : ∃ w8, w8 = w7.setCell ⟨w5.heap.size, 1, none⟩ (.int .i64 i) := ⟨_, rfl⟩
    have g8 : w7.grownBy w8 (some w5.heap.size) := by rw [hw8]; exact turned _ _ _ _
    have V8 := Lib.hid (show Bk w8 w5.heap.size 26 _ by rw [hw8]; exact V7.out.put 1 (.int .i64 i))
    have Q8 := Lib.hid (Q7.out.grown g8 (by intro e; injection e with e; exact NG2.out.1 e.symm))
    have R8 := Lib.hid (R7.out.grown g8 (by intro e; injection e with e; have := NG2.out.2; omega))
    have F8 : Hid (FrS (Two p q) w w8) := Lib.hid (F7.out.next (S' := fun b => b = w5.heap.size) (FrS.of_grown g8 rfl) (fun i hi e => by have := NG2.out.2; omega))
    have W8 := Lib.hid (W7.out.other V7.out (by decide) (Ne.symm NG.out) g8)
    have HW8 := Lib.hid hw8
    clear hw8 g8
    go_upto_region 17 with fail
    rw [← HW8.out]
    clear v1 fz
    have v0 := V8.out.cell 0
    change _ = some (Value.int .i64 2) at v0
    have v1 := V8.out.cell 1
    change _ = some (Value.int .i64 i) at v1
    have v2 := V8.out.cell 2
    change _ = some (Value.string ⟨#[]⟩) at v2
    have v3 := V8.out.cell 3
    change _ = some (Value.slice none 0 0) at v3
    have v4 := V8.out.cell 4
    change _ = some (Value.slice none 0 0) at v4
    have r0 := R8.out.cell 0
    have r1 := R8.out.cell 1
    have r2 := R8.out.cell 2
    have r3 := R8.out.cell 3
    have r4 := R8.out.cell 4
    have f0 := R8.out.frozen 0
    have f1 := R8.out.frozen 1
    have f2 := R8.out.frozen 2
    have f3 := R8.out.frozen 3
    have f4 := R8.out.frozen 4
    go_wp2
    obtain ⟨wf, hwf⟩ : ∃ wf, wf = ((((w8.setCell ⟨w.heap.size, 0, none⟩ (.int .i64 2)).setCell ⟨w.heap.size, 1, none⟩ (.int .i64 i)).setCell ⟨w.heap.size, 2, none⟩ (.string ⟨#[]⟩)).setCell ⟨w.heap.size, 3, none⟩ (.slice none 0 0)).setCell ⟨w.heap.size, 4, none⟩ (.slice none 0 0) := ⟨_, rfl⟩
    have GF : Hid (w8.grownBy wf (some w.heap.size)) := Lib.hid (by rw [hwf]; exact grownBy_trans (grownBy_trans (grownBy_trans (grownBy_trans (turned w8 w.heap.size 0 _) (turned _ w.heap.size 1 _)) (turned _ w.heap.size 2 _)) (turned _ w.heap.size 3 _)) (turned _ w.heap.size 4 _))
    have RF : Hid (Bk wf w.heap.size 26 #[.int .i64 2, .int .i64 i, .string ⟨#[]⟩, .slice none 0 0, .slice none 0 0]) := Lib.hid (by rw [hwf]; exact ((((R8.out.put 0 _).put 1 _).put 2 _).put 3 _).put 4 _)
    have QF := Lib.hid (Q8.out.grown GF.out (by intro e; injection e with e; exact NE.out.2 e.symm))
    have WF := Lib.hid (W8.out.other R8.out (by decide) (Ne.symm NE.out.1) GF.out)
    have FF : Hid (FrS (Two p q) w wf) := Lib.hid (F8.out.next (S' := fun b => b = w.heap.size) (FrS.of_grown GF.out rfl) (fun i hi e => by omega))
    rw [← hwf]
    refine bodyPost_ret (results_cell_row rfl _ _ w.heap.size 26 _ (0, 0) _ rfl RF.out Try.underlying26 rfl (by kernel_rfl)) rfl ?_
    exact ⟨_, _, _, _, _, _, _, _, _, b + 1, rfl, FF, QF, by omega, Or.inl ⟨_, l2, Lib.hid rfl, WF, Lib.hid (leaf_lies (by omega) HIB.out (by decide))⟩⟩
  · rw [if_pos he2]
    have HE2 := Lib.hid he2
    clear he2
    obtain ⟨w1, hw1⟩ : ∃ w1, w1 = w.alloc (.cells #[.int .i64 0, .int .i64 0, .string ⟨#[]⟩, .slice none 0 0, .slice none 0 0] 26) := ⟨_, rfl⟩
    have b1 : Below w.heap.size w w1 := by rw [hw1]; exact below_one _ _
    have R1 : Hid (Bk w1 w.heap.size 26 #[.int .i64 0, .int .i64 0, .string ⟨#[]⟩, .slice none 0 0, .slice none 0 0]) := Lib.hid (by rw [hw1]; exact Bk.new _ _ _)
    have W1 := Lib.hid (hr.below b1)
    have Q1 := Lib.hid (hq.below b1 hq.lt)
    have F1 : Hid (FrS (Two p q) w w1) := Lib.hid (FrS.of_below b1)
    have NQ := Lib.hid (hr.dec_ne hq)
    have NE : Hid (w.heap.size ≠ p ∧ w.heap.size ≠ q) := Lib.hid (by have h1 := hr.lt; have h2 := hq.lt; exact ⟨by omega, by omega⟩)
    have HW := Lib.hid hw1
    have c1 := Q1.out.cell 1
    change _ = some (Value.int .i64 (b : Nat)) at c1
    rw [hw1] at c1
    clear hr hq hw1 b1
    go_enter Try.func86, Try.ntmps86
    go_wp2_with fail
    rw [← HW.out]
    refine (wreq_any true W1.out Q1.out).mono ?_
    rintro e1 w2 ⟨rfl, hg, hr2⟩
    have Q2 := Lib.hid (Q1.out.grown hg (by intro e; injection e with e; exact NQ.out e))
    have R2 := Lib.hid (R1.out.grown hg (by intro e; injection e with e; exact NE.out.1 e))
    have F2 := Lib.hid (F1.out.trans (FrS.of_grown hg (Or.inl rfl)))
    have W2 := Lib.hid hr2
    clear hg hr2 c1
    have c1 := Q2.out.cell 1
    change _ = some (Value.int .i64 (b : Nat)) at c1
    have fz := Q2.out.frozen 1
    obtain ⟨w3, hw3⟩ : ∃ w3, w3 = w2.setCell ⟨q, 1, none⟩ (.int .i64 ((b : Nat) + 1)) := ⟨_, rfl⟩
    have g3 : w2.grownBy w3 (some q) := by rw [hw3]; exact turned _ _ _ _
    have Q3 : Hid (Bk w3 q 90 #[.pointer (some ⟨p, 0, none⟩), .int .i64 ((b + 1 : Nat) : Int)]) := Lib.hid (by rw [hw3]; exact Q2.out.put 1 _)
    have R3 := Lib.hid (R2.out.grown g3 (by intro e; injection e with e; exact NE.out.2 e))
    have F3 := Lib.hid (F2.out.trans (FrS.of_grown g3 (Or.inr rfl)))
    have W3 := Lib.hid (W2.out.other Q2.out (by decide) (Ne.symm NQ.out) g3)
    have HW3 := Lib.hid hw3
    clear hw3 g3
    go_wp2_with fail
    rw [← HW3.out]
    refine (wint_k hi W3.out Q3.out).mono ?_
    rintro e1 w4 ⟨rfl, hg, hr4⟩
    have Q4 := Lib.hid (Q3.out.grown hg (by intro e; injection e with e; exact NQ.out e))
    have R4 := Lib.hid (R3.out.grown hg (by intro e; injection e with e; exact NE.out.1 e))
    have F4 := Lib.hid (F3.out.trans (FrS.of_grown hg (Or.inl rfl)))
    have W4 := Lib.hid hr4
    clear hg hr4 c1 fz
    go_wp2_with fail
    refine (wreq_any true W4.out Q4.out).mono ?_
    rintro e1 w5 ⟨rfl, hg, hr5⟩
    have Q5 := Lib.hid (Q4.out.grown hg (by intro e; injection e with e; exact NQ.out e))
    have R5 := Lib.hid (R4.out.grown hg (by intro e; injection e with e; exact NE.out.1 e))
    have F5 := Lib.hid (F4.out.trans (FrS.of_grown hg (Or.inl rfl)))
    have W5 := Lib.hid hr5
    clear hg hr5
    go_upto_region 6 with fail
    obtain ⟨w6, hw6⟩ : ∃ w6, w6 = w5.alloc (.cells #[.int .i64 2, .int .i64 0, .string ⟨#[]⟩, .slice none 0 0, .slice none 0 0] 26) := ⟨_, rfl⟩
    have b6 : Below w5.heap.size w5 w6 := by rw [hw6]; exact below_one _ _
    have V6 : Hid (Bk w6 w5.heap.size 26 #[.int .i64 2, .int .i64 0, .string ⟨#[]⟩, .slice none 0 0, .slice none 0 0]) := Lib.hid (by rw [hw6]; exact Bk.new _ _ _)
    have R6 := Lib.hid (R5.out.below b6 R5.out.lt)
    have Q6 := Lib.hid (Q5.out.below b6 Q5.out.lt)
    have W6 := Lib.hid (W5.out.below b6)
    have F6 : Hid (FrS (Two p q) w w6) := Lib.hid (F5.out.trans (FrS.of_below b6))
    have NG : Hid (w5.heap.size ≠ p) := Lib.hid (by have := W5.out.lt; omega)
    have NG2 : Hid (w5.heap.size ≠ q ∧ w.heap.size < w5.heap.size) := Lib.hid (by have := Q5.out.lt; have := R5.out.lt; exact ⟨by omega, by omega⟩)
    rw [← hw6]
    clear hw6 b6
    go_wp2_with fail
    refine (wint_k hi2 W6.out Q6.out).mono ?_
    rintro e1 w7 ⟨rfl, hg, hrr⟩
    have Q7 := Lib.hid (Q6.out.grown hg (by intro e; injection e with e; exact NQ.out e))
    have R7 := Lib.hid (R6.out.grown hg (by intro e; injection e with e; exact NE.out.1 e))
    have F7 := Lib.hid (F6.out.trans (FrS.of_grown hg (Or.inl rfl)))
    have V7 := Lib.hid (V6.out.grown hg (by intro e; injection e with e; exact NG.out e))
    have W7 := Lib.hid hrr
    clear hg hrr
    have v1 := V7.out.cell 1
    have fz := V7.out.frozen 1
    obtain ⟨w8, hw8⟩ : ∃ w8, w8 = w7.setCell ⟨w5.heap.size, 1, none⟩ (.int .i64 i) := ⟨_, rfl⟩
    have g8 : w7.grownBy w8 (some w5.heap.size) := by rw [hw8]; exact turned _ _ _ _
    have V8 := Lib.hid (show Bk w8 w5.heap.size 26 _ by rw [hw8]; exact V7.out.put 1 (.int .i64 i))
    have Q8 := Lib.hid (Q7.out.grown g8 (by intro e; injection e with e; exact NG2.out.1 e.symm))
    have R8 := Lib.hid (R7.out.grown g8 (by intro e; injection e with e; have := NG2.out.2; omega))
    have F8 : Hid (FrS (Two p q) w w8) := Lib.hid (F7.out.next (S' := fun b => b = w5.heap.size) (FrS.of_grown g8 rfl) (fun i hi e => by have := NG2.out.2; omega))
    have W8 := Lib.hid (W7.out.other V7.out (by decide) (Ne.symm NG.out) g8)
    have HW8 := Lib.hid hw8
    clear hw8 g8
    go_upto_region 17 with fail
    rw [← HW8.out]
    clear v1 fz
    have v0 := V8.out.cell 0
    change _ = some (Value.int .i64 2) at v0
    have v1 := V8.out.cell 1
    change _ = some (Value.int .i64 i) at v1
    have v2 := V8.out.cell 2
    change _ = some (Value.string ⟨#[]⟩) at v2
    have v3 := V8.out.cell 3
    change _ = some (Value.slice none 0 0) at v3
    have v4 := V8.out.cell 4
    change _ = some (Value.slice none 0 0) at v4
    have r0 := R8.out.cell 0
    have r1 := R8.out.cell 1
    have r2 := R8.out.cell 2
    have r3 := R8.out.cell 3
    have r4 := R8.out.cell 4
    have f0 := R8.out.frozen 0
    have f1 := R8.out.frozen 1
    have f2 := R8.out.frozen 2
    have f3 := R8.out.frozen 3
    have f4 := R8.out.frozen 4
    go_wp2
    obtain ⟨wf, hwf⟩ : ∃ wf, wf = ((((w8.setCell ⟨w.heap.size, 0, none⟩ (.int .i64 2)).setCell ⟨w.heap.size, 1, none⟩ (.int .i64 i)).setCell ⟨w.heap.size, 2, none⟩ (.string ⟨#[]⟩)).setCell ⟨w.heap.size, 3, none⟩ (.slice none 0 0)).setCell ⟨w.heap.size, 4, none⟩ (.slice none 0 0) := ⟨_, rfl⟩
    have GF : Hid (w8.grownBy wf (some w.heap.size)) := Lib.hid (by rw [hwf]; exact grownBy_trans (grownBy_trans (grownBy_trans (grownBy_trans (turned w8 w.heap.size 0 _) (turned _ w.heap.size 1 _)) (turned _ w.heap.size 2 _)) (turned _ w.heap.size 3 _)) (turned _ w.heap.size 4 _))
    have RF : Hid (Bk wf w.heap.size 26 #[.int .i64 2, .int .i64 i, .string ⟨#[]⟩, .slice none 0 0, .slice none 0 0]) := Lib.hid (by rw [hwf]; exact ((((R8.out.put 0 _).put 1 _).put 2 _).put 3 _).put 4 _)
    have QF := Lib.hid (Q8.out.grown GF.out (by intro e; injection e with e; exact NE.out.2 e.symm))
    have WF := Lib.hid (W8.out.other R8.out (by decide) (Ne.symm NE.out.1) GF.out)
    have FF : Hid (FrS (Two p q) w wf) := Lib.hid (F8.out.next (S' := fun b => b = w.heap.size) (FrS.of_grown GF.out rfl) (fun i hi e => by omega))
    rw [← hwf]
    refine bodyPost_ret (results_cell_row rfl _ _ w.heap.size 26 _ (0, 0) _ rfl RF.out Try.underlying26 rfl (by kernel_rfl)) rfl ?_
    exact ⟨_, _, _, _, _, _, _, _, _, b + 1, rfl, FF, QF, by omega, Or.inr ⟨e2, l2, Lib.hid rfl, HE2.out, WF⟩⟩

theorem decT_ok {l : List UInt8} (n : Nat) (h1 : (textR l 9223372036854775807).2.2 = 0) (h2 : (textR l 9223372036854775807).1.length ≤ 4096) : decT l n = .ok ⟨(textR l 9223372036854775807).1.toArray⟩ (textR l 9223372036854775807).2.1 n := by
  unfold decT
  rw [if_neg (by rw [h1]; decide), if_pos h2]
theorem decT_long {l : List UInt8} (n : Nat) (h1 : (textR l 9223372036854775807).2.2 = 0) (h2 : ¬ (textR l 9223372036854775807).1.length ≤ 4096) : decT l n = .err 3 := by
  unfold decT
  rw [if_neg (by rw [h1]; decide), if_neg h2]
theorem decT_err {l : List UInt8} (n : Nat) (h1 : (textR l 9223372036854775807).2.2 ≠ 0) : decT l n = .err (textR l 9223372036854775807).2.2 ∧ (textR l 9223372036854775807).1 = [] := by
  unfold decT
  rw [if_pos h1]
  exact ⟨rfl, by rw [textA_err h1]⟩
/-- the state behind a string -/
theorem decT_says {w : World} {p n : Nat} {l : List UInt8} (h : WRd w p (textR l 9223372036854775807).2.1 (reqE (decide ((textR l 9223372036854775807).1.length ≤ 4096)) (textR l 9223372036854775807).2.2)) :
    (∃ s l2, decT l n = .ok s l2 n ∧ s = ⟨(textR l 9223372036854775807).1.toArray⟩ ∧ s.size ≤ 4096 ∧ WRd w p l2 0) ∨ ∃ e l2, decT l n = .err e ∧ e ≠ 0 ∧ WRd w p l2 e := by
  by_cases h1 : (textR l 9223372036854775807).2.2 = 0
  · by_cases h2 : (textR l 9223372036854775807).1.length ≤ 4096
    · rw [decide_eq_true h2, h1] at h
      exact Or.inl ⟨_, _, decT_ok n h1 h2, rfl, by simpa [ByteArray.size] using h2, h⟩
    · rw [decide_eq_false h2, h1] at h
      exact Or.inr ⟨3, _, decT_long n h1 h2, by decide, h⟩
  · have h3 := (decT_err n h1).2
    rw [h3] at h
    exact Or.inr ⟨_, _, (decT_err n h1).1, h1, h⟩

set_option maxRecDepth 100000 in
set_option maxHeartbeats 4000000 in
theorem dv_3 {w : World} {p q b : Nat} {l : List UInt8} {d : Int} {l1 : List UInt8} (hr : WRd w p l 0) (hq : Bk w q 90 #[.pointer (some ⟨p, 0, none⟩), .int .i64 (b : Nat)]) (hb : b ≤ 1000) (hlt : b < 1000) (hdp : d ≤ 16) (hl : l1.length ≤ 4611686018427387904) (hi : intA l = (3, l1, 0)) :
    Calls Try.prog 86 #[.pointer (some ⟨q, 0, none⟩), .int .i64 d] w (DecP WRd 90 (match decT l1 (b + 1) with | .err e => .err e | .ok s l2 n1 => .ok (.mk 3 0 s [] []) l2 n1) p q w) := by
  have t1 : decide (((b : Nat) : Int) < 1000) = true := by rw [decide_eq_true_eq]; omega
  have t2 : decide (d ≤ 16) = true := by rw [decide_eq_true_eq]; omega
  clear hlt hdp
  have HL1 := Lib.hid hl
  clear hl
  obtain ⟨RES, hRES⟩ : ∃ RES : DR VT, RES = (match decT l1 (b + 1) with | .err e => .err e | .ok s l2 n1 => .ok (.mk 3 0 s [] []) l2 n1) := ⟨_, rfl⟩
  rw [← hRES]
  have HRES := Lib.hid hRES
  clear hRES
  obtain ⟨w1, hw1⟩ : ∃ w1, w1 = w.alloc (.cells #[.int .i64 0, .int .i64 0, .string ⟨#[]⟩, .slice none 0 0, .slice none 0 0] 26) := ⟨_, rfl⟩
  have b1 : Below w.heap.size w w1 := by rw [hw1]; exact below_one _ _
  have R1 : Hid (Bk w1 w.heap.size 26 #[.int .i64 0, .int .i64 0, .string ⟨#[]⟩, .slice none 0 0, .slice none 0 0]) := Lib.hid (by rw [hw1]; exact Bk.new _ _ _)
  have W1 := Lib.hid (hr.below b1)
  have Q1 := Lib.hid (hq.below b1 hq.lt)
  have F1 : Hid (FrS (Two p q) w w1) := Lib.hid (FrS.of_below b1)
  have NQ := Lib.hid (hr.dec_ne hq)
  have NE : Hid (w.heap.size ≠ p ∧ w.heap.size ≠ q) := Lib.hid (by have h1 := hr.lt; have h2 := hq.lt; exact ⟨by omega, by omega⟩)
  have HW := Lib.hid hw1
  have c1 := Q1.out.cell 1
  change _ = some (Value.int .i64 (b : Nat)) at c1
  rw [hw1] at c1
  clear hr hq hw1 b1
  go_enter Try.func86, Try.ntmps86
  go_wp2_with fail
  rw [← HW.out]
  refine (wreq_any true W1.out Q1.out).mono ?_
  rintro e1 w2 ⟨rfl, hg, hr2⟩
  have Q2 := Lib.hid (Q1.out.grown hg (by intro e; injection e with e; exact NQ.out e))
  have R2 := Lib.hid (R1.out.grown hg (by intro e; injection e with e; exact NE.out.1 e))
  have F2 := Lib.hid (F1.out.trans (FrS.of_grown hg (Or.inl rfl)))
  have W2 := Lib.hid hr2
  clear hg hr2 c1
  have c1 := Q2.out.cell 1
  change _ = some (Value.int .i64 (b : Nat)) at c1
  have fz := Q2.out.frozen 1
  obtain ⟨w3, hw3⟩ : ∃ w3, w3 = w2.setCell ⟨q, 1, none⟩ (.int .i64 ((b : Nat) + 1)) := ⟨_, rfl⟩
  have g3 : w2.grownBy w3 (some q) := by rw [hw3]; exact turned _ _ _ _
  have Q3 : Hid (Bk w3 q 90 #[.pointer (some ⟨p, 0, none⟩), .int .i64 ((b + 1 : Nat) : Int)]) := Lib.hid (by rw [hw3]; exact Q2.out.put 1 _)
  have R3 := Lib.hid (R2.out.grown g3 (by intro e; injection e with e; exact NE.out.2 e))
  have F3 := Lib.hid (F2.out.trans (FrS.of_grown g3 (Or.inr rfl)))
  have W3 := Lib.hid (W2.out.other Q2.out (by decide) (Ne.symm NQ.out) g3)
  have HW3 := Lib.hid hw3
  clear hw3 g3
  go_wp2_with fail
  rw [← HW3.out]
  refine (wint_k hi W3.out Q3.out).mono ?_
  rintro e1 w4 ⟨rfl, hg, hr4⟩
  have Q4 := Lib.hid (Q3.out.grown hg (by intro e; injection e with e; exact NQ.out e))
  have R4 := Lib.hid (R3.out.grown hg (by intro e; injection e with e; exact NE.out.1 e))
  have F4 := Lib.hid (F3.out.trans (FrS.of_grown hg (Or.inl rfl)))
  have W4 := Lib.hid hr4
  clear hg hr4 c1 fz
  go_wp2_with fail
  refine (wreq_any true W4.out Q4.out).mono ?_
  rintro e1 w5 ⟨rfl, hg, hr5⟩
  have Q5 := Lib.hid (Q4.out.grown hg (by intro e; injection e with e; exact NQ.out e))
  have R5 := Lib.hid (R4.out.grown hg (by intro e; injection e with e; exact NE.out.1 e))
  have F5 := Lib.hid (F4.out.trans (FrS.of_grown hg (Or.inl rfl)))
  have W5 := Lib.hid hr5
  clear hg hr5
  go_upto_region 6 with fail
  obtain ⟨w6, hw6⟩ : ∃ w6, w6 = w5.alloc (.cells #[.int .i64 3, .int .i64 0, .string ⟨#[]⟩, .slice none 0 0, .slice none 0 0] 26) := ⟨_, rfl⟩
  have b6 : Below w5.heap.size w5 w6 := by rw [hw6]; exact below_one _ _
  have V6 : Hid (Bk w6 w5.heap.size 26 #[.int .i64 3, .int .i64 0, .string ⟨#[]⟩, .slice none 0 0, .slice none 0 0]) := Lib.hid (by rw [hw6]; exact Bk.new _ _ _)
  have R6 := Lib.hid (R5.out.below b6 R5.out.lt)
  have Q6 := Lib.hid (Q5.out.below b6 Q5.out.lt)
  have W6 := Lib.hid (W5.out.below b6)
  have F6 : Hid (FrS (Two p q) w w6) := Lib.hid (F5.out.trans (FrS.of_below b6))
  have NG : Hid (w5.heap.size ≠ p) := Lib.hid (by have := W5.out.lt; omega)
  have NG2 : Hid (w5.heap.size ≠ q ∧ w.heap.size < w5.heap.size) := Lib.hid (by have := Q5.out.lt; have := R5.out.lt; exact ⟨by omega, by omega⟩)
  rw [← hw6]
  clear hw6 b6
  have HTX := Lib.hid (wtext_k HL1.out W6.out Q6.out)
  obtain ⟨s, hs⟩ : ∃ s : ByteArray, s = ⟨(textR l1 9223372036854775807).1.toArray⟩ := ⟨_, rfl⟩
  rw [← hs] at HTX
  have HSS := Lib.hid hs
  clear hs
  go_wp2_with fail
  refine (HTX.out).mono ?_
  rintro e1 w7 ⟨rfl, hg, hrr⟩
  have Q7 := Lib.hid (Q6.out.grown hg (by intro e; injection e with e; exact NQ.out e))
  have R7 := Lib.hid (R6.out.grown hg (by intro e; injection e with e; exact NE.out.1 e))
  have F7 := Lib.hid (F6.out.trans (FrS.of_grown hg (Or.inl rfl)))
  have V7 := Lib.hid (V6.out.grown hg (by intro e; injection e with e; exact NG.out e))
  have W7 := Lib.hid hrr
  clear hg hrr
  have v2 := V7.out.cell 2
  have fz := V7.out.frozen 2
  obtain ⟨w8, hw8⟩ : ∃ w8, w8 = w7.setCell ⟨w5.heap.size, 2, none⟩ (.string s) := ⟨_, rfl⟩
  have g8 : w7.grownBy w8 (some w5.heap.size) := by rw [hw8]; exact turned _ _ _ _
  have V8 := Lib.hid (show Bk w8 w5.heap.size 26 _ by rw [hw8]; exact V7.out.put 2 (.string s))
  have Q8 := Lib.hid (Q7.out.grown g8 (by intro e; injection e with e; exact NG2.out.1 e.symm))
  have R8 := Lib.hid (R7.out.grown g8 (by intro e; injection e with e; have := NG2.out.2; omega))
  have F8 : Hid (FrS (Two p q) w w8) := Lib.hid (F7.out.next (S' := fun b => b = w5.heap.size) (FrS.of_grown g8 rfl) (fun i hi e => by have := NG2.out.2; omega))
  have W8 := Lib.hid (W7.out.other V7.out (by decide) (Ne.symm NG.out) g8)
  have HW8 := Lib.hid hw8
  clear hw8 g8
  go_upto_region 17 with fail
  rw [← HW8.out]
  clear v2 fz
  have v0 := V8.out.cell 0
  change _ = some (Value.int .i64 3) at v0
  have v1 := V8.out.cell 1
  change _ = some (Value.int .i64 0) at v1
  have v2 := V8.out.cell 2
  change _ = some (Value.string s) at v2
  have v3 := V8.out.cell 3
  change _ = some (Value.slice none 0 0) at v3
  have v4 := V8.out.cell 4
  change _ = some (Value.slice none 0 0) at v4
  have r0 := R8.out.cell 0
  have r1 := R8.out.cell 1
  have r2 := R8.out.cell 2
  have r3 := R8.out.cell 3
  have r4 := R8.out.cell 4
  have f0 := R8.out.frozen 0
  have f1 := R8.out.frozen 1
  have f2 := R8.out.frozen 2
  have f3 := R8.out.frozen 3
  have f4 := R8.out.frozen 4
  go_wp2
  obtain ⟨wf, hwf⟩ : ∃ wf, wf = ((((w8.setCell ⟨w.heap.size, 0, none⟩ (.int .i64 3)).setCell ⟨w.heap.size, 1, none⟩ (.int .i64 0)).setCell ⟨w.heap.size, 2, none⟩ (.string s)).setCell ⟨w.heap.size, 3, none⟩ (.slice none 0 0)).setCell ⟨w.heap.size, 4, none⟩ (.slice none 0 0) := ⟨_, rfl⟩
  have GF : Hid (w8.grownBy wf (some w.heap.size)) := Lib.hid (by rw [hwf]; exact grownBy_trans (grownBy_trans (grownBy_trans (grownBy_trans (turned w8 w.heap.size 0 _) (turned _ w.heap.size 1 _)) (turned _ w.heap.size 2 _)) (turned _ w.heap.size 3 _)) (turned _ w.heap.size 4 _))
  have RF : Hid (Bk wf w.heap.size 26 #[.int .i64 3, .int .i64 0, .string s, .slice none 0 0, .slice none 0 0]) := Lib.hid (by rw [hwf]; exact ((((R8.out.put 0 _).put 1 _).put 2 _).put 3 _).put 4 _)
  have QF := Lib.hid (Q8.out.grown GF.out (by intro e; injection e with e; exact NE.out.2 e.symm))
  have WF := Lib.hid (W8.out.other R8.out (by decide) (Ne.symm NE.out.1) GF.out)
  have FF : Hid (FrS (Two p q) w wf) := Lib.hid (F8.out.next (S' := fun b => b = w.heap.size) (FrS.of_grown GF.out rfl) (fun i hi e => by omega))
  rw [← hwf]
  refine bodyPost_ret (results_cell_row rfl _ _ w.heap.size 26 _ (0, 0) _ rfl RF.out Try.underlying26 rfl (by kernel_rfl)) rfl ?_
  rcases decT_says (n := b + 1) WF.out with ⟨s2, l2, h1, h2, h3, h4⟩ | ⟨e2, l2, h1, h2, h3⟩
  · have hr := HRES.out
    rw [h1] at hr
    obtain rfl := HSS.out.trans h2.symm
    rw [hr]
    exact ⟨_, _, _, _, _, _, _, _, _, b + 1, rfl, FF, QF, by omega, Or.inl ⟨_, l2, Lib.hid rfl, Lib.hid h4, Lib.hid (leaf_lies (by omega) (by omega) (by omega))⟩⟩
  · have hr := HRES.out
    rw [h1] at hr
    rw [hr]
    exact ⟨_, _, _, _, _, _, _, _, _, b + 1, rfl, FF, QF, by omega, Or.inr ⟨e2, l2, Lib.hid rfl, h2, Lib.hid h3⟩⟩
end Go.Proofs.Ytidinbeanaifmaa
