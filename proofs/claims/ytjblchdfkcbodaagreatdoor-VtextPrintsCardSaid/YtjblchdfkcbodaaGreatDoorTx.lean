/-
  Parse of the code.
-/
import Derived.Test.YtjblchdfkcbodaaGreatDoorTw
namespace Go.Proofs.YtjblchdfkcbodaaGreatDoor
open Go.RowKit

/-- what Parse hands back -/
def ParR (r : PR VT) (w : World) (e : Ending) (w' : World) : Prop :=
  Below w.heap.size w w' ∧ ((∃ (k i : Int) (t : ByteArray) (A : Option Addr) (m c : Nat) (A' : Option Addr) (m' c' : Nat) (x : VT) (j : Nat), e = .returned (.tuple #[.agg #[.int .i64 k, .int .i64 i, .string t, .slice A m c, .slice A' m' c'], .int .i64 0, .int .i64 0]) ∧
    Hid (r = .ok x j) ∧ Hid (Lies w' (New w w') x (.agg #[.int .i64 k, .int .i64 i, .string t, .slice A m c, .slice A' m' c']))) ∨
  ∃ (j : Nat) (c : Int), Hid (r = .err j c) ∧ e = .returned (.tuple #[.agg #[.int .i64 0, .int .i64 0, .string ⟨#[]⟩, .slice none 0 0, .slice none 0 0], .int .i64 (j : Nat), .int .i64 c]))

set_option maxRecDepth 100000 in
set_option maxHeartbeats 2000000 in
theorem results_parse {w : World} {tmps : Array Value} {q0 q1 q2 : Nat} {a b c d e x y : Value} (h2 : tmps.getD 2 undef = .pointer (some ⟨q0, 0, none⟩)) (h3 : tmps.getD 3 undef = .pointer (some ⟨q1, 0, none⟩)) (h4 : tmps.getD 4 undef = .pointer (some ⟨q2, 0, none⟩))
    (hq0 : Bk w q0 25 #[a, b, c, d, e]) (hq1 : Bk w q1 3 #[x]) (hq2 : Bk w q2 28 #[y]) :
    (results Tryz.f13 tmps).run Tryz.prog w = .ok (.tuple #[.agg #[a, b, c, d, e], x, y]) w := by
  have e0 := run_loadVar_row (P := Tryz.prog) w q0 25 25 #[a, b, c, d, e] (0, 0) _ hq0 Tryz.underlying25 rfl (by kernel_rfl)
  have c1 := hq1.cell 0
  have c2 := hq2.cell 0
  change _ = some x at c1
  change _ = some y at c2
  simp only [Array.getD_eq_getD_getElem?] at h2 h3 h4
  have e1 : (loadVar 3 ⟨q1, 0, none⟩).run Tryz.prog w = .ok x w := by simp [go_sem, c1]
  have e2 : (loadVar 28 ⟨q2, 0, none⟩).run Tryz.prog w = .ok y w := by simp [go_sem, c2]
  simp [results, h2, h3, h4, asAddr, e0, e1, e2]

set_option maxRecDepth 100000 in
set_option maxHeartbeats 8000000 in
theorem Parse_any (s : ByteArray) (w : World) (hs : s.size ≤ 1000000) (hE : Ev w w.heap.size) :
    Calls Tryz.prog 13 #[.string s] w (ParR (parP s.data.toList) w) := by
  have hmf : ∀ (fn : Fn) (first cap : Array Value) (w : World), (Instr.makeFunc fn first cap).run Tryz.prog w = .ok (.func fn first cap) w := fun _ _ _ _ => rfl
  have HE := Lib.hid hE
  clear hE
  go_enter_defers Tryz.func13, Tryz.ntmps13
  go_wp2_with fail
  obtain ⟨w1, hw1⟩ : ∃ w1, w1 = w.alloc (.cells #[.int .i64 0, .int .i64 0, .string ⟨#[]⟩, .slice none 0 0, .slice none 0 0] 25) := ⟨_, rfl⟩
  obtain ⟨w2, hw2⟩ : ∃ w2, w2 = w1.alloc (.cells #[.int .i64 0] 3) := ⟨_, rfl⟩
  obtain ⟨w3, hw3⟩ : ∃ w3, w3 = w2.alloc (.cells #[.int .i64 0] 28) := ⟨_, rfl⟩
  obtain ⟨w5, hw5⟩ : ∃ w5, w5 = w3.alloc (.cells #[.string s, .int .i64 0, .int .i64 0] 48) := ⟨_, rfl⟩
  have z1 : w1.heap.size = w.heap.size + 1 := by rw [hw1, World.size_alloc]
  have z2 : w2.heap.size = w.heap.size + 1 + 1 := by rw [hw2, World.size_alloc, z1]
  have z3 : w3.heap.size = w.heap.size + 1 + 1 + 1 := by rw [hw3, World.size_alloc, z2]
  have z5 : w5.heap.size = w.heap.size + 1 + 1 + 1 + 1 := by rw [hw5, World.size_alloc, z3]
  have B5 : Hid (Below w.heap.size w w5) := Lib.hid (by
    rw [hw5, hw3, hw2, hw1]
    exact ((((Below.refl _ _).alloc (Nat.le_refl _) _).alloc (by simp) _).alloc (by simp; omega) _).alloc (by simp; omega) _)
  have K0 : Hid (Bk w5 w.heap.size 25 #[.int .i64 0, .int .i64 0, .string ⟨#[]⟩, .slice none 0 0, .slice none 0 0]) := Lib.hid (by rw [hw5, hw3, hw2, hw1]; exact (((Bk.new w _ _).alloc _).alloc _).alloc _)
  have K1 : Hid (Bk w5 (w.heap.size + 1) 3 #[.int .i64 0]) := Lib.hid (by rw [← z1, hw5, hw3, hw2]; exact ((Bk.new w1 _ _).alloc _).alloc _)
  have K2 : Hid (Bk w5 (w.heap.size + 1 + 1) 28 #[.int .i64 0]) := Lib.hid (by rw [← z2, hw5, hw3]; exact (Bk.new w2 _ _).alloc _)
  have KP : Hid (Bk w5 (w.heap.size + 1 + 1 + 1) 48 #[.string s, .int .i64 0, .int .i64 0]) := Lib.hid (by rw [← z3, hw5]; exact Bk.new w3 _ _)
  have P5 : Hid (Ps w5 (w.heap.size + 1 + 1 + 1) s 0 0) := Lib.hid ⟨KP.out, Nat.zero_le _, hs, by omega⟩
  have hg1 : 2 < w.heap.size := by obtain ⟨⟨a, b, h⟩, _⟩ := HE.out; exact World.block_lt_of_cell? w _ h
  have hg2 : 3 < w.heap.size := by obtain ⟨_, ⟨a, b, h⟩, _⟩ := HE.out; exact World.block_lt_of_cell? w _ h
  have E5 : Hid (Ev w5 (w.heap.size + 1 + 1 + 1)) := Lib.hid (by
    obtain ⟨⟨a, b, h1⟩, ⟨a2, b2, h2⟩, _⟩ := HE.out
    exact ⟨⟨a, b, (B5.out.cell (p := ⟨_, 0, none⟩) hg1).trans h1⟩, ⟨a2, b2, (B5.out.cell (p := ⟨_, 0, none⟩) hg2).trans h2⟩, by omega, by omega⟩)
  have Z5 := Lib.hid z5
  rw [← hw1, ← hw2, ← hw3, ← hw5]
  clear hw1 hw2 hw3 hw5 z1 z2 z3 z5 hg1 hg2
  refine (value_any 16 w5 (w.heap.size + 1 + 1 + 1) s 0 0 1 (by omega) (by omega) P5.out E5.out).mono ?_
  rintro _ w6 (⟨k5, i5, t5, A5, m5, c5, A6, m6, c6, x, n5, j5, rfl, hr5, hl5, hp5, hf5⟩ | ⟨j5, e5, hr5, rfl, hf5⟩)
  · have ne0 : w.heap.size ≠ w.heap.size + 1 + 1 + 1 := by omega
    have L0 := Lib.hid (hf5.out.bk K0.out (fun e => by have e2 : w.heap.size = w.heap.size + 1 + 1 + 1 := e; omega))
    have L1 := Lib.hid (hf5.out.bk K1.out (fun e => by have e2 : w.heap.size + 1 = w.heap.size + 1 + 1 + 1 := e; omega))
    have L2 := Lib.hid (hf5.out.bk K2.out (fun e => by have e2 : w.heap.size + 1 + 1 = w.heap.size + 1 + 1 + 1 := e; omega))
    have d0 := L0.out.cell 0
    have d1 := L0.out.cell 1
    have d2 := L0.out.cell 2
    have d3 := L0.out.cell 3
    have d4 := L0.out.cell 4
    have f0 := L0.out.frozen 0
    have f1 := L0.out.frozen 1
    have f2 := L0.out.frozen 2
    have f3 := L0.out.frozen 3
    have f4 := L0.out.frozen 4
    go_upto_region 4 with (fail)
    obtain ⟨w7, hw7⟩ : ∃ w7, w7 = put5 w6 w.heap.size 0 (.int .i64 k5) (.int .i64 i5) (.string t5) (.slice A5 m5 c5) (.slice A6 m6 c6) := ⟨_, rfl⟩
    have M0 : Hid (Bk w7 w.heap.size 25 #[.int .i64 k5, .int .i64 i5, .string t5, .slice A5 m5 c5, .slice A6 m6 c6]) := Lib.hid (by rw [hw7]; exact put5_bk L0.out)
    have M1 := Lib.hid (put5_bk_far (g := w.heap.size) (o := 0) (a := .int .i64 k5) (b := .int .i64 i5) (c := .string t5) (d := .slice A5 m5 c5) (e := .slice A6 m6 c6) L1.out (by omega))
    have M2 := Lib.hid (put5_bk_far (g := w.heap.size) (o := 0) (a := .int .i64 k5) (b := .int .i64 i5) (c := .string t5) (d := .slice A5 m5 c5) (e := .slice A6 m6 c6) L2.out (by omega))
    have P7 : Hid (Ps w7 (w.heap.size + 1 + 1 + 1) s j5 n5) := Lib.hid (by rw [hw7]; exact hp5.out.bk (put5_bk_far hp5.out.1 (by omega)))
    have Z6 := Lib.hid hf5.out.size
    have LX7 : Hid (Lies w7 (New w5 w7) x (.agg #[.int .i64 k5, .int .i64 i5, .string t5, .slice A5 m5 c5, .slice A6 m6 c6])) := Lib.hid (by
      rw [hw7]
      exact hl5.out.keep (fun q hq => World.cell?_of_block (put5_far (by have := hq.1; have := Z5.out; omega))) (fun b hb => ⟨hb.1, by rw [put5_size]; exact hb.2⟩))
    have F7 : Hid (FrS (fun b => w.heap.size ≤ b) w w7) := Lib.hid (by
      rw [hw7]
      exact ((FrS.of_below (S := fun b => w.heap.size ≤ b) B5.out).next hf5.out (fun i _ h => by have e2 : i = w.heap.size + 1 + 1 + 1 := h; omega)).trans (frs_put5S (Nat.le_refl _)))
    rw [← hw7] at M1 M2
    change Code.wp _ _ _ _ (put5 w6 w.heap.size 0 (.int .i64 k5) (.int .i64 i5) (.string t5) (.slice A5 m5 c5) (.slice A6 m6 c6))
    rw [← hw7]
    clear hw7 d0 d1 d2 d3 d4 f0 f1 f2 f3 f4 ne0
    go_wp2_with fail
    refine (blanks_any P7.out).mono ?_
    rintro _ w8 ⟨rfl, hp8, hf8⟩
    have P8 := Lib.hid hp8
    have N0 := Lib.hid (hf8.bk M0.out (fun e => by have e2 : w.heap.size = w.heap.size + 1 + 1 + 1 := e; omega))
    have N1 := Lib.hid (hf8.bk M1.out (fun e => by have e2 : w.heap.size + 1 = w.heap.size + 1 + 1 + 1 := e; omega))
    have N2 := Lib.hid (hf8.bk M2.out (fun e => by have e2 : w.heap.size + 1 + 1 = w.heap.size + 1 + 1 + 1 := e; omega))
    have F8 : Hid (FrS (fun b => w.heap.size ≤ b) w w8) := Lib.hid (F7.out.next hf8 (fun i _ h => by have e2 : i = w.heap.size + 1 + 1 + 1 := h; omega))
    have LX8 : Hid (Lies w8 (New w5 w8) x (.agg #[.int .i64 k5, .int .i64 i5, .string t5, .slice A5 m5 c5, .slice A6 m6 c6])) := Lib.hid (LX7.out.keep (fun q hq => hf8.cell hq.2 (fun e => by have e2 : q.block = w.heap.size + 1 + 1 + 1 := e; have := hq.1; have := Z5.out; omega)) (fun b hb => ⟨hb.1, Nat.lt_of_lt_of_le hb.2 hf8.size⟩))
    have c1 := P8.out.1.cell 1
    have HPR : Hid (parP s.data.toList = if skip s.data.toList j5 = s.data.toList.length then .ok x (skip s.data.toList j5) else .err (skip s.data.toList j5) 3) := Lib.hid (by unfold parP; rw [hr5.out]; rfl)
    clear hp8 hf8
    go_wp2_with fail
    refine (require_any _ _ (skip s.data.toList j5) 3 _).mono ?_
    rintro _ _ (⟨hb, rfl, rfl⟩ | ⟨hb, rfl, rfl⟩)
    · have HEQ : Hid (parP s.data.toList = .ok x (skip s.data.toList j5)) := Lib.hid (by rw [HPR.out, if_pos (by rw [list_len]; have := beq_iff_eq.1 hb; omega)])
      have d0 := N0.out.cell 0
      have d1 := N0.out.cell 1
      have d2 := N0.out.cell 2
      have d3 := N0.out.cell 3
      have d4 := N0.out.cell 4
      have f0 := N0.out.frozen 0
      have f1 := N0.out.frozen 1
      have f2 := N0.out.frozen 2
      have f3 := N0.out.frozen 3
      have f4 := N0.out.frozen 4
      have d10 := N1.out.cell 0
      have d20 := N2.out.cell 0
      have f10 := N1.out.frozen 0
      have f20 := N2.out.frozen 0
      clear hb c1
      go_wp2
      obtain ⟨w9, hw9⟩ : ∃ w9, w9 = ((put5 w8 w.heap.size 0 (.int .i64 k5) (.int .i64 i5) (.string t5) (.slice A5 m5 c5) (.slice A6 m6 c6)).setCell ⟨w.heap.size + 1, 0, none⟩ (.int .i64 0)).setCell ⟨w.heap.size + 1 + 1, 0, none⟩ (.int .i64 0) := ⟨_, rfl⟩
      have O0 : Hid (Bk w9 w.heap.size 25 #[.int .i64 k5, .int .i64 i5, .string t5, .slice A5 m5 c5, .slice A6 m6 c6]) := Lib.hid (by rw [hw9]; exact ((put5_bk N0.out).far (p := ⟨w.heap.size + 1, 0, none⟩) (by show w.heap.size ≠ w.heap.size + 1; omega) _).far (p := ⟨w.heap.size + 1 + 1, 0, none⟩) (by show w.heap.size ≠ w.heap.size + 1 + 1; omega) _)
      have O1 : Hid (Bk w9 (w.heap.size + 1) 3 #[.int .i64 0]) := Lib.hid (by rw [hw9]; exact ((put5_bk_far N1.out (by omega)).put 0 (.int .i64 0)).far (p := ⟨w.heap.size + 1 + 1, 0, none⟩) (by show w.heap.size + 1 ≠ w.heap.size + 1 + 1; omega) _)
      have O2 : Hid (Bk w9 (w.heap.size + 1 + 1) 28 #[.int .i64 0]) := Lib.hid (by rw [hw9]; exact ((put5_bk_far N2.out (by omega)).far (p := ⟨w.heap.size + 1, 0, none⟩) (by show w.heap.size + 1 + 1 ≠ w.heap.size + 1; omega) _).put 0 (.int .i64 0))
      have F89 : Hid (FrS (Three w.heap.size (w.heap.size + 1) (w.heap.size + 1 + 1)) w8 w9) := Lib.hid (by
        rw [hw9]
        exact ((frs_put5S (.inl rfl)).trans (FrS.of_grown (turned _ (w.heap.size + 1) 0 _) (.inr (.inl rfl)))).trans (FrS.of_grown (turned _ (w.heap.size + 1 + 1) 0 _) (.inr (.inr rfl))))
      change bodyPostD _ _ _ _ _ (((put5 w8 w.heap.size 0 (.int .i64 k5) (.int .i64 i5) (.string t5) (.slice A5 m5 c5) (.slice A6 m6 c6)).setCell ⟨w.heap.size + 1, 0, none⟩ (.int .i64 0)).setCell ⟨w.heap.size + 1 + 1, 0, none⟩ (.int .i64 0))
      rw [← hw9]
      clear hw9 d0 d1 d2 d3 d4 f0 f1 f2 f3 f4 d10 d20 f10 f20
      refine leaves_cons (f := 22) (args := #[.pointer (some ⟨w.heap.size, 0, none⟩), .pointer (some ⟨w.heap.size + 1, 0, none⟩), .pointer (some ⟨w.heap.size + 1 + 1, 0, none⟩)]) (by simp) (by simp [go_sem]) ?_
      refine (catch_idle (w.heap.size) (w.heap.size + 1) (w.heap.size + 1 + 1) _).mono ?_
      rintro e u' w'' ⟨rfl, rfl, hb⟩
      refine ⟨_, results_parse rfl rfl rfl (O0.out.below hb O0.out.lt) (O1.out.below hb O1.out.lt) (O2.out.below hb O2.out.lt), ?_⟩
      have FZ : FrS (fun b => w.heap.size ≤ b) w w'' := (F8.out.next F89.out (fun i _ h => by rcases h with h | h | h <;> omega)).trans (FrS.of_below hb)
      refine ⟨FZ.below (Nat.le_refl _) (fun b hb => hb), .inl ⟨_, _, _, _, _, _, _, _, _, x, _, rfl, HEQ, Lib.hid (LX8.out.keep (fun q hq => ?_) (fun b hb1 => ?_))⟩⟩
      · have h1 := hq.1
        have h2 := Z5.out
        exact (hb.cell (Nat.lt_of_lt_of_le hq.2 F89.out.size)).trans (F89.out.cell hq.2 (fun h => by rcases h with h | h | h <;> omega))
      · have h1 := hb1.1
        have h2 := Z5.out
        exact ⟨by omega, Nat.lt_of_lt_of_le hb1.2 (Nat.le_trans F89.out.size hb.size)⟩
    · have HEQ : Hid (parP s.data.toList = .err (skip s.data.toList j5) 3) := Lib.hid (by rw [HPR.out, if_neg (by rw [list_len]; intro e; have := beq_eq_false_iff_ne.1 hb; omega)])
      refine leaves_cons (f := 22) (args := #[.pointer (some ⟨w.heap.size, 0, none⟩), .pointer (some ⟨w.heap.size + 1, 0, none⟩), .pointer (some ⟨w.heap.size + 1 + 1, 0, none⟩)]) (by simp) (by simp [go_sem]) ?_
      refine (catch_fault (w.heap.size) (w.heap.size + 1) (w.heap.size + 1 + 1) _ 3 _ _ _ _ _ _ _ _ (by omega) (by omega) (by omega) N0.out N1.out N2.out).mono ?_
      rintro e u' w'' ⟨rfl, rfl, hc⟩
      refine ⟨_, results_parse rfl rfl rfl hc.1 hc.2.1 hc.2.2.1, ?_⟩
      refine ⟨?_, .inr ⟨_, 3, HEQ, rfl⟩⟩
      exact (F8.out.next hc.2.2.2 (fun i _ h => by rcases h with h | h | h <;> omega)).below (Nat.le_refl _) (fun b hb => hb)
  · have L0 := Lib.hid (hf5.out.bk K0.out (fun e => by have e2 : w.heap.size = w.heap.size + 1 + 1 + 1 := e; omega))
    have L1 := Lib.hid (hf5.out.bk K1.out (fun e => by have e2 : w.heap.size + 1 = w.heap.size + 1 + 1 + 1 := e; omega))
    have L2 := Lib.hid (hf5.out.bk K2.out (fun e => by have e2 : w.heap.size + 1 + 1 = w.heap.size + 1 + 1 + 1 := e; omega))
    refine leaves_cons (f := 22) (args := #[.pointer (some ⟨w.heap.size, 0, none⟩), .pointer (some ⟨w.heap.size + 1, 0, none⟩), .pointer (some ⟨w.heap.size + 1 + 1, 0, none⟩)]) (by simp) (by simp [go_sem]) ?_
    refine (catch_fault (w.heap.size) (w.heap.size + 1) (w.heap.size + 1 + 1) j5 e5 _ _ _ _ _ _ _ _ (by omega) (by omega) (by omega) L0.out L1.out L2.out).mono ?_
    rintro e u' w'' ⟨rfl, rfl, hc⟩
    refine ⟨_, results_parse rfl rfl rfl hc.1 hc.2.1 hc.2.2.1, ?_⟩
    refine ⟨?_, .inr ⟨j5, e5, Lib.hid (by unfold parP; rw [hr5.out]; rfl), rfl⟩⟩
    exact ((FrS.of_below (S := fun b => w.heap.size ≤ b) B5.out).next hf5.out (fun i _ h => by have e2 : i = w.heap.size + 1 + 1 + 1 := h; omega)).next hc.2.2.2 (fun i _ h => by rcases h with h | h | h <;> omega) |>.below (Nat.le_refl _) (fun b hb => hb)
end Go.Proofs.YtjblchdfkcbodaaGreatDoor
