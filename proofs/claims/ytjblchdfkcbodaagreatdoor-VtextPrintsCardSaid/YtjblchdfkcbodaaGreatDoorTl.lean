/-
  The parser's list and pairs. (Written by gen_tl.py.)
-/
import Derived.Test.YtjblchdfkcbodaaGreatDoorTk
namespace Go.Proofs.YtjblchdfkcbodaaGreatDoor
open Go.RowKit

set_option maxRecDepth 100000 in
set_option maxHeartbeats 8000000 in
theorem list_any {w : World} {p : Nat} {s : ByteArray} {d : Int} {k i n : Nat} (hv : ValC k) (hd : d + 1 + (k : Int) = 17) (hd1 : 0 ≤ d) (h : Ps w p s i n) (hE : Ev w p) :
    Calls Tryz.prog 47 #[.pointer (some ⟨p, 0, none⟩), .int .i64 d] w (ValR ((elemsP (elL (valP s.data.toList k)) 93 s.data.toList i ([], n)).bind fun st j => .ok (VT.mk 4 0 ⟨#[]⟩ st.1 [], st.2) j) p s w) := by
  have hmf : ∀ (fn : Fn) (first cap : Array Value) (w : World), (Instr.makeFunc fn first cap).run Tryz.prog w = .ok (.func fn first cap) w := fun _ _ _ _ => rfl
  have HP := Lib.hid h
  have HE := Lib.hid hE
  have HV := Lib.hid hv
  have HD := Lib.hid hd
  clear h hE hv hd
  go_enter Tryz.func47, Tryz.ntmps47
  go_upto_region 2 with (fail)
  obtain ⟨w1, hw1⟩ : ∃ w1, w1 = w.alloc (.cells #[.pointer (some ⟨p, 0, none⟩)] 59) := ⟨_, rfl⟩
  obtain ⟨w2, hw2⟩ : ∃ w2, w2 = w1.alloc (.cells #[.int .i64 d] 3) := ⟨_, rfl⟩
  obtain ⟨w3, hw3⟩ : ∃ w3, w3 = w2.alloc (.cells #[.int .i64 0, .int .i64 0, .string ⟨#[]⟩, .slice none 0 0, .slice none 0 0] 25) := ⟨_, rfl⟩
  obtain ⟨w5, hw5⟩ : ∃ w5, w5 = w3.alloc (.cells #[.int .i64 4, .int .i64 0, .string ⟨#[]⟩, .slice none 0 0, .slice none 0 0] 25) := ⟨_, rfl⟩
  have z1 : w1.heap.size = w.heap.size + 1 := by rw [hw1, World.size_alloc]
  have z2 : w2.heap.size = w.heap.size + 1 + 1 := by rw [hw2, World.size_alloc, z1]
  have z3 : w3.heap.size = w.heap.size + 1 + 1 + 1 := by rw [hw3, World.size_alloc, z2]
  have z5 : w5.heap.size = w.heap.size + 1 + 1 + 1 + 1 := by rw [hw5, World.size_alloc, z3]
  have B5 : Hid (Below w.heap.size w w5) := Lib.hid (by
    rw [hw5, hw3, hw2, hw1]
    exact ((((Below.refl _ _).alloc (Nat.le_refl _) _).alloc (by simp) _).alloc (by simp; omega) _).alloc (by simp; omega) _)
  have KP : Hid (Bk w5 w.heap.size 59 #[.pointer (some ⟨p, 0, none⟩)]) := Lib.hid (by rw [hw5, hw3, hw2, hw1]; exact (((Bk.new w _ _).alloc _).alloc _).alloc _)
  have KD : Hid (Bk w5 (w.heap.size + 1) 3 #[.int .i64 d]) := Lib.hid (by rw [← z1, hw5, hw3, hw2]; exact ((Bk.new w1 _ _).alloc _).alloc _)
  have KR : Hid (Bk w5 (w.heap.size + 1 + 1) 25 #[.int .i64 0, .int .i64 0, .string ⟨#[]⟩, .slice none 0 0, .slice none 0 0]) := Lib.hid (by rw [← z2, hw5, hw3]; exact (Bk.new w2 _ _).alloc _)
  have KV : Hid (Bk w5 (w.heap.size + 1 + 1 + 1) 25 #[.int .i64 4, .int .i64 0, .string ⟨#[]⟩, .slice none 0 0, .slice none 0 0]) := Lib.hid (by rw [← z3, hw5]; exact Bk.new w3 _ _)
  have P5 : Hid (Ps w5 p s i n) := Lib.hid (HP.out.frs (FrS.of_below (S := fun _ => False) B5.out) (fun h => h))
  have E5 : Hid (Ev w5 p) := Lib.hid (HE.out.one (FrS.of_below B5.out))
  have hpw := HP.out.1.lt
  have hg1 : 2 < w.heap.size := by obtain ⟨⟨a, b, h⟩, _⟩ := HE.out; exact World.block_lt_of_cell? w _ h
  have hg2 : 3 < w.heap.size := by obtain ⟨_, ⟨a, b, h⟩, _⟩ := HE.out; exact World.block_lt_of_cell? w _ h
  have LW : Hid (Low w5 p (w.heap.size + 1 + 1 + 1) w.heap.size (w.heap.size + 1)) := Lib.hid ⟨by omega, by omega, by omega, by omega, by omega, by omega, by omega, by omega, by omega, by omega, by omega, by omega, by omega⟩
  have L0 : Hid (LSt w5 p (w.heap.size + 1 + 1 + 1) w.heap.size (w.heap.size + 1) s d ([], n) i w5) := Lib.hid ⟨FrS.refl _ _, P5.out, E5.out, KP.out, KD.out, LW.out, none, 0, [], KV.out, World.ownsRow_nil _ _ _ _, rfl⟩
  have Z5 := Lib.hid z5
  have cp := KP.out.cell 0
  change _ = some (Value.pointer (some ⟨p, 0, none⟩)) at cp
  have HL := Lib.hid (elements_list HV.out HD.out hd1 L0.out rfl)
  rw [← hw1, ← hw2, ← hw3, ← hw5]
  clear hw1 hw2 hw3 hw5 z1 z2 z3 z5 hg1 hg2 hpw
  go_wp2_with fail
  refine (HL.out).mono ?_
  rintro _ w6 (⟨st, j, hr, rfl, hs⟩ | ⟨j, e, hr, rfl, hf⟩)
  · obtain ⟨A, c, cs, q1, q2, q3⟩ := hs.out.row
    have Q1 := Lib.hid q1
    have FW : Hid (FrS (One p) w w6) := Lib.hid ((FrS.of_below (S := One p) B5.out).next hs.out.fr (fun i hi h => by
      rcases h with h | h
      · exact h
      · omega))
    have KR6 := Lib.hid (hs.out.fr.bk KR.out (fun h => by
      rcases h with h | h
      · have := HP.out.1.lt; omega
      · omega))
    have LI := Lib.hid (items_lies q2 q3 rfl (by omega) (K := 4))
    obtain ⟨m, hm⟩ : ∃ m, m = st.1.length := ⟨_, rfl⟩
    rw [← hm] at Q1 LI
    have v0 := Q1.out.cell 0
    have v1 := Q1.out.cell 1
    have v2 := Q1.out.cell 2
    have v3 := Q1.out.cell 3
    have v4 := Q1.out.cell 4
    have d0 := KR6.out.cell 0
    have d1 := KR6.out.cell 1
    have d2 := KR6.out.cell 2
    have d3 := KR6.out.cell 3
    have d4 := KR6.out.cell 4
    have f0 := KR6.out.frozen 0
    have f1 := KR6.out.frozen 1
    have f2 := KR6.out.frozen 2
    have f3 := KR6.out.frozen 3
    have f4 := KR6.out.frozen 4
    clear hm cp q1 q2 q3
    go_wp2
    obtain ⟨wf, hwf⟩ : ∃ wf, wf = put5 w6 (w.heap.size + 1 + 1) 0 (.int .i64 4) (.int .i64 0) (.string ⟨#[]⟩) (.slice A m c) (.slice none 0 0) := ⟨_, rfl⟩
    have QF : Hid (Bk wf (w.heap.size + 1 + 1) 25 #[.int .i64 4, .int .i64 0, .string ⟨#[]⟩, .slice A m c, (.slice none 0 0)]) := Lib.hid (by rw [hwf]; exact put5_bk KR6.out)
    have PF : Hid (Ps wf p s j st.2) := Lib.hid (by rw [hwf]; exact hs.out.ps.bk (put5_bk_far hs.out.ps.1 (by have := HP.out.1.lt; omega)))
    have FF : Hid (FrS (One p) w wf) := Lib.hid (by rw [hwf]; exact frs_put5 FW.out (by omega))
    have LF : Hid (Lies wf (New w wf) (VT.mk 4 0 ⟨#[]⟩ st.1 []) (.agg #[.int .i64 4, .int .i64 0, .string ⟨#[]⟩, .slice A m c, (.slice none 0 0)])) := Lib.hid (by
      rw [hwf]
      exact LI.out.keep (fun q hq => World.cell?_of_block (put5_far (by have := hq.1; have := Z5.out; omega))) (fun b hb => ⟨by have := hb.1; have := Z5.out; omega, by rw [put5_size]; exact hb.2⟩))
    have HRR : Hid ((elemsP (elL (valP s.data.toList k)) 93 s.data.toList i ([], n)).bind (fun st j => PR.ok (VT.mk 4 0 ⟨#[]⟩ st.1 [], st.2) j) = .ok (VT.mk 4 0 ⟨#[]⟩ st.1 [], st.2) j) := Lib.hid (by rw [hr.out]; rfl)
    change bodyPost _ _ _ _ _ (put5 w6 (w.heap.size + 1 + 1) 0 (.int .i64 4) (.int .i64 0) (.string ⟨#[]⟩) (.slice A m c) (.slice none 0 0))
    rw [← hwf]
    refine bodyPost_ret (results_cell_row rfl _ _ (w.heap.size + 1 + 1) 25 _ (0, 0) _ rfl QF.out Tryz.underlying25 rfl (by kernel_rfl)) rfl ?_
    exact .inl ⟨4, 0, ⟨#[]⟩, A, m, c, none, 0, 0, VT.mk 4 0 ⟨#[]⟩ st.1 [], st.2, j, rfl, HRR, LF, PF, FF⟩
  · have HRR : Hid ((elemsP (elL (valP s.data.toList k)) 93 s.data.toList i ([], n)).bind (fun st j => PR.ok (VT.mk 4 0 ⟨#[]⟩ st.1 [], st.2) j) = .err j e) := Lib.hid (by rw [hr.out]; rfl)
    exact ⟨rfl, .inr ⟨j, e, HRR, rfl, Lib.hid ((FrS.of_below (S := One p) B5.out).next hf.out (fun i hi h => by
      rcases h with h | h
      · exact h
      · omega))⟩⟩

set_option maxRecDepth 100000 in
set_option maxHeartbeats 8000000 in
theorem pairs_any {w : World} {p : Nat} {s : ByteArray} {d : Int} {k i n : Nat} (hv : ValC k) (hd : d + 1 + (k : Int) = 17) (hd1 : 0 ≤ d) (h : Ps w p s i n) (hE : Ev w p) :
    Calls Tryz.prog 48 #[.pointer (some ⟨p, 0, none⟩), .int .i64 d] w (ValR ((elemsP (elM s.data.toList (valP s.data.toList k)) 125 s.data.toList i ([], [], n)).bind fun st j => .ok (VT.mk 5 0 ⟨#[]⟩ st.2.1 st.1, st.2.2) j) p s w) := by
  have hmf : ∀ (fn : Fn) (first cap : Array Value) (w : World), (Instr.makeFunc fn first cap).run Tryz.prog w = .ok (.func fn first cap) w := fun _ _ _ _ => rfl
  have HP := Lib.hid h
  have HE := Lib.hid hE
  have HV := Lib.hid hv
  have HD := Lib.hid hd
  clear h hE hv hd
  go_enter Tryz.func48, Tryz.ntmps48
  go_upto_region 2 with (fail)
  obtain ⟨w1, hw1⟩ : ∃ w1, w1 = w.alloc (.cells #[.pointer (some ⟨p, 0, none⟩)] 59) := ⟨_, rfl⟩
  obtain ⟨w2, hw2⟩ : ∃ w2, w2 = w1.alloc (.cells #[.int .i64 d] 3) := ⟨_, rfl⟩
  obtain ⟨w3, hw3⟩ : ∃ w3, w3 = w2.alloc (.cells #[.int .i64 0, .int .i64 0, .string ⟨#[]⟩, .slice none 0 0, .slice none 0 0] 25) := ⟨_, rfl⟩
  obtain ⟨w5, hw5⟩ : ∃ w5, w5 = w3.alloc (.cells #[.int .i64 5, .int .i64 0, .string ⟨#[]⟩, .slice none 0 0, .slice none 0 0] 25) := ⟨_, rfl⟩
  have z1 : w1.heap.size = w.heap.size + 1 := by rw [hw1, World.size_alloc]
  have z2 : w2.heap.size = w.heap.size + 1 + 1 := by rw [hw2, World.size_alloc, z1]
  have z3 : w3.heap.size = w.heap.size + 1 + 1 + 1 := by rw [hw3, World.size_alloc, z2]
  have z5 : w5.heap.size = w.heap.size + 1 + 1 + 1 + 1 := by rw [hw5, World.size_alloc, z3]
  have B5 : Hid (Below w.heap.size w w5) := Lib.hid (by
    rw [hw5, hw3, hw2, hw1]
    exact ((((Below.refl _ _).alloc (Nat.le_refl _) _).alloc (by simp) _).alloc (by simp; omega) _).alloc (by simp; omega) _)
  have KP : Hid (Bk w5 w.heap.size 59 #[.pointer (some ⟨p, 0, none⟩)]) := Lib.hid (by rw [hw5, hw3, hw2, hw1]; exact (((Bk.new w _ _).alloc _).alloc _).alloc _)
  have KD : Hid (Bk w5 (w.heap.size + 1) 3 #[.int .i64 d]) := Lib.hid (by rw [← z1, hw5, hw3, hw2]; exact ((Bk.new w1 _ _).alloc _).alloc _)
  have KR : Hid (Bk w5 (w.heap.size + 1 + 1) 25 #[.int .i64 0, .int .i64 0, .string ⟨#[]⟩, .slice none 0 0, .slice none 0 0]) := Lib.hid (by rw [← z2, hw5, hw3]; exact (Bk.new w2 _ _).alloc _)
  have KV : Hid (Bk w5 (w.heap.size + 1 + 1 + 1) 25 #[.int .i64 5, .int .i64 0, .string ⟨#[]⟩, .slice none 0 0, .slice none 0 0]) := Lib.hid (by rw [← z3, hw5]; exact Bk.new w3 _ _)
  have P5 : Hid (Ps w5 p s i n) := Lib.hid (HP.out.frs (FrS.of_below (S := fun _ => False) B5.out) (fun h => h))
  have E5 : Hid (Ev w5 p) := Lib.hid (HE.out.one (FrS.of_below B5.out))
  have hpw := HP.out.1.lt
  have hg1 : 2 < w.heap.size := by obtain ⟨⟨a, b, h⟩, _⟩ := HE.out; exact World.block_lt_of_cell? w _ h
  have hg2 : 3 < w.heap.size := by obtain ⟨_, ⟨a, b, h⟩, _⟩ := HE.out; exact World.block_lt_of_cell? w _ h
  have LW : Hid (Low w5 p (w.heap.size + 1 + 1 + 1) w.heap.size (w.heap.size + 1)) := Lib.hid ⟨by omega, by omega, by omega, by omega, by omega, by omega, by omega, by omega, by omega, by omega, by omega, by omega, by omega⟩
  have L0 : Hid (MSt w5 p (w.heap.size + 1 + 1 + 1) w.heap.size (w.heap.size + 1) s d ([], [], n) i w5) := Lib.hid ⟨FrS.refl _ _, P5.out, E5.out, KP.out, KD.out, LW.out, rfl, rfl, (fun _ h => by cases h), none, 0, none, 0, [], KV.out, World.ownsRow_nil _ _ _ _, World.ownsRow_nil _ _ _ _, rfl⟩
  have Z5 := Lib.hid z5
  have cp := KP.out.cell 0
  change _ = some (Value.pointer (some ⟨p, 0, none⟩)) at cp
  have HL := Lib.hid (elements_pairs HV.out HD.out hd1 L0.out rfl)
  rw [← hw1, ← hw2, ← hw3, ← hw5]
  clear hw1 hw2 hw3 hw5 z1 z2 z3 z5 hg1 hg2 hpw
  go_wp2_with fail
  refine (HL.out).mono ?_
  rintro _ w6 (⟨st, j, hr, rfl, hs⟩ | ⟨j, e, hr, rfl, hf⟩)
  · obtain ⟨A, c, A2, c2, cs, q1, q2, q3, q4⟩ := hs.out.row
    have Q1 := Lib.hid q1
    have FW : Hid (FrS (One p) w w6) := Lib.hid ((FrS.of_below (S := One p) B5.out).next hs.out.fr (fun i hi h => by
      rcases h with h | h
      · exact h
      · omega))
    have KR6 := Lib.hid (hs.out.fr.bk KR.out (fun h => by
      rcases h with h | h
      · have := HP.out.1.lt; omega
      · omega))
    have LI := Lib.hid (items_liesK q2 q3 q4 rfl hs.out.len hs.out.ksz (by omega) (K := 5))
    obtain ⟨m, hm⟩ : ∃ m, m = st.2.1.length := ⟨_, rfl⟩
    rw [← hm] at Q1 LI
    have v0 := Q1.out.cell 0
    have v1 := Q1.out.cell 1
    have v2 := Q1.out.cell 2
    have v3 := Q1.out.cell 3
    have v4 := Q1.out.cell 4
    have d0 := KR6.out.cell 0
    have d1 := KR6.out.cell 1
    have d2 := KR6.out.cell 2
    have d3 := KR6.out.cell 3
    have d4 := KR6.out.cell 4
    have f0 := KR6.out.frozen 0
    have f1 := KR6.out.frozen 1
    have f2 := KR6.out.frozen 2
    have f3 := KR6.out.frozen 3
    have f4 := KR6.out.frozen 4
    clear hm cp q1 q2 q3 q4
    go_wp2
    obtain ⟨wf, hwf⟩ : ∃ wf, wf = put5 w6 (w.heap.size + 1 + 1) 0 (.int .i64 5) (.int .i64 0) (.string ⟨#[]⟩) (.slice A m c) (.slice A2 m c2) := ⟨_, rfl⟩
    have QF : Hid (Bk wf (w.heap.size + 1 + 1) 25 #[.int .i64 5, .int .i64 0, .string ⟨#[]⟩, .slice A m c, (.slice A2 m c2)]) := Lib.hid (by rw [hwf]; exact put5_bk KR6.out)
    have PF : Hid (Ps wf p s j st.2.2) := Lib.hid (by rw [hwf]; exact hs.out.ps.bk (put5_bk_far hs.out.ps.1 (by have := HP.out.1.lt; omega)))
    have FF : Hid (FrS (One p) w wf) := Lib.hid (by rw [hwf]; exact frs_put5 FW.out (by omega))
    have LF : Hid (Lies wf (New w wf) (VT.mk 5 0 ⟨#[]⟩ st.2.1 st.1) (.agg #[.int .i64 5, .int .i64 0, .string ⟨#[]⟩, .slice A m c, (.slice A2 m c2)])) := Lib.hid (by
      rw [hwf]
      exact LI.out.keep (fun q hq => World.cell?_of_block (put5_far (by have := hq.1; have := Z5.out; omega))) (fun b hb => ⟨by have := hb.1; have := Z5.out; omega, by rw [put5_size]; exact hb.2⟩))
    have HRR : Hid ((elemsP (elM s.data.toList (valP s.data.toList k)) 125 s.data.toList i ([], [], n)).bind (fun st j => PR.ok (VT.mk 5 0 ⟨#[]⟩ st.2.1 st.1, st.2.2) j) = .ok (VT.mk 5 0 ⟨#[]⟩ st.2.1 st.1, st.2.2) j) := Lib.hid (by rw [hr.out]; rfl)
    change bodyPost _ _ _ _ _ (put5 w6 (w.heap.size + 1 + 1) 0 (.int .i64 5) (.int .i64 0) (.string ⟨#[]⟩) (.slice A m c) (.slice A2 m c2))
    rw [← hwf]
    refine bodyPost_ret (results_cell_row rfl _ _ (w.heap.size + 1 + 1) 25 _ (0, 0) _ rfl QF.out Tryz.underlying25 rfl (by kernel_rfl)) rfl ?_
    exact .inl ⟨5, 0, ⟨#[]⟩, A, m, c, A2, m, c2, VT.mk 5 0 ⟨#[]⟩ st.2.1 st.1, st.2.2, j, rfl, HRR, LF, PF, FF⟩
  · have HRR : Hid ((elemsP (elM s.data.toList (valP s.data.toList k)) 125 s.data.toList i ([], [], n)).bind (fun st j => PR.ok (VT.mk 5 0 ⟨#[]⟩ st.2.1 st.1, st.2.2) j) = .err j e) := Lib.hid (by rw [hr.out]; rfl)
    exact ⟨rfl, .inr ⟨j, e, HRR, rfl, Lib.hid ((FrS.of_below (S := One p) B5.out).next hf.out (fun i hi h => by
      rcases h with h | h
      · exact h
      · omega))⟩⟩
end Go.Proofs.YtjblchdfkcbodaaGreatDoor
