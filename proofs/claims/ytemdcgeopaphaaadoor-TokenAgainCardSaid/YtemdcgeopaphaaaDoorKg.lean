/-
  Contracts of sign, of the code. (gen_kg.py)
-/
import Derived.Test.YtemdcgeopaphaaaDoorKf
namespace Go.Proofs.YtemdcgeopaphaaaDoor
open Go.RowKit

def eqT (c : UInt8) : Bool := c == 61
theorem signT_of (a : UInt8) (r : List UInt8) : signT (a :: r) = if befT a = true ∧ fst eqT r = true then .ok 5 ((a :: r).take 2) 0 2 else if sgnT a = true then .ok 5 ((a :: r).take 1) 0 1 else .err 3 := by
  cases r with
  | nil =>
    unfold signT fst
    simp
  | cons b r =>
    unfold signT fst eqT
    simp [beq_iff_eq]
theorem fst_drop {p : UInt8 → Bool} {t : ByteArray} : fst p (t.extract 1 t.size).data.toList = fst p (t.data.toList.drop 1) := by rw [ext_from]
theorem lnk {w a b : World} (h : Below w.heap.size w a) (k : Below a.heap.size a b) : Below w.heap.size w b := h.trans (k.mono h.size)
theorem undrew {w a : World} (h : Below w.drew.heap.size w.drew a) : Below w.heap.size w a := (Dr.below (Dr.drew w)).trans (show Below w.heap.size w.drew a from h)
/-- starts with a set that in has just made -/
theorem startsIn {s : ByteArray} {p : UInt8 → Bool} (hS : IsSet s p) (t : ByteArray) {v : Bool} (hv : fst p t.data.toList = v) {b : Nat} {w : World} (hb : SetAt w b s) :
    Calls Tryd.prog 32 #[.string t, setF b] w fun e w' => e = .returned (.bool v) ∧ Below w.heap.size w w' :=
  (starts_any hS t hb).mono fun e w' ⟨h1, h2⟩ => ⟨by rw [h1, hv], h2.below⟩
set_option maxRecDepth 100000 in
set_option maxHeartbeats 600000 in
theorem sign_tt (t : ByteArray) (w : World) (h1 : 1 ≤ t.size) (hz : t.size ≤ 1000000) (b1 : fst befT t.data.toList = true) (b2 : fst eqT (t.data.toList.drop 1) = true) :
    Calls Tryd.prog 36 #[.string t] w (TokR (signT t.data.toList) w) := by
  obtain ⟨rb, hrb⟩ : ∃ rb, rb = w.heap.size := ⟨_, rfl⟩
  have hL := drop_at (t := t) (k := 0) h1
  rw [List.drop_zero] at hL
  have HB1 : Hid (befT t[0] = true) := Lib.hid (by rw [← fst_at (p := befT) h1]; exact b1)
  have HL := Lib.hid hL
  have h1i : (1 : Int) ≤ (t.size : Int) := by omega
  have h1n : ¬ (t.size : Int) < 1 := by omega
  have ST1 := Lib.hid (fun (b : Nat) (V : World) (hb : SetAt V b ⟨#[61, 33, 60, 62]⟩) => startsIn set_before t b1 hb)
  obtain ⟨t1, ht1⟩ : ∃ t1, t.extract 1 t.size = t1 := ⟨_, rfl⟩
  have ST2 := Lib.hid (fun (b : Nat) (V : World) (hb : SetAt V b ⟨#[61]⟩) => startsIn set_equals t1 (ht1 ▸ (fst_drop.trans b2)) hb)
  have HB2 := Lib.hid b2
  have HE : Hid (signT t.data.toList = .ok 5 (t.data.toList.take 2) 0 2) := Lib.hid (by rw [HL.out, signT_of, if_pos ⟨HB1.out, by have := HB2.out; rw [HL.out] at this; exact this⟩])
  have h2 : 1 < t.size := by
    rcases Nat.lt_or_ge 1 t.size with h | h
    · exact h
    · have := HB2.out
      rw [List.drop_of_length_le (by simpa using h)] at this
      cases this
  have h2i : (2 : Int) ≤ (t.size : Int) := by omega
  clear hL b1 b2
  go_enter Tryd.func36, Tryd.ntmps36
  go_upto_region 1 with (fail)
  obtain ⟨w1, hw1⟩ : ∃ w1, w1 = w.alloc (.cells #[.int .i64 0, .int .i64 0, .string ⟨#[]⟩, .int .i64 0] 30) := ⟨_, rfl⟩
  have K1 : Hid (Bk w1 rb 30 #[.int .i64 0, .int .i64 0, .string ⟨#[]⟩, .int .i64 0]) := Lib.hid (by rw [hw1, hrb]; exact Bk.new _ _ _)
  have B1 : Hid (Below w.heap.size w w1) := Lib.hid (by rw [hw1]; exact (Below.refl _ _).alloc (Nat.le_refl _) _)
  have LB : Hid (w.heap.size ≤ rb) := Lib.hid (by omega)
  change Code.wp _ _ _ _ (w.alloc (.cells #[.int .i64 0, .int .i64 0, .string ⟨#[]⟩, .int .i64 0] 30))
  rw [← hw1, ← hrb]
  clear hw1 hrb
  go_upto_region 2 with (fail)
  go_cut [14] from 6 to 24 (fun v wx => v = .bool true ∧ Hid (Below w.heap.size w wx ∧ Bk wx rb 30 #[.int .i64 0, .int .i64 0, .string ⟨#[]⟩, .int .i64 0]))
  case first =>
    first | go_region_law (first
      | (go_simp; go_at_call 22; with_reducible refine (in_lit ⟨#[61, 33, 60, 62]⟩ _).mono ?_; rintro _ wA ⟨bA, rfl, hsA, hbA⟩)
      | (go_simp; go_at_call 32; with_reducible refine (ST1.out _ _ hsA).mono ?_; rintro _ wB ⟨rfl, hbB⟩)
      | (go_simp; go_at_call 22; with_reducible refine (in_lit ⟨#[61]⟩ _).mono ?_; rintro _ wC ⟨bC, rfl, hsC, hbC⟩)
      | (go_simp; go_at_call 32; with_reducible refine (ST2.out _ _ hsC).mono ?_; rintro _ wD ⟨rfl, hbD⟩)) | fail
    all_goals (
      have HF : Hid (Below w1.heap.size w1 wD) := Lib.hid (by first | exact lnk (lnk (lnk hbA hbB) hbC) hbD | exact lnk (lnk (lnk (undrew hbA) hbB) hbC) hbD)
      go_wp2_with fail
      go_meet
      exact ⟨rfl, Lib.hid ⟨lnk B1.out HF.out, K1.out.below HF.out K1.out.lt⟩⟩)
  case rest =>
    obtain ⟨rfl, HC⟩ := hcut
    have B3 := Lib.hid HC.out.1
    have K3 := Lib.hid HC.out.2
    clear HC
    have f0 := K3.out.frozen 0
    have d0 := K3.out.cell 0
    have f1 := K3.out.frozen 1
    have d1 := K3.out.cell 1
    have f2 := K3.out.frozen 2
    have d2 := K3.out.cell 2
    have f3 := K3.out.frozen 3
    have d3 := K3.out.cell 3
    go_wp2_with fail
    obtain ⟨wf, hwf⟩ : ∃ wf, wf = put4 wc rb (.int .i64 5) (.int .i64 0) (.string (t.extract 0 2)) (.int .i64 0) := ⟨_, rfl⟩
    have QF : Hid (Bk wf rb 30 #[.int .i64 5, .int .i64 0, .string (t.extract 0 2), .int .i64 0]) := Lib.hid (by rw [hwf]; exact put4_bk K3.out)
    have FF : Hid (Below w.heap.size w wf) := Lib.hid (by rw [hwf]; exact put4_below B3.out LB.out)
    change bodyPost _ _ _ _ _ (put4 wc rb (.int .i64 5) (.int .i64 0) (.string (t.extract 0 2)) (.int .i64 0))
    rw [← hwf]
    refine bodyPost_ret (results_tok rfl rfl rfl rfl QF.out) rfl ?_
    exact ⟨(by rw [HE.out]; exact congrArg (fun x => Ending.returned (.tuple #[.agg #[.int .i64 5, .int .i64 0, x, .int .i64 0], .int .i64 2, .int .i64 0])) (strV_ext t _)), FF.out⟩
set_option maxRecDepth 100000 in
set_option maxHeartbeats 600000 in
theorem sign_tf (t : ByteArray) (w : World) (h1 : 1 ≤ t.size) (hz : t.size ≤ 1000000) (b1 : fst befT t.data.toList = true) (b2 : fst eqT (t.data.toList.drop 1) = false) :
    Calls Tryd.prog 36 #[.string t] w (TokR (signT t.data.toList) w) := by
  obtain ⟨rb, hrb⟩ : ∃ rb, rb = w.heap.size := ⟨_, rfl⟩
  have hL := drop_at (t := t) (k := 0) h1
  rw [List.drop_zero] at hL
  have HB1 : Hid (befT t[0] = true) := Lib.hid (by rw [← fst_at (p := befT) h1]; exact b1)
  have HL := Lib.hid hL
  have h1i : (1 : Int) ≤ (t.size : Int) := by omega
  have h1n : ¬ (t.size : Int) < 1 := by omega
  have ST1 := Lib.hid (fun (b : Nat) (V : World) (hb : SetAt V b ⟨#[61, 33, 60, 62]⟩) => startsIn set_before t b1 hb)
  obtain ⟨t1, ht1⟩ : ∃ t1, t.extract 1 t.size = t1 := ⟨_, rfl⟩
  have ST2 := Lib.hid (fun (b : Nat) (V : World) (hb : SetAt V b ⟨#[61]⟩) => startsIn set_equals t1 (ht1 ▸ (fst_drop.trans b2)) hb)
  have HB2 := Lib.hid b2
  have HE : Hid (signT t.data.toList = if sgnT t[0] = true then .ok 5 (t.data.toList.take 1) 0 1 else .err 3) := Lib.hid (by rw [HL.out, signT_of, if_neg]; rintro ⟨h, h2⟩; have := HB2.out; rw [HL.out] at this; rw [List.drop_one, List.tail_cons] at this; rw [this] at h2; cases h2)
  have ST3 := Lib.hid (fun (b : Nat) (V : World) (hb : SetAt V b ⟨#[40, 41, 123, 125, 91, 93, 44, 59, 46, 58, 61, 60, 62, 43, 45, 42, 47, 37]⟩) => starts_any set_signs t hb)
  have HF3 := Lib.hid (fst_at (p := sgnT) h1)
  clear hL b1 b2
  go_enter Tryd.func36, Tryd.ntmps36
  go_upto_region 1 with (fail)
  obtain ⟨w1, hw1⟩ : ∃ w1, w1 = w.alloc (.cells #[.int .i64 0, .int .i64 0, .string ⟨#[]⟩, .int .i64 0] 30) := ⟨_, rfl⟩
  have K1 : Hid (Bk w1 rb 30 #[.int .i64 0, .int .i64 0, .string ⟨#[]⟩, .int .i64 0]) := Lib.hid (by rw [hw1, hrb]; exact Bk.new _ _ _)
  have B1 : Hid (Below w.heap.size w w1) := Lib.hid (by rw [hw1]; exact (Below.refl _ _).alloc (Nat.le_refl _) _)
  have LB : Hid (w.heap.size ≤ rb) := Lib.hid (by omega)
  change Code.wp _ _ _ _ (w.alloc (.cells #[.int .i64 0, .int .i64 0, .string ⟨#[]⟩, .int .i64 0] 30))
  rw [← hw1, ← hrb]
  clear hw1 hrb
  go_upto_region 2 with (fail)
  go_cut [14] from 6 to 24 (fun v wx => v = .bool false ∧ Hid (Below w.heap.size w wx ∧ Bk wx rb 30 #[.int .i64 0, .int .i64 0, .string ⟨#[]⟩, .int .i64 0]))
  case first =>
    first | go_region_law (first
      | (go_simp; go_at_call 22; with_reducible refine (in_lit ⟨#[61, 33, 60, 62]⟩ _).mono ?_; rintro _ wA ⟨bA, rfl, hsA, hbA⟩)
      | (go_simp; go_at_call 32; with_reducible refine (ST1.out _ _ hsA).mono ?_; rintro _ wB ⟨rfl, hbB⟩)
      | (go_simp; go_at_call 22; with_reducible refine (in_lit ⟨#[61]⟩ _).mono ?_; rintro _ wC ⟨bC, rfl, hsC, hbC⟩)
      | (go_simp; go_at_call 32; with_reducible refine (ST2.out _ _ hsC).mono ?_; rintro _ wD ⟨rfl, hbD⟩)) | fail
    all_goals (
      have HF : Hid (Below w1.heap.size w1 wD) := Lib.hid (by first | exact lnk (lnk (lnk hbA hbB) hbC) hbD | exact lnk (lnk (lnk (undrew hbA) hbB) hbC) hbD)
      go_wp2_with fail
      go_meet
      exact ⟨rfl, Lib.hid ⟨lnk B1.out HF.out, K1.out.below HF.out K1.out.lt⟩⟩)
  case rest =>
    obtain ⟨rfl, HC⟩ := hcut
    have B3 := Lib.hid HC.out.1
    have K3 := Lib.hid HC.out.2
    clear HC
    cases hs : sgnT t[0] with

    | true =>
      have HE2 : Hid (signT t.data.toList = .ok 5 (t.data.toList.take 1) 0 1) := Lib.hid (by rw [HE.out, if_pos hs])
      have HF2 : Hid (fst sgnT t.data.toList = true) := Lib.hid (HF3.out.trans hs)
      rw [HF2.out] at ST3
      go_wp2_with fail
      refine (in_lit ⟨#[40, 41, 123, 125, 91, 93, 44, 59, 46, 58, 61, 60, 62, 43, 45, 42, 47, 37]⟩ _).mono ?_
      rintro _ w4 ⟨b4, rfl, hs4, hb4⟩
      go_wp2_with fail
      refine (ST3.out _ _ hs4).mono ?_
      rintro _ w5 ⟨rfl, hd5⟩
      have HB4 : Hid (Below wc.heap.size wc w5) := Lib.hid (lnk hb4 hd5.below)
      have B5 := Lib.hid (lnk B3.out HB4.out)
      have K5 := Lib.hid (K3.out.below HB4.out K3.out.lt)
      clear hs4 hb4 hd5
      have f0 := K5.out.frozen 0
      have d0 := K5.out.cell 0
      have f1 := K5.out.frozen 1
      have d1 := K5.out.cell 1
      have f2 := K5.out.frozen 2
      have d2 := K5.out.cell 2
      have f3 := K5.out.frozen 3
      have d3 := K5.out.cell 3
      go_wp2_with fail
      obtain ⟨wf, hwf⟩ : ∃ wf, wf = put4 w5 rb (.int .i64 5) (.int .i64 0) (.string (t.extract 0 1)) (.int .i64 0) := ⟨_, rfl⟩
      have QF : Hid (Bk wf rb 30 #[.int .i64 5, .int .i64 0, .string (t.extract 0 1), .int .i64 0]) := Lib.hid (by rw [hwf]; exact put4_bk K5.out)
      have FF : Hid (Below w.heap.size w wf) := Lib.hid (by rw [hwf]; exact put4_below B5.out LB.out)
      change bodyPost _ _ _ _ _ (put4 w5 rb (.int .i64 5) (.int .i64 0) (.string (t.extract 0 1)) (.int .i64 0))
      rw [← hwf]
      refine bodyPost_ret (results_tok rfl rfl rfl rfl QF.out) rfl ?_
      exact ⟨(by rw [HE2.out]; exact congrArg (fun x => Ending.returned (.tuple #[.agg #[.int .i64 5, .int .i64 0, x, .int .i64 0], .int .i64 1, .int .i64 0])) (strV_ext t _)), FF.out⟩
    | false =>
      have HE2 : Hid (signT t.data.toList = .err 3) := Lib.hid (by rw [HE.out, if_neg (by rw [hs]; decide)])
      have HF2 : Hid (fst sgnT t.data.toList = false) := Lib.hid (HF3.out.trans hs)
      rw [HF2.out] at ST3
      go_wp2_with fail
      refine (in_lit ⟨#[40, 41, 123, 125, 91, 93, 44, 59, 46, 58, 61, 60, 62, 43, 45, 42, 47, 37]⟩ _).mono ?_
      rintro _ w4 ⟨b4, rfl, hs4, hb4⟩
      go_wp2_with fail
      refine (ST3.out _ _ hs4).mono ?_
      rintro _ w5 ⟨rfl, hd5⟩
      have HB4 : Hid (Below wc.heap.size wc w5) := Lib.hid (lnk hb4 hd5.below)
      have B5 := Lib.hid (lnk B3.out HB4.out)
      have K5 := Lib.hid (K3.out.below HB4.out K3.out.lt)
      clear hs4 hb4 hd5
      have f0 := K5.out.frozen 0
      have d0 := K5.out.cell 0
      have f1 := K5.out.frozen 1
      have d1 := K5.out.cell 1
      have f2 := K5.out.frozen 2
      have d2 := K5.out.cell 2
      have f3 := K5.out.frozen 3
      have d3 := K5.out.cell 3
      go_wp2_with fail
      obtain ⟨wf, hwf⟩ : ∃ wf, wf = put4 w5 rb (.int .i64 0) (.int .i64 0) (.string ⟨#[]⟩) (.int .i64 0) := ⟨_, rfl⟩
      have QF : Hid (Bk wf rb 30 #[.int .i64 0, .int .i64 0, .string ⟨#[]⟩, .int .i64 0]) := Lib.hid (by rw [hwf]; exact put4_bk K5.out)
      have FF : Hid (Below w.heap.size w wf) := Lib.hid (by rw [hwf]; exact put4_below B5.out LB.out)
      change bodyPost _ _ _ _ _ (put4 w5 rb (.int .i64 0) (.int .i64 0) (.string ⟨#[]⟩) (.int .i64 0))
      rw [← hwf]
      refine bodyPost_ret (results_tok rfl rfl rfl rfl QF.out) rfl ?_
      exact ⟨ret_tok HE2.out.symm, FF.out⟩
set_option maxRecDepth 100000 in
set_option maxHeartbeats 600000 in
theorem sign_f (t : ByteArray) (w : World) (h1 : 1 ≤ t.size) (hz : t.size ≤ 1000000) (b1 : fst befT t.data.toList = false) :
    Calls Tryd.prog 36 #[.string t] w (TokR (signT t.data.toList) w) := by
  obtain ⟨rb, hrb⟩ : ∃ rb, rb = w.heap.size := ⟨_, rfl⟩
  have hL := drop_at (t := t) (k := 0) h1
  rw [List.drop_zero] at hL
  have HB1 : Hid (befT t[0] = false) := Lib.hid (by rw [← fst_at (p := befT) h1]; exact b1)
  have HL := Lib.hid hL
  have h1i : (1 : Int) ≤ (t.size : Int) := by omega
  have h1n : ¬ (t.size : Int) < 1 := by omega
  have ST1 := Lib.hid (fun (b : Nat) (V : World) (hb : SetAt V b ⟨#[61, 33, 60, 62]⟩) => startsIn set_before t b1 hb)
  have HE : Hid (signT t.data.toList = if sgnT t[0] = true then .ok 5 (t.data.toList.take 1) 0 1 else .err 3) := Lib.hid (by rw [HL.out, signT_of, if_neg]; rintro ⟨h, h2⟩; rw [HB1.out] at h; cases h)
  have ST3 := Lib.hid (fun (b : Nat) (V : World) (hb : SetAt V b ⟨#[40, 41, 123, 125, 91, 93, 44, 59, 46, 58, 61, 60, 62, 43, 45, 42, 47, 37]⟩) => starts_any set_signs t hb)
  have HF3 := Lib.hid (fst_at (p := sgnT) h1)
  clear hL b1
  go_enter Tryd.func36, Tryd.ntmps36
  go_upto_region 1 with (fail)
  obtain ⟨w1, hw1⟩ : ∃ w1, w1 = w.alloc (.cells #[.int .i64 0, .int .i64 0, .string ⟨#[]⟩, .int .i64 0] 30) := ⟨_, rfl⟩
  have K1 : Hid (Bk w1 rb 30 #[.int .i64 0, .int .i64 0, .string ⟨#[]⟩, .int .i64 0]) := Lib.hid (by rw [hw1, hrb]; exact Bk.new _ _ _)
  have B1 : Hid (Below w.heap.size w w1) := Lib.hid (by rw [hw1]; exact (Below.refl _ _).alloc (Nat.le_refl _) _)
  have LB : Hid (w.heap.size ≤ rb) := Lib.hid (by omega)
  change Code.wp _ _ _ _ (w.alloc (.cells #[.int .i64 0, .int .i64 0, .string ⟨#[]⟩, .int .i64 0] 30))
  rw [← hw1, ← hrb]
  clear hw1 hrb
  go_upto_region 2 with (fail)
  go_cut [14] from 6 to 24 (fun v wx => v = .bool false ∧ Hid (Below w.heap.size w wx ∧ Bk wx rb 30 #[.int .i64 0, .int .i64 0, .string ⟨#[]⟩, .int .i64 0]))
  case first =>
    first | go_region_law (first
      | (go_simp; go_at_call 22; with_reducible refine (in_lit ⟨#[61, 33, 60, 62]⟩ _).mono ?_; rintro _ wA ⟨bA, rfl, hsA, hbA⟩)
      | (go_simp; go_at_call 32; with_reducible refine (ST1.out _ _ hsA).mono ?_; rintro _ wB ⟨rfl, hbB⟩)) | fail
    all_goals (
      have HF : Hid (Below w1.heap.size w1 wB) := Lib.hid (by first | exact lnk hbA hbB | exact lnk (undrew hbA) hbB)
      go_wp2_with fail
      go_meet
      exact ⟨rfl, Lib.hid ⟨lnk B1.out HF.out, K1.out.below HF.out K1.out.lt⟩⟩)
  case rest =>
    obtain ⟨rfl, HC⟩ := hcut
    have B3 := Lib.hid HC.out.1
    have K3 := Lib.hid HC.out.2
    clear HC
    cases hs : sgnT t[0] with

    | true =>
      have HE2 : Hid (signT t.data.toList = .ok 5 (t.data.toList.take 1) 0 1) := Lib.hid (by rw [HE.out, if_pos hs])
      have HF2 : Hid (fst sgnT t.data.toList = true) := Lib.hid (HF3.out.trans hs)
      rw [HF2.out] at ST3
      go_wp2_with fail
      refine (in_lit ⟨#[40, 41, 123, 125, 91, 93, 44, 59, 46, 58, 61, 60, 62, 43, 45, 42, 47, 37]⟩ _).mono ?_
      rintro _ w4 ⟨b4, rfl, hs4, hb4⟩
      go_wp2_with fail
      refine (ST3.out _ _ hs4).mono ?_
      rintro _ w5 ⟨rfl, hd5⟩
      have HB4 : Hid (Below wc.heap.size wc w5) := Lib.hid (lnk hb4 hd5.below)
      have B5 := Lib.hid (lnk B3.out HB4.out)
      have K5 := Lib.hid (K3.out.below HB4.out K3.out.lt)
      clear hs4 hb4 hd5
      have f0 := K5.out.frozen 0
      have d0 := K5.out.cell 0
      have f1 := K5.out.frozen 1
      have d1 := K5.out.cell 1
      have f2 := K5.out.frozen 2
      have d2 := K5.out.cell 2
      have f3 := K5.out.frozen 3
      have d3 := K5.out.cell 3
      go_wp2_with fail
      obtain ⟨wf, hwf⟩ : ∃ wf, wf = put4 w5 rb (.int .i64 5) (.int .i64 0) (.string (t.extract 0 1)) (.int .i64 0) := ⟨_, rfl⟩
      have QF : Hid (Bk wf rb 30 #[.int .i64 5, .int .i64 0, .string (t.extract 0 1), .int .i64 0]) := Lib.hid (by rw [hwf]; exact put4_bk K5.out)
      have FF : Hid (Below w.heap.size w wf) := Lib.hid (by rw [hwf]; exact put4_below B5.out LB.out)
      change bodyPost _ _ _ _ _ (put4 w5 rb (.int .i64 5) (.int .i64 0) (.string (t.extract 0 1)) (.int .i64 0))
      rw [← hwf]
      refine bodyPost_ret (results_tok rfl rfl rfl rfl QF.out) rfl ?_
      exact ⟨(by rw [HE2.out]; exact congrArg (fun x => Ending.returned (.tuple #[.agg #[.int .i64 5, .int .i64 0, x, .int .i64 0], .int .i64 1, .int .i64 0])) (strV_ext t _)), FF.out⟩
    | false =>
      have HE2 : Hid (signT t.data.toList = .err 3) := Lib.hid (by rw [HE.out, if_neg (by rw [hs]; decide)])
      have HF2 : Hid (fst sgnT t.data.toList = false) := Lib.hid (HF3.out.trans hs)
      rw [HF2.out] at ST3
      go_wp2_with fail
      refine (in_lit ⟨#[40, 41, 123, 125, 91, 93, 44, 59, 46, 58, 61, 60, 62, 43, 45, 42, 47, 37]⟩ _).mono ?_
      rintro _ w4 ⟨b4, rfl, hs4, hb4⟩
      go_wp2_with fail
      refine (ST3.out _ _ hs4).mono ?_
      rintro _ w5 ⟨rfl, hd5⟩
      have HB4 : Hid (Below wc.heap.size wc w5) := Lib.hid (lnk hb4 hd5.below)
      have B5 := Lib.hid (lnk B3.out HB4.out)
      have K5 := Lib.hid (K3.out.below HB4.out K3.out.lt)
      clear hs4 hb4 hd5
      have f0 := K5.out.frozen 0
      have d0 := K5.out.cell 0
      have f1 := K5.out.frozen 1
      have d1 := K5.out.cell 1
      have f2 := K5.out.frozen 2
      have d2 := K5.out.cell 2
      have f3 := K5.out.frozen 3
      have d3 := K5.out.cell 3
      go_wp2_with fail
      obtain ⟨wf, hwf⟩ : ∃ wf, wf = put4 w5 rb (.int .i64 0) (.int .i64 0) (.string ⟨#[]⟩) (.int .i64 0) := ⟨_, rfl⟩
      have QF : Hid (Bk wf rb 30 #[.int .i64 0, .int .i64 0, .string ⟨#[]⟩, .int .i64 0]) := Lib.hid (by rw [hwf]; exact put4_bk K5.out)
      have FF : Hid (Below w.heap.size w wf) := Lib.hid (by rw [hwf]; exact put4_below B5.out LB.out)
      change bodyPost _ _ _ _ _ (put4 w5 rb (.int .i64 0) (.int .i64 0) (.string ⟨#[]⟩) (.int .i64 0))
      rw [← hwf]
      refine bodyPost_ret (results_tok rfl rfl rfl rfl QF.out) rfl ?_
      exact ⟨ret_tok HE2.out.symm, FF.out⟩
theorem sign_any (t : ByteArray) (w : World) (h1 : 1 ≤ t.size) (hz : t.size ≤ 1000000) : Calls Tryd.prog 36 #[.string t] w (TokR (signT t.data.toList) w) := by
  cases b1 : fst befT t.data.toList with
  | false => exact sign_f t w h1 hz b1
  | true =>
    cases b2 : fst eqT (t.data.toList.drop 1) with
    | true => exact sign_tt t w h1 hz b1 b2
    | false => exact sign_tf t w h1 hz b1 b2
end Go.Proofs.YtemdcgeopaphaaaDoor
