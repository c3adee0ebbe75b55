/-
  Contract of next, of the code.
-/
import Derived.Test.YtemdcgeopaphaaaDoorKi
namespace Go.Proofs.YtemdcgeopaphaaaDoor
open Go.RowKit

theorem one_of {t : ByteArray} (h1 : 1 ≤ t.size) : oneT t.data.toList = if letT t[0] then wordT t.data.toList else if dgtT t[0] then intT t.data.toList else if t[0] = 34 then litT t.data.toList else signT t.data.toList := by
  have hL := drop_at (t := t) (k := 0) h1
  rw [List.drop_zero] at hL
  have : ∀ l, l = t[0] :: t.data.toList.drop (0 + 1) → oneT l = if letT t[0] then wordT l else if dgtT t[0] then intT l else if t[0] = 34 then litT l else signT l := by
    rintro _ rfl
    rfl
  exact this _ hL
theorem tokV_agg (r : TR) : ∃ a b c d n e, tokV r = .tuple #[.agg #[.int .i64 a, .int .i64 b, .string c, .int .i64 d], .int .i64 n, .int .i64 e] := by
  cases r with
  | ok k t v n => exact ⟨_, _, _, _, _, _, rfl⟩
  | err e => exact ⟨_, _, ⟨#[]⟩, _, _, _, rfl⟩
set_option maxRecDepth 100000 in
set_option maxHeartbeats 4000000 in
theorem next_any (t : ByteArray) (w : World) (h1 : 1 ≤ t.size) (hz : t.size ≤ 1000000) (hE : NStd w) :
    Calls Tryd.prog 23 #[.string t] w (TokR (oneT t.data.toList) w) := by
  obtain ⟨rb, hrb⟩ : ∃ rb, rb = w.heap.size := ⟨_, rfl⟩
  have HE := Lib.hid hE
  have h0n : 0 < t.size := h1
  have HOF := Lib.hid (one_of h1)
  have HFL := Lib.hid (fst_at (p := letT) h1)
  have HFD := Lib.hid (fst_at (p := dgtT) h1)
  have hxl := t[0].toNat_lt
  clear hE
  go_enter Tryd.func23, Tryd.ntmps23
  go_upto_region 1 with (fail)
  obtain ⟨w1, hw1⟩ : ∃ w1, w1 = w.alloc (.cells #[.int .i64 0, .int .i64 0, .string ⟨#[]⟩, .int .i64 0] 30) := ⟨_, rfl⟩
  have K1 : Hid (Bk w1 rb 30 #[.int .i64 0, .int .i64 0, .string ⟨#[]⟩, .int .i64 0]) := Lib.hid (by rw [hw1, hrb]; exact Bk.new _ _ _)
  have B1 : Hid (Below w.heap.size w w1) := Lib.hid (by rw [hw1]; exact (Below.refl _ _).alloc (Nat.le_refl _) _)
  have LB : Hid (w.heap.size ≤ rb) := Lib.hid (by omega)
  change Code.wp _ _ _ _ (w.alloc (.cells #[.int .i64 0, .int .i64 0, .string ⟨#[]⟩, .int .i64 0] 30))
  rw [← hw1, ← hrb]
  clear hw1 hrb
  go_wp2_with fail
  refine (in_any lettersS _).mono ?_
  rintro _ w2 ⟨rfl, hs2, hb2⟩
  have HS := Lib.hid hs2
  have K2 := Lib.hid (K1.out.below hb2 K1.out.lt)
  have B2 := Lib.hid (lnk B1.out hb2)
  clear hs2 hb2
  go_wp2_with fail
  refine (starts_any set_letters t HS.out).mono ?_
  rintro _ w3 ⟨rfl, hd3⟩
  have K3 := Lib.hid (K2.out.below hd3.below K2.out.lt)
  have B3 := Lib.hid (lnk B2.out hd3.below)
  clear hd3
  rw [HFL.out]
  cases hlet : letT t[0] with
  | true =>
    have HR : Hid (oneT t.data.toList = wordT t.data.toList) := Lib.hid (by rw [HOF.out, hlet]; rfl)
    go_wp2_with fail
    refine (word_any t _ hz).mono ?_
    rintro _ w4 ⟨rfl, hb4⟩
    have K4 := Lib.hid (K3.out.below hb4 K3.out.lt)
    have B4 := Lib.hid (lnk B3.out hb4)
    clear hb4
    rw [← HR.out]
    obtain ⟨a, b, c, d, n, e, hv⟩ := tokV_agg (oneT t.data.toList)
    have HV := Lib.hid hv
    rw [hv]
    clear hv
    have f0 := K4.out.frozen 0
    have d0 := K4.out.cell 0
    have f1 := K4.out.frozen 1
    have d1 := K4.out.cell 1
    have f2 := K4.out.frozen 2
    have d2 := K4.out.cell 2
    have f3 := K4.out.frozen 3
    have d3 := K4.out.cell 3
    go_wp2_with fail
    obtain ⟨wf, hwf⟩ : ∃ wf, wf = put4 w4 rb (.int .i64 a) (.int .i64 b) (.string c) (.int .i64 d) := ⟨_, rfl⟩
    have QF : Hid (Bk wf rb 30 #[.int .i64 a, .int .i64 b, .string c, .int .i64 d]) := Lib.hid (by rw [hwf]; exact put4_bk K4.out)
    have FF : Hid (Below w.heap.size w wf) := Lib.hid (by rw [hwf]; exact put4_below B4.out LB.out)
    change bodyPost _ _ _ _ _ (put4 w4 rb (.int .i64 a) (.int .i64 b) (.string c) (.int .i64 d))
    rw [← hwf]
    refine bodyPost_ret (results_tok rfl rfl rfl rfl QF.out) rfl ?_
    exact ⟨congrArg Ending.returned HV.out.symm, FF.out⟩
  | false =>
    go_wp2_with fail
    refine (in_any ⟨#[48, 49, 50, 51, 52, 53, 54, 55, 56, 57]⟩ _).mono ?_
    rintro _ w4 ⟨rfl, hs4, hb4⟩
    have HS4 := Lib.hid hs4
    have K4 := Lib.hid (K3.out.below hb4 K3.out.lt)
    have B4 := Lib.hid (lnk B3.out hb4)
    clear hs4 hb4
    go_wp2_with fail
    refine (starts_any set_digits t HS4.out).mono ?_
    rintro _ w5 ⟨rfl, hd5⟩
    have K5 := Lib.hid (K4.out.below hd5.below K4.out.lt)
    have B5 := Lib.hid (lnk B4.out hd5.below)
    clear hd5 K4 B4 K3 B3
    rw [HFD.out]
    cases hdig : dgtT t[0] with
    | true =>
      have HR : Hid (oneT t.data.toList = intT t.data.toList) := Lib.hid (by rw [HOF.out, hlet, hdig]; rfl)
      go_wp2_with fail
      refine (integer_any t _ h1 hz (HE.out.on B5.out)).mono ?_
      rintro _ w6 ⟨rfl, hb6⟩
      have K4 := Lib.hid (K5.out.below hb6 K5.out.lt)
      have B4 := Lib.hid (lnk B5.out hb6)
      clear hb6
      rw [← HR.out]
      obtain ⟨a, b, c, d, n, e, hv⟩ := tokV_agg (oneT t.data.toList)
      have HV := Lib.hid hv
      rw [hv]
      clear hv
      have f0 := K4.out.frozen 0
      have d0 := K4.out.cell 0
      have f1 := K4.out.frozen 1
      have d1 := K4.out.cell 1
      have f2 := K4.out.frozen 2
      have d2 := K4.out.cell 2
      have f3 := K4.out.frozen 3
      have d3 := K4.out.cell 3
      go_wp2_with fail
      obtain ⟨wf, hwf⟩ : ∃ wf, wf = put4 w6 rb (.int .i64 a) (.int .i64 b) (.string c) (.int .i64 d) := ⟨_, rfl⟩
      have QF : Hid (Bk wf rb 30 #[.int .i64 a, .int .i64 b, .string c, .int .i64 d]) := Lib.hid (by rw [hwf]; exact put4_bk K4.out)
      have FF : Hid (Below w.heap.size w wf) := Lib.hid (by rw [hwf]; exact put4_below B4.out LB.out)
      change bodyPost _ _ _ _ _ (put4 w6 rb (.int .i64 a) (.int .i64 b) (.string c) (.int .i64 d))
      rw [← hwf]
      refine bodyPost_ret (results_tok rfl rfl rfl rfl QF.out) rfl ?_
      exact ⟨congrArg Ending.returned HV.out.symm, FF.out⟩
    | false =>
      by_cases h34 : t[0].toNat = 34
      · have HR : Hid (oneT t.data.toList = litT t.data.toList) := Lib.hid (by rw [HOF.out, hlet, hdig, if_neg (by decide), if_neg (by decide), if_pos (eq_nat.2 h34)])
        have t34 : ((t[0].toNat : Int) == 34) = true := by rw [beq_iff_eq]; omega
        clear h34
        go_wp2_with fail
        refine (literal_any t _ h1 hz).mono ?_
        rintro _ w6 ⟨rfl, hb6⟩
        have K4 := Lib.hid (K5.out.below hb6 K5.out.lt)
        have B4 := Lib.hid (lnk B5.out hb6)
        clear hb6
        rw [← HR.out]
        obtain ⟨a, b, c, d, n, e, hv⟩ := tokV_agg (oneT t.data.toList)
        have HV := Lib.hid hv
        rw [hv]
        clear hv
        have f0 := K4.out.frozen 0
        have d0 := K4.out.cell 0
        have f1 := K4.out.frozen 1
        have d1 := K4.out.cell 1
        have f2 := K4.out.frozen 2
        have d2 := K4.out.cell 2
        have f3 := K4.out.frozen 3
        have d3 := K4.out.cell 3
        go_wp2_with fail
        obtain ⟨wf, hwf⟩ : ∃ wf, wf = put4 w6 rb (.int .i64 a) (.int .i64 b) (.string c) (.int .i64 d) := ⟨_, rfl⟩
        have QF : Hid (Bk wf rb 30 #[.int .i64 a, .int .i64 b, .string c, .int .i64 d]) := Lib.hid (by rw [hwf]; exact put4_bk K4.out)
        have FF : Hid (Below w.heap.size w wf) := Lib.hid (by rw [hwf]; exact put4_below B4.out LB.out)
        change bodyPost _ _ _ _ _ (put4 w6 rb (.int .i64 a) (.int .i64 b) (.string c) (.int .i64 d))
        rw [← hwf]
        refine bodyPost_ret (results_tok rfl rfl rfl rfl QF.out) rfl ?_
        exact ⟨congrArg Ending.returned HV.out.symm, FF.out⟩
      · have HR : Hid (oneT t.data.toList = signT t.data.toList) := Lib.hid (by rw [HOF.out, hlet, hdig, if_neg (by decide), if_neg (by decide), if_neg (fun h => h34 (eq_nat.1 h))])
        have t34 : ((t[0].toNat : Int) == 34) = false := by rw [beq_eq_false_iff_ne]; omega
        clear h34
        go_wp2_with fail
        refine (sign_any t _ h1 hz).mono ?_
        rintro _ w6 ⟨rfl, hb6⟩
        have K4 := Lib.hid (K5.out.below hb6 K5.out.lt)
        have B4 := Lib.hid (lnk B5.out hb6)
        clear hb6
        rw [← HR.out]
        obtain ⟨a, b, c, d, n, e, hv⟩ := tokV_agg (oneT t.data.toList)
        have HV := Lib.hid hv
        rw [hv]
        clear hv
        have f0 := K4.out.frozen 0
        have d0 := K4.out.cell 0
        have f1 := K4.out.frozen 1
        have d1 := K4.out.cell 1
        have f2 := K4.out.frozen 2
        have d2 := K4.out.cell 2
        have f3 := K4.out.frozen 3
        have d3 := K4.out.cell 3
        go_wp2_with fail
        obtain ⟨wf, hwf⟩ : ∃ wf, wf = put4 w6 rb (.int .i64 a) (.int .i64 b) (.string c) (.int .i64 d) := ⟨_, rfl⟩
        have QF : Hid (Bk wf rb 30 #[.int .i64 a, .int .i64 b, .string c, .int .i64 d]) := Lib.hid (by rw [hwf]; exact put4_bk K4.out)
        have FF : Hid (Below w.heap.size w wf) := Lib.hid (by rw [hwf]; exact put4_below B4.out LB.out)
        change bodyPost _ _ _ _ _ (put4 w6 rb (.int .i64 a) (.int .i64 b) (.string c) (.int .i64 d))
        rw [← hwf]
        refine bodyPost_ret (results_tok rfl rfl rfl rfl QF.out) rfl ?_
        exact ⟨congrArg Ending.returned HV.out.symm, FF.out⟩
end Go.Proofs.YtemdcgeopaphaaaDoor
