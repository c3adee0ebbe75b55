/-
  Contract of integer, of the code. (gen_kh.py)
-/
import Derived.Test.YtemdcgeopaphaaaDoorKg
import Derived.Below
import Derived.Lib.AppendIntMem
namespace Go.Proofs.YtemdcgeopaphaaaDoor
open Go.RowKit Go.Sort

/-- the world has what the scanner reads of strconv -/
structure NStd (w : World) : Prop where
  es : ∃ a b, w.cell? ⟨2, 0, none⟩ = some (.iface a b)
  er : ∃ a b, w.cell? ⟨3, 0, none⟩ = some (.iface a b)
  tab : Lib.TabBelow Tryd.prog w.heap.size w "internal/strconv.uint64pow10" .u64 Lib.pow10Tab
theorem NStd.on {w w' : World} (h : NStd w) (hb : Below w.heap.size w w') : NStd w' := by
  obtain ⟨⟨a, b, h1⟩, ⟨c, d, h2⟩, h3⟩ := h
  exact ⟨⟨a, b, by rw [hb.cell (World.block_lt_of_cell? w _ h1)]; exact h1⟩, ⟨c, d, by rw [hb.cell (World.block_lt_of_cell? w _ h2)]; exact h2⟩, fun W hW => h3 W (hb.trans (hW.mono hb.size))⟩
/-- Atoi's end as one pair: the number (or what stands beside an error), the error -/
def AtoiP (l : List UInt8) (z : Int) (ev : Value) : Prop := (Lib.atoiAll l = .ok z ∧ ev = .nilIface) ∨ ((∀ x, Lib.atoiAll l ≠ .ok x) ∧ ∃ T N, ev = .iface T (.pointer (some ⟨N, 0, none⟩)))
theorem atoi_any {w : World} (t : ByteArray) (ht : t.size ≤ 1000000) (hE : NStd w) :
    Calls Tryd.prog 48 #[.string t] w fun e w' => Below w.heap.size w w' ∧ ∃ z ev, AtoiP t.data.toList z ev ∧ e = .returned (.tuple #[.int .i64 z, ev]) := by
  obtain ⟨⟨a, b, h1⟩, ⟨c, d, h2⟩, _⟩ := hE
  unfold AtoiP
  cases hA : Lib.atoiAll t.data.toList with
  | ok v => exact (Tryd.strconv_Atoi_ok t (by omega) v hA w).mono fun e w' ⟨he, hw⟩ => ⟨by
      rcases hw with rfl | ⟨x, rfl⟩
      · exact Below.refl _ _
      · exact Lib.bytesWorld_below _ _ _, v, _, .inl ⟨rfl, rfl⟩, he⟩
  | range => exact (Tryd.strconv_Atoi_range t (by omega) hA _ w h2 (.inr ⟨_, _, rfl⟩)).mono fun e w' ⟨N, he, _, _, hb⟩ => ⟨hb, _, _, .inr ⟨fun v e => (by cases e), _, N, rfl⟩, he⟩
  | _ => exact (Tryd.strconv_Atoi_syntax t (by omega) (hA.trans rfl) _ w h1 (.inr ⟨_, _, rfl⟩)).mono fun e w' ⟨N, he, _, _, hb⟩ => ⟨hb, _, _, .inr ⟨fun v e => (by cases e), _, N, rfl⟩, he⟩
theorem intT_no {l : List UInt8} (h : badT l = false) (h2 : ∀ x, Lib.atoiAll (l.take (spn dgtT l)) ≠ .ok x) : intT l = .err 14 := by
  unfold intT
  rw [h, if_neg (by decide)]
  cases ha : Lib.atoiAll (l.take (spn dgtT l)) with
  | ok v => exact absurd ha (h2 v)
  | _ => rfl
theorem intT_yes {l : List UInt8} {v : Int} (h : badT l = false) (h2 : Lib.atoiAll (l.take (spn dgtT l)) = .ok v) : intT l = .ok 3 [] v (spn dgtT l) := by
  unfold intT
  rw [h, if_neg (by decide), h2]
theorem badT_of {t : ByteArray} (h1 : 0 < t.size) {n : Nat} (hn : n = spn dgtT t.data.toList) : badT t.data.toList = ((decide (1 < n) && decide (t[0].toNat = 48)) || fst letT (t.data.toList.drop n)) := by
  have A := in_at h1
  unfold badT
  rw [← hn]
  have e1 : (t.data.toList.head? == some 48) = decide (t[0].toNat = 48) := by
    rw [List.head?_eq_getElem?, A]
    rw [Bool.eq_iff_iff, beq_iff_eq, decide_eq_true_iff]
    exact ⟨fun e => by injection e with e; rw [e]; rfl, fun e => by rw [show t[0] = 48 from UInt8.toNat_inj.1 e]⟩
  have e2 : ∀ o, o = t.data.toList[n]? → (match (generalizing := false) o with | none => false | some c => letT c) = fst letT (t.data.toList.drop n) := by
    rintro _ rfl
    unfold fst
    cases hd : t.data.toList.drop n with
    | nil => rw [List.getElem?_eq_none (by simpa using hd)]
    | cons c r =>
      have : t.data.toList[n]? = some c := by
        have := List.getElem?_drop (xs := t.data.toList) (i := n) (j := 0)
        rw [hd] at this
        simpa using this.symm
      rw [this]
  rw [e1]
  exact congrArg _ (e2 _ rfl)
set_option maxRecDepth 100000 in
set_option maxHeartbeats 4000000 in
theorem integer_any (t : ByteArray) (w : World) (h1 : 1 ≤ t.size) (hz : t.size ≤ 1000000) (hE : NStd w) :
    Calls Tryd.prog 34 #[.string t] w (TokR (intT t.data.toList) w) := by
  obtain ⟨rb, hrb⟩ : ∃ rb, rb = w.heap.size := ⟨_, rfl⟩
  have HE := Lib.hid hE
  have h1i : (0 : Int) < (t.size : Int) := by omega
  have h0n : 0 < t.size := h1
  clear hE
  go_enter Tryd.func34, Tryd.ntmps34
  go_upto_region 1 with (fail)
  obtain ⟨w1, hw1⟩ : ∃ w1, w1 = w.alloc (.cells #[.int .i64 0, .int .i64 0, .string ⟨#[]⟩, .int .i64 0] 30) := ⟨_, rfl⟩
  have K1 : Hid (Bk w1 rb 30 #[.int .i64 0, .int .i64 0, .string ⟨#[]⟩, .int .i64 0]) := Lib.hid (by rw [hw1, hrb]; exact Bk.new _ _ _)
  have B1 : Hid (Below w.heap.size w w1) := Lib.hid (by rw [hw1]; exact (Below.refl _ _).alloc (Nat.le_refl _) _)
  have LB : Hid (w.heap.size ≤ rb) := Lib.hid (by omega)
  change Code.wp _ _ _ _ (w.alloc (.cells #[.int .i64 0, .int .i64 0, .string ⟨#[]⟩, .int .i64 0] 30))
  rw [← hw1, ← hrb]
  clear hw1 hrb
  go_wp2_with fail
  refine (in_lit ⟨#[48, 49, 50, 51, 52, 53, 54, 55, 56, 57]⟩ _).mono ?_
  rintro _ w2 ⟨b2, rfl, hs2, hb2⟩
  have HS := Lib.hid hs2
  have K2 := Lib.hid (K1.out.below hb2 K1.out.lt)
  have B2 := Lib.hid (lnk B1.out hb2)
  clear hs2 hb2
  go_wp2_with fail
  refine (span_any set_digits t hz HS.out).mono ?_
  rintro _ w3 ⟨rfl, hd3⟩
  have K3 := Lib.hid (K2.out.below hd3.below K2.out.lt)
  have B3 := Lib.hid (lnk B2.out hd3.below)
  clear hd3
  have hle : spn dgtT t.data.toList ≤ t.size := by have := spn_le dgtT t.data.toList; simpa using this
  obtain ⟨n, hn⟩ : ∃ n, n = spn dgtT t.data.toList := ⟨_, rfl⟩
  rw [← hn]
  rw [← hn] at hle
  have HN := Lib.hid hn
  have HBD := Lib.hid (badT_of h1 hn)
  have hlei : (n : Int) ≤ (t.size : Int) := by omega
  clear hn
  obtain ⟨bad, hbad⟩ : ∃ bad, bad = badT t.data.toList := ⟨_, rfl⟩
  have HBAD := Lib.hid hbad
  clear hbad
  go_upto_region 2 with (fail)
  go_cut [24] from 8 to 38 (fun v wx => v = .bool bad ∧ Hid (Below w.heap.size w wx ∧ Bk wx rb 30 #[.int .i64 0, .int .i64 0, .string ⟨#[]⟩, .int .i64 0]))
  case first =>
    obtain ⟨bs, hbs⟩ : ∃ bs, fst letT (t.data.toList.drop n) = bs := ⟨_, rfl⟩
    have HBS := Lib.hid (hbs ▸ HBD.out)
    obtain ⟨t1, ht1⟩ : ∃ t1, t.extract n t.size = t1 := ⟨_, rfl⟩
    have ST := Lib.hid (fun (b : Nat) (V : World) (hb : SetAt V b ⟨#[97, 98, 99, 100, 101, 102, 103, 104, 105, 106, 107, 108, 109, 110, 111, 112, 113, 114, 115, 116, 117, 118, 119, 120, 121, 122, 65, 66, 67, 68, 69, 70, 71, 72, 73, 74, 75, 76, 77, 78, 79, 80, 81, 82, 83, 84, 85, 86, 87, 88, 89, 90, 95]⟩) => startsIn (s := ⟨#[97, 98, 99, 100, 101, 102, 103, 104, 105, 106, 107, 108, 109, 110, 111, 112, 113, 114, 115, 116, 117, 118, 119, 120, 121, 122, 65, 66, 67, 68, 69, 70, 71, 72, 73, 74, 75, 76, 77, 78, 79, 80, 81, 82, 83, 84, 85, 86, 87, 88, 89, 90, 95]⟩) set_letters t1 (v := bs) (by rw [← ht1, ext_from]; exact hbs) hb)
    clear hbs
    by_cases hn1 : 1 < n
    · have g1 : (1 : Int) < (n : Int) := by omega
      have g2 : decide ((1 : Int) < (n : Int)) = true := decide_eq_true g1
      by_cases h48 : t[0].toNat = 48
      · have t48 : ((t[0].toNat : Int) == 48) = true := by rw [beq_iff_eq]; omega
        have HV : Hid (bad = true) := Lib.hid (by rw [HBAD.out, HBS.out]; rw [decide_eq_true hn1, decide_eq_true h48]; rfl)
        clear hn1 h48
        first | go_region_law (first
          | (go_simp; go_at_call 22; with_reducible refine (in_lit _ _).mono ?_; rintro _ wA ⟨bA, rfl, hsA, hbA⟩)
          | (go_simp; go_at_call 32; with_reducible refine (ST.out _ _ hsA).mono ?_; rintro _ wB ⟨rfl, hbB⟩)) | fail
        all_goals (
          go_wp2_with fail
          go_meet
          exact ⟨by rw [HV.out], Lib.hid ⟨lnk B3.out (Dr.below (Dr.drew _)), K3.out.below (Dr.below (Dr.drew _)) K3.out.lt⟩⟩)
      · have t48 : ((t[0].toNat : Int) == 48) = false := by rw [beq_eq_false_iff_ne]; omega
        have HV : Hid (bad = bs) := Lib.hid (by rw [HBAD.out, HBS.out]; rw [decide_eq_false h48, Bool.and_false, Bool.false_or])
        clear hn1 h48
        first | go_region_law (first
          | (go_simp; go_at_call 22; with_reducible refine (in_lit _ _).mono ?_; rintro _ wA ⟨bA, rfl, hsA, hbA⟩)
          | (go_simp; go_at_call 32; with_reducible refine (ST.out _ _ hsA).mono ?_; rintro _ wB ⟨rfl, hbB⟩)) | fail
        all_goals (
          have HF : Hid (Below w3.heap.size w3 wB) := Lib.hid (by first | exact lnk hbA hbB | exact lnk (undrew hbA) hbB)
          go_wp2_with fail
          go_meet
          exact ⟨by rw [HV.out], Lib.hid ⟨lnk B3.out HF.out, K3.out.below HF.out K3.out.lt⟩⟩)
    · have g1 : ¬ (1 : Int) < (n : Int) := by omega
      have g2 : decide ((1 : Int) < (n : Int)) = false := decide_eq_false g1
      have HV : Hid (bad = bs) := Lib.hid (by rw [HBAD.out, HBS.out]; rw [decide_eq_false hn1, Bool.false_and, Bool.false_or])
      clear hn1
      first | go_region_law (first
        | (go_simp; go_at_call 22; with_reducible refine (in_lit _ _).mono ?_; rintro _ wA ⟨bA, rfl, hsA, hbA⟩)
        | (go_simp; go_at_call 32; with_reducible refine (ST.out _ _ hsA).mono ?_; rintro _ wB ⟨rfl, hbB⟩)) | fail
      all_goals (
        have HF : Hid (Below w3.heap.size w3 wB) := Lib.hid (by first | exact lnk hbA hbB | exact lnk (undrew hbA) hbB)
        go_wp2_with fail
        go_meet
        exact ⟨by rw [HV.out], Lib.hid ⟨lnk B3.out HF.out, K3.out.below HF.out K3.out.lt⟩⟩)
  case rest =>
    obtain ⟨rfl, HC⟩ := hcut
    have B4 := Lib.hid HC.out.1
    have K4 := Lib.hid HC.out.2
    clear HC
    cases bad with
    | true =>
      have HR : Hid (intT t.data.toList = .err 3) := Lib.hid (by unfold intT; rw [← HBAD.out]; rfl)
      have f0 := K4.out.frozen 0
      have d0 := K4.out.cell 0
      have f1 := K4.out.frozen 1
      have d1 := K4.out.cell 1
      have f2 := K4.out.frozen 2
      have d2 := K4.out.cell 2
      have f3 := K4.out.frozen 3
      have d3 := K4.out.cell 3
      go_wp2_with fail
      obtain ⟨wf, hwf⟩ : ∃ wf, wf = put4 wc rb (.int .i64 0) (.int .i64 0) (.string ⟨#[]⟩) (.int .i64 0) := ⟨_, rfl⟩
      have QF : Hid (Bk wf rb 30 #[.int .i64 0, .int .i64 0, .string ⟨#[]⟩, .int .i64 0]) := Lib.hid (by rw [hwf]; exact put4_bk K4.out)
      have FF : Hid (Below w.heap.size w wf) := Lib.hid (by rw [hwf]; exact put4_below B4.out LB.out)
      change bodyPost _ _ _ _ _ (put4 wc rb (.int .i64 0) (.int .i64 0) (.string ⟨#[]⟩) (.int .i64 0))
      rw [← hwf]
      refine bodyPost_ret (results_tok rfl rfl rfl rfl QF.out) rfl ?_
      exact ⟨ret_tok HR.out.symm, FF.out⟩
    | false =>
      have HAT := Lib.hid (atoi_any (t.extract 0 n) (by have := ext_size t 0 n; omega) (HE.out.on B4.out))
      rw [ext_to] at HAT
      go_wp2_with fail
      refine (HAT.out).mono ?_
      rintro _ w5 ⟨hb5, z, ev, hP, rfl⟩
      have K5 := Lib.hid (K4.out.below hb5 K4.out.lt)
      have B5 := Lib.hid (lnk B4.out hb5)
      clear HAT hb5
      rcases hP with ⟨hA, rfl⟩ | ⟨hA, TY, N, rfl⟩
      · have HR : Hid (intT t.data.toList = .ok 3 [] z n) := Lib.hid (by rw [intT_yes HBAD.out.symm (by rw [← HN.out]; exact hA), ← HN.out])
        clear hA
        have f0 := K5.out.frozen 0
        have d0 := K5.out.cell 0
        have f1 := K5.out.frozen 1
        have d1 := K5.out.cell 1
        have f2 := K5.out.frozen 2
        have d2 := K5.out.cell 2
        have f3 := K5.out.frozen 3
        have d3 := K5.out.cell 3
        go_wp2_with fail
        obtain ⟨wf, hwf⟩ : ∃ wf, wf = put4 w5 rb (.int .i64 3) (.int .i64 0) (.string ⟨#[]⟩) (.int .i64 z) := ⟨_, rfl⟩
        have QF : Hid (Bk wf rb 30 #[.int .i64 3, .int .i64 0, .string ⟨#[]⟩, .int .i64 z]) := Lib.hid (by rw [hwf]; exact put4_bk K5.out)
        have FF : Hid (Below w.heap.size w wf) := Lib.hid (by rw [hwf]; exact put4_below B5.out LB.out)
        change bodyPost _ _ _ _ _ (put4 w5 rb (.int .i64 3) (.int .i64 0) (.string ⟨#[]⟩) (.int .i64 z))
        rw [← hwf]
        refine bodyPost_ret (results_tok rfl rfl rfl rfl QF.out) rfl ?_
        exact ⟨ret_tok HR.out.symm, FF.out⟩
      · have HR : Hid (intT t.data.toList = .err 14) := Lib.hid (intT_no HBAD.out.symm (by rw [← HN.out]; exact hA))
        clear hA
        have f0 := K5.out.frozen 0
        have d0 := K5.out.cell 0
        have f1 := K5.out.frozen 1
        have d1 := K5.out.cell 1
        have f2 := K5.out.frozen 2
        have d2 := K5.out.cell 2
        have f3 := K5.out.frozen 3
        have d3 := K5.out.cell 3
        go_wp2_with fail
        obtain ⟨wf, hwf⟩ : ∃ wf, wf = put4 w5 rb (.int .i64 0) (.int .i64 0) (.string ⟨#[]⟩) (.int .i64 0) := ⟨_, rfl⟩
        have QF : Hid (Bk wf rb 30 #[.int .i64 0, .int .i64 0, .string ⟨#[]⟩, .int .i64 0]) := Lib.hid (by rw [hwf]; exact put4_bk K5.out)
        have FF : Hid (Below w.heap.size w wf) := Lib.hid (by rw [hwf]; exact put4_below B5.out LB.out)
        change bodyPost _ _ _ _ _ (put4 w5 rb (.int .i64 0) (.int .i64 0) (.string ⟨#[]⟩) (.int .i64 0))
        rw [← hwf]
        refine bodyPost_ret (results_tok rfl rfl rfl rfl QF.out) rfl ?_
        exact ⟨ret_tok HR.out.symm, FF.out⟩
end Go.Proofs.YtemdcgeopaphaaaDoor
