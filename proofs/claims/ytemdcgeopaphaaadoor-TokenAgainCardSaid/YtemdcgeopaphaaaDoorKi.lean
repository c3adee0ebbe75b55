/-
  Contract of literal, of the code. (gen_ki.py)
-/
import Derived.Test.YtemdcgeopaphaaaDoorKh
import Derived.Laws.IdiomStrings
import Derived.Deep.LoopGhost
namespace Go.Proofs.YtemdcgeopaphaaaDoor
open Go.RowKit
theorem own_lt {w : World} {base : Nat} {e : TypeId} {v : Value} {n size : Nat} {xs : List Value} (h : w.ownsRow base e size v n xs) : ∀ b, v.ownBlock = some b → base ≤ b := fun b hb => (h.lt b hb).1
theorem lit_end {l : List UInt8} {f i : Nat} {o : List UInt8} (h : l.length ≤ i) : litG l (f + 1) i o = .err 4 := by
  unfold litG
  rw [List.getElem?_eq_none h]
theorem lit_quo {l : List UInt8} {f i : Nat} {o : List UInt8} {c : UInt8} (h : l[i]? = some c) (hc : c = 34) : litG l (f + 1) i o = if 4096 < o.length then .err 6 else .ok 4 o 0 (i + 1) := by
  unfold litG
  rw [h]
  exact if_pos hc
theorem lit_chr {l : List UInt8} {f i : Nat} {o : List UInt8} {c x : UInt8} {n : Nat} (h : l[i]? = some c) (hc : c ≠ 34) (hx : chrC (l.drop i) = .ok x n) : litG l (f + 1) i o = litG l f (i + n) (o ++ [x]) := by
  rw [litG, h]
  simp only
  rw [if_neg hc, hx]
theorem lit_bad {l : List UInt8} {f i : Nat} {o : List UInt8} {c : UInt8} {e : Int} (h : l[i]? = some c) (hc : c ≠ 34) (hx : chrC (l.drop i) = .err e) : litG l (f + 1) i o = .err e := by
  rw [litG, h]
  simp only
  rw [if_neg hc, hx]
theorem chrC_ne {l : List UInt8} {e : Int} (h : chrC l = .err e) : e ≠ 0 := by
  unfold chrC at h
  cases l with
  | nil => injection h with h; subst h; decide
  | cons a r =>
    simp only at h
    split at h
    · cases h
    · split at h
      · unfold escC at h
        cases r with
        | nil => injection h with h; subst h; decide
        | cons b r2 =>
          simp only at h
          split at h
          · cases h
          · split at h
            · cases h
            · split at h
              · cases h
              · split at h
                · unfold hexC at h
                  cases r2 with
                  | nil => injection h with h; subst h; decide
                  | cons x r3 =>
                    simp only at h
                    split at h
                    · cases r3 with
                      | nil => injection h with h; subst h; decide
                      | cons y r4 =>
                        simp only at h
                        split at h
                        · cases h
                        · injection h with h; subst h; decide
                    · injection h with h; subst h; decide
                · injection h with h; subst h; decide
      · injection h with h; subst h; decide
set_option maxRecDepth 100000 in
set_option maxHeartbeats 4000000 in
theorem literal_any (t : ByteArray) (w : World) (h1 : 1 ≤ t.size) (hz : t.size ≤ 1000000) :
    Calls Tryd.prog 35 #[.string t] w (TokR (litT t.data.toList) w) := by
  obtain ⟨ti, hti, hz8, hsz, hb8⟩ := info_parts Tryd.infob
  obtain ⟨rb, hrb⟩ : ∃ rb, rb = w.heap.size := ⟨_, rfl⟩
  have hl : t.data.toList.length = t.size := by simp
  go_enter Tryd.func35, Tryd.ntmps35
  go_upto_region 1 with (fail)
  obtain ⟨w1, hw1⟩ : ∃ w1, w1 = w.alloc (.cells #[.int .i64 0, .int .i64 0, .string ⟨#[]⟩, .int .i64 0] 30) := ⟨_, rfl⟩
  have K1 : Hid (Bk w1 rb 30 #[.int .i64 0, .int .i64 0, .string ⟨#[]⟩, .int .i64 0]) := Lib.hid (by rw [hw1, hrb]; exact Bk.new _ _ _)
  have B1 : Hid (Below w.heap.size w w1) := Lib.hid (by rw [hw1]; exact (Below.refl _ _).alloc (Nat.le_refl _) _)
  have LB : Hid (w.heap.size ≤ rb) := Lib.hid (by omega)
  have ZB : Hid (rb < w1.heap.size ∧ w.heap.size ≤ w1.heap.size) := Lib.hid ⟨K1.out.lt, B1.out.size⟩
  change Code.wp _ _ _ _ (w.alloc (.cells #[.int .i64 0, .int .i64 0, .string ⟨#[]⟩, .int .i64 0] 30))
  rw [← hw1, ← hrb]
  clear hw1 hrb
  go_wp2_with fail
  go_loopg [5, 6] (t.size + 1) (fun gh sv iv wr => ∃ (i k c : Nat) (A : Option Addr) (o : List UInt8), sv = .slice A k c ∧ iv = .int .i64 i ∧ i ≤ t.size ∧ t.size + 2 ≤ gh + i ∧ k ≤ i ∧ k ≤ c ∧ c ≤ 9223372036854775807 ∧ Hid (o.length = k) ∧
    Hid (Below w1.heap.size w1 wr) ∧ Hid (wr.ownsRow w1.heap.size 5 1 (.slice A k c) k (o.map b8)) ∧ Hid (litG t.data.toList gh i o = litT t.data.toList))
  case atStart => exact ⟨1, 0, 0, none, [], rfl, rfl, h1, by omega, by omega, by omega, by omega, Lib.hid rfl, Lib.hid (Below.refl _ _), Lib.hid (World.ownsRow_nil _ _ _ _), Lib.hid (by unfold litT; rw [hl])⟩
  case round =>
    obtain ⟨i, k, c, A, o, rfl, rfl, hi, hg, hki, hkc, hcm, HO, HB, HW, HR⟩ := hrel
    obtain ⟨f, rfl⟩ : ∃ f, gk = f + 1 := ⟨gk - 1, by omega⟩
    have K2 := Lib.hid (K1.out.below HB.out K1.out.lt)
    have B2 := Lib.hid (lnk B1.out HB.out)
    by_cases hlt : i < t.size
    · have HX := Lib.hid (in_at hlt)
      have hxl := t[i].toNat_lt
      by_cases h34 : t[i].toNat = 34
      · have t34 : ((t[i].toNat : Int) == 34) = true := by rw [beq_iff_eq]; omega
        have HL : Hid (litT t.data.toList = if 4096 < o.length then .err 6 else .ok 4 o 0 (i + 1)) := Lib.hid (by rw [← HR.out, lit_quo HX.out (eq_nat.2 h34)])
        clear h34
        by_cases h4 : 4096 < k
        · have HE : Hid (litT t.data.toList = .err 6) := Lib.hid (by rw [HL.out, HO.out, if_pos h4])
          have h4i : (4096 : Int) < (k : Int) := by omega
          have f0 := K2.out.frozen 0
          have d0 := K2.out.cell 0
          have f1 := K2.out.frozen 1
          have d1 := K2.out.cell 1
          have f2 := K2.out.frozen 2
          have d2 := K2.out.cell 2
          have f3 := K2.out.frozen 3
          have d3 := K2.out.cell 3
          go_wp2_with fail
          obtain ⟨wf, hwf⟩ : ∃ wf, wf = put4 wr rb (.int .i64 0) (.int .i64 0) (.string ⟨#[]⟩) (.int .i64 0) := ⟨_, rfl⟩
          have QF : Hid (Bk wf rb 30 #[.int .i64 0, .int .i64 0, .string ⟨#[]⟩, .int .i64 0]) := Lib.hid (by rw [hwf]; exact put4_bk K2.out)
          have FF : Hid (Below w.heap.size w wf) := Lib.hid (by rw [hwf]; exact put4_below B2.out LB.out)
          change bodyPost _ _ _ _ _ (put4 wr rb (.int .i64 0) (.int .i64 0) (.string ⟨#[]⟩) (.int .i64 0))
          rw [← hwf]
          refine bodyPost_ret (results_tok rfl rfl rfl rfl QF.out) rfl ?_
          exact ⟨ret_tok HE.out.symm, FF.out⟩
        · have HE : Hid (litT t.data.toList = .ok 4 o 0 (i + 1)) := Lib.hid (by rw [HL.out, HO.out, if_neg h4])
          have h4i : ¬ (4096 : Int) < (k : Int) := by omega
          have HS := run_str (P := Tryd.prog) (c := c) 44 9 5 Tryd.underlying44 Tryd.underlying5 Tryd.underlying9 (Rb.of_own HW.out)
          have f0 := K2.out.frozen 0
          have d0 := K2.out.cell 0
          have f1 := K2.out.frozen 1
          have d1 := K2.out.cell 1
          have f2 := K2.out.frozen 2
          have d2 := K2.out.cell 2
          have f3 := K2.out.frozen 3
          have d3 := K2.out.cell 3
          go_wp2_with fail
          obtain ⟨wf, hwf⟩ : ∃ wf, wf = put4 wr rb (.int .i64 4) (.int .i64 0) (.string ⟨o.toArray⟩) (.int .i64 0) := ⟨_, rfl⟩
          have QF : Hid (Bk wf rb 30 #[.int .i64 4, .int .i64 0, .string ⟨o.toArray⟩, .int .i64 0]) := Lib.hid (by rw [hwf]; exact put4_bk K2.out)
          have FF : Hid (Below w.heap.size w wf) := Lib.hid (by rw [hwf]; exact put4_below B2.out LB.out)
          change bodyPost _ _ _ _ _ (put4 wr rb (.int .i64 4) (.int .i64 0) (.string ⟨o.toArray⟩) (.int .i64 0))
          rw [← hwf]
          refine bodyPost_ret (results_tok rfl rfl rfl rfl QF.out) rfl ?_
          exact ⟨by rw [HE.out]; rfl, FF.out⟩
      · have t34 : ((t[i].toNat : Int) == 34) = false := by rw [beq_eq_false_iff_ne]; omega
        have HN34 : Hid (t[i] ≠ 34) := Lib.hid (fun e => h34 (eq_nat.1 e))
        have hli : (i : Int) ≤ (t.size : Int) := by omega
        have HCH := Lib.hid (fun V => character_any (t.extract i t.size) V (by rw [ByteArray.size_extract]; omega) (by have := ext_size t i t.size; omega))
        rw [ext_from] at HCH
        clear h34
        cases hch : chrC (t.data.toList.drop i) with
        | err e =>
          have HE : Hid (litT t.data.toList = .err e) := Lib.hid (by rw [← HR.out, lit_bad HX.out HN34.out hch])
          rw [hch] at HCH
          have e0 : (e == 0) = false := beq_eq_false_iff_ne.2 (chrC_ne hch)
          have e0n : (e != 0) = true := bne_iff_ne.2 (chrC_ne hch)
          clear hch
          go_wp2_with fail
          refine (HCH.out _).mono ?_
          rintro _ V ⟨rfl, rfl⟩
          unfold crV
          have f0 := K2.out.frozen 0
          have d0 := K2.out.cell 0
          have f1 := K2.out.frozen 1
          have d1 := K2.out.cell 1
          have f2 := K2.out.frozen 2
          have d2 := K2.out.cell 2
          have f3 := K2.out.frozen 3
          have d3 := K2.out.cell 3
          go_wp2_with fail
          obtain ⟨wf, hwf⟩ : ∃ wf, wf = put4 V rb (.int .i64 0) (.int .i64 0) (.string ⟨#[]⟩) (.int .i64 0) := ⟨_, rfl⟩
          have QF : Hid (Bk wf rb 30 #[.int .i64 0, .int .i64 0, .string ⟨#[]⟩, .int .i64 0]) := Lib.hid (by rw [hwf]; exact put4_bk K2.out)
          have FF : Hid (Below w.heap.size w wf) := Lib.hid (by rw [hwf]; exact put4_below B2.out LB.out)
          change bodyPost _ _ _ _ _ (put4 V rb (.int .i64 0) (.int .i64 0) (.string ⟨#[]⟩) (.int .i64 0))
          rw [← hwf]
          refine bodyPost_ret (results_tok rfl rfl rfl rfl QF.out) rfl ?_
          exact ⟨ret_tok HE.out.symm, FF.out⟩
        | ok x n =>
          have hn := chrC_n hch
          have hn2 : i + n ≤ t.size := by
            have := hn.2
            rw [List.length_drop, hl] at this
            omega
          have hn1 := hn.1
          have HR2 : Hid (litG t.data.toList f (i + n) (o ++ [x]) = litT t.data.toList) := Lib.hid (by rw [← HR.out, lit_chr HX.out HN34.out hch])
          rw [hch] at HCH
          clear hch hn
          go_wp2_with fail
          refine (HCH.out _).mono ?_
          rintro _ V ⟨rfl, rfl⟩
          unfold crV
          go_wp2_with (at_builtin; refine wpList_append_b8 rfl _ _ 44 rfl w1.heap.size 5 ti (.int .u8 0) Tryd.underlying44 hti hz8 hsz hb8 rfl _ k (o.map b8) rfl (HW.out.alloc _) (V.heap.size + 1) (some ⟨V.heap.size, 0, none⟩) 1 1 [x] rfl (Rb.lit V 5 [x]) ?_ ?_ ?_)
          · omega
          · rw [World.size_alloc]; have := HB.out.size; omega
          · intro v5 w5 ho hg5
            obtain ⟨A5, c5, rfl, he1, he2⟩ := own_form ho
            have HW5 : Hid (w5.ownsRow w1.heap.size 5 1 (.slice A5 (k + 1) c5) (k + 1) ((o ++ [x]).map b8)) := Lib.hid (by rw [List.map_append]; exact ho)
            have HL5 : Hid ((o ++ [x]).length = k + 1) := Lib.hid (by rw [List.length_append, HO.out]; rfl)
            have HB5 : Hid (Below w1.heap.size w1 w5) := Lib.hid (by
              have hA : Below w1.heap.size w1 (V.alloc (.cells #[.int .u8 (x.toNat : Int)] 5)) := Below.alloc HB.out HB.out.size _
              exact hA.grown hg5 hA.size (own_lt HW.out))
            have he3 : c5 ≤ 9223372036854775807 := by unfold maxLen at he2; omega
            clear ho hg5
            go_wp2_with fail
            go_roundg f
            case measure => omega
            case rel => exact ⟨i + n, k + 1, c5, A5, o ++ [x], rfl, by go_num, hn2, by omega, by omega, he1, he3, HL5, HB5, HW5, HR2⟩
    · have HE : Hid (litT t.data.toList = .err 4) := Lib.hid (by rw [← HR.out, lit_end (by omega)])
      have hni : ¬ (i : Int) < (t.size : Int) := by omega
      have f0 := K2.out.frozen 0
      have d0 := K2.out.cell 0
      have f1 := K2.out.frozen 1
      have d1 := K2.out.cell 1
      have f2 := K2.out.frozen 2
      have d2 := K2.out.cell 2
      have f3 := K2.out.frozen 3
      have d3 := K2.out.cell 3
      go_wp2_with fail
      obtain ⟨wf, hwf⟩ : ∃ wf, wf = put4 wr rb (.int .i64 0) (.int .i64 0) (.string ⟨#[]⟩) (.int .i64 0) := ⟨_, rfl⟩
      have QF : Hid (Bk wf rb 30 #[.int .i64 0, .int .i64 0, .string ⟨#[]⟩, .int .i64 0]) := Lib.hid (by rw [hwf]; exact put4_bk K2.out)
      have FF : Hid (Below w.heap.size w wf) := Lib.hid (by rw [hwf]; exact put4_below B2.out LB.out)
      change bodyPost _ _ _ _ _ (put4 wr rb (.int .i64 0) (.int .i64 0) (.string ⟨#[]⟩) (.int .i64 0))
      rw [← hwf]
      refine bodyPost_ret (results_tok rfl rfl rfl rfl QF.out) rfl ?_
      exact ⟨ret_tok HE.out.symm, FF.out⟩
end Go.Proofs.YtemdcgeopaphaaaDoor
