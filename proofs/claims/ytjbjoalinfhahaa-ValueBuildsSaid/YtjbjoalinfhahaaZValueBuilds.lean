/-
  ValueBuilds returns true for every input, and its arguments read afterwards as they read before.
-/
import Derived.Test.YtjbjoalinfhahaaBR
import Derived.Test.YtjbjoalinfhahaaBP
import Derived.Test.YtjbjoalinfhahaaBH
import Derived.Test.YtjbjoalinfhahaaBO
import Derived.Test.YtjbjoalinfhahaaBL
import Derived.Test.YtjbjoalinfhahaaBM
namespace Go.Proofs.Ytjbjoalinfhahaa
open Go.RowKit

/-! ### both maps are one -/
theorem rising_asc {l : List (ByteArray × VT)} (h : Asc l) : rising (l.map (·.1)) = true := by
  unfold rising risingTo
  rw [List.all_eq_true]
  intro j hj
  have hj := List.mem_range.1 hj
  rw [List.length_map] at hj
  have h1 : j + 1 < l.length := by omega
  have h2 := List.pairwise_iff_getElem.1 h j (j + 1) (by omega) h1 (by omega)
  rw [List.getD_eq_getElem?_getD, List.getD_eq_getElem?_getD, List.getElem?_map, List.getElem?_map, List.getElem?_eq_getElem h1, List.getElem?_eq_getElem (show j < l.length by omega)]
  exact h2
theorem asc_of_rising {l : List (ByteArray × VT)} (h : rising (l.map (·.1)) = true) : Asc l := by
  unfold rising risingTo at h
  rw [List.all_eq_true, List.length_map] at h
  have step : ∀ j, j + 1 < l.length → less (l[j]!).1 (l[j + 1]!).1 = true := fun j hj => by
    have h1 := h j (List.mem_range.2 (by omega))
    rw [List.getD_eq_getElem?_getD, List.getD_eq_getElem?_getD, List.getElem?_map, List.getElem?_map, List.getElem?_eq_getElem hj, List.getElem?_eq_getElem (show j < l.length by omega)] at h1
    rw [getElem!_pos l j (by omega), getElem!_pos l (j + 1) hj]
    exact h1
  have far : ∀ d i, i + d + 1 < l.length → less (l[i]!).1 (l[i + d + 1]!).1 = true := fun d => by
    induction d with
    | zero => intro i hi; exact step i hi
    | succ d ih => intro i hi; exact less_trans (ih i (by omega)) (step (i + d + 1) (by omega))
  unfold Asc
  rw [List.pairwise_iff_getElem]
  intro i j hi hj hij
  have := far (j - i - 1) i (by omega)
  rw [show i + (j - i - 1) + 1 = j by omega, getElem!_pos l i hi, getElem!_pos l j hj] at this
  exact this
theorem asc_sorted {l : List (ByteArray × VT)} (hs : ∀ i j, i < j → j < l.length → less l[j]!.1 l[i]!.1 = false) (hn : (l.map (·.1)).Nodup) : Asc l := by
  unfold Asc
  rw [List.pairwise_iff_getElem]
  intro i j hi hj hij
  have h1 := hs i j hij hj
  rw [getElem!_pos l i hi, getElem!_pos l j hj] at h1
  refine less_tri h1 (fun e => ?_)
  have h2 := (List.nodup_iff_pairwise_ne.1 hn)
  rw [List.pairwise_map, List.pairwise_iff_getElem] at h2
  exact h2 i j hi hj hij e.symm
theorem maps_one {keys : List ByteArray} {items : List VT} {y y' : VT} {r r' : Int} (h : MapSpec keys items y r) (h' : RefMapSpec keys items y' r') : y' = y ∧ r' = r := by
  rcases h with ⟨h1, rfl, rfl⟩ | ⟨h1, es, ⟨hp, hs⟩, rfl, rfl⟩
  · rcases h' with ⟨_, rfl, rfl⟩ | ⟨h2, _⟩
    · exact ⟨rfl, rfl⟩
    · exact absurd h2 h1
  · rcases h' with ⟨h2, _⟩ | ⟨_, ⟨hg, rfl, rfl⟩ | ⟨acc, hg, rfl, rfl⟩⟩
    · exact absurd h1 h2
    · have hn := goM_none _ _ List.Pairwise.nil hg
      rw [List.nil_append] at hn
      have hr : rising (es.map (·.1)) = false := by
        cases hb : rising (es.map (·.1)) with
        | false => rfl
        | true => exact absurd ((hp.map (·.1)).nodup_iff.1 (asc_nodup (asc_of_rising hb))) hn
      unfold mapV mapE
      rw [hr]
      exact ⟨rfl, rfl⟩
    · obtain ⟨ha, hq⟩ := goM_some _ _ _ List.Pairwise.nil hg
      rw [List.nil_append] at hq
      have hn : (es.map (·.1)).Nodup := ((hq.trans hp.symm).map (·.1)).nodup_iff.1 (asc_nodup ha)
      have he := asc_sorted hs hn
      have e := asc_eq ha he (hq.trans hp.symm)
      subst e
      unfold mapV mapE
      rw [if_pos (rising_asc ha), if_pos (rising_asc ha)]
      exact ⟨rfl, rfl⟩
theorem map_reach {keys : List ByteArray} {items : List VT} {y : VT} {r : Int} (h : MapSpec keys items y r) (hk : keys.length ≤ 1000000) (hr : alls reachF items = true) : y.all reachF = true := by
  rcases h with ⟨_, rfl, _⟩ | ⟨h1, es, ⟨hp, _⟩, rfl, _⟩
  · rfl
  · have hm : (mapT es).all reachF = true := by
      unfold mapT
      have hl := hp.length_eq
      rw [List.length_zip] at hl
      rw [VT.all_mk, Bool.and_eq_true]
      constructor
      · unfold reachF VT.its VT.ks
        rw [List.length_map, List.length_map, Bool.and_eq_true, decide_eq_true_eq, decide_eq_true_eq]
        omega
      · rw [alls_iff]
        intro x hx
        obtain ⟨pr, hpr, rfl⟩ := List.mem_map.1 hx
        exact alls_iff.1 hr _ (List.of_mem_zip (a := pr.1) (b := pr.2) (hp.mem_iff.1 hpr)).2
    unfold mapV limT
    split
    · split
      · exact hm
      · rfl
    · rfl

set_option maxRecDepth 100000 in
set_option maxHeartbeats 16000000 in
theorem ValueBuilds_walk (A : Option Addr) (c : Nat) (keys : List ByteArray) (D : Option Addr) (e : Nat) (items : List VT) (n : Int) (w : World) (hS : LiesS w (Lo w) A keys) (hc : keys.length ≤ c) (_ : c ≤ 9223372036854775807)
    (hL : LiesL w (Lo w) D 0 items) (he : items.length ≤ e) (hem : e ≤ 9223372036854775807) (hr1 : items.length * 80 ≤ 140737488355328) (hr2 : alls reachF items = true) (hn1 : -9223372036854775808 ≤ n) (hn2 : n ≤ 9223372036854775807) :
    Calls Try.prog 3 #[.slice A keys.length c, .slice D items.length e, .int .i64 n] w (Gives (.bool true) w) := by
  have HX := Lib.hid (Few_any (x := .mk 0 0 ⟨#[]⟩ items []) (v := .agg #[.int .i64 0, .int .i64 0, .string ⟨#[]⟩, .slice D items.length e, .slice none 0 0]) (w := w) 300 (by omega) (by omega) (by
    rw [Lies]
    exact ⟨D, e, none, 0, rfl, by omega, by omega, by decide, he, hem, hL, Nat.le_refl _, by omega, LiesS.none_⟩))
  have SZ : Hid (decide (0 ≤ (VT.mk 0 0 ⟨#[]⟩ items []).few 300) = true → sizes items ≤ 1000000000) := Lib.hid (fun h => by have := few_size (of_decide_eq_true h); rw [VT.size_mk] at this; omega)
  have SM : Hid (∀ (x : VT) (v u : Value) (W : World), Lies W (Lo W) x v → Lies W (Lo W) x u → Calls Try.prog 15 #[v, u] W (Gives (.bool true) W)) := Lib.hid (fun x v u W h h' => by have := refSame_any h h'; rwa [eqB_true rfl] at this)
  have HS := Lib.hid (fun (W : World) (hb : Below w.heap.size w W) => hS.below hb)
  have HL := Lib.hid (fun (W : World) (hb : Below w.heap.size w W) => hL.below hb)
  have HKS := Lib.hid hS.sizes
  have HR1 := Lib.hid hr1
  have HR2 := Lib.hid hr2
  have HEM := Lib.hid hem
  have HN := Lib.hid (And.intro hn1 hn2)
  have HS0 := Lib.hid hS
  clear hS hL hr1 hr2 hem hn1 hn2
  generalize decide (0 ≤ (VT.mk 0 0 ⟨#[]⟩ items []).few 300) = p at *
  by_cases hbig : 50 < keys.length
  · have t0 : decide ((50 : Int) < (keys.length : Int)) = true := by rw [decide_eq_true_eq]; omega
    clear hbig
    go_enter Try.func3, Try.ntmps3
    go_wp2_with fail
    refine (works_any w).mono ?_
    rintro e0 w4 ⟨rfl, hb⟩
    have B4 := Lib.hid hb
    clear hb
    go_wp2
    go_ret
    exact ⟨rfl, B4.out⟩
  · have t0 : decide ((50 : Int) < (keys.length : Int)) = false := by rw [decide_eq_false_iff_not]; omega
    have hk : keys.length ≤ 50 := by omega
    clear hbig
    go_enter Try.func3, Try.ntmps3
    go_wp2_with fail
    refine (HX.out).mono ?_
    rintro e0 w1 ⟨rfl, hb⟩
    have B1 := Lib.hid hb
    clear hb HX
    cases p with
    | false =>
      go_wp2_with fail
      refine (works_any w1).mono ?_
      rintro e0 w4 ⟨rfl, hb⟩
      have B4 := Lib.hid (below_next B1.out hb)
      clear hb
      go_wp2
      go_ret
      exact ⟨rfl, B4.out⟩
    | true =>
      have HSZ := Lib.hid (SZ.out rfl)
      have HM := Lib.hid (Map_any A c keys D e items w1 (HS.out w1 B1.out) (HL.out w1 B1.out) hc he (by omega) HR2.out)
      clear SZ
      go_wp2_with fail
      refine (HM.out).mono ?_
      rintro e0 w2 ⟨y, r, hsp, v1, rfl, hov, hb⟩
      obtain ⟨k1, i1, t1, A1, n1, c1, A1', n1', c1', rfl⟩ := hov.form
      have B2 := Lib.hid (below_next B1.out hb)
      have SP := Lib.hid hsp
      have RY := Lib.hid (map_reach hsp (by omega) HR2.out)
      have O2 := Lib.hid hov.lies
      clear hb hsp hov HM
      obtain ⟨w3, hw3⟩ : ∃ w3, w3 = w2.alloc (.cells #[.int .i64 k1, .int .i64 i1, .string t1, .slice A1 n1 c1, .slice A1' n1' c1'] 26) := ⟨_, rfl⟩
      have b3 : Below w2.heap.size w2 w3 := by rw [hw3]; exact below_one _ _
      have P3 : Hid (Bk w3 w2.heap.size 26 #[.int .i64 k1, .int .i64 i1, .string t1, .slice A1 n1 c1, .slice A1' n1' c1']) := Lib.hid (by rw [hw3]; exact Bk.new _ _ _)
      have B3 := Lib.hid (below_next B2.out b3)
      have O3 := Lib.hid (O2.out.below b3)
      have HW3 := Lib.hid hw3
      have HM2 := Lib.hid (refMap_any A c keys D e items w3 (HS.out w3 B3.out) (HL.out w3 B3.out) hc he (by omega) HSZ.out)
      clear hw3 b3
      go_wp2_with fail
      rw [← HW3.out]
      refine (HM2.out).mono ?_
      rintro e0 w4 ⟨y', r', hsp, v2, rfl, hlv, hb⟩
      obtain ⟨rfl, rfl⟩ := maps_one SP.out hsp
      obtain ⟨k2, i2, t2, A2, n2, c2, A2', n2', c2', rfl⟩ := hlv.formV
      have B4 := Lib.hid (below_next B3.out hb)
      have P4 := Lib.hid (P3.out.below hb P3.out.lt)
      have O4 := Lib.hid (O3.out.below hb)
      have L4 := Lib.hid hlv
      clear hb hsp hlv HM2
      obtain ⟨w5, hw5⟩ : ∃ w5, w5 = w4.alloc (.cells #[.int .i64 k2, .int .i64 i2, .string t2, .slice A2 n2 c2, .slice A2' n2' c2'] 26) := ⟨_, rfl⟩
      have b5 : Below w4.heap.size w4 w5 := by rw [hw5]; exact below_one _ _
      have P5 := Lib.hid (P4.out.below b5 P4.out.lt)
      have Q5 : Hid (Bk w5 w4.heap.size 26 #[.int .i64 k2, .int .i64 i2, .string t2, .slice A2 n2 c2, .slice A2' n2' c2']) := Lib.hid (by rw [hw5]; exact Bk.new _ _ _)
      have B5 := Lib.hid (below_next B4.out b5)
      have LA := Lib.hid (fun (W : World) (hb : Below w5.heap.size w5 W) => (O4.out.below b5).below hb)
      have LB := Lib.hid (fun (W : World) (hb : Below w5.heap.size w5 W) => (L4.out.below b5).below hb)
      have HW5 := Lib.hid hw5
      have tr : (r' != r') = false := by simp
      have H5 := Lib.hid (SM.out _ _ _ w5 (LA.out w5 (Below.refl _ _)) (LB.out w5 (Below.refl _ _)))
      clear b5
      have a0 := P5.out.cell 0
      change _ = some (Value.int .i64 k1) at a0
      have a1 := P5.out.cell 1
      change _ = some (Value.int .i64 i1) at a1
      have a2 := P5.out.cell 2
      change _ = some (Value.string t1) at a2
      have a3 := P5.out.cell 3
      change _ = some (Value.slice A1 n1 c1) at a3
      have a4 := P5.out.cell 4
      change _ = some (Value.slice A1' n1' c1') at a4
      have b0 := Q5.out.cell 0
      change _ = some (Value.int .i64 k2) at b0
      have b1 := Q5.out.cell 1
      change _ = some (Value.int .i64 i2) at b1
      have b2 := Q5.out.cell 2
      change _ = some (Value.string t2) at b2
      have b3 := Q5.out.cell 3
      change _ = some (Value.slice A2 n2 c2) at b3
      have b4 := Q5.out.cell 4
      change _ = some (Value.slice A2' n2' c2') at b4
      rw [hw5] at a0 a1 a2 a3 a4 b0 b1 b2 b3 b4
      clear hw5
      go_wp2_with fail
      rw [← HW5.out]
      refine (H5.out).mono ?_
      rintro e0 w6 ⟨rfl, hb⟩
      have K6 := Lib.hid hb
      have H6 := Lib.hid (List_any (HL.out w6 (below_next B5.out hb)) he HEM.out HR1.out HR2.out)
      clear hb H5 a0 a1 a2 a3 a4 b0 b1 b2 b3 b4
      go_wp2_with fail
      refine (H6.out).mono ?_
      rintro e0 w7 ⟨vL, rfl, hoL, hb⟩
      obtain ⟨k5, i5, t5, A5, n5, c5, A5', n5', c5', rfl⟩ := hoL.form
      have K7 := Lib.hid (below_next K6.out hb)
      have OL := Lib.hid hoL.lies
      have H7 := Lib.hid (refList_any (c := e) (HL.out w7 (B5.out.trans (K7.out.mono B5.out.size))) HR1.out)
      clear hb hoL H6
      go_wp2_with fail
      refine (H7.out).mono ?_
      rintro e0 w8 ⟨vM, rfl, hlM, hb⟩
      obtain ⟨k6, i6, t6, A6, n6, c6, A6', n6', c6', rfl⟩ := hlM.formV
      have K8 := Lib.hid (below_next K7.out hb)
      have H8 := Lib.hid (SM.out _ _ _ w8 (OL.out.below hb) hlM)
      clear hb hlM H7
      go_wp2_with fail
      refine (H8.out).mono ?_
      rintro e0 w9 ⟨rfl, hb⟩
      have K9 := Lib.hid (below_next K8.out hb)
      clear hb H8
      go_wp2_with fail
      go_loopg [54, 12] keys.length (fun gh iv _ wr => ∃ (j : Nat), j ≤ keys.length ∧ gh = keys.length - j ∧ iv = .int .i64 j ∧ Hid (Below w5.heap.size w5 wr))
      case atStart => exact ⟨0, by omega, rfl, rfl, K9⟩
      case round =>
        obtain ⟨j, hjn, rfl, rfl, HR⟩ := hrel
        by_cases hlt : j < keys.length
        · have g1 := List.getElem?_eq_getElem (l := keys) (i := j) hlt
          obtain ⟨hkz, gk, ok, rfl, hgk, ek⟩ := HS0.out j _ g1
          generalize keys[j]'hlt = kj at *
          have BW : Hid (Below w.heap.size w wr) := Lib.hid (B5.out.trans (HR.out.mono B5.out.size))
          rw [← BW.out.cell (p := ⟨gk, ok + j, none⟩) hgk] at ek
          have HJ : Hid (j + 1 ≤ keys.length) := Lib.hid hlt
          have PW := Lib.hid (P5.out.below HR.out P5.out.lt)
          have QW := Lib.hid (Q5.out.below HR.out Q5.out.lt)
          have MV : Hid (∀ W, Below wr.heap.size wr W → W.cell? ⟨w2.heap.size, 0, none⟩ = some (.int .i64 k1) ∧ W.cell? ⟨w2.heap.size, 1, none⟩ = some (.int .i64 i1) ∧ W.cell? ⟨w2.heap.size, 2, none⟩ = some (.string t1) ∧ W.cell? ⟨w2.heap.size, 3, none⟩ = some (.slice A1 n1 c1) ∧ W.cell? ⟨w2.heap.size, 4, none⟩ = some (.slice A1' n1' c1') ∧ W.cell? ⟨w4.heap.size, 0, none⟩ = some (.int .i64 k2) ∧ W.cell? ⟨w4.heap.size, 1, none⟩ = some (.int .i64 i2) ∧ W.cell? ⟨w4.heap.size, 2, none⟩ = some (.string t2) ∧ W.cell? ⟨w4.heap.size, 3, none⟩ = some (.slice A2 n2 c2) ∧ W.cell? ⟨w4.heap.size, 4, none⟩ = some (.slice A2' n2' c2')) := Lib.hid (fun W hb => by
            have P := PW.out.below hb PW.out.lt
            have Q := QW.out.below hb QW.out.lt
            exact ⟨P.cell 0, P.cell 1, P.cell 2, P.cell 3, P.cell 4, Q.cell 0, Q.cell 1, Q.cell 2, Q.cell 3, Q.cell 4⟩)
          have CT : Hid (∀ W, Calls Try.prog 15 #[.agg #[.int .i64 3, .int .i64 0, .string kj, .slice none 0 0, .slice none 0 0], .agg #[.int .i64 3, .int .i64 0, .string kj, .slice none 0 0, .slice none 0 0]] W (Gives (.bool true) W)) := Lib.hid (fun W => SM.out (xT kj) (xV kj) (xV kj) W (xT_lies _ _ _ hkz) (xT_lies _ _ _ hkz))
          have FA : Hid (∀ W, Below wr.heap.size wr W → Calls Try.prog 20 #[.string kj, .agg #[.int .i64 k1, .int .i64 i1, .string t1, .slice A1 n1 c1, .slice A1' n1' c1']] W (Copies (failT kj y') W)) := Lib.hid (fun W hb => Failure_any hkz (LA.out W (HR.out.trans (hb.mono HR.out.size))) RY.out)
          have FB : Hid (∀ W, Below wr.heap.size wr W → Calls Try.prog 21 #[.string kj, .agg #[.int .i64 k2, .int .i64 i2, .string t2, .slice A2 n2 c2, .slice A2' n2' c2']] W (MakesL (failT kj y') W)) := Lib.hid (fun W hb => refFailure_any hkz (LB.out W (HR.out.trans (hb.mono HR.out.size))))
          clear g1 hkz hgk
          go_wp2_with fail
          go_region_law (first
            | (go_simp; go_at_call 18; refine (Text_any kj _).mono ?_; rintro _ wT ⟨rfl, hbT⟩; have HT : Hid (Below wr.heap.size wr wT) := Lib.hid ⟨hbT.os, hbT.tape, hbT.output, hbT.size, hbT.block⟩; clear hbT)
            | (go_simp; go_at_call 19; refine (refText_any kj _).mono ?_; rintro _ wU ⟨rfl, hbU⟩; have HU : Hid (Below wr.heap.size wr wU) := Lib.hid (below_next HT.out hbU); have tokS1 : True := trivial; clear hbU)
            | (have _t := tokS1; go_simp; go_at_call 15; refine (CT.out _).mono ?_; rintro _ wV ⟨rfl, hbV⟩; have HV : Hid (Below wr.heap.size wr wV) := Lib.hid (below_next HU.out hbV); obtain ⟨d0, d1, d2, d3, d4, d5, d6, d7, d8, d9⟩ := MV.out wV HV.out; clear tokS1 hbV)
            | (go_simp; go_at_call 20; refine (FA.out _ HV.out).mono ?_; rintro _ wF ⟨vF, rfl, hoF, hbF⟩; obtain ⟨k3, i3, t3, A3, n3, c3, A3', n3', c3', rfl⟩ := hoF.form; have OF := Lib.hid hoF; have HF : Hid (Below wr.heap.size wr wF) := Lib.hid (below_next HV.out hbF); obtain ⟨g0, g1, g2, g3, g4, g5, g6, g7, g8, g9⟩ := MV.out wF HF.out; clear hoF hbF)
            | (go_simp; go_at_call 21; refine (FB.out _ HF.out).mono ?_; rintro _ wG ⟨vG, rfl, hlG, hbG⟩; obtain ⟨k4, i4, t4, A4, n4, c4, A4', n4', c4', rfl⟩ := hlG.formV; have LG := Lib.hid hlG; have HG : Hid (Below wr.heap.size wr wG) := Lib.hid (below_next HF.out hbG); have LF := Lib.hid (OF.out.lies.below hbG); have tokS2 : True := trivial; clear hlG hbG)
            | (have _t := tokS2; go_simp; go_at_call 15; refine (SM.out _ _ _ _ LF.out LG.out).mono ?_; rintro _ wH ⟨rfl, hbH⟩; have HH : Hid (Below wr.heap.size wr wH) := Lib.hid (below_next HG.out hbH); clear tokS2 hbH))
          all_goals (
            have KF : Hid (Below w5.heap.size w5 wH) := Lib.hid (HR.out.trans (HH.out.mono HR.out.size))
            clear ek
            go_wp2_with fail
            go_roundg (keys.length - (j + 1))
            case measure => have := HJ.out; omega
            case rel => exact ⟨j + 1, HJ.out, rfl, by go_num, KF⟩)
        · obtain rfl : j = keys.length := by omega
          obtain ⟨b, hb0⟩ : ∃ b, decide ((0 : Int) < n) = b := ⟨_, rfl⟩
          have BW : Hid (Below w.heap.size w wr) := Lib.hid (B5.out.trans (HR.out.mono B5.out.size))
          have CI : Hid (∀ W, Calls Try.prog 15 #[.agg #[.int .i64 2, .int .i64 n, .string ⟨#[]⟩, .slice none 0 0, .slice none 0 0], .agg #[.int .i64 2, .int .i64 n, .string ⟨#[]⟩, .slice none 0 0, .slice none 0 0]] W (Gives (.bool true) W)) := Lib.hid (fun W => SM.out (iT n) (iV n) (iV n) W (iT_lies _ _ _ HN.out) (iT_lies _ _ _ HN.out))
          have CB : Hid (∀ W, Calls Try.prog 15 #[boolV b, boolV b] W (Gives (.bool true) W)) := Lib.hid (fun W => by
            have h : Lies W (Lo W) (.mk 1 (if b = true then 1 else 0) ⟨#[]⟩ [] []) (boolV b) := by
              rw [Lies]
              exact ⟨none, 0, none, 0, rfl, by omega, by cases b <;> decide, by decide, Nat.le_refl _, by omega, LiesL.none_, Nat.le_refl _, by omega, LiesS.none_⟩
            exact SM.out _ _ _ W h h)
          have CZ : Hid (∀ W, Calls Try.prog 15 #[.agg #[.int .i64 0, .int .i64 0, .string ⟨#[]⟩, .slice none 0 0, .slice none 0 0], .agg #[.int .i64 0, .int .i64 0, .string ⟨#[]⟩, .slice none 0 0, .slice none 0 0]] W (Gives (.bool true) W)) := Lib.hid (fun W => SM.out nullT zeroV zeroV W (zero_lies _ _) (zero_lies _ _))
          clear hlt
          go_wp2_with fail
          refine (Int_any n wr).mono ?_
          rintro e0 x1 ⟨rfl, hb⟩
          have X1 := Lib.hid (below_next BW.out hb)
          clear hb
          go_wp2_with fail
          refine (refInt_any n x1).mono ?_
          rintro e0 x2 ⟨rfl, hb⟩
          have X2 := Lib.hid (below_next X1.out hb)
          clear hb
          go_wp2_with fail
          refine (CI.out x2).mono ?_
          rintro e0 x3 ⟨rfl, hb⟩
          have X3 := Lib.hid (below_next X2.out hb)
          clear hb
          go_wp2_with fail
          refine (Bool_any b x3).mono ?_
          rintro e0 x4 ⟨rfl, hb⟩
          have X4 := Lib.hid (below_next X3.out hb)
          clear hb
          go_wp2_with fail
          refine (refBool_any b x4).mono ?_
          rintro e0 x5 ⟨rfl, hb⟩
          have X5 := Lib.hid (below_next X4.out hb)
          clear hb
          go_wp2_with fail
          refine (CB.out x5).mono ?_
          rintro e0 x6 ⟨rfl, hb⟩
          have X6 := Lib.hid (below_next X5.out hb)
          clear hb
          go_wp2_with fail
          refine (Null_any x6).mono ?_
          unfold zeroV
          rintro e0 x7 ⟨rfl, hb⟩
          have X7 := Lib.hid (below_next X6.out hb)
          clear hb
          go_wp2_with fail
          refine (CZ.out x7).mono ?_
          rintro e0 x8 ⟨rfl, hb⟩
          have X8 := Lib.hid (below_next X7.out hb)
          clear hb
          go_wp2_with fail
          refine (works_any x8).mono ?_
          rintro e0 x9 ⟨rfl, hb⟩
          have X9 := Lib.hid (below_next X8.out hb)
          clear hb
          go_wp2
          go_ret
          exact ⟨rfl, X9.out⟩
end Go.Proofs.Ytjbjoalinfhahaa
namespace Go.Proofs.Ytjbjoalinfhahaa.valueBuilds
open Go.ChangeShapes Go.WideShapes Go.ChangeAt Go.RowKit
open Go.ChangeMaps (open_string)
set_option linter.unusedVariables false

theorem own : ownKnob Try.prog.godebug = none := by kernel_rfl
theorem laidOut : laidOutB Try.prog = true := by kernel_rfl

set_option maxRecDepth 100000 in
theorem lifted (os : Os) (started : os.Started) (H : Type) (enc : TypeId × Value → H) :
    ReturnsInHanded {} Try.checked os 3 .any (Rows.valueBuildsSpec.pre6 enc Try.prog Try.f3 Rows.valueBuildsRow.domain false) (Rows.valueBuildsSpec.post enc Try.prog Try.f3 false true false false) := by
  refine returnsInHanded_of_change_sized (C := Try.checked) own started (by kernel_rfl) Try.func3
    (ChangeSpec.witness6 (enc := enc) (C := Try.checked) false ⟨#[], #[.slice none 0 0, .slice none 0 0, .int .i64 0], []⟩ 8 (by kernel_rfl) (by kernel_rfl) (by kernel_rfl) (by kernel_rfl)) ?_
  intro W base args ds gs before hval0 hW hcnd hwt _
  have hval : ∀ (j : Nat) t v, Try.f3.params[j]? = some t → args[j]? = some v → Value.okWide Try.prog W .any base t v := hval0
  have hW' := hW
  obtain ⟨p, q, hA0, hV, rfl, hfz, hnd⟩ := hW
  have hA : DataW.TrodAll enc Try.prog W 0 (fun _ => true) true Try.f3.params.toList args.toList ds p := hA0
  rw [Try.params3] at hA hval
  obtain ⟨v0, vs0, d0, ds0, p0, q0, hargs, rfl, rfl, h0, r0⟩ := trodAll_cons hA
  obtain ⟨v1, vs1, d1, ds1, p1, q1, rfl, rfl, rfl, h1, r1⟩ := trodAll_cons r0
  obtain ⟨v2, vs2, d2, ds2, p2, q2, rfl, rfl, rfl, h2, r2⟩ := trodAll_cons r1
  obtain ⟨rfl, rfl, rfl⟩ := trodAll_nil r2
  obtain rfl : args = #[v0, v1, v2] := by cases args; simp_all
  obtain ⟨rfl, rfl⟩ := trodVars_none hV
  have k0 := h0
  have lt0 : ∀ x ∈ p0, x.block < W.heap.size := by obtain ⟨m, hm⟩ := k0; exact DataW.trod_lt m _ _ _ hm
  obtain ⟨A0, c0, l0, rfl, m0, n0, o0⟩ := opens.strs (hval 0 22 v0 rfl rfl) h0
  have k1 := h1
  have lt1 : ∀ x ∈ p1, x.block < W.heap.size := by obtain ⟨m, hm⟩ := k1; exact DataW.trod_lt m _ _ _ hm
  obtain ⟨A1, c1, l1, rfl, m1, n1, o1, u1, w1⟩ := opens.values_reach (hval 1 23 v1 rfl rfl) h1 (fun n hn => of_decide_eq_true ((List.all_eq_true.1 hwt) n (DataW.weights_mem_each (j := 1) rfl rfl n hn)))
  have k2 := h2
  have lt2 : ∀ x ∈ p2, x.block < W.heap.size := by obtain ⟨m, hm⟩ := k2; exact DataW.trod_lt m _ _ _ hm
  obtain ⟨a2, rfl, _, _, w2⟩ := open_int Try.underlying3 (hval 2 3 v2 rfl rfl) h2
  clear hA0 hval0
  refine (ValueBuilds_walk A0 c0 l0 A1 c1 l1 a2 W m0 n0 o0 m1 n1 o1 u1 w1 (opens.int64 w2).1 (opens.int64 w2).2).mono fun e W' ⟨he, bel⟩ => ?_
  subst he
  exact ⟨_, rfl, _, _, _, [], _, [], hW', trodAll_mk1 (shut_bool Try.underlying4 _), (trodAll_cons_mk (Below.trod laidOut (by kernel_rfl) (of_decide_eq_true (by kernel_rfl)) k0 bel lt0) (trodAll_cons_mk (Below.trod laidOut (by kernel_rfl) (of_decide_eq_true (by kernel_rfl)) k1 bel lt1) (trodAll_cons_mk (Below.trod laidOut (by kernel_rfl) (of_decide_eq_true (by kernel_rfl)) k2 bel lt2) (trodAll_mk0)))), rfl, bel.frame _, fun h => by cases h⟩

theorem over : Rows.valueBuildsRow.holds Try.pinned (OpenSpec.ofChange Rows.valueBuildsSpec) :=
  OpenClaim.holds_of_wide 3 Try.f3 rfl rfl rfl rfl rfl rfl rfl ⟨rfl, rfl, rfl, rfl, rfl⟩ rfl rfl rfl rfl rfl (by kernel_rfl) Try.func3 (by kernel_rfl)
    (of_decide_eq_true (by kernel_rfl)) (by unfold Func.isWrapper; first | (rw [if_pos (by decide +kernel)]; kernel_rfl) | (rw [if_neg (by decide +kernel)]; exact ⟨rfl, rfl⟩))
    (fun os started H enc _ => lifted os started H enc)

theorem proved : Rows.ValueBuildsSaid := over
end Go.Proofs.Ytjbjoalinfhahaa.valueBuilds
