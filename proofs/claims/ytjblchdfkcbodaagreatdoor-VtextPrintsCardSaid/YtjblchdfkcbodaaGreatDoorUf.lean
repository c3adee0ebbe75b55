/-
  appendElements of the code. (Written by gen_uf.py.)
-/
import Derived.Test.YtjblchdfkcbodaaGreatDoorUe
namespace Go.Proofs.YtjblchdfkcbodaaGreatDoor
open Go.RowKit

/-- what appendPayload is asked of values of at most m nodes -/
def TxtUpto (m : Nat) : Prop := ∀ (x : VT) (w : World) (v : Value) (base n c : Nat) (A : Option Addr) (l : List UInt8), x.size ≤ m → x.all okF = true → Lies w (fun b => b < base) x v → w.ownsRow base 5 1 (.slice A n c) n (l.map b8) → base ≤ w.heap.size →
  n + 4 * x.txt.length ≤ 100000000 → PowTab base w → Calls Tryz.prog 18 #[.slice A n c, v] w (AppB base (.slice A n c) w (l ++ x.txt))

set_option maxRecDepth 100000 in
set_option maxHeartbeats 4000000 in
set_option linter.unusedVariables false in
theorem elems_4 (m : Nat) (IH : Hid (TxtUpto m)) (i : Int) (t : ByteArray) (its : List VT) (ks : List ByteArray) (A : Option Addr) (c : Nat) (A' : Option Addr) (c' : Nat) (w : World) (base n0 c0 : Nat) (A0 : Option Addr) (l : List UInt8)
    (hL : LiesL w (fun b => b < base) A 0 its) (h1 : its.length ≤ c) (h2 : c ≤ 9223372036854775807) (hsz : sizes its ≤ m) (hw : alls okF its = true)
    (ho : w.ownsRow base 5 1 (.slice A0 n0 c0) n0 (l.map b8)) (hB : base ≤ w.heap.size) (hn : n0 + 4 * (txts false true its ks).length ≤ 100000000) (hT : PowTab base w) :
    Calls Tryz.prog 39 #[.slice A0 n0 c0, vag 4 i t A its.length c A' ks.length c'] w (AppB base (.slice A0 n0 c0) w (l ++ txts false true its ks)) := by
  obtain ⟨ti, hti, hz, htz, hby⟩ := info_parts Tryz.infob
  have HL := Lib.hid hL
  have HWF := Lib.hid hw
  have HNN := Lib.hid hn
  have Hfalse := Lib.hid hB
  have HTT := Lib.hid hT
  have HL0 := Lib.hid (own_len ho)
  have hcc : n0 ≤ c0 ∧ c0 ≤ 9223372036854775807 := by
    obtain ⟨A9, c9, e9, e1, e2⟩ := own_form ho
    injection e9 with _ _ e3
    subst e3
    unfold maxLen at e2
    exact ⟨e1, by omega⟩
  obtain ⟨w1, hw1⟩ : ∃ w1, w1 = w.alloc (.cells #[.int .i64 4, .int .i64 i, .string t, .slice A its.length c, .slice A' ks.length c'] 25) := ⟨_, rfl⟩
  have P1 : Hid (Bk w1 w.heap.size 25 #[.int .i64 4, .int .i64 i, .string t, .slice A its.length c, .slice A' ks.length c']) := Lib.hid (by rw [hw1]; exact Bk.new _ _ _)
  have F1 : Hid (Frm base w w1) := Lib.hid (by rw [hw1]; exact Frm.of_below (below_one _ _) hB)
  have G1 : Hid (Grw w (Value.slice A0 n0 c0).ownBlock (Value.slice A0 n0 c0).ownBlock w1) := Lib.hid (by rw [hw1]; exact Grw.new (Grw.refl _ _))
  have O1 : Hid (w1.ownsRow base 5 1 (.slice A0 n0 c0) n0 (l.map b8)) := Lib.hid (by rw [hw1]; exact ho.alloc _)
  have HW := Lib.hid hw1
  clear hL hw hn hB ho hw1 hT
  unfold vag
  have p3 := P1.out.cell 3
  change _ = some (Value.slice A its.length c) at p3
  rw [HW.out] at p3
  go_enter Tryz.func39, Tryz.ntmps39
  go_wp2_with fail
  rw [← HW.out]
  go_loopw [10, 0, 5, 6] (fun s b _ _ wr => ∃ (j : Nat) (AI : Option Addr) (ni ci : Nat), j ≤ its.length ∧ s = .int .i64 j ∧ b = .slice AI ni ci ∧ ni ≤ ci ∧ ci ≤ 9223372036854775807 ∧ Hid ((l ++ txts false true (its.take j) ks).length = ni) ∧
    Hid (wr.ownsRow base 5 1 (.slice AI ni ci) ni ((l ++ txts false true (its.take j) ks).map b8)) ∧ Hid (Frm base w wr) ∧ Hid (Grw w (Value.slice A0 n0 c0).ownBlock (Value.slice AI ni ci).ownBlock wr) ∧ Hid (Bk wr w.heap.size 25 #[.int .i64 4, .int .i64 i, .string t, .slice A its.length c, .slice A' ks.length c'])) (fun s _ _ _ _ => its.length - (intOf s).toNat)
  case atStart => exact ⟨0, A0, n0, c0, by omega, rfl, rfl, hcc.1, hcc.2, Lib.hid (by simpa [txts] using HL0.out), Lib.hid (by simpa [txts] using O1.out), F1, G1, P1⟩
  case round =>
    obtain ⟨j, AI, ni, ci, hjn, rfl, rfl, hnc, hcm, hni, HO, HF, HG, HP⟩ := hrel
    have p0 := HP.out.cell 0
    change _ = some (Value.int .i64 4) at p0
    have p4 := HP.out.cell 4
    change _ = some (Value.slice A' ks.length c') at p4
    by_cases hlt : j < its.length
    · have g1 := List.getElem?_eq_getElem (l := its) (i := j) hlt
      obtain ⟨g, o, k', i', t', B, n', c1, B', n1, cc2, rfl, hg, e0, e1, e2, e3, e4, hx⟩ := (HL.out).at_ g1
      have hwx := all_at HWF.out g1
      have hle := size_at g1
      have htk := txts_take (m := false) (f := true) (ks := ks) g1
      have htl := txts_take_len false true its ks (j + 1)
      generalize its[j]'hlt = x at *
      have cc := fun (q : Nat) => HF.out.below.cell (p := ⟨g, q, none⟩) hg
      rw [Nat.zero_add] at e0 e1 e2 e3 e4
      rw [← cc] at e0 e1 e2 e3 e4
      have hlen : ni + 4 * ((if (true && decide (j = 0)) = true then [] else [44, 32]) ++ ((if false = true then quoL (ks.getD j ByteArray.empty).data.toList ++ [58, 32] else []) ++ x.txt)).length ≤ 100000000 := by
        have h3 := HNN.out
        have h4 := hni.out
        have h5 := HL0.out
        rw [htk, List.length_append] at htl
        rw [List.length_append] at h4
        omega
      have HX := Lib.hid (fun (W : World) (hb : Below base w W) => (hx.keep (fun p hp => hb.cell hp) (fun _ h => h) : Lies W (fun b => b < base) x _))
      have HTK := Lib.hid htk
      have HWX := Lib.hid hwx
      have HLE := Lib.hid hle
      obtain ⟨wa, hwa⟩ : ∃ wa, wa = wr.alloc (.cells #[.int .i64 k', .int .i64 i', .string t', .slice B n' c1, .slice B' n1 cc2] 25) := ⟨_, rfl⟩
      have hbr : base ≤ wr.heap.size := Nat.le_trans Hfalse.out HF.out.below.size
      have QA : Hid (Bk wa wr.heap.size 25 #[.int .i64 k', .int .i64 i', .string t', .slice B n' c1, .slice B' n1 cc2]) := Lib.hid (by rw [hwa]; exact Bk.new _ _ _)
      have PA : Hid (Bk wa w.heap.size 25 #[.int .i64 4, .int .i64 i, .string t, .slice (some ⟨g, o, none⟩) its.length c, .slice A' ks.length c']) := Lib.hid (by rw [hwa]; exact HP.out.alloc _)
      have FA : Hid (Frm base w wa) := Lib.hid (by rw [hwa]; exact HF.out.trans (Frm.of_below (below_one _ _) hbr))
      have GA : Hid (Grw w (Value.slice A0 n0 c0).ownBlock (Value.slice AI ni ci).ownBlock wa) := Lib.hid (by rw [hwa]; exact HG.out.trans (Grw.new (Grw.refl _ _)))
      have OA : Hid (wa.ownsRow base 5 1 (.slice AI ni ci) ni ((l ++ txts false true (its.take j) ks).map b8)) := Lib.hid (by rw [hwa]; exact HO.out.alloc _)
      have BA : Hid (base ≤ wa.heap.size) := Lib.hid (by rw [hwa]; simp; omega)
      have HWA := Lib.hid hwa
      obtain ⟨L1, hL1⟩ : ∃ L1, L1 = l ++ txts false true (its.take j) ks := ⟨_, rfl⟩
      rw [← hL1] at OA
      have HL1 := Lib.hid hL1
      clear hx cc htk htl hwx hle g1 hwa hbr hL1
      rcases Nat.eq_zero_or_pos j with hj0 | hj0
      · have hd : (if (true && decide (j = 0)) = true then ([] : List UInt8) else [44, 32]) = [] := by subst hj0; rfl
        rw [hd, List.nil_append] at hlen HTK
        have HLN := Lib.hid hlen
        have hgt : ¬ ((0 : Int) < (j : Int)) := by omega
        clear hlen hd hj0
        have pa0 := PA.out.cell 0
        change _ = some (Value.int .i64 4) at pa0
        rw [HWA.out] at pa0
        clear p4 p0
        have HNW : Hid (ni + 4 * x.txt.length ≤ 100000000) := Lib.hid (by have := HLN.out; simpa using this)
        have HEQ : Hid (L1 ++ x.txt = l ++ txts false true (its.take (j + 1)) ks) := Lib.hid (by rw [HTK.out, HL1.out]; simp)
        have HV := Lib.hid (IH.out x wa _ base ni ci AI _ (by have := HLE.out; omega) HWX.out (HX.out wa FA.out.below) OA.out BA.out HNW.out (HTT.out.on FA.out.below))
        have PW := PA
        have FX := FA
        have GX := GA
        have OX := OA
        have BO := BA
        unfold vag at HV
        go_wp2_with fail
        rw [← HWA.out]
        refine (HV.out).mono ?_
        rintro _ w5 ⟨A5, n5, c5, rfl, hl5, h5, h6, O5, G5⟩
        have F5 := Lib.hid (Frm.of_grw G5.out OX.out BO.out)
        have GG5 := Lib.hid (GX.out.trans G5.out)
        have P5 := Lib.hid (F5.out.keep _ _ _ PW.out (by decide))
        have FF5 := Lib.hid (FX.out.trans F5.out)
        have E5 := Lib.hid HEQ.out
        go_wp2
        go_roundw
        case rel => exact ⟨j + 1, A5, n5, c5, by omega, by go_num, rfl, h5, h6, Lib.hid (by rw [← E5.out]; exact hl5.out), Lib.hid (by rw [← E5.out]; exact O5.out), FF5, GG5, P5⟩
        case measure => simp [intOf]; omega
      · have hd : (if (true && decide (j = 0)) = true then ([] : List UInt8) else [44, 32]) = [44, 32] := by
          have : j ≠ 0 := by omega
          simp [this]
        rw [hd] at hlen HTK
        have HLN := Lib.hid hlen
        have hgt : (0 : Int) < (j : Int) := by omega
        have hni2 : ni + 2 ≤ 100000000 := by
          rw [List.length_append] at hlen
          have : ([44, 32] : List UInt8).length = 2 := rfl
          omega
        clear hlen hd p4 p0
        go_wp2_with (at_builtin; rw [← HWA.out]; refine wpList_append_str_at rfl _ _ 38 9 rfl base 5 ti Tryz.underlying38 Tryz.underlying9 hti hz htz hby _ _ _ rfl OA.out ⟨#[44, 32]⟩ rfl ?_ ?_ ?_ ?_)
        · first | omega | (unfold maxLen; omega) | (show ni + 2 ≤ maxLen; unfold maxLen; omega)
        · first | omega | (show ni + 2 ≤ _; omega)
        · exact BA.out
        · intro v3 w3 ho3 hg3
          obtain ⟨L3, hL3⟩ : ∃ L3, L3 = L1 ++ [44, 32] := ⟨_, rfl⟩
          have ho4 : w3.ownsRow base 5 1 v3 (ni + 2) (L3.map b8) := by rw [hL3, List.map_append]; exact ho3
          have HL3 := Lib.hid hL3
          have F3 := Lib.hid (Frm.of_grw hg3 OA.out BA.out)
          obtain ⟨A3, c3, rfl, h3, h4⟩ := own_form ho4
          have O3 := Lib.hid ho4
          have G3 := Lib.hid (GA.out.trans hg3)
          have P3 := Lib.hid (F3.out.keep _ _ _ PA.out (by decide))
          have Q3 := Lib.hid (F3.out.keep _ _ _ QA.out (by decide))
          have FW := Lib.hid (FA.out.trans F3.out)
          have BW : Hid (base ≤ w3.heap.size) := Lib.hid (Nat.le_trans BA.out F3.out.below.size)
          clear ho3 ho4 hg3 hL3
          have pa0 := P3.out.cell 0
          change _ = some (Value.int .i64 4) at pa0
          have HNW : Hid (ni + 2 + 4 * x.txt.length ≤ 100000000) := Lib.hid (by have := HLN.out; simp at this; omega)
          have HEQ : Hid (L3 ++ x.txt = l ++ txts false true (its.take (j + 1)) ks) := Lib.hid (by rw [HTK.out, HL3.out, HL1.out]; simp)
          have HV := Lib.hid (IH.out x w3 _ base (ni + 2) c3 A3 _ (by have := HLE.out; omega) HWX.out (HX.out w3 FW.out.below) O3.out BW.out HNW.out (HTT.out.on FW.out.below))
          have q0 := Q3.out.cell 0
          have q1 := Q3.out.cell 1
          have q2 := Q3.out.cell 2
          have q3 := Q3.out.cell 3
          have q4 := Q3.out.cell 4
          have PW := P3
          have FX := FW
          have GX := G3
          have OX := O3
          have BO := BW
          unfold vag at HV
          clear e0 e1 e2 e3 e4
          go_wp2_with fail
          refine (HV.out).mono ?_
          rintro _ w5 ⟨A5, n5, c5, rfl, hl5, h5, h6, O5, G5⟩
          have F5 := Lib.hid (Frm.of_grw G5.out OX.out BO.out)
          have GG5 := Lib.hid (GX.out.trans G5.out)
          have P5 := Lib.hid (F5.out.keep _ _ _ PW.out (by decide))
          have FF5 := Lib.hid (FX.out.trans F5.out)
          have E5 := Lib.hid HEQ.out
          go_wp2
          go_roundw
          case rel => exact ⟨j + 1, A5, n5, c5, by omega, by go_num, rfl, h5, h6, Lib.hid (by rw [← E5.out]; exact hl5.out), Lib.hid (by rw [← E5.out]; exact O5.out), FF5, GG5, P5⟩
          case measure => simp [intOf]; omega
    · obtain rfl : j = its.length := by omega
      have O8 : Hid (wr.ownsRow base 5 1 (.slice AI ni ci) ni ((l ++ txts false true its ks).map b8)) := Lib.hid (by have := HO.out; rwa [List.take_length] at this)
      have L8 : Hid ((l ++ txts false true its ks).length = ni) := Lib.hid (by have := hni.out; rwa [List.take_length] at this)
      go_wp2
      go_ret
      exact ⟨AI, ni, ci, rfl, L8, hnc, hcm, O8, HG⟩

set_option maxRecDepth 100000 in
set_option maxHeartbeats 4000000 in
set_option linter.unusedVariables false in
theorem elems_5 (m : Nat) (IH : Hid (TxtUpto m)) (i : Int) (t : ByteArray) (its : List VT) (ks : List ByteArray) (A : Option Addr) (c : Nat) (A' : Option Addr) (c' : Nat) (w : World) (base n0 c0 : Nat) (A0 : Option Addr) (l : List UInt8)
    (hL : LiesL w (fun b => b < base) A 0 its) (hS : LiesS w (fun b => b < base) A' ks) (hk : ks.length = its.length) (hkc : ks.length ≤ c') (hcm' : c' ≤ 9223372036854775807) (h1 : its.length ≤ c) (h2 : c ≤ 9223372036854775807) (hsz : sizes its ≤ m) (hw : alls okF its = true)
    (ho : w.ownsRow base 5 1 (.slice A0 n0 c0) n0 (l.map b8)) (hB : base ≤ w.heap.size) (hn : n0 + 4 * (txts true true its ks).length ≤ 100000000) (hT : PowTab base w) :
    Calls Tryz.prog 39 #[.slice A0 n0 c0, vag 5 i t A its.length c A' ks.length c'] w (AppB base (.slice A0 n0 c0) w (l ++ txts true true its ks)) := by
  obtain ⟨ti, hti, hz, htz, hby⟩ := info_parts Tryz.infob
  have HL := Lib.hid hL
  have HWF := Lib.hid hw
  have HNN := Lib.hid hn
  have Htrue := Lib.hid hB
  have HTT := Lib.hid hT
  have HL0 := Lib.hid (own_len ho)
  have HS := Lib.hid hS
  have HKL := Lib.hid hk
  have hcc : n0 ≤ c0 ∧ c0 ≤ 9223372036854775807 := by
    obtain ⟨A9, c9, e9, e1, e2⟩ := own_form ho
    injection e9 with _ _ e3
    subst e3
    unfold maxLen at e2
    exact ⟨e1, by omega⟩
  obtain ⟨w1, hw1⟩ : ∃ w1, w1 = w.alloc (.cells #[.int .i64 5, .int .i64 i, .string t, .slice A its.length c, .slice A' ks.length c'] 25) := ⟨_, rfl⟩
  have P1 : Hid (Bk w1 w.heap.size 25 #[.int .i64 5, .int .i64 i, .string t, .slice A its.length c, .slice A' ks.length c']) := Lib.hid (by rw [hw1]; exact Bk.new _ _ _)
  have F1 : Hid (Frm base w w1) := Lib.hid (by rw [hw1]; exact Frm.of_below (below_one _ _) hB)
  have G1 : Hid (Grw w (Value.slice A0 n0 c0).ownBlock (Value.slice A0 n0 c0).ownBlock w1) := Lib.hid (by rw [hw1]; exact Grw.new (Grw.refl _ _))
  have O1 : Hid (w1.ownsRow base 5 1 (.slice A0 n0 c0) n0 (l.map b8)) := Lib.hid (by rw [hw1]; exact ho.alloc _)
  have HW := Lib.hid hw1
  clear hL hw hn hB ho hw1 hT hS hk
  unfold vag
  have p3 := P1.out.cell 3
  change _ = some (Value.slice A its.length c) at p3
  rw [HW.out] at p3
  go_enter Tryz.func39, Tryz.ntmps39
  go_wp2_with fail
  rw [← HW.out]
  go_loopw [10, 0, 5, 6] (fun s b _ _ wr => ∃ (j : Nat) (AI : Option Addr) (ni ci : Nat), j ≤ its.length ∧ s = .int .i64 j ∧ b = .slice AI ni ci ∧ ni ≤ ci ∧ ci ≤ 9223372036854775807 ∧ Hid ((l ++ txts true true (its.take j) ks).length = ni) ∧
    Hid (wr.ownsRow base 5 1 (.slice AI ni ci) ni ((l ++ txts true true (its.take j) ks).map b8)) ∧ Hid (Frm base w wr) ∧ Hid (Grw w (Value.slice A0 n0 c0).ownBlock (Value.slice AI ni ci).ownBlock wr) ∧ Hid (Bk wr w.heap.size 25 #[.int .i64 5, .int .i64 i, .string t, .slice A its.length c, .slice A' ks.length c'])) (fun s _ _ _ _ => its.length - (intOf s).toNat)
  case atStart => exact ⟨0, A0, n0, c0, by omega, rfl, rfl, hcc.1, hcc.2, Lib.hid (by simpa [txts] using HL0.out), Lib.hid (by simpa [txts] using O1.out), F1, G1, P1⟩
  case round =>
    obtain ⟨j, AI, ni, ci, hjn, rfl, rfl, hnc, hcm, hni, HO, HF, HG, HP⟩ := hrel
    have p0 := HP.out.cell 0
    change _ = some (Value.int .i64 5) at p0
    have p4 := HP.out.cell 4
    change _ = some (Value.slice A' ks.length c') at p4
    by_cases hlt : j < its.length
    · have g1 := List.getElem?_eq_getElem (l := its) (i := j) hlt
      obtain ⟨g, o, k', i', t', B, n', c1, B', n1, cc2, rfl, hg, e0, e1, e2, e3, e4, hx⟩ := (HL.out).at_ g1
      have hwx := all_at HWF.out g1
      have hle := size_at g1
      have htk := txts_take (m := true) (f := true) (ks := ks) g1
      have htl := txts_take_len true true its ks (j + 1)
      generalize its[j]'hlt = x at *
      have cc := fun (q : Nat) => HF.out.below.cell (p := ⟨g, q, none⟩) hg
      rw [Nat.zero_add] at e0 e1 e2 e3 e4
      rw [← cc] at e0 e1 e2 e3 e4
      have hlen : ni + 4 * ((if (true && decide (j = 0)) = true then [] else [44, 32]) ++ ((if true = true then quoL (ks.getD j ByteArray.empty).data.toList ++ [58, 32] else []) ++ x.txt)).length ≤ 100000000 := by
        have h3 := HNN.out
        have h4 := hni.out
        have h5 := HL0.out
        rw [htk, List.length_append] at htl
        rw [List.length_append] at h4
        omega
      have HX := Lib.hid (fun (W : World) (hb : Below base w W) => (hx.keep (fun p hp => hb.cell hp) (fun _ h => h) : Lies W (fun b => b < base) x _))
      have HTK := Lib.hid htk
      have HWX := Lib.hid hwx
      have HLE := Lib.hid hle
      obtain ⟨wa, hwa⟩ : ∃ wa, wa = wr.alloc (.cells #[.int .i64 k', .int .i64 i', .string t', .slice B n' c1, .slice B' n1 cc2] 25) := ⟨_, rfl⟩
      have hbr : base ≤ wr.heap.size := Nat.le_trans Htrue.out HF.out.below.size
      have QA : Hid (Bk wa wr.heap.size 25 #[.int .i64 k', .int .i64 i', .string t', .slice B n' c1, .slice B' n1 cc2]) := Lib.hid (by rw [hwa]; exact Bk.new _ _ _)
      have PA : Hid (Bk wa w.heap.size 25 #[.int .i64 5, .int .i64 i, .string t, .slice (some ⟨g, o, none⟩) its.length c, .slice A' ks.length c']) := Lib.hid (by rw [hwa]; exact HP.out.alloc _)
      have FA : Hid (Frm base w wa) := Lib.hid (by rw [hwa]; exact HF.out.trans (Frm.of_below (below_one _ _) hbr))
      have GA : Hid (Grw w (Value.slice A0 n0 c0).ownBlock (Value.slice AI ni ci).ownBlock wa) := Lib.hid (by rw [hwa]; exact HG.out.trans (Grw.new (Grw.refl _ _)))
      have OA : Hid (wa.ownsRow base 5 1 (.slice AI ni ci) ni ((l ++ txts true true (its.take j) ks).map b8)) := Lib.hid (by rw [hwa]; exact HO.out.alloc _)
      have BA : Hid (base ≤ wa.heap.size) := Lib.hid (by rw [hwa]; simp; omega)
      have HWA := Lib.hid hwa
      obtain ⟨L1, hL1⟩ : ∃ L1, L1 = l ++ txts true true (its.take j) ks := ⟨_, rfl⟩
      rw [← hL1] at OA
      have HL1 := Lib.hid hL1
      clear hx cc htk htl hwx hle g1 hwa hbr hL1
      rcases Nat.eq_zero_or_pos j with hj0 | hj0
      · have hd : (if (true && decide (j = 0)) = true then ([] : List UInt8) else [44, 32]) = [] := by subst hj0; rfl
        rw [hd, List.nil_append] at hlen HTK
        have HLN := Lib.hid hlen
        have hgt : ¬ ((0 : Int) < (j : Int)) := by omega
        clear hlen hd hj0
        have pa0 := PA.out.cell 0
        change _ = some (Value.int .i64 5) at pa0
        rw [HWA.out] at pa0
        clear p4 p0
        have hkj : ks[j]? = some (ks.getD j ByteArray.empty) := by rw [List.getD_eq_getElem?_getD, List.getElem?_eq_getElem (by have := HKL.out; omega)]; rfl
        obtain ⟨_, gk, ok, rfl, hgk, f0⟩ := HS.out j _ hkj
        have hjk : j < ks.length := by have := HKL.out; omega
        rw [← FA.out.below.cell (p := ⟨gk, ok + j, none⟩) hgk] at f0
        generalize ks.getD j ByteArray.empty = sk at *
        have hsk := quoL_len sk.data.toList
        have hsl : sk.data.toList.length = sk.size := rfl
        have hbd : ni + 4 * (quoL sk.data.toList).length + 8 + 4 * x.txt.length ≤ 100000000 := by have := HLN.out; simp at this; omega
        have HT4 := Lib.hid (literal_app base AI (ni) ci L1 sk wa OA.out BA.out (by omega))
        have HBD := Lib.hid hbd
        have pa4 := PA.out.cell 4
        change _ = some (Value.slice (some ⟨gk, ok, none⟩) ks.length c') at pa4
        rw [HWA.out] at pa4 f0
        clear hkj hbd hsk hsl
        go_wp2_with fail
        rw [← HWA.out]
        refine (HT4.out).mono ?_
        rintro _ w6 ⟨A6, n6, c6, rfl, hl6, h61, h62, O6, G6⟩
        have F6 := Lib.hid (Frm.of_grw G6.out OA.out BA.out)
        have GG6 := Lib.hid (GA.out.trans G6.out)
        have hn6 : n6 = ni + (quoL sk.data.toList).length := by
          have h3 := hl6.out
          have h4 := own_len OA.out
          rw [List.length_append] at h3
          omega
        obtain ⟨L6, hL6⟩ : ∃ L6, L6 = L1 ++ quoL sk.data.toList := ⟨_, rfl⟩
        rw [← hL6] at O6
        have HL6 := Lib.hid hL6
        clear hL6 hl6
        have Q6 := Lib.hid (F6.out.keep _ _ _ QA.out (by decide))
        have P6 := Lib.hid (F6.out.keep _ _ _ PA.out (by decide))
        have FW6 := Lib.hid (FA.out.trans F6.out)
        have BW6 : Hid (base ≤ w6.heap.size) := Lib.hid (Nat.le_trans BA.out F6.out.below.size)
        have hn7 : n6 ≤ 100000000 := by have := HBD.out; omega
        have HN6 := Lib.hid hn6
        clear pa0 pa4 f0 e0 e1 e2 e3 e4 hn6
        go_wp2_with (at_builtin; refine wpList_append_str_at rfl _ _ 38 9 rfl base 5 ti Tryz.underlying38 Tryz.underlying9 hti hz htz hby _ _ _ rfl O6.out ⟨#[58, 32]⟩ rfl ?_ ?_ ?_ ?_)
        · first | omega | (unfold maxLen; omega) | (show n6 + 2 ≤ maxLen; unfold maxLen; omega)
        · first | omega | (show n6 + 2 ≤ _; omega)
        · exact BW6.out
        · intro v7 w7 ho7 hg7
          obtain ⟨L7, hL7⟩ : ∃ L7, L7 = L6 ++ [58, 32] := ⟨_, rfl⟩
          have ho8 : w7.ownsRow base 5 1 v7 (n6 + 2) (L7.map b8) := by rw [hL7, List.map_append]; exact ho7
          have HL7 := Lib.hid hL7
          have F7 := Lib.hid (Frm.of_grw hg7 O6.out BW6.out)
          obtain ⟨A7, c7, rfl, h71, h72⟩ := own_form ho8
          have O7 := Lib.hid ho8
          have GX := Lib.hid (GG6.out.trans hg7)
          have OX := O7
          have PW := Lib.hid (F7.out.keep _ _ _ P6.out (by decide))
          have Q7 := Lib.hid (F7.out.keep _ _ _ Q6.out (by decide))
          have FX := Lib.hid (FW6.out.trans F7.out)
          have BX : Hid (base ≤ w7.heap.size) := Lib.hid (Nat.le_trans BW6.out F7.out.below.size)
          have BO := BX
          clear ho7 ho8 hg7 hL7
          have HEQ : Hid (L7 ++ x.txt = l ++ txts true true (its.take (j + 1)) ks) := Lib.hid (by rw [HTK.out, HL7.out, HL6.out, HL1.out]; simp)
          have HV := Lib.hid (IH.out x w7 _ base (n6 + 2) c7 A7 _ (by have := HLE.out; omega) HWX.out (HX.out w7 FX.out.below) O7.out BX.out (by have := HBD.out; have := HN6.out; omega) (HTT.out.on FX.out.below))
          have q0 := Q7.out.cell 0
          have q1 := Q7.out.cell 1
          have q2 := Q7.out.cell 2
          have q3 := Q7.out.cell 3
          have q4 := Q7.out.cell 4
          unfold vag at HV
          go_wp2_with fail
          refine (HV.out).mono ?_
          rintro _ w5 ⟨A5, n5, c5, rfl, hl5, h5, h6, O5, G5⟩
          have F5 := Lib.hid (Frm.of_grw G5.out OX.out BO.out)
          have GG5 := Lib.hid (GX.out.trans G5.out)
          have P5 := Lib.hid (F5.out.keep _ _ _ PW.out (by decide))
          have FF5 := Lib.hid (FX.out.trans F5.out)
          have E5 := Lib.hid HEQ.out
          go_wp2
          go_roundw
          case rel => exact ⟨j + 1, A5, n5, c5, by omega, by go_num, rfl, h5, h6, Lib.hid (by rw [← E5.out]; exact hl5.out), Lib.hid (by rw [← E5.out]; exact O5.out), FF5, GG5, P5⟩
          case measure => simp [intOf]; omega
      · have hd : (if (true && decide (j = 0)) = true then ([] : List UInt8) else [44, 32]) = [44, 32] := by
          have : j ≠ 0 := by omega
          simp [this]
        rw [hd] at hlen HTK
        have HLN := Lib.hid hlen
        have hgt : (0 : Int) < (j : Int) := by omega
        have hni2 : ni + 2 ≤ 100000000 := by
          rw [List.length_append] at hlen
          have : ([44, 32] : List UInt8).length = 2 := rfl
          omega
        clear hlen hd p4 p0
        go_wp2_with (at_builtin; rw [← HWA.out]; refine wpList_append_str_at rfl _ _ 38 9 rfl base 5 ti Tryz.underlying38 Tryz.underlying9 hti hz htz hby _ _ _ rfl OA.out ⟨#[44, 32]⟩ rfl ?_ ?_ ?_ ?_)
        · first | omega | (unfold maxLen; omega) | (show ni + 2 ≤ maxLen; unfold maxLen; omega)
        · first | omega | (show ni + 2 ≤ _; omega)
        · exact BA.out
        · intro v3 w3 ho3 hg3
          obtain ⟨L3, hL3⟩ : ∃ L3, L3 = L1 ++ [44, 32] := ⟨_, rfl⟩
          have ho4 : w3.ownsRow base 5 1 v3 (ni + 2) (L3.map b8) := by rw [hL3, List.map_append]; exact ho3
          have HL3 := Lib.hid hL3
          have F3 := Lib.hid (Frm.of_grw hg3 OA.out BA.out)
          obtain ⟨A3, c3, rfl, h3, h4⟩ := own_form ho4
          have O3 := Lib.hid ho4
          have G3 := Lib.hid (GA.out.trans hg3)
          have P3 := Lib.hid (F3.out.keep _ _ _ PA.out (by decide))
          have Q3 := Lib.hid (F3.out.keep _ _ _ QA.out (by decide))
          have FW := Lib.hid (FA.out.trans F3.out)
          have BW : Hid (base ≤ w3.heap.size) := Lib.hid (Nat.le_trans BA.out F3.out.below.size)
          clear ho3 ho4 hg3 hL3
          have pa0 := P3.out.cell 0
          change _ = some (Value.int .i64 5) at pa0
          have hkj : ks[j]? = some (ks.getD j ByteArray.empty) := by rw [List.getD_eq_getElem?_getD, List.getElem?_eq_getElem (by have := HKL.out; omega)]; rfl
          obtain ⟨_, gk, ok, rfl, hgk, f0⟩ := HS.out j _ hkj
          have hjk : j < ks.length := by have := HKL.out; omega
          rw [← FW.out.below.cell (p := ⟨gk, ok + j, none⟩) hgk] at f0
          generalize ks.getD j ByteArray.empty = sk at *
          have hsk := quoL_len sk.data.toList
          have hsl : sk.data.toList.length = sk.size := rfl
          have hbd : ni + 2 + 4 * (quoL sk.data.toList).length + 8 + 4 * x.txt.length ≤ 100000000 := by have := HLN.out; simp at this; omega
          have HT4 := Lib.hid (literal_app base A3 (ni + 2) c3 L3 sk w3 O3.out BW.out (by omega))
          have HBD := Lib.hid hbd
          have pa4 := P3.out.cell 4
          change _ = some (Value.slice (some ⟨gk, ok, none⟩) ks.length c') at pa4
          clear hkj hbd hsk hsl
          go_wp2_with fail
          refine (HT4.out).mono ?_
          rintro _ w6 ⟨A6, n6, c6, rfl, hl6, h61, h62, O6, G6⟩
          have F6 := Lib.hid (Frm.of_grw G6.out O3.out BW.out)
          have GG6 := Lib.hid (G3.out.trans G6.out)
          have hn6 : n6 = ni + 2 + (quoL sk.data.toList).length := by
            have h3 := hl6.out
            have h4 := own_len O3.out
            rw [List.length_append] at h3
            omega
          obtain ⟨L6, hL6⟩ : ∃ L6, L6 = L3 ++ quoL sk.data.toList := ⟨_, rfl⟩
          rw [← hL6] at O6
          have HL6 := Lib.hid hL6
          clear hL6 hl6
          have Q6 := Lib.hid (F6.out.keep _ _ _ Q3.out (by decide))
          have P6 := Lib.hid (F6.out.keep _ _ _ P3.out (by decide))
          have FW6 := Lib.hid (FW.out.trans F6.out)
          have BW6 : Hid (base ≤ w6.heap.size) := Lib.hid (Nat.le_trans BW.out F6.out.below.size)
          have hn7 : n6 ≤ 100000000 := by have := HBD.out; omega
          have HN6 := Lib.hid hn6
          clear pa0 pa4 f0 e0 e1 e2 e3 e4 hn6
          go_wp2_with (at_builtin; refine wpList_append_str_at rfl _ _ 38 9 rfl base 5 ti Tryz.underlying38 Tryz.underlying9 hti hz htz hby _ _ _ rfl O6.out ⟨#[58, 32]⟩ rfl ?_ ?_ ?_ ?_)
          · first | omega | (unfold maxLen; omega) | (show n6 + 2 ≤ maxLen; unfold maxLen; omega)
          · first | omega | (show n6 + 2 ≤ _; omega)
          · exact BW6.out
          · intro v7 w7 ho7 hg7
            obtain ⟨L7, hL7⟩ : ∃ L7, L7 = L6 ++ [58, 32] := ⟨_, rfl⟩
            have ho8 : w7.ownsRow base 5 1 v7 (n6 + 2) (L7.map b8) := by rw [hL7, List.map_append]; exact ho7
            have HL7 := Lib.hid hL7
            have F7 := Lib.hid (Frm.of_grw hg7 O6.out BW6.out)
            obtain ⟨A7, c7, rfl, h71, h72⟩ := own_form ho8
            have O7 := Lib.hid ho8
            have GX := Lib.hid (GG6.out.trans hg7)
            have OX := O7
            have PW := Lib.hid (F7.out.keep _ _ _ P6.out (by decide))
            have Q7 := Lib.hid (F7.out.keep _ _ _ Q6.out (by decide))
            have FX := Lib.hid (FW6.out.trans F7.out)
            have BX : Hid (base ≤ w7.heap.size) := Lib.hid (Nat.le_trans BW6.out F7.out.below.size)
            have BO := BX
            clear ho7 ho8 hg7 hL7
            have HEQ : Hid (L7 ++ x.txt = l ++ txts true true (its.take (j + 1)) ks) := Lib.hid (by rw [HTK.out, HL7.out, HL6.out, HL3.out, HL1.out]; simp)
            have HV := Lib.hid (IH.out x w7 _ base (n6 + 2) c7 A7 _ (by have := HLE.out; omega) HWX.out (HX.out w7 FX.out.below) O7.out BX.out (by have := HBD.out; have := HN6.out; omega) (HTT.out.on FX.out.below))
            have q0 := Q7.out.cell 0
            have q1 := Q7.out.cell 1
            have q2 := Q7.out.cell 2
            have q3 := Q7.out.cell 3
            have q4 := Q7.out.cell 4
            unfold vag at HV
            go_wp2_with fail
            refine (HV.out).mono ?_
            rintro _ w5 ⟨A5, n5, c5, rfl, hl5, h5, h6, O5, G5⟩
            have F5 := Lib.hid (Frm.of_grw G5.out OX.out BO.out)
            have GG5 := Lib.hid (GX.out.trans G5.out)
            have P5 := Lib.hid (F5.out.keep _ _ _ PW.out (by decide))
            have FF5 := Lib.hid (FX.out.trans F5.out)
            have E5 := Lib.hid HEQ.out
            go_wp2
            go_roundw
            case rel => exact ⟨j + 1, A5, n5, c5, by omega, by go_num, rfl, h5, h6, Lib.hid (by rw [← E5.out]; exact hl5.out), Lib.hid (by rw [← E5.out]; exact O5.out), FF5, GG5, P5⟩
            case measure => simp [intOf]; omega
    · obtain rfl : j = its.length := by omega
      have O8 : Hid (wr.ownsRow base 5 1 (.slice AI ni ci) ni ((l ++ txts true true its ks).map b8)) := Lib.hid (by have := HO.out; rwa [List.take_length] at this)
      have L8 : Hid ((l ++ txts true true its ks).length = ni) := Lib.hid (by have := hni.out; rwa [List.take_length] at this)
      go_wp2
      go_ret
      exact ⟨AI, ni, ci, rfl, L8, hnc, hcm, O8, HG⟩
end Go.Proofs.YtjblchdfkcbodaaGreatDoor
