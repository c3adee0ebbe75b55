/-
  ValueMaps returns true for every input, and its arguments read afterwards as they read before: the walk and what is nearest to it.
-/
import Derived.Test.YtidinbeanaifmaaVco
import Derived.Test.YtidinbeanaifmaaVinb
import Derived.Test.YtidinbeanaifmaaVgt
import Derived.Test.YtidinbeanaifmaaVmp
import Derived.Test.YtidinbeanaifmaaVcq
import Derived.Deep.RegionHeld3
import Derived.Deep.RegionLaw
import Derived.Deep.CutRange
import Derived.Test.YtidinbeanaifmaaVge
import Derived.Deep.LoopGhost
import Derived.Test.YtidinbeanaifmaaVrm
import Derived.Test.YtidinbeanaifmaaVsr
import Derived.Test.YtidinbeanaifmaaYValueMaps
namespace Go.Proofs.Ytidinbeanaifmaa
open Go.RowKit

def CopiesS (k i : Int) (t : ByteArray) (its : List VT) (ks : List ByteArray) (w : World) (e : Ending) (w' : World) : Prop := ∃ v B, e = .returned v ∧ Below w.heap.size w w' ∧ ∃ A c A' c' cs, v = vag k i t A its.length c A' ks.length c' ∧ w.heap.size ≤ B ∧
  w'.ownsRow w.heap.size 26 5 (.slice A its.length c) its.length cs ∧ (∀ g, (Value.slice A its.length c).ownBlock = some g → g < B) ∧ OwnC w' B its cs ∧
  w'.ownsRow w.heap.size 9 1 (.slice A' ks.length c') ks.length (ks.map Value.string) ∧ (∀ g, (Value.slice A' ks.length c').ownBlock = some g → g < B) ∧ (∀ s ∈ ks, s.size ≤ 9223372036854775807) ∧
  (-9223372036854775808 ≤ k ∧ k ≤ 9223372036854775807) ∧ (-9223372036854775808 ≤ i ∧ i ≤ 9223372036854775807) ∧ t.size ≤ 9223372036854775807

set_option maxRecDepth 100000 in
set_option maxHeartbeats 4000000 in
theorem Copy_sep {k i : Int} {t : ByteArray} {its : List VT} {ks : List ByteArray} {v : Value} {w : World} (hv : Lies w (Lo w) (.mk k i t its ks) v) (hre : (VT.mk k i t its ks).all reachF = true) : Calls Try.prog 28 #[v] w (CopiesS k i t its ks w) := by
    obtain ⟨m, hsz⟩ : ∃ m, (VT.mk k i t its ks).size ≤ m + 1 := ⟨(VT.mk k i t its ks).size, by omega⟩
    have IH := Lib.hid (copy_all m)
    obtain ⟨A, c, A', c', rfl, hki, hii, htm, hlc, hcm, hL, hkc, hcm', hS⟩ := hv.open
    rw [VT.size_mk] at hsz
    obtain ⟨r1, r2, r3⟩ := reach_mk hre
    have HK0 := Lib.hid (And.intro hki (And.intro hii htm))
    have HRE := Lib.hid r3
    obtain ⟨w2, hw2⟩ : ∃ w2, w2 = (w.alloc (.cells #[.int .i64 k, .int .i64 i, .string t, .slice A its.length c, .slice A' ks.length c'] 26)).alloc (.cells #[.int .i64 0, .int .i64 0, .string ⟨#[]⟩, .slice none 0 0, .slice none 0 0] 26) := ⟨_, rfl⟩
    have B2 : Hid (Below w.heap.size w w2) := Lib.hid (by rw [hw2]; exact (below_one _ _).trans (Below.alloc (Below.refl _ _) (by simp) _))
    have P2 : Hid (Bk w2 w.heap.size 26 #[.int .i64 k, .int .i64 i, .string t, .slice A its.length c, .slice A' ks.length c']) := Lib.hid (by rw [hw2]; exact (Bk.new _ _ _).alloc _)
    have Q2 : Hid (Bk w2 (w.heap.size + 1) 26 #[.int .i64 0, .int .i64 0, .string ⟨#[]⟩, .slice none 0 0, .slice none 0 0]) := Lib.hid (by rw [hw2]; have := Bk.new (w.alloc (.cells #[.int .i64 k, .int .i64 i, .string t, .slice A its.length c, .slice A' ks.length c'] 26)) 26 #[.int .i64 0, .int .i64 0, .string ⟨#[]⟩, .slice none 0 0, .slice none 0 0]; simpa using this)
    have HL := Lib.hid hL
    have K2 := Lib.hid (cloneS_any A' c' ks w2 (hS.below B2.out) r2)
    have R1 := Lib.hid r1
    have SS0 := Lib.hid hS.sizes
    have HW := Lib.hid hw2
    clear hw2 hv hL hS hre r1 r2 r3 hki hii htm
    unfold vag
    go_enter Try.func28, Try.ntmps28
    go_wp2_with fail
    rw [← HW.out]
    refine (K2.out).mono ?_
    rintro e w3 ⟨vk, rfl, hok, hb⟩
    obtain ⟨Ak, ck, rfl, _, _⟩ := own_form hok
    have p3 := P2.out.below hb P2.out.lt
    have q3 := Q2.out.below hb Q2.out.lt
    have hlt : w.heap.size + 1 < w2.heap.size := Q2.out.lt
    have f3 := p3.frozen 4
    have B3 := Lib.hid (below_next B2.out hb)
    have S3 : Hid (w2.heap.size ≤ w3.heap.size) := Lib.hid hb.size
    have OK3 := Lib.hid hok
    have PP := Lib.hid p3
    have QQ := Lib.hid q3
    have HLT := Lib.hid hlt
    have d4 := p3.cell 4
    have d3 := p3.cell 3
    clear hb hok p3 q3 hlt
    have B4 : Hid (Below w.heap.size w (w3.setCell ⟨w.heap.size, 4, none⟩ (.slice Ak ks.length ck))) := Lib.hid (B3.out.setCell (p := ⟨w.heap.size, 4, none⟩) (Nat.le_refl _) _)
    have K4 := Lib.hid (cloneV_any (fun b => b < w.heap.size) A c its _ (fun b hb => Nat.lt_of_lt_of_le hb B4.out.size) (HL.out.keep (fun q hq => B4.out.cell hq) (fun _ h => h)) R1.out)
    go_wp2_with fail
    obtain ⟨w4, hw4⟩ : ∃ w4, w4 = w3.setCell ⟨w.heap.size, 4, none⟩ (.slice Ak ks.length ck) := ⟨_, rfl⟩
    have P4 : Hid (Bk w4 w.heap.size 26 #[.int .i64 k, .int .i64 i, .string t, .slice A its.length c, .slice Ak ks.length ck]) := Lib.hid (by rw [hw4]; exact PP.out.put 4 _)
    have Q4 : Hid (Bk w4 (w.heap.size + 1) 26 #[.int .i64 0, .int .i64 0, .string ⟨#[]⟩, .slice none 0 0, .slice none 0 0]) := Lib.hid (by rw [hw4]; exact QQ.out.far (by show w.heap.size + 1 ≠ w.heap.size; omega) _)
    have Z4 : Hid (w3.heap.size = w4.heap.size) := Lib.hid (by rw [hw4]; simp [World.setCell])
    have OK4 : Hid (w4.ownsRow w2.heap.size 9 1 (.slice Ak ks.length ck) ks.length (ks.map Value.string)) := Lib.hid (by
      rw [hw4]; exact own_same OK3.out (fun b h1 _ => Below.heap_setCell _ _ _ _ (by have := HLT.out; show b ≠ w.heap.size; omega)))
    have OKB : Hid (∀ g, (Value.slice Ak ks.length ck).ownBlock = some g → g < w4.heap.size) := Lib.hid (fun g hg => (OK4.out.lt g hg).2)
    rw [← hw4] at K4 B4 ⊢
    have HW4 := Lib.hid hw4
    clear hw4 K2 d3 d4 f3
    refine (K4.out).mono ?_
    rintro e w5 ⟨vi, cs, rfl, hcs, hoi, hb⟩
    obtain ⟨Ai, ci, rfl, hnc, _⟩ := own_formN hoi
    have P5 := Lib.hid (P4.out.below hb P4.out.lt)
    have Q5 := Lib.hid (Q4.out.below hb Q4.out.lt)
    have OK5 := Lib.hid (own_same (lo := w2.heap.size) OK4.out (same_of_below hb (Nat.le_refl _)))
    have OI5 := Lib.hid hoi
    have B5 := Lib.hid (below_next B4.out hb)
    have CS := Lib.hid (hcs.keep (w' := w) (fun q hq => (B4.out.cell hq).symm) (fun _ h => h))
    have Z5 : Hid (w4.heap.size ≤ w5.heap.size) := Lib.hid hb.size
    have e3 := P5.out.cell 3
    have f3 := P5.out.frozen 3
    clear hb hcs hoi
    go_wp2_with fail
    obtain ⟨w6, hw6⟩ : ∃ w6, w6 = w5.setCell ⟨w.heap.size, 3, none⟩ (.slice Ai its.length ci) := ⟨_, rfl⟩
    have P6 : Hid (Bk w6 w.heap.size 26 #[.int .i64 k, .int .i64 i, .string t, .slice Ai its.length ci, .slice Ak ks.length ck]) := Lib.hid (by rw [hw6]; exact P5.out.put 3 _)
    have Q6 : Hid (Bk w6 (w.heap.size + 1) 26 #[.int .i64 0, .int .i64 0, .string ⟨#[]⟩, .slice none 0 0, .slice none 0 0]) := Lib.hid (by rw [hw6]; exact Q5.out.far (by show w.heap.size + 1 ≠ w.heap.size; omega) _)
    have Z6 : Hid (w6.heap.size = w5.heap.size) := Lib.hid (by rw [hw6]; simp [World.setCell])
    have OK6 : Hid (w6.ownsRow w2.heap.size 9 1 (.slice Ak ks.length ck) ks.length (ks.map Value.string)) := Lib.hid (by
      rw [hw6]; exact own_same OK5.out (fun b h1 _ => Below.heap_setCell _ _ _ _ (by have := HLT.out; show b ≠ w.heap.size; omega)))
    have OI6 : Hid (w6.ownsRow w4.heap.size 26 5 (.slice Ai its.length ci) its.length cs) := Lib.hid (by
      rw [hw6]; exact own_same OI5.out (fun b h1 _ => Below.heap_setCell _ _ _ _ (by have := HLT.out; have := S3.out; have := Z4.out; show b ≠ w.heap.size; omega)))
    have B6 : Hid (Below w.heap.size w w6) := Lib.hid (by rw [hw6]; exact B5.out.setCell (p := ⟨w.heap.size, 3, none⟩) (Nat.le_refl _) _)
    have g3 := P6.out.cell 3
    rw [← hw6]
    have HW6 := Lib.hid hw6
    have HLT6 : Hid (w.heap.size + 1 < w4.heap.size) := Lib.hid (by have := HLT.out; have := S3.out; have := Z4.out; omega)
    clear hw6 e3 f3 K4 R1 PP QQ OK3 P4 Q4 OK4 P5 Q5 OK5 OI5
    go_wp2_with fail
    go_loopw [16, 3, 4] (fun s _ _ wr => ∃ (j : Nat) (new old : List Value), j ≤ its.length ∧ s = .int .i64 j ∧ Hid (wr.ownsRow w4.heap.size 26 5 (.slice Ai its.length ci) its.length (new ++ old)) ∧
      Hid (OwnC wr w6.heap.size (its.take j) new) ∧ Hid (LiesC w (fun b => b < w.heap.size) (its.drop j) old) ∧ Hid (w6.grownBy wr (Value.slice Ai its.length ci).ownBlock)) (fun s _ _ _ => its.length - (intOf s).toNat)
    case atStart => exact ⟨0, [], cs, by omega, rfl, OI6, Lib.hid (by rw [List.take_zero, OwnC]), CS, Lib.hid (World.grownBy.refl _ _)⟩
    case round =>
      obtain ⟨j, new, old, hjn, rfl, HO, HN, HD, HG⟩ := hrel
      have HLO := Lib.hid (HO.out.lt)
      have pz : w.heap.size < w6.heap.size := P6.out.lt
      have BR : Hid (Below w4.heap.size w6 wr) := Lib.hid ((Below.refl _ _).grown HG.out (by have := Z6.out; have := Z5.out; omega) (fun k hk => (HLO.out k hk).1))
      have PR := Lib.hid (P6.out.below BR.out (by have := HLT6.out; omega))
      have g3' := PR.out.cell 3
      by_cases hlt : j < its.length
      · have h1 := List.getElem?_eq_getElem (l := its) (i := j) hlt
        have hre := all_at HRE.out h1
        have hle := size_at h1
        have hdr := HD.out
        have htk : its.take (j + 1) = its.take j ++ [its[j]'hlt] := by rw [List.take_add_one, h1]; rfl
        rw [List.drop_eq_getElem_cons hlt] at hdr
        generalize its[j]'hlt = x at *
        obtain ⟨a, b, s, y, z, rest, rfl, hx, hr⟩ := hdr
        obtain ⟨k', i', t', E, n1, c1, E', n2, c2, rfl, rfl, rfl, rfl, rfl⟩ := hx.form
        obtain ⟨g, rfl, hg1, hg2⟩ := own_at HO.out (by omega)
        have hnl : new.length = j * 5 := by rw [HN.out.len, List.length_take]; congr 1; omega
        obtain ⟨m0, m1, m2, m3, m4⟩ := mid_at (rest := rest) (a := .int .i64 k') (b := .int .i64 i') (s := .string t') (y := .slice E n1 c1) (z := .slice E' n2 c2) hnl
        have e0 := (HO.out.cellAt (j * 5) (by omega)).trans m0
        have e1 := (HO.out.cellAt (j * 5 + 1) (by omega)).trans m1
        have e2 := (HO.out.cellAt (j * 5 + 2) (by omega)).trans m2
        have e3 := (HO.out.cellAt (j * 5 + 3) (by omega)).trans m3
        have e4 := (HO.out.cellAt (j * 5 + 4) (by omega)).trans m4
        have HX := Lib.hid hx
        have HRR := Lib.hid hr
        have HTK := Lib.hid htk
        have HNL := Lib.hid hnl
        have HRX := Lib.hid hre
        clear m0 m1 m2 m3 m4 hx hr htk hnl hre h1
        go_wp2_with fail
        obtain ⟨wa, hwa⟩ : ∃ wa, wa = wr.alloc (.cells #[.int .i64 k', .int .i64 i', .string t', .slice E n1 c1, .slice E' n2 c2] 26) := ⟨_, rfl⟩
        have BA : Hid (Below w.heap.size w wa) := Lib.hid (by rw [hwa]; exact ((B6.out.trans (BR.out.mono (by have := HLT6.out; omega))).alloc (by have := (B6.out.trans (BR.out.mono (by have := HLT6.out; omega))).size; omega) _))
        have qa := hwa ▸ (Bk.new wr 26 #[.int .i64 k', .int .i64 i', .string t', .slice E n1 c1, .slice E' n2 c2])
        have pa := hwa ▸ (PR.out.alloc (.cells #[.int .i64 k', .int .i64 i', .string t', .slice E n1 c1, .slice E' n2 c2] 26))
        rw [← hwa]
        have HWA := Lib.hid hwa
        have u0 := qa.cell 0
        have u1 := qa.cell 1
        have u2 := qa.cell 2
        have u3 := qa.cell 3
        have u4 := qa.cell 4
        have v3 := pa.cell 3
        change _ = some (Value.int .i64 k') at u0
        change _ = some (Value.int .i64 i') at u1
        change _ = some (Value.string t') at u2
        change _ = some (Value.slice E n1 c1) at u3
        change _ = some (Value.slice E' n2 c2) at u4
        change _ = some (Value.slice (some ⟨g, 0, none⟩) its.length ci) at v3
        have QA := Lib.hid qa.lt
        have BWA : Hid (Below wr.heap.size wr wa) := Lib.hid (by rw [hwa]; exact below_one _ _)
        have MID := Lib.hid (mid_at (rest := rest) (a := .int .i64 k') (b := .int .i64 i') (s := .string t') (y := .slice E n1 c1) (z := .slice E' n2 c2) HNL.out)
        have HJN := Lib.hid hlt
        have PA := Lib.hid pa.lt
        have ne1 : g ≠ w.heap.size := by have := HLT6.out; omega
        have ne2 : g ≠ wr.heap.size := by omega
        have kA := And.intro v3 (And.intro u0 (And.intro u1 (And.intro u2 (And.intro u3 u4))))
        have HCW : Hid (∀ W, Below w.heap.size w W → Calls Try.prog 28 #[.agg #[.int .i64 k', .int .i64 i', .string t', .slice E n1 c1, .slice E' n2 c2]] W (Copies x W)) := Lib.hid (fun W hb => IH.out x W _ (by omega) HRX.out (HX.out.keep (fun q hq => hb.cell hq) (fun b hq => Nat.lt_of_lt_of_le hq hb.size)))
        clear hwa qa pa g3' e0 e1 e2 e3 e4
        go_region_held3 (fun w' => w'.cell? ⟨w.heap.size, 3, none⟩ = some (.slice (some ⟨g, 0, none⟩) its.length ci) ∧ w'.cell? ⟨wr.heap.size, 0, none⟩ = some (.int .i64 k') ∧ w'.cell? ⟨wr.heap.size, 1, none⟩ = some (.int .i64 i') ∧
            w'.cell? ⟨wr.heap.size, 2, none⟩ = some (.string t') ∧ w'.cell? ⟨wr.heap.size, 3, none⟩ = some (.slice E n1 c1) ∧ w'.cell? ⟨wr.heap.size, 4, none⟩ = some (.slice E' n2 c2))
          (first
            | go_keep
            | exact kA
            | exact kB)
          (first
            | (go_at_call 28; refine (HCW.out _ (by first | exact BA.out | exact BA.out.drew)).mono ?_; rintro _ wB ⟨vx, rfl, hox, hbx⟩; obtain ⟨k2, i2, t2, D, n3, c3, D', n4, c4, rfl⟩ := hox.form; have HOX := Lib.hid hox; clear hox; have hB2 : Below wr.heap.size wr wB := BWA.out.trans (Below.mono ⟨hbx.os, hbx.tape, hbx.output, hbx.size, hbx.block⟩ (Nat.le_of_lt QA.out)); have HOB := Lib.hid (own_same (lo := w4.heap.size) HO.out (same_of_below hB2 (Nat.le_refl _))); have e0 := (HOB.out.cellAt (j * 5) (by have := HJN.out; omega)).trans MID.out.1; have e1 := (HOB.out.cellAt (j * 5 + 1) (by have := HJN.out; omega)).trans MID.out.2.1; have e2 := (HOB.out.cellAt (j * 5 + 2) (by have := HJN.out; omega)).trans MID.out.2.2.1; have e3 := (HOB.out.cellAt (j * 5 + 3) (by have := HJN.out; omega)).trans MID.out.2.2.2.1; have e4 := (HOB.out.cellAt (j * 5 + 4) (by have := HJN.out; omega)).trans MID.out.2.2.2.2; have f0 := HOB.out.frozenAt (j * 5); have f1 := HOB.out.frozenAt (j * 5 + 1); have f2 := HOB.out.frozenAt (j * 5 + 2); have f3 := HOB.out.frozenAt (j * 5 + 3); have f4 := HOB.out.frozenAt (j * 5 + 4); have HB2 := Lib.hid hB2; clear hB2; have kB := And.intro ((hbx.cell (p := ⟨w.heap.size, 3, none⟩) PA.out).trans kA.1) (And.intro ((hbx.cell (p := ⟨wr.heap.size, 0, none⟩) QA.out).trans kA.2.1) (And.intro ((hbx.cell (p := ⟨wr.heap.size, 1, none⟩) QA.out).trans kA.2.2.1) (And.intro ((hbx.cell (p := ⟨wr.heap.size, 2, none⟩) QA.out).trans kA.2.2.2.1) (And.intro ((hbx.cell (p := ⟨wr.heap.size, 3, none⟩) QA.out).trans kA.2.2.2.2.1) ((hbx.cell (p := ⟨wr.heap.size, 4, none⟩) QA.out).trans kA.2.2.2.2.2)))))))
        have hgl : g < w6.heap.size := (OI6.out.lt g rfl).2
        obtain ⟨hst, hgr⟩ := own_store5 (a := .int .i64 k2) (b := .int .i64 i2) (s := .string t2) (y := .slice D n3 c3) (z := .slice D' n4 c4) HOB.out HNL.out (by simp)
        have S1 : SameFrom w6.heap.size wr wB := same_of_below HB2.out (Nat.le_refl _)
        have S2 := same_grown (lo := w6.heap.size) hgr hgl
        have ho2 := OwnC.snoc ((HOX.out.mono (lo' := w6.heap.size) (by have h1 := BWA.out.size; have h2 := HG.out.size; show w6.heap.size ≤ wa.heap.size; omega)).keep S2) (HN.out.keep (same_trans S1 S2 HB2.out.size))
        rw [← HTK.out] at ho2
        have hg2 := grownBy_trans HG.out (grownBy_trans (grown_of_below HB2.out) hgr)
        have FO := Lib.hid hst
        have FN := Lib.hid ho2
        have FG := Lib.hid hg2
        clear hst hgr S1 S2 ho2 hg2 e0 e1 e2 e3 e4 f0 f1 f2 f3 f4 kA kB hbx u0 u1 u2 u3 u4 v3
        go_wp2
        go_roundw
        case rel => exact ⟨j + 1, _, rest, by have := HJN.out; omega, by go_num, FO, FN, HRR, FG⟩
        case measure => have := HJN.out; simp [intOf]; omega
      · obtain rfl : j = its.length := by omega
        have hold : old = [] := by have := HD.out; rw [List.drop_length] at this; exact this
        subst hold
        have QR := Lib.hid (Q6.out.below BR.out HLT6.out)
        have b0 := PR.out.cell 0
        have b1 := PR.out.cell 1
        have b2 := PR.out.cell 2
        have b4 := PR.out.cell 4
        have r0 := QR.out.frozen 0
        have r1 := QR.out.frozen 1
        have r2 := QR.out.frozen 2
        have r3 := QR.out.frozen 3
        have r4 := QR.out.frozen 4
        have z0 := QR.out.cell 0
        have z1 := QR.out.cell 1
        have z2 := QR.out.cell 2
        have z3 := QR.out.cell 3
        have z4 := QR.out.cell 4
        go_wp2
        obtain ⟨wf, hwf⟩ : ∃ wf, wf = ((((wr.setCell ⟨w.heap.size + 1, 0, none⟩ (.int .i64 k)).setCell ⟨w.heap.size + 1, 1, none⟩ (.int .i64 i)).setCell ⟨w.heap.size + 1, 2, none⟩ (.string t)).setCell ⟨w.heap.size + 1, 3, none⟩ (.slice Ai its.length ci)).setCell ⟨w.heap.size + 1, 4, none⟩ (.slice Ak ks.length ck) := ⟨_, rfl⟩
        have QF : Hid (Bk wf (w.heap.size + 1) 26 #[.int .i64 k, .int .i64 i, .string t, .slice Ai its.length ci, .slice Ak ks.length ck]) := Lib.hid (by rw [hwf]; exact ((((QR.out.put 0 _).put 1 _).put 2 _).put 3 _).put 4 _)
        have SF : Hid (∀ b, b ≠ w.heap.size + 1 → wf.heap[b]? = wr.heap[b]?) := Lib.hid (fun b hb => by
          rw [hwf]; exact ((((Below.heap_setCell _ _ _ _ hb).trans (Below.heap_setCell _ _ _ _ hb)).trans (Below.heap_setCell _ _ _ _ hb)).trans (Below.heap_setCell _ _ _ _ hb)).trans (Below.heap_setCell _ _ _ _ hb))
        have BF : Hid (Below w.heap.size w wf) := Lib.hid (by
          rw [hwf]
          have h0 := B6.out.trans (BR.out.mono (by have := HLT6.out; omega : w.heap.size ≤ w4.heap.size))
          exact ((((h0.setCell (p := ⟨w.heap.size + 1, 0, none⟩) (by show w.heap.size ≤ w.heap.size + 1; omega) _).setCell (p := ⟨w.heap.size + 1, 1, none⟩) (by show w.heap.size ≤ w.heap.size + 1; omega) _).setCell (p := ⟨w.heap.size + 1, 2, none⟩) (by show w.heap.size ≤ w.heap.size + 1; omega) _).setCell (p := ⟨w.heap.size + 1, 3, none⟩) (by show w.heap.size ≤ w.heap.size + 1; omega) _).setCell (p := ⟨w.heap.size + 1, 4, none⟩) (by show w.heap.size ≤ w.heap.size + 1; omega) _)
        rw [← hwf]
        refine bodyPost_ret (results_cell_row rfl _ _ (w.heap.size + 1) 26 #[.int .i64 k, .int .i64 i, .string t, .slice Ai its.length ci, .slice Ak ks.length ck] (0, 0) _ rfl QF.out Try.underlying26 rfl (by kernel_rfl)) rfl ?_
        have hsz := BR.out.size
        have l4 := HLT6.out
        have l2 := HLT.out
        have hnew : OwnC wr w6.heap.size its new := by have := HN.out; rwa [List.take_length] at this
        have hrow : wr.ownsRow w4.heap.size 26 5 (.slice Ai its.length ci) its.length new := by have := HO.out; rwa [List.append_nil] at this
        have hks : wr.ownsRow w2.heap.size 9 1 (.slice Ak ks.length ck) ks.length (ks.map Value.string) := by
          refine OK6.out.kept HG.out ?_
          cases hb : (Value.slice Ak ks.length ck).ownBlock with
          | none => exact Or.inl rfl
          | some gk => exact Or.inr (fun e => by have h1 := (HLO.out gk e.symm).1; have h2 := OKB.out gk hb; omega)
        exact ⟨_, w6.heap.size, rfl, BF.out, Ai, ci, Ak, ck, new, rfl, by have := B6.out.size; omega, own_mono (own_same hrow (fun b h1 _ => SF.out b (by omega))) (by omega),
          (fun g hg => (OI6.out.lt g hg).2), hnew.keep (fun b h1 _ => SF.out b (by have := Z6.out; have := Z5.out; omega)), own_mono (own_same hks (fun b h1 _ => SF.out b (by omega))) (by omega),
          (fun g hg => by have := OKB.out g hg; have := Z6.out; have := Z5.out; omega), SS0.out, HK0.out⟩
end Go.Proofs.Ytidinbeanaifmaa
namespace Go.Proofs.Ytidinbeanaifmaa
open Go.RowKit

theorem cut_away {α : Type} (X R ys T : List α) (b : Nat) (hX : X.length = b) : ((X ++ R).take b ++ ys ++ T).take b = X := by
  subst hX
  rw [List.take_left, List.append_assoc, List.take_left]

theorem zeroS_any (w : World) : (Go.zeroValue 9).run Try.prog w = .ok (.string ByteArray.empty) w := by
  obtain ⟨i, hi, hz, hs, hb⟩ := info_parts Try.infoS
  simp [Go.zeroValue, typeInfo, hi, hz]
set_option maxRecDepth 100000 in
set_option maxHeartbeats 4000000 in
theorem delS_any (w : World) (base N c i g : Nat) (xs : List Value) (hi : i ≤ N)
    (hown : w.ownsRow base 9 1 (.slice (some ⟨g, 0, none⟩) (N + 1) c) (N + 1) xs) (h1x : ∀ u ∈ xs, u.oneCell' = true) :
    Calls Try.prog 81 #[.slice (some ⟨g, 0, none⟩) (N + 1) c, .int .i64 i, .int .i64 ((i : Int) + 1)] w fun e w' =>
      e = .returned (.slice (some ⟨g, 0, none⟩) N c) ∧ w'.ownsRow base 9 1 (.slice (some ⟨g, 0, none⟩) N c) N (xs.take (i * 1) ++ xs.drop ((i + 1) * 1)) ∧ w.grownBy w' (some g) := by
  obtain ⟨iE, hiE, hzE, hsE, hbE⟩ := info_parts Try.infoS
  obtain ⟨hnc, hc63⟩ := own_bounds hown
  have hxl : xs.length = (N + 1) * 1 := hown.1
  obtain ⟨A, hA, hsrc⟩ : ∃ A : Addr, (if c = i + 1 then some (⟨g, 0, none⟩ : Addr) else some ⟨g, (i + 1) * 1, none⟩) = some A ∧ (∀ t u, (xs.drop ((i + 1) * 1))[t]? = some u → w.drew.cell? (A.add t) = some u) := by
    by_cases h : c = i + 1
    · refine ⟨⟨g, 0, none⟩, by simp [h], fun t u hu => ?_⟩
      rw [List.drop_of_length_le (by omega)] at hu
      simp at hu
    · refine ⟨⟨g, (i + 1) * 1, none⟩, by simp [h], fun t u hu => ?_⟩
      have := hown.cells rfl ((i + 1) * 1 + t) u (by rwa [List.getElem?_drop] at hu)
      rw [Addr.add_lit] at this ⊢
      rw [← this]
      show w.cell? _ = _
      congr 2
      omega
  obtain ⟨w1, hr1, hown1, hg1⟩ := run_append_here (P := Try.prog) w.drew 22 9 iE base 1 g (N + 1) c xs hown Try.underlying22 hiE hsE i (N - i) A (xs.drop ((i + 1) * 1)) (by rw [List.length_drop]; omega) hsrc (fun v hv => h1x v (List.mem_of_mem_drop hv)) (by omega)
  obtain ⟨w2, hr2, ⟨ys, hyl, hown2⟩, hg2⟩ := run_clear_own (P := Try.prog) w1 22 9 (.string ByteArray.empty) base 1 g (N + 1) c _ hown1 Try.underlying22 zeroS_any rfl (by decide) (by intro v hv; simp [Value.cells] at hv; subst hv; rfl) (N * 1) 1 (by decide) (by omega)
  have hfin : Hid (w2.ownsRow base 9 1 (.slice (some ⟨g, 0, none⟩) N c) N (xs.take (i * 1) ++ xs.drop ((i + 1) * 1))) := Lib.hid (by
    have h := own_shorter hown2 (m := N) (by omega)
    have hX : (xs.take (i * 1) ++ xs.drop ((i + 1) * 1)).length = N * 1 := by rw [List.length_append, List.length_take, List.length_drop]; omega
    rw [cut_away _ _ _ _ _ hX] at h
    exact h)
  have HG : Hid (w.grownBy w2 (some g)) := Lib.hid (grownBy_trans (show w.grownBy w1 (some g) from ⟨hg1.os, hg1.tape, hg1.output, hg1.size, hg1.block⟩) hg2)
  rw [show i + (N - i) = N by omega] at hr1
  clear hown hown1 hown2 hg1 hg2 hsrc h1x hyl hxl hbE hzE hiE hsE
  have mixed : Try.prog.follows .mixedOrders = true := by kernel_rfl
  have hi1 : i + 1 ≤ N + 1 := by omega
  have hin : i ≤ N + 1 := by omega
  have hic : i ≤ c := by omega
  have hjc : i + 1 ≤ c := by omega
  have hNc : N + 1 ≤ c := by omega
  have hne : ¬ (c = N) := by omega
  have hzi : ((i : Int) + 1).toNat = i + 1 := by omega
  have hz0 : (0 : Int) ≤ (i : Int) + 1 := by omega
  have hz1 : ¬ ((i : Int) = (i : Int) + 1) := by omega
  have hz2 : (i : Int) + 1 ≤ (N : Int) + 1 := by omega
  have hz3 : (i : Int) ≤ (i : Int) + 1 := by omega
  have hz4 : (i : Int) ≤ (N : Int) := by omega
  have hz5 : (N : Int) + 1 ≤ (c : Int) := by omega
  simp only [Nat.mul_one] at hr1 hr2 hA
  go_enter Try.func81, Try.ntmps81
  go_wp2
  go_region_law_o (refine step_append_runI rfl (.tmp 22) (.tmp 25) 22 22 rfl _ _ (by simp [Act.eval, Act.put]) (by simp [Act.eval, Act.put]) (hr1 _ (c - (i + 1))) ?_)
  go_wp2
  go_ret
  exact ⟨rfl, hfin.out, HG.out⟩

theorem zeroV_any (w : World) : (Go.zeroValue 26).run Try.prog w = .ok (.agg #[.int .i64 0, .int .i64 0, .string ByteArray.empty, .slice none 0 0, .slice none 0 0]) w := by
  obtain ⟨i, hi, hz, hs, hb⟩ := info_parts Try.infoV
  simp [Go.zeroValue, typeInfo, hi, hz]
set_option maxRecDepth 100000 in
set_option maxHeartbeats 4000000 in
theorem delV_any (w : World) (base N c i g : Nat) (xs : List Value) (hi : i ≤ N)
    (hown : w.ownsRow base 26 5 (.slice (some ⟨g, 0, none⟩) (N + 1) c) (N + 1) xs) (h1x : ∀ u ∈ xs, u.oneCell' = true) :
    Calls Try.prog 82 #[.slice (some ⟨g, 0, none⟩) (N + 1) c, .int .i64 i, .int .i64 ((i : Int) + 1)] w fun e w' =>
      e = .returned (.slice (some ⟨g, 0, none⟩) N c) ∧ w'.ownsRow base 26 5 (.slice (some ⟨g, 0, none⟩) N c) N (xs.take (i * 5) ++ xs.drop ((i + 1) * 5)) ∧ w.grownBy w' (some g) := by
  obtain ⟨iE, hiE, hzE, hsE, hbE⟩ := info_parts Try.infoV
  obtain ⟨hnc, hc63⟩ := own_bounds hown
  have hxl : xs.length = (N + 1) * 5 := hown.1
  obtain ⟨A, hA, hsrc⟩ : ∃ A : Addr, (if c = i + 1 then some (⟨g, 0, none⟩ : Addr) else some ⟨g, (i + 1) * 5, none⟩) = some A ∧ (∀ t u, (xs.drop ((i + 1) * 5))[t]? = some u → w.drew.cell? (A.add t) = some u) := by
    by_cases h : c = i + 1
    · refine ⟨⟨g, 0, none⟩, by simp [h], fun t u hu => ?_⟩
      rw [List.drop_of_length_le (by omega)] at hu
      simp at hu
    · refine ⟨⟨g, (i + 1) * 5, none⟩, by simp [h], fun t u hu => ?_⟩
      have := hown.cells rfl ((i + 1) * 5 + t) u (by rwa [List.getElem?_drop] at hu)
      rw [Addr.add_lit] at this ⊢
      rw [← this]
      show w.cell? _ = _
      congr 2
      omega
  obtain ⟨w1, hr1, hown1, hg1⟩ := run_append_here (P := Try.prog) w.drew 23 26 iE base 5 g (N + 1) c xs hown Try.underlying23 hiE hsE i (N - i) A (xs.drop ((i + 1) * 5)) (by rw [List.length_drop]; omega) hsrc (fun v hv => h1x v (List.mem_of_mem_drop hv)) (by omega)
  obtain ⟨w2, hr2, ⟨ys, hyl, hown2⟩, hg2⟩ := run_clear_own (P := Try.prog) w1 23 26 (.agg #[.int .i64 0, .int .i64 0, .string ByteArray.empty, .slice none 0 0, .slice none 0 0]) base 5 g (N + 1) c _ hown1 Try.underlying23 zeroV_any rfl (by decide) (by intro v hv; simp [Value.cells] at hv; rcases hv with h | h | h <;> (subst h; rfl)) (N * 5) 1 (by decide) (by omega)
  have hfin : Hid (w2.ownsRow base 26 5 (.slice (some ⟨g, 0, none⟩) N c) N (xs.take (i * 5) ++ xs.drop ((i + 1) * 5))) := Lib.hid (by
    have h := own_shorter hown2 (m := N) (by omega)
    have hX : (xs.take (i * 5) ++ xs.drop ((i + 1) * 5)).length = N * 5 := by rw [List.length_append, List.length_take, List.length_drop]; omega
    rw [cut_away _ _ _ _ _ hX] at h
    exact h)
  have HG : Hid (w.grownBy w2 (some g)) := Lib.hid (grownBy_trans (show w.grownBy w1 (some g) from ⟨hg1.os, hg1.tape, hg1.output, hg1.size, hg1.block⟩) hg2)
  rw [show i + (N - i) = N by omega] at hr1
  clear hown hown1 hown2 hg1 hg2 hsrc h1x hyl hxl hbE hzE hiE hsE
  have mixed : Try.prog.follows .mixedOrders = true := by kernel_rfl
  have hi1 : i + 1 ≤ N + 1 := by omega
  have hin : i ≤ N + 1 := by omega
  have hic : i ≤ c := by omega
  have hjc : i + 1 ≤ c := by omega
  have hNc : N + 1 ≤ c := by omega
  have hne : ¬ (c = N) := by omega
  have hzi : ((i : Int) + 1).toNat = i + 1 := by omega
  have hz0 : (0 : Int) ≤ (i : Int) + 1 := by omega
  have hz1 : ¬ ((i : Int) = (i : Int) + 1) := by omega
  have hz2 : (i : Int) + 1 ≤ (N : Int) + 1 := by omega
  have hz3 : (i : Int) ≤ (i : Int) + 1 := by omega
  have hz4 : (i : Int) ≤ (N : Int) := by omega
  have hz5 : (N : Int) + 1 ≤ (c : Int) := by omega
  skip
  go_enter Try.func82, Try.ntmps82
  go_wp2
  go_region_law_o (refine step_append_runI rfl (.tmp 22) (.tmp 25) 23 23 rfl _ _ (by simp [Act.eval, Act.put]) (by simp [Act.eval, Act.put]) (hr1 _ (c - (i + 1))) ?_)
  go_wp2
  go_ret
  exact ⟨rfl, hfin.out, HG.out⟩
end Go.Proofs.Ytidinbeanaifmaa
namespace Go.Proofs.Ytidinbeanaifmaa
open Go.RowKit

theorem OwnC.drop_one {w : World} {lo : Nat} : ∀ {l : List VT} {cs : List Value} (p : Nat), OwnC w lo l cs → OwnC w lo (l.take p ++ l.drop (p + 1)) (cs.take (p * 5) ++ cs.drop ((p + 1) * 5))
  | [], cs, p, h => by rw [OwnC] at h; subst h; simp; rw [OwnC]
  | x :: r, cs, 0, h => by
    rw [OwnC] at h
    obtain ⟨a, b, s, y, z, rest, rfl, hx, hr⟩ := h
    exact hr
  | x :: r, cs, p + 1, h => by
    rw [OwnC] at h
    obtain ⟨a, b, s, y, z, rest, rfl, hx, hr⟩ := h
    have ih := OwnC.drop_one p hr
    rw [show (p + 1 + 1) * 5 = (p + 1) * 5 + 5 by omega, show (p + 1) * 5 = p * 5 + 5 by omega]
    rw [show (p + 1) * 5 = p * 5 + 5 by omega] at ih
    show OwnC w lo (x :: (r.take p ++ r.drop (p + 1))) (a :: b :: s :: y :: z :: (rest.take (p * 5) ++ rest.drop (p * 5 + 5)))
    rw [OwnC]
    exact ⟨a, b, s, y, z, _, rfl, hx, ih⟩
theorem cut_len {α : Type} {l : List α} {N p : Nat} (h : l.length = N + 1) (hp : p ≤ N) : (l.take p ++ l.drop (p + 1)).length = N := by
  rw [List.length_append, List.length_take, List.length_drop]; omega
def DropSpec (x : VT) (key : ByteArray) (z : VT) (r : Int) : Prop :=
  (isMapT x = false ∧ z = nullT ∧ r = 12) ∨ (isMapT x = true ∧ ∃ p, Pos x.ks key p ∧ ((isAt x.ks key p = false ∧ z = nullT ∧ r = 15) ∨
    (isAt x.ks key p = true ∧ z = .mk x.k x.i x.t (x.its.take p ++ x.its.drop (p + 1)) (x.ks.take p ++ x.ks.drop (p + 1)) ∧ r = 0)))
set_option maxRecDepth 100000 in
set_option maxHeartbeats 4000000 in
theorem Drop_any {x : VT} {v : Value} {w : World} (key : ByteArray) (h : Lies w (Lo w) x v) (hr : x.all reachF = true) :
    Calls Try.prog 44 #[v, .string key] w fun e w' => ∃ z r, DropSpec x key z r ∧ MakesE z r w e w' := by
  have HT := Lib.hid (fun (w' : World) (hb : Below w.heap.size w w') => isMap_any (h.below hb))
  obtain ⟨k, i, t, its, ks⟩ := x
  obtain ⟨A, c, A', c', rfl, _, _, _, hlc, hcm, hL, hkc, hcm', hS⟩ := h.open
  obtain ⟨r1, r2, r3⟩ := reach_mk hr
  have HL := Lib.hid hL
  have HS := Lib.hid hS
  have HRE := Lib.hid (And.intro r1 (And.intro r2 r3))
  have HCP := Lib.hid (fun (w' : World) (hb : Below w.heap.size w w') => Copy_sep (h.below hb) hr)
  unfold vag at HCP
  obtain ⟨w2, hw2⟩ : ∃ w2, w2 = (w.alloc (.cells #[.int .i64 k, .int .i64 i, .string t, .slice A its.length c, .slice A' ks.length c'] 26)).alloc (.cells #[.int .i64 0, .int .i64 0, .string ⟨#[]⟩, .slice none 0 0, .slice none 0 0] 26) := ⟨_, rfl⟩
  have B2 : Hid (Below w.heap.size w w2) := Lib.hid (by rw [hw2]; exact (below_one _ _).trans (Below.alloc (Below.refl _ _) (by simp) _))
  have P2 : Hid (Bk w2 w.heap.size 26 #[.int .i64 k, .int .i64 i, .string t, .slice A its.length c, .slice A' ks.length c']) := Lib.hid (by rw [hw2]; exact (Bk.new _ _ _).alloc _)
  have Q2 : Hid (Bk w2 (w.heap.size + 1) 26 #[.int .i64 0, .int .i64 0, .string ⟨#[]⟩, .slice none 0 0, .slice none 0 0]) := Lib.hid (by rw [hw2]; have := Bk.new (w.alloc (.cells #[.int .i64 k, .int .i64 i, .string t, .slice A its.length c, .slice A' ks.length c'] 26)) 26 #[.int .i64 0, .int .i64 0, .string ⟨#[]⟩, .slice none 0 0, .slice none 0 0]; simpa using this)
  have HW := Lib.hid hw2
  have H1 := Lib.hid (HT.out w2 B2.out)
  have SN : Hid (isMapT (.mk k i t its ks) = false → DropSpec (.mk k i t its ks) key nullT 12) := Lib.hid (fun h => Or.inl ⟨h, rfl, rfl⟩)
  have SY : Hid (isMapT (.mk k i t its ks) = true → k = 5 ∧ ks.length = its.length ∧ rising ks = true) := Lib.hid (fun h => by
    unfold isMapT VT.k at h
    rw [Bool.and_eq_true, decide_eq_true_eq] at h
    obtain ⟨rfl, h⟩ := h
    exact ⟨rfl, (map_wf h).1, (map_wf h).2.1⟩)
  have SA : Hid (isMapT (.mk k i t its ks) = true → ∀ p, Pos ks key p → isAt ks key p = false → DropSpec (.mk k i t its ks) key nullT 15) :=
    Lib.hid (fun h p h1 h2 => Or.inr ⟨h, p, h1, Or.inl ⟨h2, rfl, rfl⟩⟩)
  have SB : Hid (isMapT (.mk k i t its ks) = true → ∀ p, Pos ks key p → isAt ks key p = true → DropSpec (.mk k i t its ks) key (.mk k i t (its.take p ++ its.drop (p + 1)) (ks.take p ++ ks.drop (p + 1))) 0) :=
    Lib.hid (fun h p h1 h2 => Or.inr ⟨h, p, h1, Or.inr ⟨h2, rfl, rfl⟩⟩)
  clear h hw2 hr hL hS r1 r2 r3
  generalize isMapT (.mk k i t its ks) = b at *
  generalize VT.mk k i t its ks = x at *
  have e0 := P2.out.cell 0
  unfold vag at *
  go_enter Try.func44, Try.ntmps44
  go_wp2_with fail
  rw [← HW.out]
  refine (H1.out).mono ?_
  rintro e w3 ⟨rfl, hb⟩
  have P3 := Lib.hid (P2.out.below hb P2.out.lt)
  have Q3 := Lib.hid (Q2.out.below hb Q2.out.lt)
  have B3 := Lib.hid (below_next B2.out hb)
  clear hb e0
  cases b with
  | false =>
    have G := Lib.hid (SN.out rfl)
    clear SN SY SA SB
    go_wp2_with fail
    refine (Null_any w3).mono ?_
    unfold zeroV
    rintro e w4 ⟨rfl, hb⟩
    have Q4 := Lib.hid (Q3.out.below hb Q3.out.lt)
    have B4 := Lib.hid (below_next B3.out hb)
    clear hb
    have q0 := Q4.out.cell 0
    have q1 := Q4.out.cell 1
    have q2 := Q4.out.cell 2
    have q3 := Q4.out.cell 3
    have q4 := Q4.out.cell 4
    have f0 := Q4.out.frozen 0
    have f1 := Q4.out.frozen 1
    have f2 := Q4.out.frozen 2
    have f3 := Q4.out.frozen 3
    have f4 := Q4.out.frozen 4
    go_wp2
    obtain ⟨wf, hwf⟩ : ∃ wf, wf = ((((w4.setCell ⟨w.heap.size + 1, 0, none⟩ (.int .i64 0)).setCell ⟨w.heap.size + 1, 1, none⟩ (.int .i64 0)).setCell ⟨w.heap.size + 1, 2, none⟩ (.string ⟨#[]⟩)).setCell ⟨w.heap.size + 1, 3, none⟩ (.slice none 0 0)).setCell ⟨w.heap.size + 1, 4, none⟩ (.slice none 0 0) := ⟨_, rfl⟩
    have QF : Hid (Bk wf (w.heap.size + 1) 26 #[.int .i64 0, .int .i64 0, .string ⟨#[]⟩, .slice none 0 0, .slice none 0 0]) := Lib.hid (by rw [hwf]; exact ((((Q4.out.put 0 _).put 1 _).put 2 _).put 3 _).put 4 _)
    have BF : Hid (Below w.heap.size w wf) := Lib.hid (by
      rw [hwf]
      exact ((((B4.out.setCell (p := ⟨w.heap.size + 1, 0, none⟩) (by show w.heap.size ≤ w.heap.size + 1; omega) _).setCell (p := ⟨w.heap.size + 1, 1, none⟩) (by show w.heap.size ≤ w.heap.size + 1; omega) _).setCell (p := ⟨w.heap.size + 1, 2, none⟩) (by show w.heap.size ≤ w.heap.size + 1; omega) _).setCell (p := ⟨w.heap.size + 1, 3, none⟩) (by show w.heap.size ≤ w.heap.size + 1; omega) _).setCell (p := ⟨w.heap.size + 1, 4, none⟩) (by show w.heap.size ≤ w.heap.size + 1; omega) _)
    rw [← hwf]
    refine bodyPost_ret (results_row2 rfl _ _ (w.heap.size + 1) 26 _ (0, 0) _ rfl QF.out Try.underlying26 rfl (by kernel_rfl)) rfl ?_
    exact ⟨nullT, _, G.out, _, rfl, zero_ownd _ _, BF.out⟩
  | true =>
    obtain ⟨hk5, hkl, hri⟩ := SY.out rfl
    have GA := Lib.hid (SA.out rfl)
    have GB := Lib.hid (SB.out rfl)
    clear SA SB
    have HSR := Lib.hid (search_any A' c' ks key w3 (HS.out.below B3.out) (by have := HRE.out.2.1; omega) hri)
    have HKL := Lib.hid hkl
    have p4 := P3.out.cell 4
    change _ = some (Value.slice A' ks.length c') at p4
    clear SN SY hk5 hkl hri
    go_wp2_with fail
    refine (HSR.out).mono ?_
    rintro e w' ⟨p, hpos, rfl, rfl⟩
    have HPS := Lib.hid hpos
    clear hpos p4
    cases ha : isAt ks key p with
    | false =>
      have G := Lib.hid (GA.out p HPS.out ha)
      clear ha GA GB
      go_wp2_with fail
      refine (Null_any w3).mono ?_
      unfold zeroV
      rintro e w4 ⟨rfl, hb⟩
      have Q4 := Lib.hid (Q3.out.below hb Q3.out.lt)
      have B4 := Lib.hid (below_next B3.out hb)
      clear hb
      have q0 := Q4.out.cell 0
      have q1 := Q4.out.cell 1
      have q2 := Q4.out.cell 2
      have q3 := Q4.out.cell 3
      have q4 := Q4.out.cell 4
      have f0 := Q4.out.frozen 0
      have f1 := Q4.out.frozen 1
      have f2 := Q4.out.frozen 2
      have f3 := Q4.out.frozen 3
      have f4 := Q4.out.frozen 4
      go_wp2
      obtain ⟨wf, hwf⟩ : ∃ wf, wf = ((((w4.setCell ⟨w.heap.size + 1, 0, none⟩ (.int .i64 0)).setCell ⟨w.heap.size + 1, 1, none⟩ (.int .i64 0)).setCell ⟨w.heap.size + 1, 2, none⟩ (.string ⟨#[]⟩)).setCell ⟨w.heap.size + 1, 3, none⟩ (.slice none 0 0)).setCell ⟨w.heap.size + 1, 4, none⟩ (.slice none 0 0) := ⟨_, rfl⟩
      have QF : Hid (Bk wf (w.heap.size + 1) 26 #[.int .i64 0, .int .i64 0, .string ⟨#[]⟩, .slice none 0 0, .slice none 0 0]) := Lib.hid (by rw [hwf]; exact ((((Q4.out.put 0 _).put 1 _).put 2 _).put 3 _).put 4 _)
      have BF : Hid (Below w.heap.size w wf) := Lib.hid (by
        rw [hwf]
        exact ((((B4.out.setCell (p := ⟨w.heap.size + 1, 0, none⟩) (by show w.heap.size ≤ w.heap.size + 1; omega) _).setCell (p := ⟨w.heap.size + 1, 1, none⟩) (by show w.heap.size ≤ w.heap.size + 1; omega) _).setCell (p := ⟨w.heap.size + 1, 2, none⟩) (by show w.heap.size ≤ w.heap.size + 1; omega) _).setCell (p := ⟨w.heap.size + 1, 3, none⟩) (by show w.heap.size ≤ w.heap.size + 1; omega) _).setCell (p := ⟨w.heap.size + 1, 4, none⟩) (by show w.heap.size ≤ w.heap.size + 1; omega) _)
      rw [← hwf]
      refine bodyPost_ret (results_row2 rfl _ _ (w.heap.size + 1) 26 _ (0, 0) _ rfl QF.out Try.underlying26 rfl (by kernel_rfl)) rfl ?_
      exact ⟨nullT, _, G.out, _, rfl, zero_ownd _ _, BF.out⟩
    | true =>
      have hpn : p < ks.length := by
        unfold isAt at ha
        rw [Bool.and_eq_true, decide_eq_true_eq] at ha
        exact ha.1
      have G := Lib.hid (GB.out p HPS.out ha)
      have HC3 := Lib.hid (HCP.out w3 B3.out)
      have a0 := P3.out.cell 0
      have a1 := P3.out.cell 1
      have a2 := P3.out.cell 2
      have a3 := P3.out.cell 3
      have a4 := P3.out.cell 4
      clear ha GA GB HCP
      go_wp2_with fail
      refine (HC3.out).mono ?_
      rintro e w4 ⟨v, B, rfl, hb, A2, c2, A3, c3, cs, rfl, hB, hoi, hgi, hoc, hok, hgk, hss, hrg⟩
      obtain ⟨N, hN⟩ : ∃ N, ks.length = N + 1 := ⟨ks.length - 1, by omega⟩
      have hI : its.length = N + 1 := by have := HKL.out; omega
      have hpN : p ≤ N := by omega
      rw [hN] at hok hgk
      rw [hI] at hoi hgi
      obtain ⟨gk, rfl, hk1, hk2⟩ := own_at hok (by omega)
      obtain ⟨gi, rfl, hi1, hi2⟩ := own_at hoi (by omega)
      have hgki : gk ≠ gi := fun e => by
        have := own_ne hok hoi (by decide)
        rcases this with h | h
        · cases h
        · exact h (by rw [e]; rfl)
      have hgkB := hgk gk rfl
      have hgiB := hgi gi rfl
      obtain ⟨w5, hw5⟩ : ∃ w5, w5 = w4.alloc (.cells #[.int .i64 k, .int .i64 i, .string t, .slice (some ⟨gi, 0, none⟩) (N + 1) c2, .slice (some ⟨gk, 0, none⟩) (N + 1) c3] 26) := ⟨_, rfl⟩
      have P5 : Hid (Bk w5 w4.heap.size 26 #[.int .i64 k, .int .i64 i, .string t, .slice (some ⟨gi, 0, none⟩) (N + 1) c2, .slice (some ⟨gk, 0, none⟩) (N + 1) c3]) := Lib.hid (by rw [hw5]; exact Bk.new _ _ _)
      have OK5 : Hid (w5.ownsRow w3.heap.size 9 1 (.slice (some ⟨gk, 0, none⟩) (N + 1) c3) (N + 1) (ks.map Value.string)) := Lib.hid (by rw [hw5]; exact hok.alloc _)
      have OI5 : Hid (w5.ownsRow w3.heap.size 26 5 (.slice (some ⟨gi, 0, none⟩) (N + 1) c2) (N + 1) cs) := Lib.hid (by rw [hw5]; exact hoi.alloc _)
      have S5 : Hid (SameFrom B w4 w5) := Lib.hid (by rw [hw5]; exact fun b _ hb => Below.heap_alloc _ _ b hb)
      have B5 : Hid (Below w.heap.size w w5) := Lib.hid (by rw [hw5]; exact (below_next B3.out hb).alloc (below_next B3.out hb).size _)
      have Z5 : Hid (w5.heap.size = w4.heap.size + 1) := Lib.hid (by rw [hw5]; simp)
      have Q5 : Hid (Bk w5 (w.heap.size + 1) 26 #[.int .i64 0, .int .i64 0, .string ⟨#[]⟩, .slice none 0 0, .slice none 0 0]) := Lib.hid (by rw [hw5]; exact (Q3.out.below hb Q3.out.lt).alloc _)
      have HOC := Lib.hid hoc
      have HSS := Lib.hid hss
      have HRG := Lib.hid hrg
      have LT3 := Lib.hid Q3.out.lt
      have L34 : Hid (w3.heap.size ≤ w4.heap.size) := Lib.hid hb.size
      have hc1 : ∀ u ∈ ks.map Value.string, u.oneCell' = true := fun u hu => by obtain ⟨s, _, rfl⟩ := List.mem_map.1 hu; rfl
      have HD1 := Lib.hid (delS_any w5 w3.heap.size N c3 p gk _ hpN OK5.out hc1)
      have hwr : IntKind.i64.wrap ((p : Int) + 1) = (p : Int) + 1 := by rw [IntKind.wrap_i64]; have := HRE.out.2.1; omega
      have p54 := P5.out.cell 4
      have p53 := P5.out.cell 3
      have HW5 := Lib.hid hw5
      have NI := Lib.hid hI
      have NK := Lib.hid hN
      unfold vag
      rw [hN, hI]
      clear a0 a1 a2 a3 a4 hw5 hok hoi hoc hss hrg hb hgi hgk hc1 hI hN hpn hlc hcm hkc hcm'
      go_wp2_with fail
      rw [← HW5.out]
      refine (HD1.out).mono ?_
      rintro e w6 ⟨rfl, hok6, hg6⟩
      have P6 := Lib.hid (P5.out.grown hg6 (by intro e; injection e with e; omega))
      have Q6 := Lib.hid (Q5.out.grown hg6 (by have := LT3.out; intro e; injection e with e; omega))
      have OI6 := Lib.hid (OI5.out.kept hg6 (own_ne OI5.out OK5.out (by decide)))
      have OK6 := Lib.hid hok6
      have S6 : Hid (SameFrom B w4 w6) := Lib.hid (same_trans S5.out (same_grown hg6 hgkB) (by have := Z5.out; omega))
      have G6 := Lib.hid hg6
      obtain ⟨w7, hw7⟩ : ∃ w7, w7 = w6.setCell ⟨w4.heap.size, 4, none⟩ (.slice (some ⟨gk, 0, none⟩) N c3) := ⟨_, rfl⟩
      have P7 : Hid (Bk w7 w4.heap.size 26 #[.int .i64 k, .int .i64 i, .string t, .slice (some ⟨gi, 0, none⟩) (N + 1) c2, .slice (some ⟨gk, 0, none⟩) N c3]) := Lib.hid (by rw [hw7]; exact P6.out.put 4 _)
      have Q7 : Hid (Bk w7 (w.heap.size + 1) 26 #[.int .i64 0, .int .i64 0, .string ⟨#[]⟩, .slice none 0 0, .slice none 0 0]) := Lib.hid (by rw [hw7]; exact Q6.out.far (by have := LT3.out; have := L34.out; show w.heap.size + 1 ≠ w4.heap.size; omega) _)
      have OI7 : Hid (w7.ownsRow w3.heap.size 26 5 (.slice (some ⟨gi, 0, none⟩) (N + 1) c2) (N + 1) cs) := Lib.hid (by rw [hw7]; exact OI6.out.kept (turned w6 w4.heap.size 4 _) (Or.inr (by intro e; have e' : gi = w4.heap.size := Option.some.inj e; omega)))
      have OK7 : Hid (w7.ownsRow w3.heap.size 9 1 (.slice (some ⟨gk, 0, none⟩) N c3) N ((ks.map Value.string).take (p * 1) ++ (ks.map Value.string).drop ((p + 1) * 1))) := Lib.hid (by rw [hw7]; exact OK6.out.kept (turned w6 w4.heap.size 4 _) (Or.inr (by intro e; have e' : gk = w4.heap.size := Option.some.inj e; omega)))
      have S7 : Hid (SameFrom B w4 w7) := Lib.hid (by rw [hw7]; exact fun b h1 h2 => (Below.heap_setCell _ _ _ _ (by show b ≠ w4.heap.size; omega)).trans (S6.out b h1 h2))
      have B7 : Hid (Below w.heap.size w w7) := Lib.hid (by
        rw [hw7]
        exact (B5.out.grown G6.out B5.out.size (fun k hk => by injection hk with hk; have := LT3.out; omega)).setCell (p := ⟨w4.heap.size, 4, none⟩) (by have := LT3.out; have := L34.out; show w.heap.size ≤ w4.heap.size; omega) _)
      have hci : ∀ u ∈ cs, u.oneCell' = true := fun u hu => (OwnC.lies HOC.out).one u hu
      have HD2 := Lib.hid (delV_any w7 w3.heap.size N c2 p gi cs hpN OI7.out hci)
      have f64 := P6.out.frozen 4
      have p73 := P6.out.cell 3
      have p74 := P6.out.cell 4
      have HW7 := Lib.hid hw7
      have LW7 : Hid (w4.heap.size < w7.heap.size) := Lib.hid P7.out.lt
      clear hw7 hok6 hg6 hci p53 p54
      go_wp2_with fail
      rw [← HW7.out]
      refine (HD2.out).mono ?_
      rintro e w8 ⟨rfl, hoi8, hg8⟩
      have P8 := Lib.hid (P7.out.grown hg8 (by intro e; injection e with e; omega))
      have Q8 := Lib.hid (Q7.out.grown hg8 (by have := LT3.out; intro e; injection e with e; omega))
      have OK8 := Lib.hid (OK7.out.kept hg8 (own_ne OK7.out OI7.out (by decide)))
      have OI8 := Lib.hid hoi8
      have S8 : Hid (SameFrom B w4 w8) := Lib.hid (same_trans S7.out (same_grown hg8 hgiB) (by have := LW7.out; omega))
      have B8 := Lib.hid (B7.out.grown hg8 B7.out.size (fun k hk => by injection hk with hk; have := LT3.out; omega))
      have f83 := P8.out.frozen 3
      have p83 := P8.out.cell 3
      have P9 := Lib.hid (P8.out.put 3 (.slice (some ⟨gi, 0, none⟩) N c2))
      have Q9 := Lib.hid (Q8.out.far (p := ⟨w4.heap.size, 3, none⟩) (by have := LT3.out; have := L34.out; show w.heap.size + 1 ≠ w4.heap.size; omega) (.slice (some ⟨gi, 0, none⟩) N c2))
      have G8 := Lib.hid hg8
      clear hg8 hoi8 f64 p73 p74
      go_upto_region 9 with fail
      have LL := LT3.out
      have LM := L34.out
      have B9 : Hid (Below w.heap.size w (w8.setCell ⟨w4.heap.size, 3, none⟩ (.slice (some ⟨gi, 0, none⟩) N c2))) := Lib.hid (B8.out.setCell (p := ⟨w4.heap.size, 3, none⟩) (by show w.heap.size ≤ w4.heap.size; omega) _)
      have OK9 := Lib.hid (OK8.out.kept (turned w8 w4.heap.size 3 (.slice (some ⟨gi, 0, none⟩) N c2)) (Or.inr (by intro e; have e' : gk = w4.heap.size := Option.some.inj e; omega)))
      have OI9 := Lib.hid (OI8.out.kept (turned w8 w4.heap.size 3 (.slice (some ⟨gi, 0, none⟩) N c2)) (Or.inr (by intro e; have e' : gi = w4.heap.size := Option.some.inj e; omega)))
      have S9 : Hid (SameFrom B w4 (w8.setCell ⟨w4.heap.size, 3, none⟩ (.slice (some ⟨gi, 0, none⟩) N c2))) := Lib.hid (fun b h1 h2 => (Below.heap_setCell _ _ _ _ (by show b ≠ w4.heap.size; omega)).trans (S8.out b h1 h2))
      obtain ⟨w9, hw9⟩ : ∃ w9, w9 = w8.setCell ⟨w4.heap.size, 3, none⟩ (.slice (some ⟨gi, 0, none⟩) N c2) := ⟨_, rfl⟩
      rw [← hw9] at P9 Q9 B9 OK9 OI9 S9 ⊢
      clear hw9 f83 p83
      have b0 := P9.out.cell 0
      have b1 := P9.out.cell 1
      have b2 := P9.out.cell 2
      have b3 := P9.out.cell 3
      have b4 := P9.out.cell 4
      have r0 := Q9.out.frozen 0
      have r1 := Q9.out.frozen 1
      have r2 := Q9.out.frozen 2
      have r3 := Q9.out.frozen 3
      have r4 := Q9.out.frozen 4
      have z0 := Q9.out.cell 0
      have z1 := Q9.out.cell 1
      have z2 := Q9.out.cell 2
      have z3 := Q9.out.cell 3
      have z4 := Q9.out.cell 4
      go_wp2
      obtain ⟨wf, hwf⟩ : ∃ wf, wf = ((((w9.setCell ⟨w.heap.size + 1, 0, none⟩ (.int .i64 k)).setCell ⟨w.heap.size + 1, 1, none⟩ (.int .i64 i)).setCell ⟨w.heap.size + 1, 2, none⟩ (.string t)).setCell ⟨w.heap.size + 1, 3, none⟩ (.slice (some ⟨gi, 0, none⟩) N c2)).setCell ⟨w.heap.size + 1, 4, none⟩ (.slice (some ⟨gk, 0, none⟩) N c3) := ⟨_, rfl⟩
      have QF : Hid (Bk wf (w.heap.size + 1) 26 #[.int .i64 k, .int .i64 i, .string t, .slice (some ⟨gi, 0, none⟩) N c2, .slice (some ⟨gk, 0, none⟩) N c3]) := Lib.hid (by rw [hwf]; exact ((((Q9.out.put 0 _).put 1 _).put 2 _).put 3 _).put 4 _)
      have SF : Hid (∀ b, b ≠ w.heap.size + 1 → wf.heap[b]? = w9.heap[b]?) := Lib.hid (fun b hb => by
        rw [hwf]; exact ((((Below.heap_setCell _ _ _ _ hb).trans (Below.heap_setCell _ _ _ _ hb)).trans (Below.heap_setCell _ _ _ _ hb)).trans (Below.heap_setCell _ _ _ _ hb)).trans (Below.heap_setCell _ _ _ _ hb))
      have BF : Hid (Below w.heap.size w wf) := Lib.hid (by
        rw [hwf]
        exact ((((B9.out.setCell (p := ⟨w.heap.size + 1, 0, none⟩) (by show w.heap.size ≤ w.heap.size + 1; omega) _).setCell (p := ⟨w.heap.size + 1, 1, none⟩) (by show w.heap.size ≤ w.heap.size + 1; omega) _).setCell (p := ⟨w.heap.size + 1, 2, none⟩) (by show w.heap.size ≤ w.heap.size + 1; omega) _).setCell (p := ⟨w.heap.size + 1, 3, none⟩) (by show w.heap.size ≤ w.heap.size + 1; omega) _).setCell (p := ⟨w.heap.size + 1, 4, none⟩) (by show w.heap.size ≤ w.heap.size + 1; omega) _)
      rw [← hwf]
      refine bodyPost_ret (results_row2 rfl _ _ (w.heap.size + 1) 26 _ (0, 0) _ rfl QF.out Try.underlying26 rfl (by kernel_rfl)) rfl ?_
      refine ⟨_, _, G.out, _, rfl, ?_, BF.out⟩
      have hli := cut_len NI.out hpN
      have hlk := cut_len NK.out hpN
      have hoc9 := (HOC.out.keep S9.out).drop_one p
      rw [Ownd]
      refine ⟨some ⟨gi, 0, none⟩, c2, some ⟨gk, 0, none⟩, c3, _, ?_, HRG.out.1, HRG.out.2.1, HRG.out.2.2, ?_, (hoc9.keep (fun b h1 _ => SF.out b (by omega))).mono (by omega), ?_, fun s hs => ?_⟩
      · rw [hli, hlk]; rfl
      · rw [hli]
        exact own_mono (own_same OI9.out (fun b h1 _ => SF.out b (by omega))) (by omega)
      · rw [hlk, List.map_append, List.map_take, List.map_drop]
        have := OK9.out
        simp only [Nat.mul_one] at this
        exact own_mono (own_same this (fun b h1 _ => SF.out b (by omega))) (by omega)
      · rcases List.mem_append.1 hs with h | h
        · exact HSS.out s (List.mem_of_mem_take h)
        · exact HSS.out s (List.mem_of_mem_drop h)
end Go.Proofs.Ytidinbeanaifmaa
namespace Go.Proofs.Ytidinbeanaifmaa
open Go.RowKit

theorem LiesC.insert {w : World} {R : Nat → Prop} {x : VT} {a b s y z : Value} (hx : Lies w R x (.agg #[a, b, s, y, z])) : ∀ {l : List VT} {cs : List Value} (p : Nat), LiesC w R l cs → p ≤ l.length → LiesC w R (l.take p ++ [x] ++ l.drop p) (cs.take (p * 5) ++ [a, b, s, y, z] ++ cs.drop (p * 5))
  | l, cs, 0, h, _ => ⟨a, b, s, y, z, cs, rfl, hx, h⟩
  | [], cs, p + 1, h, hp => absurd hp (by simp)
  | v :: r, cs, p + 1, h, hp => by
    obtain ⟨a', b', s', y', z', rest, rfl, hv, hr⟩ := h
    have ih := LiesC.insert hx p hr (by simpa using hp)
    rw [show (p + 1) * 5 = p * 5 + 5 by omega]
    exact ⟨a', b', s', y', z', _, rfl, hv, ih⟩
theorem Lies.insertC {w : World} {R : Nat → Prop} {x : VT} {a b s y z : Value} (hx : Lies w R x (.agg #[a, b, s, y, z])) {l : List VT} {cs : List Value} (h : LiesC w R l cs) (p : Nat) (hp : p ≤ l.length) : LiesC w R (l.take p ++ [x] ++ l.drop p) (cs.take (p * 5) ++ [a, b, s, y, z] ++ cs.drop (p * 5)) := LiesC.insert hx p h hp
theorem LiesC.replace {w : World} {R : Nat → Prop} {x : VT} {a b s y z : Value} (hx : Lies w R x (.agg #[a, b, s, y, z])) : ∀ {l : List VT} {cs : List Value} (p : Nat), LiesC w R l cs → p < l.length → LiesC w R (l.set p x) (cs.take (p * 5) ++ [a, b, s, y, z] ++ (cs.drop (p * 5)).drop 5)
  | [], cs, p, h, hp => absurd hp (by simp)
  | v :: r, cs, 0, h, _ => by
    obtain ⟨a', b', s', y', z', rest, rfl, hv, hr⟩ := h
    exact ⟨a, b, s, y, z, rest, rfl, hx, hr⟩
  | v :: r, cs, p + 1, h, hp => by
    obtain ⟨a', b', s', y', z', rest, rfl, hv, hr⟩ := h
    have ih := LiesC.replace hx p hr (by simpa using hp)
    rw [show (p + 1) * 5 = p * 5 + 5 by omega]
    exact ⟨a', b', s', y', z', _, rfl, hv, ih⟩
def putT (its : List VT) (ks : List ByteArray) (key : ByteArray) (y : VT) (p : Nat) : VT :=
  if isAt ks key p = true then .mk 5 0 ⟨#[]⟩ (its.set p y) ks else .mk 5 0 ⟨#[]⟩ (its.take p ++ [y] ++ its.drop p) (ks.take p ++ [key] ++ ks.drop p)
def PutSpec (x : VT) (key : ByteArray) (y z : VT) (r : Int) : Prop :=
  (isMapT x = false ∧ z = nullT ∧ r = 12) ∨ (isMapT x = true ∧ ∃ p, Pos x.ks key p ∧ z = limT (putT x.its x.ks key y p) ∧ r = limE (putT x.its x.ks key y p))
theorem alls_upto {f : VT → Bool} : ∀ {l : List VT} (p : Nat), alls f l = true → alls f (l.take p) = true
  | _, 0, _ => by rw [List.take_zero]; rfl
  | [], p + 1, _ => by rw [List.take_nil]; rfl
  | x :: r, p + 1, h => by
    rw [alls, Bool.and_eq_true] at h
    rw [List.take_succ_cons, alls, h.1, Bool.true_and]
    exact alls_upto p h.2
theorem alls_from {f : VT → Bool} : ∀ {l : List VT} (p : Nat), alls f l = true → alls f (l.drop p) = true
  | _, 0, h => h
  | [], p + 1, _ => by rw [List.drop_nil]; rfl
  | x :: r, p + 1, h => by
    rw [alls, Bool.and_eq_true] at h
    exact alls_from p h.2
theorem alls_put {f : VT → Bool} {y : VT} (hy : y.all f = true) : ∀ {l : List VT} (p : Nat), alls f l = true → alls f (l.set p y) = true
  | [], p, _ => by rw [List.set_nil]; rfl
  | x :: r, 0, h => by
    rw [alls, Bool.and_eq_true] at h
    rw [List.set_cons_zero, alls, hy, h.2]; rfl
  | x :: r, p + 1, h => by
    rw [alls, Bool.and_eq_true] at h
    rw [List.set_cons_succ, alls, h.1, Bool.true_and]
    exact alls_put hy p h.2

/-- the map that is being changed: its struct in block g, its own rows -/
structure PutR (w w3 wx : World) (g : Nat) (Ak : Option Addr) (ck : Nat) (Ai : Option Addr) (ci : Nat) (cs : List Value) (its : List VT) (ks : List ByteArray) : Prop where
  blk : Bk wx g 26 #[.int .i64 5, .int .i64 0, .string ⟨#[]⟩, .slice Ai its.length ci, .slice Ak ks.length ck]
  ge : w3.heap.size ≤ g
  lies : LiesC w (fun b => b < w.heap.size) its cs
  rowI : wx.ownsRow w3.heap.size 26 5 (.slice Ai its.length ci) its.length cs
  rowK : wx.ownsRow w3.heap.size 9 1 (.slice Ak ks.length ck) ks.length (ks.map Value.string)
  bel : Below w3.heap.size w3 wx
  offI : (Value.slice Ai its.length ci).ownBlock ≠ some g
  offK : (Value.slice Ak ks.length ck).ownBlock ≠ some g
/-- its keys alone -/
structure KeyR (w3 wA : World) (lo : Nat) (Ak : Option Addr) (ck : Nat) (ks : List ByteArray) : Prop where
  row : wA.ownsRow w3.heap.size 9 1 (.slice Ak ks.length ck) ks.length (ks.map Value.string)
  bel : Below w3.heap.size w3 wA
  hi : ∀ b, (Value.slice Ak ks.length ck).ownBlock = some b → lo ≤ b
  lt : lo ≤ wA.heap.size
/-- its keys and its items -/
structure RowsR (w w3 wA wB : World) (lo lo2 : Nat) (Ak : Option Addr) (ck : Nat) (Ai : Option Addr) (ci : Nat) (cs : List Value) (its : List VT) (ks : List ByteArray) : Prop where
  lies : LiesC w (fun b => b < w.heap.size) its cs
  rowI : wB.ownsRow w3.heap.size 26 5 (.slice Ai its.length ci) its.length cs
  rowK : wB.ownsRow w3.heap.size 9 1 (.slice Ak ks.length ck) ks.length (ks.map Value.string)
  bel : Below w3.heap.size w3 wB
  hiK : ∀ b, (Value.slice Ak ks.length ck).ownBlock = some b → lo ≤ b ∧ b < wA.heap.size
  hiI : ∀ b, (Value.slice Ai its.length ci).ownBlock = some b → lo2 ≤ b ∧ b < wB.heap.size
  keep : ∀ g t z, Bk wA g t z → Bk wB g t z
  lt : lo ≤ wA.heap.size
def zC : Array Value := #[.int .i64 0, .int .i64 0, .string ⟨#[]⟩, .slice none 0 0, .slice none 0 0]

section
variable {w w3 wA wB : World} {lo lo2 g : Nat} {Ak : Option Addr} {ck : Nat} {Ai : Option Addr} {ci : Nat} {cs : List Value} {its : List VT} {ks : List ByteArray}
theorem PutR.after (h : RowsR w w3 wA wB lo lo2 Ak ck Ai ci cs its ks) : PutR w w3 (wB.alloc (.cells #[.int .i64 5, .int .i64 0, .string ⟨#[]⟩, .slice Ai its.length ci, .slice Ak ks.length ck] 26)) wB.heap.size Ak ck Ai ci cs its ks :=
  ⟨Bk.new _ _ _, h.bel.size, h.lies, h.rowI.alloc _, h.rowK.alloc _, h.bel.alloc h.bel.size _, fun e => by have := (h.hiI _ e).2; omega, fun e => by have := (h.rowK.lt _ e).2; omega⟩
theorem PutR.stored (h : RowsR w w3 wA wB lo lo2 Ak ck Ai ci cs its ks) (hy : Bk wB g 26 zC) (hg : w3.heap.size ≤ g)
    (hI : ∀ b, (Value.slice Ai its.length ci).ownBlock = some b → b ≠ g) (hK : ∀ b, (Value.slice Ak ks.length ck).ownBlock = some b → b ≠ g) :
    PutR w w3 (((((wB.setCell ⟨g, 0, none⟩ (.int .i64 5)).setCell ⟨g, 1, none⟩ (.int .i64 0)).setCell ⟨g, 2, none⟩ (.string ⟨#[]⟩)).setCell ⟨g, 3, none⟩ (.slice Ai its.length ci)).setCell ⟨g, 4, none⟩ (.slice Ak ks.length ck)) g Ak ck Ai ci cs its ks := by
  have hgr : wB.grownBy (((((wB.setCell ⟨g, 0, none⟩ (.int .i64 5)).setCell ⟨g, 1, none⟩ (.int .i64 0)).setCell ⟨g, 2, none⟩ (.string ⟨#[]⟩)).setCell ⟨g, 3, none⟩ (.slice Ai its.length ci)).setCell ⟨g, 4, none⟩ (.slice Ak ks.length ck)) (some g) :=
    grownBy_trans (grownBy_trans (grownBy_trans (grownBy_trans (turned _ g 0 _) (turned _ g 1 _)) (turned _ g 2 _)) (turned _ g 3 _)) (turned _ g 4 _)
  refine ⟨((((hy.put 0 _).put 1 _).put 2 _).put 3 _).put 4 _, hg, h.lies, h.rowI.kept hgr ?_, h.rowK.kept hgr ?_, h.bel.grown hgr h.bel.size (fun k hk => by injection hk with hk; omega), fun e => hI _ e rfl, fun e => hK _ e rfl⟩
  · exact Or.inr (fun e => hI _ e rfl)
  · exact Or.inr (fun e => hK _ e rfl)
end

theorem put_lies {w : World} {lo n m ci ck : Nat} {Ai Ak : Option Addr} {cs : List Value} {its : List VT} {ks : List ByteArray} (hcs : LiesC w (Lo w) its cs) (hoi : w.ownsRow lo 26 5 (.slice Ai n ci) n cs) (hn : n = its.length)
    (hok : w.ownsRow lo 9 1 (.slice Ak m ck) m (ks.map Value.string)) (hm : m = ks.length) (hs : ∀ s ∈ ks, s.size ≤ 9223372036854775807) :
    Lies w (Lo w) (.mk 5 0 ⟨#[]⟩ its ks) (.agg #[.int .i64 5, .int .i64 0, .string ⟨#[]⟩, .slice Ai n ci, .slice Ak m ck]) := by
  subst hn hm
  have bk := own_bounds hok
  have bi := own_bounds hoi
  rw [Lies]
  exact ⟨Ai, ci, Ak, ck, rfl, by omega, by omega, by decide, bi.1, bi.2, hcs.own hoi, bk.1, bk.2, strs_own hs hok⟩
theorem put_reach {its : List VT} {ks : List ByteArray} (h1 : its.length ≤ 1000001) (h2 : ks.length ≤ 1000001) (h : alls reachF its = true) : (VT.mk 5 0 ⟨#[]⟩ its ks).all reachF = true := by
  rw [VT.all_mk, h, Bool.and_true]
  unfold reachF VT.its VT.ks
  rw [Bool.and_eq_true, decide_eq_true_eq, decide_eq_true_eq]
  exact ⟨show its.length * 80 ≤ _ by omega, show ks.length * 16 ≤ _ by omega⟩

set_option maxRecDepth 100000 in
set_option maxHeartbeats 4000000 in
theorem Put_any {x y : VT} {v u : Value} {w : World} (key : ByteArray) (h : Lies w (Lo w) x v) (hr : x.all reachF = true) (h' : Lies w (Lo w) y u) (hr' : y.all reachF = true) (hkey : key.size ≤ 9223372036854775807) (hN : x.its.length ≤ 1000000) :
    Calls Try.prog 42 #[v, .string key, u] w fun e w' => ∃ z r, PutSpec x key y z r ∧ MakesE z r w e w' := by
  have HT := Lib.hid (fun (w' : World) (hb : Below w.heap.size w w') => isMap_any (h.below hb))
  obtain ⟨k, i, t, its, ks⟩ := x
  obtain ⟨A, c, A', c', rfl, _, _, _, hlc, hcm, hL, hkc, hcm', hS⟩ := h.open
  obtain ⟨k', i', t', E, n', d, E', m', d', rfl⟩ := h'.formV
  obtain ⟨r1, r2, r3⟩ := reach_mk hr
  have HL := Lib.hid hL
  have HS := Lib.hid hS
  have HY := Lib.hid h'
  have HRY := Lib.hid hr'
  have HN : Hid (its.length ≤ 1000000) := Lib.hid hN
  have HKY := Lib.hid hkey
  have HRE := Lib.hid (And.intro r1 (And.intro r2 r3))
  obtain ⟨w2, hw2⟩ : ∃ w2, w2 = ((w.alloc (.cells #[.int .i64 k, .int .i64 i, .string t, .slice A its.length c, .slice A' ks.length c'] 26)).alloc (.cells #[.int .i64 k', .int .i64 i', .string t', .slice E n' d, .slice E' m' d'] 26)).alloc (.cells #[.int .i64 0, .int .i64 0, .string ⟨#[]⟩, .slice none 0 0, .slice none 0 0] 26) := ⟨_, rfl⟩
  have B2 : Hid (Below w.heap.size w w2) := Lib.hid (by rw [hw2]; exact ((below_one _ _).trans (Below.alloc (Below.refl _ _) (by simp) _)).trans (Below.alloc (Below.refl _ _) (by simp; omega) _))
  have P2 : Hid (Bk w2 w.heap.size 26 #[.int .i64 k, .int .i64 i, .string t, .slice A its.length c, .slice A' ks.length c']) := Lib.hid (by rw [hw2]; exact ((Bk.new _ _ _).alloc _).alloc _)
  have X2 : Hid (Bk w2 (w.heap.size + 1) 26 #[.int .i64 k', .int .i64 i', .string t', .slice E n' d, .slice E' m' d']) := Lib.hid (by
    rw [hw2]
    have := (Bk.new (w.alloc (.cells #[.int .i64 k, .int .i64 i, .string t, .slice A its.length c, .slice A' ks.length c'] 26)) 26 #[.int .i64 k', .int .i64 i', .string t', .slice E n' d, .slice E' m' d']).alloc (.cells #[.int .i64 0, .int .i64 0, .string ⟨#[]⟩, .slice none 0 0, .slice none 0 0] 26)
    simpa using this)
  have Q2 : Hid (Bk w2 (w.heap.size + 2) 26 #[.int .i64 0, .int .i64 0, .string ⟨#[]⟩, .slice none 0 0, .slice none 0 0]) := Lib.hid (by
    rw [hw2]
    have := Bk.new ((w.alloc (.cells #[.int .i64 k, .int .i64 i, .string t, .slice A its.length c, .slice A' ks.length c'] 26)).alloc (.cells #[.int .i64 k', .int .i64 i', .string t', .slice E n' d, .slice E' m' d'] 26)) 26 #[.int .i64 0, .int .i64 0, .string ⟨#[]⟩, .slice none 0 0, .slice none 0 0]
    simpa using this)
  have HW := Lib.hid hw2
  have H1 := Lib.hid (HT.out w2 B2.out)
  have SN : Hid (isMapT (.mk k i t its ks) = false → PutSpec (.mk k i t its ks) key y nullT 12) := Lib.hid (fun h => Or.inl ⟨h, rfl, rfl⟩)
  have SY : Hid (isMapT (.mk k i t its ks) = true → k = 5 ∧ ks.length = its.length ∧ rising ks = true) := Lib.hid (fun h => by
    unfold isMapT VT.k at h
    rw [Bool.and_eq_true, decide_eq_true_eq] at h
    obtain ⟨rfl, h⟩ := h
    exact ⟨rfl, (map_wf h).1, (map_wf h).2.1⟩)
  have SG : Hid (isMapT (.mk k i t its ks) = true → ∀ p, Pos ks key p → PutSpec (.mk k i t its ks) key y (limT (putT its ks key y p)) (limE (putT its ks key y p))) :=
    Lib.hid (fun h p h1 => Or.inr ⟨h, p, h1, rfl, rfl⟩)
  clear h hw2 hr hL hS r1 r2 r3 h' hr' hkey hN
  generalize isMapT (.mk k i t its ks) = b at *
  generalize VT.mk k i t its ks = x at *
  have e0 := P2.out.cell 0
  unfold vag at *
  go_enter Try.func42, Try.ntmps42
  go_wp2_with fail
  rw [← HW.out]
  refine (H1.out).mono ?_
  rintro e w3 ⟨rfl, hb⟩
  have P3 := Lib.hid (P2.out.below hb P2.out.lt)
  have X3 := Lib.hid (X2.out.below hb X2.out.lt)
  have Q3 := Lib.hid (Q2.out.below hb Q2.out.lt)
  have B3 := Lib.hid (below_next B2.out hb)
  clear hb e0
  cases b with
  | false =>
    have G := Lib.hid (SN.out rfl)
    clear SN SY SG
    go_wp2_with fail
    refine (Null_any w3).mono ?_
    unfold zeroV
    rintro e w4 ⟨rfl, hb⟩
    have Q4 := Lib.hid (Q3.out.below hb Q3.out.lt)
    have B4 := Lib.hid (below_next B3.out hb)
    clear hb
    have q0 := Q4.out.cell 0
    have q1 := Q4.out.cell 1
    have q2 := Q4.out.cell 2
    have q3 := Q4.out.cell 3
    have q4 := Q4.out.cell 4
    have f0 := Q4.out.frozen 0
    have f1 := Q4.out.frozen 1
    have f2 := Q4.out.frozen 2
    have f3 := Q4.out.frozen 3
    have f4 := Q4.out.frozen 4
    go_wp2
    obtain ⟨wf, hwf⟩ : ∃ wf, wf = ((((w4.setCell ⟨w.heap.size + 2, 0, none⟩ (.int .i64 0)).setCell ⟨w.heap.size + 2, 1, none⟩ (.int .i64 0)).setCell ⟨w.heap.size + 2, 2, none⟩ (.string ⟨#[]⟩)).setCell ⟨w.heap.size + 2, 3, none⟩ (.slice none 0 0)).setCell ⟨w.heap.size + 2, 4, none⟩ (.slice none 0 0) := ⟨_, rfl⟩
    have QF : Hid (Bk wf (w.heap.size + 2) 26 #[.int .i64 0, .int .i64 0, .string ⟨#[]⟩, .slice none 0 0, .slice none 0 0]) := Lib.hid (by rw [hwf]; exact ((((Q4.out.put 0 _).put 1 _).put 2 _).put 3 _).put 4 _)
    have BF : Hid (Below w.heap.size w wf) := Lib.hid (by
      rw [hwf]
      exact ((((B4.out.setCell (p := ⟨w.heap.size + 2, 0, none⟩) (by show w.heap.size ≤ w.heap.size + 2; omega) _).setCell (p := ⟨w.heap.size + 2, 1, none⟩) (by show w.heap.size ≤ w.heap.size + 2; omega) _).setCell (p := ⟨w.heap.size + 2, 2, none⟩) (by show w.heap.size ≤ w.heap.size + 2; omega) _).setCell (p := ⟨w.heap.size + 2, 3, none⟩) (by show w.heap.size ≤ w.heap.size + 2; omega) _).setCell (p := ⟨w.heap.size + 2, 4, none⟩) (by show w.heap.size ≤ w.heap.size + 2; omega) _)
    rw [← hwf]
    refine bodyPost_ret (results_row2 rfl _ _ (w.heap.size + 2) 26 _ (0, 0) _ rfl QF.out Try.underlying26 rfl (by kernel_rfl)) rfl ?_
    exact ⟨nullT, _, G.out, _, rfl, zero_ownd _ _, BF.out⟩
  | true =>
    obtain ⟨hk5, hkl, hri⟩ := SY.out rfl
    have G := Lib.hid (SG.out rfl)
    have HSR := Lib.hid (fun (W : World) (hb : Below w.heap.size w W) => search_any A' c' ks key W (HS.out.below hb) (by have := HRE.out.2.1; omega) hri)
    have HKL := Lib.hid hkl
    have HCS := Lib.hid (fun (W : World) (hb : Below w.heap.size w W) => cloneS_any A' c' ks W (HS.out.below hb) HRE.out.2.1)
    have HCV := Lib.hid (fun (W : World) (hb : Below w.heap.size w W) => cloneV_any (fun b => b < w.heap.size) A c its W (fun b h => Nat.lt_of_lt_of_le h hb.size) (HL.out.keep (fun q hq => hb.cell hq) (fun _ h => h)) HRE.out.1)
    clear SN SY SG hk5 hkl hri
    have HS1 : Hid (Calls Try.prog 65 #[.slice A' ks.length c'] w3.drew fun e wA => ∃ Ak ck, e = .returned (.slice Ak ks.length ck) ∧ Hid (KeyR w3 wA w3.heap.size Ak ck ks)) := Lib.hid (by
      refine (HCS.out _ B3.out.drew).mono ?_
      rintro e wA ⟨v, rfl, ho, hb⟩
      obtain ⟨Ak, ck, rfl, _, _⟩ := own_formN ho
      exact ⟨Ak, ck, rfl, Lib.hid ⟨ho, ⟨hb.os, hb.tape, hb.output, hb.size, hb.block⟩, fun b h => (ho.lt b h).1, hb.size⟩⟩)
    have HS2 : Hid (Calls Try.prog 65 #[.slice A' ks.length c'] (w3.alloc (.cells #[.int .i64 0, .int .i64 0, .string ⟨#[]⟩, .slice none 0 0, .slice none 0 0] 26)).drew fun e wA => ∃ Ak ck, e = .returned (.slice Ak ks.length ck) ∧ Hid (KeyR w3 wA (w3.heap.size + 1) Ak ck ks) ∧ Hid (Bk wA w3.heap.size 26 zC)) := Lib.hid (by
      refine (HCS.out _ (B3.out.alloc B3.out.size _).drew).mono ?_
      rintro e wA ⟨v, rfl, ho, hb⟩
      obtain ⟨Ak, ck, rfl, _, _⟩ := own_formN ho
      have hb' : Below (w3.heap.size + 1) (w3.alloc (.cells #[.int .i64 0, .int .i64 0, .string ⟨#[]⟩, .slice none 0 0, .slice none 0 0] 26)) wA := by have h := hb; simp at h; exact ⟨h.os, h.tape, h.output, by have := h.size; simpa using this, h.block⟩
      have ho' : wA.ownsRow (w3.heap.size + 1) 9 1 (.slice Ak ks.length ck) ks.length (ks.map Value.string) := by have h := ho; simp at h; exact h
      exact ⟨Ak, ck, rfl, Lib.hid ⟨own_mono ho' (by omega), (below_one w3 _).trans (hb'.mono (by omega)), fun b h => (ho'.lt b h).1, by have := hb'.size; simpa using this⟩, Lib.hid ((Bk.new w3 _ _).below hb' (by omega))⟩)
    have HV1 : Hid (∀ (wA : World) (lo : Nat) (Ak : Option Addr) (ck : Nat), Hid (KeyR w3 wA lo Ak ck ks) → Calls Try.prog 66 #[.slice A its.length c] wA fun e wB => ∃ Ai ci cs, e = .returned (.slice Ai its.length ci) ∧ Hid (RowsR w w3 wA wB lo wA.heap.size Ak ck Ai ci cs its ks)) := Lib.hid (by
      intro wA lo Ak ck hK
      refine (HCV.out _ (below_next B3.out hK.out.bel)).mono ?_
      rintro e wB ⟨v, cs, rfl, hcs, ho, hb⟩
      obtain ⟨Ai, ci, rfl, _, _⟩ := own_formN ho
      exact ⟨Ai, ci, cs, rfl, Lib.hid ⟨hcs.keep (w' := w) (fun q hq => ((below_next B3.out hK.out.bel).cell hq).symm) (fun _ h => h), own_mono ho hK.out.bel.size, hK.out.row.kept (grown_of_below (r := none) hb) (by cases (Value.slice Ak ks.length ck).ownBlock with | none => exact Or.inl rfl | some _ => exact Or.inr (by simp)), hK.out.bel.trans (hb.mono hK.out.bel.size),
        fun b h => ⟨hK.out.hi b h, (hK.out.row.lt b h).2⟩, fun b h => ho.lt b h, fun g t z h => h.below hb h.lt, hK.out.lt⟩⟩)
    have HV2 : Hid (∀ (wA : World) (lo : Nat) (Ak : Option Addr) (ck : Nat), Hid (KeyR w3 wA lo Ak ck ks) → Calls Try.prog 66 #[.slice A its.length c] (wA.alloc (.cells #[.int .i64 0, .int .i64 0, .string ⟨#[]⟩, .slice none 0 0, .slice none 0 0] 26)) fun e wB => ∃ Ai ci cs, e = .returned (.slice Ai its.length ci) ∧ Hid (RowsR w w3 wA wB lo (wA.heap.size + 1) Ak ck Ai ci cs its ks) ∧ Hid (Bk wB wA.heap.size 26 zC)) := Lib.hid (by
      intro wA lo Ak ck hK
      have hA := below_next B3.out hK.out.bel
      refine (HCV.out _ (hA.alloc hA.size _)).mono ?_
      rintro e wB ⟨v, cs, rfl, hcs, ho, hb⟩
      obtain ⟨Ai, ci, rfl, _, _⟩ := own_formN ho
      have hb' : Below (wA.heap.size + 1) (wA.alloc (.cells #[.int .i64 0, .int .i64 0, .string ⟨#[]⟩, .slice none 0 0, .slice none 0 0] 26)) wB := by have h := hb; simp at h; exact h
      have ho' : wB.ownsRow (wA.heap.size + 1) 26 5 (.slice Ai its.length ci) its.length cs := by have h := ho; simp at h; exact h
      have hAB : Below wA.heap.size wA wB := (below_one wA _).trans (hb'.mono (by omega))
      exact ⟨Ai, ci, cs, rfl, Lib.hid ⟨hcs.keep (w' := w) (fun q hq => ((hA.alloc hA.size _).cell hq).symm) (fun _ h => h), own_mono ho' (by have := hK.out.bel.size; omega), hK.out.row.kept (grown_of_below (r := none) hAB) (by cases (Value.slice Ak ks.length ck).ownBlock with | none => exact Or.inl rfl | some _ => exact Or.inr (by simp)), hK.out.bel.trans (hAB.mono hK.out.bel.size),
        fun b h => ⟨hK.out.hi b h, (hK.out.row.lt b h).2⟩, fun b h => ho'.lt b h, fun g t z h => h.below hAB h.lt, hK.out.lt⟩, Lib.hid ((Bk.new wA _ _).below hb' (by omega))⟩)
    clear HCS HCV
    go_wp2_with fail
    go_cut [8] from 15 to 52 (fun q wx => ∃ (g : Nat) (Ak : Option Addr) (ck : Nat) (Ai : Option Addr) (ci : Nat) (cs : List Value), q = .pointer (some ⟨g, 0, none⟩) ∧ Hid (PutR w w3 wx g Ak ck Ai ci cs its ks))
    case first =>
      have p4 := P3.out.cell 4
      have p3 := P3.out.cell 3
      change _ = some (Value.slice A' ks.length c') at p4
      change _ = some (Value.slice A its.length c) at p3
      have lt3 : w.heap.size < w3.heap.size := P3.out.lt
      go_region_law (first
          | (go_simp; go_at_call 65; refine (HS1.out).mono ?_; rintro _ wA ⟨Ak, ck, rfl, HK⟩; have kB := (HK.out.bel.cell (p := ⟨w.heap.size, 3, none⟩) P3.out.lt).trans p3; have ltA : w.heap.size < wA.heap.size := Nat.lt_of_lt_of_le P3.out.lt HK.out.bel.size)
          | (go_simp; go_at_call 65; refine (HS2.out).mono ?_; rintro _ wA ⟨Ak, ck, rfl, HK, BZ⟩; have kB := (HK.out.bel.cell (p := ⟨w.heap.size, 3, none⟩) P3.out.lt).trans p3; have ltA : w.heap.size < wA.heap.size := Nat.lt_of_lt_of_le P3.out.lt HK.out.bel.size)
          | (go_simp; go_at_call 66; refine (HV1.out wA _ Ak ck HK).mono ?_; rintro _ wB ⟨Ai, ci, cs, rfl, HR⟩; (first | (have BY := Lib.hid (HR.out.keep _ _ _ BZ.out); have z0 := BY.out.cell 0; have z1 := BY.out.cell 1; have z2 := BY.out.cell 2; have z3 := BY.out.cell 3; have z4 := BY.out.cell 4; have f0 := BY.out.frozen 0; have f1 := BY.out.frozen 1; have f2 := BY.out.frozen 2; have f3 := BY.out.frozen 3; have f4 := BY.out.frozen 4; change _ = some (Value.int .i64 0) at z0; change _ = some (Value.int .i64 0) at z1; change _ = some (Value.string ⟨#[]⟩) at z2; change _ = some (Value.slice none 0 0) at z3; change _ = some (Value.slice none 0 0) at z4) | skip))
          | (go_simp; go_at_call 66; refine (HV2.out wA _ Ak ck HK).mono ?_; rintro _ wB ⟨Ai, ci, cs, rfl, HR, BY⟩; have z0 := BY.out.cell 0; have z1 := BY.out.cell 1; have z2 := BY.out.cell 2; have z3 := BY.out.cell 3; have z4 := BY.out.cell 4; have f0 := BY.out.frozen 0; have f1 := BY.out.frozen 1; have f2 := BY.out.frozen 2; have f3 := BY.out.frozen 3; have f4 := BY.out.frozen 4; change _ = some (Value.int .i64 0) at z0; change _ = some (Value.int .i64 0) at z1; change _ = some (Value.string ⟨#[]⟩) at z2; change _ = some (Value.slice none 0 0) at z3; change _ = some (Value.slice none 0 0) at z4))
      all_goals (
        go_wp2_with fail
        go_meet
        first
          | (have hz := BZ; exact ⟨w3.heap.size, Ak, ck, Ai, ci, cs, rfl, Lib.hid (PutR.stored HR.out BY.out (Nat.le_refl _) (fun b h e => by have := (HR.out.hiI b h).1; have := HR.out.lt; omega) (fun b h e => by have := (HR.out.hiK b h).1; omega))⟩)
          | (have hz := BY; exact ⟨wA.heap.size, Ak, ck, Ai, ci, cs, rfl, Lib.hid (PutR.stored HR.out BY.out HK.out.bel.size (fun b h e => by have := (HR.out.hiI b h).1; omega) (fun b h e => by have := (HR.out.hiK b h).2; omega))⟩)
          | exact ⟨wB.heap.size, Ak, ck, Ai, ci, cs, rfl, Lib.hid (PutR.after HR.out)⟩)
    case rest =>
      obtain ⟨g, Ak, ck, Ai, ci, cs, rfl, HP⟩ := hcut
      clear HS1 HS2 HV1 HV2
      obtain ⟨w4, hw4⟩ : ∃ w4, w4 = wc := ⟨_, rfl⟩
      subst hw4
      have P4 := Lib.hid (P3.out.below HP.out.bel P3.out.lt)
      have X4 := Lib.hid (X3.out.below HP.out.bel X3.out.lt)
      have Q4 := Lib.hid (Q3.out.below HP.out.bel Q3.out.lt)
      have B4 := Lib.hid (below_next B3.out HP.out.bel)
      have LT3 := Lib.hid Q3.out.lt
      have GL := Lib.hid HP.out.blk.lt
      have H4 := Lib.hid (HSR.out w4 B4.out)
      have p4 := P4.out.cell 4
      change _ = some (Value.slice A' ks.length c') at p4
      clear P2 X2 Q2 B2 H1 HW P3 X3 Q3 HSR
      go_wp2_with fail
      refine (H4.out).mono ?_
      rintro e w' ⟨p, hpos, rfl, rfl⟩
      have HPS := Lib.hid hpos
      have SZ := Lib.hid (HS.out.sizes)
      have HG4 := Lib.hid (G.out p hpos)
      have hpl : p ≤ ks.length := hpos.1
      clear hpos p4 G
      have hLY := HY.out.keep (w' := w) (R' := fun b => b < w.heap.size) (fun _ _ => rfl) (fun _ h => h)
      cases ha : isAt ks key p with
      | false =>
        have HI := Lib.hid (insS_any (w4.alloc (.cells #[.string key] 9)) w3.heap.size ks.length ck p w4.heap.size Ak (ks.map Value.string) [.string key] rfl hpl (HP.out.rowK.alloc _) (Bk.new w4 _ _)
          (fun e => by have := (HP.out.rowK.lt _ e.symm).2; omega) (by have := HP.out.bel.size; simp; omega) (by have := HN.out; have := HKL.out; omega) (fun u hu => by obtain ⟨s, _, rfl⟩ := List.mem_map.1 hu; rfl) (fun u hu => by have := List.mem_singleton.1 hu; subst this; rfl))
        have p4 := HP.out.blk.cell 4
        change _ = some (Value.slice Ak ks.length ck) at p4
        have HPL := Lib.hid hpl
        have HLY := Lib.hid hLY
        clear hpl hLY
        go_wp2_with fail
        refine (HI.out).mono ?_
        rintro e w5 ⟨g2, c2, rfl, hok5, hg5, hat5⟩
        have NK : Hid ((Value.slice Ak ks.length ck).ownBlock ≠ some g) := Lib.hid HP.out.offK
        have NI : Hid ((Value.slice Ai its.length ci).ownBlock ≠ some g) := Lib.hid HP.out.offI
        have hlo : w3.heap.size ≤ g := HP.out.ge
        have HLO := Lib.hid hlo
        have G45 : w4.grownBy w5 (Value.slice Ak ks.length ck).ownBlock := grownBy_trans (World.grownBy_alloc w4 _ _) hg5
        have HG45 := Lib.hid G45
        have kl := fun b h => (HP.out.rowK.lt b h).1
        have P5 := Lib.hid (HP.out.blk.grown G45 (Ne.symm NK.out))
        have X5 := Lib.hid (X4.out.grown G45 (fun e => by have := kl _ e.symm; have := LT3.out; omega))
        have Q5 := Lib.hid (Q4.out.grown G45 (fun e => by have := kl _ e.symm; have := LT3.out; omega))
        have RI5 := Lib.hid (HP.out.rowI.kept G45 (own_ne HP.out.rowI HP.out.rowK (by decide)))
        have RK5 := Lib.hid hok5
        have hg2 : g2 ≠ g := fun e => by
          rcases hat5 with h | h
          · exact NK.out (by rw [h, e])
          · have := GL.out; simp at h; omega
        have HG2 := Lib.hid hg2
        have B5 := Lib.hid (B4.out.grown G45 B4.out.size (fun b h => by have := kl b h; have := LT3.out; omega))
        have p54 := P5.out.cell 4
        have f54 := P5.out.frozen 4
        clear hok5 hg5 hat5 G45 kl hg2 p4
        go_upto_region 8 with fail
        obtain ⟨w6, hw6⟩ : ∃ w6, w6 = w5.setCell ⟨g, 4, none⟩ (.slice (some ⟨g2, 0, none⟩) (ks.length + 1) c2) := ⟨_, rfl⟩
        have P6 := Lib.hid (P5.out.put 4 (.slice (some ⟨g2, 0, none⟩) (ks.length + 1) c2))
        have X6 := Lib.hid (X5.out.far (p := ⟨g, 4, none⟩) (by have := LT3.out; show w.heap.size + 1 ≠ g; omega) (.slice (some ⟨g2, 0, none⟩) (ks.length + 1) c2))
        have Q6 := Lib.hid (Q5.out.far (p := ⟨g, 4, none⟩) (by have := LT3.out; show w.heap.size + 2 ≠ g; omega) (.slice (some ⟨g2, 0, none⟩) (ks.length + 1) c2))
        have RI6 := Lib.hid (RI5.out.kept (turned w5 g 4 (.slice (some ⟨g2, 0, none⟩) (ks.length + 1) c2)) (Or.inr NI.out))
        have RK6 := Lib.hid (RK5.out.kept (turned w5 g 4 (.slice (some ⟨g2, 0, none⟩) (ks.length + 1) c2)) (Or.inr (fun e => HG2.out (Option.some.inj e))))
        have B6 := Lib.hid (B5.out.setCell (p := ⟨g, 4, none⟩) (by have := LT3.out; show w.heap.size ≤ g; omega) (.slice (some ⟨g2, 0, none⟩) (ks.length + 1) c2))
        have Z6 : Hid (w3.heap.size ≤ w6.heap.size) := Lib.hid (by rw [hw6]; have h1 := HP.out.bel.size; have h2 := HG45.out.size; have h3 := (turned w5 g 4 (.slice (some ⟨g2, 0, none⟩) (ks.length + 1) c2)).size; omega)
        rw [← hw6] at P6 X6 Q6 RI6 RK6 B6 ⊢
        change Hid (Bk w6 g 26 #[.int .i64 5, .int .i64 0, .string ⟨#[]⟩, .slice Ai its.length ci, .slice (some ⟨g2, 0, none⟩) (ks.length + 1) c2]) at P6
        clear hw6 p54 f54 hlo
        have HIV := Lib.hid (insV_any (w6.alloc (.cells #[.int .i64 k', .int .i64 i', .string t', .slice E n' d, .slice E' m' d'] 26)) w3.heap.size its.length ci p w6.heap.size Ai cs [.int .i64 k', .int .i64 i', .string t', .slice E n' d, .slice E' m' d'] rfl (by have := HPL.out; have := HKL.out; omega) (RI6.out.alloc _) (Bk.new w6 _ _)
          (fun e => by have := (RI6.out.lt _ e.symm).2; omega) (by have := Z6.out; simp; omega) (by have := HN.out; omega) (fun u hu => HP.out.lies.one u hu) (fun u hu => by simp at hu; rcases hu with h | h | h | h | h <;> (subst h; rfl)))
        have p63 := P6.out.cell 3
        have x0 := X6.out.cell 0
        have x1 := X6.out.cell 1
        have x2 := X6.out.cell 2
        have x3 := X6.out.cell 3
        have x4 := X6.out.cell 4
        change _ = some (Value.slice Ai its.length ci) at p63
        go_wp2_with fail
        refine (HIV.out).mono ?_
        rintro e w7 ⟨g3, c3, rfl, hoi7, hg7, hat7⟩
        have G67 : w6.grownBy w7 (Value.slice Ai its.length ci).ownBlock := grownBy_trans (World.grownBy_alloc w6 _ _) hg7
        have kl := fun b h => (RI6.out.lt b h).1
        have P7 := Lib.hid (P6.out.grown G67 (Ne.symm NI.out))
        have Q7 := Lib.hid (Q6.out.grown G67 (fun e => by have := kl _ e.symm; have := LT3.out; omega))
        have RK7 := Lib.hid (RK6.out.kept G67 (own_ne RK6.out RI6.out (by decide)))
        have hg3 : g3 ≠ g := fun e => by
          rcases hat7 with h | h
          · exact NI.out (by rw [h, e])
          · have := P6.out.lt; simp at h; omega
        have B7 := Lib.hid (B6.out.grown G67 B6.out.size (fun b h => by have := kl b h; have := LT3.out; omega))
        have RI7 := Lib.hid hoi7
        have HG3 := Lib.hid hg3
        have p73 := P7.out.cell 3
        have f73 := P7.out.frozen 3
        clear hoi7 hg7 hat7 G67 kl hg3 p63 x0 x1 x2 x3 x4
        go_upto_region 9 with fail
        obtain ⟨w8, hw8⟩ : ∃ w8, w8 = w7.setCell ⟨g, 3, none⟩ (.slice (some ⟨g3, 0, none⟩) (its.length + 1) c3) := ⟨_, rfl⟩
        have P8 := Lib.hid (P7.out.put 3 (.slice (some ⟨g3, 0, none⟩) (its.length + 1) c3))
        have Q8 := Lib.hid (Q7.out.far (p := ⟨g, 3, none⟩) (by have := HLO.out; have := LT3.out; show w.heap.size + 2 ≠ g; omega) (.slice (some ⟨g3, 0, none⟩) (its.length + 1) c3))
        have RK8 := Lib.hid (RK7.out.kept (turned w7 g 3 (.slice (some ⟨g3, 0, none⟩) (its.length + 1) c3)) (Or.inr (fun e => HG2.out (Option.some.inj e))))
        have RI8 := Lib.hid (RI7.out.kept (turned w7 g 3 (.slice (some ⟨g3, 0, none⟩) (its.length + 1) c3)) (Or.inr (fun e => HG3.out (Option.some.inj e))))
        have B8 := Lib.hid (B7.out.setCell (p := ⟨g, 3, none⟩) (by have := HLO.out; have := LT3.out; show w.heap.size ≤ g; omega) (.slice (some ⟨g3, 0, none⟩) (its.length + 1) c3))
        rw [← hw8] at P8 Q8 RK8 RI8 B8 ⊢
        change Hid (Bk w8 g 26 #[.int .i64 5, .int .i64 0, .string ⟨#[]⟩, .slice (some ⟨g3, 0, none⟩) (its.length + 1) c3, .slice (some ⟨g2, 0, none⟩) (ks.length + 1) c2]) at P8
        clear hw8 p73 f73
        have hz : putT its ks key y p = .mk 5 0 ⟨#[]⟩ (its.take p ++ [y] ++ its.drop p) (ks.take p ++ [key] ++ ks.drop p) := by unfold putT; rw [ha]; rfl
        have hpi : p ≤ its.length := by have := HPL.out; have := HKL.out; omega
        have hli : its.length + 1 = (its.take p ++ [y] ++ its.drop p).length := by simp only [List.length_append, List.length_take, List.length_drop, List.length_singleton]; omega
        have hlk : ks.length + 1 = (ks.take p ++ [key] ++ ks.drop p).length := by have := HPL.out; simp only [List.length_append, List.length_take, List.length_drop, List.length_singleton]; omega
        have L8 : Lies w8 (Lo w8) (.mk 5 0 ⟨#[]⟩ (its.take p ++ [y] ++ its.drop p) (ks.take p ++ [key] ++ ks.drop p)) (.agg #[.int .i64 5, .int .i64 0, .string ⟨#[]⟩, .slice (some ⟨g3, 0, none⟩) (its.length + 1) c3, .slice (some ⟨g2, 0, none⟩) (ks.length + 1) c2]) :=
          put_lies ((HLY.out.insertC HP.out.lies p hpi).below B8.out) RI8.out hli (by have h := RK8.out; simp only [Nat.mul_one] at h; rw [List.map_append, List.map_append, List.map_take, List.map_drop]; exact h) hlk (fun s hs => by
            rcases List.mem_append.1 hs with h | h
            · rcases List.mem_append.1 h with h | h
              · exact SZ.out s (List.mem_of_mem_take h)
              · have := List.mem_singleton.1 h; subst this; exact HKY.out
            · exact SZ.out s (List.mem_of_mem_drop h))
        have R8 : (VT.mk 5 0 ⟨#[]⟩ (its.take p ++ [y] ++ its.drop p) (ks.take p ++ [key] ++ ks.drop p)).all reachF = true :=
          put_reach (by rw [← hli]; have := HN.out; omega) (by rw [← hlk]; have := HN.out; have := HKL.out; omega) (by
            rw [alls_append, alls_append, alls_upto p HRE.out.2.2, alls_from p HRE.out.2.2, alls, alls, HRY.out]; rfl)
        rw [← hz] at L8 R8
        have G8 := HG4
        clear hz hli hlk hpi HG4
        generalize putT its ks key y p = z at *
        have HM := Lib.hid (limited_any L8 R8)
        have b0 := P8.out.cell 0
        have b1 := P8.out.cell 1
        have b2 := P8.out.cell 2
        have b3 := P8.out.cell 3
        have b4 := P8.out.cell 4
        clear L8 R8
        go_wp2_with fail
        refine (HM.out).mono ?_
        rintro e w9 ⟨v, rfl, hov, hb⟩
        have Q9 := Lib.hid (Q8.out.below hb Q8.out.lt)
        have B9 := Lib.hid (below_next B8.out hb)
        have L89 : Hid (w.heap.size + 2 < w8.heap.size) := Lib.hid Q8.out.lt
        obtain ⟨k2, i2, t2, D, n3, c3, D', n4, c4, rfl⟩ := hov.form
        have OV := Lib.hid hov
        have q0 := Q9.out.cell 0
        have q1 := Q9.out.cell 1
        have q2 := Q9.out.cell 2
        have q3 := Q9.out.cell 3
        have q4 := Q9.out.cell 4
        have f0 := Q9.out.frozen 0
        have f1 := Q9.out.frozen 1
        have f2 := Q9.out.frozen 2
        have f3 := Q9.out.frozen 3
        have f4 := Q9.out.frozen 4
        clear hb hov b0 b1 b2 b3 b4
        go_wp2
        obtain ⟨wf, hwf⟩ : ∃ wf, wf = ((((w9.setCell ⟨w.heap.size + 2, 0, none⟩ (.int .i64 k2)).setCell ⟨w.heap.size + 2, 1, none⟩ (.int .i64 i2)).setCell ⟨w.heap.size + 2, 2, none⟩ (.string t2)).setCell ⟨w.heap.size + 2, 3, none⟩ (.slice D n3 c3)).setCell ⟨w.heap.size + 2, 4, none⟩ (.slice D' n4 c4) := ⟨_, rfl⟩
        have QF : Hid (Bk wf (w.heap.size + 2) 26 #[.int .i64 k2, .int .i64 i2, .string t2, .slice D n3 c3, .slice D' n4 c4]) := Lib.hid (by rw [hwf]; exact ((((Q9.out.put 0 _).put 1 _).put 2 _).put 3 _).put 4 _)
        have SF : Hid (∀ b, b ≠ w.heap.size + 2 → wf.heap[b]? = w9.heap[b]?) := Lib.hid (fun b hb => by
          rw [hwf]; exact ((((Below.heap_setCell _ _ _ _ hb).trans (Below.heap_setCell _ _ _ _ hb)).trans (Below.heap_setCell _ _ _ _ hb)).trans (Below.heap_setCell _ _ _ _ hb)).trans (Below.heap_setCell _ _ _ _ hb))
        have BF : Hid (Below w.heap.size w wf) := Lib.hid (by
          rw [hwf]
          exact ((((B9.out.setCell (p := ⟨w.heap.size + 2, 0, none⟩) (by show w.heap.size ≤ w.heap.size + 2; omega) _).setCell (p := ⟨w.heap.size + 2, 1, none⟩) (by show w.heap.size ≤ w.heap.size + 2; omega) _).setCell (p := ⟨w.heap.size + 2, 2, none⟩) (by show w.heap.size ≤ w.heap.size + 2; omega) _).setCell (p := ⟨w.heap.size + 2, 3, none⟩) (by show w.heap.size ≤ w.heap.size + 2; omega) _).setCell (p := ⟨w.heap.size + 2, 4, none⟩) (by show w.heap.size ≤ w.heap.size + 2; omega) _)
        rw [← hwf]
        refine bodyPost_ret (results_row2 rfl _ _ (w.heap.size + 2) 26 _ (0, 0) _ rfl QF.out Try.underlying26 rfl (by kernel_rfl)) rfl ?_
        exact ⟨_, _, G8.out, _, rfl, (OV.out.keep (fun b h1 _ => SF.out b (by have := L89.out; omega))).mono (by have := L89.out; omega), BF.out⟩
      | true =>
        have hpn : p < ks.length := by
          have h := ha
          unfold isAt at h
          rw [Bool.and_eq_true, decide_eq_true_eq] at h
          exact h.1
        have hpi : p < its.length := by have := HKL.out; omega
        have hclen : cs.length = its.length * 5 := HP.out.rowI.1
        obtain ⟨gi, hgi, hg1, hg2⟩ := own_at HP.out.rowI (by omega)
        subst hgi
        have hgg : gi ≠ g := fun e => HP.out.offI (by rw [e]; rfl)
        have hrow := HP.out.rowI
        have e0 := (hrow.cellAt (p * 5) (by omega)).trans (List.getElem?_eq_getElem (by omega))
        have e1 := (hrow.cellAt (p * 5 + 1) (by omega)).trans (List.getElem?_eq_getElem (by omega))
        have e2 := (hrow.cellAt (p * 5 + 2) (by omega)).trans (List.getElem?_eq_getElem (by omega))
        have e3 := (hrow.cellAt (p * 5 + 3) (by omega)).trans (List.getElem?_eq_getElem (by omega))
        have e4 := (hrow.cellAt (p * 5 + 4) (by omega)).trans (List.getElem?_eq_getElem (by omega))
        have f0 := hrow.frozenAt (p * 5)
        have f1 := hrow.frozenAt (p * 5 + 1)
        have f2 := hrow.frozenAt (p * 5 + 2)
        have f3 := hrow.frozenAt (p * 5 + 3)
        have f4 := hrow.frozenAt (p * 5 + 4)
        generalize cs[p * 5] = o0 at e0
        generalize cs[p * 5 + 1] = o1 at e1
        generalize cs[p * 5 + 2] = o2 at e2
        generalize cs[p * 5 + 3] = o3 at e3
        generalize cs[p * 5 + 4] = o4 at e4
        have x0 := X4.out.cell 0
        have x1 := X4.out.cell 1
        have x2 := X4.out.cell 2
        have x3 := X4.out.cell 3
        have x4 := X4.out.cell 4
        have p43 := HP.out.blk.cell 3
        change _ = some (Value.slice (some ⟨gi, 0, none⟩) its.length ci) at p43
        have HCL := Lib.hid hclen
        have HGG := Lib.hid hgg
        have HLY := Lib.hid hLY
        have HG1 := Lib.hid hg1
        clear hrow hclen hgg hpl hLY
        go_upto_region 9 with fail
        have hrow' : w4.ownsRow w3.heap.size 26 5 (.slice (some ⟨gi, 0, none⟩) its.length ci) its.length (cs.take (p * 5) ++ cs.drop (p * 5)) := by rw [List.take_append_drop]; exact HP.out.rowI
        obtain ⟨hst, hgr⟩ := own_store5 (a := .int .i64 k') (b := .int .i64 i') (s := .string t') (y := .slice E n' d) (z := .slice E' m' d') hrow' (m := p * 5) (by rw [List.length_take]; have := HCL.out; omega) (by rw [List.length_drop]; have := HCL.out; omega)
        obtain ⟨w8, hw8⟩ : ∃ w8, w8 = ((((w4.setCell ⟨gi, p * 5, none⟩ (.int .i64 k')).setCell ⟨gi, p * 5 + 1, none⟩ (.int .i64 i')).setCell ⟨gi, p * 5 + 2, none⟩ (.string t')).setCell ⟨gi, p * 5 + 3, none⟩ (.slice E n' d)).setCell ⟨gi, p * 5 + 4, none⟩ (.slice E' m' d') := ⟨_, rfl⟩
        rw [← hw8] at hst hgr ⊢
        have P8 := Lib.hid (HP.out.blk.grown hgr (fun e => HGG.out (Option.some.inj e).symm))
        have Q8 := Lib.hid (Q4.out.grown hgr (fun e => by have e' : w.heap.size + 2 = gi := Option.some.inj e; have := LT3.out; omega))
        have RK8 := Lib.hid (HP.out.rowK.kept hgr (own_ne HP.out.rowK HP.out.rowI (by decide)))
        have B8 := Lib.hid (B4.out.grown hgr B4.out.size (fun b h => by injection h with h; have := LT3.out; omega))
        have hz : putT its ks key y p = .mk 5 0 ⟨#[]⟩ (its.set p y) ks := by unfold putT; rw [ha]; rfl
        have L8 : Lies w8 (Lo w8) (.mk 5 0 ⟨#[]⟩ (its.set p y) ks) (.agg #[.int .i64 5, .int .i64 0, .string ⟨#[]⟩, .slice (some ⟨gi, 0, none⟩) its.length ci, .slice Ak ks.length ck]) :=
          put_lies ((LiesC.replace HLY.out p HP.out.lies hpi).below B8.out) hst (by rw [List.length_set]) RK8.out rfl SZ.out
        have R8 : (VT.mk 5 0 ⟨#[]⟩ (its.set p y) ks).all reachF = true :=
          put_reach (by rw [List.length_set]; have := HN.out; omega) (by have := HN.out; have := HKL.out; omega) (alls_put HRY.out p HRE.out.2.2)
        rw [← hz] at L8 R8
        have G8 := HG4
        clear hz HG4 hst hgr hw8 hrow' e0 e1 e2 e3 e4 f0 f1 f2 f3 f4 x0 x1 x2 x3 x4 p43 hg1 hg2 hpi hpn
        generalize putT its ks key y p = z at *
        have HM := Lib.hid (limited_any L8 R8)
        have b0 := P8.out.cell 0
        have b1 := P8.out.cell 1
        have b2 := P8.out.cell 2
        have b3 := P8.out.cell 3
        have b4 := P8.out.cell 4
        clear L8 R8
        go_wp2_with fail
        refine (HM.out).mono ?_
        rintro e w9 ⟨v, rfl, hov, hb⟩
        have Q9 := Lib.hid (Q8.out.below hb Q8.out.lt)
        have B9 := Lib.hid (below_next B8.out hb)
        have L89 : Hid (w.heap.size + 2 < w8.heap.size) := Lib.hid Q8.out.lt
        obtain ⟨k2, i2, t2, D, n3, c3, D', n4, c4, rfl⟩ := hov.form
        have OV := Lib.hid hov
        have q0 := Q9.out.cell 0
        have q1 := Q9.out.cell 1
        have q2 := Q9.out.cell 2
        have q3 := Q9.out.cell 3
        have q4 := Q9.out.cell 4
        have f0 := Q9.out.frozen 0
        have f1 := Q9.out.frozen 1
        have f2 := Q9.out.frozen 2
        have f3 := Q9.out.frozen 3
        have f4 := Q9.out.frozen 4
        clear hb hov b0 b1 b2 b3 b4
        go_wp2
        obtain ⟨wf, hwf⟩ : ∃ wf, wf = ((((w9.setCell ⟨w.heap.size + 2, 0, none⟩ (.int .i64 k2)).setCell ⟨w.heap.size + 2, 1, none⟩ (.int .i64 i2)).setCell ⟨w.heap.size + 2, 2, none⟩ (.string t2)).setCell ⟨w.heap.size + 2, 3, none⟩ (.slice D n3 c3)).setCell ⟨w.heap.size + 2, 4, none⟩ (.slice D' n4 c4) := ⟨_, rfl⟩
        have QF : Hid (Bk wf (w.heap.size + 2) 26 #[.int .i64 k2, .int .i64 i2, .string t2, .slice D n3 c3, .slice D' n4 c4]) := Lib.hid (by rw [hwf]; exact ((((Q9.out.put 0 _).put 1 _).put 2 _).put 3 _).put 4 _)
        have SF : Hid (∀ b, b ≠ w.heap.size + 2 → wf.heap[b]? = w9.heap[b]?) := Lib.hid (fun b hb => by
          rw [hwf]; exact ((((Below.heap_setCell _ _ _ _ hb).trans (Below.heap_setCell _ _ _ _ hb)).trans (Below.heap_setCell _ _ _ _ hb)).trans (Below.heap_setCell _ _ _ _ hb)).trans (Below.heap_setCell _ _ _ _ hb))
        have BF : Hid (Below w.heap.size w wf) := Lib.hid (by
          rw [hwf]
          exact ((((B9.out.setCell (p := ⟨w.heap.size + 2, 0, none⟩) (by show w.heap.size ≤ w.heap.size + 2; omega) _).setCell (p := ⟨w.heap.size + 2, 1, none⟩) (by show w.heap.size ≤ w.heap.size + 2; omega) _).setCell (p := ⟨w.heap.size + 2, 2, none⟩) (by show w.heap.size ≤ w.heap.size + 2; omega) _).setCell (p := ⟨w.heap.size + 2, 3, none⟩) (by show w.heap.size ≤ w.heap.size + 2; omega) _).setCell (p := ⟨w.heap.size + 2, 4, none⟩) (by show w.heap.size ≤ w.heap.size + 2; omega) _)
        rw [← hwf]
        refine bodyPost_ret (results_row2 rfl _ _ (w.heap.size + 2) 26 _ (0, 0) _ rfl QF.out Try.underlying26 rfl (by kernel_rfl)) rfl ?_
        exact ⟨_, _, G8.out, _, rfl, (OV.out.keep (fun b h1 _ => SF.out b (by have := L89.out; omega))).mono (by have := L89.out; omega), BF.out⟩
end Go.Proofs.Ytidinbeanaifmaa
namespace Go.Proofs.Ytidinbeanaifmaa
open Go.RowKit
def MakesRB (R : Nat → Prop) (y : VT) (b : Bool) (w : World) (e : Ending) (w' : World) : Prop := ∃ v, e = .returned (.tuple #[v, .bool b]) ∧ Lies w' R y v ∧ Below w.heap.size w w'

set_option maxRecDepth 100000 in
set_option maxHeartbeats 4000000 in
theorem refgetR_any (R : Nat → Prop) (k i : Int) (t : ByteArray) (its : List VT) (ks : List ByteArray) (A : Option Addr) (c : Nat) (A' : Option Addr) (c' : Nat) (key : ByteArray) (w : World)
    (hR : ∀ b, R b → b < w.heap.size) (hL : LiesL w R A 0 its) (hS : LiesS w R A' ks) (h1 : its.length ≤ c) (h2 : c ≤ 9223372036854775807) (_ : ks.length ≤ c') (_ : c' ≤ 9223372036854775807) :
    Calls Try.prog 62 #[vag k i t A its.length c A' ks.length c', .string key] w (MakesRB R ((findK (ks.zip its) key).getD nullT) (findK (ks.zip its) key).isSome w) := by
  obtain ⟨w2, hw2⟩ : ∃ w2, w2 = (w.alloc (.cells #[.int .i64 k, .int .i64 i, .string t, .slice A its.length c, .slice A' ks.length c'] 26)).alloc (.cells #[.int .i64 0, .int .i64 0, .string ⟨#[]⟩, .slice none 0 0, .slice none 0 0] 26) := ⟨_, rfl⟩
  have B2 : Hid (Below w.heap.size w w2) := Lib.hid (by rw [hw2]; exact (below_one _ _).trans (Below.alloc (Below.refl _ _) (by simp) _))
  have P2 : Hid (Bk w2 w.heap.size 26 #[.int .i64 k, .int .i64 i, .string t, .slice A its.length c, .slice A' ks.length c']) := Lib.hid (by rw [hw2]; exact (Bk.new _ _ _).alloc _)
  have Q2 : Hid (Bk w2 (w.heap.size + 1) 26 #[.int .i64 0, .int .i64 0, .string ⟨#[]⟩, .slice none 0 0, .slice none 0 0]) := Lib.hid (by rw [hw2]; have := Bk.new (w.alloc (.cells #[.int .i64 k, .int .i64 i, .string t, .slice A its.length c, .slice A' ks.length c'] 26)) 26 #[.int .i64 0, .int .i64 0, .string ⟨#[]⟩, .slice none 0 0, .slice none 0 0]; simpa using this)
  have HL := Lib.hid hL
  have HRR := Lib.hid hR
  have HS := Lib.hid hS
  have HW := Lib.hid hw2
  obtain ⟨r, hr⟩ : ∃ r, r = findK (ks.zip its) key := ⟨_, rfl⟩
  have HR := Lib.hid hr
  rw [← hr]
  clear hw2 hL hS hr hR
  have p3 := P2.out.cell 3
  have p4 := P2.out.cell 4
  change _ = some (Value.slice A its.length c) at p3
  change _ = some (Value.slice A' ks.length c') at p4
  unfold vag
  go_enter Try.func62, Try.ntmps62
  go_wp2_with fail
  rw [← HW.out]
  go_loopg [6] ks.length (fun gh iv wr => w2 = wr ∧ ∃ (j : Nat), j ≤ ks.length ∧ gh = ks.length - j ∧ iv = .int .i64 j ∧ Hid (∀ p ∈ (ks.zip its).take j, p.1 ≠ key))
  case atStart => exact ⟨rfl, 0, by omega, rfl, rfl, Lib.hid (fun p hp => by simp at hp)⟩
  case round =>
    obtain ⟨rfl, j, hjn, rfl, rfl, HN⟩ := hrel
    by_cases hin : j < ks.length ∧ j < its.length
    · obtain ⟨hlt, hji⟩ := hin
      have g1 := List.getElem?_eq_getElem (l := ks) (i := j) hlt
      have g2 := List.getElem?_eq_getElem (l := its) (i := j) hji
      obtain ⟨hkz, gk, ok, rfl, hgk, ek⟩ := HS.out j _ g1
      obtain ⟨gi, oi, k', i', t', E, n1, c1, E', n2, c2, rfl, hgi, e0, e1, e2, e3, e4, hy⟩ := (HL.out).at_ g2
      have hz := (List.getElem?_zip_eq_some (z := (ks[j]'hlt, its[j]'hji))).2 ⟨g1, g2⟩
      have htk : (ks.zip its).take (j + 1) = (ks.zip its).take j ++ [(ks[j]'hlt, its[j]'hji)] := by
        rw [List.take_add_one, hz]
        rfl
      generalize ks[j]'hlt = kj at *
      generalize its[j]'hji = y at *
      have HY := Lib.hid hy
      have HZ := Lib.hid hz
      have HTK := Lib.hid htk
      have HJ : Hid (j + 1 ≤ ks.length) := Lib.hid hlt
      rw [Nat.zero_add] at e0 e1 e2 e3 e4
      rw [← B2.out.cell (p := ⟨gk, ok + j, none⟩) (HRR.out _ hgk)] at ek
      have cc := fun (q : Nat) => B2.out.cell (p := ⟨gi, q, none⟩) (HRR.out _ hgi)
      rw [← cc] at e0 e1 e2 e3 e4
      clear cc htk hz hy g1 g2 hkz hgi hgk
      by_cases hk : kj = key
      · have t1 : (kj.toList == key.toList) = true := by rw [hk]; simp
        have RS : Hid (r = some y) := Lib.hid (HR.out.trans (findK_at (p := (kj, y)) HN.out HZ.out hk))
        have q0 := Q2.out.cell 0
        have q1 := Q2.out.cell 1
        have q2 := Q2.out.cell 2
        have q3 := Q2.out.cell 3
        have q4 := Q2.out.cell 4
        have f0 := Q2.out.frozen 0
        have f1 := Q2.out.frozen 1
        have f2 := Q2.out.frozen 2
        have f3 := Q2.out.frozen 3
        have f4 := Q2.out.frozen 4
        have LT : Hid (w.heap.size + 1 < w2.heap.size) := Lib.hid Q2.out.lt
        clear hk
        go_wp2
        obtain ⟨wf, hwf⟩ : ∃ wf, wf = ((((w2.setCell ⟨w.heap.size + 1, 0, none⟩ (.int .i64 k')).setCell ⟨w.heap.size + 1, 1, none⟩ (.int .i64 i')).setCell ⟨w.heap.size + 1, 2, none⟩ (.string t')).setCell ⟨w.heap.size + 1, 3, none⟩ (.slice E n1 c1)).setCell ⟨w.heap.size + 1, 4, none⟩ (.slice E' n2 c2) := ⟨_, rfl⟩
        have QF : Hid (Bk wf (w.heap.size + 1) 26 #[.int .i64 k', .int .i64 i', .string t', .slice E n1 c1, .slice E' n2 c2]) := Lib.hid (by rw [hwf]; exact ((((Q2.out.put 0 _).put 1 _).put 2 _).put 3 _).put 4 _)
        have BF : Hid (Below w.heap.size w wf) := Lib.hid (by
          rw [hwf]
          exact ((((B2.out.setCell (p := ⟨w.heap.size + 1, 0, none⟩) (by show w.heap.size ≤ w.heap.size + 1; omega) _).setCell (p := ⟨w.heap.size + 1, 1, none⟩) (by show w.heap.size ≤ w.heap.size + 1; omega) _).setCell (p := ⟨w.heap.size + 1, 2, none⟩) (by show w.heap.size ≤ w.heap.size + 1; omega) _).setCell (p := ⟨w.heap.size + 1, 3, none⟩) (by show w.heap.size ≤ w.heap.size + 1; omega) _).setCell (p := ⟨w.heap.size + 1, 4, none⟩) (by show w.heap.size ≤ w.heap.size + 1; omega) _)
        rw [← hwf]
        refine bodyPost_ret (results_row2 rfl _ _ (w.heap.size + 1) 26 _ (0, 0) _ rfl QF.out Try.underlying26 rfl (by kernel_rfl)) rfl ?_
        rw [RS.out]
        exact ⟨_, rfl, HY.out.keep (fun p hp => BF.out.cell (HRR.out _ hp)) (fun _ h => h), BF.out⟩
      · have t1 : (kj.toList == key.toList) = false := by rw [beq_eq_false_iff_ne]; exact fun e => hk (str_inj e)
        have HN2 : Hid (∀ p ∈ (ks.zip its).take (j + 1), p.1 ≠ key) := Lib.hid (fun p hp => by
          rw [HTK.out] at hp
          rcases List.mem_append.1 hp with hp | hp
          · exact HN.out p hp
          · rw [List.mem_singleton.1 hp]; exact hk)
        clear hk
        go_wp2_with fail
        go_roundg (ks.length - (j + 1))
        case measure => have := HJ.out; omega
        case rel => exact ⟨rfl, j + 1, HJ.out, rfl, by go_num, HN2⟩
    · have RS : Hid (r = none) := Lib.hid (HR.out.trans (findK_none (fun p hp => HN.out p (by
        rw [List.take_of_length_le (by rw [List.length_zip]; omega)]
        exact hp))))
      have TT : Hid ((¬ j < ks.length) ∨ (j < ks.length ∧ ¬ j < its.length)) := Lib.hid (by omega)
      have q0 := Q2.out.cell 0
      have q1 := Q2.out.cell 1
      have q2 := Q2.out.cell 2
      have q3 := Q2.out.cell 3
      have q4 := Q2.out.cell 4
      have f0 := Q2.out.frozen 0
      have f1 := Q2.out.frozen 1
      have f2 := Q2.out.frozen 2
      have f3 := Q2.out.frozen 3
      have f4 := Q2.out.frozen 4
      clear hin
      rcases TT.out with u1 | ⟨u1, u2⟩
      all_goals (
        go_wp2
        obtain ⟨wf, hwf⟩ : ∃ wf, wf = ((((w2.setCell ⟨w.heap.size + 1, 0, none⟩ (.int .i64 0)).setCell ⟨w.heap.size + 1, 1, none⟩ (.int .i64 0)).setCell ⟨w.heap.size + 1, 2, none⟩ (.string ⟨#[]⟩)).setCell ⟨w.heap.size + 1, 3, none⟩ (.slice none 0 0)).setCell ⟨w.heap.size + 1, 4, none⟩ (.slice none 0 0) := ⟨_, rfl⟩
        have QF : Hid (Bk wf (w.heap.size + 1) 26 #[.int .i64 0, .int .i64 0, .string ⟨#[]⟩, .slice none 0 0, .slice none 0 0]) := Lib.hid (by rw [hwf]; exact ((((Q2.out.put 0 _).put 1 _).put 2 _).put 3 _).put 4 _)
        have BF : Hid (Below w.heap.size w wf) := Lib.hid (by
          rw [hwf]
          exact ((((B2.out.setCell (p := ⟨w.heap.size + 1, 0, none⟩) (by show w.heap.size ≤ w.heap.size + 1; omega) _).setCell (p := ⟨w.heap.size + 1, 1, none⟩) (by show w.heap.size ≤ w.heap.size + 1; omega) _).setCell (p := ⟨w.heap.size + 1, 2, none⟩) (by show w.heap.size ≤ w.heap.size + 1; omega) _).setCell (p := ⟨w.heap.size + 1, 3, none⟩) (by show w.heap.size ≤ w.heap.size + 1; omega) _).setCell (p := ⟨w.heap.size + 1, 4, none⟩) (by show w.heap.size ≤ w.heap.size + 1; omega) _)
        rw [← hwf]
        refine bodyPost_ret (results_row2 rfl _ _ (w.heap.size + 1) 26 _ (0, 0) _ rfl QF.out Try.underlying26 rfl (by kernel_rfl)) rfl ?_
        rw [RS.out]
        exact ⟨_, rfl, zero_lies _ _, BF.out⟩)
end Go.Proofs.Ytidinbeanaifmaa
namespace Go.Proofs.Ytidinbeanaifmaa
open Go.RowKit

def RGetSpec (x : VT) (key : ByteArray) (y : VT) (b : Bool) : Prop :=
  (isMapT x = false ∧ y = nullT ∧ b = false) ∨ (isMapT x = true ∧ y = (findK (x.ks.zip x.its) key).getD nullT ∧ b = (findK (x.ks.zip x.its) key).isSome)
def RPutSpec (x : VT) (key : ByteArray) (y z : VT) (r : Int) : Prop :=
  (isMapT x = false ∧ z = nullT ∧ r = 12) ∨ (isMapT x = true ∧ z = limT (mapT (withL key y (x.ks.zip x.its))) ∧ r = limE (mapT (withL key y (x.ks.zip x.its))))
theorem ismap_no {k i : Int} {t : ByteArray} {its : List VT} {ks : List ByteArray} (h : ¬ k = 5) : isMapT (.mk k i t its ks) = false := by unfold isMapT VT.k; rw [decide_eq_false h]; rfl
theorem ismap_wf {i : Int} {t : ByteArray} {its : List VT} {ks : List ByteArray} : isMapT (.mk 5 i t its ks) = (VT.mk 5 i t its ks).wf := by unfold isMapT VT.k; simp
set_option maxRecDepth 100000 in
set_option maxHeartbeats 4000000 in
theorem refGet_any {x : VT} {v : Value} {w : World} (key : ByteArray) (h : Lies w (Lo w) x v) :
    Calls Try.prog 41 #[v, .string key] w fun e w' => ∃ y b, RGetSpec x key y b ∧ MakesLB y b w e w' := by
  have HF := Lib.hid (fun (w' : World) (hb : Below w.heap.size w w') => refWf_any (h.below hb))
  obtain ⟨k, i, t, its, ks⟩ := x
  obtain ⟨A, c, A', c', rfl, _, _, _, hlc, hcm, hL, hkc, hcm', hS⟩ := h.open
  have HO := Lib.hid (And.intro hlc (And.intro hcm (And.intro hkc hcm')))
  have HL := Lib.hid hL
  have HS := Lib.hid hS
  obtain ⟨w2, hw2⟩ : ∃ w2, w2 = (w.alloc (.cells #[.int .i64 k, .int .i64 i, .string t, .slice A its.length c, .slice A' ks.length c'] 26)).alloc (.cells #[.int .i64 0, .int .i64 0, .string ⟨#[]⟩, .slice none 0 0, .slice none 0 0] 26) := ⟨_, rfl⟩
  have B2 : Hid (Below w.heap.size w w2) := Lib.hid (by rw [hw2]; exact (below_one _ _).trans (Below.alloc (Below.refl _ _) (by simp) _))
  have P2 : Hid (Bk w2 w.heap.size 26 #[.int .i64 k, .int .i64 i, .string t, .slice A its.length c, .slice A' ks.length c']) := Lib.hid (by rw [hw2]; exact (Bk.new _ _ _).alloc _)
  have Q2 : Hid (Bk w2 (w.heap.size + 1) 26 #[.int .i64 0, .int .i64 0, .string ⟨#[]⟩, .slice none 0 0, .slice none 0 0]) := Lib.hid (by rw [hw2]; have := Bk.new (w.alloc (.cells #[.int .i64 k, .int .i64 i, .string t, .slice A its.length c, .slice A' ks.length c'] 26)) 26 #[.int .i64 0, .int .i64 0, .string ⟨#[]⟩, .slice none 0 0, .slice none 0 0]; simpa using this)
  have HW := Lib.hid hw2
  have LQ : Hid (w.heap.size + 1 < w2.heap.size) := Lib.hid Q2.out.lt
  clear h hw2 hL hS hlc hcm hkc hcm'
  unfold vag at *
  by_cases hk : k = 5
  · subst hk
    have H1 := Lib.hid (HF.out w2 B2.out)
    have IM := Lib.hid (ismap_wf (i := i) (t := t) (its := its) (ks := ks))
    generalize (VT.mk 5 i t its ks).wf = b at *
    have e0 := P2.out.cell 0
    have e1 := P2.out.cell 1
    have e2 := P2.out.cell 2
    have e3 := P2.out.cell 3
    have e4 := P2.out.cell 4
    go_enter Try.func41, Try.ntmps41
    go_wp2_with fail
    rw [← HW.out]
    refine (H1.out).mono ?_
    rintro e w3 ⟨rfl, hb⟩
    have P3 := Lib.hid (P2.out.below hb P2.out.lt)
    have Q3 := Lib.hid (Q2.out.below hb Q2.out.lt)
    have B3 := Lib.hid (below_next B2.out hb)
    have LQ3 : Hid (w.heap.size + 1 < w3.heap.size) := Lib.hid Q3.out.lt
    clear hb e0 e1 e2 e3 e4 H1 HF
    cases b with
    | false =>
      have q0 := Q3.out.cell 0
      have q1 := Q3.out.cell 1
      have q2 := Q3.out.cell 2
      have q3 := Q3.out.cell 3
      have q4 := Q3.out.cell 4
      have f0 := Q3.out.frozen 0
      have f1 := Q3.out.frozen 1
      have f2 := Q3.out.frozen 2
      have f3 := Q3.out.frozen 3
      have f4 := Q3.out.frozen 4
      go_wp2
      obtain ⟨wf, hwf⟩ : ∃ wf, wf = (((((w3.setCell ⟨w.heap.size + 1, 0, none⟩ (.int .i64 0)).setCell ⟨w.heap.size + 1, 1, none⟩ (.int .i64 0)).setCell ⟨w.heap.size + 1, 2, none⟩ (.string ⟨#[]⟩)).setCell ⟨w.heap.size + 1, 3, none⟩ (.slice none 0 0)).setCell ⟨w.heap.size + 1, 4, none⟩ (.slice none 0 0)) := ⟨_, rfl⟩
      have QF : Hid (Bk wf (w.heap.size + 1) 26 #[.int .i64 0, .int .i64 0, .string ⟨#[]⟩, .slice none 0 0, .slice none 0 0]) := Lib.hid (by rw [hwf]; exact (((((Q3.out.put 0 _).put 1 _).put 2 _).put 3 _).put 4 _))
      have SF : Hid (∀ b, b ≠ w.heap.size + 1 → wf.heap[b]? = w3.heap[b]?) := Lib.hid (fun b hb => by rw [hwf]; exact ((((Below.heap_setCell _ _ _ _ hb).trans (Below.heap_setCell _ _ _ _ hb)).trans (Below.heap_setCell _ _ _ _ hb)).trans (Below.heap_setCell _ _ _ _ hb)).trans (Below.heap_setCell _ _ _ _ hb))
      have BF : Hid (Below w.heap.size w wf) := Lib.hid (by rw [hwf]; exact (((((B3.out.setCell (p := ⟨w.heap.size + 1, 0, none⟩) (by show w.heap.size ≤ w.heap.size + 1; omega) _).setCell (p := ⟨w.heap.size + 1, 1, none⟩) (by show w.heap.size ≤ w.heap.size + 1; omega) _).setCell (p := ⟨w.heap.size + 1, 2, none⟩) (by show w.heap.size ≤ w.heap.size + 1; omega) _).setCell (p := ⟨w.heap.size + 1, 3, none⟩) (by show w.heap.size ≤ w.heap.size + 1; omega) _).setCell (p := ⟨w.heap.size + 1, 4, none⟩) (by show w.heap.size ≤ w.heap.size + 1; omega) _))
      rw [← hwf]
      refine bodyPost_ret (results_row2 rfl _ _ (w.heap.size + 1) 26 _ (0, 0) _ rfl QF.out Try.underlying26 rfl (by kernel_rfl)) rfl ?_
      exact ⟨nullT, _, Or.inl ⟨IM.out, rfl, rfl⟩, _, rfl, zero_lies _ _, BF.out⟩
    | true =>
      have e0 := P3.out.cell 0
      have e1 := P3.out.cell 1
      have e2 := P3.out.cell 2
      have e3 := P3.out.cell 3
      have e4 := P3.out.cell 4
      have HG := Lib.hid (refgetR_any (fun b => b < w.heap.size) 5 i t its ks A c A' c' key w3 (fun b h => Nat.lt_of_lt_of_le h B3.out.size) (HL.out.keep (fun q hq => B3.out.cell hq) (fun _ h => h)) (HS.out.keep (fun q hq => B3.out.cell hq) (fun _ h => h)) HO.out.1 HO.out.2.1 HO.out.2.2.1 HO.out.2.2.2)
      unfold vag at HG
      go_wp2_with fail
      refine (HG.out).mono ?_
      rintro e w4 ⟨v, rfl, hl, hb⟩
      have Q4 := Lib.hid (Q3.out.below hb Q3.out.lt)
      have B4 := Lib.hid (below_next B3.out hb)
      obtain ⟨k2, i2, t2, D, n3, c3, D', n4, c4, rfl⟩ := hl.formV
      have OV := Lib.hid hl
      have q0 := Q4.out.cell 0
      have q1 := Q4.out.cell 1
      have q2 := Q4.out.cell 2
      have q3 := Q4.out.cell 3
      have q4 := Q4.out.cell 4
      have f0 := Q4.out.frozen 0
      have f1 := Q4.out.frozen 1
      have f2 := Q4.out.frozen 2
      have f3 := Q4.out.frozen 3
      have f4 := Q4.out.frozen 4
      have IMY := IM
      clear hb hl e0 e1 e2 e3 e4
      generalize hfk : findK (ks.zip its) key = fk at *
      have HFK := Lib.hid hfk
      clear hfk
      go_wp2
      obtain ⟨wf, hwf⟩ : ∃ wf, wf = (((((w4.setCell ⟨w.heap.size + 1, 0, none⟩ (.int .i64 k2)).setCell ⟨w.heap.size + 1, 1, none⟩ (.int .i64 i2)).setCell ⟨w.heap.size + 1, 2, none⟩ (.string t2)).setCell ⟨w.heap.size + 1, 3, none⟩ (.slice D n3 c3)).setCell ⟨w.heap.size + 1, 4, none⟩ (.slice D' n4 c4)) := ⟨_, rfl⟩
      have QF : Hid (Bk wf (w.heap.size + 1) 26 #[.int .i64 k2, .int .i64 i2, .string t2, .slice D n3 c3, .slice D' n4 c4]) := Lib.hid (by rw [hwf]; exact (((((Q4.out.put 0 _).put 1 _).put 2 _).put 3 _).put 4 _))
      have SF : Hid (∀ b, b ≠ w.heap.size + 1 → wf.heap[b]? = w4.heap[b]?) := Lib.hid (fun b hb => by rw [hwf]; exact ((((Below.heap_setCell _ _ _ _ hb).trans (Below.heap_setCell _ _ _ _ hb)).trans (Below.heap_setCell _ _ _ _ hb)).trans (Below.heap_setCell _ _ _ _ hb)).trans (Below.heap_setCell _ _ _ _ hb))
      have BF : Hid (Below w.heap.size w wf) := Lib.hid (by rw [hwf]; exact (((((B4.out.setCell (p := ⟨w.heap.size + 1, 0, none⟩) (by show w.heap.size ≤ w.heap.size + 1; omega) _).setCell (p := ⟨w.heap.size + 1, 1, none⟩) (by show w.heap.size ≤ w.heap.size + 1; omega) _).setCell (p := ⟨w.heap.size + 1, 2, none⟩) (by show w.heap.size ≤ w.heap.size + 1; omega) _).setCell (p := ⟨w.heap.size + 1, 3, none⟩) (by show w.heap.size ≤ w.heap.size + 1; omega) _).setCell (p := ⟨w.heap.size + 1, 4, none⟩) (by show w.heap.size ≤ w.heap.size + 1; omega) _))
      rw [← hwf]
      refine bodyPost_ret (results_row2 rfl _ _ (w.heap.size + 1) 26 _ (0, 0) _ rfl QF.out Try.underlying26 rfl (by kernel_rfl)) rfl ?_
      exact ⟨fk.getD nullT, fk.isSome, Or.inr ⟨IM.out, by rw [← HFK.out]; rfl, by rw [← HFK.out]; rfl⟩, _, rfl, OV.out.keep (fun p hp => World.cell?_of_block (SF.out _ (by have h : p.block < w.heap.size := hp; omega))) (fun b h => Nat.lt_of_lt_of_le h BF.out.size), BF.out⟩
  · have hk0 : (k != 5) = true := by simp [hk]
    have IM := Lib.hid (ismap_no (i := i) (t := t) (its := its) (ks := ks) hk)
    clear hk HF
    have e0 := P2.out.cell 0
    obtain ⟨w3, hw3⟩ : ∃ w3, w3 = w2 := ⟨_, rfl⟩
    subst hw3
    go_enter Try.func41, Try.ntmps41
    go_upto_region 2 with fail
    rw [← HW.out]
    have q0 := Q2.out.cell 0
    have q1 := Q2.out.cell 1
    have q2 := Q2.out.cell 2
    have q3 := Q2.out.cell 3
    have q4 := Q2.out.cell 4
    have f0 := Q2.out.frozen 0
    have f1 := Q2.out.frozen 1
    have f2 := Q2.out.frozen 2
    have f3 := Q2.out.frozen 3
    have f4 := Q2.out.frozen 4
    go_wp2
    obtain ⟨wf, hwf⟩ : ∃ wf, wf = (((((w3.setCell ⟨w.heap.size + 1, 0, none⟩ (.int .i64 0)).setCell ⟨w.heap.size + 1, 1, none⟩ (.int .i64 0)).setCell ⟨w.heap.size + 1, 2, none⟩ (.string ⟨#[]⟩)).setCell ⟨w.heap.size + 1, 3, none⟩ (.slice none 0 0)).setCell ⟨w.heap.size + 1, 4, none⟩ (.slice none 0 0)) := ⟨_, rfl⟩
    have QF : Hid (Bk wf (w.heap.size + 1) 26 #[.int .i64 0, .int .i64 0, .string ⟨#[]⟩, .slice none 0 0, .slice none 0 0]) := Lib.hid (by rw [hwf]; exact (((((Q2.out.put 0 _).put 1 _).put 2 _).put 3 _).put 4 _))
    have SF : Hid (∀ b, b ≠ w.heap.size + 1 → wf.heap[b]? = w3.heap[b]?) := Lib.hid (fun b hb => by rw [hwf]; exact ((((Below.heap_setCell _ _ _ _ hb).trans (Below.heap_setCell _ _ _ _ hb)).trans (Below.heap_setCell _ _ _ _ hb)).trans (Below.heap_setCell _ _ _ _ hb)).trans (Below.heap_setCell _ _ _ _ hb))
    have BF : Hid (Below w.heap.size w wf) := Lib.hid (by rw [hwf]; exact (((((B2.out.setCell (p := ⟨w.heap.size + 1, 0, none⟩) (by show w.heap.size ≤ w.heap.size + 1; omega) _).setCell (p := ⟨w.heap.size + 1, 1, none⟩) (by show w.heap.size ≤ w.heap.size + 1; omega) _).setCell (p := ⟨w.heap.size + 1, 2, none⟩) (by show w.heap.size ≤ w.heap.size + 1; omega) _).setCell (p := ⟨w.heap.size + 1, 3, none⟩) (by show w.heap.size ≤ w.heap.size + 1; omega) _).setCell (p := ⟨w.heap.size + 1, 4, none⟩) (by show w.heap.size ≤ w.heap.size + 1; omega) _))
    rw [← hwf]
    refine bodyPost_ret (results_row2 rfl _ _ (w.heap.size + 1) 26 _ (0, 0) _ rfl QF.out Try.underlying26 rfl (by kernel_rfl)) rfl ?_
    exact ⟨nullT, _, Or.inl ⟨IM.out, rfl, rfl⟩, _, rfl, zero_lies _ _, BF.out⟩
set_option maxRecDepth 100000 in
set_option maxHeartbeats 4000000 in
theorem refPut_any {x y : VT} {v u : Value} {w : World} (key : ByteArray) (h : Lies w (Lo w) x v) (h' : Lies w (Lo w) y u) (hkey : key.size ≤ 9223372036854775807) (hN : x.its.length ≤ 1000000) (hsz : ∀ z, z = mapT (withL key y (x.ks.zip x.its)) → z.size < 4611686018427387904) :
    Calls Try.prog 43 #[v, .string key, u] w fun e w' => ∃ z r, RPutSpec x key y z r ∧ MakesLE z r w e w' := by
  have HF := Lib.hid (fun (w' : World) (hb : Below w.heap.size w w') => refWf_any (h.below hb))
  obtain ⟨k, i, t, its, ks⟩ := x
  obtain ⟨A, c, A', c', rfl, _, _, _, hlc, hcm, hL, hkc, hcm', hS⟩ := h.open
  obtain ⟨k', i', t', E, n', d, E', m', d', rfl⟩ := h'.formV
  have hN : its.length ≤ 1000000 := hN
  have HSZ := Lib.hid (show ∀ z, z = mapT (withL key y (ks.zip its)) → z.size < 4611686018427387904 from hsz)
  have HN := Lib.hid hN
  have HKY := Lib.hid hkey
  have HY := Lib.hid h'
  clear hN hkey hsz h'
  have HO := Lib.hid (And.intro hlc (And.intro hcm (And.intro hkc hcm')))
  have HL := Lib.hid hL
  have HS := Lib.hid hS
  obtain ⟨w2, hw2⟩ : ∃ w2, w2 = ((w.alloc (.cells #[.int .i64 k, .int .i64 i, .string t, .slice A its.length c, .slice A' ks.length c'] 26)).alloc (.cells #[.int .i64 k', .int .i64 i', .string t', .slice E n' d, .slice E' m' d'] 26)).alloc (.cells #[.int .i64 0, .int .i64 0, .string ⟨#[]⟩, .slice none 0 0, .slice none 0 0] 26) := ⟨_, rfl⟩
  have B2 : Hid (Below w.heap.size w w2) := Lib.hid (by rw [hw2]; exact ((below_one _ _).trans (Below.alloc (Below.refl _ _) (by simp) _)).trans (Below.alloc (Below.refl _ _) (by simp; omega) _))
  have P2 : Hid (Bk w2 w.heap.size 26 #[.int .i64 k, .int .i64 i, .string t, .slice A its.length c, .slice A' ks.length c']) := Lib.hid (by rw [hw2]; exact ((Bk.new _ _ _).alloc _).alloc _)
  have X2 : Hid (Bk w2 (w.heap.size + 1) 26 #[.int .i64 k', .int .i64 i', .string t', .slice E n' d, .slice E' m' d']) := Lib.hid (by
    rw [hw2]
    have := (Bk.new (w.alloc (.cells #[.int .i64 k, .int .i64 i, .string t, .slice A its.length c, .slice A' ks.length c'] 26)) 26 #[.int .i64 k', .int .i64 i', .string t', .slice E n' d, .slice E' m' d']).alloc (.cells #[.int .i64 0, .int .i64 0, .string ⟨#[]⟩, .slice none 0 0, .slice none 0 0] 26)
    simpa using this)
  have Q2 : Hid (Bk w2 (w.heap.size + 2) 26 #[.int .i64 0, .int .i64 0, .string ⟨#[]⟩, .slice none 0 0, .slice none 0 0]) := Lib.hid (by
    rw [hw2]
    have := Bk.new ((w.alloc (.cells #[.int .i64 k, .int .i64 i, .string t, .slice A its.length c, .slice A' ks.length c'] 26)).alloc (.cells #[.int .i64 k', .int .i64 i', .string t', .slice E n' d, .slice E' m' d'] 26)) 26 #[.int .i64 0, .int .i64 0, .string ⟨#[]⟩, .slice none 0 0, .slice none 0 0]
    simpa using this)
  have HW := Lib.hid hw2
  have LQ : Hid (w.heap.size + 2 < w2.heap.size) := Lib.hid Q2.out.lt
  clear h hw2 hL hS hlc hcm hkc hcm'
  unfold vag at *
  by_cases hk : k = 5
  · subst hk
    have H1 := Lib.hid (HF.out w2 B2.out)
    have IM := Lib.hid (ismap_wf (i := i) (t := t) (its := its) (ks := ks))
    generalize (VT.mk 5 i t its ks).wf = b at *
    have e0 := P2.out.cell 0
    have e1 := P2.out.cell 1
    have e2 := P2.out.cell 2
    have e3 := P2.out.cell 3
    have e4 := P2.out.cell 4
    go_enter Try.func43, Try.ntmps43
    go_wp2_with fail
    rw [← HW.out]
    refine (H1.out).mono ?_
    rintro e w3 ⟨rfl, hb⟩
    have P3 := Lib.hid (P2.out.below hb P2.out.lt)
    have Q3 := Lib.hid (Q2.out.below hb Q2.out.lt)
    have B3 := Lib.hid (below_next B2.out hb)
    have LQ3 : Hid (w.heap.size + 2 < w3.heap.size) := Lib.hid Q3.out.lt
    have X3 := Lib.hid (X2.out.below hb X2.out.lt)
    clear hb e0 e1 e2 e3 e4 H1 HF
    cases b with
    | false =>
      have q0 := Q3.out.cell 0
      have q1 := Q3.out.cell 1
      have q2 := Q3.out.cell 2
      have q3 := Q3.out.cell 3
      have q4 := Q3.out.cell 4
      have f0 := Q3.out.frozen 0
      have f1 := Q3.out.frozen 1
      have f2 := Q3.out.frozen 2
      have f3 := Q3.out.frozen 3
      have f4 := Q3.out.frozen 4
      go_wp2
      obtain ⟨wf, hwf⟩ : ∃ wf, wf = (((((w3.setCell ⟨w.heap.size + 2, 0, none⟩ (.int .i64 0)).setCell ⟨w.heap.size + 2, 1, none⟩ (.int .i64 0)).setCell ⟨w.heap.size + 2, 2, none⟩ (.string ⟨#[]⟩)).setCell ⟨w.heap.size + 2, 3, none⟩ (.slice none 0 0)).setCell ⟨w.heap.size + 2, 4, none⟩ (.slice none 0 0)) := ⟨_, rfl⟩
      have QF : Hid (Bk wf (w.heap.size + 2) 26 #[.int .i64 0, .int .i64 0, .string ⟨#[]⟩, .slice none 0 0, .slice none 0 0]) := Lib.hid (by rw [hwf]; exact (((((Q3.out.put 0 _).put 1 _).put 2 _).put 3 _).put 4 _))
      have SF : Hid (∀ b, b ≠ w.heap.size + 2 → wf.heap[b]? = w3.heap[b]?) := Lib.hid (fun b hb => by rw [hwf]; exact ((((Below.heap_setCell _ _ _ _ hb).trans (Below.heap_setCell _ _ _ _ hb)).trans (Below.heap_setCell _ _ _ _ hb)).trans (Below.heap_setCell _ _ _ _ hb)).trans (Below.heap_setCell _ _ _ _ hb))
      have BF : Hid (Below w.heap.size w wf) := Lib.hid (by rw [hwf]; exact (((((B3.out.setCell (p := ⟨w.heap.size + 2, 0, none⟩) (by show w.heap.size ≤ w.heap.size + 2; omega) _).setCell (p := ⟨w.heap.size + 2, 1, none⟩) (by show w.heap.size ≤ w.heap.size + 2; omega) _).setCell (p := ⟨w.heap.size + 2, 2, none⟩) (by show w.heap.size ≤ w.heap.size + 2; omega) _).setCell (p := ⟨w.heap.size + 2, 3, none⟩) (by show w.heap.size ≤ w.heap.size + 2; omega) _).setCell (p := ⟨w.heap.size + 2, 4, none⟩) (by show w.heap.size ≤ w.heap.size + 2; omega) _))
      rw [← hwf]
      refine bodyPost_ret (results_row2 rfl _ _ (w.heap.size + 2) 26 _ (0, 0) _ rfl QF.out Try.underlying26 rfl (by kernel_rfl)) rfl ?_
      exact ⟨nullT, _, Or.inl ⟨IM.out, rfl, rfl⟩, _, rfl, zero_lies _ _, BF.out⟩
    | true =>
      have e0 := P3.out.cell 0
      have e1 := P3.out.cell 1
      have e2 := P3.out.cell 2
      have e3 := P3.out.cell 3
      have e4 := P3.out.cell 4
      have x0 := X3.out.cell 0
      have x1 := X3.out.cell 1
      have x2 := X3.out.cell 2
      have x3 := X3.out.cell 3
      have x4 := X3.out.cell 4
      have hkl : ks.length = its.length := (map_wf (i := i) (t := t) (by rw [← ismap_wf]; exact IM.out)).1
      have HWT := Lib.hid (refWith_any 5 i t its ks A c A' c' key y k' i' t' E n' d E' m' d' w3 (fun b => b < w.heap.size) (fun b h => Nat.lt_of_lt_of_le h B3.out.size) (HL.out.keep (fun q hq => B3.out.cell hq) (fun _ h => h)) (HS.out.keep (fun q hq => B3.out.cell hq) (fun _ h => h))
        (by omega) HO.out.1 HO.out.2.1 HO.out.2.2.1 HO.out.2.2.2 (by have := HN.out; omega) HKY.out (HY.out.keep (fun q hq => B3.out.cell hq) (fun _ h => h)))
      unfold vag at HWT
      clear hkl
      generalize hm : mapT (withL key y (ks.zip its)) = m at *
      have HMM := Lib.hid hm
      clear hm
      go_wp2_with fail
      refine (HWT.out).mono ?_
      rintro e w4 ⟨v, rfl, hl, hb⟩
      have Q4 := Lib.hid (Q3.out.below hb Q3.out.lt)
      have B4 := Lib.hid (below_next B3.out hb)
      obtain ⟨k2, i2, t2, D, n3, c3, D', n4, c4, rfl⟩ := hl.formV
      obtain ⟨w5, hw5⟩ : ∃ w5, w5 = w4.alloc (.cells #[.int .i64 k2, .int .i64 i2, .string t2, .slice D n3 c3, .slice D' n4 c4] 26) := ⟨_, rfl⟩
      have B45 : Hid (Below w4.heap.size w4 w5) := Lib.hid (by rw [hw5]; exact below_one _ _)
      have O5 : Hid (Bk w5 w4.heap.size 26 #[.int .i64 k2, .int .i64 i2, .string t2, .slice D n3 c3, .slice D' n4 c4]) := Lib.hid (by rw [hw5]; exact Bk.new _ _ _)
      have Q5 := Lib.hid (Q4.out.below B45.out Q4.out.lt)
      have B5 := Lib.hid (below_next B4.out B45.out)
      have L34 : Hid (w3.heap.size ≤ w4.heap.size) := Lib.hid hb.size
      have HL4 := Lib.hid hl
      have hl5 : Lies w5 (Lo w5) m (.agg #[.int .i64 k2, .int .i64 i2, .string t2, .slice D n3 c3, .slice D' n4 c4]) :=
        hl.keep (fun p hp => B45.out.cell (by have := L34.out; have := B3.out.size; rcases hp with h | h; (exact Nat.lt_of_lt_of_le h (by omega)); exact h.2)) (fun b hp => by
          have h1 := B45.out.size
          have := L34.out
          have := B3.out.size
          show b < w5.heap.size
          rcases hp with h | h
          · have h' : b < w.heap.size := h
            omega
          · omega)
      have HWI := Lib.hid (refWithin_any (HSZ.out m rfl) hl5)
      have LY := Lib.hid (limT_yes (x := m))
      have LN := Lib.hid (limT_no (x := m))
      have HW5 := Lib.hid hw5
      have o0 := O5.out.cell 0
      have o1 := O5.out.cell 1
      have o2 := O5.out.cell 2
      have o3 := O5.out.cell 3
      have o4 := O5.out.cell 4
      generalize hwi : m.within = wi at *
      have HWII := Lib.hid hwi
      clear hwi hb hl hl5 hw5 e0 e1 e2 e3 e4 x0 x1 x2 x3 x4
      go_wp2_with fail
      rw [← HW5.out]
      refine (HWI.out).mono ?_
      rintro e w6 ⟨rfl, hb⟩
      have O6 := Lib.hid (O5.out.below hb O5.out.lt)
      have Q6 := Lib.hid (Q5.out.below hb Q5.out.lt)
      have B6 := Lib.hid (below_next B5.out hb)
      have B46 : Hid (Below w4.heap.size w4 w6) := Lib.hid (B45.out.trans (hb.mono B45.out.size))
      have LO5 : Hid (w4.heap.size < w5.heap.size) := Lib.hid O5.out.lt
      clear hb o0 o1 o2 o3 o4
      cases wi with
      | false =>
        have L := Lib.hid (LN.out rfl)
        clear LY LN
        have q0 := Q6.out.cell 0
        have q1 := Q6.out.cell 1
        have q2 := Q6.out.cell 2
        have q3 := Q6.out.cell 3
        have q4 := Q6.out.cell 4
        have f0 := Q6.out.frozen 0
        have f1 := Q6.out.frozen 1
        have f2 := Q6.out.frozen 2
        have f3 := Q6.out.frozen 3
        have f4 := Q6.out.frozen 4
        go_wp2
        obtain ⟨wf, hwf⟩ : ∃ wf, wf = (((((w6.setCell ⟨w.heap.size + 2, 0, none⟩ (.int .i64 0)).setCell ⟨w.heap.size + 2, 1, none⟩ (.int .i64 0)).setCell ⟨w.heap.size + 2, 2, none⟩ (.string ⟨#[]⟩)).setCell ⟨w.heap.size + 2, 3, none⟩ (.slice none 0 0)).setCell ⟨w.heap.size + 2, 4, none⟩ (.slice none 0 0)) := ⟨_, rfl⟩
        have QF : Hid (Bk wf (w.heap.size + 2) 26 #[.int .i64 0, .int .i64 0, .string ⟨#[]⟩, .slice none 0 0, .slice none 0 0]) := Lib.hid (by rw [hwf]; exact (((((Q6.out.put 0 _).put 1 _).put 2 _).put 3 _).put 4 _))
        have SF : Hid (∀ b, b ≠ w.heap.size + 2 → wf.heap[b]? = w6.heap[b]?) := Lib.hid (fun b hb => by rw [hwf]; exact ((((Below.heap_setCell _ _ _ _ hb).trans (Below.heap_setCell _ _ _ _ hb)).trans (Below.heap_setCell _ _ _ _ hb)).trans (Below.heap_setCell _ _ _ _ hb)).trans (Below.heap_setCell _ _ _ _ hb))
        have BF : Hid (Below w.heap.size w wf) := Lib.hid (by rw [hwf]; exact (((((B6.out.setCell (p := ⟨w.heap.size + 2, 0, none⟩) (by show w.heap.size ≤ w.heap.size + 2; omega) _).setCell (p := ⟨w.heap.size + 2, 1, none⟩) (by show w.heap.size ≤ w.heap.size + 2; omega) _).setCell (p := ⟨w.heap.size + 2, 2, none⟩) (by show w.heap.size ≤ w.heap.size + 2; omega) _).setCell (p := ⟨w.heap.size + 2, 3, none⟩) (by show w.heap.size ≤ w.heap.size + 2; omega) _).setCell (p := ⟨w.heap.size + 2, 4, none⟩) (by show w.heap.size ≤ w.heap.size + 2; omega) _))
        rw [← hwf]
        refine bodyPost_ret (results_row2 rfl _ _ (w.heap.size + 2) 26 _ (0, 0) _ rfl QF.out Try.underlying26 rfl (by kernel_rfl)) rfl ?_
        exact ⟨nullT, _, Or.inr ⟨IM.out, by rw [← L.out.1, ← HMM.out]; rfl, by rw [← L.out.2, ← HMM.out]; rfl⟩, _, rfl, zero_lies _ _, BF.out⟩
      | true =>
        have L := Lib.hid (LY.out rfl)
        clear LY LN
        have o0 := O6.out.cell 0
        have o1 := O6.out.cell 1
        have o2 := O6.out.cell 2
        have o3 := O6.out.cell 3
        have o4 := O6.out.cell 4
        have q0 := Q6.out.cell 0
        have q1 := Q6.out.cell 1
        have q2 := Q6.out.cell 2
        have q3 := Q6.out.cell 3
        have q4 := Q6.out.cell 4
        have f0 := Q6.out.frozen 0
        have f1 := Q6.out.frozen 1
        have f2 := Q6.out.frozen 2
        have f3 := Q6.out.frozen 3
        have f4 := Q6.out.frozen 4
        go_wp2
        obtain ⟨wf, hwf⟩ : ∃ wf, wf = (((((w6.setCell ⟨w.heap.size + 2, 0, none⟩ (.int .i64 k2)).setCell ⟨w.heap.size + 2, 1, none⟩ (.int .i64 i2)).setCell ⟨w.heap.size + 2, 2, none⟩ (.string t2)).setCell ⟨w.heap.size + 2, 3, none⟩ (.slice D n3 c3)).setCell ⟨w.heap.size + 2, 4, none⟩ (.slice D' n4 c4)) := ⟨_, rfl⟩
        have QF : Hid (Bk wf (w.heap.size + 2) 26 #[.int .i64 k2, .int .i64 i2, .string t2, .slice D n3 c3, .slice D' n4 c4]) := Lib.hid (by rw [hwf]; exact (((((Q6.out.put 0 _).put 1 _).put 2 _).put 3 _).put 4 _))
        have SF : Hid (∀ b, b ≠ w.heap.size + 2 → wf.heap[b]? = w6.heap[b]?) := Lib.hid (fun b hb => by rw [hwf]; exact ((((Below.heap_setCell _ _ _ _ hb).trans (Below.heap_setCell _ _ _ _ hb)).trans (Below.heap_setCell _ _ _ _ hb)).trans (Below.heap_setCell _ _ _ _ hb)).trans (Below.heap_setCell _ _ _ _ hb))
        have BF : Hid (Below w.heap.size w wf) := Lib.hid (by rw [hwf]; exact (((((B6.out.setCell (p := ⟨w.heap.size + 2, 0, none⟩) (by show w.heap.size ≤ w.heap.size + 2; omega) _).setCell (p := ⟨w.heap.size + 2, 1, none⟩) (by show w.heap.size ≤ w.heap.size + 2; omega) _).setCell (p := ⟨w.heap.size + 2, 2, none⟩) (by show w.heap.size ≤ w.heap.size + 2; omega) _).setCell (p := ⟨w.heap.size + 2, 3, none⟩) (by show w.heap.size ≤ w.heap.size + 2; omega) _).setCell (p := ⟨w.heap.size + 2, 4, none⟩) (by show w.heap.size ≤ w.heap.size + 2; omega) _))
        rw [← hwf]
        refine bodyPost_ret (results_row2 rfl _ _ (w.heap.size + 2) 26 _ (0, 0) _ rfl QF.out Try.underlying26 rfl (by kernel_rfl)) rfl ?_
        exact ⟨m, 0, Or.inr ⟨IM.out, by rw [← L.out.1, ← HMM.out]; rfl, by rw [← L.out.2, ← HMM.out]; rfl⟩, _, rfl, HL4.out.keep (fun p hp => by
            have h1 := L34.out
            have h2 := LQ3.out
            have h3 := B3.out.size
            have hlt : p.block < w4.heap.size := by
              rcases hp with h | h
              · have h' : p.block < w.heap.size := h
                omega
              · exact h.2
            refine (World.cell?_of_block (SF.out _ ?_)).trans (B46.out.cell hlt)
            rcases hp with h | h
            · have h' : p.block < w.heap.size := h
              omega
            · omega) (fun b hp => by
            have h1 := L34.out
            have h3 := B3.out.size
            have h4 := BF.out.size
            have h5 := B46.out.size
            have h6 : wf.heap.size = w6.heap.size := by rw [hwf]; simp [World.setCell]
            show b < wf.heap.size
            rcases hp with h | h
            · have h' : b < w.heap.size := h
              omega
            · omega), BF.out⟩
  · have hk0 : (k != 5) = true := by simp [hk]
    have IM := Lib.hid (ismap_no (i := i) (t := t) (its := its) (ks := ks) hk)
    clear hk HF
    have e0 := P2.out.cell 0
    obtain ⟨w3, hw3⟩ : ∃ w3, w3 = w2 := ⟨_, rfl⟩
    subst hw3
    go_enter Try.func43, Try.ntmps43
    go_upto_region 2 with fail
    rw [← HW.out]
    have q0 := Q2.out.cell 0
    have q1 := Q2.out.cell 1
    have q2 := Q2.out.cell 2
    have q3 := Q2.out.cell 3
    have q4 := Q2.out.cell 4
    have f0 := Q2.out.frozen 0
    have f1 := Q2.out.frozen 1
    have f2 := Q2.out.frozen 2
    have f3 := Q2.out.frozen 3
    have f4 := Q2.out.frozen 4
    go_wp2
    obtain ⟨wf, hwf⟩ : ∃ wf, wf = (((((w3.setCell ⟨w.heap.size + 2, 0, none⟩ (.int .i64 0)).setCell ⟨w.heap.size + 2, 1, none⟩ (.int .i64 0)).setCell ⟨w.heap.size + 2, 2, none⟩ (.string ⟨#[]⟩)).setCell ⟨w.heap.size + 2, 3, none⟩ (.slice none 0 0)).setCell ⟨w.heap.size + 2, 4, none⟩ (.slice none 0 0)) := ⟨_, rfl⟩
    have QF : Hid (Bk wf (w.heap.size + 2) 26 #[.int .i64 0, .int .i64 0, .string ⟨#[]⟩, .slice none 0 0, .slice none 0 0]) := Lib.hid (by rw [hwf]; exact (((((Q2.out.put 0 _).put 1 _).put 2 _).put 3 _).put 4 _))
    have SF : Hid (∀ b, b ≠ w.heap.size + 2 → wf.heap[b]? = w3.heap[b]?) := Lib.hid (fun b hb => by rw [hwf]; exact ((((Below.heap_setCell _ _ _ _ hb).trans (Below.heap_setCell _ _ _ _ hb)).trans (Below.heap_setCell _ _ _ _ hb)).trans (Below.heap_setCell _ _ _ _ hb)).trans (Below.heap_setCell _ _ _ _ hb))
    have BF : Hid (Below w.heap.size w wf) := Lib.hid (by rw [hwf]; exact (((((B2.out.setCell (p := ⟨w.heap.size + 2, 0, none⟩) (by show w.heap.size ≤ w.heap.size + 2; omega) _).setCell (p := ⟨w.heap.size + 2, 1, none⟩) (by show w.heap.size ≤ w.heap.size + 2; omega) _).setCell (p := ⟨w.heap.size + 2, 2, none⟩) (by show w.heap.size ≤ w.heap.size + 2; omega) _).setCell (p := ⟨w.heap.size + 2, 3, none⟩) (by show w.heap.size ≤ w.heap.size + 2; omega) _).setCell (p := ⟨w.heap.size + 2, 4, none⟩) (by show w.heap.size ≤ w.heap.size + 2; omega) _))
    rw [← hwf]
    refine bodyPost_ret (results_row2 rfl _ _ (w.heap.size + 2) 26 _ (0, 0) _ rfl QF.out Try.underlying26 rfl (by kernel_rfl)) rfl ?_
    exact ⟨nullT, _, Or.inl ⟨IM.out, rfl, rfl⟩, _, rfl, zero_lies _ _, BF.out⟩
end Go.Proofs.Ytidinbeanaifmaa
namespace Go.Proofs.Ytidinbeanaifmaa
open Go.RowKit

def dropL (key : ByteArray) (l : List (ByteArray × VT)) : List (ByteArray × VT) := l.filter fun p => !decide (p.1 = key)
def RDropSpec (x : VT) (key : ByteArray) (z : VT) (r : Int) : Prop :=
  (isMapT x = false ∧ z = nullT ∧ r = 12) ∨ (isMapT x = true ∧ (((dropL key (x.ks.zip x.its)).length = x.ks.length ∧ z = nullT ∧ r = 15) ∨ ((dropL key (x.ks.zip x.its)).length ≠ x.ks.length ∧ z = mapT (dropL key (x.ks.zip x.its)) ∧ r = 0)))
theorem dropL_same {key : ByteArray} {l : List (ByteArray × VT)} {p : ByteArray × VT} (h : p.1 = key) : dropL key (l ++ [p]) = dropL key l := by
  unfold dropL; rw [List.filter_append]; simp [h]
theorem dropL_more {key : ByteArray} {l : List (ByteArray × VT)} {p : ByteArray × VT} (h : ¬ p.1 = key) : dropL key (l ++ [p]) = dropL key l ++ [p] := by
  unfold dropL; rw [List.filter_append]; simp [h]
theorem dropL_len (key : ByteArray) (l : List (ByteArray × VT)) : (dropL key l).length ≤ l.length := List.length_filter_le _ _
set_option maxRecDepth 100000 in
set_option maxHeartbeats 4000000 in
theorem refDrop_any {x : VT} {v : Value} {w : World} (key : ByteArray) (h : Lies w (Lo w) x v) (hN : x.its.length ≤ 1000000) :
    Calls Try.prog 45 #[v, .string key] w fun e w' => ∃ z r, RDropSpec x key z r ∧ MakesLE z r w e w' := by
  have HF := Lib.hid (fun (w' : World) (hb : Below w.heap.size w w') => refWf_any (h.below hb))
  obtain ⟨k, i, t, its, ks⟩ := x
  obtain ⟨A, c, A', c', rfl, _, _, _, hlc, hcm, hL, hkc, hcm', hS⟩ := h.open
  have HN : Hid (its.length ≤ 1000000) := Lib.hid hN
  clear hN
  have HO := Lib.hid (And.intro hlc (And.intro hcm (And.intro hkc hcm')))
  have HL := Lib.hid hL
  have HS := Lib.hid hS
  obtain ⟨w2, hw2⟩ : ∃ w2, w2 = (w.alloc (.cells #[.int .i64 k, .int .i64 i, .string t, .slice A its.length c, .slice A' ks.length c'] 26)).alloc (.cells #[.int .i64 0, .int .i64 0, .string ⟨#[]⟩, .slice none 0 0, .slice none 0 0] 26) := ⟨_, rfl⟩
  have B2 : Hid (Below w.heap.size w w2) := Lib.hid (by rw [hw2]; exact (below_one _ _).trans (Below.alloc (Below.refl _ _) (by simp) _))
  have P2 : Hid (Bk w2 w.heap.size 26 #[.int .i64 k, .int .i64 i, .string t, .slice A its.length c, .slice A' ks.length c']) := Lib.hid (by rw [hw2]; exact (Bk.new _ _ _).alloc _)
  have Q2 : Hid (Bk w2 (w.heap.size + 1) 26 #[.int .i64 0, .int .i64 0, .string ⟨#[]⟩, .slice none 0 0, .slice none 0 0]) := Lib.hid (by rw [hw2]; have := Bk.new (w.alloc (.cells #[.int .i64 k, .int .i64 i, .string t, .slice A its.length c, .slice A' ks.length c'] 26)) 26 #[.int .i64 0, .int .i64 0, .string ⟨#[]⟩, .slice none 0 0, .slice none 0 0]; simpa using this)
  have HW := Lib.hid hw2
  have LQ : Hid (w.heap.size + 1 < w2.heap.size) := Lib.hid Q2.out.lt
  clear h hw2 hL hS hlc hcm hkc hcm'
  unfold vag at *
  by_cases hk : k = 5
  · subst hk
    have H1 := Lib.hid (HF.out w2 B2.out)
    have IM := Lib.hid (ismap_wf (i := i) (t := t) (its := its) (ks := ks))
    generalize (VT.mk 5 i t its ks).wf = b at *
    have e0 := P2.out.cell 0
    have e1 := P2.out.cell 1
    have e2 := P2.out.cell 2
    have e3 := P2.out.cell 3
    have e4 := P2.out.cell 4
    go_enter Try.func45, Try.ntmps45
    go_wp2_with fail
    rw [← HW.out]
    refine (H1.out).mono ?_
    rintro e w3 ⟨rfl, hb⟩
    have P3 := Lib.hid (P2.out.below hb P2.out.lt)
    have Q3 := Lib.hid (Q2.out.below hb Q2.out.lt)
    have B3 := Lib.hid (below_next B2.out hb)
    have LQ3 : Hid (w.heap.size + 1 < w3.heap.size) := Lib.hid Q3.out.lt
    clear hb e0 e1 e2 e3 e4 H1 HF
    cases b with
    | false =>
      have q0 := Q3.out.cell 0
      have q1 := Q3.out.cell 1
      have q2 := Q3.out.cell 2
      have q3 := Q3.out.cell 3
      have q4 := Q3.out.cell 4
      have f0 := Q3.out.frozen 0
      have f1 := Q3.out.frozen 1
      have f2 := Q3.out.frozen 2
      have f3 := Q3.out.frozen 3
      have f4 := Q3.out.frozen 4
      go_wp2
      obtain ⟨wf, hwf⟩ : ∃ wf, wf = (((((w3.setCell ⟨w.heap.size + 1, 0, none⟩ (.int .i64 0)).setCell ⟨w.heap.size + 1, 1, none⟩ (.int .i64 0)).setCell ⟨w.heap.size + 1, 2, none⟩ (.string ⟨#[]⟩)).setCell ⟨w.heap.size + 1, 3, none⟩ (.slice none 0 0)).setCell ⟨w.heap.size + 1, 4, none⟩ (.slice none 0 0)) := ⟨_, rfl⟩
      have QF : Hid (Bk wf (w.heap.size + 1) 26 #[.int .i64 0, .int .i64 0, .string ⟨#[]⟩, .slice none 0 0, .slice none 0 0]) := Lib.hid (by rw [hwf]; exact (((((Q3.out.put 0 _).put 1 _).put 2 _).put 3 _).put 4 _))
      have SF : Hid (∀ b, b ≠ w.heap.size + 1 → wf.heap[b]? = w3.heap[b]?) := Lib.hid (fun b hb => by rw [hwf]; exact ((((Below.heap_setCell _ _ _ _ hb).trans (Below.heap_setCell _ _ _ _ hb)).trans (Below.heap_setCell _ _ _ _ hb)).trans (Below.heap_setCell _ _ _ _ hb)).trans (Below.heap_setCell _ _ _ _ hb))
      have BF : Hid (Below w.heap.size w wf) := Lib.hid (by rw [hwf]; exact (((((B3.out.setCell (p := ⟨w.heap.size + 1, 0, none⟩) (by show w.heap.size ≤ w.heap.size + 1; omega) _).setCell (p := ⟨w.heap.size + 1, 1, none⟩) (by show w.heap.size ≤ w.heap.size + 1; omega) _).setCell (p := ⟨w.heap.size + 1, 2, none⟩) (by show w.heap.size ≤ w.heap.size + 1; omega) _).setCell (p := ⟨w.heap.size + 1, 3, none⟩) (by show w.heap.size ≤ w.heap.size + 1; omega) _).setCell (p := ⟨w.heap.size + 1, 4, none⟩) (by show w.heap.size ≤ w.heap.size + 1; omega) _))
      rw [← hwf]
      refine bodyPost_ret (results_row2 rfl _ _ (w.heap.size + 1) 26 _ (0, 0) _ rfl QF.out Try.underlying26 rfl (by kernel_rfl)) rfl ?_
      exact ⟨nullT, _, Or.inl ⟨IM.out, rfl, rfl⟩, _, rfl, zero_lies _ _, BF.out⟩
    | true =>
      have hkl : ks.length = its.length := (map_wf (i := i) (t := t) (by rw [← ismap_wf]; exact IM.out)).1
      obtain ⟨iS, hiS, hzS, hsS, hbS⟩ := info_parts Try.infoS
      obtain ⟨iV, hiV, hzV, hsV, hbV⟩ := info_parts Try.infoV
      obtain ⟨g, hgdef⟩ : ∃ g, g = w3.heap.size := ⟨_, rfl⟩
      obtain ⟨w4, hw4⟩ : ∃ w4, w4 = w3.alloc (.cells #[.int .i64 5, .int .i64 0, .string ⟨#[]⟩, .slice none 0 0, .slice none 0 0] 26) := ⟨_, rfl⟩
      have HZ0 : Hid (w4.heap.size = g + 1) := Lib.hid (by rw [hw4, hgdef]; simp)
      have HZ : Hid (g < w4.heap.size) := Lib.hid (by have := HZ0.out; omega)
      have B34 : Hid (Below w3.heap.size w3 w4) := Lib.hid (by rw [hw4]; exact below_one _ _)
      have B4 := Lib.hid (below_next B3.out B34.out)
      have V4 := Lib.hid (P3.out.below B34.out P3.out.lt)
      have Q4 := Lib.hid (Q3.out.below B34.out Q3.out.lt)
      have GQ : Hid (w.heap.size + 1 < g) := Lib.hid (by rw [hgdef]; exact LQ3.out)
      have O4 : Hid (OutR w (fun b => b < w.heap.size) w4.heap.size g [] 0 none 0 none 0 w4) := Lib.hid ⟨rfl, by rw [hw4, hgdef]; exact Bk.new _ _ _, ⟨[], rfl, World.ownsRow_nil _ _ _ _⟩, World.ownsRow_nil _ _ _ _⟩
      have HW4 := Lib.hid hw4
      have HGD := Lib.hid hgdef
      have HLN : Hid (ks.length ≤ 1000000) := Lib.hid (by have := HN.out; omega)
      have HKL : Hid (ks.length = its.length) := Lib.hid hkl
      clear hw4 hgdef hkl
      go_wp2_with fail
      rw [← HW4.out, ← HGD.out]
      go_loopg [7] ks.length (fun gh iv wr => ∃ (j : Nat) (ps : List (ByteArray × VT)) (n : Nat) (AI : Option Addr) (cI : Nat) (AK : Option Addr) (cK : Nat), j ≤ ks.length ∧ gh = ks.length - j ∧ iv = .int .i64 j ∧
        Hid (ps = dropL key ((ks.zip its).take j)) ∧ Hid (OutR w (fun b => b < w.heap.size) w4.heap.size g ps n AI cI AK cK wr) ∧ Hid (w4.grownBy wr (some g)))
      case atStart => exact ⟨0, [], 0, none, 0, none, 0, by omega, rfl, rfl, Lib.hid rfl, O4, Lib.hid (World.grownBy.refl _ _)⟩
      case round =>
        obtain ⟨j, ps, n, AI, cI, AK, cK, hjn, rfl, rfl, HFL, HO2, HG⟩ := hrel
        have hln := HLN.out
        have hpl : n ≤ j := by
          have h3 := HO2.out.len
          have h := dropL_len key ((ks.zip its).take j)
          rw [← HFL.out, h3] at h
          exact Nat.le_trans h (List.length_take_le _ _)
        have VR := Lib.hid (V4.out.grown HG.out (by intro e; injection e with e; have := GQ.out; omega))
        have BR : Hid (Below w.heap.size w wr) := Lib.hid (B4.out.grown HG.out B4.out.size (fun q hq => by injection hq with hq; have := GQ.out; omega))
        have a4 := VR.out.cell 4
        by_cases hlt : j < ks.length
        · have hji : j < its.length := by have := HKL.out; omega
          have g1 := List.getElem?_eq_getElem (l := ks) (i := j) hlt
          have g2 := List.getElem?_eq_getElem (l := its) (i := j) hji
          obtain ⟨hkz, gk, ok, rfl, hgk, ek⟩ := HS.out j _ g1
          obtain ⟨gi, oi, k', i', t', E, n1, c1, E', n2, c2, rfl, hgi, e0, e1, e2, e3, e4, hy⟩ := (HL.out).at_ g2
          have htk : (ks.zip its).take (j + 1) = (ks.zip its).take j ++ [(ks[j]'hlt, its[j]'hji)] := by
            rw [List.take_add_one, (List.getElem?_zip_eq_some (z := (ks[j]'hlt, its[j]'hji))).2 ⟨g1, g2⟩]
            rfl
          generalize ks[j]'hlt = kj at *
          generalize its[j]'hji = y at *
          rw [Nat.zero_add] at e0 e1 e2 e3 e4
          have EI := Lib.hid (And.intro e0 (And.intro e1 (And.intro e2 (And.intro e3 e4))))
          have EK := Lib.hid ek
          have GKL : Hid (gk < w.heap.size) := Lib.hid hgk
          have GIL : Hid (gi < w.heap.size) := Lib.hid hgi
          have HYY := Lib.hid (show Lies w (fun b => b < w.heap.size) (kj, y).2 (.agg #[.int .i64 k', .int .i64 i', .string t', .slice E n1 c1, .slice E' n2 c2]) from hy)
          have HTK := Lib.hid htk
          have HJ : Hid (j + 1 ≤ ks.length) := Lib.hid hlt
          have HPL := Lib.hid hpl
          change _ = some (Value.slice (some ⟨gk, ok, none⟩) ks.length c') at a4
          have ekr := (BR.out.cell (p := ⟨gk, ok + j, none⟩) GKL.out).trans EK.out
          clear htk hy hkz e0 e1 e2 e3 e4 ek hgk hgi g1 g2
          by_cases hk : kj = key
          · have t1 : (kj.toList == key.toList) = true := by rw [hk]; simp
            have m1 : (kj.toList != key.toList) = false := by rw [bne, t1]; rfl
            have RES : Hid (ps = dropL key ((ks.zip its).take (j + 1))) := Lib.hid (by rw [HTK.out, dropL_same (p := (kj, y)) hk]; exact HFL.out)
            clear hk
            go_wp2_with fail
            go_roundg (ks.length - (j + 1))
            case measure => have := HJ.out; omega
            case rel => exact ⟨j + 1, ps, n, AI, cI, AK, cK, HJ.out, rfl, by go_num, RES, HO2, HG⟩
          · have t1 : (kj.toList == key.toList) = false := by rw [beq_eq_false_iff_ne]; exact fun e => hk (str_inj e)
            have m1 : (kj.toList != key.toList) = true := by rw [bne, t1]; rfl
            have RES : Hid (ps ++ [(kj, y)] = dropL key ((ks.zip its).take (j + 1))) := Lib.hid (by rw [HTK.out, dropL_more (p := (kj, y)) hk, ← HFL.out])
            clear hk
            have BS7 : Hid (w4.heap.size ≤ wr.heap.size) := Lib.hid HG.out.size
            have HK7 := Lib.hid HO2.out.kys
            have LT7 : Hid (w.heap.size < wr.heap.size ∧ g < wr.heap.size ∧ gk < wr.heap.size ∧ n ≤ 1000000) := Lib.hid (by have := HZ.out; have := BS7.out; have := BR.out.size; have := GKL.out; have := GQ.out; have := HPL.out; have := HLN.out; exact ⟨by omega, by omega, by omega, by omega⟩)
            have o4 := HO2.out.blk.cell 4
            change _ = some (Value.slice AK n cK) at o4
            have f4 := HO2.out.blk.frozen 4
            have lt1 := LT7.out.1
            have lt2 := LT7.out.2.1
            have lt3 := LT7.out.2.2.1
            go_wp2_with fail
            go_cut [] from 18 to 51 (fun wx => ∃ (AK2 : Option Addr) (cK2 : Nat), Hid (MidR w (fun b => b < w.heap.size) w4.heap.size g ps (kj, y) n AI cI AK2 cK2 wx) ∧ Hid (w4.grownBy wx (some g)))
            case first =>
              go_region_law (first
                | (refine step_append_lies _ (by rfl) _ _ _ (by rfl) w4.heap.size 9 iS _ 1 16 Try.underlying22 hiS hzS hsS hbS rfl (by omega) (Value.slice AK n cK) n (ps.map fun p => Value.string p.1) (by rfl) (by first | exact HK7.out.alloc _ | exact (HK7.out.alloc _).drew | exact HK7.out.drew.alloc _) ⟨wr.heap.size, 0, none⟩ 1 1 [.string kj] (by rfl) (by rfl) (World.news_of_block (cs := #[.string kj]) (t := 9) (fr := (0, 0)) (heap_alloc_new wr _)) (by simp [Value.oneCell']) (by omega) (by have := LT7.out.2.2.2; unfold maxLen; omega) (by have := LT7.out.2.2.2; omega) (by have := BS7.out; simp; omega) (wr.heap.size + 1) (by simp) ?_; intro g2 cap w1 hown1 hgrow hat hlt; have HGW : Hid (wr.grownBy w1 (Value.slice AK n cK).ownBlock) := Lib.hid (by refine grownBy_trans ?_ hgrow; exact ⟨rfl, rfl, rfl, by simp, fun b hb _ => Below.heap_alloc wr _ b hb⟩); have B1 := Lib.hid (HO2.out.blk.grown HGW.out (below_row HK7.out HZ.out)); have q3 := B1.out.cell 3; have q4 := B1.out.cell 4; have p3 := B1.out.frozen 3; have p4 := B1.out.frozen 4))
              all_goals (
                have MM := Lib.hid (OutR.key (p := (kj, y)) HO2.out HGW.out hown1 HZ.out)
                have MG := Lib.hid (out_grown (i := 4) (u := .slice (some ⟨g2, 0, none⟩) (n + 1) cap) HG.out HO2.out.kys HGW.out)
                clear hown1 hgrow hat hlt
                go_wp2_with fail
                go_meet
                exact ⟨some ⟨g2, 0, none⟩, cap, MM, MG⟩)
            case rest =>
              obtain ⟨AK7, cK7, MM7, MG7⟩ := hcut
              clear o4 f4 a4 ekr lt1 lt2 lt3
              have BT7 : Hid (w4.heap.size ≤ wc.heap.size) := Lib.hid MG7.out.size
              have VL7 := Lib.hid (V4.out.grown MG7.out (by intro e; injection e with e; have := GQ.out; omega))
              have BX7 : Hid (Below w.heap.size w wc) := Lib.hid (B4.out.grown MG7.out B4.out.size (fun q hq => by injection hq with hq; have := GQ.out; omega))
              have LU7 : Hid (w.heap.size < wc.heap.size ∧ g < wc.heap.size ∧ gi < wc.heap.size) := Lib.hid (by have := HZ.out; have := BT7.out; have := BX7.out.size; have := GIL.out; have := GQ.out; exact ⟨by omega, by omega, by omega⟩)
              obtain ⟨cs7, hcs, hi⟩ := MM7.out.its
              have CS7 := Lib.hid hcs
              have HI7 := Lib.hid hi
              clear hcs hi
              have o3 := MM7.out.blk.cell 3
              change _ = some (Value.slice AI n cI) at o3
              have f3 := MM7.out.blk.frozen 3
              have v3 := VL7.out.cell 3
              change _ = some (Value.slice (some ⟨gi, oi, none⟩) its.length c) at v3
              have cc := fun (q : Nat) => BX7.out.cell (p := ⟨gi, q, none⟩) GIL.out
              have e0 := (cc _).trans EI.out.1
              have e1 := (cc _).trans EI.out.2.1
              have e2 := (cc _).trans EI.out.2.2.1
              have e3 := (cc _).trans EI.out.2.2.2.1
              have e4 := (cc _).trans EI.out.2.2.2.2
              have lt1 := LU7.out.1
              have lt2 := LU7.out.2.1
              have lt3 := LU7.out.2.2
              clear cc
              go_wp2_with fail
              go_region_law (first
                | (refine step_append_lies _ (by rfl) _ _ _ (by rfl) w4.heap.size 26 iV _ 5 80 Try.underlying23 hiV hzV hsV hbV rfl (by omega) (Value.slice AI n cI) n cs7 (by rfl) (by first | exact HI7.out.alloc _ | exact (HI7.out.alloc _).drew | exact HI7.out.drew.alloc _) ⟨wc.heap.size, 0, none⟩ 1 1 [.int .i64 k', .int .i64 i', .string t', .slice E n1 c1, .slice E' n2 c2] (by rfl) (by rfl) (World.news_of_block (cs := #[.int .i64 k', .int .i64 i', .string t', .slice E n1 c1, .slice E' n2 c2]) (t := 26) (fr := (0, 0)) (heap_alloc_new wc _)) (by simp [Value.oneCell']) (by omega) (by have := LT7.out.2.2.2; unfold maxLen; omega) (by have := LT7.out.2.2.2; omega) (by have := BT7.out; simp; omega) (wc.heap.size + 1) (by simp) ?_; intro g2 cap w1 hown1 hgrow hat hlt; have HGW : Hid (wc.grownBy w1 (Value.slice AI n cI).ownBlock) := Lib.hid (by refine grownBy_trans ?_ hgrow; exact ⟨rfl, rfl, rfl, by simp, fun b hb _ => Below.heap_alloc wc _ b hb⟩); have B1 := Lib.hid (MM7.out.blk.grown HGW.out (below_row HI7.out HZ.out)); have q3 := B1.out.cell 3; have q4 := B1.out.cell 4; have p3 := B1.out.frozen 3; have p4 := B1.out.frozen 4))
              all_goals (
                have H9 := Lib.hid (MidR.item MM7.out CS7.out HI7.out HYY.out HGW.out hown1 HZ.out)
                have G9 := Lib.hid (out_grown (i := 3) (u := .slice (some ⟨g2, 0, none⟩) (n + 1) cap) MG7.out HI7.out HGW.out)
                clear hown1 hgrow hat hlt o3 v3 e0 e1 e2 e3 e4 lt1 lt2 lt3 f3
                go_wp2
                go_roundg (ks.length - (j + 1))
                case measure => have := HJ.out; omega
                case rel => exact ⟨j + 1, ps ++ [(kj, y)], n + 1, some ⟨g2, 0, none⟩, cap, AK7, cK7, HJ.out, rfl, by go_num, RES, H9, G9⟩)
        · obtain rfl : j = ks.length := by omega
          have HP : Hid (ps = dropL key (ks.zip its)) := Lib.hid (by have h := HFL.out; rwa [List.take_of_length_le (by rw [List.length_zip]; omega)] at h)
          have QR := Lib.hid (Q4.out.grown HG.out (by intro e; injection e with e; have := GQ.out; omega))
          have o4 := HO2.out.blk.cell 4
          change _ = some (Value.slice AK n cK) at o4
          change _ = some (Value.slice A' ks.length c') at a4
          by_cases hn : n = ks.length
          · have HNN := Lib.hid hn
            have t2 : ((n : Int) == (ks.length : Int)) = true := by rw [hn]; simp
            clear hn hpl
            have q0 := QR.out.cell 0
            have q1 := QR.out.cell 1
            have q2 := QR.out.cell 2
            have q3 := QR.out.cell 3
            have q4 := QR.out.cell 4
            have f0 := QR.out.frozen 0
            have f1 := QR.out.frozen 1
            have f2 := QR.out.frozen 2
            have f3 := QR.out.frozen 3
            have f4 := QR.out.frozen 4
            go_wp2
            obtain ⟨wf, hwf⟩ : ∃ wf, wf = (((((wr.setCell ⟨w.heap.size + 1, 0, none⟩ (.int .i64 0)).setCell ⟨w.heap.size + 1, 1, none⟩ (.int .i64 0)).setCell ⟨w.heap.size + 1, 2, none⟩ (.string ⟨#[]⟩)).setCell ⟨w.heap.size + 1, 3, none⟩ (.slice none 0 0)).setCell ⟨w.heap.size + 1, 4, none⟩ (.slice none 0 0)) := ⟨_, rfl⟩
            have QF : Hid (Bk wf (w.heap.size + 1) 26 #[.int .i64 0, .int .i64 0, .string ⟨#[]⟩, .slice none 0 0, .slice none 0 0]) := Lib.hid (by rw [hwf]; exact (((((QR.out.put 0 _).put 1 _).put 2 _).put 3 _).put 4 _))
            have SF : Hid (∀ b, b ≠ w.heap.size + 1 → wf.heap[b]? = wr.heap[b]?) := Lib.hid (fun b hb => by rw [hwf]; exact ((((Below.heap_setCell _ _ _ _ hb).trans (Below.heap_setCell _ _ _ _ hb)).trans (Below.heap_setCell _ _ _ _ hb)).trans (Below.heap_setCell _ _ _ _ hb)).trans (Below.heap_setCell _ _ _ _ hb))
            have BF : Hid (Below w.heap.size w wf) := Lib.hid (by rw [hwf]; exact (((((BR.out.setCell (p := ⟨w.heap.size + 1, 0, none⟩) (by show w.heap.size ≤ w.heap.size + 1; omega) _).setCell (p := ⟨w.heap.size + 1, 1, none⟩) (by show w.heap.size ≤ w.heap.size + 1; omega) _).setCell (p := ⟨w.heap.size + 1, 2, none⟩) (by show w.heap.size ≤ w.heap.size + 1; omega) _).setCell (p := ⟨w.heap.size + 1, 3, none⟩) (by show w.heap.size ≤ w.heap.size + 1; omega) _).setCell (p := ⟨w.heap.size + 1, 4, none⟩) (by show w.heap.size ≤ w.heap.size + 1; omega) _))
            rw [← hwf]
            refine bodyPost_ret (results_row2 rfl _ _ (w.heap.size + 1) 26 _ (0, 0) _ rfl QF.out Try.underlying26 rfl (by kernel_rfl)) rfl ?_
            exact ⟨nullT, _, Or.inr ⟨IM.out, Or.inl ⟨by show (dropL key (ks.zip its)).length = ks.length; rw [← HP.out, HO2.out.len]; exact HNN.out, rfl, rfl⟩⟩, _, rfl, zero_lies _ _, BF.out⟩
          · have HNN := Lib.hid hn
            have t2 : ((n : Int) == (ks.length : Int)) = false := by rw [beq_eq_false_iff_ne]; omega
            have t3 : ¬ ((n : Int) = (ks.length : Int)) := by omega
            have o0 := HO2.out.blk.cell 0
            have o1 := HO2.out.blk.cell 1
            have o2 := HO2.out.blk.cell 2
            have o3 := HO2.out.blk.cell 3
            have q0 := QR.out.cell 0
            have q1 := QR.out.cell 1
            have q2 := QR.out.cell 2
            have q3 := QR.out.cell 3
            have q4 := QR.out.cell 4
            have f0 := QR.out.frozen 0
            have f1 := QR.out.frozen 1
            have f2 := QR.out.frozen 2
            have f3 := QR.out.frozen 3
            have f4 := QR.out.frozen 4
            clear hn hpl
            go_wp2
            obtain ⟨wf, hwf⟩ : ∃ wf, wf = (((((wr.setCell ⟨w.heap.size + 1, 0, none⟩ (.int .i64 5)).setCell ⟨w.heap.size + 1, 1, none⟩ (.int .i64 0)).setCell ⟨w.heap.size + 1, 2, none⟩ (.string ⟨#[]⟩)).setCell ⟨w.heap.size + 1, 3, none⟩ (.slice AI n cI)).setCell ⟨w.heap.size + 1, 4, none⟩ (.slice AK n cK)) := ⟨_, rfl⟩
            have QF : Hid (Bk wf (w.heap.size + 1) 26 #[.int .i64 5, .int .i64 0, .string ⟨#[]⟩, .slice AI n cI, .slice AK n cK]) := Lib.hid (by rw [hwf]; exact (((((QR.out.put 0 _).put 1 _).put 2 _).put 3 _).put 4 _))
            have SF : Hid (∀ b, b ≠ w.heap.size + 1 → wf.heap[b]? = wr.heap[b]?) := Lib.hid (fun b hb => by rw [hwf]; exact ((((Below.heap_setCell _ _ _ _ hb).trans (Below.heap_setCell _ _ _ _ hb)).trans (Below.heap_setCell _ _ _ _ hb)).trans (Below.heap_setCell _ _ _ _ hb)).trans (Below.heap_setCell _ _ _ _ hb))
            have BF : Hid (Below w.heap.size w wf) := Lib.hid (by rw [hwf]; exact (((((BR.out.setCell (p := ⟨w.heap.size + 1, 0, none⟩) (by show w.heap.size ≤ w.heap.size + 1; omega) _).setCell (p := ⟨w.heap.size + 1, 1, none⟩) (by show w.heap.size ≤ w.heap.size + 1; omega) _).setCell (p := ⟨w.heap.size + 1, 2, none⟩) (by show w.heap.size ≤ w.heap.size + 1; omega) _).setCell (p := ⟨w.heap.size + 1, 3, none⟩) (by show w.heap.size ≤ w.heap.size + 1; omega) _).setCell (p := ⟨w.heap.size + 1, 4, none⟩) (by show w.heap.size ≤ w.heap.size + 1; omega) _))
            rw [← hwf]
            refine bodyPost_ret (results_row2 rfl _ _ (w.heap.size + 1) 26 _ (0, 0) _ rfl QF.out Try.underlying26 rfl (by kernel_rfl)) rfl ?_
            refine ⟨mapT ps, 0, Or.inr ⟨IM.out, Or.inr ⟨by show (dropL key (ks.zip its)).length ≠ ks.length; rw [← HP.out, HO2.out.len]; exact HNN.out, by rw [HP.out]; rfl, rfl⟩⟩, _, rfl, ?_, BF.out⟩
            have hgz := HZ.out
            have hgq := GQ.out
            have hwb := HG.out.size
            have hzf : wf.heap.size = wr.heap.size := by rw [hwf]; simp [World.setCell]
            have hO : OutR w (fun b => b < w.heap.size) w4.heap.size g ps n AI cI AK cK wf := by
              obtain ⟨csz, hcz, hiz⟩ := HO2.out.its
              exact ⟨HO2.out.len, (SF.out _ (by omega)).trans HO2.out.blk, ⟨csz, hcz, own_same (lo := w4.heap.size) hiz (fun b h1 _ => SF.out b (by omega))⟩, own_same (lo := w4.heap.size) HO2.out.kys (fun b h1 _ => SF.out b (by omega))⟩
            refine (OutR.lies hO (fun b h => h) (by have := B4.out.size; omega) BF.out (fun p hp => ?_)).keep (fun _ _ => rfl) (fun b hb => by
              have h5 := BF.out.size
              show b < wf.heap.size
              rcases hb with h | h
              · have h' : b < w.heap.size := h
                omega
              · omega)
            have hp2 : p ∈ ks.zip its := by rw [HP.out] at hp; exact (List.mem_filter.1 hp).1
            exact HS.out.sizes p.1 (List.of_mem_zip (a := p.1) (b := p.2) hp2).1
  · have hk0 : (k != 5) = true := by simp [hk]
    have IM := Lib.hid (ismap_no (i := i) (t := t) (its := its) (ks := ks) hk)
    clear hk HF
    have e0 := P2.out.cell 0
    obtain ⟨w3, hw3⟩ : ∃ w3, w3 = w2 := ⟨_, rfl⟩
    subst hw3
    go_enter Try.func45, Try.ntmps45
    go_upto_region 2 with fail
    rw [← HW.out]
    have q0 := Q2.out.cell 0
    have q1 := Q2.out.cell 1
    have q2 := Q2.out.cell 2
    have q3 := Q2.out.cell 3
    have q4 := Q2.out.cell 4
    have f0 := Q2.out.frozen 0
    have f1 := Q2.out.frozen 1
    have f2 := Q2.out.frozen 2
    have f3 := Q2.out.frozen 3
    have f4 := Q2.out.frozen 4
    go_wp2
    obtain ⟨wf, hwf⟩ : ∃ wf, wf = (((((w3.setCell ⟨w.heap.size + 1, 0, none⟩ (.int .i64 0)).setCell ⟨w.heap.size + 1, 1, none⟩ (.int .i64 0)).setCell ⟨w.heap.size + 1, 2, none⟩ (.string ⟨#[]⟩)).setCell ⟨w.heap.size + 1, 3, none⟩ (.slice none 0 0)).setCell ⟨w.heap.size + 1, 4, none⟩ (.slice none 0 0)) := ⟨_, rfl⟩
    have QF : Hid (Bk wf (w.heap.size + 1) 26 #[.int .i64 0, .int .i64 0, .string ⟨#[]⟩, .slice none 0 0, .slice none 0 0]) := Lib.hid (by rw [hwf]; exact (((((Q2.out.put 0 _).put 1 _).put 2 _).put 3 _).put 4 _))
    have SF : Hid (∀ b, b ≠ w.heap.size + 1 → wf.heap[b]? = w3.heap[b]?) := Lib.hid (fun b hb => by rw [hwf]; exact ((((Below.heap_setCell _ _ _ _ hb).trans (Below.heap_setCell _ _ _ _ hb)).trans (Below.heap_setCell _ _ _ _ hb)).trans (Below.heap_setCell _ _ _ _ hb)).trans (Below.heap_setCell _ _ _ _ hb))
    have BF : Hid (Below w.heap.size w wf) := Lib.hid (by rw [hwf]; exact (((((B2.out.setCell (p := ⟨w.heap.size + 1, 0, none⟩) (by show w.heap.size ≤ w.heap.size + 1; omega) _).setCell (p := ⟨w.heap.size + 1, 1, none⟩) (by show w.heap.size ≤ w.heap.size + 1; omega) _).setCell (p := ⟨w.heap.size + 1, 2, none⟩) (by show w.heap.size ≤ w.heap.size + 1; omega) _).setCell (p := ⟨w.heap.size + 1, 3, none⟩) (by show w.heap.size ≤ w.heap.size + 1; omega) _).setCell (p := ⟨w.heap.size + 1, 4, none⟩) (by show w.heap.size ≤ w.heap.size + 1; omega) _))
    rw [← hwf]
    refine bodyPost_ret (results_row2 rfl _ _ (w.heap.size + 1) 26 _ (0, 0) _ rfl QF.out Try.underlying26 rfl (by kernel_rfl)) rfl ?_
    exact ⟨nullT, _, Or.inl ⟨IM.out, rfl, rfl⟩, _, rfl, zero_lies _ _, BF.out⟩
end Go.Proofs.Ytidinbeanaifmaa
namespace Go.Proofs.Ytidinbeanaifmaa
open Go.RowKit

theorem map_it {i : Int} {t : ByteArray} {its : List VT} {ks : List ByteArray} (h : (VT.mk 5 i t its ks).wf = true) : i = 0 ∧ t = ⟨#[]⟩ := by
  unfold VT.wf at h
  rw [VT.all_mk, okF_5, Bool.and_eq_true, Bool.and_eq_true, Bool.and_eq_true, Bool.and_eq_true, decide_eq_true_eq, decide_eq_true_eq, decide_eq_true_eq] at h
  refine ⟨h.1.1, ?_⟩
  obtain ⟨a⟩ := t
  have h2 : a.size = 0 := h.1.2.1
  rw [Array.eq_empty_of_size_eq_zero h2]
section
variable {ks : List ByteArray} {its : List VT} {key : ByteArray} {p : Nat}
theorem zip_at (hl : ks.length = its.length) (hp : p < ks.length) : (ks.zip its)[p]? = some (ks.getD p ByteArray.empty, its.getD p default) := by
  have h1 : ks[p]? = some (ks.getD p ByteArray.empty) := by rw [List.getD_eq_getElem?_getD, List.getElem?_eq_getElem hp]; rfl
  have h2 : its[p]? = some (its.getD p default) := by rw [List.getD_eq_getElem?_getD, List.getElem?_eq_getElem (by omega)]; rfl
  exact (List.getElem?_zip_eq_some (z := (ks.getD p ByteArray.empty, its.getD p default))).2 ⟨h1, h2⟩
theorem zip_low (hl : ks.length = its.length) (hP : Pos ks key p) : ∀ q ∈ (ks.zip its).take p, less q.1 key = true := by
  intro q hq
  obtain ⟨j, hj, e⟩ := List.mem_iff_getElem.1 hq
  rw [List.length_take] at hj
  have hz := zip_at (p := j) hl (by have := hP.1; omega)
  have e2 : ((ks.zip its).take p)[j]? = some q := by rw [List.getElem?_eq_getElem (by rw [List.length_take]; exact hj), e]
  rw [List.getElem?_take_of_lt (by omega), hz] at e2
  injection e2 with e2
  rw [← e2]
  exact hP.2.1 j (by omega)
theorem zip_high (hl : ks.length = its.length) (hr : rising ks = true) (hP : Pos ks key p) {m : Nat} (hm : m = p + 1 ∧ p < ks.length ∧ less key (ks.getD p ByteArray.empty) = false ∨ m = p ∧ isAt ks key p = false) : ∀ q ∈ (ks.zip its).drop m, less key q.1 = true := by
  intro q hq
  obtain ⟨j, hj, e⟩ := List.mem_iff_getElem.1 hq
  rw [List.length_drop, List.length_zip] at hj
  have e2 : ((ks.zip its).drop m)[j]? = some q := by rw [List.getElem?_eq_getElem (by rw [List.length_drop, List.length_zip]; exact hj), e]
  rw [List.getElem?_drop] at e2
  have hmj : m + j < ks.length := by omega
  rw [zip_at hl hmj] at e2
  injection e2 with e2
  rw [← e2]
  show less key (ks.getD (m + j) ByteArray.empty) = true
  have hpl : p < ks.length := by rcases hm with h | h <;> omega
  have hpk : less (ks.getD p ByteArray.empty) key = false := hP.2.2 p (Nat.le_refl _) hpl
  rcases hm with ⟨rfl, _, h3⟩ | ⟨rfl, ha⟩
  · have hek : ks.getD p ByteArray.empty = key := by
      apply Classical.byContradiction
      intro hne
      have := less_tri hpk hne
      rw [h3] at this
      cases this
    rw [← hek]
    exact rising_lt hr (by omega) hmj
  · have hne : ks.getD m ByteArray.empty ≠ key := fun h => by
      unfold isAt at ha
      rw [decide_eq_true hpl, decide_eq_true h] at ha
      cases ha
    have hlt := less_tri hpk hne
    rcases Nat.eq_zero_or_pos j with rfl | hj0
    · exact hlt
    · exact less_trans hlt (rising_lt hr (by omega) hmj)
theorem at_key (ha : isAt ks key p = true) : p < ks.length ∧ ks.getD p ByteArray.empty = key := by
  unfold isAt at ha
  rw [Bool.and_eq_true, decide_eq_true_eq, decide_eq_true_eq] at ha
  exact ha
theorem zip_cut (hl : ks.length = its.length) (ha : isAt ks key p = true) : ks.zip its = (ks.zip its).take p ++ (key, its.getD p default) :: (ks.zip its).drop (p + 1) := by
  obtain ⟨h1, h2⟩ := at_key ha
  have hz := zip_at hl h1
  rw [h2] at hz
  have h3 := (List.getElem?_eq_some_iff.1 hz)
  obtain ⟨h4, h5⟩ := h3
  conv => lhs; rw [← List.take_append_drop p (ks.zip its), List.drop_eq_getElem_cons h4, h5]
theorem zip_fst (hl : ks.length = its.length) : (ks.zip its).map (·.1) = ks := List.map_fst_zip (by omega)
theorem zip_snd' (hl : ks.length = its.length) : (ks.zip its).map (·.2) = its := List.map_snd_zip (by omega)
theorem high_at (hl : ks.length = its.length) (hr : rising ks = true) (hP : Pos ks key p) (ha : isAt ks key p = true) : ∀ q ∈ (ks.zip its).drop (p + 1), less key q.1 = true :=
  zip_high hl hr hP (Or.inl ⟨rfl, (at_key ha).1, by rw [(at_key ha).2]; exact less_irrefl _⟩)
theorem high_no (hl : ks.length = its.length) (hr : rising ks = true) (hP : Pos ks key p) (ha : isAt ks key p = false) : ∀ q ∈ (ks.zip its).drop p, less key q.1 = true :=
  zip_high hl hr hP (Or.inr ⟨rfl, ha⟩)
theorem find_eq (hl : ks.length = its.length) (hr : rising ks = true) (hP : Pos ks key p) : findK (ks.zip its) key = if isAt ks key p = true then some (its.getD p default) else none := by
  cases ha : isAt ks key p with
  | true =>
    rw [if_pos rfl]
    have hz := zip_at hl (at_key ha).1
    rw [(at_key ha).2] at hz
    exact findK_at (fun q hq => less_ne (zip_low hl hP q hq)) hz rfl
  | false =>
    rw [if_neg (by simp)]
    apply findK_none
    intro q hq
    rw [← List.take_append_drop p (ks.zip its)] at hq
    rcases List.mem_append.1 hq with h | h
    · exact less_ne (zip_low hl hP q h)
    · exact fun e => less_ne (high_no hl hr hP ha q h) e.symm
theorem put_eq (hl : ks.length = its.length) (hr : rising ks = true) (hP : Pos ks key p) (y : VT) : putT its ks key y p = mapT (withL key y (ks.zip its)) := by
  have h1 : ((ks.zip its).take p).map (·.1) = ks.take p := by rw [List.map_take, zip_fst hl]
  have h2 : ((ks.zip its).take p).map (·.2) = its.take p := by rw [List.map_take, zip_snd' hl]
  cases ha : isAt ks key p with
  | true =>
    obtain ⟨a1, a2⟩ := at_key ha
    have h3 : ((ks.zip its).drop (p + 1)).map (·.1) = ks.drop (p + 1) := by rw [List.map_drop, zip_fst hl]
    have h4 : ((ks.zip its).drop (p + 1)).map (·.2) = its.drop (p + 1) := by rw [List.map_drop, zip_snd' hl]
    have hw : withL key y (ks.zip its) = (ks.zip its).take p ++ (key, y) :: (ks.zip its).drop (p + 1) := by
      conv => lhs; rw [zip_cut hl ha]
      exact withL_old (zip_low hl hP) (high_at hl hr hP ha)
    rw [hw]
    unfold putT mapT
    rw [ha, if_pos rfl, List.map_append, List.map_append, List.map_cons, List.map_cons, h1, h2, h3, h4]
    congr 1
    · rw [List.set_eq_take_append_cons_drop, if_pos (by omega)]
    · have h5 := List.take_append_drop p ks
      rw [List.drop_eq_getElem_cons a1] at h5
      have h6 : ks[p]'a1 = key := by rw [← a2, List.getD_eq_getElem?_getD, List.getElem?_eq_getElem a1]; rfl
      rw [h6] at h5
      exact h5.symm
  | false =>
    have h3 : ((ks.zip its).drop p).map (·.1) = ks.drop p := by rw [List.map_drop, zip_fst hl]
    have h4 : ((ks.zip its).drop p).map (·.2) = its.drop p := by rw [List.map_drop, zip_snd' hl]
    have hw : withL key y (ks.zip its) = (ks.zip its).take p ++ (key, y) :: (ks.zip its).drop p := by
      conv => lhs; rw [← List.take_append_drop p (ks.zip its)]
      exact withL_new (zip_low hl hP) (high_no hl hr hP ha)
    rw [hw]
    unfold putT mapT
    rw [ha, if_neg (by simp), List.map_append, List.map_append, List.map_cons, List.map_cons, h1, h2, h3, h4]
    simp
theorem drop_yes (hl : ks.length = its.length) (hr : rising ks = true) (hP : Pos ks key p) (ha : isAt ks key p = true) : dropL key (ks.zip its) = (ks.zip its).take p ++ (ks.zip its).drop (p + 1) := by
  conv => lhs; rw [zip_cut hl ha]
  unfold dropL
  rw [List.filter_append, List.filter_cons]
  rw [List.filter_eq_self.2 (fun q hq => by have := less_ne (zip_low hl hP q hq); simp [this]), List.filter_eq_self.2 (fun q hq => by have := less_ne (high_at hl hr hP ha q hq); simp [Ne.symm this])]
  simp
theorem drop_no (hl : ks.length = its.length) (hr : rising ks = true) (hP : Pos ks key p) (ha : isAt ks key p = false) : dropL key (ks.zip its) = ks.zip its := by
  unfold dropL
  rw [List.filter_eq_self]
  intro q hq
  rw [← List.take_append_drop p (ks.zip its)] at hq
  rcases List.mem_append.1 hq with h | h
  · have := less_ne (zip_low hl hP q h); simp [this]
  · have := less_ne (high_no hl hr hP ha q h); simp [Ne.symm this]
end
theorem ismap_open {x : VT} (h : isMapT x = true) : ∃ its ks, x = .mk 5 0 ⟨#[]⟩ its ks ∧ ks.length = its.length ∧ rising ks = true := by
  obtain ⟨k, i, t, its, ks⟩ := x
  unfold isMapT VT.k at h
  rw [Bool.and_eq_true, decide_eq_true_eq] at h
  obtain ⟨rfl, h⟩ := h
  obtain ⟨rfl, rfl⟩ := map_it h
  exact ⟨its, ks, rfl, (map_wf h).1, (map_wf h).2.1⟩
theorem get_same {x y y' : VT} {key : ByteArray} {b b' : Bool} (h : GetSpec x key y b) (h' : RGetSpec x key y' b') : y = y' ∧ b = b' := by
  rcases h with ⟨h0, rfl, rfl⟩ | ⟨h0, p, hP, hb, hy, hn⟩
  · rcases h' with ⟨_, rfl, rfl⟩ | ⟨h1, _⟩
    · exact ⟨rfl, rfl⟩
    · rw [h0] at h1; cases h1
  · rcases h' with ⟨h1, _⟩ | ⟨_, rfl, rfl⟩
    · rw [h0] at h1; cases h1
    · obtain ⟨its, ks, rfl, hl, hr⟩ := ismap_open h0
      unfold VT.ks VT.its at *
      rw [find_eq hl hr hP]
      cases ha : isAt ks key p with
      | true =>
        rw [ha] at hb
        have := hy hb
        rw [if_pos rfl, hb]
        refine ⟨?_, rfl⟩
        show y = its.getD p default
        rw [List.getD_eq_getElem?_getD, this]; rfl
      | false =>
        rw [ha] at hb
        rw [if_neg (by simp), hb]
        exact ⟨hn hb, rfl⟩
theorem put_same {x y z z' : VT} {key : ByteArray} {r r' : Int} (h : PutSpec x key y z r) (h' : RPutSpec x key y z' r') : z = z' ∧ r = r' := by
  rcases h with ⟨h0, rfl, rfl⟩ | ⟨h0, p, hP, rfl, rfl⟩
  · rcases h' with ⟨_, rfl, rfl⟩ | ⟨h1, _⟩
    · exact ⟨rfl, rfl⟩
    · rw [h0] at h1; cases h1
  · rcases h' with ⟨h1, _⟩ | ⟨_, rfl, rfl⟩
    · rw [h0] at h1; cases h1
    · obtain ⟨its, ks, rfl, hl, hr⟩ := ismap_open h0
      unfold VT.ks VT.its at *
      have e := put_eq hl hr hP y
      exact ⟨by show limT (putT its ks key y p) = limT (mapT (withL key y (ks.zip its))); rw [e], by show limE (putT its ks key y p) = limE (mapT (withL key y (ks.zip its))); rw [e]⟩
theorem drop_same {x z z' : VT} {key : ByteArray} {r r' : Int} (h : DropSpec x key z r) (h' : RDropSpec x key z' r') : z = z' ∧ r = r' := by
  rcases h with ⟨h0, rfl, rfl⟩ | ⟨h0, p, hP, hz⟩
  · rcases h' with ⟨_, rfl, rfl⟩ | ⟨h1, _⟩
    · exact ⟨rfl, rfl⟩
    · rw [h0] at h1; cases h1
  · rcases h' with ⟨h1, _⟩ | ⟨_, h2⟩
    · rw [h0] at h1; cases h1
    · obtain ⟨its, ks, rfl, hl, hr⟩ := ismap_open h0
      unfold VT.ks VT.its VT.k VT.i VT.t at *
      have hzl : (ks.zip its).length = ks.length := by rw [List.length_zip]; omega
      rcases hz with ⟨ha, rfl, rfl⟩ | ⟨ha, rfl, rfl⟩
      · rcases h2 with ⟨_, rfl, rfl⟩ | ⟨h3, _⟩
        · exact ⟨rfl, rfl⟩
        · exact absurd (by rw [drop_no hl hr hP ha]; exact hzl) h3
      · have hd := drop_yes hl hr hP ha
        rcases h2 with ⟨h3, _⟩ | ⟨_, rfl, rfl⟩
        · have h3' : (dropL key (ks.zip its)).length = ks.length := h3
          rw [hd, List.length_append, List.length_take, List.length_drop, hzl] at h3'
          have h4 : p < ks.length := (at_key ha).1
          omega
        · refine ⟨?_, rfl⟩
          show VT.mk 5 0 ⟨#[]⟩ (its.take p ++ its.drop (p + 1)) (ks.take p ++ ks.drop (p + 1)) = mapT (dropL key (ks.zip its))
          rw [hd]
          unfold mapT
          rw [List.map_append, List.map_append, List.map_take, List.map_take, List.map_drop, List.map_drop, zip_fst hl, zip_snd' hl]
end Go.Proofs.Ytidinbeanaifmaa
namespace Go.Proofs.Ytidinbeanaifmaa
open Go.RowKit

theorem stepW_size (key : ByteArray) (x : VT) (s : Bool × List (ByteArray × VT)) (p : ByteArray × VT) :
    sizes ((stepW key x s p).2.map (·.2)) + (if (stepW key x s p).1 = true then 0 else x.size) ≤ sizes (s.2.map (·.2)) + (if s.1 = true then 0 else x.size) + p.2.size := by
  obtain ⟨b, l⟩ := s
  unfold stepW
  cases b <;> (repeat' split) <;> simp_all [sizes_append, sizes] <;> omega
theorem foldW_size (key : ByteArray) (x : VT) : ∀ (l : List (ByteArray × VT)) (s : Bool × List (ByteArray × VT)),
    sizes ((l.foldl (stepW key x) s).2.map (·.2)) + (if (l.foldl (stepW key x) s).1 = true then 0 else x.size) ≤ sizes (s.2.map (·.2)) + (if s.1 = true then 0 else x.size) + sizes (l.map (·.2))
  | [], s => by
    have h : sizes (([] : List (ByteArray × VT)).map (·.2)) = 0 := rfl
    rw [List.foldl_nil, h]
    exact Nat.le_refl _
  | p :: r, s => by
    have h1 := foldW_size key x r (stepW key x s p)
    have h2 := stepW_size key x s p
    rw [List.foldl_cons, List.map_cons, sizes]
    omega
theorem withL_size (key : ByteArray) (x : VT) (l : List (ByteArray × VT)) : sizes ((withL key x l).map (·.2)) ≤ sizes (l.map (·.2)) + x.size := by
  have h := foldW_size key x l (false, [])
  have h0 : sizes (([] : List (ByteArray × VT)).map (·.2)) = 0 := rfl
  have h1 : (if (false : Bool) = true then 0 else x.size) = x.size := by simp
  change _ ≤ sizes (([] : List (ByteArray × VT)).map (·.2)) + (if (false : Bool) = true then 0 else x.size) + _ at h
  rw [h0, h1] at h
  unfold withL endW foldW
  split
  · rename_i hb
    rw [if_pos hb] at h
    omega
  · rename_i hb
    rw [if_neg hb] at h
    rw [List.map_append, sizes_append]
    have h2 : sizes ([(key, x)].map (·.2)) = x.size := by simp [sizes]
    omega
theorem zip_sizes : ∀ (ks : List ByteArray) (its : List VT), sizes ((ks.zip its).map (·.2)) ≤ sizes its
  | [], its => by simp [sizes]
  | _ :: _, [] => by simp
  | k :: ks, x :: its => by
    have := zip_sizes ks its
    rw [List.zip_cons_cons, List.map_cons, sizes, sizes]
    show x.size + _ ≤ _
    omega
theorem len_sizesM : ∀ l : List VT, l.length ≤ sizes l
  | [] => by simp
  | x :: r => by
    have := len_sizesM r
    have := size_pos x
    rw [sizes, List.length_cons]
    omega
/-- what each of the six answers comes to -/
def AnsB (y : VT) (b : Bool) (w : World) (e : Ending) (w' : World) : Prop := ∃ v, e = .returned (.tuple #[v, .bool b]) ∧ Lies w' (Lo w') y v ∧ Below w.heap.size w w'
def AnsE (y : VT) (r : Int) (w : World) (e : Ending) (w' : World) : Prop := ∃ v, e = .returned (.tuple #[v, .int .i64 r]) ∧ Lies w' (Lo w') y v ∧ Below w.heap.size w w'

set_option maxRecDepth 100000 in
set_option maxHeartbeats 16000000 in
theorem ValueMaps_walk (x : VT) (v : Value) (key : ByteArray) (y : VT) (u : Value) (w : World) (hv : Lies w (Lo w) x v) (hx : x.all reachF = true) (hkey : key.size ≤ 9223372036854775807) (hu : Lies w (Lo w) y u) (hy : y.all reachF = true) :
    Calls Try.prog 7 #[v, .string key, u] w (Gives (.bool true) w) := by
  have F1 := Lib.hid (fun (w' : World) (hb : Below w.heap.size w w') => Few_any 1100 (by decide) (by decide) (hv.below hb))
  have F2 := Lib.hid (fun (w' : World) (hb : Below w.heap.size w w') => Few_any 1100 (by decide) (by decide) (hu.below hb))
  have S1 : Hid (decide (0 ≤ x.few 1100) = true → x.size ≤ 1100) := Lib.hid (fun h => by have := few_size (of_decide_eq_true h); omega)
  have S2 : Hid (decide (0 ≤ y.few 1100) = true → y.size ≤ 1100) := Lib.hid (fun h => by have := few_size (of_decide_eq_true h); omega)
  have N1 : Hid (x.size ≤ 1100 → x.its.length ≤ 1000000) := Lib.hid (fun h => by
    obtain ⟨k, i, t, its, ks⟩ := x
    rw [VT.size_mk] at h
    have := len_sizesM its
    show its.length ≤ 1000000
    omega)
  have N2 : Hid (x.size ≤ 1100 → y.size ≤ 1100 → ∀ z, z = mapT (withL key y (x.ks.zip x.its)) → z.size < 4611686018427387904) := Lib.hid (fun h h' z hz => by
    obtain ⟨k, i, t, its, ks⟩ := x
    rw [VT.size_mk] at h
    rw [hz]
    unfold mapT
    rw [VT.size_mk]
    have h1 := withL_size key y (ks.zip its)
    have h2 := zip_sizes ks its
    show 1 + sizes ((withL key y (ks.zip its)).map (·.2)) < _
    omega)
  obtain ⟨gy, gb, C1, C2⟩ : ∃ (gy : VT) (gb : Bool), Hid (∀ w', Below w.heap.size w w' → Calls Try.prog 40 #[v, .string key] w' (fun e W => ∃ y b, GetSpec x key y b ∧ AnsB y b w' e W)) ∧ Hid (∀ w', Below w.heap.size w w' → Calls Try.prog 41 #[v, .string key] w' (fun e W => ∃ y b, RGetSpec x key y b ∧ AnsB y b w' e W)) :=
    ⟨default, false, Lib.hid (fun w' hb => (Get_any key (hv.below hb) hx).mono (fun e W ⟨y, b, h, v, e1, h1, h2⟩ => ⟨y, b, h, v, e1, h1.lies, h2⟩)), Lib.hid (fun w' hb => (refGet_any key (hv.below hb)).mono (fun e W h => h))⟩
  have C3 : Hid (x.size ≤ 1100 → ∀ w', Below w.heap.size w w' → Calls Try.prog 42 #[v, .string key, u] w' (fun e W => ∃ z r, PutSpec x key y z r ∧ AnsE z r w' e W)) :=
    Lib.hid (fun h0 w' hb => (Put_any key (hv.below hb) hx (hu.below hb) hy hkey (N1.out h0)).mono (fun e W ⟨y, b, h, v, e1, h1, h2⟩ => ⟨y, b, h, v, e1, h1.lies, h2⟩))
  have C4 : Hid (x.size ≤ 1100 → y.size ≤ 1100 → ∀ w', Below w.heap.size w w' → Calls Try.prog 43 #[v, .string key, u] w' (fun e W => ∃ z r, RPutSpec x key y z r ∧ AnsE z r w' e W)) :=
    Lib.hid (fun h0 h1 w' hb => (refPut_any key (hv.below hb) (hu.below hb) hkey (N1.out h0) (N2.out h0 h1)).mono (fun e W h => h))
  have C5 : Hid (∀ w', Below w.heap.size w w' → Calls Try.prog 44 #[v, .string key] w' (fun e W => ∃ z r, DropSpec x key z r ∧ AnsE z r w' e W)) :=
    Lib.hid (fun w' hb => (Drop_any key (hv.below hb) hx).mono (fun e W ⟨y, b, h, v, e1, h1, h2⟩ => ⟨y, b, h, v, e1, h1.lies, h2⟩))
  have C6 : Hid (x.size ≤ 1100 → ∀ w', Below w.heap.size w w' → Calls Try.prog 45 #[v, .string key] w' (fun e W => ∃ z r, RDropSpec x key z r ∧ AnsE z r w' e W)) :=
    Lib.hid (fun h0 w' hb => (refDrop_any key (hv.below hb) (N1.out h0)).mono (fun e W h => h))
  obtain ⟨k, i, t, A, n, c, A', n', c', rfl⟩ := hv.formV
  obtain ⟨k1, i1, t1, A1, n1, c1, A1', n1', c1', rfl⟩ := hu.formV
  obtain ⟨w2, hw2⟩ : ∃ w2, w2 = (w.alloc (.cells #[.int .i64 k, .int .i64 i, .string t, .slice A n c, .slice A' n' c'] 26)).alloc (.cells #[.int .i64 k1, .int .i64 i1, .string t1, .slice A1 n1 c1, .slice A1' n1' c1'] 26) := ⟨_, rfl⟩
  have B2 : Hid (Below w.heap.size w w2) := Lib.hid (by rw [hw2]; exact (below_one _ _).trans (Below.alloc (Below.refl _ _) (by simp) _))
  have P2 : Hid (Bk w2 w.heap.size 26 #[.int .i64 k, .int .i64 i, .string t, .slice A n c, .slice A' n' c']) := Lib.hid (by rw [hw2]; exact (Bk.new _ _ _).alloc _)
  have X2 : Hid (Bk w2 (w.heap.size + 1) 26 #[.int .i64 k1, .int .i64 i1, .string t1, .slice A1 n1 c1, .slice A1' n1' c1']) := Lib.hid (by rw [hw2]; have := Bk.new (w.alloc (.cells #[.int .i64 k, .int .i64 i, .string t, .slice A n c, .slice A' n' c'] 26)) 26 #[.int .i64 k1, .int .i64 i1, .string t1, .slice A1 n1 c1, .slice A1' n1' c1']; simpa using this)
  have HW := Lib.hid hw2
  have H1 := Lib.hid (F1.out w2 B2.out)
  clear hw2 hv hu hx hy hkey F1 N1 N2
  generalize decide (0 ≤ x.few 1100) = p at *
  generalize decide (0 ≤ y.few 1100) = q at *
  have e0 := P2.out.cell 0
  have e1 := P2.out.cell 1
  have e2 := P2.out.cell 2
  have e3 := P2.out.cell 3
  have e4 := P2.out.cell 4
  go_enter Try.func7, Try.ntmps7
  go_wp2_with fail
  rw [← HW.out]
  refine (H1.out).mono ?_
  rintro e w3 ⟨rfl, hb⟩
  have P3 := Lib.hid (P2.out.below hb P2.out.lt)
  have X3 := Lib.hid (X2.out.below hb X2.out.lt)
  have B3 := Lib.hid (below_next B2.out hb)
  clear hb e0 e1 e2 e3 e4 P2 X2 B2 H1 HW
  have WK : Hid (∀ W, Calls Try.prog 12 #[] W (Gives (.bool true) W)) := Lib.hid (fun W => works_any W)
  cases p with
  | false =>
    go_wp2_with fail
    refine (WK.out _).mono ?_
    rintro e wz ⟨rfl, hb⟩
    have BZ := Lib.hid (below_next B3.out hb)
    clear hb
    go_wp2
    go_ret
    exact ⟨rfl, BZ.out⟩
  | true =>
    have Z1 := Lib.hid (S1.out rfl)
    have HF2 := Lib.hid (F2.out w3 B3.out)
    clear F2 S1
    have x0 := X3.out.cell 0
    have x1 := X3.out.cell 1
    have x2 := X3.out.cell 2
    have x3 := X3.out.cell 3
    have x4 := X3.out.cell 4
    go_wp2_with fail
    refine (HF2.out).mono ?_
    rintro e w4 ⟨rfl, hb⟩
    have P4 := Lib.hid (P3.out.below hb P3.out.lt)
    have X4 := Lib.hid (X3.out.below hb X3.out.lt)
    have B4 := Lib.hid (below_next B3.out hb)
    clear hb x0 x1 x2 x3 x4 P3 X3 B3 HF2
    cases q with
    | false =>
      go_wp2_with fail
      refine (WK.out _).mono ?_
      rintro e wz ⟨rfl, hb⟩
      have BZ := Lib.hid (below_next B4.out hb)
      clear hb
      go_wp2
      go_ret
      exact ⟨rfl, BZ.out⟩
    | true =>
      have Z2 := Lib.hid (S2.out rfl)
      clear S2
      have HC := Lib.hid (C1.out w4 B4.out)
      have e0 := P4.out.cell 0
      have e1 := P4.out.cell 1
      have e2 := P4.out.cell 2
      have e3 := P4.out.cell 3
      have e4 := P4.out.cell 4
      go_wp2_with fail
      refine (HC.out).mono ?_
      rintro e w5 ⟨ta, ra, sa, va, rfl, la, hb⟩
      obtain ⟨a_0, a_1, a_2, a_3, a_4, a_5, a_6, a_7, a_8, rfl⟩ := la.formV
      obtain ⟨w6, hw6⟩ : ∃ W, W = w5.alloc (.cells #[.int .i64 a_0, .int .i64 a_1, .string a_2, .slice a_3 a_4 a_5, .slice a_6 a_7 a_8] 26) := ⟨_, rfl⟩
      have b12 : Below w5.heap.size w5 w6 := by rw [hw6]; exact below_one _ _
      have HW6 := Lib.hid hw6
      have Ka : Hid (Bk w6 w5.heap.size 26 #[.int .i64 a_0, .int .i64 a_1, .string a_2, .slice a_3 a_4 a_5, .slice a_6 a_7 a_8]) := Lib.hid (by rw [hw6]; exact Bk.new _ _ _)
      have P6 := Lib.hid ((P4.out.below hb P4.out.lt).below b12 (P4.out.below hb P4.out.lt).lt)
      have X6 := Lib.hid ((X4.out.below hb X4.out.lt).below b12 (X4.out.below hb X4.out.lt).lt)
      have B6 := Lib.hid (below_next (below_next B4.out hb) b12)
      have Ma := Lib.hid (la.below b12)
      have Ta := Lib.hid sa
      clear hb b12 hw6 la sa HC e0 e1 e2 e3 e4
      go_upto_region 4 with fail
      rw [← HW6.out]
      have HC := Lib.hid (C2.out w6 B6.out)
      have e0 := P6.out.cell 0
      have e1 := P6.out.cell 1
      have e2 := P6.out.cell 2
      have e3 := P6.out.cell 3
      have e4 := P6.out.cell 4
      go_wp2_with fail
      refine (HC.out).mono ?_
      rintro e w7 ⟨tb, rb, sb, vb, rfl, lb, hb⟩
      obtain ⟨b_0, b_1, b_2, b_3, b_4, b_5, b_6, b_7, b_8, rfl⟩ := lb.formV
      obtain ⟨w8, hw8⟩ : ∃ W, W = w7.alloc (.cells #[.int .i64 b_0, .int .i64 b_1, .string b_2, .slice b_3 b_4 b_5, .slice b_6 b_7 b_8] 26) := ⟨_, rfl⟩
      have b12 : Below w7.heap.size w7 w8 := by rw [hw8]; exact below_one _ _
      have HW8 := Lib.hid hw8
      have Kb : Hid (Bk w8 w7.heap.size 26 #[.int .i64 b_0, .int .i64 b_1, .string b_2, .slice b_3 b_4 b_5, .slice b_6 b_7 b_8]) := Lib.hid (by rw [hw8]; exact Bk.new _ _ _)
      have P8 := Lib.hid ((P6.out.below hb P6.out.lt).below b12 (P6.out.below hb P6.out.lt).lt)
      have X8 := Lib.hid ((X6.out.below hb X6.out.lt).below b12 (X6.out.below hb X6.out.lt).lt)
      have B8 := Lib.hid (below_next (below_next B6.out hb) b12)
      have Ka := Lib.hid ((Ka.out.below hb Ka.out.lt).below b12 (Ka.out.below hb Ka.out.lt).lt)
      have Ma := Lib.hid ((Ma.out.below hb).below b12)
      have Mb := Lib.hid (lb.below b12)
      have Tb := Lib.hid sb
      clear hb b12 hw8 lb sb HC e0 e1 e2 e3 e4
      go_upto_region 5 with fail
      rw [← HW8.out]
      have HC := Lib.hid (C3.out Z1.out w8 B8.out)
      have e0 := P8.out.cell 0
      have e1 := P8.out.cell 1
      have e2 := P8.out.cell 2
      have e3 := P8.out.cell 3
      have e4 := P8.out.cell 4
      have x0 := X8.out.cell 0
      have x1 := X8.out.cell 1
      have x2 := X8.out.cell 2
      have x3 := X8.out.cell 3
      have x4 := X8.out.cell 4
      go_wp2_with fail
      refine (HC.out).mono ?_
      rintro e w9 ⟨tc, rc, sc, vc, rfl, lc, hb⟩
      obtain ⟨c_0, c_1, c_2, c_3, c_4, c_5, c_6, c_7, c_8, rfl⟩ := lc.formV
      obtain ⟨w10, hw10⟩ : ∃ W, W = w9.alloc (.cells #[.int .i64 c_0, .int .i64 c_1, .string c_2, .slice c_3 c_4 c_5, .slice c_6 c_7 c_8] 26) := ⟨_, rfl⟩
      have b12 : Below w9.heap.size w9 w10 := by rw [hw10]; exact below_one _ _
      have HW10 := Lib.hid hw10
      have Kc : Hid (Bk w10 w9.heap.size 26 #[.int .i64 c_0, .int .i64 c_1, .string c_2, .slice c_3 c_4 c_5, .slice c_6 c_7 c_8]) := Lib.hid (by rw [hw10]; exact Bk.new _ _ _)
      have P10 := Lib.hid ((P8.out.below hb P8.out.lt).below b12 (P8.out.below hb P8.out.lt).lt)
      have X10 := Lib.hid ((X8.out.below hb X8.out.lt).below b12 (X8.out.below hb X8.out.lt).lt)
      have B10 := Lib.hid (below_next (below_next B8.out hb) b12)
      have Ka := Lib.hid ((Ka.out.below hb Ka.out.lt).below b12 (Ka.out.below hb Ka.out.lt).lt)
      have Ma := Lib.hid ((Ma.out.below hb).below b12)
      have Kb := Lib.hid ((Kb.out.below hb Kb.out.lt).below b12 (Kb.out.below hb Kb.out.lt).lt)
      have Mb := Lib.hid ((Mb.out.below hb).below b12)
      have Mc := Lib.hid (lc.below b12)
      have Tc := Lib.hid sc
      clear hb b12 hw10 lc sc HC e0 e1 e2 e3 e4 x0 x1 x2 x3 x4
      go_upto_region 6 with fail
      rw [← HW10.out]
      have HC := Lib.hid (C4.out Z1.out Z2.out w10 B10.out)
      have e0 := P10.out.cell 0
      have e1 := P10.out.cell 1
      have e2 := P10.out.cell 2
      have e3 := P10.out.cell 3
      have e4 := P10.out.cell 4
      have x0 := X10.out.cell 0
      have x1 := X10.out.cell 1
      have x2 := X10.out.cell 2
      have x3 := X10.out.cell 3
      have x4 := X10.out.cell 4
      go_wp2_with fail
      refine (HC.out).mono ?_
      rintro e w11 ⟨td, rd, sd, vd, rfl, ld, hb⟩
      obtain ⟨d_0, d_1, d_2, d_3, d_4, d_5, d_6, d_7, d_8, rfl⟩ := ld.formV
      obtain ⟨w12, hw12⟩ : ∃ W, W = w11.alloc (.cells #[.int .i64 d_0, .int .i64 d_1, .string d_2, .slice d_3 d_4 d_5, .slice d_6 d_7 d_8] 26) := ⟨_, rfl⟩
      have b12 : Below w11.heap.size w11 w12 := by rw [hw12]; exact below_one _ _
      have HW12 := Lib.hid hw12
      have Kd : Hid (Bk w12 w11.heap.size 26 #[.int .i64 d_0, .int .i64 d_1, .string d_2, .slice d_3 d_4 d_5, .slice d_6 d_7 d_8]) := Lib.hid (by rw [hw12]; exact Bk.new _ _ _)
      have P12 := Lib.hid ((P10.out.below hb P10.out.lt).below b12 (P10.out.below hb P10.out.lt).lt)
      have X12 := Lib.hid ((X10.out.below hb X10.out.lt).below b12 (X10.out.below hb X10.out.lt).lt)
      have B12 := Lib.hid (below_next (below_next B10.out hb) b12)
      have Ka := Lib.hid ((Ka.out.below hb Ka.out.lt).below b12 (Ka.out.below hb Ka.out.lt).lt)
      have Ma := Lib.hid ((Ma.out.below hb).below b12)
      have Kb := Lib.hid ((Kb.out.below hb Kb.out.lt).below b12 (Kb.out.below hb Kb.out.lt).lt)
      have Mb := Lib.hid ((Mb.out.below hb).below b12)
      have Kc := Lib.hid ((Kc.out.below hb Kc.out.lt).below b12 (Kc.out.below hb Kc.out.lt).lt)
      have Mc := Lib.hid ((Mc.out.below hb).below b12)
      have Md := Lib.hid (ld.below b12)
      have Td := Lib.hid sd
      clear hb b12 hw12 ld sd HC e0 e1 e2 e3 e4 x0 x1 x2 x3 x4
      go_upto_region 7 with fail
      rw [← HW12.out]
      have HC := Lib.hid (C5.out w12 B12.out)
      have e0 := P12.out.cell 0
      have e1 := P12.out.cell 1
      have e2 := P12.out.cell 2
      have e3 := P12.out.cell 3
      have e4 := P12.out.cell 4
      go_wp2_with fail
      refine (HC.out).mono ?_
      rintro e w13 ⟨tg, rg, sg, vg, rfl, lg, hb⟩
      obtain ⟨g_0, g_1, g_2, g_3, g_4, g_5, g_6, g_7, g_8, rfl⟩ := lg.formV
      obtain ⟨w14, hw14⟩ : ∃ W, W = w13.alloc (.cells #[.int .i64 g_0, .int .i64 g_1, .string g_2, .slice g_3 g_4 g_5, .slice g_6 g_7 g_8] 26) := ⟨_, rfl⟩
      have b12 : Below w13.heap.size w13 w14 := by rw [hw14]; exact below_one _ _
      have HW14 := Lib.hid hw14
      have Kg : Hid (Bk w14 w13.heap.size 26 #[.int .i64 g_0, .int .i64 g_1, .string g_2, .slice g_3 g_4 g_5, .slice g_6 g_7 g_8]) := Lib.hid (by rw [hw14]; exact Bk.new _ _ _)
      have P14 := Lib.hid ((P12.out.below hb P12.out.lt).below b12 (P12.out.below hb P12.out.lt).lt)
      have X14 := Lib.hid ((X12.out.below hb X12.out.lt).below b12 (X12.out.below hb X12.out.lt).lt)
      have B14 := Lib.hid (below_next (below_next B12.out hb) b12)
      have Ka := Lib.hid ((Ka.out.below hb Ka.out.lt).below b12 (Ka.out.below hb Ka.out.lt).lt)
      have Ma := Lib.hid ((Ma.out.below hb).below b12)
      have Kb := Lib.hid ((Kb.out.below hb Kb.out.lt).below b12 (Kb.out.below hb Kb.out.lt).lt)
      have Mb := Lib.hid ((Mb.out.below hb).below b12)
      have Kc := Lib.hid ((Kc.out.below hb Kc.out.lt).below b12 (Kc.out.below hb Kc.out.lt).lt)
      have Mc := Lib.hid ((Mc.out.below hb).below b12)
      have Kd := Lib.hid ((Kd.out.below hb Kd.out.lt).below b12 (Kd.out.below hb Kd.out.lt).lt)
      have Md := Lib.hid ((Md.out.below hb).below b12)
      have Mg := Lib.hid (lg.below b12)
      have Tg := Lib.hid sg
      clear hb b12 hw14 lg sg HC e0 e1 e2 e3 e4
      go_upto_region 8 with fail
      rw [← HW14.out]
      have HC := Lib.hid (C6.out Z1.out w14 B14.out)
      have e0 := P14.out.cell 0
      have e1 := P14.out.cell 1
      have e2 := P14.out.cell 2
      have e3 := P14.out.cell 3
      have e4 := P14.out.cell 4
      go_wp2_with fail
      refine (HC.out).mono ?_
      rintro e w15 ⟨th, rh, sh, vh, rfl, lh, hb⟩
      obtain ⟨h_0, h_1, h_2, h_3, h_4, h_5, h_6, h_7, h_8, rfl⟩ := lh.formV
      obtain ⟨w16, hw16⟩ : ∃ W, W = w15.alloc (.cells #[.int .i64 h_0, .int .i64 h_1, .string h_2, .slice h_3 h_4 h_5, .slice h_6 h_7 h_8] 26) := ⟨_, rfl⟩
      have b12 : Below w15.heap.size w15 w16 := by rw [hw16]; exact below_one _ _
      have HW16 := Lib.hid hw16
      have Kh : Hid (Bk w16 w15.heap.size 26 #[.int .i64 h_0, .int .i64 h_1, .string h_2, .slice h_3 h_4 h_5, .slice h_6 h_7 h_8]) := Lib.hid (by rw [hw16]; exact Bk.new _ _ _)
      have P16 := Lib.hid ((P14.out.below hb P14.out.lt).below b12 (P14.out.below hb P14.out.lt).lt)
      have X16 := Lib.hid ((X14.out.below hb X14.out.lt).below b12 (X14.out.below hb X14.out.lt).lt)
      have B16 := Lib.hid (below_next (below_next B14.out hb) b12)
      have Ka := Lib.hid ((Ka.out.below hb Ka.out.lt).below b12 (Ka.out.below hb Ka.out.lt).lt)
      have Ma := Lib.hid ((Ma.out.below hb).below b12)
      have Kb := Lib.hid ((Kb.out.below hb Kb.out.lt).below b12 (Kb.out.below hb Kb.out.lt).lt)
      have Mb := Lib.hid ((Mb.out.below hb).below b12)
      have Kc := Lib.hid ((Kc.out.below hb Kc.out.lt).below b12 (Kc.out.below hb Kc.out.lt).lt)
      have Mc := Lib.hid ((Mc.out.below hb).below b12)
      have Kd := Lib.hid ((Kd.out.below hb Kd.out.lt).below b12 (Kd.out.below hb Kd.out.lt).lt)
      have Md := Lib.hid ((Md.out.below hb).below b12)
      have Kg := Lib.hid ((Kg.out.below hb Kg.out.lt).below b12 (Kg.out.below hb Kg.out.lt).lt)
      have Mg := Lib.hid ((Mg.out.below hb).below b12)
      have Mh := Lib.hid (lh.below b12)
      have Th := Lib.hid sh
      clear hb b12 hw16 lh sh HC e0 e1 e2 e3 e4
      go_upto_region 9 with fail
      rw [← HW16.out]
      obtain ⟨hab, hrab⟩ := get_same Ta.out Tb.out
      subst hab hrab
      obtain ⟨hcd, hrcd⟩ := put_same Tc.out Td.out
      subst hcd hrcd
      obtain ⟨hgh, hrgh⟩ := drop_same Tg.out Th.out
      subst hgh hrgh
      have SMa : Hid (∀ W, Below w16.heap.size w16 W → Calls Try.prog 15 #[.agg #[.int .i64 a_0, .int .i64 a_1, .string a_2, .slice a_3 a_4 a_5, .slice a_6 a_7 a_8], .agg #[.int .i64 b_0, .int .i64 b_1, .string b_2, .slice b_3 b_4 b_5, .slice b_6 b_7 b_8]] W (Gives (.bool true) W)) := Lib.hid (fun W hb => by have h := refSame_any (Ma.out.below hb) (Mb.out.below hb); rwa [eqB_true rfl] at h)
      have SMc : Hid (∀ W, Below w16.heap.size w16 W → Calls Try.prog 15 #[.agg #[.int .i64 c_0, .int .i64 c_1, .string c_2, .slice c_3 c_4 c_5, .slice c_6 c_7 c_8], .agg #[.int .i64 d_0, .int .i64 d_1, .string d_2, .slice d_3 d_4 d_5, .slice d_6 d_7 d_8]] W (Gives (.bool true) W)) := Lib.hid (fun W hb => by have h := refSame_any (Mc.out.below hb) (Md.out.below hb); rwa [eqB_true rfl] at h)
      have SMg : Hid (∀ W, Below w16.heap.size w16 W → Calls Try.prog 15 #[.agg #[.int .i64 g_0, .int .i64 g_1, .string g_2, .slice g_3 g_4 g_5, .slice g_6 g_7 g_8], .agg #[.int .i64 h_0, .int .i64 h_1, .string h_2, .slice h_3 h_4 h_5, .slice h_6 h_7 h_8]] W (Gives (.bool true) W)) := Lib.hid (fun W hb => by have h := refSame_any (Mg.out.below hb) (Mh.out.below hb); rwa [eqB_true rfl] at h)
      clear Ma Mb Mc Md Mg Mh Ta Tb Tc Td Tg Th C1 C2 C3 C4 C5 C6
      have R16 : Hid (Below w16.heap.size w16 w16) := Lib.hid (Below.refl _ _)
      have f0 := Ka.out.cell 0
      have f1 := Ka.out.cell 1
      have f2 := Ka.out.cell 2
      have f3 := Ka.out.cell 3
      have f4 := Ka.out.cell 4
      have g0 := Kb.out.cell 0
      have g1 := Kb.out.cell 1
      have g2 := Kb.out.cell 2
      have g3 := Kb.out.cell 3
      have g4 := Kb.out.cell 4
      have HC := Lib.hid (SMa.out w16 R16.out)
      go_wp2_with fail
      refine (HC.out).mono ?_
      rintro e w17 ⟨rfl, hb⟩
      have R17 : Hid (Below w16.heap.size w16 w17) := Lib.hid (below_next R16.out hb)
      have Ka := Lib.hid (Ka.out.below hb Ka.out.lt)
      have Kb := Lib.hid (Kb.out.below hb Kb.out.lt)
      have Kc := Lib.hid (Kc.out.below hb Kc.out.lt)
      have Kd := Lib.hid (Kd.out.below hb Kd.out.lt)
      have Kg := Lib.hid (Kg.out.below hb Kg.out.lt)
      have Kh := Lib.hid (Kh.out.below hb Kh.out.lt)
      clear hb HC f0 f1 f2 f3 f4 g0 g1 g2 g3 g4
      have f0 := Kc.out.cell 0
      have f1 := Kc.out.cell 1
      have f2 := Kc.out.cell 2
      have f3 := Kc.out.cell 3
      have f4 := Kc.out.cell 4
      have g0 := Kd.out.cell 0
      have g1 := Kd.out.cell 1
      have g2 := Kd.out.cell 2
      have g3 := Kd.out.cell 3
      have g4 := Kd.out.cell 4
      have HC := Lib.hid (SMc.out w17 R17.out)
      go_wp2_with fail
      refine (HC.out).mono ?_
      rintro e w18 ⟨rfl, hb⟩
      have R18 : Hid (Below w16.heap.size w16 w18) := Lib.hid (below_next R17.out hb)
      have Ka := Lib.hid (Ka.out.below hb Ka.out.lt)
      have Kb := Lib.hid (Kb.out.below hb Kb.out.lt)
      have Kc := Lib.hid (Kc.out.below hb Kc.out.lt)
      have Kd := Lib.hid (Kd.out.below hb Kd.out.lt)
      have Kg := Lib.hid (Kg.out.below hb Kg.out.lt)
      have Kh := Lib.hid (Kh.out.below hb Kh.out.lt)
      clear hb HC f0 f1 f2 f3 f4 g0 g1 g2 g3 g4
      have f0 := Kg.out.cell 0
      have f1 := Kg.out.cell 1
      have f2 := Kg.out.cell 2
      have f3 := Kg.out.cell 3
      have f4 := Kg.out.cell 4
      have g0 := Kh.out.cell 0
      have g1 := Kh.out.cell 1
      have g2 := Kh.out.cell 2
      have g3 := Kh.out.cell 3
      have g4 := Kh.out.cell 4
      have HC := Lib.hid (SMg.out w18 R18.out)
      go_wp2_with fail
      refine (HC.out).mono ?_
      rintro e w19 ⟨rfl, hb⟩
      have R19 : Hid (Below w16.heap.size w16 w19) := Lib.hid (below_next R18.out hb)
      have Ka := Lib.hid (Ka.out.below hb Ka.out.lt)
      have Kb := Lib.hid (Kb.out.below hb Kb.out.lt)
      have Kc := Lib.hid (Kc.out.below hb Kc.out.lt)
      have Kd := Lib.hid (Kd.out.below hb Kd.out.lt)
      have Kg := Lib.hid (Kg.out.below hb Kg.out.lt)
      have Kh := Lib.hid (Kh.out.below hb Kh.out.lt)
      clear hb HC f0 f1 f2 f3 f4 g0 g1 g2 g3 g4
      have BL := Lib.hid (below_next B16.out R19.out)
      go_wp2_with fail
      refine (WK.out _).mono ?_
      rintro e wz ⟨rfl, hb⟩
      have BZ := Lib.hid (below_next BL.out hb)
      clear hb
      go_wp2
      go_ret
      exact ⟨rfl, BZ.out⟩
end Go.Proofs.Ytidinbeanaifmaa
namespace Go.Proofs.Ytidinbeanaifmaa.valueMaps
open Go.ChangeShapes Go.WideShapes Go.ChangeAt Go.RowKit
open Go.ChangeMaps (open_string)
set_option linter.unusedVariables false

theorem own : ownKnob Try.prog.godebug = none := by kernel_rfl
theorem laidOut : laidOutB Try.prog = true := by kernel_rfl

set_option maxRecDepth 100000 in
theorem lifted (os : Os) (started : os.Started) (H : Type) (enc : TypeId × Value → H) :
    ReturnsInHanded {} Try.checked os 7 .any (Rows.valueMapsSpec.pre6 enc Try.prog Try.f7 Rows.valueMapsRow.domain false) (Rows.valueMapsSpec.post enc Try.prog Try.f7 false true false false) := by
  refine returnsInHanded_of_change_sized (C := Try.checked) own started (by kernel_rfl) Try.func7
    (ChangeSpec.witness6 (enc := enc) (C := Try.checked) false ⟨#[], #[.agg #[.int .i64 0, .int .i64 0, .string ByteArray.empty, .slice none 0 0, .slice none 0 0], .string ByteArray.empty, .agg #[.int .i64 0, .int .i64 0, .string ByteArray.empty, .slice none 0 0, .slice none 0 0]], []⟩ 8 (by kernel_rfl) (by kernel_rfl) (by kernel_rfl) (by kernel_rfl)) ?_
  intro W base args ds gs before hval0 hW hcnd hwt _
  have hval : ∀ (j : Nat) t v, Try.f7.params[j]? = some t → args[j]? = some v → Value.okWide Try.prog W .any base t v := hval0
  have hW' := hW
  obtain ⟨p, q, hA0, hV, rfl, hfz, hnd⟩ := hW
  have hA : DataW.TrodAll enc Try.prog W 0 (fun _ => true) true Try.f7.params.toList args.toList ds p := hA0
  rw [Try.params7] at hA hval
  obtain ⟨v0, vs0, d0, ds0, p0, q0, hargs, rfl, rfl, h0, r0⟩ := trodAll_cons hA
  obtain ⟨v1, vs1, d1, ds1, p1, q1, rfl, rfl, rfl, h1, r1⟩ := trodAll_cons r0
  obtain ⟨v2, vs2, d2, ds2, p2, q2, rfl, rfl, rfl, h2, r2⟩ := trodAll_cons r1
  obtain ⟨rfl, rfl, rfl⟩ := trodAll_nil r2
  obtain rfl : args = #[v0, v1, v2] := by cases args; simp_all
  obtain ⟨rfl, rfl⟩ := trodVars_none hV
  have k0 := h0
  have lt0 : ∀ x ∈ p0, x.block < W.heap.size := by obtain ⟨m, hm⟩ := k0; exact DataW.trod_lt m _ _ _ hm
  obtain ⟨x0, m0, n0⟩ := opens.value_reach (hval 0 26 v0 rfl rfl) h0 (fun n hn => of_decide_eq_true ((List.all_eq_true.1 hwt) n (DataW.weights_mem_each (j := 0) rfl rfl n hn)))
  have k1 := h1
  have lt1 : ∀ x ∈ p1, x.block < W.heap.size := by obtain ⟨m, hm⟩ := k1; exact DataW.trod_lt m _ _ _ hm
  obtain ⟨a1, rfl, _, _, w1⟩ := open_string Try.underlying9 (hval 1 9 v1 rfl rfl) h1
  have k2 := h2
  have lt2 : ∀ x ∈ p2, x.block < W.heap.size := by obtain ⟨m, hm⟩ := k2; exact DataW.trod_lt m _ _ _ hm
  obtain ⟨x2, m2, n2⟩ := opens.value_reach (hval 2 26 v2 rfl rfl) h2 (fun n hn => of_decide_eq_true ((List.all_eq_true.1 hwt) n (DataW.weights_mem_each (j := 2) rfl rfl n hn)))
  clear hA0 hval0
  refine (ValueMaps_walk x0 v0 a1 x2 v2 W m0 n0 w1 m2 n2).mono fun e W' ⟨he, bel⟩ => ?_
  subst he
  exact ⟨_, rfl, _, _, _, [], _, [], hW', trodAll_mk1 (shut_bool Try.underlying4 _), (trodAll_cons_mk (Below.trod laidOut (by kernel_rfl) (of_decide_eq_true (by kernel_rfl)) k0 bel lt0) (trodAll_cons_mk (Below.trod laidOut (by kernel_rfl) (of_decide_eq_true (by kernel_rfl)) k1 bel lt1) (trodAll_cons_mk (Below.trod laidOut (by kernel_rfl) (of_decide_eq_true (by kernel_rfl)) k2 bel lt2) (trodAll_mk0)))), rfl, bel.frame _, fun h => by cases h⟩

theorem over : Rows.valueMapsRow.holds Try.pinned (OpenSpec.ofChange Rows.valueMapsSpec) :=
  OpenClaim.holds_of_wide 7 Try.f7 rfl rfl rfl rfl rfl rfl rfl ⟨rfl, rfl, rfl, rfl, rfl⟩ rfl rfl rfl rfl rfl (by kernel_rfl) Try.func7 (by kernel_rfl)
    (of_decide_eq_true (by kernel_rfl)) (by unfold Func.isWrapper; first | (rw [if_pos (by decide +kernel)]; kernel_rfl) | (rw [if_neg (by decide +kernel)]; exact ⟨rfl, rfl⟩))
    (fun os started H enc _ => lifted os started H enc)

theorem proved : Rows.ValueMapsSaid := over
end Go.Proofs.Ytidinbeanaifmaa.valueMaps
