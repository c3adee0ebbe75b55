/-
  strconv.Atoi at any string; the parser's integer.
-/
import Derived.Test.YtlgmhhimbabkjaaGreatDoorTp
import Derived.Test.YtlgmhhimbabkjaaGreatDoorSh
import Derived.Deep.RegionLaw
import Derived.Deep.CutBlock
import Derived.Deep.LoopGhost
namespace Go.Proofs.YtlgmhhimbabkjaaGreatDoor
open Go.RowKit

/-- the library's two error variables hold errors, and p is none of them -/
def Ev (w : World) (p : Nat) : Prop := (∃ a b, w.cell? ⟨2, 0, none⟩ = some (.iface a b)) ∧ (∃ a b, w.cell? ⟨3, 0, none⟩ = some (.iface a b)) ∧ p ≠ 2 ∧ p ≠ 3
theorem Ev.frs {w w' : World} {p : Nat} {S : Nat → Prop} (h : Ev w p) (f : FrS S w w') (hs : ∀ b, S b → b ≠ 2 ∧ b ≠ 3) : Ev w' p := by
  obtain ⟨⟨a, b, h1⟩, ⟨c, d, h2⟩, h3, h4⟩ := h
  refine ⟨⟨a, b, ?_⟩, ⟨c, d, ?_⟩, h3, h4⟩
  · rw [f.cell (World.block_lt_of_cell? w _ h1) (fun e => (hs _ e).1 rfl)]; exact h1
  · rw [f.cell (World.block_lt_of_cell? w _ h2) (fun e => (hs _ e).2 rfl)]; exact h2
theorem Ev.one {w w' : World} {p : Nat} (h : Ev w p) (f : FrS (One p) w w') : Ev w' p := h.frs f (fun b e => by rw [show b = p from e]; exact ⟨h.2.2.1, h.2.2.2⟩)
theorem Ev.dr {w w' : World} {p : Nat} (h : Ev w p) (f : Dr w w') : Ev w' p := h.one f.frs

/-- Atoi's end as one pair: the number (or what stands beside an error), the error -/
def AtoiP (l : List UInt8) (z : Int) (ev : Value) : Prop := (Lib.atoiAll l = .ok z ∧ ev = .nilIface) ∨ ((∀ x, Lib.atoiAll l ≠ .ok x) ∧ ∃ T N, ev = .iface T (.pointer (some ⟨N, 0, none⟩)))
theorem atoi_any {w : World} {p : Nat} (t : ByteArray) (ht : t.size ≤ 1000000) (hE : Ev w p) :
    Calls Tryz.prog 77 #[.string t] w fun e w' => Below w.heap.size w w' ∧ ∃ z ev, AtoiP t.data.toList z ev ∧ e = .returned (.tuple #[.int .i64 z, ev]) := by
  obtain ⟨⟨a, b, h1⟩, ⟨c, d, h2⟩, _, _⟩ := hE
  unfold AtoiP
  cases hA : Lib.atoiAll t.data.toList with
  | ok v => exact (Tryz.strconv_Atoi_ok t (by omega) v hA w).mono fun e w' ⟨he, hw⟩ => ⟨by
      rcases hw with rfl | ⟨x, rfl⟩
      · exact Below.refl _ _
      · exact Lib.bytesWorld_below _ _ _, v, _, .inl ⟨rfl, rfl⟩, he⟩
  | range => exact (Tryz.strconv_Atoi_range t (by omega) hA _ w h2 (.inr ⟨_, _, rfl⟩)).mono fun e w' ⟨N, he, _, _, hb⟩ => ⟨hb, _, _, .inr ⟨fun v e => (by cases e), _, N, rfl⟩, he⟩
  | _ => exact (Tryz.strconv_Atoi_syntax t (by omega) (hA.trans rfl) _ w h1 (.inr ⟨_, _, rfl⟩)).mono fun e w' ⟨N, he, _, _, hb⟩ => ⟨hb, _, _, .inr ⟨fun v e => (by cases e), _, N, rfl⟩, he⟩

section
variable {w : World} {p : Nat} {s : ByteArray} {i n : Nat}
def intV (v : Int) : Value := .agg #[.int .i64 2, .int .i64 v, .string ⟨#[]⟩, .slice none 0 0, .slice none 0 0]
theorem numE_ok {l : List UInt8} {a j : Nat} {v : Int} (h : Lib.atoiAll ((l.drop a).take (j - a)) = .ok v) : numE l a j = .ok v j := by
  unfold numE
  rw [h]
theorem numE_no {l : List UInt8} {a j : Nat} (h : ∀ v, Lib.atoiAll ((l.drop a).take (j - a)) ≠ .ok v) : numE l a j = .err a 14 := by
  unfold numE
  split
  · rename_i v hv; exact absurd hv (h v)
  · rfl
theorem cut_list (s : ByteArray) (a j : Nat) : (s.extract a j).data.toList = (s.data.toList.drop a).take (j - a) := by
  rw [ByteArray.data_extract, Array.toList_extract]

theorem intP_45 {l : List UInt8} {c : UInt8} {i : Nat} (h : c = 45) : intP l c i = (tkP dig1 l i).bind fun _ j => numE l (i - 1) (run dig l j) := by subst h; rfl
theorem intP_48 {l : List UInt8} {c : UInt8} {i : Nat} (h : c = 48) (hd : isD l i = true) : intP l c i = .err i 3 := by
  subst h
  unfold intP
  rw [if_neg (by decide), if_pos ⟨rfl, hd⟩]
theorem intP_else {l : List UInt8} {c : UInt8} {i : Nat} (h : c ≠ 45) (hd : c = 48 → isD l i = false) : intP l c i = numE l (i - 1) (run dig l i) := by
  unfold intP
  rw [if_neg h, if_neg]
  rintro ⟨h1, h2⟩
  have := hd h1
  unfold isD at this
  rw [this] at h2
  cases h2

set_option maxRecDepth 100000 in
set_option maxHeartbeats 4000000 in
theorem integer_any (c : UInt8) (h : Ps w p s i n) (hi1 : 1 ≤ i) (hE : Ev w p) :
    Calls Tryz.prog 49 #[.pointer (some ⟨p, 0, none⟩), .int .u8 (c.toNat : Int)] w (Reads (intP s.data.toList c i) intV p s n w) := by
  have HP0 := Lib.hid h
  have H2 := h.2.2.1
  have Hi := h.2.1
  have hsub : IntKind.i64.wrap ((i : Int) - 1) = ((i - 1 : Nat) : Int) := by rw [IntKind.wrap_i64]; omega
  have HE0 := Lib.hid hE
  clear h hE
  go_enter Tryz.func49, Tryz.ntmps49
  go_upto_region 1 with (fail)
  obtain ⟨w1, hw1⟩ : ∃ w1, w1 = w.alloc (.cells #[.int .i64 0, .int .i64 0, .string ⟨#[]⟩, .slice none 0 0, .slice none 0 0] 25) := ⟨_, rfl⟩
  have HQ : Hid (Bk w1 w.heap.size 25 #[.int .i64 0, .int .i64 0, .string ⟨#[]⟩, .slice none 0 0, .slice none 0 0]) := Lib.hid (by rw [hw1]; exact Bk.new _ _ _)
  have HF1 : Hid (FrS (One p) w w1) := Lib.hid (by rw [hw1]; exact FrS.of_below ((Below.refl _ _).alloc (Nat.le_refl _) _))
  have HP : Hid (Ps w1 p s i n) := Lib.hid ⟨by rw [hw1]; exact HP0.out.1.alloc _, HP0.out.2⟩
  have HEV := Lib.hid (HE0.out.one HF1.out)
  have NQ : Hid (w.heap.size ≠ p) := Lib.hid (by have := HP0.out.1.lt; omega)
  rw [← hw1]
  clear hw1
  have c1 := HP.out.1.cell 1
  by_cases h45 : c = 45
  · have ht : ((c.toNat : Int) == 45) = true := by rw [h45]; rfl
    have H45 := Lib.hid h45
    clear h45
    go_wp2_with fail
    refine (take_any HP.out set_dig1).mono ?_
    rintro _ w2 (⟨y, j0, hr, rfl, HPj, HFj⟩ | ⟨y, e, hr, rfl, hf⟩)
    · have HB := Lib.hid HPj.out.2.1
      have hgt : i - 1 ≤ j0 := by have := (tkP_in hr.out).2.1; omega
      have HE : Hid (intP s.data.toList c i = numE s.data.toList (i - 1) (run dig s.data.toList j0)) := Lib.hid (by rw [intP_45 H45.out, hr.out]; rfl)
      clear hr c1 ht
      go_wp2_with fail
      go_loopg [] (s.size - j0) (fun gh wr => ∃ j, j0 ≤ j ∧ j ≤ s.size ∧ gh = s.size - j ∧ Hid (Ps wr p s j n) ∧ Hid (FrS (One p) w1 wr) ∧ Hid (run dig s.data.toList j = run dig s.data.toList j0))
      case atStart => exact ⟨j0, Nat.le_refl _, HB.out, rfl, HPj, HFj, Lib.hid rfl⟩
      case round =>
        obtain ⟨j, hj0, hj, rfl, HJ, HF, HR⟩ := hrel
        go_wp2_with fail
        refine (atDigit_any HJ.out).mono ?_
        rintro _ w3 ⟨rfl, hd⟩
        have HJ3 := Lib.hid (HJ.out.dr hd)
        have HF3 := Lib.hid (HF.out.trans hd.frs)
        clear hd
        cases hb : isD s.data.toList j with
        | true =>
          have HJL : Hid (j < s.size ∧ run dig s.data.toList (j + 1) = run dig s.data.toList j0) := Lib.hid (by
            unfold isD at hb
            cases hx : s.data.toList[j]? with
            | none => rw [hx] at hb; cases hb
            | some x => rw [hx] at hb; exact ⟨at_lt hx, (run_on hx hb).symm.trans HR.out⟩)
          have hjl := HJL.out.1
          have c1 := HJ3.out.1.cell 1
          have fz := HJ3.out.1.frozen 1
          have HP4 := Lib.hid (HJ3.out.to (j + 1) hjl)
          have HF4 := Lib.hid (HF3.out.trans (FrS.one w3 p 1 (.int .i64 ((j + 1 : Nat) : Int))))
          clear hb
          go_wp2
          go_roundg (s.size - (j + 1))
          case measure => omega
          case rel => exact ⟨j + 1, by omega, hjl, rfl, HP4, HF4, Lib.hid HJL.out.2⟩
        | false =>
          have HJE : Hid (run dig s.data.toList j0 = j) := Lib.hid (by
            rw [← HR.out]
            unfold isD at hb
            cases hx : s.data.toList[j]? with
            | none => exact run_end (List.getElem?_eq_none_iff.1 hx)
            | some x => rw [hx] at hb; exact run_off hx hb)
          have HEV3 := Lib.hid (HEV.out.one HF3.out)
          have c0 := HJ3.out.1.cell 0
          have c1 := HJ3.out.1.cell 1
          have hij : i - 1 ≤ j := by omega
          have HAT := Lib.hid (fun (W : World) (hd : Dr w3 W) => atoi_any (w := W) (p := p) (s.extract (i - 1) j) (by rw [ByteArray.size_extract]; omega) (HEV3.out.dr hd))
          have HCL := Lib.hid (cut_list s (i - 1) j)
          clear hb
          go_wp2_with fail
          go_region_law (first
            | (go_simp; go_at_call 77; refine (HAT.out _ (by first | exact Dr.drew _ | exact Dr.refl _)).mono ?_; rintro _ w4 ⟨hbw, z, ev, hev, rfl⟩))
          all_goals (
            unfold AtoiP at hev
            rcases hev with ⟨hv, rfl⟩ | ⟨hv, Te, Ne, rfl⟩
            · rw [HCL.out] at hv
              have HRE : Hid (intP s.data.toList c i = .ok z j) := Lib.hid (by rw [HE.out, HJE.out]; exact numE_ok hv)
              have HF4 : Hid (FrS (One p) w1 w4) := Lib.hid (HF3.out.trans (FrS.of_below (w := w3) ⟨hbw.os, hbw.tape, hbw.output, hbw.size, hbw.block⟩))
              have HP4 : Hid (Ps w4 p s j n) := Lib.hid (HJ3.out.frs (S := fun _ => False) (FrS.of_below (w := w3) ⟨hbw.os, hbw.tape, hbw.output, hbw.size, hbw.block⟩) (fun h => h))
              clear hbw hv c0 c1
              go_wp2_with fail
              refine (require_any _ _ (i - 1) 14 _).mono ?_
              rintro _ _ (⟨hb, rfl, rfl⟩ | ⟨hb, rfl, rfl⟩)
              · go_wp2_with fail
                refine (Int_any z _).mono ?_
                rintro _ w5 ⟨rfl, hb5⟩
                have HF5 : Hid (FrS (One p) w1 w5) := Lib.hid (HF4.out.trans (FrS.of_below hb5))
                have HP5 : Hid (Ps w5 p s j n) := Lib.hid (HP4.out.frs (S := fun _ => False) (FrS.of_below hb5) (fun h => h))
                have HQ5 := Lib.hid (HF5.out.bk HQ.out (fun e => NQ.out e))
                have d0 := HQ5.out.cell 0
                have d1 := HQ5.out.cell 1
                have d2 := HQ5.out.cell 2
                have d3 := HQ5.out.cell 3
                have d4 := HQ5.out.cell 4
                have f0 := HQ5.out.frozen 0
                have f1 := HQ5.out.frozen 1
                have f2 := HQ5.out.frozen 2
                have f3 := HQ5.out.frozen 3
                have f4 := HQ5.out.frozen 4
                clear hb hb5
                go_wp2
                obtain ⟨wf, hwf⟩ : ∃ wf, wf = put5 w5 w.heap.size 0 (.int .i64 2) (.int .i64 z) (.string ⟨#[]⟩) (.slice none 0 0) (.slice none 0 0) := ⟨_, rfl⟩
                have QF : Hid (Bk wf w.heap.size 25 #[.int .i64 2, .int .i64 z, .string ⟨#[]⟩, .slice none 0 0, .slice none 0 0]) := Lib.hid (by rw [hwf]; exact put5_bk HQ5.out)
                have PF : Hid (Ps wf p s j n) := Lib.hid (by rw [hwf]; exact HP5.out.bk (put5_bk_far HP5.out.1 (Ne.symm NQ.out)))
                have FF : Hid (FrS (One p) w wf) := Lib.hid (by rw [hwf]; exact frs_put5 (HF1.out.trans HF5.out) (Nat.le_refl _))
                change bodyPost _ _ _ _ _ (put5 w5 w.heap.size 0 (.int .i64 2) (.int .i64 z) (.string ⟨#[]⟩) (.slice none 0 0) (.slice none 0 0))
                rw [← hwf]
                refine bodyPost_ret (results_cell_row rfl _ _ w.heap.size 25 _ (0, 0) _ rfl QF.out Tryz.underlying25 rfl (by kernel_rfl)) rfl ?_
                exact .inl ⟨z, j, HRE, rfl, PF, FF⟩
              · cases hb
            · rw [HCL.out] at hv
              have HRE : Hid (intP s.data.toList c i = .err (i - 1) 14) := Lib.hid (by rw [HE.out, HJE.out]; exact numE_no hv)
              have HF4 : Hid (FrS (One p) w1 w4) := Lib.hid (HF3.out.trans (FrS.of_below (w := w3) ⟨hbw.os, hbw.tape, hbw.output, hbw.size, hbw.block⟩))
              clear hbw hv c0 c1
              go_wp2_with fail
              refine (require_any _ _ (i - 1) 14 _).mono ?_
              rintro _ _ (⟨hb, rfl, rfl⟩ | ⟨hb, rfl, rfl⟩)
              · cases hb
              · exact ⟨rfl, .inr ⟨_, _, HRE, rfl, Lib.hid (HF1.out.trans HF4.out)⟩⟩)
    · exact ⟨rfl, .inr ⟨y, e, Lib.hid (by rw [intP_45 H45.out, hr.out]; rfl), rfl, Lib.hid (HF1.out.trans hf.out)⟩⟩
  · have ht : ((c.toNat : Int) == 45) = false := by
      rw [beq_eq_false_iff_ne]
      intro e
      exact h45 (UInt8.toNat_inj.1 (by show c.toNat = 45; omega))
    have H45 := Lib.hid h45
    clear h45
    by_cases h48 : c = 48
    · have ht2 : ((c.toNat : Int) == 48) = true := by rw [h48]; rfl
      have H48 := Lib.hid h48
      clear h48
      go_wp2_with fail
      obtain ⟨b, hb⟩ : ∃ b, isD s.data.toList i = b := ⟨_, rfl⟩
      have HD := Lib.hid (fun (W : World) (hd : Dr w1 W) => atDigit_any (HP.out.dr hd))
      rw [hb] at HD
      have HBb := Lib.hid hb
      clear hb
      cases b with
      | true =>
        go_region_law (first
          | (go_simp; go_at_call 76; refine (HD.out _ (by first | exact Dr.refl _ | exact Dr.drew _)).mono ?_; rintro _ wA ⟨rfl, hdA⟩; have hdB : Dr w1 wA := (by first | exact hdA | exact (Dr.drew _).trans hdA); have kA := (hdB.cell 1).trans c1)
          | (go_simp; go_at_call 26; refine dies_law (.tuple #[]) wA (require_no _ i 3 _) (by rintro _ _ ⟨rfl, rfl⟩; exact ⟨rfl, .inr ⟨i, 3, Lib.hid (intP_48 H48.out HBb.out), rfl, Lib.hid (HF1.out.trans hdB.frs)⟩⟩) ?_; intro HFalse))
        all_goals exact HFalse.out.elim
      | false =>
        go_region_law (first
          | (go_simp; go_at_call 76; refine (HD.out _ (by first | exact Dr.refl _ | exact Dr.drew _)).mono ?_; rintro _ wA ⟨rfl, hdA⟩; have hdB : Dr w1 wA := (by first | exact hdA | exact (Dr.drew _).trans hdA); have kA := (hdB.cell 1).trans c1)
          | (go_simp; go_at_call 26; refine (require_yes _ i 3 _).mono ?_; rintro _ _ ⟨rfl, rfl⟩))
        all_goals (
          obtain ⟨j0, hj0⟩ : ∃ j0, j0 = i := ⟨_, rfl⟩
          have HE : Hid (intP s.data.toList c i = numE s.data.toList (i - 1) (run dig s.data.toList j0)) := Lib.hid (by rw [hj0]; exact intP_else H45.out (fun _ => HBb.out))
          have hgt : i - 1 ≤ j0 := by omega
          have HB : Hid (j0 ≤ s.size) := Lib.hid (by omega)
          have HPj : Hid (Ps wA p s j0 n) := Lib.hid (by rw [hj0]; exact HP.out.dr hdB)
          have HFj : Hid (FrS (One p) w1 wA) := Lib.hid hdB.frs
          clear hj0 kA hdA hdB
          go_wp2_with fail
          clear c1 ht ht2
          go_loopg [] (s.size - j0) (fun gh wr => ∃ j, j0 ≤ j ∧ j ≤ s.size ∧ gh = s.size - j ∧ Hid (Ps wr p s j n) ∧ Hid (FrS (One p) w1 wr) ∧ Hid (run dig s.data.toList j = run dig s.data.toList j0))
          case atStart => exact ⟨j0, Nat.le_refl _, HB.out, rfl, HPj, HFj, Lib.hid rfl⟩
          case round =>
            obtain ⟨j, hj0, hj, rfl, HJ, HF, HR⟩ := hrel
            go_wp2_with fail
            refine (atDigit_any HJ.out).mono ?_
            rintro _ w3 ⟨rfl, hd⟩
            have HJ3 := Lib.hid (HJ.out.dr hd)
            have HF3 := Lib.hid (HF.out.trans hd.frs)
            clear hd
            cases hb : isD s.data.toList j with
            | true =>
              have HJL : Hid (j < s.size ∧ run dig s.data.toList (j + 1) = run dig s.data.toList j0) := Lib.hid (by
                unfold isD at hb
                cases hx : s.data.toList[j]? with
                | none => rw [hx] at hb; cases hb
                | some x => rw [hx] at hb; exact ⟨at_lt hx, (run_on hx hb).symm.trans HR.out⟩)
              have hjl := HJL.out.1
              have c1 := HJ3.out.1.cell 1
              have fz := HJ3.out.1.frozen 1
              have HP4 := Lib.hid (HJ3.out.to (j + 1) hjl)
              have HF4 := Lib.hid (HF3.out.trans (FrS.one w3 p 1 (.int .i64 ((j + 1 : Nat) : Int))))
              clear hb
              go_wp2
              go_roundg (s.size - (j + 1))
              case measure => omega
              case rel => exact ⟨j + 1, by omega, hjl, rfl, HP4, HF4, Lib.hid HJL.out.2⟩
            | false =>
              have HJE : Hid (run dig s.data.toList j0 = j) := Lib.hid (by
                rw [← HR.out]
                unfold isD at hb
                cases hx : s.data.toList[j]? with
                | none => exact run_end (List.getElem?_eq_none_iff.1 hx)
                | some x => rw [hx] at hb; exact run_off hx hb)
              have HEV3 := Lib.hid (HEV.out.one HF3.out)
              have c0 := HJ3.out.1.cell 0
              have c1 := HJ3.out.1.cell 1
              have hij : i - 1 ≤ j := by omega
              have HAT := Lib.hid (fun (W : World) (hd : Dr w3 W) => atoi_any (w := W) (p := p) (s.extract (i - 1) j) (by rw [ByteArray.size_extract]; omega) (HEV3.out.dr hd))
              have HCL := Lib.hid (cut_list s (i - 1) j)
              clear hb
              go_wp2_with fail
              go_region_law (first
                | (go_simp; go_at_call 77; refine (HAT.out _ (by first | exact Dr.drew _ | exact Dr.refl _)).mono ?_; rintro _ w4 ⟨hbw, z, ev, hev, rfl⟩))
              all_goals (
                unfold AtoiP at hev
                rcases hev with ⟨hv, rfl⟩ | ⟨hv, Te, Ne, rfl⟩
                · rw [HCL.out] at hv
                  have HRE : Hid (intP s.data.toList c i = .ok z j) := Lib.hid (by rw [HE.out, HJE.out]; exact numE_ok hv)
                  have HF4 : Hid (FrS (One p) w1 w4) := Lib.hid (HF3.out.trans (FrS.of_below (w := w3) ⟨hbw.os, hbw.tape, hbw.output, hbw.size, hbw.block⟩))
                  have HP4 : Hid (Ps w4 p s j n) := Lib.hid (HJ3.out.frs (S := fun _ => False) (FrS.of_below (w := w3) ⟨hbw.os, hbw.tape, hbw.output, hbw.size, hbw.block⟩) (fun h => h))
                  clear hbw hv c0 c1
                  go_wp2_with fail
                  refine (require_any _ _ (i - 1) 14 _).mono ?_
                  rintro _ _ (⟨hb, rfl, rfl⟩ | ⟨hb, rfl, rfl⟩)
                  · go_wp2_with fail
                    refine (Int_any z _).mono ?_
                    rintro _ w5 ⟨rfl, hb5⟩
                    have HF5 : Hid (FrS (One p) w1 w5) := Lib.hid (HF4.out.trans (FrS.of_below hb5))
                    have HP5 : Hid (Ps w5 p s j n) := Lib.hid (HP4.out.frs (S := fun _ => False) (FrS.of_below hb5) (fun h => h))
                    have HQ5 := Lib.hid (HF5.out.bk HQ.out (fun e => NQ.out e))
                    have d0 := HQ5.out.cell 0
                    have d1 := HQ5.out.cell 1
                    have d2 := HQ5.out.cell 2
                    have d3 := HQ5.out.cell 3
                    have d4 := HQ5.out.cell 4
                    have f0 := HQ5.out.frozen 0
                    have f1 := HQ5.out.frozen 1
                    have f2 := HQ5.out.frozen 2
                    have f3 := HQ5.out.frozen 3
                    have f4 := HQ5.out.frozen 4
                    clear hb hb5
                    go_wp2
                    obtain ⟨wf, hwf⟩ : ∃ wf, wf = put5 w5 w.heap.size 0 (.int .i64 2) (.int .i64 z) (.string ⟨#[]⟩) (.slice none 0 0) (.slice none 0 0) := ⟨_, rfl⟩
                    have QF : Hid (Bk wf w.heap.size 25 #[.int .i64 2, .int .i64 z, .string ⟨#[]⟩, .slice none 0 0, .slice none 0 0]) := Lib.hid (by rw [hwf]; exact put5_bk HQ5.out)
                    have PF : Hid (Ps wf p s j n) := Lib.hid (by rw [hwf]; exact HP5.out.bk (put5_bk_far HP5.out.1 (Ne.symm NQ.out)))
                    have FF : Hid (FrS (One p) w wf) := Lib.hid (by rw [hwf]; exact frs_put5 (HF1.out.trans HF5.out) (Nat.le_refl _))
                    change bodyPost _ _ _ _ _ (put5 w5 w.heap.size 0 (.int .i64 2) (.int .i64 z) (.string ⟨#[]⟩) (.slice none 0 0) (.slice none 0 0))
                    rw [← hwf]
                    refine bodyPost_ret (results_cell_row rfl _ _ w.heap.size 25 _ (0, 0) _ rfl QF.out Tryz.underlying25 rfl (by kernel_rfl)) rfl ?_
                    exact .inl ⟨z, j, HRE, rfl, PF, FF⟩
                  · cases hb
                · rw [HCL.out] at hv
                  have HRE : Hid (intP s.data.toList c i = .err (i - 1) 14) := Lib.hid (by rw [HE.out, HJE.out]; exact numE_no hv)
                  have HF4 : Hid (FrS (One p) w1 w4) := Lib.hid (HF3.out.trans (FrS.of_below (w := w3) ⟨hbw.os, hbw.tape, hbw.output, hbw.size, hbw.block⟩))
                  clear hbw hv c0 c1
                  go_wp2_with fail
                  refine (require_any _ _ (i - 1) 14 _).mono ?_
                  rintro _ _ (⟨hb, rfl, rfl⟩ | ⟨hb, rfl, rfl⟩)
                  · cases hb
                  · exact ⟨rfl, .inr ⟨_, _, HRE, rfl, Lib.hid (HF1.out.trans HF4.out)⟩⟩))
    · have ht2 : ((c.toNat : Int) == 48) = false := by
        rw [beq_eq_false_iff_ne]
        intro e
        exact h48 (UInt8.toNat_inj.1 (by show c.toNat = 48; omega))
      obtain ⟨j0, hj0⟩ : ∃ j0, j0 = i := ⟨_, rfl⟩
      have HE : Hid (intP s.data.toList c i = numE s.data.toList (i - 1) (run dig s.data.toList j0)) := Lib.hid (by rw [hj0]; exact intP_else H45.out (fun e => absurd e h48))
      have hgt : i - 1 ≤ j0 := by omega
      have HB : Hid (j0 ≤ s.size) := Lib.hid (by omega)
      have HPj : Hid (Ps w1 p s j0 n) := Lib.hid (by rw [hj0]; exact HP.out)
      have HFj : Hid (FrS (One p) w1 w1) := Lib.hid (FrS.refl _ _)
      have H48 := Lib.hid h48
      clear hj0 h48
      go_wp2_with fail
      clear c1 ht ht2
      go_loopg [] (s.size - j0) (fun gh wr => ∃ j, j0 ≤ j ∧ j ≤ s.size ∧ gh = s.size - j ∧ Hid (Ps wr p s j n) ∧ Hid (FrS (One p) w1 wr) ∧ Hid (run dig s.data.toList j = run dig s.data.toList j0))
      case atStart => exact ⟨j0, Nat.le_refl _, HB.out, rfl, HPj, HFj, Lib.hid rfl⟩
      case round =>
        obtain ⟨j, hj0, hj, rfl, HJ, HF, HR⟩ := hrel
        go_wp2_with fail
        refine (atDigit_any HJ.out).mono ?_
        rintro _ w3 ⟨rfl, hd⟩
        have HJ3 := Lib.hid (HJ.out.dr hd)
        have HF3 := Lib.hid (HF.out.trans hd.frs)
        clear hd
        cases hb : isD s.data.toList j with
        | true =>
          have HJL : Hid (j < s.size ∧ run dig s.data.toList (j + 1) = run dig s.data.toList j0) := Lib.hid (by
            unfold isD at hb
            cases hx : s.data.toList[j]? with
            | none => rw [hx] at hb; cases hb
            | some x => rw [hx] at hb; exact ⟨at_lt hx, (run_on hx hb).symm.trans HR.out⟩)
          have hjl := HJL.out.1
          have c1 := HJ3.out.1.cell 1
          have fz := HJ3.out.1.frozen 1
          have HP4 := Lib.hid (HJ3.out.to (j + 1) hjl)
          have HF4 := Lib.hid (HF3.out.trans (FrS.one w3 p 1 (.int .i64 ((j + 1 : Nat) : Int))))
          clear hb
          go_wp2
          go_roundg (s.size - (j + 1))
          case measure => omega
          case rel => exact ⟨j + 1, by omega, hjl, rfl, HP4, HF4, Lib.hid HJL.out.2⟩
        | false =>
          have HJE : Hid (run dig s.data.toList j0 = j) := Lib.hid (by
            rw [← HR.out]
            unfold isD at hb
            cases hx : s.data.toList[j]? with
            | none => exact run_end (List.getElem?_eq_none_iff.1 hx)
            | some x => rw [hx] at hb; exact run_off hx hb)
          have HEV3 := Lib.hid (HEV.out.one HF3.out)
          have c0 := HJ3.out.1.cell 0
          have c1 := HJ3.out.1.cell 1
          have hij : i - 1 ≤ j := by omega
          have HAT := Lib.hid (fun (W : World) (hd : Dr w3 W) => atoi_any (w := W) (p := p) (s.extract (i - 1) j) (by rw [ByteArray.size_extract]; omega) (HEV3.out.dr hd))
          have HCL := Lib.hid (cut_list s (i - 1) j)
          clear hb
          go_wp2_with fail
          go_region_law (first
            | (go_simp; go_at_call 77; refine (HAT.out _ (by first | exact Dr.drew _ | exact Dr.refl _)).mono ?_; rintro _ w4 ⟨hbw, z, ev, hev, rfl⟩))
          all_goals (
            unfold AtoiP at hev
            rcases hev with ⟨hv, rfl⟩ | ⟨hv, Te, Ne, rfl⟩
            · rw [HCL.out] at hv
              have HRE : Hid (intP s.data.toList c i = .ok z j) := Lib.hid (by rw [HE.out, HJE.out]; exact numE_ok hv)
              have HF4 : Hid (FrS (One p) w1 w4) := Lib.hid (HF3.out.trans (FrS.of_below (w := w3) ⟨hbw.os, hbw.tape, hbw.output, hbw.size, hbw.block⟩))
              have HP4 : Hid (Ps w4 p s j n) := Lib.hid (HJ3.out.frs (S := fun _ => False) (FrS.of_below (w := w3) ⟨hbw.os, hbw.tape, hbw.output, hbw.size, hbw.block⟩) (fun h => h))
              clear hbw hv c0 c1
              go_wp2_with fail
              refine (require_any _ _ (i - 1) 14 _).mono ?_
              rintro _ _ (⟨hb, rfl, rfl⟩ | ⟨hb, rfl, rfl⟩)
              · go_wp2_with fail
                refine (Int_any z _).mono ?_
                rintro _ w5 ⟨rfl, hb5⟩
                have HF5 : Hid (FrS (One p) w1 w5) := Lib.hid (HF4.out.trans (FrS.of_below hb5))
                have HP5 : Hid (Ps w5 p s j n) := Lib.hid (HP4.out.frs (S := fun _ => False) (FrS.of_below hb5) (fun h => h))
                have HQ5 := Lib.hid (HF5.out.bk HQ.out (fun e => NQ.out e))
                have d0 := HQ5.out.cell 0
                have d1 := HQ5.out.cell 1
                have d2 := HQ5.out.cell 2
                have d3 := HQ5.out.cell 3
                have d4 := HQ5.out.cell 4
                have f0 := HQ5.out.frozen 0
                have f1 := HQ5.out.frozen 1
                have f2 := HQ5.out.frozen 2
                have f3 := HQ5.out.frozen 3
                have f4 := HQ5.out.frozen 4
                clear hb hb5
                go_wp2
                obtain ⟨wf, hwf⟩ : ∃ wf, wf = put5 w5 w.heap.size 0 (.int .i64 2) (.int .i64 z) (.string ⟨#[]⟩) (.slice none 0 0) (.slice none 0 0) := ⟨_, rfl⟩
                have QF : Hid (Bk wf w.heap.size 25 #[.int .i64 2, .int .i64 z, .string ⟨#[]⟩, .slice none 0 0, .slice none 0 0]) := Lib.hid (by rw [hwf]; exact put5_bk HQ5.out)
                have PF : Hid (Ps wf p s j n) := Lib.hid (by rw [hwf]; exact HP5.out.bk (put5_bk_far HP5.out.1 (Ne.symm NQ.out)))
                have FF : Hid (FrS (One p) w wf) := Lib.hid (by rw [hwf]; exact frs_put5 (HF1.out.trans HF5.out) (Nat.le_refl _))
                change bodyPost _ _ _ _ _ (put5 w5 w.heap.size 0 (.int .i64 2) (.int .i64 z) (.string ⟨#[]⟩) (.slice none 0 0) (.slice none 0 0))
                rw [← hwf]
                refine bodyPost_ret (results_cell_row rfl _ _ w.heap.size 25 _ (0, 0) _ rfl QF.out Tryz.underlying25 rfl (by kernel_rfl)) rfl ?_
                exact .inl ⟨z, j, HRE, rfl, PF, FF⟩
              · cases hb
            · rw [HCL.out] at hv
              have HRE : Hid (intP s.data.toList c i = .err (i - 1) 14) := Lib.hid (by rw [HE.out, HJE.out]; exact numE_no hv)
              have HF4 : Hid (FrS (One p) w1 w4) := Lib.hid (HF3.out.trans (FrS.of_below (w := w3) ⟨hbw.os, hbw.tape, hbw.output, hbw.size, hbw.block⟩))
              clear hbw hv c0 c1
              go_wp2_with fail
              refine (require_any _ _ (i - 1) 14 _).mono ?_
              rintro _ _ (⟨hb, rfl, rfl⟩ | ⟨hb, rfl, rfl⟩)
              · cases hb
              · exact ⟨rfl, .inr ⟨_, _, HRE, rfl, Lib.hid (HF1.out.trans HF4.out)⟩⟩)
end
end Go.Proofs.YtlgmhhimbabkjaaGreatDoor
