/-
  The parser's methods blanks, atDigit, rest.
-/
import Derived.Test.YtlgmhhimbabkjaaGreatDoorTa
import Derived.Deep.LoopGhost
namespace Go.Proofs.YtlgmhhimbabkjaaGreatDoor
open Go.RowKit

section
variable {w : World} {p : Nat} {s : ByteArray} {i n : Nat}

theorem in_at {s : ByteArray} {i : Nat} (h : i < s.size) : s.data.toList[i]? = some s[i] := by
  rw [List.getElem?_eq_getElem (by simpa using h)]
  simp [ByteArray.getElem_eq_getElem_data]

set_option maxRecDepth 100000 in
set_option maxHeartbeats 1000000 in
theorem blanks_any (h : Ps w p s i n) :
    Calls Tryz.prog 25 #[.pointer (some ⟨p, 0, none⟩)] w fun e w' => e = .returned (.tuple #[]) ∧ Ps w' p s (skip s.data.toList i) n ∧ FrS (One p) w w' := by
  have HP := Lib.hid h
  have hi0 := h.2.1
  have H1 := h.2.2.1
  clear h
  go_enter Tryz.func25, Tryz.ntmps25
  go_wp2_with fail
  go_loopg [] (s.size - i) (fun gh wr => ∃ j, j ≤ s.size ∧ gh = s.size - j ∧ Hid (Ps wr p s j n) ∧ Hid (FrS (One p) w wr) ∧ Hid (skip s.data.toList j = skip s.data.toList i))
  case atStart => exact ⟨i, hi0, rfl, HP, Lib.hid (FrS.refl _ _), Lib.hid rfl⟩
  case round =>
    obtain ⟨j, hj, rfl, HJ, HF, HR⟩ := hrel
    have c0 := HJ.out.1.cell 0
    have c1 := HJ.out.1.cell 1
    by_cases hlt : j < s.size
    · have ht : decide ((j : Int) < (s.size : Int)) = true := by rw [decide_eq_true_eq]; omega
      have HA := Lib.hid (in_at hlt)
      have HX := Lib.hid (fun (W : World) => ix_any ⟨#[32, 9, 10, 13]⟩ s[j] W)
      have HS := Lib.hid (set_blk s[j])
      generalize Lib.indexByte (⟨#[32, 9, 10, 13]⟩ : ByteArray).data.toList s[j] = r at *
      go_wp2_with fail
      go_quiet ((go_at_call 50; exact Calls.quiet_of_same (HX.out _)))
      have HP2 := Lib.hid (HJ.out.dr (Dr.next wr nq))
      have HF2 := Lib.hid (HF.out.trans (Dr.next wr nq).frs)
      clear c0 c1 ht
      generalize wr.drewN nq = w2 at *
      cases hb : decide (0 ≤ r) with
      | true =>
        have HN := Lib.hid ((run_on (p := blk) HA.out (by rw [HS.out]; exact hb)).symm.trans HR.out)
        have hr := of_decide_eq_true hb
        have c1 := HP2.out.1.cell 1
        have fz := HP2.out.1.frozen 1
        have HP3 := Lib.hid (HP2.out.to (j + 1) hlt)
        have HF3 := Lib.hid (HF2.out.trans (FrS.one w2 p 1 (.int .i64 ((j + 1 : Nat) : Int))))
        clear hb
        go_wp2
        go_roundg (s.size - (j + 1))
        case measure => omega
        case rel => exact ⟨j + 1, hlt, rfl, HP3, HF3, HN⟩
      | false =>
        have HN := Lib.hid ((run_off (p := blk) HA.out (by rw [HS.out]; exact hb)).symm.trans HR.out)
        have hr := of_decide_eq_false hb
        clear hb
        go_wp2
        refine bodyPost_end (results_none rfl _ _ _) rfl ?_
        exact ⟨rfl, by rw [← HN.out]; exact HP2.out, HF2.out⟩
    · have ht : decide ((j : Int) < (s.size : Int)) = false := by rw [decide_eq_false_iff_not]; omega
      go_wp2_with fail
      go_quiet (fail)
      have HN := Lib.hid ((run_end (p := blk) (l := s.data.toList) (i := j) (by rw [list_len]; omega)).symm.trans HR.out)
      go_wp2
      refine bodyPost_end (results_none rfl _ _ _) rfl ?_
      exact ⟨rfl, by rw [← HN.out]; exact HJ.out.dr (Dr.next _ _), HF.out.trans (Dr.next _ _).frs⟩

/-- is the next byte a digit -/
def isD (l : List UInt8) (i : Nat) : Bool := l[i]?.elim false dig
set_option maxRecDepth 100000 in
set_option maxHeartbeats 1000000 in
theorem atDigit_any (h : Ps w p s i n) :
    Calls Tryz.prog 76 #[.pointer (some ⟨p, 0, none⟩)] w fun e w' => e = .returned (.bool (isD s.data.toList i)) ∧ Dr w w' := by
  have c0 := h.1.cell 0
  have c1 := h.1.cell 1
  by_cases hlt : i < s.size
  · have ht : decide ((i : Int) < (s.size : Int)) = true := by rw [decide_eq_true_eq]; omega
    have HE : Hid (isD s.data.toList i = (decide (48 ≤ s[i].toNat) && decide (s[i].toNat ≤ 57))) := Lib.hid (by unfold isD; rw [in_at hlt]; rfl)
    go_enter Tryz.func76, Tryz.ntmps76
    go_wp2_with fail
    rcases Nat.lt_or_ge s[i].toNat 48 with hg | hg
    · have hd : decide (48 ≤ (s[i].toNat : Int)) = false := by rw [decide_eq_false_iff_not]; omega
      have hd2 : decide (48 ≤ s[i].toNat) = false := by rw [decide_eq_false_iff_not]; omega
      rw [hd2, Bool.false_and] at HE
      clear hd2 hg
      go_quiet (fail)
      go_wp2
      go_ret
      exact ⟨ret_bool HE.out.symm, Dr.next _ _⟩
    · have hd : decide (48 ≤ (s[i].toNat : Int)) = true := by rw [decide_eq_true_eq]; omega
      have hd2 : decide (48 ≤ s[i].toNat) = true := by rw [decide_eq_true_eq]; omega
      rw [hd2, Bool.true_and] at HE
      clear hd2 hg
      go_quiet (fail)
      go_wp2
      go_ret
      exact ⟨ret_bool (by rw [HE.out, decide_eq_decide]; omega), Dr.next _ _⟩
  · have ht : decide ((i : Int) < (s.size : Int)) = false := by rw [decide_eq_false_iff_not]; omega
    have HE : Hid (isD s.data.toList i = false) := Lib.hid (by unfold isD; rw [List.getElem?_eq_none (by rw [list_len]; omega)]; rfl)
    go_enter Tryz.func76, Tryz.ntmps76
    go_wp2_with fail
    go_quiet (fail)
    go_wp2
    go_ret
    exact ⟨ret_bool HE.out.symm, Dr.next _ _⟩

theorem ext_one (W : ByteArray) (k : Nat) (h : k < W.size) : W.extract k (k + 1) = ⟨#[W[k]]⟩ := by
  have hd : k < W.data.size := h
  apply ByteArray.ext
  rw [ByteArray.data_extract]
  apply Array.ext
  · simp; omega
  · intro i h1 h2
    have : i = 0 := by simpa using h2
    subst this
    simp [ByteArray.getElem_eq_getElem_data]
theorem drop_one (W : ByteArray) (k : Nat) (h : k < W.size) : W.data.toList.drop k = W[k] :: W.data.toList.drop (k + 1) := by
  rw [List.drop_eq_getElem_cons (by simpa using h)]
  simp [ByteArray.getElem_eq_getElem_data]
theorem set_ext (W : ByteArray) (k : Nat) (h : k < W.size) : IsSet (W.extract k (k + 1)) (fun x => x == W[k]) := by
  rw [ext_one W k h]
  exact set_one _
theorem wrdP_cons (l : List UInt8) (c : UInt8) (r : List UInt8) (i : Nat) : wrdP l (c :: r) i = (tkP (fun x => x == c) l i).bind fun _ j => wrdP l r j := rfl

set_option maxRecDepth 100000 in
set_option maxHeartbeats 1000000 in
theorem rest_any (W : ByteArray) (h : Ps w p s i n) (hW : W.size ≤ 100) :
    Calls Tryz.prog 43 #[.pointer (some ⟨p, 0, none⟩), .string W] w (Reads (wrdP s.data.toList W.data.toList i) unitV p s n w) := by
  have HP := Lib.hid h
  clear h
  go_enter Tryz.func43, Tryz.ntmps43
  go_wp2
  go_loopg [7] W.size (fun gh x wr => ∃ k j, k ≤ W.size ∧ gh = W.size - k ∧ x = .int .i64 k ∧ Hid (Ps wr p s j n) ∧ Hid (FrS (One p) w wr) ∧ Hid (wrdP s.data.toList (W.data.toList.drop k) j = wrdP s.data.toList W.data.toList i))
  case atStart => exact ⟨0, i, Nat.zero_le _, rfl, rfl, HP, Lib.hid (FrS.refl _ _), Lib.hid (by rw [List.drop_zero])⟩
  case round =>
    obtain ⟨k, j, hk, rfl, rfl, HJ, HF, HR⟩ := hrel
    by_cases hlt : k < W.size
    · have HS := Lib.hid (set_ext W k hlt)
      have HD := Lib.hid (drop_one W k hlt)
      go_wp2_with fail
      refine (take_any HJ.out HS.out).mono ?_
      rintro _ w1 (⟨c, j2, hr, rfl, hp, hf⟩ | ⟨j2, c, hr, rfl, hf⟩)
      · have HR2 : Hid (wrdP s.data.toList (W.data.toList.drop (k + 1)) j2 = wrdP s.data.toList W.data.toList i) := Lib.hid (by rw [← HR.out, HD.out, wrdP_cons, hr.out]; rfl)
        have HF2 := Lib.hid (HF.out.trans hf.out)
        clear hr hf
        go_wp2
        go_roundg (W.size - (k + 1))
        case measure => omega
        case rel => exact ⟨k + 1, j2, hlt, rfl, by go_num, hp, HF2, HR2⟩
      · have HR2 : Hid (wrdP s.data.toList W.data.toList i = .err j2 c) := Lib.hid (by rw [← HR.out, HD.out, wrdP_cons, hr.out]; rfl)
        exact ⟨rfl, .inr ⟨j2, c, HR2, rfl, Lib.hid (HF.out.trans hf.out)⟩⟩
    · have HE : Hid (wrdP s.data.toList W.data.toList i = .ok () j) := Lib.hid (by rw [← HR.out, List.drop_of_length_le (by rw [list_len]; omega)]; rfl)
      go_wp2
      refine bodyPost_end (results_none rfl _ _ _) rfl ?_
      exact .inl ⟨(), j, HE, rfl, HJ, HF⟩
end
end Go.Proofs.YtlgmhhimbabkjaaGreatDoor
