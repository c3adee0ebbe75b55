/-
  Offsets of tokens: mathematics, and the walk of TokenOffsets.
-/
import Derived.Test.YtjeddnelafdemaaDoorKq
namespace Go.Proofs.YtjeddnelafdemaaDoor
open Go.RowKit

theorem litG_kind {l : List UInt8} : ∀ {f i : Nat} {o t : List UInt8} {k v : Int} {n : Nat}, litG l f i o = .ok k t v n → k = 4
  | 0, _, _, _, _, _, _, h => by cases h
  | f + 1, i, o, t, k, v, n, h => by
    unfold litG at h
    cases hi : l[i]? with
    | none => rw [hi] at h; cases h
    | some c =>
      rw [hi] at h
      simp only at h
      split at h
      · split at h
        · cases h
        · injection h with h; exact h.symm
      · cases hc : chrC (l.drop i) with
        | err e => rw [hc] at h; cases h
        | ok x m => rw [hc] at h; exact litG_kind h
theorem oneT_kind {l t : List UInt8} {k v : Int} {n : Nat} (h : oneT l = .ok k t v n) : 1 ≤ k ∧ k ≤ 5 := by
  unfold oneT at h
  cases l with
  | nil => cases h
  | cons c r =>
    simp only at h
    split at h
    · unfold wordT at h
      split at h
      · cases h
      · injection h with h
        split at h <;> omega
    · split at h
      · unfold intT at h
        split at h
        · cases h
        · split at h
          · injection h with h; omega
          · cases h
      · split at h
        · have := litG_kind h; omega
        · unfold signT at h
          cases r with
          | nil =>
            simp only at h
            split at h
            · injection h with h; omega
            · cases h
          | cons b r2 =>
            simp only at h
            split at h
            · injection h with h; omega
            · split at h
              · injection h with h; omega
              · cases h
theorem skp_nb {l : List UInt8} {i : Nat} {c : UInt8} (h : l[skpT l i]? = some c) : blkT c = false := by
  refine spn_end (p := blkT) (l := l.drop i) ?_
  rw [List.getElem?_drop]
  exact h
/-- the tokens so far, before offset i -/
structure GoodO (l : List UInt8) (i : Nat) (o : List Tok) : Prop where
  low : ∀ x ∈ o, x.off < i ∧ x.kind ≠ 0 ∧ ∃ c, l[x.off]? = some c ∧ blkT c = false
  inc : ∀ (j : Nat) (x y : Tok), o[j]? = some x → o[j + 1]? = some y → x.off < y.off
theorem scanG_good {l : List UInt8} : ∀ {f i : Nat} {o L : List Tok}, GoodO l i o → (∀ c, l[i]? = some c → blkT c = false) → scanG l f i o = .ok L → ∃ O, L = O ++ [endT l.length] ∧ GoodO l l.length O
  | 0, _, _, _, _, _, h => by cases h
  | f + 1, i, o, L, hg, hn, h => by
    by_cases hi : l.length ≤ i
    · rw [scan_end hi] at h
      injection h with h
      refine ⟨o, h.symm, fun x hx => ?_, hg.inc⟩
      obtain ⟨_, h2, c, h3, h4⟩ := hg.low x hx
      exact ⟨(List.getElem?_eq_some_iff.1 h3).1, h2, c, h3, h4⟩
    · cases h1 : oneT (l.drop i) with
      | err e => rw [scan_err (by omega) h1] at h; cases h
      | ok k t v n =>
        rw [scan_ok (by omega) h1] at h
        have hk := oneT_kind h1
        have hnn := oneT_n h1
        have hge := skpT_ge l (i + n)
        refine scanG_good (f := f) ⟨fun x hx => ?_, fun j x y hx hy => ?_⟩ (fun c hc => skp_nb hc) h
        · rcases List.mem_append.1 hx with hx | hx
          · obtain ⟨h1, h2⟩ := hg.low x hx
            exact ⟨by omega, h2⟩
          · rw [List.mem_singleton] at hx
            subst hx
            have hc := List.getElem?_eq_getElem (l := l) (i := i) (by omega)
            exact ⟨by show i < _; omega, by show k ≠ 0; omega, _, hc, hn _ hc⟩
        · have hj := (List.getElem?_eq_some_iff.1 hy).1
          rw [List.length_append, List.length_singleton] at hj
          rw [List.getElem?_append_left (by omega)] at hx
          by_cases hj2 : j + 1 < o.length
          · rw [List.getElem?_append_left hj2] at hy
            exact hg.inc j x y hx hy
          · have e : j + 1 = o.length := by omega
            rw [e, List.getElem?_append_right (Nat.le_refl _), Nat.sub_self] at hy
            injection hy with hy
            subst hy
            exact (hg.low x (List.mem_of_getElem? hx)).1
theorem scanT_good {l : List UInt8} {L : List Tok} (h : scanT l = .ok L) : ∃ O, L = O ++ [endT l.length] ∧ GoodO l l.length O := by
  unfold scanT at h
  split at h
  · cases h
  · exact scanG_good ⟨fun x hx => (by cases hx), fun j x y hx => (by cases hx)⟩ (fun c hc => skp_nb hc) h
theorem scanG_ne {l : List UInt8} : ∀ {f i : Nat} {o : List Tok} {j : Nat} {e : Int}, scanG l f i o = .err j e → e ≠ 0
  | 0, _, _, _, _, h => by injection h with _ h; subst h; decide
  | f + 1, i, o, j, e, h => by
    by_cases hi : l.length ≤ i
    · rw [scan_end hi] at h; cases h
    · cases h1 : oneT (l.drop i) with
      | err x =>
        rw [scan_err (by omega) h1] at h
        injection h with _ h
        subst h
        exact oneT_ne h1
      | ok k t v n => rw [scan_ok (by omega) h1] at h; exact scanG_ne h
theorem scanT_ne {l : List UInt8} {j : Nat} {e : Int} (h : scanT l = .err j e) : e ≠ 0 := by
  unfold scanT at h
  split at h
  · injection h with _ h; subst h; decide
  · exact scanG_ne h
/-- what the law asks of the token at j -/
theorem good_at {l : List UInt8} {O : List Tok} (h : GoodO l l.length O) {j : Nat} {x : Tok} (hx : (O ++ [endT l.length])[j]? = some x) :
    (j < O.length ∧ x.kind ≠ 0 ∧ x.off < l.length ∧ (∃ c, l[x.off]? = some c ∧ blkT c = false) ∧ ∀ y, 0 < j → (O ++ [endT l.length])[j - 1]? = some y → y.off < x.off) ∨
    (j = O.length ∧ x = endT l.length ∧ ∀ y, 0 < j → (O ++ [endT l.length])[j - 1]? = some y → y.off < l.length) := by
  have hj := (List.getElem?_eq_some_iff.1 hx).1
  rw [List.length_append, List.length_singleton] at hj
  by_cases hlt : j < O.length
  · rw [List.getElem?_append_left hlt] at hx
    obtain ⟨h1, h2, h3⟩ := h.low x (List.mem_of_getElem? hx)
    refine .inl ⟨hlt, h2, h1, h3, fun y h0 hy => ?_⟩
    rw [List.getElem?_append_left (by omega)] at hy
    exact h.inc (j - 1) y x hy (by rw [Nat.sub_add_cancel h0]; exact hx)
  · have e : j = O.length := by omega
    subst e
    rw [List.getElem?_append_right (Nat.le_refl _), Nat.sub_self] at hx
    injection hx with hx
    refine .inr ⟨rfl, hx.symm, fun y h0 hy => ?_⟩
    rw [List.getElem?_append_left (by omega)] at hy
    exact (h.low y (List.mem_of_getElem? hy)).1

set_option maxRecDepth 100000 in
set_option maxHeartbeats 8000000 in
theorem Offsets_any (s : ByteArray) (w : World) (hE : NStd w) : Calls Tryd.prog 8 #[.string s] w fun e w' => e = .returned (.bool true) ∧ Below w.heap.size w w' := by
  have HE := Lib.hid hE
  clear hE
  by_cases hbig : 400 < s.size
  · have hbi : (400 : Int) < (s.size : Int) := by omega
    have HW := Lib.hid (works_any HE.out)
    go_enter Tryd.func8, Tryd.ntmps8
    go_wp2_with fail
    refine (HW.out).mono ?_
    rintro _ w1 ⟨rfl, hb1⟩
    go_wp2
    go_ret
    exact ⟨rfl, hb1⟩
  · have hbi : ¬ (400 : Int) < (s.size : Int) := by omega
    have hls : s.data.toList.length = s.size := by simp
    have SC := Lib.hid (Scan_any s w (by omega) HE.out)
    cases hsc : scanT s.data.toList with
    | err i x =>
      have hx : x ≠ 0 := scanT_ne hsc
      rw [hsc] at SC
      have t0 : (x == 0) = false := beq_eq_false_iff_ne.2 hx
      have t0n : (x != 0) = true := bne_iff_ne.2 hx
      clear hsc hx
      go_enter Tryd.func8, Tryd.ntmps8
      go_wp2_with fail
      refine (SC.out).mono ?_
      rintro _ w1 ⟨hb1, ⟨_, _, _, hl, _, _⟩ | ⟨i2, x2, hl, rfl⟩⟩
      case inl => cases hl
      injection hl with h1 h2
      subst h1 h2
      have B1 := Lib.hid hb1
      clear hb1 SC
      go_wp2_with fail
      refine (works_any (HE.out.on B1.out)).mono ?_
      rintro _ w2 ⟨rfl, hb2⟩
      go_wp2
      go_ret
      exact ⟨rfl, lnk B1.out hb2⟩
    | ok L =>
      obtain ⟨O, hL, hG⟩ := scanT_good hsc
      rw [hsc] at SC
      have HG := Lib.hid hG
      have HL := Lib.hid hL
      clear hsc hG hL
      go_enter Tryd.func8, Tryd.ntmps8
      go_wp2_with fail
      refine (SC.out).mono ?_
      rintro _ w1 ⟨hb1, ⟨l, A, c, hl, rfl, ho⟩ | ⟨i2, x2, hl, _⟩⟩
      case inr => cases hl
      injection hl with hl
      subst hl
      have B1 := Lib.hid hb1
      have T1 := Lib.hid (TRow.of_own ho)
      obtain ⟨m, hm⟩ : ∃ m, m = O.length := ⟨_, rfl⟩
      have hlen : L.length = m + 1 := by rw [HL.out, List.length_append, hm]; rfl
      have HM := Lib.hid hm
      rw [hlen]
      have HLN := Lib.hid hlen
      have hm9 : m + 1 ≤ 9223372036854775807 := by
        obtain ⟨A9, c9, hv9, h8, h9⟩ := own_formN ho
        unfold maxLen at h9
        omega
      have hwm : wrap64 (m : Int) = (m : Int) := by unfold wrap64; omega
      clear hb1 SC ho hlen hm
      go_wp2_with fail
      go_loopw [6, 25] (fun lv iv wr => ∃ (j : Nat) (la : Int), j ≤ m + 1 ∧ iv = .int .i64 j ∧ lv = .int .i64 la ∧ -1 ≤ la ∧ la ≤ 400 ∧ Hid (Below w1.heap.size w1 wr) ∧ Hid ((j = 0 → la = -1) ∧ ∀ y, 0 < j → L[j - 1]? = some y → la = (y.off : Int))) (fun _ iv _ => m + 1 - (intOf iv).toNat)
      case atStart => exact ⟨0, -1, by omega, rfl, rfl, by omega, by omega, Lib.hid (Below.refl _ _), Lib.hid ⟨fun _ => rfl, fun y h => absurd h (by omega)⟩⟩
      case round =>
        obtain ⟨j, la, hj, rfl, rfl, hl1, hl2, HB, HP⟩ := hrel
        by_cases hlt : j < m + 1
        · obtain ⟨x, hx⟩ : ∃ x, L[j]? = some x := ⟨_, List.getElem?_eq_getElem (by rw [HLN.out]; exact hlt)⟩
          obtain ⟨g, o, rfl, _, a0, a1, a2, a3⟩ := (T1.out.below HB.out) j x hx
          have HX := Lib.hid hx
          have hwj : wrap64 ((j : Int) + 1) = (j : Int) + 1 := by unfold wrap64; omega
          have hga := good_at HG.out (j := j) (x := x) (by rw [← HL.out]; exact hx)
          rw [← HL.out, ← HM.out, hls] at hga
          unfold strV at a2
          clear hx
          rcases hga with ⟨hj2, hk, hxo, ⟨cb, hcb, hbl⟩, hpr⟩ | ⟨hj2, rfl, hpr⟩
          · have hla : la < (x.off : Int) := by
              rcases Nat.eq_zero_or_pos j with h0 | h0
              · have := HP.out.1 h0; omega
              · obtain ⟨y, hy⟩ : ∃ y, L[j - 1]? = some y := ⟨_, List.getElem?_eq_getElem (by rw [HLN.out]; omega)⟩
                have := HP.out.2 y h0 hy
                have := hpr y h0 hy
                omega
            have tj : ((j : Int) == (m : Int)) = false := by rw [beq_eq_false_iff_ne]; omega
            have t38 : ¬ (x.off : Int) ≤ la := by omega
            have t38d : decide ((x.off : Int) ≤ la) = false := decide_eq_false t38
            have t47 : ¬ (x.off : Int) < la := by omega
            have t47d : decide ((x.off : Int) < la) = false := decide_eq_false t47
            have t52 : (x.kind == 0) = false := beq_eq_false_iff_ne.2 hk
            have t73 : ¬ (s.size : Int) ≤ (x.off : Int) := by omega
            have t73d : decide ((s.size : Int) ≤ (x.off : Int)) = false := decide_eq_false t73
            have hsb : s[x.off]'hxo = cb := by have := in_at hxo; rw [hcb] at this; injection this with this; exact this.symm
            have hnb : cb.toNat ≠ 32 ∧ cb.toNat ≠ 9 ∧ cb.toNat ≠ 10 := by
              unfold blkT at hbl
              simp only [Bool.or_eq_false_iff, beq_eq_false_iff_ne] at hbl
              exact ⟨fun e => hbl.1.1 (eq_nat.2 e), fun e => hbl.1.2 (eq_nat.2 e), fun e => hbl.2 (eq_nat.2 e)⟩
            have t32 : (((s[x.off]'hxo).toNat : Int) == 32) = false := by rw [hsb, beq_eq_false_iff_ne]; omega
            have t9 : (((s[x.off]'hxo).toNat : Int) == 9) = false := by rw [hsb, beq_eq_false_iff_ne]; omega
            have t10 : (((s[x.off]'hxo).toNat : Int) == 10) = false := by rw [hsb, beq_eq_false_iff_ne]; omega
            have HX4 : Hid (x.off < s.size ∧ s.size ≤ 400) := Lib.hid ⟨hxo, by omega⟩
            clear hsb hcb hbl hnb hk hpr
            go_wp2_with fail
            go_roundw
            case rel => exact ⟨j + 1, x.off, by omega, by go_num, rfl, by omega, by have := HX4.out; omega, Lib.hid (Below.alloc HB.out HB.out.size _), Lib.hid ⟨fun h => absurd h (by omega), fun y _ hy => by
              rw [Nat.add_sub_cancel, HX.out] at hy
              injection hy with hy
              rw [hy]⟩⟩
            case measure => simp [intOf]; omega
          · subst hj2
            have hla : la ≤ (s.size : Int) := by
              rcases Nat.eq_zero_or_pos j with h0 | h0
              · have := HP.out.1 h0; omega
              · obtain ⟨y, hy⟩ : ∃ y, L[j - 1]? = some y := ⟨_, List.getElem?_eq_getElem (by rw [HLN.out]; omega)⟩
                have := HP.out.2 y h0 hy
                have := hpr y h0 hy
                omega
            have tj : ((j : Int) == (j : Int)) = true := by simp
            have HX4 : Hid (s.size ≤ 400 ∧ la ≤ (s.size : Int)) := Lib.hid ⟨by omega, hla⟩
            simp only [endT] at a0 a1 a2 a3
            have t47 : ¬ (s.size : Int) < la := by omega
            have t47d : decide ((s.size : Int) < la) = false := decide_eq_false t47
            have tss : ((s.size : Int) != (s.size : Int)) = false := by simp
            have tse : ((s.size : Int) == (s.size : Int)) = true := by simp
            have HXE := Lib.hid (show L[j]? = some (endT s.size) by rw [← hls]; exact HX.out)
            have fin : ∀ W : World, Below w1.heap.size w1 W → (∃ (j' : Nat) (la' : Int), j' ≤ j + 1 ∧ Value.int IntKind.i64 ((j : Int) + 1) = .int .i64 j' ∧ Value.int IntKind.i64 (s.size : Int) = .int .i64 la' ∧ -1 ≤ la' ∧ la' ≤ 400 ∧ Hid (Below w1.heap.size w1 W) ∧ Hid ((j' = 0 → la' = -1) ∧ ∀ y, 0 < j' → L[j' - 1]? = some y → la' = (y.off : Int))) := fun W hW =>
              ⟨j + 1, s.size, Nat.le_refl _, by go_num, rfl, by omega, by have := HX4.out; omega, Lib.hid hW, Lib.hid ⟨fun h => absurd h (by omega), fun y _ hy => by
                rw [Nat.add_sub_cancel, HXE.out] at hy
                injection hy with hy
                rw [← hy]; rfl⟩⟩
            have FIN := Lib.hid fin
            clear fin hpr hla HX
            by_cases hq : (s.size : Int) ≤ la
            · have t38d : decide ((s.size : Int) ≤ la) = true := decide_eq_true hq
              go_wp2_with fail
              go_roundw
              case rel => exact FIN.out _ (Below.alloc HB.out HB.out.size _)
              case measure => simp [intOf]
            · have t38d : decide ((s.size : Int) ≤ la) = false := decide_eq_false hq
              go_wp2_with fail
              go_roundw
              case rel => exact FIN.out _ (Below.alloc HB.out HB.out.size _)
              case measure => simp [intOf]
        · have BE := Lib.hid (lnk B1.out HB.out)
          have WK := Lib.hid (works_any (HE.out.on BE.out))
          have hm0 : (0 : Int) < (m : Int) + 1 := by omega
          go_wp2_with fail
          refine (WK.out).mono ?_
          rintro _ w3 ⟨rfl, hb3⟩
          go_wp2
          go_ret
          exact ⟨rfl, lnk BE.out hb3⟩
theorem TokenOffsets_walk (s : ByteArray) (w : World) (_ : s.size ≤ maxLen) (h : NStd w) : Calls Tryd.prog 8 #[.string s] w fun e w' => e = .returned (.bool true) ∧ Below w.heap.size w w' := Offsets_any s w h
end Go.Proofs.YtjeddnelafdemaaDoor
