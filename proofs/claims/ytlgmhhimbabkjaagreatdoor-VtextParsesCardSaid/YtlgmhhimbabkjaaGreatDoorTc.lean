/-
  The parser's methods hex, char, literal.
-/
import Derived.Test.YtlgmhhimbabkjaaGreatDoorTb
namespace Go.Proofs.YtlgmhhimbabkjaaGreatDoor
open Go.RowKit

section
variable {w : World} {p : Nat} {s : ByteArray} {i n : Nat}

def hexV (c : UInt8) : Value := .int .u8 (hxv c : Int)
set_option maxRecDepth 100000 in
set_option maxHeartbeats 1000000 in
theorem hex_any (h : Ps w p s i n) :
    Calls Tryz.prog 87 #[.pointer (some ⟨p, 0, none⟩)] w (Reads (tkP hxd s.data.toList i) hexV p s n w) := by
  have HP := Lib.hid h
  clear h
  go_enter Tryz.func87, Tryz.ntmps87
  go_wp2_with fail
  refine (take_any HP.out set_hxd).mono ?_
  rintro _ w1 (⟨c, j2, hr, rfl, hp, hf⟩ | ⟨j2, c, hr, rfl, hf⟩)
  · have HC : Hid (hxd c = true) := Lib.hid (by
      have := hr.out
      unfold tkP at this
      split at this
      · cases this
      · split at this
        · injection this with e; subst e; assumption
        · cases this)
    have hx1 := (hex_at c HC.out).1
    have HX := Lib.hid (fun (W : World) => ix_any ⟨#[48, 49, 50, 51, 52, 53, 54, 55, 56, 57, 97, 98, 99, 100, 101, 102]⟩ c W)
    have hx2 := (hex_at c HC.out).2
    change Lib.indexByte (⟨#[48, 49, 50, 51, 52, 53, 54, 55, 56, 57, 97, 98, 99, 100, 101, 102]⟩ : ByteArray).data.toList c = _ at hx1
    rw [hx1] at HX
    clear hx1
    unfold byteV
    go_wp2_with fail
    refine (HX.out _).mono ?_
    rintro _ _ ⟨rfl, rfl⟩
    have hw : hexV c = .int .u8 (hxv c : Int) := rfl
    go_wp2
    go_ret
    exact .inl ⟨c, j2, hr, rfl, hp, hf⟩
  · exact ⟨rfl, .inr ⟨j2, c, hr, rfl, hf⟩⟩

set_option maxHeartbeats 400000 in
theorem plain_any (c : UInt8) (w : World) : Calls Tryz.prog 67 #[.int .u8 (c.toNat : Int)] w fun e w' => e = .returned (.bool (pln c)) ∧ w' = w := by
  have HE : Hid (pln c = (decide (32 ≤ c.toNat) && decide (c.toNat ≤ 126))) := Lib.hid rfl
  rcases Nat.lt_or_ge c.toNat 32 with hg | hg
  · have hd : decide (32 ≤ (c.toNat : Int)) = false := by rw [decide_eq_false_iff_not]; omega
    have hd2 : decide (32 ≤ c.toNat) = false := by rw [decide_eq_false_iff_not]; omega
    rw [hd2, Bool.false_and] at HE
    clear hd2 hg
    go_enter Tryz.func67, Tryz.ntmps67
    go_wp2
    go_ret
    exact ⟨ret_bool HE.out.symm, rfl⟩
  · have hd : decide (32 ≤ (c.toNat : Int)) = true := by rw [decide_eq_true_eq]; omega
    have hd2 : decide (32 ≤ c.toNat) = true := by rw [decide_eq_true_eq]; omega
    rw [hd2, Bool.true_and] at HE
    clear hd2 hg
    go_enter Tryz.func67, Tryz.ntmps67
    go_wp2
    go_ret
    exact ⟨ret_bool (by rw [HE.out, decide_eq_decide]; omega), rfl⟩

theorem nib_or : ∀ h d : Nat, h < 16 → d < 16 → bits .or .u8 ((h * 16 : Nat) : Int) (d : Int) = ((16 * h + d : Nat) : Int) := by
  have H : ((List.range 16).all fun h => (List.range 16).all fun d => decide (bits .or .u8 ((h * 16 : Nat) : Int) (d : Int) = ((16 * h + d : Nat) : Int))) = true := by decide +kernel
  intro h d hh hd
  have := List.all_eq_true.1 (List.all_eq_true.1 H h (List.mem_range.2 hh)) d (List.mem_range.2 hd)
  exact of_decide_eq_true this

theorem tkP_in {P : UInt8 → Bool} {l : List UInt8} {i j : Nat} {c : UInt8} (h : tkP P l i = .ok c j) : P c = true ∧ j = i + 1 ∧ l[i]? = some c := by
  unfold tkP at h
  split at h
  · cases h
  · split at h
    · injection h with e1 e2; subst e1 e2; exact ⟨by assumption, rfl, by assumption⟩
    · cases h

set_option maxRecDepth 100000 in
set_option maxHeartbeats 2000000 in
theorem char_any (h : Ps w p s i n) :
    Calls Tryz.prog 69 #[.pointer (some ⟨p, 0, none⟩)] w (Reads (chrP s.data.toList i) byteV p s n w) := by
  have HP := Lib.hid h
  clear h
  go_enter Tryz.func69, Tryz.ntmps69
  go_wp2_with fail
  refine (peek_any HP.out).mono ?_
  rintro _ w1 (⟨c, hc, rfl, hd⟩ | ⟨hi, rfl, hd⟩)
  · have HC := Lib.hid hc
    have HL := at_lt hc
    have HP1 := Lib.hid (HP.out.dr hd)
    have H2 := Lib.hid HP.out.2
    have HD := Lib.hid hd
    have HX := Lib.hid (fun (W : World) => plain_any c W)
    obtain ⟨r, hr⟩ : ∃ r, r = pln c := ⟨_, rfl⟩
    have HSC := Lib.hid hr
    rw [← hr] at HX
    have c1 := HP1.out.1.cell 1
    have hbig : i < 1000000 := by have := H2.out.2.1; omega
    clear hc hd hr
    go_wp2_with fail
    go_still_tail 7, (by kernel_rfl)
    still_call (HX.out _)
    repeat still_step
    refine wpStill_nil ?_
    change wpList _ _ _ _ _ w1.drew
    go_wp2_with fail
    refine (require_any _ _ i 3 _).mono ?_
    rintro _ _ (⟨hb, rfl, rfl⟩ | ⟨hb, rfl, rfl⟩)
    · have HK := Lib.hid (tkP_ok (p := pln) HC.out (by rw [← HSC.out]; exact hb))
      have HP2 := Lib.hid (HP1.out.dr (Dr.drew w1))
      have HD2 := Lib.hid (HD.out.trans (Dr.drew w1))
      clear c1
      generalize w1.drew = w2 at *
      have c1 := HP2.out.1.cell 1
      have fz := HP2.out.1.frozen 1
      obtain ⟨w3, hw3⟩ : ∃ w3, w3 = w2.setCell ⟨p, 1, none⟩ (.int .i64 ((i : Int) + 1)) := ⟨_, rfl⟩
      have HP3 : Hid (Ps w3 p s (i + 1) n) := Lib.hid (by rw [hw3]; exact HP2.out.to (i + 1) HL)
      have HF : Hid (FrS (One p) w w3) := Lib.hid (by rw [hw3]; exact HD2.out.frs.trans (FrS.one w2 p 1 _))
      have HW3 := Lib.hid hw3
      clear hb hw3
      by_cases h92 : c = 92
      · have ht : ((c.toNat : Int) != 92) = false := by rw [h92]; rfl
        have HE : Hid (chrP s.data.toList i = escP s.data.toList (i + 1)) := Lib.hid (by unfold chrP; rw [HK.out, PR.bind_ok, if_pos h92])
        go_wp2_with fail
        rw [← HW3.out]
        refine (take_any HP3.out set_esq).mono ?_
        rintro _ w4 (⟨c2, j2, hr, rfl, hp4, hf4⟩ | ⟨j2, c2, hr, rfl, hf4⟩)
        · obtain ⟨hes, _, _⟩ := tkP_in hr.out
          have HF4 := Lib.hid (HF.out.trans hf4.out)
          have HE2 : Hid (chrP s.data.toList i = if c2 = 110 then .ok 10 j2 else if c2 = 116 then .ok 9 j2 else if c2 = 120 then (tkP hxd s.data.toList j2).bind fun h j2 => (tkP hxd s.data.toList j2).bind fun d j3 => .ok (UInt8.ofNat (16 * hxv h + hxv d)) j3 else .ok c2 j2) := Lib.hid (by rw [HE.out]; unfold escP; rw [hr.out]; rfl)
          have ways : c2 = 110 ∨ c2 = 116 ∨ c2 = 120 ∨ c2 = 34 ∨ c2 = 92 := by
            unfold esq at hes
            simp only [Bool.or_eq_true, beq_iff_eq] at hes
            rcases hes with (((h | h) | h) | h) | h
            · exact .inr (.inr (.inr (.inl h)))
            · exact .inr (.inr (.inr (.inr h)))
            · exact .inl h
            · exact .inr (.inl h)
            · exact .inr (.inr (.inl h))
          clear HW3 c1 fz hes hr hf4 ht
          generalize w2.setCell ⟨p, 1, none⟩ (.int .i64 ((i : Int) + 1)) = wz at *
          unfold byteV
          rcases ways with h | h | h | h | h
          · subst h
            go_wp2
            go_ret
            exact .inl ⟨10, j2, Lib.hid (by rw [HE2.out]; rfl), rfl, hp4, HF4⟩
          · subst h
            go_wp2
            go_ret
            exact .inl ⟨9, j2, Lib.hid (by rw [HE2.out]; rfl), rfl, hp4, HF4⟩
          · subst h
            go_wp2_with fail
            refine (hex_any hp4.out).mono ?_
            rintro _ w5 (⟨h1, j3, hr5, rfl, hp5, hf5⟩ | ⟨j3, e3, hr5, rfl, hf5⟩)
            · have HF5 := Lib.hid (HF4.out.trans hf5.out)
              have hv1 := (hex_at h1 (tkP_in hr5.out).1).2
              unfold hexV
              have hsh : IntKind.u8.wrap ((hxv h1 : Int) * 16) = ((hxv h1 * 16 : Nat) : Int) := by rw [IntKind.wrap_u8]; omega
              go_wp2_with fail
              refine (hex_any hp5.out).mono ?_
              rintro _ w6 (⟨d1, j4, hr6, rfl, hp6, hf6⟩ | ⟨j4, e4, hr6, rfl, hf6⟩)
              · have HF6 := Lib.hid (HF5.out.trans hf6.out)
                have hv2 := (hex_at d1 (tkP_in hr6.out).1).2
                unfold hexV
                have HN : Hid (bits .or .u8 ((hxv h1 : Int) * 16) (hxv d1 : Int) = ((UInt8.ofNat (16 * hxv h1 + hxv d1)).toNat : Int)) := Lib.hid (by
                  have := nib_or (hxv h1) (hxv d1) hv1 hv2
                  rw [Int.natCast_mul] at this
                  rw [show ((hxv h1 : Int) * 16) = (hxv h1 : Int) * ((16 : Nat) : Int) from rfl, this]
                  have e : (UInt8.ofNat (16 * hxv h1 + hxv d1)).toNat = 16 * hxv h1 + hxv d1 := by simp; omega
                  rw [e])
                go_wp2
                go_ret
                exact .inl ⟨UInt8.ofNat (16 * hxv h1 + hxv d1), j4, Lib.hid (by rw [HE2.out]; show (tkP hxd s.data.toList j2).bind _ = _; rw [hr5.out, PR.bind_ok, hr6.out]; rfl), congrArg (fun x => Ending.returned (.int .u8 x)) HN.out, hp6, HF6⟩
              · exact ⟨rfl, .inr ⟨j4, e4, Lib.hid (by rw [HE2.out]; show (tkP hxd s.data.toList j2).bind _ = _; rw [hr5.out, PR.bind_ok, hr6.out]; rfl), rfl, Lib.hid (HF5.out.trans hf6.out)⟩⟩
            · exact ⟨rfl, .inr ⟨j3, e3, Lib.hid (by rw [HE2.out]; show (tkP hxd s.data.toList j2).bind _ = _; rw [hr5.out]; rfl), rfl, Lib.hid (HF4.out.trans hf5.out)⟩⟩
          · subst h
            go_wp2
            go_ret
            exact .inl ⟨34, j2, Lib.hid (by rw [HE2.out]; rfl), rfl, hp4, HF4⟩
          · subst h
            go_wp2
            go_ret
            exact .inl ⟨92, j2, Lib.hid (by rw [HE2.out]; rfl), rfl, hp4, HF4⟩
        · exact ⟨rfl, .inr ⟨j2, c2, Lib.hid (by rw [HE.out]; unfold escP; rw [hr.out]; rfl), rfl, Lib.hid (HF.out.trans hf4.out)⟩⟩
      · have ht : ((c.toNat : Int) != 92) = true := by
          rw [bne_iff_ne]
          intro e
          exact h92 (UInt8.toNat_inj.1 (by show c.toNat = 92; omega))
        have HE : Hid (chrP s.data.toList i = .ok c (i + 1)) := Lib.hid (by unfold chrP; rw [HK.out, PR.bind_ok, if_neg h92])
        go_wp2
        rw [← HW3.out]
        go_ret
        exact .inl ⟨c, i + 1, HE, rfl, HP3, HF⟩
    · have HK : Hid (chrP s.data.toList i = .err i 3) := Lib.hid (by unfold chrP; rw [tkP_no (p := pln) HC.out (by rw [← HSC.out]; exact hb)]; rfl)
      exact ⟨rfl, .inr ⟨_, _, HK, rfl, Lib.hid (HD.out.trans (Dr.drew _)).frs⟩⟩
  · have HK : Hid (chrP s.data.toList i = .err i 4) := Lib.hid (by unfold chrP; rw [tkP_none (HP.out.ends hi)]; rfl)
    exact ⟨rfl, .inr ⟨i, 4, HK, rfl, Lib.hid hd.frs⟩⟩

/-! ### literals -/
theorem chrP_to {l : List UInt8} {i j : Nat} {c : UInt8} (h : chrP l i = .ok c j) : i < j ∧ j ≤ l.length := by
  have lt : ∀ {P : UInt8 → Bool} {i j : Nat} {c : UInt8}, tkP P l i = .ok c j → j = i + 1 ∧ j ≤ l.length := fun h => by
    obtain ⟨_, rfl, h3⟩ := tkP_in h
    exact ⟨rfl, (List.getElem?_eq_some_iff.1 h3).1⟩
  unfold chrP at h
  cases hp : tkP pln l i with
  | err a e => rw [hp] at h; cases h
  | ok c1 j1 =>
    obtain ⟨rfl, hj1⟩ := lt hp
    rw [hp, PR.bind_ok] at h
    split at h
    · unfold escP at h
      cases hq : tkP esq l (i + 1) with
      | err a e => rw [hq] at h; cases h
      | ok c2 j2 =>
        obtain ⟨rfl, hj2⟩ := lt hq
        rw [hq, PR.bind_ok] at h
        split at h
        · injection h with _ e; subst e; exact ⟨by omega, hj2⟩
        · split at h
          · injection h with _ e; subst e; exact ⟨by omega, hj2⟩
          · split at h
            · cases hr : tkP hxd l (i + 1 + 1) with
              | err a e => rw [hr] at h; cases h
              | ok c3 j3 =>
                obtain ⟨rfl, hj3⟩ := lt hr
                rw [hr, PR.bind_ok] at h
                cases hs : tkP hxd l (i + 1 + 1 + 1) with
                | err a e => rw [hs] at h; cases h
                | ok c4 j4 =>
                  obtain ⟨rfl, hj4⟩ := lt hs
                  rw [hs, PR.bind_ok] at h
                  injection h with _ e; subst e; exact ⟨by omega, hj4⟩
            · injection h with _ e; subst e; exact ⟨by omega, hj2⟩
    · injection h with _ e; subst e; exact ⟨by omega, hj1⟩
theorem litL_none {l : List UInt8} {a f i : Nat} {o : List UInt8} (h : l.length ≤ i) : litL l a f i o = .err i 4 := by
  cases f with
  | zero => rfl
  | succ f => unfold litL; rw [List.getElem?_eq_none h]
theorem litL_quote {l : List UInt8} {a f i : Nat} {o : List UInt8} (h : l[i]? = some 34) : litL l a (f + 1) i o = if o.length ≤ 4096 then .ok o (i + 1) else .err a 6 := by
  rw [litL, h]
  rfl
theorem litL_char {l : List UInt8} {a f i : Nat} {o : List UInt8} {c : UInt8} (h : l[i]? = some c) (hc : c ≠ 34) : litL l a (f + 1) i o = (chrP l i).bind fun x j => litL l a f j (o ++ [x]) := by
  rw [litL, h]
  exact if_neg hc

theorem own_frs {w w' : World} {S : Nat → Prop} {base size k : Nat} {e : TypeId} {v : Value} {xs : List Value} (h : w.ownsRow base e size v k xs) (hf : FrS S w w') (hp : ∀ b, S b → b < base) : w'.ownsRow base e size v k xs := by
  refine ⟨h.1, ?_⟩
  rcases h.2 with h0 | ⟨g, cap, cur, hv, h1, hg, r⟩
  · exact .inl h0
  · exact .inr ⟨g, cap, cur, hv, h1, (hf.block g (Array.getElem?_eq_some_iff.1 hg).1 (fun e => by have := hp g e; omega)).trans hg, r⟩
def strV (t : ByteArray) : Value := .string t
set_option maxRecDepth 100000 in
set_option maxHeartbeats 2000000 in
theorem literal_any (h : Ps w p s i n) (hi1 : 1 ≤ i) :
    Calls Tryz.prog 46 #[.pointer (some ⟨p, 0, none⟩)] w (Reads (litP s.data.toList i) strV p s n w) := by
  obtain ⟨ti, hti, hz, hsz, hb⟩ := info_parts Tryz.infob
  have HP := Lib.hid h
  have H2 := h.2.2.1
  have Hi := h.2.1
  have c1 := h.1.cell 1
  clear h
  have hsub : IntKind.i64.wrap ((i : Int) - 1) = ((i - 1 : Nat) : Int) := by rw [IntKind.wrap_i64]; omega
  go_enter Tryz.func46, Tryz.ntmps46
  go_wp2_with fail
  go_loopg [4] (s.size + 1) (fun gh sv wr => ∃ (j : Nat) (o : List UInt8) (A : Option Addr) (c k : Nat), s.size + 1 ≤ gh + j ∧ sv = .slice A k c ∧ k ≤ c ∧ c ≤ 9223372036854775807 ∧ Hid (o.length = k) ∧ k ≤ j ∧ j ≤ s.size ∧ Hid (Ps wr p s j n) ∧ Hid (FrS (One p) w wr) ∧ Hid (wr.ownsRow w.heap.size 5 1 (.slice A k c) k (o.map b8)) ∧ Hid (litL s.data.toList (i - 1) gh j o = litL s.data.toList (i - 1) (s.data.toList.length + 1) i []))
  case atStart => exact ⟨i, [], none, 0, 0, by omega, rfl, by omega, by omega, Lib.hid rfl, by omega, Hi, HP, Lib.hid (FrS.refl _ _), Lib.hid ⟨rfl, .inl ⟨rfl, rfl⟩⟩, Lib.hid (by rw [list_len])⟩
  case round =>
    obtain ⟨j, o, A, c, k, hg, rfl, hkc, hcm, HO, hkj, hj, HJ, HF, HW, HR⟩ := hrel
    obtain ⟨f, rfl⟩ : ∃ f, gk = f + 1 := ⟨gk - 1, by omega⟩
    go_wp2_with fail
    refine (peek_any HJ.out).mono ?_
    rintro _ w1 (⟨x, hx, rfl, hd⟩ | ⟨hend, rfl, hd⟩)
    · have HX := Lib.hid hx
      have hjl := at_lt hx
      have HJ1 := Lib.hid (HJ.out.dr hd)
      have HF1 := Lib.hid (HF.out.trans hd.frs)
      clear hx
      by_cases hq : x = 34
      · have ht : ((x.toNat : Int) != 34) = false := by rw [hq]; rfl
        have HL : Hid (litP s.data.toList i = if k ≤ 4096 then .ok ⟨o.toArray⟩ (j + 1) else .err (i - 1) 6) := Lib.hid (by
          unfold litP
          rw [← HR.out, litL_quote (by rw [← hq]; exact HX.out), HO.out]
          split <;> rfl)
        have c1 := HJ1.out.1.cell 1
        have fz := HJ1.out.1.frozen 1
        obtain ⟨w2, hw2⟩ : ∃ w2, w2 = w1.setCell ⟨p, 1, none⟩ (.int .i64 ((j : Int) + 1)) := ⟨_, rfl⟩
        have HJ2 : Hid (Ps w2 p s (j + 1) n) := Lib.hid (by rw [hw2]; exact HJ1.out.to (j + 1) hjl)
        have HF12 : Hid (FrS (One p) w1 w2) := Lib.hid (by rw [hw2]; exact FrS.one w1 p 1 _)
        have HW1 := Lib.hid (own_frs HW.out ((hd.frs (S := One p)).trans HF12.out) (fun b e => by rw [show b = p from e]; exact HP.out.1.lt))
        have HF2 := Lib.hid (HF1.out.trans HF12.out)
        have HW2 := Lib.hid hw2
        clear hw2 hd
        go_wp2_with fail
        rw [← HW2.out]
        refine (require_any _ _ (i - 1) 6 _).mono ?_
        rintro _ _ (⟨hb, rfl, rfl⟩ | ⟨hb, rfl, rfl⟩)
        · rw [decide_eq_true_eq] at hb
          have HS := run_str (P := Tryz.prog) (c := c) 38 9 5 Tryz.underlying38 Tryz.underlying5 Tryz.underlying9 (Rb.of_own HW1.out)
          have HE : Hid (litP s.data.toList i = .ok ⟨o.toArray⟩ (j + 1)) := Lib.hid (by rw [HL.out, if_pos (by omega)])
          clear HW2 c1 fz
          generalize w1.setCell ⟨p, 1, none⟩ (.int .i64 ((j : Int) + 1)) = wz at *
          go_wp2
          go_ret
          exact .inl ⟨_, j + 1, HE, rfl, HJ2, HF2⟩
        · rw [decide_eq_false_iff_not] at hb
          have HE : Hid (litP s.data.toList i = .err (i - 1) 6) := Lib.hid (by rw [HL.out, if_neg (by omega)])
          exact ⟨rfl, .inr ⟨_, _, HE, rfl, HF2⟩⟩
      · have ht : ((x.toNat : Int) != 34) = true := by
          rw [bne_iff_ne]
          intro e
          exact hq (UInt8.toNat_inj.1 (by show x.toNat = 34; omega))
        have HL := Lib.hid (litL_char (a := i - 1) (f := f) (o := o) HX.out hq)
        go_wp2_with fail
        refine (char_any HJ1.out).mono ?_
        rintro _ w2 (⟨y, j2, hr, rfl, hp2, hf2⟩ | ⟨j2, e2, hr, rfl, hf2⟩)
        · obtain ⟨hj2, hj3⟩ := chrP_to hr.out
          rw [list_len] at hj3
          have HW1 := Lib.hid (own_frs HW.out ((hd.frs (S := One p)).trans hf2.out) (fun b e => by rw [show b = p from e]; exact HP.out.1.lt))
          have HF2 := Lib.hid (HF1.out.trans hf2.out)
          have HR2 : Hid (litL s.data.toList (i - 1) f j2 (o ++ [y]) = litL s.data.toList (i - 1) (s.data.toList.length + 1) i []) := Lib.hid (by rw [← HR.out, HL.out, hr.out]; rfl)
          have HY := Lib.hid (Rb.one w2 5 (y.toNat : Int) y rfl)
          have HB := Lib.hid HF2.out.size
          clear hd ht
          unfold byteV
          go_wp2_with (at_builtin; refine wpList_append_b8 rfl _ _ 38 rfl w.heap.size 5 ti (.int .u8 0) Tryz.underlying38 hti hz hsz hb rfl _ k (o.map b8) rfl (HW1.out.alloc _) (w2.heap.size + 1) (some ⟨w2.heap.size, 0, none⟩) 1 1 [y] rfl HY.out ?_ ?_ ?_)
          · omega
          · rw [World.size_alloc]; have := HB.out; omega
          · intro v3 w3 ho hg3
            obtain ⟨A3, c3, rfl, he1, he2⟩ := own_form ho
            have HO3 : Hid (w3.ownsRow w.heap.size 5 1 (.slice A3 (k + 1) c3) (k + 1) ((o ++ [y]).map b8)) := Lib.hid (by rw [List.map_append]; exact ho)
            have hbase := own_base HW1.out
            have HP3 : Hid (Ps w3 p s j2 n) := Lib.hid ((hp2.out.bk (Bk.grown (Bk.alloc hp2.out.1 _) hg3 (fun e => by have := hbase p e.symm; have := HP.out.1.lt; omega))))
            have HF3 : Hid (FrS (One p) w w3) := Lib.hid (HF2.out.next ((FrS.of_below ((Below.refl _ _).alloc (Nat.le_refl _) _)).trans (FrS.of_row (S := fun b => (Value.slice A k c).ownBlock = some b) hg3 (fun q h => h))) (fun b hb e => by have := hbase b e; omega))
            have HL3 : Hid ((o ++ [y]).length = k + 1) := Lib.hid (by rw [List.length_append, HO.out]; rfl)
            have he3 : c3 ≤ 9223372036854775807 := by unfold maxLen at he2; omega
            clear ho hg3 hbase
            go_wp2
            go_roundg f
            case measure => omega
            case rel => exact ⟨j2, o ++ [y], A3, c3, k + 1, by omega, rfl, he1, he3, HL3, by omega, hj3, HP3, HF3, HO3, HR2⟩
        · have HE : Hid (litP s.data.toList i = .err j2 e2) := Lib.hid (by unfold litP; rw [← HR.out, HL.out, hr.out]; rfl)
          exact ⟨rfl, .inr ⟨j2, e2, HE, rfl, Lib.hid (HF1.out.trans hf2.out)⟩⟩
    · have HE : Hid (litP s.data.toList i = .err j 4) := Lib.hid (by unfold litP; rw [← HR.out, litL_none (HJ.out.ends hend)]; rfl)
      exact ⟨rfl, .inr ⟨j, 4, HE, rfl, Lib.hid (HF.out.trans hd.frs)⟩⟩
end
end Go.Proofs.YtlgmhhimbabkjaaGreatDoor
