/-
  Contracts of isPlain, hexByte, character.
-/
import Derived.Test.YtemdcgeopaphaaaDoorKd
namespace Go.Proofs.YtemdcgeopaphaaaDoor
open Go.RowKit

theorem pln_nat (c : UInt8) : plnT c = (decide (32 ≤ c.toNat ∧ c.toNat ≤ 126) && !(decide (c.toNat = 34) || decide (c.toNat = 92))) := by
  unfold plnT
  have h : ∀ x : UInt8, (c == x) = decide (c.toNat = x.toNat) := fun x => by
    rw [Bool.eq_iff_iff, beq_iff_eq, decide_eq_true_iff]
    exact ⟨fun e => by rw [e], fun e => UInt8.toNat_inj.1 e⟩
  rw [h, h]
  rfl
set_option maxHeartbeats 1000000 in
theorem isPlain_any (c : UInt8) (w : World) : Calls Tryd.prog 46 #[.int .i32 (c.toNat : Int)] w fun e w' => e = .returned (.bool (plnT c)) ∧ w' = w := by
  have hlt := c.toNat_lt
  have HP := Lib.hid (pln_nat c)
  by_cases h1 : 32 ≤ c.toNat
  · by_cases h2 : c.toNat ≤ 126
    · by_cases h3 : c.toNat = 34
      · have HV : Hid (plnT c = false) := Lib.hid (by rw [HP.out, h3]; rfl)
        have t3 : ((c.toNat : Int) == 34) = true := by rw [beq_iff_eq]; omega
        have t3n : ((c.toNat : Int) != 34) = false := by rw [bne_eq_false_iff_eq]; omega
        go_enter Tryd.func46, Tryd.ntmps46
        go_wp2
        go_ret
        exact ⟨ret_bool HV.out.symm, rfl⟩
      · have t3 : ((c.toNat : Int) == 34) = false := by rw [beq_eq_false_iff_ne]; omega
        have t3n : ((c.toNat : Int) != 34) = true := by rw [bne_iff_ne]; omega
        by_cases h4 : c.toNat = 92
        · have HV : Hid (plnT c = false) := Lib.hid (by rw [HP.out, h4]; rfl)
          have t4n : ((c.toNat : Int) != 92) = false := by rw [bne_eq_false_iff_eq]; omega
          go_enter Tryd.func46, Tryd.ntmps46
          go_wp2
          go_ret
          exact ⟨ret_bool HV.out.symm, rfl⟩
        · have HV : Hid (plnT c = true) := Lib.hid (by rw [HP.out, decide_eq_true ⟨h1, h2⟩, decide_eq_false h3, decide_eq_false h4]; rfl)
          have t4n : ((c.toNat : Int) != 92) = true := by rw [bne_iff_ne]; omega
          go_enter Tryd.func46, Tryd.ntmps46
          go_wp2
          go_ret
          exact ⟨ret_bool HV.out.symm, rfl⟩
    · have HV : Hid (plnT c = false) := Lib.hid (by rw [HP.out, decide_eq_false (fun h => h2 h.2)]; rfl)
      go_enter Tryd.func46, Tryd.ntmps46
      go_wp2
      go_ret
      exact ⟨ret_bool HV.out.symm, rfl⟩
  · have HV : Hid (plnT c = false) := Lib.hid (by rw [HP.out, decide_eq_false (fun h => h1 h.1)]; rfl)
    go_enter Tryd.func46, Tryd.ntmps46
    go_wp2
    go_ret
    exact ⟨ret_bool HV.out.symm, rfl⟩

set_option maxRecDepth 100000 in
theorem startsP_any (t : ByteArray) (w : World) :
    Calls Tryd.prog 32 #[.string t, .func (.func 46) #[] #[]] w fun e w' => e = .returned (.bool (fst plnT t.data.toList)) ∧ w' = w := by
  by_cases h0 : 0 < t.size
  · have HF := Lib.hid (fst_at (p := plnT) h0)
    have t0 := nil_no h0
    have hw := wrap_byte t[0]
    go_enter Tryd.func32, Tryd.ntmps32
    go_wp2_with fail
    refine (isPlain_any t[0] _).mono ?_
    rintro e w2 ⟨rfl, rfl⟩
    go_wp2
    go_ret
    exact ⟨ret_bool HF.out.symm, rfl⟩
  · have h1 : t.size = 0 := by omega
    have HF := Lib.hid (fst_nil (p := plnT) h1)
    have t0 := nil_yes h1
    go_enter Tryd.func32, Tryd.ntmps32
    go_wp2
    go_ret
    exact ⟨ret_bool HF.out.symm, rfl⟩

def hexS : List UInt8 := [48, 49, 50, 51, 52, 53, 54, 55, 56, 57, 97, 98, 99, 100, 101, 102]
theorem hex_ix (c : UInt8) : Lib.indexByte hexS c = if hexT c then (hexV c : Int) else -1 := by
  have h : ((List.range 256).all fun n => Lib.indexByte hexS (UInt8.ofNat n) == (if hexT (UInt8.ofNat n) then (hexV (UInt8.ofNat n) : Int) else -1)) = true := by decide +kernel
  have := allN h c.toNat c.toNat_lt
  rw [UInt8.ofNat_toNat] at this
  exact eq_of_beq this
theorem hex_lt {c : UInt8} (h : hexT c = true) : hexV c < 16 := by
  have hh : ((List.range 256).all fun n => !(hexT (UInt8.ofNat n)) || decide (hexV (UInt8.ofNat n) < 16)) = true := by decide +kernel
  have := allN hh c.toNat c.toNat_lt
  rw [UInt8.ofNat_toNat, h] at this
  simpa using this
theorem hexIx_any (c : UInt8) (w : World) : Calls Tryd.prog 54 #[.string ⟨#[48, 49, 50, 51, 52, 53, 54, 55, 56, 57, 97, 98, 99, 100, 101, 102]⟩, .int .u8 (c.toNat : Int)] w fun e w' => e = .returned (.int .i64 (if hexT c then (hexV c : Int) else -1)) ∧ w' = w := by
  have := ix_any ⟨#[48, 49, 50, 51, 52, 53, 54, 55, 56, 57, 97, 98, 99, 100, 101, 102]⟩ (c.toNat : Int) w
  refine this.mono ?_
  rintro e w' ⟨rfl, rfl⟩
  refine ⟨?_, rfl⟩
  rw [← hex_ix]
  simp [hexS]

theorem or_hex : ∀ (a b : Nat), a < 16 → b < 16 → bits BinOp.or IntKind.i64 ((a : Int) * 16) (b : Int) = 16 * (a : Int) + (b : Int) := fun a b ha hb => by
  have h : ((List.range 16).all fun a => (List.range 16).all fun b => decide (bits BinOp.or IntKind.i64 ((a : Int) * 16) (b : Int) = 16 * (a : Int) + (b : Int))) = true := by decide +kernel
  have h1 := allN h a ha
  exact of_decide_eq_true (allN h1 b hb)
theorem or_zero (b : Nat) (hb : b < 16) : bits BinOp.or IntKind.i64 0 (b : Int) = (b : Int) := by
  have := or_hex 0 b (by decide) hb
  simpa using this
/-- what character hands back -/
def crV : CR → Value
  | .ok c n => .tuple #[.int .u8 (c.toNat : Int), .int .i64 (n : Nat), .int .i64 0]
  | .err e => .tuple #[.int .u8 0, .int .i64 0, .int .i64 e]
set_option maxRecDepth 100000 in
set_option maxHeartbeats 4000000 in
theorem hexByte_any (t : ByteArray) (w : World) (h2 : 2 ≤ t.size) (hz : t.size ≤ 1000000) :
    Calls Tryd.prog 60 #[.string t] w fun e w' => e = .returned (crV (hexC (t.data.toList.drop 2))) ∧ w' = w := by
  by_cases h3 : t.size = 2
  · have HV : Hid (hexC (t.data.toList.drop 2) = .err 4) := Lib.hid (by rw [List.drop_of_length_le (by simp [h3])]; rfl)
    have t2 : ((2 : Int) == (t.size : Int)) = true := by rw [beq_iff_eq]; omega
    go_enter Tryd.func60, Tryd.ntmps60
    go_wp2_with fail
    refine wp_loop_rounds 1 ?_
    rw [rounds_succ]
    go_wp2_with fail
    rw [HV.out]
    go_ret3
    exact ⟨rfl, rfl⟩
  · have h3' : 2 < t.size := by omega
    have t2 : ((2 : Int) == (t.size : Int)) = false := by rw [beq_eq_false_iff_ne]; omega
    have A2 := in_at h3'
    have HD : Hid (t.data.toList.drop 2 = t[2] :: t.data.toList.drop 3) := Lib.hid (by rw [List.drop_eq_getElem_cons (by simpa using h3')]; rw [List.getElem?_eq_getElem (by simpa using h3')] at A2; injection A2 with A2; rw [A2])
    clear A2
    cases hA : hexT t[2] with
    | false =>
      have HV : Hid (hexC (t.data.toList.drop 2) = .err 3) := Lib.hid (by rw [HD.out]; unfold hexC; simp only [hA]; rfl)
      have HI := Lib.hid (fun W => hexIx_any t[2] W)
      rw [hA] at HI
      go_enter Tryd.func60, Tryd.ntmps60
      go_wp2_with fail
      refine wp_loop_rounds 1 ?_
      rw [rounds_succ]
      go_wp2_with fail
      refine (HI.out _).mono ?_
      rintro _ _ ⟨rfl, rfl⟩
      go_wp2_with fail
      rw [HV.out]
      go_ret3
      exact ⟨rfl, rfl⟩
    | true =>
      have ha := hex_lt hA
      have HI := Lib.hid (fun W => hexIx_any t[2] W)
      rw [hA] at HI
      have ha0 : ¬ (hexV t[2] : Int) < 0 := by omega
      have ho := or_zero _ ha
      by_cases h4 : t.size = 3
      · have HV : Hid (hexC (t.data.toList.drop 2) = .err 4) := Lib.hid (by
          rw [HD.out, List.drop_of_length_le (l := t.data.toList) (i := 3) (by simp [h4])]; unfold hexC; simp only [hA]; rfl)
        have t3 : ((3 : Int) == (t.size : Int)) = true := by rw [beq_iff_eq]; omega
        go_enter Tryd.func60, Tryd.ntmps60
        go_wp2_with fail
        refine wp_loop_rounds 2 ?_
        rw [rounds_succ]
        go_wp2_with fail
        refine (HI.out _).mono ?_
        rintro _ _ ⟨rfl, rfl⟩
        go_wp2_with fail
        rw [rounds_succ]
        go_wp2_with fail
        rw [HV.out]
        go_ret3
        exact ⟨rfl, rfl⟩
      · have h4' : 3 < t.size := by omega
        have t3 : ((3 : Int) == (t.size : Int)) = false := by rw [beq_eq_false_iff_ne]; omega
        have A3 := in_at h4'
        have HD3 : Hid (t.data.toList.drop 3 = t[3] :: t.data.toList.drop 4) := Lib.hid (by rw [List.drop_eq_getElem_cons (by simpa using h4')]; rw [List.getElem?_eq_getElem (by simpa using h4')] at A3; injection A3 with A3; rw [A3])
        clear A3
        cases hB : hexT t[3] with
        | false =>
          have HV : Hid (hexC (t.data.toList.drop 2) = .err 3) := Lib.hid (by rw [HD.out, HD3.out]; unfold hexC; simp only [hA, hB]; rfl)
          have HI2 := Lib.hid (fun W => hexIx_any t[3] W)
          rw [hB] at HI2
          go_enter Tryd.func60, Tryd.ntmps60
          go_wp2_with fail
          refine wp_loop_rounds 2 ?_
          rw [rounds_succ]
          go_wp2_with fail
          refine (HI.out _).mono ?_
          rintro _ _ ⟨rfl, rfl⟩
          go_wp2_with fail
          rw [rounds_succ]
          go_wp2_with fail
          refine (HI2.out _).mono ?_
          rintro _ _ ⟨rfl, rfl⟩
          go_wp2_with fail
          rw [HV.out]
          go_ret3
          exact ⟨rfl, rfl⟩
        | true =>
          have hb := hex_lt hB
          have HV : Hid (hexC (t.data.toList.drop 2) = .ok (UInt8.ofNat (16 * hexV t[2] + hexV t[3])) 4) := Lib.hid (by rw [HD.out, HD3.out]; unfold hexC; simp only [hA, hB]; rfl)
          have HI2 := Lib.hid (fun W => hexIx_any t[3] W)
          rw [hB] at HI2
          have hb0 : ¬ (hexV t[3] : Int) < 0 := by omega
          have ho2 := or_hex _ _ ha hb
          go_enter Tryd.func60, Tryd.ntmps60
          go_wp2_with fail
          refine wp_loop_rounds 3 ?_
          rw [rounds_succ]
          go_wp2_with fail
          refine (HI.out _).mono ?_
          rintro _ _ ⟨rfl, rfl⟩
          go_wp2_with fail
          rw [rounds_succ]
          go_wp2_with fail
          refine (HI2.out _).mono ?_
          rintro _ _ ⟨rfl, rfl⟩
          go_wp2_with fail
          rw [rounds_succ]
          go_wp2_with fail
          rw [HV.out]
          go_ret3
          refine ⟨?_, rfl⟩
          have e : (((UInt8.ofNat (16 * hexV t[2] + hexV t[3])).toNat : Nat) : Int) = 16 * (hexV t[2] : Int) + (hexV t[3] : Int) := by
            rw [UInt8.toNat_ofNat_of_lt' (by show _ < 256; omega)]
            omega
          exact congrArg (fun x => Ending.returned (.tuple #[.int .u8 x, .int .i64 4, .int .i64 0])) e.symm

theorem drop_at {t : ByteArray} {k : Nat} (h : k < t.size) : t.data.toList.drop k = t[k] :: t.data.toList.drop (k + 1) := by
  have A := in_at h
  rw [List.drop_eq_getElem_cons (by simpa using h)]
  rw [List.getElem?_eq_getElem (by simpa using h)] at A
  injection A with A
  rw [A]
theorem ret_cr {a b : CR} (h : a = b) : Ending.returned (crV a) = .returned (crV b) := by rw [h]
theorem eq_nat {c x : UInt8} : (c = x) ↔ c.toNat = x.toNat := ⟨fun e => by rw [e], fun e => UInt8.toNat_inj.1 e⟩
set_option maxRecDepth 100000 in
set_option maxHeartbeats 4000000 in
theorem character_any (t : ByteArray) (w : World) (h1 : 1 ≤ t.size) (hz : t.size ≤ 1000000) :
    Calls Tryd.prog 49 #[.string t] w fun e w' => e = .returned (crV (chrC t.data.toList)) ∧ w' = w := by
  have hL := drop_at (t := t) (k := 0) h1
  rw [List.drop_zero] at hL
  have HL := Lib.hid hL
  have HF := Lib.hid (fst_at (p := plnT) h1)
  have HS := Lib.hid (fun W => startsP_any t W)
  have hlt := t[0].toNat_lt
  clear hL
  cases hp : plnT t[0] with
  | true =>
    have HV : Hid (chrC t.data.toList = .ok t[0] 1) := Lib.hid (by rw [HL.out]; unfold chrC; simp only [hp]; rfl)
    have HB : Hid (fst plnT t.data.toList = true) := Lib.hid (by rw [HF.out, hp])
    rw [HB.out] at HS
    go_enter Tryd.func49, Tryd.ntmps49
    go_wp2_with fail
    refine (HS.out _).mono ?_
    rintro _ _ ⟨rfl, rfl⟩
    go_wp2_with fail
    go_ret3
    exact ⟨ret_cr HV.out.symm, rfl⟩
  | false =>
    have HB : Hid (fst plnT t.data.toList = false) := Lib.hid (by rw [HF.out, hp])
    rw [HB.out] at HS
    by_cases h92 : t[0].toNat = 92
    · have t92 : ((t[0].toNat : Int) != 92) = false := by rw [bne_eq_false_iff_eq]; omega
      have t92b : ((t[0].toNat : Int) == 92) = true := by rw [beq_iff_eq]; omega
      have HV : Hid (chrC t.data.toList = escC (t.data.toList.drop 1)) := Lib.hid (by rw [HL.out]; unfold chrC; simp only [hp]; rw [if_neg (by decide), if_pos (eq_nat.2 h92)]; rfl)
      clear h92
      by_cases hs1 : t.size = 1
      · have HE : Hid (chrC t.data.toList = .err 4) := Lib.hid (by rw [HV.out, List.drop_of_length_le (by simp [hs1])]; rfl)
        have ts : ((t.size : Int) == 1) = true := by rw [beq_iff_eq]; omega
        go_enter Tryd.func49, Tryd.ntmps49
        go_wp2_with fail
        refine (HS.out _).mono ?_
        rintro _ _ ⟨rfl, rfl⟩
        go_wp2_with fail
        go_ret3
        exact ⟨ret_cr HE.out.symm, rfl⟩
      · have h2 : 1 < t.size := by omega
        have ts : ((t.size : Int) == 1) = false := by rw [beq_eq_false_iff_ne]; omega
        have HD := Lib.hid (drop_at h2)
        have HX := Lib.hid (hexByte_any t)
        have hlt1 := t[1].toNat_lt
        by_cases a1 : t[1].toNat = 34
        · have HE : Hid (chrC t.data.toList = .ok t[1] 2) := Lib.hid (by rw [HV.out, HD.out]; unfold escC; simp only; rw [if_pos (.inl (eq_nat.2 a1))])
          have t1 : ((t[1].toNat : Int) == 34) = true := by rw [beq_iff_eq]; omega
          clear a1
          go_enter Tryd.func49, Tryd.ntmps49
          go_wp2_with fail
          refine (HS.out _).mono ?_
          rintro _ _ ⟨rfl, rfl⟩
          go_wp2_with fail
          go_ret3
          exact ⟨ret_cr HE.out.symm, rfl⟩
        by_cases a2 : t[1].toNat = 92
        · have HE : Hid (chrC t.data.toList = .ok t[1] 2) := Lib.hid (by rw [HV.out, HD.out]; unfold escC; simp only; rw [if_pos (.inr (eq_nat.2 a2))])
          have t1 : ((t[1].toNat : Int) == 34) = false := by rw [beq_eq_false_iff_ne]; omega
          have t2 : ((t[1].toNat : Int) == 92) = true := by rw [beq_iff_eq]; omega
          clear a1 a2
          go_enter Tryd.func49, Tryd.ntmps49
          go_wp2_with fail
          refine (HS.out _).mono ?_
          rintro _ _ ⟨rfl, rfl⟩
          go_wp2_with fail
          go_ret3
          exact ⟨ret_cr HE.out.symm, rfl⟩
        have NO : Hid (¬ (t[1] = 34 ∨ t[1] = 92)) := Lib.hid (by rintro (h | h); exact a1 (eq_nat.1 h); exact a2 (eq_nat.1 h))
        have t1 : ((t[1].toNat : Int) == 34) = false := by rw [beq_eq_false_iff_ne]; omega
        have t2 : ((t[1].toNat : Int) == 92) = false := by rw [beq_eq_false_iff_ne]; omega
        clear a1 a2
        by_cases a3 : t[1].toNat = 110
        · have HE : Hid (chrC t.data.toList = .ok 10 2) := Lib.hid (by rw [HV.out, HD.out]; unfold escC; simp only; rw [if_neg NO.out, if_pos (eq_nat.2 a3)])
          have t3 : ((t[1].toNat : Int) == 110) = true := by rw [beq_iff_eq]; omega
          clear a3
          go_enter Tryd.func49, Tryd.ntmps49
          go_wp2_with fail
          refine (HS.out _).mono ?_
          rintro _ _ ⟨rfl, rfl⟩
          go_wp2_with fail
          go_ret3
          exact ⟨ret_cr HE.out.symm, rfl⟩
        have N3 : Hid (¬ t[1] = 110) := Lib.hid (fun h => a3 (eq_nat.1 h))
        have t3 : ((t[1].toNat : Int) == 110) = false := by rw [beq_eq_false_iff_ne]; omega
        clear a3
        by_cases a4 : t[1].toNat = 116
        · have HE : Hid (chrC t.data.toList = .ok 9 2) := Lib.hid (by rw [HV.out, HD.out]; unfold escC; simp only; rw [if_neg NO.out, if_neg N3.out, if_pos (eq_nat.2 a4)])
          have t4 : ((t[1].toNat : Int) == 116) = true := by rw [beq_iff_eq]; omega
          clear a4
          go_enter Tryd.func49, Tryd.ntmps49
          go_wp2_with fail
          refine (HS.out _).mono ?_
          rintro _ _ ⟨rfl, rfl⟩
          go_wp2_with fail
          go_ret3
          exact ⟨ret_cr HE.out.symm, rfl⟩
        have N4 : Hid (¬ t[1] = 116) := Lib.hid (fun h => a4 (eq_nat.1 h))
        have t4 : ((t[1].toNat : Int) == 116) = false := by rw [beq_eq_false_iff_ne]; omega
        clear a4
        by_cases a5 : t[1].toNat = 120
        · have HE : Hid (chrC t.data.toList = hexC (t.data.toList.drop 2)) := Lib.hid (by rw [HV.out, HD.out]; unfold escC; simp only; rw [if_neg NO.out, if_neg N3.out, if_neg N4.out, if_pos (eq_nat.2 a5)])
          have t5 : ((t[1].toNat : Int) == 120) = true := by rw [beq_iff_eq]; omega
          clear a5
          rw [HE.out]
          cases hc : hexC (t.data.toList.drop 2) with
          | ok c n =>
            rw [hc] at HX
            go_enter Tryd.func49, Tryd.ntmps49
            go_wp2_with fail
            refine (HS.out _).mono ?_
            rintro _ _ ⟨rfl, rfl⟩
            go_wp2_with fail
            refine (HX.out _ h2 hz).mono ?_
            rintro _ _ ⟨rfl, rfl⟩
            unfold crV
            go_wp2_with fail
            go_ret3
            exact ⟨rfl, rfl⟩
          | err e =>
            rw [hc] at HX
            go_enter Tryd.func49, Tryd.ntmps49
            go_wp2_with fail
            refine (HS.out _).mono ?_
            rintro _ _ ⟨rfl, rfl⟩
            go_wp2_with fail
            refine (HX.out _ h2 hz).mono ?_
            rintro _ _ ⟨rfl, rfl⟩
            unfold crV
            go_wp2_with fail
            go_ret3
            exact ⟨rfl, rfl⟩
        · have HE : Hid (chrC t.data.toList = .err 3) := Lib.hid (by rw [HV.out, HD.out]; unfold escC; simp only; rw [if_neg NO.out, if_neg N3.out, if_neg N4.out, if_neg (fun h => a5 (eq_nat.1 h))])
          have t5 : ((t[1].toNat : Int) == 120) = false := by rw [beq_eq_false_iff_ne]; omega
          clear a5
          go_enter Tryd.func49, Tryd.ntmps49
          go_wp2_with fail
          refine (HS.out _).mono ?_
          rintro _ _ ⟨rfl, rfl⟩
          go_wp2_with fail
          go_ret3
          exact ⟨ret_cr HE.out.symm, rfl⟩
    · have t92 : ((t[0].toNat : Int) != 92) = true := by rw [bne_iff_ne]; omega
      have t92b : ((t[0].toNat : Int) == 92) = false := by rw [beq_eq_false_iff_ne]; omega
      have HE : Hid (chrC t.data.toList = .err 3) := Lib.hid (by rw [HL.out]; unfold chrC; simp only [hp]; rw [if_neg (by decide), if_neg (fun h => h92 (eq_nat.1 h))])
      clear h92
      go_enter Tryd.func49, Tryd.ntmps49
      go_wp2_with fail
      refine (HS.out _).mono ?_
      rintro _ _ ⟨rfl, rfl⟩
      go_wp2_with fail
      go_ret3
      exact ⟨ret_cr HE.out.symm, rfl⟩
end Go.Proofs.YtemdcgeopaphaaaDoor
