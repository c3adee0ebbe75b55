/-
  The reference's parser: key.
-/
import Derived.Test.YtlgmhhimbabkjaaGreatDoorRp
import Derived.Test.YtlgmhhimbabkjaaGreatDoorRf
namespace Go.Proofs.YtlgmhhimbabkjaaGreatDoor
open Go.RowKit

/-- a key that is none of ks -/
def keyP (l : List UInt8) (ks : List ByteArray) (i : Nat) : PR ByteArray :=
  (tkP (fun x => x == 34) l (skip l i)).bind fun _ j => (litP l j).bind fun key j2 => if (ks.any fun q => decide (q = key)) = true then .err (skip l i) 9 else .ok key j2
def KeyR (r : PR ByteArray) (p : Nat) (s : ByteArray) (n : Nat) (w : World) (e : Ending) (w' : World) : Prop :=
  Hid (FrS (One p) w w') ∧ ∃ t, e = .returned (.string t) ∧ ((∃ j, Hid (r = .ok t j) ∧ Hid (Rn w' p s j n)) ∨ ∃ j c, Hid (r = .err j c) ∧ Hid (Bad w' p s j c))
theorem any_no {ks : List ByteArray} {t : ByteArray} (h : ∀ q ∈ ks, q ≠ t) : (ks.any fun q => decide (q = t)) = false := by
  rw [List.any_eq_false]
  intro q hq
  rw [decide_eq_true_iff]
  exact h q hq
theorem any_yes {ks : List ByteArray} {t : ByteArray} {j : Nat} (h : ks[j]? = some t) : (ks.any fun q => decide (q = t)) = true := by
  rw [List.any_eq_true]
  exact ⟨t, List.mem_of_getElem? h, decide_eq_true rfl⟩

section
variable {w : World} {p : Nat} {s : ByteArray} {i n : Nat}
set_option maxRecDepth 100000 in
set_option maxHeartbeats 8000000 in
theorem key_any (S : Nat → Prop) (k z : Int) (t : ByteArray) (A : Option Addr) (m c : Nat) (A' : Option Addr) (c' : Nat) (ks : List ByteArray) (h : Rn w p s i n) (hS : LiesS w S A' ks) (hp : ¬ S p) (_ : ks.length ≤ c') (_ : c' ≤ 9223372036854775807) :
    Calls Tryz.prog 83 #[.pointer (some ⟨p, 0, none⟩), .agg #[.int .i64 k, .int .i64 z, .string t, .slice A m c, .slice A' ks.length c']] w (KeyR (keyP s.data.toList ks i) p s n w) := by
  have H1 := h.2.2.1
  obtain ⟨w1, hw1⟩ : ∃ w1, w1 = w.alloc (.cells #[.int .i64 k, .int .i64 z, .string t, .slice A m c, .slice A' ks.length c'] 25) := ⟨_, rfl⟩
  have HF1 : Hid (FrS (One p) w w1) := Lib.hid (by rw [hw1]; exact FrS.of_below ((Below.refl _ _).alloc (Nat.le_refl _) _))
  have HP1 : Hid (Rn w1 p s i n) := Lib.hid (h.bk (by rw [hw1]; exact Bk.alloc h.1 _))
  have HB1 : Hid (Bk w1 w.heap.size 25 #[.int .i64 k, .int .i64 z, .string t, .slice A m c, .slice A' ks.length c']) := Lib.hid (by rw [hw1]; exact Bk.new _ _ _)
  have NQ : Hid (w.heap.size ≠ p) := Lib.hid (by have := Bk.lt h.1; omega)
  have HS := Lib.hid hS
  have HNP := Lib.hid hp
  have HW := Lib.hid hw1
  have BL := Lib.hid (rblank_run HP1.out)
  have HK : Hid (∀ r, r = keyP s.data.toList ks i → r = (tkP (fun x => x == 34) s.data.toList (skip s.data.toList i)).bind fun _ j => (litP s.data.toList j).bind fun key j2 => if (ks.any fun q => decide (q = key)) = true then .err (skip s.data.toList i) 9 else .ok key j2) := Lib.hid (fun r h => h)
  obtain ⟨r, hr⟩ : ∃ r, r = keyP s.data.toList ks i := ⟨_, rfl⟩
  rw [← hr]
  have HR := Lib.hid (HK.out r hr)
  generalize skip s.data.toList i = q at *
  clear h hS hp hw1 hr HK
  go_enter Tryz.func83, Tryz.ntmps83
  go_wp2_with fail
  rw [← HW.out]
  refine (BL.out).mono ?_
  rintro _ w2 ⟨rfl, hr2, hf2⟩
  have HP2 := Lib.hid hr2
  have HF2 := Lib.hid hf2
  have c1 := HP2.out.1.cell 1
  clear hr2 hf2
  go_wp2_with fail
  refine (rpeek_run HP2.out).mono ?_
  rintro _ w3 (⟨x, hx, rfl, hd⟩ | ⟨hn, rfl, hb, hf⟩)
  · have HX := Lib.hid hx
    have HP3 := Lib.hid (HP2.out.dr hd)
    have HF3 := Lib.hid (HF2.out.trans hd.frs)
    have hq2 := at_lt hx
    have hlx : x.toNat < 256 := x.toNat_lt
    clear hd hx c1
    have c1 := HP3.out.1.cell 1
    by_cases h34 : x.toNat = 34
    · have t34 : ((x.toNat : Int) == 34) = true := by rw [h34]; rfl
      have t34n : ((x.toNat : Int) != 34) = false := by rw [h34]; rfl
      have HR2 : Hid (r = (litP s.data.toList (q + 1)).bind fun key j2 => if (ks.any fun q => decide (q = key)) = true then .err q 9 else .ok key j2) := Lib.hid (by
        rw [HR.out, tkP_ok HX.out (by rw [show x = 34 from UInt8.toNat_inj.1 h34]; rfl)]; rfl)
      clear h34
      go_wp2_with fail
      refine (rliteral_any HP3.out hq2).mono ?_
      clear c1
      have HLL : ∀ (T : ByteArray) (w4 : World) (e : Ending), ((∃ jj, Hid (litP s.data.toList (q + 1) = .ok T jj) ∧ Rn w4 p s jj n ∧ FrS (One p) w3 w4) ∨ ∃ a e2, Hid (litP s.data.toList (q + 1) = .err a e2) ∧ Bad w4 p s a e2 ∧ FrS (One p) w3 w4) → Hid (FrS (One p) w1 w4) ∧ Hid ((∃ jj, litP s.data.toList (q + 1) = .ok T jj ∧ Rn w4 p s jj n) ∨ ∃ a e2, r = .err a e2 ∧ Bad w4 p s a e2) := by
        rintro T w4 _ (⟨jj, h1, h2, h3⟩ | ⟨a, e2, h1, h2, h3⟩)
        · exact ⟨Lib.hid (HF3.out.trans h3), Lib.hid (.inl ⟨jj, h1.out, h2⟩)⟩
        · exact ⟨Lib.hid (HF3.out.trans h3), Lib.hid (.inr ⟨a, e2, by rw [HR2.out, h1.out]; rfl, h2⟩)⟩
      have HLH := Lib.hid HLL
      clear HLL
      rintro e4 w4 hlit
      obtain ⟨T, rfl, hlit2⟩ : ∃ T, e4 = .returned (.string T) ∧ ((∃ jj, Hid (litP s.data.toList (q + 1) = .ok T jj) ∧ Rn w4 p s jj n ∧ FrS (One p) w3 w4) ∨ ∃ a e2, Hid (litP s.data.toList (q + 1) = .err a e2) ∧ Bad w4 p s a e2 ∧ FrS (One p) w3 w4) := by
        rcases hlit with ⟨T, jj, h1, rfl, h2, h3⟩ | ⟨a, e2, T, h1, rfl, h2, h3⟩
        · exact ⟨T, rfl, .inl ⟨jj, h1, h2, h3⟩⟩
        · exact ⟨T, rfl, .inr ⟨a, e2, h1, h2, h3⟩⟩
      obtain ⟨HF4, HST⟩ := HLH.out T w4 (.returned (.string T)) hlit2
      clear hlit hlit2
      go_wp2_with fail
      go_loopg [7] ks.length (fun gh iv wr => ∃ j : Nat, j ≤ ks.length ∧ gh = ks.length - j ∧ iv = .int .i64 j ∧ Hid (FrS (One p) w1 wr) ∧ ((∃ jj, Hid (litP s.data.toList (q + 1) = .ok T jj) ∧ Hid (Rn wr p s jj n) ∧ Hid (∀ q ∈ ks.take j, q ≠ T)) ∨ ∃ a e2, Hid (r = .err a e2) ∧ Hid (Bad wr p s a e2)))
      case atStart =>
        refine ⟨0, by omega, rfl, rfl, HF4, ?_⟩
        rcases HST.out with ⟨jj, h1, h2⟩ | ⟨a, e2, h1, h2⟩
        · exact .inl ⟨jj, Lib.hid h1, Lib.hid h2, Lib.hid (fun q hq => by simp at hq)⟩
        · exact .inr ⟨a, e2, Lib.hid h1, Lib.hid h2⟩
      case round =>
        obtain ⟨j, hj, rfl, rfl, HF, hst⟩ := hrel
        have HST2 := Lib.hid hst
        clear hst
        have p4 := (HF.out.bk HB1.out (fun e => NQ.out e)).cell 4
        change _ = some (Value.slice A' ks.length c') at p4
        by_cases hlt : j < ks.length
        · have g1 := List.getElem?_eq_getElem (l := ks) (i := j) hlt
          obtain ⟨hkz, gk, ok, rfl, hgk, ek⟩ := HS.out j _ g1
          have htk : ks.take (j + 1) = ks.take j ++ [ks[j]'hlt] := by rw [List.take_add_one, g1]; rfl
          generalize ks[j]'hlt = kj at *
          have HTK := Lib.hid htk
          have HG := Lib.hid g1
          rw [← (HF1.out.trans HF.out).cell (p := ⟨gk, ok + j, none⟩) (World.block_lt_of_cell? w _ ek) (fun e => HNP.out (by rw [show p = gk from e.symm]; exact hgk))] at ek
          clear g1 htk hgk
          by_cases hk : kj = T
          · have t1 : (kj.toList == T.toList) = true := by rw [hk]; simp
            have HKT := Lib.hid hk
            clear hk
            go_wp2_with fail
            rcases HST2.out with ⟨jj, h1, h2, h3⟩ | ⟨a, e2, h1, h2⟩
            · refine (fail_run h2.out.1 _ 9).mono ?_
              rintro _ w5 ⟨rfl, hbb, hff⟩
              have HE : Hid (r = .err q 9) := Lib.hid (by
                rw [HR2.out, h1.out, PR.bind_ok, if_pos (any_yes (by rw [HG.out, HKT.out]))])
              have HBD : Hid (Bad w5 p s q 9) := Lib.hid ⟨_, _, hbb, by decide, by have := h2.out.2; omega, by have := h2.out.2; omega⟩
              have HF5 := Lib.hid (HF.out.trans hff)
              clear hbb hff h1 h2 h3 p4 ek
              go_wp2_with fail
              go_roundg (ks.length - (j + 1))
              case measure => omega
              case rel => exact ⟨j + 1, hlt, rfl, by go_num, HF5, .inr ⟨_, _, HE, HBD⟩⟩
            · obtain ⟨i2, n2, hb2, he2, _, _⟩ := h2.out
              refine (fail_bad hb2 he2 _ 9).mono ?_
              rintro _ _ ⟨rfl, rfl⟩
              clear hb2 he2 p4 ek
              go_wp2_with fail
              go_roundg (ks.length - (j + 1))
              case measure => omega
              case rel => exact ⟨j + 1, hlt, rfl, by go_num, HF, .inr ⟨_, _, h1, h2⟩⟩
          · have t1 : (kj.toList == T.toList) = false := by rw [beq_eq_false_iff_ne]; exact fun e => hk (str_inj e)
            have HKT := Lib.hid hk
            clear hk
            go_wp2_with fail
            go_roundg (ks.length - (j + 1))
            case measure => omega
            case rel =>
              refine ⟨j + 1, hlt, rfl, by go_num, HF, ?_⟩
              rcases HST2.out with ⟨jj, h1, h2, h3⟩ | ⟨a, e2, h1, h2⟩
              · refine .inl ⟨jj, h1, h2, Lib.hid (fun q hq => ?_)⟩
                rw [HTK.out] at hq
                rcases List.mem_append.1 hq with hq | hq
                · exact h3.out q hq
                · rw [List.mem_singleton.1 hq]; exact HKT.out
              · exact .inr ⟨a, e2, h1, h2⟩
        · have HJ : Hid (ks.take j = ks) := Lib.hid (List.take_of_length_le (by omega))
          go_wp2_with fail
          go_ret
          refine ⟨Lib.hid (HF1.out.trans HF.out), _, rfl, ?_⟩
          rcases HST2.out with ⟨jj, h1, h2, h3⟩ | ⟨a, e2, h1, h2⟩
          · refine .inl ⟨jj, Lib.hid ?_, h2⟩
            rw [HR2.out, h1.out, PR.bind_ok, if_neg]
            rw [any_no (by rw [HJ.out] at h3; exact h3.out)]
            decide
          · exact .inr ⟨a, e2, h1, h2⟩
    · have t34 : ((x.toNat : Int) == 34) = false := by rw [beq_eq_false_iff_ne]; omega
      have t34n : ((x.toNat : Int) != 34) = true := by rw [bne_iff_ne]; omega
      have HE : Hid (r = .err q 3) := Lib.hid (by
        rw [HR.out, tkP_no HX.out]
        · rfl
        · rw [beq_eq_false_iff_ne]; exact fun e => h34 (by rw [e]; rfl))
      clear h34
      go_wp2_with fail
      refine (fail_run HP3.out.1 _ 3).mono ?_
      rintro _ w4 ⟨rfl, hbb, hff⟩
      have HBD : Hid (Bad w4 p s q 3) := Lib.hid ⟨_, _, hbb, by decide, by omega, by omega⟩
      have HF4 := Lib.hid (HF1.out.trans (HF3.out.trans hff))
      clear hbb hff c1
      go_wp2
      go_ret
      exact ⟨HF4, _, rfl, .inr ⟨_, _, HE, HBD⟩⟩
  · have HBD := Lib.hid hb
    have HF3 := Lib.hid (HF1.out.trans (HF2.out.trans hf))
    have HE : Hid (r = .err q 4) := Lib.hid (by rw [HR.out, tkP_none hn]; rfl)
    have t34n : ((0 : Int) != 34) = true := rfl
    obtain ⟨i2, n2, hb2, _, _, _⟩ := hb
    clear c1
    have c1 := hb2.cell 1
    have HQ := Lib.hid hb2
    clear hb2 hf hn
    go_wp2_with fail
    refine (fail_bad HQ.out (by decide) _ 3).mono ?_
    rintro _ _ ⟨rfl, rfl⟩
    go_wp2
    go_ret
    exact ⟨HF3, _, rfl, .inr ⟨_, _, HE, HBD⟩⟩
end
end Go.Proofs.YtlgmhhimbabkjaaGreatDoor
