/-
  The reference's parser: escape.
-/
import Derived.Test.YtlgmhhimbabkjaaGreatDoorRd
namespace Go.Proofs.YtlgmhhimbabkjaaGreatDoor
open Go.RowKit

/-- what escape gives back: the byte, the state at the escape's last byte; or the fault -/
def EscR (r : PR UInt8) (p : Nat) (s : ByteArray) (n : Nat) (w : World) (e : Ending) (w' : World) : Prop :=
  (∃ c j, r = .ok c (j + 1) ∧ e = .returned (.int .u8 (c.toNat : Int)) ∧ Rn w' p s j n ∧ FrS (One p) w w') ∨ ∃ j c, r = .err j c ∧ e = .returned (.int .u8 0) ∧ Bad w' p s j c ∧ FrS (One p) w w'
/-- a step of the offset that need not stay within the text -/
theorem Sb.to {w : World} {p : Nat} {s : ByteArray} {i n a e : Int} (h : Sb w p s i n a e) (j : Int) : Sb (w.setCell ⟨p, 1, none⟩ (.int .i64 j)) p s j n a e := by
  have := h.put 1 (.int .i64 j)
  simpa [Sb] using this
theorem hxv_lt {c : UInt8} (h : hxd c = true) : hxv c < 16 := by
  rw [hxd_nat] at h
  unfold hxv
  have e2 : (57 : UInt8).toNat = 57 := rfl
  split
  · rename_i h1
    have := UInt8.le_iff_toNat_le.1 h1
    simp at h
    omega
  · simp at h
    omega

/-- k hexadecimal digits are read, their number is N; q is the last byte that was read -/
def HexAt (l : List UInt8) (i k q N : Nat) : Prop :=
  (k = 0 ∧ q = i + 1 ∧ N = 0 ∧ escP l (i + 1) = (tkP hxd l (q + 1)).bind fun h j2 => (tkP hxd l j2).bind fun d j3 => .ok (UInt8.ofNat (16 * hxv h + hxv d)) j3) ∨
  (k = 1 ∧ N < 16 ∧ escP l (i + 1) = (tkP hxd l (q + 1)).bind fun d j3 => .ok (UInt8.ofNat (16 * N + hxv d)) j3) ∨
  (k = 2 ∧ escP l (i + 1) = .ok (UInt8.ofNat N) (q + 1))
theorem HexAt.small {l : List UInt8} {i k q N : Nat} (h : HexAt l i k q N) (hk : k < 2) : N < 16 := by
  rcases h with ⟨_, _, h, _⟩ | ⟨_, h, _⟩ | ⟨h, _⟩ <;> omega
theorem HexAt.step {l : List UInt8} {i k q N : Nat} {d : UInt8} (h : HexAt l i k q N) (hd : l[q + 1]? = some d) (hx : hxd d = true) (hk : k < 2) : HexAt l i (k + 1) (q + 1) (16 * N + hxv d) := by
  have hv := hxv_lt hx
  rcases h with ⟨rfl, rfl, rfl, h⟩ | ⟨rfl, hN, h⟩ | ⟨rfl, _⟩
  · refine .inr (.inl ⟨rfl, by omega, ?_⟩)
    rw [h, tkP_ok hd hx, PR.bind_ok, Nat.mul_zero, Nat.zero_add]
  · refine .inr (.inr ⟨rfl, ?_⟩)
    rw [h, tkP_ok hd hx, PR.bind_ok]
  · omega
theorem HexAt.no {l : List UInt8} {i k q N : Nat} {d : UInt8} (h : HexAt l i k q N) (hd : l[q + 1]? = some d) (hx : hxd d = false) (hk : k < 2) : escP l (i + 1) = .err (q + 1) 3 := by
  rcases h with ⟨rfl, _, rfl, h⟩ | ⟨rfl, hN, h⟩ | ⟨rfl, _⟩
  · rw [h, tkP_no hd hx]; rfl
  · rw [h, tkP_no hd hx]; rfl
  · omega
theorem HexAt.short {l : List UInt8} {i k q N : Nat} (h : HexAt l i k q N) (hd : l.length ≤ q + 1) (hk : k < 2) : escP l (i + 1) = .err (q + 1) 4 := by
  rcases h with ⟨rfl, _, rfl, h⟩ | ⟨rfl, hN, h⟩ | ⟨rfl, _⟩
  · rw [h, tkP_none hd]; rfl
  · rw [h, tkP_none hd]; rfl
  · omega
theorem HexAt.done {l : List UInt8} {i k q N : Nat} (h : HexAt l i k q N) (hk : ¬ k < 2) : escP l (i + 1) = .ok (UInt8.ofNat N) (q + 1) := by
  rcases h with ⟨rfl, _⟩ | ⟨rfl, _⟩ | ⟨_, h⟩
  · omega
  · omega
  · exact h

section
variable {w : World} {p : Nat} {s : ByteArray} {i n : Nat}
set_option maxRecDepth 100000 in
set_option maxHeartbeats 4000000 in
theorem escape_any (h : Rn w p s i n) (hi : i < s.size) :
    Calls Tryz.prog 81 #[.pointer (some ⟨p, 0, none⟩)] w (EscR (escP s.data.toList (i + 1)) p s n w) := by
  have H1 := h.2.2.1
  have c1 := h.1.cell 1
  have f1 := h.1.frozen 1
  have HP := Lib.hid (h.to (i + 1) hi)
  have HF := Lib.hid (FrS.one w p 1 (.int .i64 ((i + 1 : Nat) : Int)))
  clear h
  go_enter Tryz.func81, Tryz.ntmps81
  go_wp2_with fail
  have e1 : ((i + 1 : Nat) : Int) = (i : Int) + 1 := by omega
  rw [e1] at HP HF
  generalize w.setCell ⟨p, 1, none⟩ (.int .i64 ((i : Int) + 1)) = w1 at *
  clear c1 f1 e1
  refine (rpeek_run HP.out).mono ?_
  rintro _ w2 (⟨c, hc, rfl, hd⟩ | ⟨hn, rfl, hb, hf⟩)
  · have HP2 := Lib.hid (HP.out.dr hd)
    have HF2 := Lib.hid (HF.out.trans hd.frs)
    have HC := Lib.hid hc
    have hlt := at_lt hc
    clear hd hc
    have hn : ∀ n : Nat, n < 256 → c.toNat = n → c = UInt8.ofNat n := fun n hn h => UInt8.toNat_inj.1 (by rw [h, UInt8.toNat_ofNat']; omega)
    have c1 := HP2.out.1.cell 1
    by_cases h34 : c.toNat = 34 ∨ c.toNat = 92
    · have HE : Hid (escP s.data.toList (i + 1) = .ok c (i + 1 + 1)) := Lib.hid (by
        unfold escP
        rcases h34 with h | h
        · have := hn 34 (by decide) h
          rw [tkP_ok HC.out (by rw [this]; rfl), PR.bind_ok, this]; rfl
        · have := hn 92 (by decide) h
          rw [tkP_ok HC.out (by rw [this]; rfl), PR.bind_ok, this]; rfl)
      have HR : Hid (EscR (escP s.data.toList (i + 1)) p s n w (.returned (.int .u8 (c.toNat : Int))) w2) := Lib.hid (.inl ⟨c, i + 1, HE.out, rfl, HP2.out, HF2.out⟩)
      clear hn HE
      rcases h34 with h | h
      · have t34 : ((c.toNat : Int) == 34) = true := by rw [h]; rfl
        clear h
        go_wp2_with fail
        go_ret
        exact HR.out
      · have t34 : ((c.toNat : Int) == 34) = false := by rw [h]; rfl
        have t92 : ((c.toNat : Int) == 92) = true := by rw [h]; rfl
        clear h
        go_wp2_with fail
        go_ret
        exact HR.out
    have t34 : ((c.toNat : Int) == 34) = false := by rw [beq_eq_false_iff_ne]; omega
    have t92 : ((c.toNat : Int) == 92) = false := by rw [beq_eq_false_iff_ne]; omega
    by_cases h110 : c.toNat = 110
    · have HE : Hid (escP s.data.toList (i + 1) = .ok 10 (i + 1 + 1)) := Lib.hid (by
        unfold escP
        have := hn 110 (by decide) h110
        rw [tkP_ok HC.out (by rw [this]; rfl), PR.bind_ok, this]; rfl)
      have t110 : ((c.toNat : Int) == 110) = true := by rw [h110]; rfl
      clear hn h34 h110
      go_wp2_with fail
      go_ret
      exact .inl ⟨10, i + 1, HE.out, rfl, HP2.out, HF2.out⟩
    have t110 : ((c.toNat : Int) == 110) = false := by rw [beq_eq_false_iff_ne]; omega
    by_cases h116 : c.toNat = 116
    · have HE : Hid (escP s.data.toList (i + 1) = .ok 9 (i + 1 + 1)) := Lib.hid (by
        unfold escP
        have := hn 116 (by decide) h116
        rw [tkP_ok HC.out (by rw [this]; rfl), PR.bind_ok, this]; rfl)
      have t116 : ((c.toNat : Int) == 116) = true := by rw [h116]; rfl
      clear hn h34 h110 h116
      go_wp2_with fail
      go_ret
      exact .inl ⟨9, i + 1, HE.out, rfl, HP2.out, HF2.out⟩
    have t116 : ((c.toNat : Int) == 116) = false := by rw [beq_eq_false_iff_ne]; omega
    by_cases h120 : c.toNat = 120
    · have HE : Hid (escP s.data.toList (i + 1) = (tkP hxd s.data.toList (i + 1 + 1)).bind fun h j2 => (tkP hxd s.data.toList j2).bind fun d j3 => .ok (UInt8.ofNat (16 * hxv h + hxv d)) j3) := Lib.hid (by
        unfold escP
        have := hn 120 (by decide) h120
        rw [tkP_ok HC.out (by rw [this]; rfl), PR.bind_ok, this]; rfl)
      have t120 : ((c.toNat : Int) == 120) = true := by rw [h120]; rfl
      have t120n : ((c.toNat : Int) != 120) = false := by rw [h120]; rfl
      clear hn h34 h110 h116 h120 c1
      have hq := at_lt HC.out
      go_wp2_with fail
      go_loopw [4, 5] (fun a t wr => ∃ k q N : Nat, k ≤ 2 ∧ t = .int .i64 k ∧ a = .int .i64 N ∧ N < 256 ∧ q < s.size ∧ Hid (Rn wr p s q n) ∧ Hid (FrS (One p) w wr) ∧ Hid (HexAt s.data.toList i k q N)) (fun _ t _ => 2 - (intOf t).toNat)
      case atStart => exact ⟨0, i + 1, 0, by omega, rfl, rfl, by omega, hq, HP2, HF2, Lib.hid (.inl ⟨rfl, rfl, rfl, HE.out⟩)⟩
      case round =>
        obtain ⟨k, q, N, hk, rfl, rfl, hN, hq, HJ, HG, HX⟩ := hrel
        by_cases hlt : k < 2
        · have c1 := HJ.out.1.cell 1
          have f1 := HJ.out.1.frozen 1
          have HP3 := Lib.hid (HJ.out.to (q + 1) hq)
          have HG3 := Lib.hid (HG.out.trans (FrS.one wr p 1 (.int .i64 ((q + 1 : Nat) : Int))))
          have e1 : ((q + 1 : Nat) : Int) = (q : Int) + 1 := by omega
          rw [e1] at HP3 HG3
          go_wp2_with fail
          generalize wr.setCell ⟨p, 1, none⟩ (.int .i64 ((q : Int) + 1)) = w3 at *
          clear c1 f1 e1
          refine (rpeek_run HP3.out).mono ?_
          rintro _ w4 (⟨d, hd0, rfl, hd⟩ | ⟨hn0, rfl, hb, hf⟩)
          · have HP4 := Lib.hid (HP3.out.dr hd)
            have HG4 := Lib.hid (HG3.out.trans hd.frs)
            have HD := Lib.hid hd0
            have hq2 := at_lt hd0
            clear hd hd0
            go_wp2_with fail
            refine (value16_any d _).mono ?_
            rintro _ w' ⟨rfl, rfl⟩
            cases hx : hxd d with
            | true =>
              have hv : v16 d = ((hxv d : Nat) : Int) := by unfold v16; rw [hx, if_pos rfl]
              have hvl := hxv_lt hx
              have HS := Lib.hid (HX.out.step HD.out hx hlt)
              have hNN := HX.out.small hlt
              rw [hv]
              clear hx hv HX
              go_wp2_with fail
              go_roundw
              case rel => exact ⟨k + 1, q + 1, 16 * N + hxv d, by omega, by go_num, by go_num, by omega, hq2, HP4, HG4, HS⟩
              case measure => simp [intOf]; omega
            | false =>
              have hv : v16 d = -1 := by unfold v16; rw [hx]; rfl
              have HS := Lib.hid (HX.out.no HD.out hx hlt)
              have c1 := HP4.out.1.cell 1
              rw [hv]
              clear hx hv HX
              go_wp2_with fail
              refine (fail_run HP4.out.1 _ 3).mono ?_
              rintro _ w5 ⟨rfl, hb, hf⟩
              have HB := Lib.hid hb
              have HF3 := Lib.hid (HG4.out.trans hf)
              clear hb hf c1
              go_wp2
              go_ret
              exact .inr ⟨_, _, HS.out, rfl, ⟨_, _, HB.out, by decide, by omega, by omega⟩, HF3.out⟩
          · have HB := Lib.hid hb
            have HF3 := Lib.hid (HG3.out.trans hf)
            have HS := Lib.hid (HX.out.short hn0 hlt)
            obtain ⟨i2, n2, hb2, _, _, _⟩ := hb
            have c1 := hb2.cell 1
            have HQ := Lib.hid hb2
            have HV : Hid (∀ W, Calls Tryz.prog 97 #[.int .u8 0] W fun e w' => e = .returned (.int .i64 (-1)) ∧ W = w') := Lib.hid (fun W => value16_any 0 W)
            clear hf hn0 hb2
            go_wp2_with fail
            refine (HV.out _).mono ?_
            rintro _ w' ⟨rfl, rfl⟩
            go_wp2_with fail
            refine (fail_bad HQ.out (by decide) _ 3).mono ?_
            rintro _ _ ⟨rfl, rfl⟩
            go_wp2
            go_ret
            exact .inr ⟨_, _, HS.out, rfl, HB.out, HF3.out⟩
        · have HS := Lib.hid (HX.out.done (by omega))
          have hw : (UInt8.ofNat N).toNat = N := by rw [UInt8.toNat_ofNat']; omega
          go_wp2_with fail
          go_ret
          exact .inl ⟨UInt8.ofNat N, q, HS.out, by rw [hw]; rfl, HJ.out, HG.out⟩
    · have HE : Hid (escP s.data.toList (i + 1) = .err (i + 1) 3) := Lib.hid (by
        unfold escP
        rw [tkP_no HC.out]
        · rfl
        · unfold esq
          rw [Bool.eq_false_iff]
          intro e
          simp only [Bool.or_eq_true, beq_iff_eq] at e
          rcases e with (((e | e) | e) | e) | e <;> (rw [e] at h34 h110 h116 h120; first | exact h34 (.inl rfl) | exact h34 (.inr rfl) | exact h110 rfl | exact h116 rfl | exact h120 rfl))
      have t120 : ((c.toNat : Int) == 120) = false := by rw [beq_eq_false_iff_ne]; omega
      clear hn h34 h110 h116 h120
      go_wp2_with fail
      refine (fail_run HP2.out.1 _ 3).mono ?_
      rintro _ w3 ⟨rfl, hb, hf⟩
      have HB := Lib.hid hb
      have HF3 := Lib.hid (HF2.out.trans hf)
      clear hb hf c1
      go_wp2
      go_ret
      exact .inr ⟨_, _, HE.out, rfl, ⟨_, _, HB.out, by decide, by omega, by omega⟩, HF3.out⟩
  · have HB := Lib.hid hb
    have HF2 := Lib.hid (HF.out.trans hf)
    have HE : Hid (escP s.data.toList (i + 1) = .err (i + 1) 4) := Lib.hid (by unfold escP; rw [tkP_none hn]; rfl)
    obtain ⟨i2, n2, hb2, _, _, _⟩ := hb
    have c1 := hb2.cell 1
    have HS := Lib.hid hb2
    clear hf hn hb2
    go_wp2_with fail
    refine (fail_bad HS.out (by decide) _ 3).mono ?_
    rintro _ _ ⟨rfl, rfl⟩
    go_wp2
    go_ret
    exact .inr ⟨_, _, HE.out, rfl, HB.out, HF2.out⟩
end
end Go.Proofs.YtlgmhhimbabkjaaGreatDoor
