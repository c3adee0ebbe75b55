/-
  The reference's parser: number, ctd. (gen_rnum.py)
-/
import Derived.Test.YtlgmhhimbabkjaaGreatDoorRp
namespace Go.Proofs.YtlgmhhimbabkjaaGreatDoor
open Go.RowKit
section
variable {w : World} {p : Nat} {s : ByteArray} {i n : Nat}
set_option maxRecDepth 100000 in
set_option maxHeartbeats 20000000 in
theorem number_pos (h : Rn w p s i n) (hi : i < s.size) (h45 : ¬ s[i].toNat = 45) (hs : s[i] = 45 ∨ dig s[i] = true) :
    Calls Tryz.prog 57 #[.pointer (some ⟨p, 0, none⟩)] w (RedR (intP s.data.toList s[i] (i + 1)) intV p s n w) := by
  have HP0 := Lib.hid h
  have H1 := h.2.2.1
  have HA0 := Lib.hid (in_at hi)
  have hb0 : s[i].toNat < 256 := s[i].toNat_lt
  clear h
  go_enter Tryz.func57, Tryz.ntmps57
  go_upto_region 1 with (fail)
  obtain ⟨w1, hw1⟩ : ∃ w1, w1 = w.alloc (.cells #[.int .i64 0, .int .i64 0, .string ⟨#[]⟩, .slice none 0 0, .slice none 0 0] 25) := ⟨_, rfl⟩
  have HQ : Hid (Bk w1 w.heap.size 25 #[.int .i64 0, .int .i64 0, .string ⟨#[]⟩, .slice none 0 0, .slice none 0 0]) := Lib.hid (by rw [hw1]; exact Bk.new _ _ _)
  have HF1 : Hid (FrS (One p) w w1) := Lib.hid (by rw [hw1]; exact FrS.of_below ((Below.refl _ _).alloc (Nat.le_refl _) _))
  have HP : Hid (Rn w1 p s i n) := Lib.hid (HP0.out.bk (by rw [hw1]; exact Bk.alloc HP0.out.1 _))
  have NQ : Hid (w.heap.size ≠ p) := Lib.hid (by have := Bk.lt HP0.out.1; omega)
  rw [← hw1]
  clear hw1
  have c0 := HP.out.1.cell 0
  have c1 := HP.out.1.cell 1
  · have HD0 : Hid (dig s[i] = true) := Lib.hid (by rcases hs with h | h; exact absurd (by rw [h]; rfl) h45; exact h)
    have HFD := HD0
    have t45 : ((s[i].toNat : Int) == 45) = false := by rw [beq_eq_false_iff_ne]; omega
    clear h45 hs
    go_wp2_with fail
    go_quiet (fail)
    have HPo := Lib.hid (HP.out.dr (Dr.next w1 nq))
    have HFo : Hid (FrS (One p) w1 (w1.drewN nq)) := Lib.hid (Dr.next w1 nq).frs
    clear c0 c1 t45
    generalize w1.drewN nq = wo at *
    go_wp2_with fail
    refine (rpeek_some HPo.out HA0.out _ (Dr.refl _)).mono ?_
    rintro _ w4 ⟨rfl, hd⟩
    have HP4 := Lib.hid (HPo.out.dr hd)
    have HF4 := Lib.hid (HFo.out.trans hd.frs)
    have c4 := HP4.out.1.cell 4
    have c1 := HP4.out.1.cell 1
    have HDG := Lib.hid (fun (W : World) => rdigit_any s[i] W)
    rw [HD0.out] at HDG
    clear hd
    go_wp2_with (first | (go_at_call 80; refine (HDG.out _).mono ?_; rintro _ _ ⟨rfl, rfl⟩))
    clear c1 c4
    go_loopg [7, 8] (s.size - (i)) (fun gh zv ov wr => ∃ (q U : Nat) (z : Int) (b : Bool), i ≤ q ∧ q ≤ s.size ∧ gh = s.size - q ∧ zv = .int .i64 z ∧ ov = .bool b ∧ Hid (Rn wr p s q n) ∧ Hid (FrS (One p) w1 wr) ∧ Hid (run dig s.data.toList q = run dig s.data.toList (i)) ∧ Hid (DS s.data.toList (i) q U) ∧ Hid (Ovi b z U) ∧ Hid (s[i] = 48 → q ≤ i + 1))
    case atStart => exact ⟨i, 0, 0, false, Nat.le_refl _, Nat.le_of_lt hi, rfl, rfl, rfl, HP4, HF4, Lib.hid rfl, Lib.hid (DS.start (by rw [list_len]; omega)), Lib.hid (.inl ⟨rfl, rfl, by omega⟩), Lib.hid (fun _ => by omega)⟩
    case round =>
      obtain ⟨q, U, z, b, hFq, hq, rfl, rfl, rfl, HJ, HF, HRun, HDS, HO, H48⟩ := hrel
      have c0 := HJ.out.1.cell 0
      have c1 := HJ.out.1.cell 1
      by_cases hlt : q < s.size
      · have ht : decide ((q : Int) < (s.size : Int)) = true := by rw [decide_eq_true_eq]; omega
        have HA := Lib.hid (in_at hlt)
        have HDG := Lib.hid (fun (W : World) => rdigit_any s[q] W)
        have hbq : s[q].toNat < 256 := s[q].toNat_lt
        cases hdg : dig s[q] with
        | true =>
          rw [hdg] at HDG
          have HDT := Lib.hid hdg
          have HRun2 := Lib.hid ((run_on HA.out HDT.out).symm.trans HRun.out)
          have HDS2 := Lib.hid (HDS.out.step HA.out HDT.out)
          have hdn : 48 ≤ s[q].toNat ∧ s[q].toNat ≤ 57 := by rw [dig_nat9, decide_eq_true_iff] at hdg; exact hdg
          obtain ⟨hd1, hd2⟩ := hdn
          clear hdg
          go_wp2_with fail
          go_quiet ((go_at_call 80; exact Calls.quiet_of_same ((HDG.out _).mono fun _ _ h => ⟨h.1, h.2.symm⟩)))
          have HP2 := Lib.hid (HJ.out.dr (Dr.next wr nq))
          have HF2 := Lib.hid (HF.out.trans (Dr.next wr nq).frs)
          clear c0 c1 ht
          generalize wr.drewN nq = w2 at *
          have c0 := HP2.out.1.cell 0
          have c1 := HP2.out.1.cell 1
          cases h48 : ((s[i].toNat : Int) == 48) with
          | false =>
            have H482 : Hid (s[i] = 48 → q + 1 ≤ i + 1) := Lib.hid (fun e => by rw [e] at h48; cases h48)
            have hsub : IntKind.u8.wrap ((s[q].toNat : Int) - 48) = ((s[q].toNat - 48 : Nat) : Int) := by rw [IntKind.wrap_u8]; omega
            go_wp2_with fail
            go_quiet (fail)
            have HP3 := Lib.hid (HP2.out.dr (Dr.next w2 nq))
            have HF3 := Lib.hid (HF2.out.trans (Dr.next w2 nq).frs)
            clear c0 c1
            generalize w2.drewN nq = w3 at *
            have c1 := HP3.out.1.cell 1
            have fz := HP3.out.1.frozen 1
            have HP4 := Lib.hid (HP3.out.to (q + 1) hlt)
            have HF4 := Lib.hid (HF3.out.trans (FrS.one w3 p 1 (.int .i64 ((q + 1 : Nat) : Int))))
            generalize hdd : s[q].toNat - 48 = d at *
            have hd9 : d ≤ 9 := by omega
            have HO2 := Lib.hid (fun b2 z2 => HO.out.step hd9 b2 z2)
            have HZ : Hid (z = -(U : Int) ∧ U ≤ 9223372036854775808 ∨ b = true) := Lib.hid (by rcases HO.out with ⟨_, h1, h2⟩ | ⟨h, _⟩; exact .inl ⟨h1, h2⟩; exact .inr h)
            clear hdd hsub
            cases b with
            | true =>
              have HB : Hid (true = (true || decide (z < -922337203685477580) || (z == -922337203685477580 && decide (8 < d)))) := Lib.hid rfl
              go_wp2
              go_roundg (s.size - (q + 1))
              case measure => omega
              case rel => exact ⟨q + 1, 10 * U + d, _, _, by omega, hlt, rfl, rfl, rfl, HP4, HF4, HRun2, HDS2, Lib.hid (HO2.out _ _ HB.out (fun e => by first | (cases e; done) | rfl | omega | (refine wrap64_in ?_ ?_ <;> (try rw [beq_eq_false_iff_ne] at hE) <;> (try rw [beq_iff_eq] at hE) <;> (try have h9 := of_decide_eq_false h8) <;> omega))), Lib.hid H482.out⟩
            | false =>
              have HZ2 : Hid (z = -(U : Int) ∧ U ≤ 9223372036854775808) := Lib.hid (HZ.out.resolve_right (by decide))
              have hz0 : -9223372036854775808 ≤ z ∧ z ≤ 0 := by have := HZ2.out; omega
              obtain ⟨hz1, hz2⟩ := hz0
              cases hA : decide (z < -922337203685477580) with
              | true =>
                have HB : Hid (true = (false || decide (z < -922337203685477580) || (z == -922337203685477580 && decide (8 < d)))) := Lib.hid (by rw [hA]; rfl)
                go_wp2
                go_roundg (s.size - (q + 1))
                case measure => omega
                case rel => exact ⟨q + 1, 10 * U + d, _, _, by omega, hlt, rfl, rfl, rfl, HP4, HF4, HRun2, HDS2, Lib.hid (HO2.out _ _ HB.out (fun e => by first | (cases e; done) | rfl | omega | (refine wrap64_in ?_ ?_ <;> (try rw [beq_eq_false_iff_ne] at hE) <;> (try rw [beq_iff_eq] at hE) <;> (try have h9 := of_decide_eq_false h8) <;> omega))), Lib.hid H482.out⟩
              | false =>
                have hz3 : ¬ z < -922337203685477580 := of_decide_eq_false hA
                cases hE : (z == -922337203685477580) with
                | false =>
                  have HB : Hid (false = (false || decide (z < -922337203685477580) || (z == -922337203685477580 && decide (8 < d)))) := Lib.hid (by rw [hA, hE]; rfl)
                  go_wp2
                  go_roundg (s.size - (q + 1))
                  case measure => omega
                  case rel => exact ⟨q + 1, 10 * U + d, _, _, by omega, hlt, rfl, rfl, rfl, HP4, HF4, HRun2, HDS2, Lib.hid (HO2.out _ _ HB.out (fun e => by first | (cases e; done) | rfl | omega | (refine wrap64_in ?_ ?_ <;> (try rw [beq_eq_false_iff_ne] at hE) <;> (try rw [beq_iff_eq] at hE) <;> (try have h9 := of_decide_eq_false h8) <;> omega))), Lib.hid H482.out⟩
                | true =>
                  cases h8 : decide ((8 : Int) < (d : Int)) with
                  | true =>
                    have HB : Hid (true = (false || decide (z < -922337203685477580) || (z == -922337203685477580 && decide (8 < d)))) := Lib.hid (by rw [hA, hE, decide_eq_true (by have := of_decide_eq_true h8; omega)]; rfl)
                    go_wp2
                    go_roundg (s.size - (q + 1))
                    case measure => omega
                    case rel => exact ⟨q + 1, 10 * U + d, _, _, by omega, hlt, rfl, rfl, rfl, HP4, HF4, HRun2, HDS2, Lib.hid (HO2.out _ _ HB.out (fun e => by first | (cases e; done) | rfl | omega | (refine wrap64_in ?_ ?_ <;> (try rw [beq_eq_false_iff_ne] at hE) <;> (try rw [beq_iff_eq] at hE) <;> (try have h9 := of_decide_eq_false h8) <;> omega))), Lib.hid H482.out⟩
                  | false =>
                    have HB : Hid (false = (false || decide (z < -922337203685477580) || (z == -922337203685477580 && decide (8 < d)))) := Lib.hid (by rw [hA, hE, decide_eq_false (by have := of_decide_eq_false h8; omega)]; rfl)
                    go_wp2
                    go_roundg (s.size - (q + 1))
                    case measure => omega
                    case rel => exact ⟨q + 1, 10 * U + d, _, _, by omega, hlt, rfl, rfl, rfl, HP4, HF4, HRun2, HDS2, Lib.hid (HO2.out _ _ HB.out (fun e => by first | (cases e; done) | rfl | omega | (refine wrap64_in ?_ ?_ <;> (try rw [beq_eq_false_iff_ne] at hE) <;> (try rw [beq_iff_eq] at hE) <;> (try have h9 := of_decide_eq_false h8) <;> omega))), Lib.hid H482.out⟩
          | true =>
            have H480 : Hid (s[i] = 48) := Lib.hid (UInt8.toNat_inj.1 (by rw [beq_iff_eq] at h48; show s[i].toNat = 48; omega))
            have hq1 := H48.out H480.out
            by_cases hqi : q = i
            · have H482 : Hid (s[i] = 48 → q + 1 ≤ i + 1) := Lib.hid (fun _ => by omega)
              clear hq1
              subst hqi
              have hsub : IntKind.u8.wrap ((s[q].toNat : Int) - 48) = ((s[q].toNat - 48 : Nat) : Int) := by rw [IntKind.wrap_u8]; omega
              go_wp2_with fail
              go_quiet (fail)
              have HP3 := Lib.hid (HP2.out.dr (Dr.next w2 nq))
              have HF3 := Lib.hid (HF2.out.trans (Dr.next w2 nq).frs)
              clear c0 c1
              generalize w2.drewN nq = w3 at *
              have c1 := HP3.out.1.cell 1
              have fz := HP3.out.1.frozen 1
              have HP4 := Lib.hid (HP3.out.to (q + 1) hlt)
              have HF4 := Lib.hid (HF3.out.trans (FrS.one w3 p 1 (.int .i64 ((q + 1 : Nat) : Int))))
              generalize hdd : s[q].toNat - 48 = d at *
              have hd9 : d ≤ 9 := by omega
              have HO2 := Lib.hid (fun b2 z2 => HO.out.step hd9 b2 z2)
              have HZ : Hid (z = -(U : Int) ∧ U ≤ 9223372036854775808 ∨ b = true) := Lib.hid (by rcases HO.out with ⟨_, h1, h2⟩ | ⟨h, _⟩; exact .inl ⟨h1, h2⟩; exact .inr h)
              clear hdd hsub
              cases b with
              | true =>
                have HB : Hid (true = (true || decide (z < -922337203685477580) || (z == -922337203685477580 && decide (8 < d)))) := Lib.hid rfl
                go_wp2
                go_roundg (s.size - (q + 1))
                case measure => omega
                case rel => exact ⟨q + 1, 10 * U + d, _, _, by omega, hlt, rfl, rfl, rfl, HP4, HF4, HRun2, HDS2, Lib.hid (HO2.out _ _ HB.out (fun e => by first | (cases e; done) | rfl | omega | (refine wrap64_in ?_ ?_ <;> (try rw [beq_eq_false_iff_ne] at hE) <;> (try rw [beq_iff_eq] at hE) <;> (try have h9 := of_decide_eq_false h8) <;> omega))), Lib.hid H482.out⟩
              | false =>
                have HZ2 : Hid (z = -(U : Int) ∧ U ≤ 9223372036854775808) := Lib.hid (HZ.out.resolve_right (by decide))
                have hz0 : -9223372036854775808 ≤ z ∧ z ≤ 0 := by have := HZ2.out; omega
                obtain ⟨hz1, hz2⟩ := hz0
                cases hA : decide (z < -922337203685477580) with
                | true =>
                  have HB : Hid (true = (false || decide (z < -922337203685477580) || (z == -922337203685477580 && decide (8 < d)))) := Lib.hid (by rw [hA]; rfl)
                  go_wp2
                  go_roundg (s.size - (q + 1))
                  case measure => omega
                  case rel => exact ⟨q + 1, 10 * U + d, _, _, by omega, hlt, rfl, rfl, rfl, HP4, HF4, HRun2, HDS2, Lib.hid (HO2.out _ _ HB.out (fun e => by first | (cases e; done) | rfl | omega | (refine wrap64_in ?_ ?_ <;> (try rw [beq_eq_false_iff_ne] at hE) <;> (try rw [beq_iff_eq] at hE) <;> (try have h9 := of_decide_eq_false h8) <;> omega))), Lib.hid H482.out⟩
                | false =>
                  have hz3 : ¬ z < -922337203685477580 := of_decide_eq_false hA
                  cases hE : (z == -922337203685477580) with
                  | false =>
                    have HB : Hid (false = (false || decide (z < -922337203685477580) || (z == -922337203685477580 && decide (8 < d)))) := Lib.hid (by rw [hA, hE]; rfl)
                    go_wp2
                    go_roundg (s.size - (q + 1))
                    case measure => omega
                    case rel => exact ⟨q + 1, 10 * U + d, _, _, by omega, hlt, rfl, rfl, rfl, HP4, HF4, HRun2, HDS2, Lib.hid (HO2.out _ _ HB.out (fun e => by first | (cases e; done) | rfl | omega | (refine wrap64_in ?_ ?_ <;> (try rw [beq_eq_false_iff_ne] at hE) <;> (try rw [beq_iff_eq] at hE) <;> (try have h9 := of_decide_eq_false h8) <;> omega))), Lib.hid H482.out⟩
                  | true =>
                    cases h8 : decide ((8 : Int) < (d : Int)) with
                    | true =>
                      have HB : Hid (true = (false || decide (z < -922337203685477580) || (z == -922337203685477580 && decide (8 < d)))) := Lib.hid (by rw [hA, hE, decide_eq_true (by have := of_decide_eq_true h8; omega)]; rfl)
                      go_wp2
                      go_roundg (s.size - (q + 1))
                      case measure => omega
                      case rel => exact ⟨q + 1, 10 * U + d, _, _, by omega, hlt, rfl, rfl, rfl, HP4, HF4, HRun2, HDS2, Lib.hid (HO2.out _ _ HB.out (fun e => by first | (cases e; done) | rfl | omega | (refine wrap64_in ?_ ?_ <;> (try rw [beq_eq_false_iff_ne] at hE) <;> (try rw [beq_iff_eq] at hE) <;> (try have h9 := of_decide_eq_false h8) <;> omega))), Lib.hid H482.out⟩
                    | false =>
                      have HB : Hid (false = (false || decide (z < -922337203685477580) || (z == -922337203685477580 && decide (8 < d)))) := Lib.hid (by rw [hA, hE, decide_eq_false (by have := of_decide_eq_false h8; omega)]; rfl)
                      go_wp2
                      go_roundg (s.size - (q + 1))
                      case measure => omega
                      case rel => exact ⟨q + 1, 10 * U + d, _, _, by omega, hlt, rfl, rfl, rfl, HP4, HF4, HRun2, HDS2, Lib.hid (HO2.out _ _ HB.out (fun e => by first | (cases e; done) | rfl | omega | (refine wrap64_in ?_ ?_ <;> (try rw [beq_eq_false_iff_ne] at hE) <;> (try rw [beq_iff_eq] at hE) <;> (try have h9 := of_decide_eq_false h8) <;> omega))), Lib.hid H482.out⟩
            · have tq : decide ((i : Int) < (q : Int)) = true := by rw [decide_eq_true_iff]; omega
              have HE : Hid (intP s.data.toList s[i] (i + 1) = .err q 3) := Lib.hid (by
                obtain rfl : q = i + 1 := by omega
                exact intP_48 H480.out (by unfold isD; rw [HA.out]; exact HDT.out))
              go_wp2_with fail
              refine (fail_run HP2.out.1 _ 3).mono ?_
              rintro _ w3 ⟨rfl, hbb, hff⟩
              have HBD : Hid (Bad w3 p s _ 3) := Lib.hid ⟨_, _, hbb, by decide, by omega, by omega⟩
              have HF3 := Lib.hid (HF2.out.trans hff)
              clear hbb hff
              have HQ5 := Lib.hid (HF3.out.bk HQ.out (fun e => NQ.out e))
              have d0 := HQ5.out.cell 0
              have d1 := HQ5.out.cell 1
              have d2 := HQ5.out.cell 2
              have d3 := HQ5.out.cell 3
              have d4 := HQ5.out.cell 4
              have f0 := HQ5.out.frozen 0
              have f1 := HQ5.out.frozen 1
              have f2 := HQ5.out.frozen 2
              have f3 := HQ5.out.frozen 3
              have f4 := HQ5.out.frozen 4
              go_wp2
              obtain ⟨wf, hwf⟩ : ∃ wf, wf = put5 w3 w.heap.size 0 (.int .i64 0) (.int .i64 0) (.string ⟨#[]⟩) (.slice none 0 0) (.slice none 0 0) := ⟨_, rfl⟩
              have QF : Hid (Bk wf w.heap.size 25 #[.int .i64 0, .int .i64 0, .string ⟨#[]⟩, .slice none 0 0, .slice none 0 0]) := Lib.hid (by rw [hwf]; exact put5_bk HQ5.out)
              have PF : Hid (Bad wf p s q 3) := Lib.hid (by rw [hwf]; exact HBD.out.put5 (Ne.symm NQ.out))
              have FF : Hid (FrS (One p) w wf) := Lib.hid (by rw [hwf]; exact frs_put5 (HF1.out.trans HF3.out) (Nat.le_refl _))
              change bodyPost _ _ _ _ _ (put5 w3 w.heap.size 0 (.int .i64 0) (.int .i64 0) (.string ⟨#[]⟩) (.slice none 0 0) (.slice none 0 0))
              rw [← hwf]
              refine bodyPost_ret (results_cell_row rfl _ _ w.heap.size 25 _ (0, 0) _ rfl QF.out Tryz.underlying25 rfl (by kernel_rfl)) rfl ?_
              exact ⟨FF, .inr ⟨_, _, HE, rfl, PF⟩⟩
        | false =>
          rw [hdg] at HDG
          have HEnd : Hid (run dig s.data.toList (i) = q) := Lib.hid (HRun.out.symm.trans (run_off HA.out hdg))
          have HLess : Hid (i < q) := Lib.hid (by
            rcases Nat.lt_or_ge (i) q with h | h
            · exact h
            · obtain rfl : q = i := by omega
              exact absurd hdg (by rw [HFD.out]; decide))
          clear hdg
          go_wp2_with fail
          go_quiet ((go_at_call 80; exact Calls.quiet_of_same ((HDG.out _).mono fun _ _ h => ⟨h.1, h.2.symm⟩)))
          have HP2 := Lib.hid (HJ.out.dr (Dr.next wr nq))
          have HF2 := Lib.hid (HF.out.trans (Dr.next wr nq).frs)
          clear c0 c1 ht
          generalize wr.drewN nq = w2 at *
          have HN : Hid (intP s.data.toList s[i] (i + 1) = if U < 9223372036854775808 then .ok (U : Int) q else .err i 14) := Lib.hid (by
            rw [int_pos HA0.out HD0.out HEnd.out H48.out]
            exact num_pos HDS.out HLess.out)
          cases b with
          | true =>
            have HE : Hid (intP s.data.toList s[i] (i + 1) = .err i 14) := Lib.hid (by
              rw [HN.out, if_neg]
              rcases HO.out with ⟨h, _⟩ | ⟨_, h⟩
              · cases h
              · omega)
            go_wp2_with fail
            refine (fail_run HP2.out.1 _ 14).mono ?_
            rintro _ w3 ⟨rfl, hbb, hff⟩
            have HBD : Hid (Bad w3 p s _ 14) := Lib.hid ⟨_, _, hbb, by decide, by omega, by omega⟩
            have HF3 := Lib.hid (HF2.out.trans hff)
            clear hbb hff
            have HQ5 := Lib.hid (HF3.out.bk HQ.out (fun e => NQ.out e))
            have d0 := HQ5.out.cell 0
            have d1 := HQ5.out.cell 1
            have d2 := HQ5.out.cell 2
            have d3 := HQ5.out.cell 3
            have d4 := HQ5.out.cell 4
            have f0 := HQ5.out.frozen 0
            have f1 := HQ5.out.frozen 1
            have f2 := HQ5.out.frozen 2
            have f3 := HQ5.out.frozen 3
            have f4 := HQ5.out.frozen 4
            go_wp2
            obtain ⟨wf, hwf⟩ : ∃ wf, wf = put5 w3 w.heap.size 0 (.int .i64 0) (.int .i64 0) (.string ⟨#[]⟩) (.slice none 0 0) (.slice none 0 0) := ⟨_, rfl⟩
            have QF : Hid (Bk wf w.heap.size 25 #[.int .i64 0, .int .i64 0, .string ⟨#[]⟩, .slice none 0 0, .slice none 0 0]) := Lib.hid (by rw [hwf]; exact put5_bk HQ5.out)
            have PF : Hid (Bad wf p s i 14) := Lib.hid (by rw [hwf]; exact HBD.out.put5 (Ne.symm NQ.out))
            have FF : Hid (FrS (One p) w wf) := Lib.hid (by rw [hwf]; exact frs_put5 (HF1.out.trans HF3.out) (Nat.le_refl _))
            change bodyPost _ _ _ _ _ (put5 w3 w.heap.size 0 (.int .i64 0) (.int .i64 0) (.string ⟨#[]⟩) (.slice none 0 0) (.slice none 0 0))
            rw [← hwf]
            refine bodyPost_ret (results_cell_row rfl _ _ w.heap.size 25 _ (0, 0) _ rfl QF.out Tryz.underlying25 rfl (by kernel_rfl)) rfl ?_
            exact ⟨FF, .inr ⟨_, _, HE, rfl, PF⟩⟩
          | false =>
            have HZ : Hid (z = -(U : Int) ∧ U ≤ 9223372036854775808) := Lib.hid (by
              rcases HO.out with ⟨_, h⟩ | ⟨h, _⟩
              · exact h
              · cases h)
            cases hM : (z == -9223372036854775808) with
            | true =>
              have HE : Hid (intP s.data.toList s[i] (i + 1) = .err i 14) := Lib.hid (by
                rw [HN.out, if_neg]
                rw [beq_iff_eq] at hM
                have := HZ.out
                omega)
              go_wp2_with fail
              refine (fail_run HP2.out.1 _ 14).mono ?_
              rintro _ w3 ⟨rfl, hbb, hff⟩
              have HBD : Hid (Bad w3 p s _ 14) := Lib.hid ⟨_, _, hbb, by decide, by omega, by omega⟩
              have HF3 := Lib.hid (HF2.out.trans hff)
              clear hbb hff
              have HQ5 := Lib.hid (HF3.out.bk HQ.out (fun e => NQ.out e))
              have d0 := HQ5.out.cell 0
              have d1 := HQ5.out.cell 1
              have d2 := HQ5.out.cell 2
              have d3 := HQ5.out.cell 3
              have d4 := HQ5.out.cell 4
              have f0 := HQ5.out.frozen 0
              have f1 := HQ5.out.frozen 1
              have f2 := HQ5.out.frozen 2
              have f3 := HQ5.out.frozen 3
              have f4 := HQ5.out.frozen 4
              go_wp2
              obtain ⟨wf, hwf⟩ : ∃ wf, wf = put5 w3 w.heap.size 0 (.int .i64 0) (.int .i64 0) (.string ⟨#[]⟩) (.slice none 0 0) (.slice none 0 0) := ⟨_, rfl⟩
              have QF : Hid (Bk wf w.heap.size 25 #[.int .i64 0, .int .i64 0, .string ⟨#[]⟩, .slice none 0 0, .slice none 0 0]) := Lib.hid (by rw [hwf]; exact put5_bk HQ5.out)
              have PF : Hid (Bad wf p s i 14) := Lib.hid (by rw [hwf]; exact HBD.out.put5 (Ne.symm NQ.out))
              have FF : Hid (FrS (One p) w wf) := Lib.hid (by rw [hwf]; exact frs_put5 (HF1.out.trans HF3.out) (Nat.le_refl _))
              change bodyPost _ _ _ _ _ (put5 w3 w.heap.size 0 (.int .i64 0) (.int .i64 0) (.string ⟨#[]⟩) (.slice none 0 0) (.slice none 0 0))
              rw [← hwf]
              refine bodyPost_ret (results_cell_row rfl _ _ w.heap.size 25 _ (0, 0) _ rfl QF.out Tryz.underlying25 rfl (by kernel_rfl)) rfl ?_
              exact ⟨FF, .inr ⟨_, _, HE, rfl, PF⟩⟩
            | false =>
              have HU : Hid (U < 9223372036854775808) := Lib.hid (by
                rw [beq_eq_false_iff_ne] at hM
                have := HZ.out
                omega)
              have HE : Hid (intP s.data.toList s[i] (i + 1) = .ok (U : Int) q) := Lib.hid (by rw [HN.out, if_pos HU.out])
              have hneg : IntKind.i64.wrap (-z) = (U : Int) := by rw [IntKind.wrap_i64]; have := HZ.out; have := HU.out; omega
              have HQ5 := Lib.hid (HF2.out.bk HQ.out (fun e => NQ.out e))
              have d0 := HQ5.out.cell 0
              have d1 := HQ5.out.cell 1
              have d2 := HQ5.out.cell 2
              have d3 := HQ5.out.cell 3
              have d4 := HQ5.out.cell 4
              have f0 := HQ5.out.frozen 0
              have f1 := HQ5.out.frozen 1
              have f2 := HQ5.out.frozen 2
              have f3 := HQ5.out.frozen 3
              have f4 := HQ5.out.frozen 4
              go_wp2
              obtain ⟨wf, hwf⟩ : ∃ wf, wf = put5 w2 w.heap.size 0 (.int .i64 2) (.int .i64 (U : Int)) (.string ⟨#[]⟩) (.slice none 0 0) (.slice none 0 0) := ⟨_, rfl⟩
              have QF : Hid (Bk wf w.heap.size 25 #[.int .i64 2, .int .i64 (U : Int), .string ⟨#[]⟩, .slice none 0 0, .slice none 0 0]) := Lib.hid (by rw [hwf]; exact put5_bk HQ5.out)
              have PF : Hid (Rn wf p s q n) := Lib.hid (by rw [hwf]; exact HP2.out.put5 (Ne.symm NQ.out))
              have FF : Hid (FrS (One p) w wf) := Lib.hid (by rw [hwf]; exact frs_put5 (HF1.out.trans HF2.out) (Nat.le_refl _))
              change bodyPost _ _ _ _ _ (put5 w2 w.heap.size 0 (.int .i64 2) (.int .i64 (U : Int)) (.string ⟨#[]⟩) (.slice none 0 0) (.slice none 0 0))
              rw [← hwf]
              refine bodyPost_ret (results_cell_row rfl _ _ w.heap.size 25 _ (0, 0) _ rfl QF.out Tryz.underlying25 rfl (by kernel_rfl)) rfl ?_
              exact ⟨FF, .inl ⟨_, _, HE, rfl, PF⟩⟩
      · have ht : decide ((q : Int) < (s.size : Int)) = false := by rw [decide_eq_false_iff_not]; omega
        have HEnd : Hid (run dig s.data.toList (i) = q) := Lib.hid (HRun.out.symm.trans (run_end (by rw [list_len]; omega)))
        have HLess : Hid (i < q) := Lib.hid (by omega)
        go_wp2_with fail
        go_quiet (fail)
        have HP2 := Lib.hid (HJ.out.dr (Dr.next wr nq))
        have HF2 := Lib.hid (HF.out.trans (Dr.next wr nq).frs)
        clear c0 c1 ht
        generalize wr.drewN nq = w2 at *
        have HN : Hid (intP s.data.toList s[i] (i + 1) = if U < 9223372036854775808 then .ok (U : Int) q else .err i 14) := Lib.hid (by
          rw [int_pos HA0.out HD0.out HEnd.out H48.out]
          exact num_pos HDS.out HLess.out)
        cases b with
        | true =>
          have HE : Hid (intP s.data.toList s[i] (i + 1) = .err i 14) := Lib.hid (by
            rw [HN.out, if_neg]
            rcases HO.out with ⟨h, _⟩ | ⟨_, h⟩
            · cases h
            · omega)
          go_wp2_with fail
          refine (fail_run HP2.out.1 _ 14).mono ?_
          rintro _ w3 ⟨rfl, hbb, hff⟩
          have HBD : Hid (Bad w3 p s _ 14) := Lib.hid ⟨_, _, hbb, by decide, by omega, by omega⟩
          have HF3 := Lib.hid (HF2.out.trans hff)
          clear hbb hff
          have HQ5 := Lib.hid (HF3.out.bk HQ.out (fun e => NQ.out e))
          have d0 := HQ5.out.cell 0
          have d1 := HQ5.out.cell 1
          have d2 := HQ5.out.cell 2
          have d3 := HQ5.out.cell 3
          have d4 := HQ5.out.cell 4
          have f0 := HQ5.out.frozen 0
          have f1 := HQ5.out.frozen 1
          have f2 := HQ5.out.frozen 2
          have f3 := HQ5.out.frozen 3
          have f4 := HQ5.out.frozen 4
          go_wp2
          obtain ⟨wf, hwf⟩ : ∃ wf, wf = put5 w3 w.heap.size 0 (.int .i64 0) (.int .i64 0) (.string ⟨#[]⟩) (.slice none 0 0) (.slice none 0 0) := ⟨_, rfl⟩
          have QF : Hid (Bk wf w.heap.size 25 #[.int .i64 0, .int .i64 0, .string ⟨#[]⟩, .slice none 0 0, .slice none 0 0]) := Lib.hid (by rw [hwf]; exact put5_bk HQ5.out)
          have PF : Hid (Bad wf p s i 14) := Lib.hid (by rw [hwf]; exact HBD.out.put5 (Ne.symm NQ.out))
          have FF : Hid (FrS (One p) w wf) := Lib.hid (by rw [hwf]; exact frs_put5 (HF1.out.trans HF3.out) (Nat.le_refl _))
          change bodyPost _ _ _ _ _ (put5 w3 w.heap.size 0 (.int .i64 0) (.int .i64 0) (.string ⟨#[]⟩) (.slice none 0 0) (.slice none 0 0))
          rw [← hwf]
          refine bodyPost_ret (results_cell_row rfl _ _ w.heap.size 25 _ (0, 0) _ rfl QF.out Tryz.underlying25 rfl (by kernel_rfl)) rfl ?_
          exact ⟨FF, .inr ⟨_, _, HE, rfl, PF⟩⟩
        | false =>
          have HZ : Hid (z = -(U : Int) ∧ U ≤ 9223372036854775808) := Lib.hid (by
            rcases HO.out with ⟨_, h⟩ | ⟨h, _⟩
            · exact h
            · cases h)
          cases hM : (z == -9223372036854775808) with
          | true =>
            have HE : Hid (intP s.data.toList s[i] (i + 1) = .err i 14) := Lib.hid (by
              rw [HN.out, if_neg]
              rw [beq_iff_eq] at hM
              have := HZ.out
              omega)
            go_wp2_with fail
            refine (fail_run HP2.out.1 _ 14).mono ?_
            rintro _ w3 ⟨rfl, hbb, hff⟩
            have HBD : Hid (Bad w3 p s _ 14) := Lib.hid ⟨_, _, hbb, by decide, by omega, by omega⟩
            have HF3 := Lib.hid (HF2.out.trans hff)
            clear hbb hff
            have HQ5 := Lib.hid (HF3.out.bk HQ.out (fun e => NQ.out e))
            have d0 := HQ5.out.cell 0
            have d1 := HQ5.out.cell 1
            have d2 := HQ5.out.cell 2
            have d3 := HQ5.out.cell 3
            have d4 := HQ5.out.cell 4
            have f0 := HQ5.out.frozen 0
            have f1 := HQ5.out.frozen 1
            have f2 := HQ5.out.frozen 2
            have f3 := HQ5.out.frozen 3
            have f4 := HQ5.out.frozen 4
            go_wp2
            obtain ⟨wf, hwf⟩ : ∃ wf, wf = put5 w3 w.heap.size 0 (.int .i64 0) (.int .i64 0) (.string ⟨#[]⟩) (.slice none 0 0) (.slice none 0 0) := ⟨_, rfl⟩
            have QF : Hid (Bk wf w.heap.size 25 #[.int .i64 0, .int .i64 0, .string ⟨#[]⟩, .slice none 0 0, .slice none 0 0]) := Lib.hid (by rw [hwf]; exact put5_bk HQ5.out)
            have PF : Hid (Bad wf p s i 14) := Lib.hid (by rw [hwf]; exact HBD.out.put5 (Ne.symm NQ.out))
            have FF : Hid (FrS (One p) w wf) := Lib.hid (by rw [hwf]; exact frs_put5 (HF1.out.trans HF3.out) (Nat.le_refl _))
            change bodyPost _ _ _ _ _ (put5 w3 w.heap.size 0 (.int .i64 0) (.int .i64 0) (.string ⟨#[]⟩) (.slice none 0 0) (.slice none 0 0))
            rw [← hwf]
            refine bodyPost_ret (results_cell_row rfl _ _ w.heap.size 25 _ (0, 0) _ rfl QF.out Tryz.underlying25 rfl (by kernel_rfl)) rfl ?_
            exact ⟨FF, .inr ⟨_, _, HE, rfl, PF⟩⟩
          | false =>
            have HU : Hid (U < 9223372036854775808) := Lib.hid (by
              rw [beq_eq_false_iff_ne] at hM
              have := HZ.out
              omega)
            have HE : Hid (intP s.data.toList s[i] (i + 1) = .ok (U : Int) q) := Lib.hid (by rw [HN.out, if_pos HU.out])
            have hneg : IntKind.i64.wrap (-z) = (U : Int) := by rw [IntKind.wrap_i64]; have := HZ.out; have := HU.out; omega
            have HQ5 := Lib.hid (HF2.out.bk HQ.out (fun e => NQ.out e))
            have d0 := HQ5.out.cell 0
            have d1 := HQ5.out.cell 1
            have d2 := HQ5.out.cell 2
            have d3 := HQ5.out.cell 3
            have d4 := HQ5.out.cell 4
            have f0 := HQ5.out.frozen 0
            have f1 := HQ5.out.frozen 1
            have f2 := HQ5.out.frozen 2
            have f3 := HQ5.out.frozen 3
            have f4 := HQ5.out.frozen 4
            go_wp2
            obtain ⟨wf, hwf⟩ : ∃ wf, wf = put5 w2 w.heap.size 0 (.int .i64 2) (.int .i64 (U : Int)) (.string ⟨#[]⟩) (.slice none 0 0) (.slice none 0 0) := ⟨_, rfl⟩
            have QF : Hid (Bk wf w.heap.size 25 #[.int .i64 2, .int .i64 (U : Int), .string ⟨#[]⟩, .slice none 0 0, .slice none 0 0]) := Lib.hid (by rw [hwf]; exact put5_bk HQ5.out)
            have PF : Hid (Rn wf p s q n) := Lib.hid (by rw [hwf]; exact HP2.out.put5 (Ne.symm NQ.out))
            have FF : Hid (FrS (One p) w wf) := Lib.hid (by rw [hwf]; exact frs_put5 (HF1.out.trans HF2.out) (Nat.le_refl _))
            change bodyPost _ _ _ _ _ (put5 w2 w.heap.size 0 (.int .i64 2) (.int .i64 (U : Int)) (.string ⟨#[]⟩) (.slice none 0 0) (.slice none 0 0))
            rw [← hwf]
            refine bodyPost_ret (results_cell_row rfl _ _ w.heap.size 25 _ (0, 0) _ rfl QF.out Tryz.underlying25 rfl (by kernel_rfl)) rfl ?_
            exact ⟨FF, .inl ⟨_, _, HE, rfl, PF⟩⟩
theorem number_any (h : Rn w p s i n) (hi : i < s.size) (hs : s[i] = 45 ∨ dig s[i] = true) :
    Calls Tryz.prog 57 #[.pointer (some ⟨p, 0, none⟩)] w (RedR (intP s.data.toList s[i] (i + 1)) intV p s n w) := by
  by_cases h45 : s[i].toNat = 45
  · exact number_min h hi h45
  · exact number_pos h hi h45 hs
end
end Go.Proofs.YtlgmhhimbabkjaaGreatDoor
