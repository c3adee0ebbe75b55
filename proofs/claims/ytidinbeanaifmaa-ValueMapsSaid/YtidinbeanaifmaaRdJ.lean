/-
  Contract of Text (the reference).
-/
import Derived.Test.YtidinbeanaifmaaRdI
namespace Go.Proofs.Ytidinbeanaifmaa
open Go.RowKit

section
variable {w : World} {p : Nat} {l : List UInt8} {e : Int}

set_option maxHeartbeats 1000000 in
theorem rText_err (most : Int) (h : RRd w p l e) (he : e ≠ 0) : Calls Try.prog 139 #[.pointer (some ⟨p, 0, none⟩), .int .i64 most] w (Turns (.string ⟨(([] : List UInt8)).toArray⟩) w p fun w' => RRd w' p l e) := by
  have HW := Lib.hid h
  clear h
  have hne : (e != 0) = true := by rw [bne_iff_ne]; exact he
  go_enter Try.func139, Try.ntmps139
  go_wp2_with fail
  refine (rInt_err 0 most HW.out he).mono ?_
  rintro e1 w1 ⟨rfl, hg, hq⟩
  have HG := Lib.hid hg
  have HQ := Lib.hid hq
  clear hg hq
  go_wp2_with fail
  refine (rStopped_any HQ.out).mono ?_
  rintro e1 w' ⟨rfl, rfl⟩
  go_wp2
  go_ret
  exact ⟨rfl, HG.out, HQ.out⟩

set_option maxHeartbeats 1000000 in
theorem rText_ok (most : Int) (h : RRd w p l 0) : Calls Try.prog 139 #[.pointer (some ⟨p, 0, none⟩), .int .i64 most] w
    (Turns (.string ⟨(textR l most).1.toArray⟩) w p fun w' => RRd w' p (textR l most).2.1 (textR l most).2.2) := by
  have HW := Lib.hid h
  clear h
  rcases intR_ways l 0 most with hi | ⟨k, _, _, _, hi, hx0, _, _, hv⟩
  · have hT : textR l most = ([], [], (intR l 0 most).2.2) ∧ (intR l 0 most).1 = 0 ∧ (intR l 0 most).2.2 ≠ 0 := by
      rcases hi with hi | hi | hi <;> simp [textR, hi]
    obtain ⟨e1, he1⟩ : ∃ e1, e1 = (intR l 0 most).2.2 := ⟨_, rfl⟩
    rw [← he1] at hT
    have HT := Lib.hid hT
    have HE := Lib.hid he1
    have hne : (e1 != 0) = true := by rw [bne_iff_ne]; exact hT.2.2
    clear hi hT he1
    go_enter Try.func139, Try.ntmps139
    go_wp2_with fail
    refine (rInt_ok 0 most HW.out).mono ?_
    rw [HT.out.2.1, ← HE.out]
    rintro e w1 ⟨rfl, hg, hq⟩
    have HG := Lib.hid hg
    have HQ := Lib.hid hq
    clear hg hq
    go_wp2_with fail
    refine (rStopped_any HQ.out).mono ?_
    rintro e w' ⟨rfl, rfl⟩
    go_wp2
    go_ret
    exact ⟨ret_str (by rw [HT.out.1]), HG.out, by rw [HT.out.1]; exact HQ.out.any HT.out.2.2⟩
  · obtain ⟨x, hx⟩ : ∃ x : Nat, unz (val (l.take k)) = (x : Int) := ⟨(unz (val (l.take k))).toNat, by omega⟩
    rw [hx] at hi
    obtain ⟨r, hr⟩ : ∃ r, r = l.drop k := ⟨_, rfl⟩
    rw [← hr] at hi
    have HI := Lib.hid hi
    by_cases hlen : r.length < x
    · have hT : textR l most = ([], [], 4) := by
        unfold textR
        rw [hi]
        simp only [ne_eq, not_true_eq_false, ↓reduceIte]
        rw [if_pos (by omega)]
      have HT := Lib.hid hT
      have HLEN := Lib.hid hlen
      clear hi hT hr hx hx0 hv hlen
      go_enter Try.func139, Try.ntmps139
      go_wp2_with fail
      refine (rInt_ok 0 most HW.out).mono ?_
      rw [HI.out]
      rintro e w1 ⟨rfl, hg, hq⟩
      have HG := Lib.hid hg
      have HQ := Lib.hid hq
      clear hg hq
      go_wp2_with fail
      refine (rstop_ok HQ.out).mono ?_
      rintro e w' ⟨rfl, rfl⟩
      obtain ⟨A, n, c, l0, hb, ho, hn, hc, hl⟩ := HQ.out
      obtain rfl := hl rfl
      have h0 : w1.cell? ⟨p, 1, none⟩ = some (.slice A n c) := hb.cell 1
      have hgt : decide (n < x) = true := by rw [decide_eq_true_eq]; have := ho.1; have := HLEN.out; omega
      clear hb ho hl
      go_wp2_with fail
      refine (rSet_any 4 HQ.out (by decide) []).mono ?_
      rintro e w2 ⟨rfl, hg, hq⟩
      have HG2 := Lib.hid hg
      have HQ2 := Lib.hid hq
      clear hg hq
      go_wp2
      go_ret
      exact ⟨ret_str (by rw [HT.out]), grownBy_trans HG.out HG2.out, by rw [HT.out]; exact HQ2.out⟩
    · have hT : textR l most = (r.take x, r.drop x, 0) := by
        unfold textR
        rw [hi]
        simp only [ne_eq, not_true_eq_false, ↓reduceIte]
        rw [if_neg (by omega)]
        simp
      have HT := Lib.hid hT
      have hle : x ≤ r.length := by omega
      have HLE := Lib.hid hle
      clear hi hT hr hx hx0 hv hlen hle
      go_enter Try.func139, Try.ntmps139
      go_wp2_with fail
      refine (rInt_ok 0 most HW.out).mono ?_
      rw [HI.out]
      rintro e w1 ⟨rfl, hg, hq⟩
      have HG := Lib.hid hg
      have HQ := Lib.hid hq
      clear hg hq
      go_wp2_with fail
      refine (rstop_ok HQ.out).mono ?_
      rintro e w' ⟨rfl, rfl⟩
      obtain ⟨A, n, c, l0, hb, ho, hn, hc, hl⟩ := HQ.out
      obtain rfl := hl rfl
      have hxn : x ≤ n := by have := ho.1; have := HLE.out; omega
      have hgt : decide (n < x) = false := by rw [decide_eq_false_iff_not]; omega
      have h0 : w1.cell? ⟨p, 1, none⟩ = some (.slice A n c) := hb.cell 1
      have hf0 : w1.frozen? ⟨p, 1, none⟩ = false := hb.frozen 1
      have hstr := run_str (P := Try.prog) (c := c) 50 9 5 Try.underlying50 Try.underlying5 Try.underlying9 (ho.rb.front hxn)
      have HB := Lib.hid hb
      have HO := Lib.hid ho
      clear hb ho hl
      by_cases hcx : c = x
      · subst hcx
        have hnc : n = c := by omega
        have HN := Lib.hid hnc
        clear hnc
        go_wp2
        go_ret
        exact ⟨ret_str (by rw [HT.out]), grownBy_trans HG.out (turned w1 p 1 _), by rw [HT.out]; exact rrd_end HB.out (by have := HN.out; omega) (by have := HO.out.1; have := HN.out; rw [List.drop_eq_nil_of_le (by omega)]) (by omega)⟩
      · have hck' : ¬ (c : Int) = x := by omega
        cases A with
        | none =>
          have hn0 : n = 0 := by
            have h1 := HO.out
            rcases Nat.eq_zero_or_pos n with h2 | h2
            · exact h2
            · obtain ⟨_, _, _, ha, _⟩ := h1.2 (by intro h3; have := h1.1; rw [h3] at this; simp at this; omega)
              cases ha
          have HN := Lib.hid hn0
          clear hn0
          go_wp2
          go_ret
          exact ⟨ret_str (by rw [HT.out]), grownBy_trans HG.out (turned w1 p 1 _), by rw [HT.out]; exact rrd_end HB.out (by have := HN.out; omega) (by have := HO.out.1; have := HN.out; rw [List.drop_eq_nil_of_le (by omega)]) (by omega)⟩
        | some a =>
          go_wp2
          go_ret
          exact ⟨ret_str (by rw [HT.out]), grownBy_trans HG.out (turned w1 p 1 _), by rw [HT.out]; exact rrd_cut2 HB.out HO.out hxn hn hc hcx⟩
end
end Go.Proofs.Ytidinbeanaifmaa
