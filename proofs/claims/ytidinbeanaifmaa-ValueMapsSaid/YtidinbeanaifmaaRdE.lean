/-
  Contracts of Int, Text and Bool (package wire).
-/
import Derived.Test.YtidinbeanaifmaaRdD
namespace Go.Proofs.Ytidinbeanaifmaa
open Go.RowKit

theorem WRd.any {w : World} {p : Nat} {l l' : List UInt8} {e : Int} (h : WRd w p l e) (he : e ≠ 0) : WRd w p l' e := by
  obtain ⟨A, n, c, l0, hb, ho, hn, hc, hl⟩ := h
  exact ⟨A, n, c, l0, hb, ho, hn, hc, fun h => absurd h he⟩
theorem RRd.any {w : World} {p : Nat} {l l' : List UInt8} {e : Int} (h : RRd w p l e) (he : e ≠ 0) : RRd w p l' e := by
  obtain ⟨A, n, c, l0, hb, ho, hn, hc, hl⟩ := h
  exact ⟨A, n, c, l0, hb, ho, hn, hc, fun h => absurd h he⟩

/-- what is left behind a cut at the capacity, and before it -/
theorem wrd_end {w : World} {p : Nat} {l : List UInt8} {A B : Option Addr} {n c m d : Nat} (hb : Bk w p 86 #[.slice A n c, .int .i64 0, .bool true]) (hm : m = 0) (hl : l = []) (hd : m ≤ d ∧ d ≤ 9223372036854775807) :
    WRd (w.setCell ⟨p, 0, none⟩ (.slice B m d)) p l 0 :=
  ⟨_, _, _, [], hb.put 0 _, ⟨by simp [hm], fun h => absurd rfl h⟩, hd.1, hd.2, fun _ => hl.symm⟩
theorem wrd_cut {w : World} {p : Nat} {l : List UInt8} {g o n c k : Nat} (hb : Bk w p 86 #[.slice (some ⟨g, o, none⟩) n c, .int .i64 0, .bool true]) (ho : Ow w (some ⟨g, o, none⟩) n l)
    (hk : k ≤ n) (hn : n ≤ c) (hc : c ≤ 9223372036854775807) (hck : c ≠ k) : WRd (w.setCell ⟨p, 0, none⟩ (.slice (some ⟨g, o + k, none⟩) (n - k) (c - k))) p (l.drop k) 0 := by
  have h := ho.cut hk hn
  rw [if_neg hck] at h
  simp only [Option.map_some, Addr.add_lit] at h
  exact ⟨_, _, _, _, hb.put 0 _, h.grown hb (by decide) (turned w p 0 _), by omega, by omega, fun _ => rfl⟩

section
variable {w : World} {p : Nat} {l : List UInt8} {e : Int}

set_option maxHeartbeats 1000000 in
theorem wInt_err (low high : Int) (h : WRd w p l e) (he : e ≠ 0) : Calls Try.prog 135 #[.pointer (some ⟨p, 0, none⟩), .int .i64 low, .int .i64 high] w (Turns (.int .i64 0) w p fun w' => WRd w' p l e) := by
  have HW := Lib.hid h
  clear h
  have hne : (e != 0) = true := by rw [bne_iff_ne]; exact he
  go_enter Try.func135, Try.ntmps135
  go_wp2_with (go_at_call 52; refine (wErr_any HW.out).mono ?_; rintro e w' ⟨rfl, rfl⟩)
  go_ret
  exact ⟨rfl, World.grownBy.refl _ _, HW.out⟩

set_option maxHeartbeats 1000000 in
theorem wInt_ok (low high : Int) (h : WRd w p l 0) : Calls Try.prog 135 #[.pointer (some ⟨p, 0, none⟩), .int .i64 low, .int .i64 high] w
    (Turns (.int .i64 (intR l low high).1) w p fun w' => WRd w' p (intR l low high).2.1 (intR l low high).2.2) := by
  have HW := Lib.hid h
  obtain ⟨A, n, c, l0, hb, ho, hn, hc, hl⟩ := h
  obtain rfl := hl rfl
  have h0 : w.cell? ⟨p, 0, none⟩ = some (.slice A n c) := hb.cell 0
  have hf0 : w.frozen? ⟨p, 0, none⟩ = false := hb.frozen 0
  have HB := Lib.hid hb
  have HO := Lib.hid ho
  clear hb ho hl
  rcases szAt_facts 0 l0 with ⟨hs, hk1, h2, h3⟩ | ⟨_, hs⟩
  · have hs1 : szAt 0 l0 = ((szAt 0 l0).1, 0) := by rw [← hs]
    have he := enc_sz hs
    obtain ⟨k, hk⟩ : ∃ k, k = (szAt 0 l0).1 := ⟨_, rfl⟩
    rw [← hk] at hs1 he h2 h3 hk1
    have hkn : k ≤ n := by have := HO.out.1; omega
    have HI : Hid (intR l0 low high = if unz (val (l0.take k)) < low ∨ high < unz (val (l0.take k)) then (0, [], 14) else (unz (val (l0.take k)), l0.drop k, 0)) := Lib.hid (by
      unfold intR
      rw [hs1, if_neg (by simp)])
    have HS := Lib.hid hs1
    have HE := Lib.hid he
    clear hs hs1 he hk h2
    go_enter Try.func135, Try.ntmps135
    go_wp2_with fail
    refine (wErr_any HW.out).mono ?_
    rintro e w' ⟨rfl, rfl⟩
    go_wp2_with fail
    refine (intSize_any HO.out.rb hn).mono ?_
    rintro e w' ⟨rfl, rfl⟩
    rw [HS.out]
    go_wp2_with fail
    refine (joinGroups_any (HO.out.rb.front hkn) (by omega) HE.out.2).mono ?_
    rintro e w' ⟨rfl, rfl⟩
    go_wp2_with fail
    refine (unfold_any _ _ HE.out.2).mono ?_
    rintro e w' ⟨rfl, rfl⟩
    obtain ⟨x, hx⟩ : ∃ x, x = unz (val (l0.take k)) := ⟨_, rfl⟩
    rw [← hx]
    have HX := Lib.hid hx
    clear hx
    by_cases hr : x < low ∨ high < x
    · have HI2 : Hid (intR l0 low high = (0, [], 14)) := Lib.hid (by rw [HI.out, ← HX.out, if_pos hr])
      by_cases h1 : x < low
      · have t1 : decide (x < low) = true := by rw [decide_eq_true_eq]; exact h1
        clear hr h1
        go_wp2_with fail
        refine (wFail_ok 14 HW.out).mono ?_
        rintro e w' ⟨rfl, hg, hq⟩
        have HG := Lib.hid hg
        have HQ := Lib.hid hq
        clear hg hq
        go_wp2
        go_ret
        exact ⟨ret_i64 (by rw [HI2.out]), HG.out, by rw [HI2.out]; exact HQ.out.any (by decide)⟩
      · have t1 : decide (x < low) = false := by rw [decide_eq_false_iff_not]; exact h1
        have t2 : decide (high < x) = true := by rw [decide_eq_true_eq]; omega
        clear hr h1
        go_wp2_with fail
        refine (wFail_ok 14 HW.out).mono ?_
        rintro e w' ⟨rfl, hg, hq⟩
        have HG := Lib.hid hg
        have HQ := Lib.hid hq
        clear hg hq
        go_wp2
        go_ret
        exact ⟨ret_i64 (by rw [HI2.out]), HG.out, by rw [HI2.out]; exact HQ.out.any (by decide)⟩
    · have HI2 : Hid (intR l0 low high = (x, l0.drop k, 0)) := Lib.hid (by rw [HI.out, ← HX.out, if_neg hr])
      have t1 : decide (x < low) = false := by rw [decide_eq_false_iff_not]; omega
      have t2 : decide (high < x) = false := by rw [decide_eq_false_iff_not]; omega
      clear hr
      by_cases hck : c = k
      · subst hck
        have hnc : n = c := by omega
        have HN := Lib.hid hnc
        clear hnc
        go_wp2
        go_ret
        exact ⟨ret_i64 (by rw [HI2.out]), turned w p 0 _, by rw [HI2.out]; exact wrd_end HB.out (by have := HN.out; omega) (by have := HO.out.1; have := HN.out; rw [List.drop_eq_nil_of_le (by omega)]) (by omega)⟩
      · have hne : l0 ≠ [] := by intro h; have := HO.out.1; rw [h] at this; simp at this; omega
        obtain ⟨g, o, cs, rfl, hbk, hcs⟩ := HO.out.2 hne
        have HK := Lib.hid hbk
        have HC := Lib.hid hcs
        clear hbk hcs hne
        have tk : (c == k) = false := by rw [beq_eq_false_iff_ne]; exact hck
        have hck' : ¬ (c : Int) = k := by omega
        go_wp2
        go_ret
        exact ⟨ret_i64 (by rw [HI2.out]), turned w p 0 _, by rw [HI2.out]; exact wrd_cut HB.out HO.out hkn hn hc hck⟩
  · have hs0 : (szAt 0 l0).2 ≠ 0 := by omega
    have hne : ((szAt 0 l0).2 != 0) = true := by rw [bne_iff_ne]; exact hs0
    have HI := Lib.hid (intR_err (low := low) (high := high) hs0)
    have HS := Lib.hid hs0
    clear hs hs0
    go_enter Try.func135, Try.ntmps135
    go_wp2_with fail
    refine (wErr_any HW.out).mono ?_
    rintro e w' ⟨rfl, rfl⟩
    go_wp2_with fail
    refine (intSize_any HO.out.rb hn).mono ?_
    rintro e w' ⟨rfl, rfl⟩
    go_wp2_with fail
    refine (wFail_ok _ HW.out).mono ?_
    rintro e w' ⟨rfl, hg, hq⟩
    have HG := Lib.hid hg
    have HQ := Lib.hid hq
    clear hg hq
    go_wp2
    go_ret
    exact ⟨ret_i64 (by rw [HI.out]), HG.out, by rw [HI.out]; exact HQ.out.any HS.out⟩
end
end Go.Proofs.Ytidinbeanaifmaa
