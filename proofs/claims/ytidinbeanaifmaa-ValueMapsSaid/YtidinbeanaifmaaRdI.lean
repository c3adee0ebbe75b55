/-
  Contracts of Int and Text (the reference).
-/
import Derived.Test.YtidinbeanaifmaaRdH
namespace Go.Proofs.Ytidinbeanaifmaa
open Go.RowKit

theorem val_cons (c : UInt8) (r : List UInt8) : val (c :: r) = c.toNat % 128 + 128 * val r := rfl
theorem val_drop_le (l : List UInt8) (j : Nat) : val (l.drop j) ≤ val l := by
  have h := val_app (l.take j) (l.drop j)
  rw [List.take_append_drop] at h
  have h2 : 1 * val (l.drop j) ≤ 128 ^ (l.take j).length * val (l.drop j) := Nat.mul_le_mul_right _ (Nat.pow_pos (by decide))
  omega
theorem rrd_cut {w : World} {p : Nat} {l : List UInt8} {g o n c k : Nat} (hb : Bk w p 88 #[.bool true, .slice (some ⟨g, o, none⟩) n c, .int .i64 0]) (ho : Ow w (some ⟨g, o, none⟩) n l)
    (hk : k ≤ n) (hn : n ≤ c) (hc : c ≤ 9223372036854775807) (hck : c ≠ k) : RRd (w.setCell ⟨p, 1, none⟩ (.slice (some ⟨g, o + k, none⟩) (n - k) (c - k))) p (l.drop k) 0 := by
  have h := rrd_cut2 hb ho hk hn hc hck
  rw [Addr.add_lit] at h
  exact h
theorem unz_odd (u : Nat) (h : u % 2 = 1) : unz u = -((u / 2 : Nat) : Int) - 1 := by unfold unz; rw [if_pos h]

section
variable {w : World} {p : Nat} {l : List UInt8} {e : Int}

set_option maxHeartbeats 1000000 in
theorem rInt_err (low high : Int) (h : RRd w p l e) (he : e ≠ 0) : Calls Try.prog 138 #[.pointer (some ⟨p, 0, none⟩), .int .i64 low, .int .i64 high] w (Turns (.int .i64 0) w p fun w' => RRd w' p l e) := by
  have HW := Lib.hid h
  clear h
  have hne : (e != 0) = true := by rw [bne_iff_ne]; exact he
  go_enter Try.func138, Try.ntmps138
  go_wp2_with (go_at_call 89; refine (rStopped_any HW.out).mono ?_; rintro e w' ⟨rfl, rfl⟩)
  go_ret
  exact ⟨rfl, World.grownBy.refl _ _, HW.out⟩

set_option maxHeartbeats 2000000 in
theorem rInt_ok (low high : Int) (h : RRd w p l 0) : Calls Try.prog 138 #[.pointer (some ⟨p, 0, none⟩), .int .i64 low, .int .i64 high] w
    (Turns (.int .i64 (intR l low high).1) w p fun w' => RRd w' p (intR l low high).2.1 (intR l low high).2.2) := by
  have HW := Lib.hid h
  obtain ⟨A, n, c, l0, hb, ho, hn, hc, hl⟩ := h
  obtain rfl := hl rfl
  have h0 : w.cell? ⟨p, 1, none⟩ = some (.slice A n c) := hb.cell 1
  have hf0 : w.frozen? ⟨p, 1, none⟩ = false := hb.frozen 1
  have HB := Lib.hid hb
  have HO := Lib.hid ho
  clear hb ho hl
  rcases szAt_facts 0 l0 with ⟨hs, hk1, h2, h3⟩ | ⟨_, hs⟩
  · have hs1 : szAt 0 l0 = ((szAt 0 l0).1, 0) := by rw [← hs]
    have he := enc_sz hs
    obtain ⟨k, hk⟩ : ∃ k, k = (szAt 0 l0).1 := ⟨_, rfl⟩
    rw [← hk] at hs1 he h2 h3 hk1
    have hkn : k ≤ n := by have := HO.out.1; omega
    have HI : Hid (intR l0 low high = if unz (val (l0.take k)) < low ∨ high < unz (val (l0.take k)) then (0, [], 14) else (unz (val (l0.take k)), l0.drop k, 0)) := Lib.hid (by
      unfold intR
      rw [hs1, if_neg (by simp)])
    have HS := Lib.hid hs1
    have HE := Lib.hid he
    have hne : l0 ≠ [] := by intro h; have := HO.out.1; rw [h] at this; simp at this; omega
    obtain ⟨g, o, cs, rfl, hbk, hcs⟩ := HO.out.2 hne
    have HK := Lib.hid hbk
    have HC := Lib.hid hcs
    clear hs hs1 he hk h2 hbk hcs hne
    go_enter Try.func138, Try.ntmps138
    go_wp2_with fail
    refine (rstop_ok HW.out).mono ?_
    rintro e w' ⟨rfl, rfl⟩
    go_wp2_with fail
    refine (rCount_any HW.out).mono ?_
    rintro e w' ⟨rfl, rfl⟩
    rw [HS.out]
    go_wp2_with fail
    go_loop [9, 10] (fun u i => ∃ (j X : Nat), j ≤ k ∧ i = .int .i64 ((j : Int) - 1) ∧ u = .int .u64 (X : Int) ∧ Hid (X = val ((l0.take k).drop j))) (fun _ i => (intOf i + 1).toNat)
    case atStart => exact ⟨k, 0, by omega, rfl, rfl, by rw [List.drop_eq_nil_of_le (by rw [List.length_take]; omega)]; exact Lib.hid rfl⟩
    case round =>
      obtain ⟨j, X, hjk, rfl, rfl, hX⟩ := hrel
      by_cases hj : 0 < j
      · obtain ⟨j, rfl⟩ : ∃ i, j = i + 1 := ⟨j - 1, by omega⟩
        have hjn : j < n := by omega
        obtain ⟨x, hx⟩ : ∃ x, l0[j]? = some x := ⟨_, List.getElem?_eq_getElem (by have := HO.out.1; omega)⟩
        have hcell : w.cell? ⟨g, o + j, none⟩ = some (.int .u8 (x.toNat : Int)) := (HK.out.cell _).trans (HC.out j x hx)
        have hx2 : (l0.take k).drop j = x :: (l0.take k).drop (j + 1) := drop_at (by rw [List.getElem?_take, if_pos (by omega)]; exact hx)
        have hX2 : Hid (X * 128 + x.toNat % 128 = val ((l0.take k).drop j)) := Lib.hid (by rw [hx2, val_cons, ← hX.out]; omega)
        have hle := val_drop_le (l0.take k) j
        have hw1 : IntKind.u64.wrap ((X : Int) * 128) = (X : Int) * 128 := IntWalk.u64_in _ ⟨by omega, by have := HE.out.2; have := hX2.out; omega⟩
        have hw2 : IntKind.u64.wrap ((X : Int) * 128 + (x.toNat : Int) % 128) = (X : Int) * 128 + (x.toNat : Int) % 128 := IntWalk.u64_in _ ⟨by omega, by have := HE.out.2; have := hX2.out; omega⟩
        have tj : (((j + 1 : Nat) : Int) - 1) = (j : Int) := by omega
        rw [tj]
        have t0 : decide ((0 : Int) ≤ (j : Int)) = true := by rw [decide_eq_true_eq]; omega
        clear hx hx2 hX hle tj hj
        go_wp2
        go_round
        case rel => exact ⟨j, X * 128 + x.toNat % 128, by omega, rfl, by go_num, hX2⟩
        case measure => simp [intOf]
      · obtain rfl : j = 0 := by omega
        obtain ⟨u, hu⟩ : ∃ u, u = val (l0.take k) := ⟨_, rfl⟩
        have HU : Hid (X = u) := Lib.hid (by rw [hX.out, hu]; rfl)
        have hu64 : u < 18446744073709551616 := by rw [hu]; exact HE.out.2
        rw [← hu] at HI
        obtain rfl := HU.out
        have HU64 := Lib.hid hu64
        clear hX hj hu HU hu64
        obtain ⟨x, hx⟩ : ∃ x, x = unz X := ⟨_, rfl⟩
        rw [← hx] at HI
        have hwz : IntKind.u64.wrap ((X : Int) / 2) = (X : Int) / 2 := IntWalk.u64_in _ ⟨by omega, by have := HU64.out; omega⟩
        have hxb := unz_in HU64.out
        rw [← hx] at hxb
        have hev : X % 2 = 0 → wrap64 (IntKind.u64.wrap ((X : Int) / 2)) = x := fun hm => by
          rw [hwz, IntWalk.wrap64_in _ ⟨by omega, by have := HU64.out; omega⟩, hx, unz_even X hm]; omega
        have hod : X % 2 = 1 → wrap64 (wrap64 (-wrap64 (IntKind.u64.wrap ((X : Int) / 2))) - 1) = x := fun hm => by
          have h1 : -((X : Int) / 2) - 1 = x := by rw [hx, unz_odd X hm]; omega
          have hlt := HU64.out
          rw [hwz, IntWalk.wrap64_in ((X : Int) / 2) ⟨by omega, by omega⟩, IntWalk.wrap64_in (-((X : Int) / 2)) ⟨by omega, by omega⟩, h1]
          exact IntWalk.wrap64_in _ hxb
        have HV := Lib.hid hev
        have HD := Lib.hid hod
        have hmod : X % 2 = 0 ∨ X % 2 = 1 := by omega
        clear hx hwz hxb hev hod
        rcases hmod with hm | hm
        · have tm : ((X : Int) % 2 == 1) = false := by rw [beq_eq_false_iff_ne]; omega
          have hval := HV.out hm
          clear hm HV HD
          by_cases hr : x < low ∨ high < x
          · have HI2 : Hid (intR l0 low high = (0, [], 14)) := Lib.hid (by rw [HI.out, if_pos hr])
            by_cases h1 : x < low
            · have t1 : decide (x < low) = true := by rw [decide_eq_true_eq]; exact h1
              clear hr h1
              go_wp2_with fail
              refine (rSet_any 14 HW.out (by decide) []).mono ?_
              rintro e w' ⟨rfl, hg, hq⟩
              have HG := Lib.hid hg
              have HQ := Lib.hid hq
              clear hg hq
              go_wp2
              go_ret
              exact ⟨ret_i64 (by rw [HI2.out]), HG.out, by rw [HI2.out]; exact HQ.out⟩
            · have t1 : decide (x < low) = false := by rw [decide_eq_false_iff_not]; exact h1
              have t2 : decide (high < x) = true := by rw [decide_eq_true_eq]; omega
              clear hr h1
              go_wp2_with fail
              refine (rSet_any 14 HW.out (by decide) []).mono ?_
              rintro e w' ⟨rfl, hg, hq⟩
              have HG := Lib.hid hg
              have HQ := Lib.hid hq
              clear hg hq
              go_wp2
              go_ret
              exact ⟨ret_i64 (by rw [HI2.out]), HG.out, by rw [HI2.out]; exact HQ.out⟩
          · have HI2 : Hid (intR l0 low high = (x, l0.drop k, 0)) := Lib.hid (by rw [HI.out, if_neg hr])
            have t1 : decide (x < low) = false := by rw [decide_eq_false_iff_not]; omega
            have t2 : decide (high < x) = false := by rw [decide_eq_false_iff_not]; omega
            clear hr
            by_cases hck : c = k
            · subst hck
              have hnc : n = c := by omega
              have HN := Lib.hid hnc
              clear hnc
              go_wp2
              go_ret
              exact ⟨ret_i64 (by rw [HI2.out]), turned w p 1 _, by rw [HI2.out]; exact rrd_end HB.out (by have := HN.out; omega) (by have := HO.out.1; have := HN.out; rw [List.drop_eq_nil_of_le (by omega)]) (by omega)⟩
            · have hck' : ¬ (c : Int) = k := by omega
              go_wp2
              go_ret
              exact ⟨ret_i64 (by rw [HI2.out]), turned w p 1 _, by rw [HI2.out]; exact rrd_cut HB.out HO.out hkn hn hc hck⟩
        · have tm : ((X : Int) % 2 == 1) = true := by rw [beq_iff_eq]; omega
          have hval := HD.out hm
          clear hm HV HD
          by_cases hr : x < low ∨ high < x
          · have HI2 : Hid (intR l0 low high = (0, [], 14)) := Lib.hid (by rw [HI.out, if_pos hr])
            by_cases h1 : x < low
            · have t1 : decide (x < low) = true := by rw [decide_eq_true_eq]; exact h1
              clear hr h1
              go_wp2_with fail
              refine (rSet_any 14 HW.out (by decide) []).mono ?_
              rintro e w' ⟨rfl, hg, hq⟩
              have HG := Lib.hid hg
              have HQ := Lib.hid hq
              clear hg hq
              go_wp2
              go_ret
              exact ⟨ret_i64 (by rw [HI2.out]), HG.out, by rw [HI2.out]; exact HQ.out⟩
            · have t1 : decide (x < low) = false := by rw [decide_eq_false_iff_not]; exact h1
              have t2 : decide (high < x) = true := by rw [decide_eq_true_eq]; omega
              clear hr h1
              go_wp2_with fail
              refine (rSet_any 14 HW.out (by decide) []).mono ?_
              rintro e w' ⟨rfl, hg, hq⟩
              have HG := Lib.hid hg
              have HQ := Lib.hid hq
              clear hg hq
              go_wp2
              go_ret
              exact ⟨ret_i64 (by rw [HI2.out]), HG.out, by rw [HI2.out]; exact HQ.out⟩
          · have HI2 : Hid (intR l0 low high = (x, l0.drop k, 0)) := Lib.hid (by rw [HI.out, if_neg hr])
            have t1 : decide (x < low) = false := by rw [decide_eq_false_iff_not]; omega
            have t2 : decide (high < x) = false := by rw [decide_eq_false_iff_not]; omega
            clear hr
            by_cases hck : c = k
            · subst hck
              have hnc : n = c := by omega
              have HN := Lib.hid hnc
              clear hnc
              go_wp2
              go_ret
              exact ⟨ret_i64 (by rw [HI2.out]), turned w p 1 _, by rw [HI2.out]; exact rrd_end HB.out (by have := HN.out; omega) (by have := HO.out.1; have := HN.out; rw [List.drop_eq_nil_of_le (by omega)]) (by omega)⟩
            · have hck' : ¬ (c : Int) = k := by omega
              go_wp2
              go_ret
              exact ⟨ret_i64 (by rw [HI2.out]), turned w p 1 _, by rw [HI2.out]; exact rrd_cut HB.out HO.out hkn hn hc hck⟩
  · have hs0 : (szAt 0 l0).2 ≠ 0 := by omega
    have hne : ((szAt 0 l0).2 != 0) = true := by rw [bne_iff_ne]; exact hs0
    have HI := Lib.hid (intR_err (low := low) (high := high) hs0)
    have HS := Lib.hid hs0
    clear hs hs0
    go_enter Try.func138, Try.ntmps138
    go_wp2_with fail
    refine (rstop_ok HW.out).mono ?_
    rintro e w' ⟨rfl, rfl⟩
    go_wp2_with fail
    refine (rCount_any HW.out).mono ?_
    rintro e w' ⟨rfl, rfl⟩
    go_wp2_with fail
    refine (rSet_any _ HW.out HS.out []).mono ?_
    rintro e w' ⟨rfl, hg, hq⟩
    have HG := Lib.hid hg
    have HQ := Lib.hid hq
    clear hg hq
    go_wp2
    go_ret
    exact ⟨ret_i64 (by rw [HI.out]), HG.out, by rw [HI.out]; exact HQ.out.any HS.out⟩
end
end Go.Proofs.Ytidinbeanaifmaa
