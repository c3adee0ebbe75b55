/-
  Contracts of Bool (package wire), count and Bool (the reference).
-/
import Derived.Test.YtlhloebpppmgdaaRdF
namespace Go.Proofs.Ytlhloebpppmgdaa
open Go.RowKit

theorem rrd_end {w : World} {p : Nat} {l : List UInt8} {A B : Option Addr} {n c m d : Nat} (hb : Bk w p 54 #[.bool true, .slice A n c, .int .i64 0]) (hm : m = 0) (hl : l = []) (hd : m ≤ d ∧ d ≤ 9223372036854775807) :
    RRd (w.setCell ⟨p, 1, none⟩ (.slice B m d)) p l 0 :=
  ⟨_, _, _, [], hb.put 1 _, ⟨by simp [hm], fun h => absurd rfl h⟩, hd.1, hd.2, fun _ => hl.symm⟩
theorem rrd_cut2 {w : World} {p : Nat} {l : List UInt8} {a : Addr} {n c k : Nat} (hb : Bk w p 54 #[.bool true, .slice (some a) n c, .int .i64 0]) (ho : Ow w (some a) n l)
    (hk : k ≤ n) (hn : n ≤ c) (hc : c ≤ 9223372036854775807) (hck : c ≠ k) : RRd (w.setCell ⟨p, 1, none⟩ (.slice (some (a.add k)) (n - k) (c - k))) p (l.drop k) 0 := by
  have h := ho.cut hk hn
  rw [if_neg hck] at h
  exact ⟨_, _, _, _, hb.put 1 _, h.grown hb (by decide) (turned w p 1 _), by omega, by omega, fun _ => rfl⟩

section
variable {w : World} {p : Nat} {l : List UInt8} {e : Int}

set_option maxHeartbeats 1000000 in
theorem wBool_err (h : WRd w p l e) (he : e ≠ 0) : Calls Try.prog 23 #[.pointer (some ⟨p, 0, none⟩)] w (Turns (.bool false) w p fun w' => WRd w' p l e) := by
  have HW := Lib.hid h
  clear h
  have hne : (e != 0) = true := by rw [bne_iff_ne]; exact he
  go_enter Try.func23, Try.ntmps23
  go_wp2_with (go_at_call 24; refine (wErr_any HW.out).mono ?_; rintro e w' ⟨rfl, rfl⟩)
  go_ret
  exact ⟨rfl, World.grownBy.refl _ _, HW.out⟩

set_option maxHeartbeats 1000000 in
theorem wBool_ok (h : WRd w p l 0) : Calls Try.prog 23 #[.pointer (some ⟨p, 0, none⟩)] w
    (Turns (.bool (boolR l).1) w p fun w' => WRd w' p (boolR l).2.1 (boolR l).2.2) := by
  have HW := Lib.hid h
  obtain ⟨A, n, c, l0, hb, ho, hn, hc, hl⟩ := h
  obtain rfl := hl rfl
  have h0 : w.cell? ⟨p, 0, none⟩ = some (.slice A n c) := hb.cell 0
  have hf0 : w.frozen? ⟨p, 0, none⟩ = false := hb.frozen 0
  have HB := Lib.hid hb
  have HO := Lib.hid ho
  clear hb ho hl
  cases l0 with
  | nil =>
    obtain rfl : n = 0 := by have := HO.out.1; simpa using this.symm
    go_enter Try.func23, Try.ntmps23
    go_wp2_with fail
    refine (wErr_any HW.out).mono ?_
    rintro e w' ⟨rfl, rfl⟩
    go_wp2_with fail
    refine (wFail_ok 4 HW.out).mono ?_
    rintro e w' ⟨rfl, hg, hq⟩
    have HG := Lib.hid hg
    have HQ := Lib.hid hq
    clear hg hq
    go_wp2
    go_ret
    exact ⟨rfl, HG.out, HQ.out.any (by decide)⟩
  | cons x r =>
    have hn1 : n = r.length + 1 := by have := HO.out.1; simpa using this.symm
    obtain ⟨g, o, cs, rfl, hbk, hcs⟩ := HO.out.2 (by simp)
    have hcell : w.cell? ⟨g, o, none⟩ = some (.int .u8 (x.toNat : Int)) := (hbk.cell o).trans (hcs 0 x rfl)
    have hpos : 0 < n := by omega
    have tn : ((n : Int) == 0) = false := by rw [beq_eq_false_iff_ne]; omega
    have HN := Lib.hid hn1
    clear hbk hcs hn1
    by_cases hx : 1 < x.toNat
    · have t1 : decide ((1 : Int) < (x.toNat : Int)) = true := by rw [decide_eq_true_eq]; omega
      have HX : Hid (boolR (x :: r) = (false, [], 3)) := Lib.hid (show (if 1 < x.toNat then (false, [], 3) else (x.toNat == 1, r, 0)) = _ by rw [if_pos hx])
      clear hx
      go_enter Try.func23, Try.ntmps23
      go_wp2_with fail
      refine (wErr_any HW.out).mono ?_
      rintro e w' ⟨rfl, rfl⟩
      go_wp2_with fail
      refine (wFail_ok 3 HW.out).mono ?_
      rintro e w' ⟨rfl, hg, hq⟩
      have HG := Lib.hid hg
      have HQ := Lib.hid hq
      clear hg hq
      go_wp2
      go_ret
      exact ⟨ret_bool (by rw [HX.out]), HG.out, by rw [HX.out]; exact HQ.out.any (by decide)⟩
    · have t1 : decide ((1 : Int) < (x.toNat : Int)) = false := by rw [decide_eq_false_iff_not]; omega
      have HX : Hid (boolR (x :: r) = (x.toNat == 1, r, 0)) := Lib.hid (show (if 1 < x.toNat then (false, [], 3) else (x.toNat == 1, r, 0)) = _ by rw [if_neg hx])
      have HY : Hid (((x.toNat : Int) == 1) = (x.toNat == 1)) := Lib.hid (by rw [Bool.eq_iff_iff, beq_iff_eq, beq_iff_eq]; omega)
      clear hx
      by_cases hcx : c = 1
      · subst hcx
        go_enter Try.func23, Try.ntmps23
        go_wp2_with fail
        refine (wErr_any HW.out).mono ?_
        rintro e w' ⟨rfl, rfl⟩
        go_wp2
        go_ret
        exact ⟨ret_bool (by rw [HX.out]; exact HY.out), turned w p 0 _, by rw [HX.out]; exact wrd_end HB.out (by omega) (show r = [] from List.eq_nil_of_length_eq_zero (by have := HN.out; omega)) (by omega)⟩
      · have hck' : ¬ (c : Int) = 1 := by omega
        go_enter Try.func23, Try.ntmps23
        go_wp2_with fail
        refine (wErr_any HW.out).mono ?_
        rintro e w' ⟨rfl, rfl⟩
        go_wp2
        go_ret
        exact ⟨ret_bool (by rw [HX.out]; exact HY.out), turned w p 0 _, by rw [HX.out]; exact wrd_cut HB.out HO.out hpos hn hc hcx⟩

set_option maxHeartbeats 1000000 in
theorem rBool_err (h : RRd w p l e) (he : e ≠ 0) : Calls Try.prog 33 #[.pointer (some ⟨p, 0, none⟩)] w (Turns (.bool false) w p fun w' => RRd w' p l e) := by
  have HW := Lib.hid h
  clear h
  have hne : (e != 0) = true := by rw [bne_iff_ne]; exact he
  go_enter Try.func33, Try.ntmps33
  go_wp2_with (go_at_call 41; refine (rStopped_any HW.out).mono ?_; rintro e w' ⟨rfl, rfl⟩)
  go_ret
  exact ⟨rfl, World.grownBy.refl _ _, HW.out⟩

theorem rstop_ok (h : RRd w p l 0) : Calls Try.prog 41 #[.pointer (some ⟨p, 0, none⟩)] w (Says (.bool false) w) := rStopped_any h

set_option maxHeartbeats 1000000 in
theorem rBool_ok (h : RRd w p l 0) : Calls Try.prog 33 #[.pointer (some ⟨p, 0, none⟩)] w
    (Turns (.bool (boolR l).1) w p fun w' => RRd w' p (boolR l).2.1 (boolR l).2.2) := by
  have HW := Lib.hid h
  obtain ⟨A, n, c, l0, hb, ho, hn, hc, hl⟩ := h
  obtain rfl := hl rfl
  have h0 : w.cell? ⟨p, 1, none⟩ = some (.slice A n c) := hb.cell 1
  have hf0 : w.frozen? ⟨p, 1, none⟩ = false := hb.frozen 1
  have HB := Lib.hid hb
  have HO := Lib.hid ho
  clear hb ho hl
  cases l0 with
  | nil =>
    obtain rfl : n = 0 := by have := HO.out.1; simpa using this.symm
    go_enter Try.func33, Try.ntmps33
    go_wp2_with fail
    refine (rstop_ok HW.out).mono ?_
    rintro e w' ⟨rfl, rfl⟩
    go_wp2_with fail
    refine (rSet_any 4 HW.out (by decide) []).mono ?_
    rintro e w' ⟨rfl, hg, hq⟩
    have HG := Lib.hid hg
    have HQ := Lib.hid hq
    clear hg hq
    go_wp2
    go_ret
    exact ⟨rfl, HG.out, HQ.out⟩
  | cons x r =>
    have hn1 : n = r.length + 1 := by have := HO.out.1; simpa using this.symm
    obtain ⟨g, o, cs, rfl, hbk, hcs⟩ := HO.out.2 (by simp)
    have hcell : w.cell? ⟨g, o, none⟩ = some (.int .u8 (x.toNat : Int)) := (hbk.cell o).trans (hcs 0 x rfl)
    have hpos : 0 < n := by omega
    have tn : ((n : Int) == 0) = false := by rw [beq_eq_false_iff_ne]; omega
    have HN := Lib.hid hn1
    clear hbk hcs hn1
    by_cases hx : 1 < x.toNat
    · have t1 : decide ((1 : Int) < (x.toNat : Int)) = true := by rw [decide_eq_true_eq]; omega
      have HX : Hid (boolR (x :: r) = (false, [], 3)) := Lib.hid (show (if 1 < x.toNat then (false, [], 3) else (x.toNat == 1, r, 0)) = _ by rw [if_pos hx])
      clear hx
      go_enter Try.func33, Try.ntmps33
      go_wp2_with fail
      refine (rstop_ok HW.out).mono ?_
      rintro e w' ⟨rfl, rfl⟩
      go_wp2_with fail
      refine (rSet_any 3 HW.out (by decide) []).mono ?_
      rintro e w' ⟨rfl, hg, hq⟩
      have HG := Lib.hid hg
      have HQ := Lib.hid hq
      clear hg hq
      go_wp2
      go_ret
      exact ⟨ret_bool (by rw [HX.out]), HG.out, by rw [HX.out]; exact HQ.out⟩
    · have t1 : decide ((1 : Int) < (x.toNat : Int)) = false := by rw [decide_eq_false_iff_not]; omega
      have HX : Hid (boolR (x :: r) = (x.toNat == 1, r, 0)) := Lib.hid (show (if 1 < x.toNat then (false, [], 3) else (x.toNat == 1, r, 0)) = _ by rw [if_neg hx])
      have HY : Hid (((x.toNat : Int) == 1) = (x.toNat == 1)) := Lib.hid (by rw [Bool.eq_iff_iff, beq_iff_eq, beq_iff_eq]; omega)
      clear hx
      by_cases hcx : c = 1
      · subst hcx
        go_enter Try.func33, Try.ntmps33
        go_wp2_with fail
        refine (rstop_ok HW.out).mono ?_
        rintro e w' ⟨rfl, rfl⟩
        go_wp2
        go_ret
        exact ⟨ret_bool (by rw [HX.out]; exact HY.out), turned w p 1 _, by rw [HX.out]; exact rrd_end HB.out (by omega) (show r = [] from List.eq_nil_of_length_eq_zero (by have := HN.out; omega)) (by omega)⟩
      · have hck' : ¬ (c : Int) = 1 := by omega
        go_enter Try.func33, Try.ntmps33
        go_wp2_with fail
        refine (rstop_ok HW.out).mono ?_
        rintro e w' ⟨rfl, rfl⟩
        go_wp2
        go_ret
        exact ⟨ret_bool (by rw [HX.out]; exact HY.out), turned w p 1 _, by rw [HX.out]; exact rrd_cut2 HB.out HO.out hpos hn hc hcx⟩
end
end Go.Proofs.Ytlhloebpppmgdaa
