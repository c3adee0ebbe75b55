/-
  Contracts of Text and Bool (package wire).
-/
import Derived.Test.YtidinbeanaifmaaRdE
import Derived.Laws.IdiomStrings
namespace Go.Proofs.Ytidinbeanaifmaa
open Go.RowKit

theorem run_str {P : Program} {w : World} {B : Nat} {A : Option Addr} {n c : Nat} {l : List UInt8} (src dst e : TypeId) (hs : P.underlying src = some (.slice e)) (he : P.underlying e = some (.int .u8)) (hd : P.underlying dst = some .string)
    (h : Rb w B A n l) : (convert src dst (.slice A n c)).run P w = .ok (.string ⟨l.toArray⟩) w := by
  obtain rfl := h.1
  cases A with
  | none =>
    have hl : l = [] := by
      rcases List.eq_nil_or_concat l with h0 | ⟨r, x, h0⟩
      · exact h0
      · obtain ⟨_, _, ha, _⟩ := h.2 (by rw [h0]; simp)
        cases ha
    subst hl
    rw [run_convert_bytes_string w src dst e _ _ c hs he hd]
    simp [Conv.bytesToString, Sem.run_pure]
    rfl
  | some a =>
    refine run_convert_bytes_back w src dst e a c l hs he hd fun j hj => ?_
    obtain ⟨g, o, ha, _, hc⟩ := h.2 (by intro h0; subst h0; simp at hj)
    injection ha with ha
    subst ha
    rw [Addr.add_lit]
    exact hc j _ (List.getElem?_eq_getElem hj)

theorem ret_str {a b : List UInt8} (h : a = b) : Ending.returned (.string ⟨a.toArray⟩) = .returned (.string ⟨b.toArray⟩) := by rw [h]

section
variable {w : World} {p : Nat} {l : List UInt8} {e : Int}

set_option maxHeartbeats 1000000 in
theorem wText_err (most : Int) (h : WRd w p l e) (he : e ≠ 0) : Calls Try.prog 136 #[.pointer (some ⟨p, 0, none⟩), .int .i64 most] w (Turns (.string ⟨(([] : List UInt8)).toArray⟩) w p fun w' => WRd w' p l e) := by
  have HW := Lib.hid h
  clear h
  have hne : (e != 0) = true := by rw [bne_iff_ne]; exact he
  go_enter Try.func136, Try.ntmps136
  go_wp2_with fail
  refine (wInt_err 0 most HW.out he).mono ?_
  rintro e1 w1 ⟨rfl, hg, hq⟩
  have HG := Lib.hid hg
  have HQ := Lib.hid hq
  clear hg hq
  go_wp2_with fail
  refine (wLeft_err HQ.out he).mono ?_
  rintro e1 w' ⟨rfl, rfl⟩
  go_wp2_with fail
  refine (wErr_any HQ.out).mono ?_
  rintro e1 w' ⟨rfl, rfl⟩
  go_wp2
  go_ret
  exact ⟨rfl, HG.out, HQ.out⟩

theorem wrd_cut2 {w : World} {p : Nat} {l : List UInt8} {a : Addr} {n c k : Nat} (hb : Bk w p 86 #[.slice (some a) n c, .int .i64 0, .bool true]) (ho : Ow w (some a) n l)
    (hk : k ≤ n) (hn : n ≤ c) (hc : c ≤ 9223372036854775807) (hck : c ≠ k) : WRd (w.setCell ⟨p, 0, none⟩ (.slice (some (a.add k)) (n - k) (c - k))) p (l.drop k) 0 := by
  have h := ho.cut hk hn
  rw [if_neg hck] at h
  exact ⟨_, _, _, _, hb.put 0 _, h.grown hb (by decide) (turned w p 0 _), by omega, by omega, fun _ => rfl⟩

set_option maxHeartbeats 1000000 in
theorem wText_ok (most : Int) (h : WRd w p l 0) : Calls Try.prog 136 #[.pointer (some ⟨p, 0, none⟩), .int .i64 most] w
    (Turns (.string ⟨(textR l most).1.toArray⟩) w p fun w' => WRd w' p (textR l most).2.1 (textR l most).2.2) := by
  have HW := Lib.hid h
  clear h
  rcases intR_ways l 0 most with hi | ⟨k, _, _, _, hi, hx0, _, _, hv⟩
  · have hT : textR l most = ([], [], (intR l 0 most).2.2) ∧ (intR l 0 most).1 = 0 ∧ (intR l 0 most).2.2 ≠ 0 := by
      rcases hi with hi | hi | hi <;> simp [textR, hi]
    obtain ⟨e1, he1⟩ : ∃ e1, e1 = (intR l 0 most).2.2 := ⟨_, rfl⟩
    rw [← he1] at hT
    have HT := Lib.hid hT
    have HE := Lib.hid he1
    have hne : (e1 != 0) = true := by rw [bne_iff_ne]; exact hT.2.2
    clear hi hT he1
    go_enter Try.func136, Try.ntmps136
    go_wp2_with fail
    refine (wInt_ok 0 most HW.out).mono ?_
    rw [HT.out.2.1, ← HE.out]
    rintro e w1 ⟨rfl, hg, hq⟩
    have HG := Lib.hid hg
    have HQ := Lib.hid hq
    clear hg hq
    go_wp2_with fail
    refine (wLeft_err HQ.out HT.out.2.2).mono ?_
    rintro e w' ⟨rfl, rfl⟩
    go_wp2_with fail
    refine (wErr_any HQ.out).mono ?_
    rintro e w' ⟨rfl, rfl⟩
    go_wp2
    go_ret
    exact ⟨ret_str (by rw [HT.out.1]), HG.out, by rw [HT.out.1]; exact HQ.out.any HT.out.2.2⟩
  · obtain ⟨x, hx⟩ : ∃ x : Nat, unz (val (l.take k)) = (x : Int) := ⟨(unz (val (l.take k))).toNat, by omega⟩
    rw [hx] at hi
    have hxm := (unz_in hv).2
    rw [hx] at hxm
    have HI := Lib.hid hi
    obtain ⟨r, hr⟩ : ∃ r, r = l.drop k := ⟨_, rfl⟩
    rw [← hr] at hi
    have HI := Lib.hid hi
    by_cases hlen : r.length < x
    · have hT : textR l most = ([], [], 4) := by
        unfold textR
        rw [hi]
        simp only [ne_eq, not_true_eq_false, ↓reduceIte]
        rw [if_pos (by omega)]
      have HT := Lib.hid hT
      have hgt : decide (r.length < x) = true := by rw [decide_eq_true_eq]; exact hlen
      clear hi hT hr hx hx0 hv hlen
      go_enter Try.func136, Try.ntmps136
      go_wp2_with fail
      refine (wInt_ok 0 most HW.out).mono ?_
      rw [HI.out]
      rintro e w1 ⟨rfl, hg, hq⟩
      have HG := Lib.hid hg
      have HQ := Lib.hid hq
      clear hg hq
      go_wp2_with fail
      refine (wLeft_ok HQ.out).mono ?_
      rintro e w' ⟨rfl, rfl⟩
      go_wp2_with fail
      refine (wFail_ok 4 HQ.out).mono ?_
      rintro e w2 ⟨rfl, hg, hq⟩
      have HG2 := Lib.hid hg
      have HQ2 := Lib.hid hq
      clear hg hq
      go_wp2_with fail
      refine (wErr_any HQ2.out).mono ?_
      rintro e w' ⟨rfl, rfl⟩
      go_wp2
      go_ret
      exact ⟨ret_str (by rw [HT.out]), grownBy_trans HG.out HG2.out, by rw [HT.out]; exact HQ2.out.any (by decide)⟩
    · have hT : textR l most = (r.take x, r.drop x, 0) := by
        unfold textR
        rw [hi]
        simp only [ne_eq, not_true_eq_false, ↓reduceIte]
        rw [if_neg (by omega)]
        simp
      have HT := Lib.hid hT
      have hgt : decide (r.length < x) = false := by rw [decide_eq_false_iff_not]; exact hlen
      have hle : x ≤ r.length := by omega
      clear hi hT hr hx hx0 hv hlen
      go_enter Try.func136, Try.ntmps136
      go_wp2_with fail
      refine (wInt_ok 0 most HW.out).mono ?_
      rw [HI.out]
      rintro e w1 ⟨rfl, hg, hq⟩
      have HG := Lib.hid hg
      have HQ := Lib.hid hq
      clear hg hq
      go_wp2_with fail
      refine (wLeft_ok HQ.out).mono ?_
      rintro e w' ⟨rfl, rfl⟩
      go_wp2_with fail
      refine (wErr_any HQ.out).mono ?_
      rintro e w' ⟨rfl, rfl⟩
      obtain ⟨A, n, c, l0, hb, ho, hn, hc, hl⟩ := HQ.out
      obtain rfl := hl rfl
      have hxn : x ≤ n := by have := ho.1; omega
      have h0 : w1.cell? ⟨p, 0, none⟩ = some (.slice A n c) := hb.cell 0
      have hf0 : w1.frozen? ⟨p, 0, none⟩ = false := hb.frozen 0
      have hstr := run_str (P := Try.prog) (c := c) 50 9 5 Try.underlying50 Try.underlying5 Try.underlying9 (ho.rb.front hxn)
      have HB := Lib.hid hb
      have HO := Lib.hid ho
      clear hb ho hl hle
      by_cases hcx : c = x
      · subst hcx
        have hnc : n = c := by omega
        have HN := Lib.hid hnc
        clear hnc
        go_wp2
        go_ret
        exact ⟨ret_str (by rw [HT.out]), grownBy_trans HG.out (turned w1 p 0 _), by rw [HT.out]; exact wrd_end HB.out (by have := HN.out; omega) (by have := HO.out.1; have := HN.out; rw [List.drop_eq_nil_of_le (by omega)]) (by omega)⟩
      · have hck' : ¬ (c : Int) = x := by omega
        cases A with
        | none =>
          have hn0 : n = 0 := by
            have h1 := HO.out
            rcases Nat.eq_zero_or_pos n with h2 | h2
            · exact h2
            · obtain ⟨_, _, _, ha, _⟩ := h1.2 (by intro h3; have := h1.1; rw [h3] at this; simp at this; omega)
              cases ha
          have HN := Lib.hid hn0
          clear hn0
          go_wp2
          go_ret
          exact ⟨ret_str (by rw [HT.out]), grownBy_trans HG.out (turned w1 p 0 _), by rw [HT.out]; exact wrd_end HB.out (by have := HN.out; omega) (by have := HO.out.1; have := HN.out; rw [List.drop_eq_nil_of_le (by omega)]) (by omega)⟩
        | some a =>
          go_wp2
          go_ret
          exact ⟨ret_str (by rw [HT.out]), grownBy_trans HG.out (turned w1 p 0 _), by rw [HT.out]; exact wrd_cut2 HB.out HO.out hxn hn hc hcx⟩
end
end Go.Proofs.Ytidinbeanaifmaa
