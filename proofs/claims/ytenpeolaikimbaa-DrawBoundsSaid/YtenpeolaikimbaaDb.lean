/-
  Contracts of layer 5: eight and Draw of the reference, Draw and Below of both.
-/
import Derived.Test.YtenpeolaikimbaaDa
namespace Go.Proofs.Ytenpeolaikimbaa
open Go.RowKit

/-- a new row of bytes, of the call's own -/
def NewRow (w : World) (l : List UInt8) (e : Ending) (w' : World) : Prop :=
  ∃ v, e = .returned v ∧ w'.ownsRow w.heap.size 5 1 v l.length (l.map b8) ∧ Below w.heap.size w w'

set_option maxHeartbeats 400000 in
theorem eight_any (n : Int) (w : World) (_ : -9223372036854775808 ≤ n) (_ : n ≤ 9223372036854775807) :
    Calls Try.prog 17 #[.int .i64 n] w (NewRow w (bek 8 (u64 n))) := by
  obtain ⟨i, hi, hz, hs, hb⟩ := info_parts Try.infob
  obtain ⟨u, hu⟩ : ∃ u : Nat, u = u64 n := ⟨_, rfl⟩
  have HU : Hid (IntKind.u64.wrap n = (u : Int)) := Lib.hid (by rw [hu]; exact u64_wrap n)
  have HL : Hid (u < 18446744073709551616) := Lib.hid (by rw [hu]; exact u64_lt n)
  rw [← hu]
  clear hu
  go_enter Try.func17, Try.ntmps17
  go_wp2_with (at_make; refine wpList_make_full _ rfl _ _ 32 rfl w.heap.size 5 i _ 1 Try.underlying32 hi hz hs _ _ _ _ 8 rfl rfl rfl rfl ?_ ?_ ?_ ?_)
  · rw [hb]; omega
  · unfold maxLen; omega
  · exact Nat.le_refl _
  · intro w1 hown hg
    rw [madeB_eq] at hown
    have B1 : Hid (Below w.heap.size w w1) := Lib.hid ((Below.refl _ _).grown hg (Nat.le_refl _) (fun k hk => by cases hk))
    have H1 : Hid (w1.ownsRow w.heap.size 5 1 (.slice (some ⟨w.heap.size, 0, none⟩) 8 8) 8 ((row8 u 0).map b8)) := Lib.hid hown
    clear hown hg
    go_wp2_with fail
    go_loopw [4, 5] (fun x i wr => ∃ (j : Nat) (y : Int), j ≤ 8 ∧ i = .int .i64 y ∧ Hid (y = 7 - (j : Int)) ∧ -1 ≤ y ∧ y ≤ 7 ∧ (∃ q : Nat, x = .int .u64 (q : Int) ∧ Hid (q = u / 256 ^ j ∧ q < 18446744073709551616)) ∧ Hid (wr.ownsRow w.heap.size 5 1 (.slice (some ⟨w.heap.size, 0, none⟩) 8 8) 8 ((row8 u j).map b8)) ∧ Hid (Below w.heap.size w wr)) (fun _ i _ => (intOf i + 1).toNat)
    case atStart => exact ⟨0, 7, by omega, rfl, Lib.hid rfl, by omega, by omega, ⟨u, by rw [HU.out], Lib.hid ⟨by rw [Nat.pow_zero, Nat.div_one], HL.out⟩⟩, H1, B1⟩
    case round =>
      obtain ⟨j, y, hj, rfl, hy, hy1, hy2, ⟨q, rfl, HQ⟩, HO, HB⟩ := hrel
      by_cases hlt : j < 8
      · obtain ⟨m, hm⟩ : ∃ m : Nat, y = (m : Int) := ⟨7 - j, by have := hy.out; omega⟩
        subst hm
        have hmj : m = 7 - j := by have := hy.out; omega
        have hcell := HO.out.cellAt m (by omega)
        have hfr := HO.out.frozenAt m
        obtain ⟨old, hold⟩ : ∃ old, wr.cell? ⟨w.heap.size, m, none⟩ = some old := ⟨(((row8 u j).map b8)[m]'(by rw [List.length_map, row8_len hj]; omega)), by rw [hcell, List.getElem?_eq_getElem]⟩
        have HS := Lib.hid (HO.out.stored m (.int .u8 ((q % 256 : Nat) : Int))).1
        have HN : Hid (((row8 u j).map b8).set m (.int .u8 ((q % 256 : Nat) : Int)) = (row8 u (j + 1)).map b8) := Lib.hid (by rw [hmj, HQ.out.1]; exact row8_map hlt)
        have HJ := Lib.hid (pow256 HQ.out.1)
        have HJ3 : Hid (q / 256 < 18446744073709551616) := Lib.hid (by have := HQ.out.2; omega)
        have HD := Lib.hid (quo256 HQ.out.2)
        have HR := Lib.hid (rem256 q)
        have HJ2 : Hid ((m : Int) = 7 - (j : Int)) := Lib.hid hy.out
        have hm7 : m ≤ 7 := by omega
        clear hcell hmj hy
        go_wp2
        go_roundw
        case rel => exact ⟨j + 1, _, by omega, rfl, Lib.hid (by have := HJ2.out; omega), by omega, by omega, ⟨q / 256, by rw [HD.out], Lib.hid ⟨HJ.out, HJ3.out⟩⟩, Lib.hid (by rw [← HN.out, HR.out]; exact HS.out), HB.out.setCell (p := ⟨w.heap.size, m, none⟩) (Nat.le_refl _) _⟩
        case measure => simp [intOf]
      · have H8 : Hid (row8 u j = bek 8 u) := Lib.hid (by rw [show j = 8 by omega]; rfl)
        have hy' : y < 0 := by have := hy.out; omega
        clear hy
        go_wp2
        go_ret
        exact ⟨_, rfl, by rw [bek_len, ← H8.out]; exact HO.out, HB.out⟩

theorem own_below {w w' : World} {base : Nat} {e : TypeId} {size n : Nat} {v : Value} {xs : List Value} (h : w.ownsRow base e size v n xs) (hb : Below w.heap.size w w') : w'.ownsRow base e size v n xs := by
  refine ⟨h.1, ?_⟩
  rcases h.2 with h0 | ⟨g, cap, cur, hv, h1, hg, r⟩
  · exact .inl h0
  · exact .inr ⟨g, cap, cur, hv, h1, (hb.block g (Array.getElem?_eq_some_iff.1 hg).1).trans hg, r⟩
theorem mix_lt (a b : Int) : mix a b < 2147483648 := Nat.mod_lt _ (by decide)

theorem own_base {w : World} {base : Nat} {e : TypeId} {size n : Nat} {v : Value} {xs : List Value} (h : w.ownsRow base e size v n xs) : ∀ k, v.ownBlock = some k → base ≤ k := by
  intro k hk
  rcases h.2 with ⟨rfl, _⟩ | ⟨g, cap, cur, rfl, h1, _⟩
  · cases hk
  · injection hk with hk
    subst hk
    exact h1

set_option maxHeartbeats 400000 in
theorem refDraw_any (a b : Int) (w : World) (h1 : -9223372036854775808 ≤ a) (h2 : a ≤ 9223372036854775807) (h3 : -9223372036854775808 ≤ b) (h4 : b ≤ 9223372036854775807) :
    Calls Try.prog 8 #[.int .i64 a, .int .i64 b] w fun e w' => e = .returned (.int .i64 (mix a b : Nat)) ∧ Below w.heap.size w w' := by
  obtain ⟨i, hi, hz, hsz, hb⟩ := info_parts Try.infob
  have HM := Lib.hid (mix_app a b)
  have HA := Lib.hid (fun (W : World) => eight_any a W h1 h2)
  have HB := Lib.hid (fun (W : World) => eight_any b W h3 h4)
  have LA := Lib.hid (bek_len 8 (u64 a))
  have LB := Lib.hid (bek_len 8 (u64 b))
  generalize bek 8 (u64 a) = s at *
  generalize bek 8 (u64 b) = t at *
  have HL := Lib.hid (fnv_lt (s ++ t))
  go_enter Try.func8, Try.ntmps8
  go_wp2_with fail
  refine (HA.out _).mono ?_
  rintro e w1 ⟨v, rfl, ho, hb1⟩
  rw [LA.out] at ho
  obtain ⟨A, c, rfl, hc1, hc2⟩ := own_form ho
  have O1 := Lib.hid ho
  have B1 := Lib.hid hb1
  clear ho hb1
  go_wp2_with fail
  refine (HB.out _).mono ?_
  rintro e w2 ⟨v2, rfl, ho, hb2⟩
  rw [LB.out] at ho
  obtain ⟨A2, c2, rfl, hd1, hd2⟩ := own_form ho
  have O2 := Lib.hid ho
  have B2 := Lib.hid hb2
  clear ho hb2
  have P1 : Hid (w2.ownsRow w.heap.size 5 1 (.slice A 8 c) 8 (s.map b8)) := Lib.hid (own_below O1.out B2.out)
  have S1 : Hid (w.heap.size ≤ w2.heap.size) := Lib.hid (Nat.le_trans B1.out.size B2.out.size)
  go_wp2_with (at_builtin; refine wpList_append_b8 rfl _ _ 32 rfl w.heap.size 5 i (.int .u8 0) Try.underlying32 hi hz hsz hb rfl _ 8 (s.map b8) rfl P1.out w2.heap.size A2 8 c2 t rfl (Rb.of_own O2.out) ?_ ?_ ?_)
  · omega
  · exact S1.out
  · intro v3 w3 ho hg
    obtain ⟨A3, c3, rfl, he1, he2⟩ := own_form ho
    have O3 : Hid (Rb w3 w3.heap.size A3 16 (s ++ t)) := Lib.hid (Rb.of_own (by rw [List.map_append]; exact ho))
    have B3 : Hid (Below w.heap.size w w3) := Lib.hid ((B1.out.trans (B2.out.mono B1.out.size)).grown hg S1.out (own_base P1.out))
    clear ho hg
    go_wp2_with fail
    refine (refFnv_any O3.out (by omega)).mono ?_
    rintro e w' ⟨rfl, rfl⟩
    have hl := HL.out
    generalize fnv (s ++ t) = m at *
    go_wp2
    go_ret
    exact ⟨ret_i64 (by rw [← HM.out]; omega), B3.out⟩

/-- the k-th random number below n -/
def belw (s k n : Int) : Int := if n < 1 then 0 else (mix s k : Int) % n
theorem belw_0 {s k n : Int} (h : n < 1) : belw s k n = 0 := by unfold belw; rw [if_pos h]
theorem belw_1 {s k n : Int} (h : 1 ≤ n) : belw s k n = (mix s k : Int) % n := by unfold belw; rw [if_neg (by omega)]
theorem belw_bd {s k n : Int} : 0 ≤ belw s k n ∧ (n < 1 ∨ belw s k n < n) := by
  rcases Int.lt_or_le n 1 with h | h
  · rw [belw_0 h]; exact ⟨by omega, .inl h⟩
  · rw [belw_1 h]; exact ⟨Int.emod_nonneg _ (by omega), .inr (Int.emod_lt_of_pos _ (by omega))⟩

set_option maxHeartbeats 400000 in
theorem Draw_any (a b : Int) (w : World) (h1 : -9223372036854775808 ≤ a) (h2 : a ≤ 9223372036854775807) (h3 : -9223372036854775808 ≤ b) (h4 : b ≤ 9223372036854775807) :
    Calls Try.prog 7 #[.int .i64 a, .int .i64 b] w fun e w' => e = .returned (.int .i64 (mix a b : Nat)) ∧ w = w' := by
  have HM := Lib.hid (fun (W : World) => Mix_any a b W h1 h2 h3 h4)
  go_enter Try.func7, Try.ntmps7
  go_wp2_with fail
  refine (HM.out _).mono ?_
  rintro e w' ⟨rfl, rfl⟩
  go_wp2
  go_ret
  exact ⟨rfl, rfl⟩

set_option maxHeartbeats 400000 in
theorem Below_any (a b n : Int) (w : World) (h1 : -9223372036854775808 ≤ a) (h2 : a ≤ 9223372036854775807) (h3 : -9223372036854775808 ≤ b) (h4 : b ≤ 9223372036854775807)
    (h5 : -9223372036854775808 ≤ n) (h6 : n ≤ 9223372036854775807) :
    Calls Try.prog 9 #[.int .i64 a, .int .i64 b, .int .i64 n] w fun e w' => e = .returned (.int .i64 (belw a b n)) ∧ w = w' := by
  have HM := Lib.hid (fun (W : World) => Draw_any a b W h1 h2 h3 h4)
  clear h1 h2 h3 h4
  rcases Int.lt_or_le n 1 with h | h
  · have HB := Lib.hid (belw_0 (s := a) (k := b) h)
    go_enter Try.func9, Try.ntmps9
    go_wp2
    go_ret
    exact ⟨ret_i64 HB.out.symm, rfl⟩
  · have HB := Lib.hid (belw_1 (s := a) (k := b) h)
    have hn : ¬ n < 1 := by omega
    obtain ⟨m, hm⟩ : ∃ m : Nat, m = mix a b := ⟨_, rfl⟩
    have hm3 : m < 4294967296 := by have := mix_lt a b; omega
    rw [← hm] at HB HM
    clear hm
    go_enter Try.func9, Try.ntmps9
    go_wp2_with fail
    refine (HM.out _).mono ?_
    rintro e w' ⟨rfl, rfl⟩
    go_wp2
    go_ret
    exact ⟨ret_i64 HB.out.symm, rfl⟩

set_option maxHeartbeats 400000 in
theorem refBelow_any (a b n : Int) (w : World) (h1 : -9223372036854775808 ≤ a) (h2 : a ≤ 9223372036854775807) (h3 : -9223372036854775808 ≤ b) (h4 : b ≤ 9223372036854775807)
    (h5 : -9223372036854775808 ≤ n) (h6 : n ≤ 9223372036854775807) :
    Calls Try.prog 10 #[.int .i64 a, .int .i64 b, .int .i64 n] w fun e w' => e = .returned (.int .i64 (belw a b n)) ∧ Below w.heap.size w w' := by
  have HM := Lib.hid (fun (W : World) => refDraw_any a b W h1 h2 h3 h4)
  clear h1 h2 h3 h4
  rcases Int.lt_or_le n 1 with h | h
  · have HB := Lib.hid (belw_0 (s := a) (k := b) h)
    go_enter Try.func10, Try.ntmps10
    go_wp2
    go_ret
    exact ⟨ret_i64 HB.out.symm, Below.refl _ _⟩
  · have HB := Lib.hid (belw_1 (s := a) (k := b) h)
    have hn : ¬ n < 1 := by omega
    obtain ⟨m, hm⟩ : ∃ m : Nat, m = mix a b := ⟨_, rfl⟩
    have hm3 : m < 4294967296 := by have := mix_lt a b; omega
    rw [← hm] at HB HM
    clear hm
    go_enter Try.func10, Try.ntmps10
    go_wp2_with fail
    refine (HM.out _).mono ?_
    rintro e w' ⟨rfl, hb⟩
    have HB2 := Lib.hid hb
    clear hb
    go_wp2
    go_ret
    exact ⟨ret_i64 HB.out.symm, HB2.out⟩
end Go.Proofs.Ytenpeolaikimbaa
