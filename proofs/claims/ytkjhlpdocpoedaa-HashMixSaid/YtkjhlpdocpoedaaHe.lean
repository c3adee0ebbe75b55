/-
  Contracts of eight and Mix (the reference).
-/
import Derived.Test.YtkjhlpdocpoedaaHd
import Derived.Laws.IdiomStrings
import Derived.Laws.OwnMore
namespace Go.Proofs.Ytkjhlpdocpoedaa
open Go.RowKit

theorem run_str {P : Program} {w : World} {B : Nat} {A : Option Addr} {n c : Nat} {l : List UInt8} (src dst e : TypeId) (hs : P.underlying src = some (.slice e)) (he : P.underlying e = some (.int .u8)) (hd : P.underlying dst = some .string)
    (h : Rb w B A n l) : (convert src dst (.slice A n c)).run P w = .ok (.string ⟨l.toArray⟩) w := by
  obtain rfl := h.1
  cases A with
  | none =>
    have hl : l = [] := by
      rcases List.eq_nil_or_concat l with h0 | ⟨r, x, h0⟩
      · exact h0
      · obtain ⟨_, _, ha, _⟩ := h.2 (by rw [h0]; simp)
        cases ha
    subst hl
    rw [run_convert_bytes_string w src dst e _ _ c hs he hd]
    simp [Conv.bytesToString, Sem.run_pure]
    rfl
  | some a =>
    refine run_convert_bytes_back w src dst e a c l hs he hd fun j hj => ?_
    obtain ⟨g, o, ha, _, hc⟩ := h.2 (by intro h0; subst h0; simp at hj)
    injection ha with ha
    subst ha
    rw [Addr.add_lit]
    exact hc j _ (List.getElem?_eq_getElem hj)

theorem Try.infob : (Try.prog.info? 5).map (fun i => (i.zero, i.size, i.bytes)) = some (some (.int .u8 0), 1, 1) := by kernel_rfl
theorem madeB_eq (n : Nat) : (madeCells #[Value.int .u8 0] n).toList = (List.replicate n (0 : UInt8)).map b8 := by
  rw [toList_madeCells_one, List.map_replicate]
  rfl
/-- the row of eight as it stands when j bytes are written -/
def row8 (u j : Nat) : List UInt8 := List.replicate (8 - j) 0 ++ bek j u
theorem row8_len {u j : Nat} (h : j ≤ 8) : (row8 u j).length = 8 := by
  unfold row8
  rw [List.length_append, List.length_replicate, bek_len]
  omega
theorem row8_next {u j : Nat} (h : j < 8) : (row8 u j).set (7 - j) (UInt8.ofNat (u / 256 ^ j % 256)) = row8 u (j + 1) := by
  unfold row8
  rw [show 8 - j = (7 - j) + 1 by omega, show 8 - (j + 1) = 7 - j by omega, List.replicate_succ', List.append_assoc, List.set_append_right _ _ (by simp), bek_cons]
  simp
theorem row8_map {u j : Nat} (h : j < 8) : ((row8 u j).map b8).set (7 - j) (.int .u8 ((u / 256 ^ j % 256 : Nat) : Int)) = (row8 u (j + 1)).map b8 := by
  rw [← row8_next h, List.map_set]
  unfold b8
  rw [ofNat_mod]

theorem quo256 {q : Nat} (h : q < 18446744073709551616) : IntKind.u64.wrap ((q : Int) / 256) = ((q / 256 : Nat) : Int) := by
  rw [IntKind.wrap_u64]
  omega
theorem rem256 (q : Nat) : (q : Int) % 256 = ((q % 256 : Nat) : Int) := by omega
theorem pow256 {u j q : Nat} (h : q = u / 256 ^ j) : q / 256 = u / 256 ^ (j + 1) := by
  rw [h, Nat.pow_succ, ← Nat.div_div_eq_div_mul]

set_option maxHeartbeats 400000 in
theorem eight_any (n : Int) (w : World) (_ : -9223372036854775808 ≤ n) (_ : n ≤ 9223372036854775807) :
    Calls Try.prog 21 #[.int .i64 n] w fun e w' => e = .returned (.string ⟨(bek 8 (u64 n)).toArray⟩) ∧ Below w.heap.size w w' := by
  obtain ⟨i, hi, hz, hs, hb⟩ := info_parts Try.infob
  obtain ⟨u, hu⟩ : ∃ u : Nat, u = u64 n := ⟨_, rfl⟩
  have HU : Hid (IntKind.u64.wrap n = (u : Int)) := Lib.hid (by rw [hu]; exact u64_wrap n)
  have HL : Hid (u < 18446744073709551616) := Lib.hid (by rw [hu]; exact u64_lt n)
  rw [← hu]
  clear hu
  go_enter Try.func21, Try.ntmps21
  go_wp2_with (at_make; refine wpList_make_full _ rfl _ _ 25 rfl w.heap.size 5 i _ 1 Try.underlying25 hi hz hs _ _ _ _ 8 rfl rfl rfl rfl ?_ ?_ ?_ ?_)
  · rw [hb]; omega
  · unfold maxLen; omega
  · exact Nat.le_refl _
  · intro w1 hown hg
    rw [madeB_eq] at hown
    have B1 : Hid (Below w.heap.size w w1) := Lib.hid ((Below.refl _ _).grown hg (Nat.le_refl _) (fun k hk => by cases hk))
    have H1 : Hid (w1.ownsRow w.heap.size 5 1 (.slice (some ⟨w.heap.size, 0, none⟩) 8 8) 8 ((row8 u 0).map b8)) := Lib.hid hown
    clear hown hg
    go_wp2_with fail
    go_loopw [3, 5] (fun x i wr => ∃ (j : Nat) (y : Int), j ≤ 8 ∧ i = .int .i64 y ∧ Hid (y = 7 - (j : Int)) ∧ -1 ≤ y ∧ y ≤ 7 ∧ (∃ q : Nat, x = .int .u64 (q : Int) ∧ Hid (q = u / 256 ^ j ∧ q < 18446744073709551616)) ∧ Hid (wr.ownsRow w.heap.size 5 1 (.slice (some ⟨w.heap.size, 0, none⟩) 8 8) 8 ((row8 u j).map b8)) ∧ Hid (Below w.heap.size w wr)) (fun _ i _ => (intOf i + 1).toNat)
    case atStart => exact ⟨0, 7, by omega, rfl, Lib.hid rfl, by omega, by omega, ⟨u, by rw [HU.out], Lib.hid ⟨by rw [Nat.pow_zero, Nat.div_one], HL.out⟩⟩, H1, B1⟩
    case round =>
      obtain ⟨j, y, hj, rfl, hy, hy1, hy2, ⟨q, rfl, HQ⟩, HO, HB⟩ := hrel
      by_cases hlt : j < 8
      · obtain ⟨m, hm⟩ : ∃ m : Nat, y = (m : Int) := ⟨7 - j, by have := hy.out; omega⟩
        subst hm
        have hmj : m = 7 - j := by have := hy.out; omega
        have hcell := HO.out.cellAt m (by omega)
        have hfr := HO.out.frozenAt m
        obtain ⟨old, hold⟩ : ∃ old, wr.cell? ⟨w.heap.size, m, none⟩ = some old := ⟨(((row8 u j).map b8)[m]'(by rw [List.length_map, row8_len hj]; omega)), by rw [hcell, List.getElem?_eq_getElem]⟩
        have HS := Lib.hid (HO.out.stored m (.int .u8 ((q % 256 : Nat) : Int))).1
        have HN : Hid (((row8 u j).map b8).set m (.int .u8 ((q % 256 : Nat) : Int)) = (row8 u (j + 1)).map b8) := Lib.hid (by rw [hmj, HQ.out.1]; exact row8_map hlt)
        have HJ := Lib.hid (pow256 HQ.out.1)
        have HJ3 : Hid (q / 256 < 18446744073709551616) := Lib.hid (by have := HQ.out.2; omega)
        have HD := Lib.hid (quo256 HQ.out.2)
        have HR := Lib.hid (rem256 q)
        have HJ2 : Hid ((m : Int) = 7 - (j : Int)) := Lib.hid hy.out
        have hm7 : m ≤ 7 := by omega
        clear hcell hmj hy
        go_wp2
        go_roundw
        case rel => exact ⟨j + 1, _, by omega, rfl, Lib.hid (by have := HJ2.out; omega), by omega, by omega, ⟨q / 256, by rw [HD.out], Lib.hid ⟨HJ.out, HJ3.out⟩⟩, Lib.hid (by rw [← HN.out, HR.out]; exact HS.out), HB.out.setCell (p := ⟨w.heap.size, m, none⟩) (Nat.le_refl _) _⟩
        case measure => simp [intOf]
      · have H8 : Hid (row8 u j = bek 8 u) := Lib.hid (by rw [show j = 8 by omega]; rfl)
        have HS := run_str (P := Try.prog) (c := 8) 25 9 5 Try.underlying25 Try.underlying5 Try.underlying9 (Rb.of_own HO.out)
        rw [H8.out] at HS
        have hy' : y < 0 := by have := hy.out; omega
        clear hy
        go_wp2
        go_ret
        exact ⟨rfl, HB.out⟩

theorem bytes_app (l m : List UInt8) : ((⟨l.toArray⟩ : ByteArray) ++ (⟨m.toArray⟩ : ByteArray)).data.toList = l ++ m := by simp
theorem mix_app (a b : Int) : fnv (bek 8 (u64 a) ++ bek 8 (u64 b)) % 2147483648 = mix a b := by
  unfold fnv mix
  rw [fnvL_app]

set_option maxHeartbeats 400000 in
theorem refMix_any (a b : Int) (w : World) (h1 : -9223372036854775808 ≤ a) (h2 : a ≤ 9223372036854775807) (h3 : -9223372036854775808 ≤ b) (h4 : b ≤ 9223372036854775807) :
    Calls Try.prog 15 #[.int .i64 a, .int .i64 b] w fun e w' => e = .returned (.int .i64 (mix a b : Nat)) ∧ Below w.heap.size w w' := by
  have HM := Lib.hid (mix_app a b)
  have HS := Lib.hid (bytes_app (bek 8 (u64 a)) (bek 8 (u64 b)))
  have HZ : Hid (((⟨(bek 8 (u64 a)).toArray⟩ : ByteArray) ++ (⟨(bek 8 (u64 b)).toArray⟩ : ByteArray)).size ≤ maxLen) := Lib.hid (by
    rw [ByteArray.size_append]
    show (bek 8 (u64 a)).toArray.size + (bek 8 (u64 b)).toArray.size ≤ maxLen
    rw [List.size_toArray, List.size_toArray, bek_len, bek_len]
    decide)
  have HL := Lib.hid (fnv_lt (bek 8 (u64 a) ++ bek 8 (u64 b)))
  have hsz : ¬ 9223372036854775807 < (⟨(bek 8 (u64 a)).toArray⟩ : ByteArray).size + (⟨(bek 8 (u64 b)).toArray⟩ : ByteArray).size := by
    show ¬ 9223372036854775807 < (bek 8 (u64 a)).toArray.size + (bek 8 (u64 b)).toArray.size
    rw [List.size_toArray, List.size_toArray, bek_len, bek_len]
    omega
  have HA := Lib.hid (fun (W : World) => eight_any a W h1 h2)
  have HB := Lib.hid (fun (W : World) => eight_any b W h3 h4)
  generalize (⟨(bek 8 (u64 a)).toArray⟩ : ByteArray) = s at *
  generalize (⟨(bek 8 (u64 b)).toArray⟩ : ByteArray) = t at *
  go_enter Try.func15, Try.ntmps15
  go_wp2_with fail
  refine (HA.out _).mono ?_
  rintro e w1 ⟨rfl, hb⟩
  have B1 := Lib.hid hb
  clear hb
  go_wp2_with fail
  refine (HB.out _).mono ?_
  rintro e w2 ⟨rfl, hb⟩
  have B2 := Lib.hid (B1.out.trans (hb.mono B1.out.size))
  clear hb
  go_wp2_with fail
  refine (refFnv_any _ _ HZ.out).mono ?_
  rw [HS.out]
  rintro e w' ⟨rfl, rfl⟩
  generalize fnv (bek 8 (u64 a) ++ bek 8 (u64 b)) = m at *
  have hl := HL.out
  go_wp2
  go_ret
  exact ⟨ret_i64 (by rw [← HM.out]; omega), B2.out⟩
end Go.Proofs.Ytkjhlpdocpoedaa
