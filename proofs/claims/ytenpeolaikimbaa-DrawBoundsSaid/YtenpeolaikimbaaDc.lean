/-
  Contracts of layer 5: Jitter and Seed of both; the chapter's examples.
-/
import Derived.Test.YtenpeolaikimbaaDb
namespace Go.Proofs.Ytenpeolaikimbaa
open Go.RowKit

/-- base changed by at most percent percent -/
def jit (s k b p : Int) : Int := if b < 0 ∨ 1099511627776 < b ∨ p < 0 ∨ 100 < p then b else b * (100 - p + belw s k (2 * p + 1)) / 100

theorem jit_mul {b f : Int} (h1 : 0 ≤ b) (h2 : b ≤ 1099511627776) (h3 : 0 ≤ f) (h4 : f ≤ 200) : 0 ≤ b * f ∧ b * f ≤ 219902325555200 := by
  refine ⟨Int.mul_nonneg h1 h3, ?_⟩
  have := Int.mul_le_mul h2 h4 h3 (by omega : (0 : Int) ≤ 1099511627776)
  omega
theorem jit_split (b f : Int) : b * f / 100 = b / 100 * f + b % 100 * f / 100 := by
  have e : b * f = b % 100 * f + 100 * (b / 100 * f) := by
    conv => lhs; rw [← Int.mul_ediv_add_emod b 100]
    rw [Int.add_mul, Int.mul_assoc, Int.add_comm]
  rw [e, Int.add_mul_ediv_left _ _ (by omega), Int.add_comm]

set_option maxHeartbeats 1000000 in
theorem Jitter_any (a k b p : Int) (w : World) (h1 : -9223372036854775808 ≤ a) (h2 : a ≤ 9223372036854775807) (h3 : -9223372036854775808 ≤ k) (h4 : k ≤ 9223372036854775807)
    (h5 : -9223372036854775808 ≤ b) (h6 : b ≤ 9223372036854775807) (h7 : -9223372036854775808 ≤ p) (h8 : p ≤ 9223372036854775807) :
    Calls Try.prog 12 #[.int .i64 a, .int .i64 k, .int .i64 b, .int .i64 p] w fun e w' => e = .returned (.int .i64 (jit a k b p)) ∧ w = w' := by
  by_cases hin : b < 0 ∨ 1099511627776 < b ∨ p < 0 ∨ 100 < p
  · have HJ : Hid (jit a k b p = b) := Lib.hid (by unfold jit; rw [if_pos hin])
    rcases Int.lt_or_le b 0 with hb | hb
    · clear hin
      go_enter Try.func12, Try.ntmps12
      go_wp2
      go_ret
      exact ⟨ret_i64 HJ.out.symm, rfl⟩
    · rcases Int.lt_or_le 1099511627776 b with hc | hc
      · clear hin
        go_enter Try.func12, Try.ntmps12
        go_wp2
        go_ret
        exact ⟨ret_i64 HJ.out.symm, rfl⟩
      · rcases Int.lt_or_le p 0 with hd | hd
        · clear hin
          go_enter Try.func12, Try.ntmps12
          go_wp2
          go_ret
          exact ⟨ret_i64 HJ.out.symm, rfl⟩
        · have he : 100 < p := by omega
          clear hin
          go_enter Try.func12, Try.ntmps12
          go_wp2
          go_ret
          exact ⟨ret_i64 HJ.out.symm, rfl⟩
  · have HJ : Hid (jit a k b p = b * (100 - p + belw a k (2 * p + 1)) / 100) := Lib.hid (by unfold jit; rw [if_neg hin])
    have HD := Lib.hid (fun (W : World) => Below_any a k (2 * p + 1) W h1 h2 h3 h4 (by omega) (by omega))
    obtain ⟨l1, l2⟩ := belw_bd (s := a) (k := k) (n := 2 * p + 1)
    generalize belw a k (2 * p + 1) = m at *
    obtain ⟨hb1, hb2, hp1, hp2⟩ : 0 ≤ b ∧ b ≤ 1099511627776 ∧ 0 ≤ p ∧ p ≤ 100 := by omega
    have hm2 : m ≤ 2 * p := by omega
    obtain ⟨j1, j2⟩ := jit_mul (f := 100 - p + m) hb1 hb2 (by omega) (by omega)
    clear hin l2 h1 h2 h3 h4
    go_enter Try.func12, Try.ntmps12
    go_wp2_with fail
    refine (HD.out _).mono ?_
    rintro e w' ⟨rfl, rfl⟩
    go_wp2
    go_ret
    exact ⟨ret_i64 HJ.out.symm, rfl⟩

set_option maxHeartbeats 1000000 in
theorem refJitter_any (a k b p : Int) (w : World) (h1 : -9223372036854775808 ≤ a) (h2 : a ≤ 9223372036854775807) (h3 : -9223372036854775808 ≤ k) (h4 : k ≤ 9223372036854775807)
    (h5 : -9223372036854775808 ≤ b) (h6 : b ≤ 9223372036854775807) (h7 : -9223372036854775808 ≤ p) (h8 : p ≤ 9223372036854775807) :
    Calls Try.prog 13 #[.int .i64 a, .int .i64 k, .int .i64 b, .int .i64 p] w fun e w' => e = .returned (.int .i64 (jit a k b p)) ∧ Below w.heap.size w w' := by
  by_cases hin : b < 0 ∨ 1099511627776 < b ∨ p < 0 ∨ 100 < p
  · have HJ : Hid (jit a k b p = b) := Lib.hid (by unfold jit; rw [if_pos hin])
    rcases Int.lt_or_le b 0 with hb | hb
    · clear hin
      go_enter Try.func13, Try.ntmps13
      go_wp2
      go_ret
      exact ⟨ret_i64 HJ.out.symm, Below.refl _ _⟩
    · rcases Int.lt_or_le 1099511627776 b with hc | hc
      · clear hin
        go_enter Try.func13, Try.ntmps13
        go_wp2
        go_ret
        exact ⟨ret_i64 HJ.out.symm, Below.refl _ _⟩
      · rcases Int.lt_or_le p 0 with hd | hd
        · clear hin
          go_enter Try.func13, Try.ntmps13
          go_wp2
          go_ret
          exact ⟨ret_i64 HJ.out.symm, Below.refl _ _⟩
        · have he : 100 < p := by omega
          clear hin
          go_enter Try.func13, Try.ntmps13
          go_wp2
          go_ret
          exact ⟨ret_i64 HJ.out.symm, Below.refl _ _⟩
  · have HJ : Hid (jit a k b p = b * (100 - p + belw a k (2 * p + 1)) / 100) := Lib.hid (by unfold jit; rw [if_neg hin])
    have HD := Lib.hid (fun (W : World) => refBelow_any a k (2 * p + 1) W h1 h2 h3 h4 (by omega) (by omega))
    obtain ⟨l1, l2⟩ := belw_bd (s := a) (k := k) (n := 2 * p + 1)
    generalize belw a k (2 * p + 1) = m at *
    obtain ⟨hb1, hb2, hp1, hp2⟩ : 0 ≤ b ∧ b ≤ 1099511627776 ∧ 0 ≤ p ∧ p ≤ 100 := by omega
    have hm2 : m ≤ 2 * p := by omega
    rw [jit_split] at HJ
    obtain ⟨j1, j2⟩ := jit_mul (b := b / 100) (f := 100 - p + m) (by omega) (by omega) (by omega) (by omega)
    obtain ⟨j3, j4⟩ := jit_mul (b := b % 100) (f := 100 - p + m) (by omega) (by omega) (by omega) (by omega)
    clear hin l2 h1 h2 h3 h4
    go_enter Try.func13, Try.ntmps13
    go_wp2_with fail
    refine (HD.out _).mono ?_
    rintro e w' ⟨rfl, hb⟩
    have HB := Lib.hid hb
    clear hb
    go_wp2
    go_ret
    exact ⟨ret_i64 HJ.out.symm, HB.out⟩

/-- the hash of two names with a slash between them -/
theorem two_names (s t : ByteArray) : (s ++ (⟨#[47]⟩ : ByteArray) ++ t).data.toList = s.data.toList ++ 47 :: t.data.toList := by simp

set_option maxHeartbeats 400000 in
theorem Seed_any (s t : ByteArray) (w : World) (hs : s.size ≤ 200) (ht : t.size ≤ 200) :
    Calls Try.prog 14 #[.string s, .string t] w fun e w' => e = .returned (.int .i64 (fnv (s.data.toList ++ 47 :: t.data.toList) : Nat)) ∧ w = w' := by
  have z1 : (s ++ (⟨#[47]⟩ : ByteArray)).size = s.size + 1 := by rw [ByteArray.size_append]; rfl
  have z2 : (s ++ (⟨#[47]⟩ : ByteArray) ++ t).size = s.size + 1 + t.size := by rw [ByteArray.size_append, z1]
  have HF := Lib.hid (fun (W : World) => Fnv_any (s ++ (⟨#[47]⟩ : ByteArray) ++ t) W (by unfold maxLen; omega))
  rw [two_names] at HF
  go_enter Try.func14, Try.ntmps14
  go_wp2_with fail
  refine (HF.out _).mono ?_
  rintro e w' ⟨rfl, rfl⟩
  go_wp2
  go_ret
  exact ⟨rfl, rfl⟩

theorem Rb.ofString (w : World) (s : ByteArray) (cap n : Nat) (e : TypeId) (f : Nat × Nat) (hn : s.size = n) : Rb (w.alloc (.cells (bytesRow s cap) e f)).drew (w.heap.size + 1) (some ⟨w.heap.size, 0, none⟩) n s.data.toList := by
  subst hn
  refine Rb.below (w := w.alloc (.cells (bytesRow s cap) e f)) ⟨by simp, fun _ => ⟨w.heap.size, 0, rfl, by omega, fun j d hj => ?_⟩⟩ (Below.refl _ _).drew
  have hj2 : j < s.data.size := by simpa using (List.getElem?_eq_some_iff.1 hj).1
  have hd : s.data[j] = d := by simpa using (List.getElem?_eq_some_iff.1 hj).2
  rw [Nat.zero_add]
  refine (World.cell?_alloc_mark w _ e _ j).trans ?_
  rw [bytesRow_at s cap j hj2, hd]
  rfl

set_option maxHeartbeats 400000 in
theorem refSeed_any (s t : ByteArray) (w : World) (hs : s.size ≤ 200) (ht : t.size ≤ 200) :
    Calls Try.prog 15 #[.string s, .string t] w fun e w' => e = .returned (.int .i64 (fnv (s.data.toList ++ 47 :: t.data.toList) : Nat)) ∧ Below w.heap.size w w' := by
  have z1 : (s ++ (⟨#[47]⟩ : ByteArray)).size = s.size + 1 := by rw [ByteArray.size_append]; rfl
  have z2 : (s ++ (⟨#[47]⟩ : ByteArray) ++ t).size = s.size + 1 + t.size := by rw [ByteArray.size_append, z1]
  have z3 := Lib.hid z2
  have HT := Lib.hid (two_names s t)
  have kc := fun (w : World) => run_bytes_of_string (P := Try.prog) w 9 32 5 (s ++ (⟨#[47]⟩ : ByteArray) ++ t) Try.underlying9 Try.underlying32 Try.underlying5
  go_enter Try.func15, Try.ntmps15
  go_wp2_with fail
  refine (refFnv_any (Rb.ofString w _ _ _ _ _ z3.out) (by omega)).mono ?_
  rw [HT.out]
  rintro e w' ⟨rfl, rfl⟩
  go_wp2
  go_ret
  exact ⟨rfl, ((Below.refl _ _).alloc (Nat.le_refl _) _).drew⟩
end Go.Proofs.Ytenpeolaikimbaa
