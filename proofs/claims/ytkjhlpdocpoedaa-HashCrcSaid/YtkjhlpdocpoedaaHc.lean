/-
  Contracts of the reference's Crc, and of Bucket of package hash and of the reference; of the chapter's examples.
-/
import Derived.Test.YtkjhlpdocpoedaaHb
import Derived.Lib.SlBytesConst
namespace Go.Proofs.Ytkjhlpdocpoedaa
open Go.RowKit

section
variable {w : World} {B : Nat} {A : Option Addr} {n c : Nat} {l : List UInt8}

theorem crcB_odd {r : Nat} (hr : r < 4294967296) (h : r % 2 = 1) : bits .xor .u32 ((r : Int) / 2) 3988292384 = ((crcB r : Nat) : Int) := shift_odd hr h

set_option maxHeartbeats 1000000 in
theorem refCrc_any (hr : Rb w B A n l) (hn : n ≤ 70368744177000) :
    Calls Try.prog 13 #[.slice A n c] w fun e w' => e = .returned (.int .i64 (crc l : Nat)) ∧ w = w' := by
  have HR := Lib.hid hr
  clear hr
  go_enter Try.func13, Try.ntmps13
  go_wp2
  go_loop [3, 10] (fun h i => ∃ k r : Nat, k ≤ n ∧ Hid (r < 4294967296) ∧ i = .int .i64 k ∧ h = .int .u32 r ∧ Hid (r = crcL 4294967295 (l.take k))) (fun _ i => n - (intOf i).toNat)
  case atStart => exact ⟨0, 4294967295, Nat.zero_le _, Lib.hid (by omega), rfl, rfl, Lib.hid (by rw [List.take_zero]; rfl)⟩
  case round =>
    obtain ⟨k, r, hk, hx, rfl, rfl, HX⟩ := hrel
    by_cases hlt : k < n
    · obtain ⟨g, o, x, rfl, _, hx2, hcell⟩ := HR.out.at_ hlt
      unfold b8 at hcell
      have hb : x.toNat < 256 := x.toNat_lt
      have HS := Lib.hid (crc_at hx2 HX.out)
      have HX0 := Lib.hid (u32_xor_nat r x.toNat hx.out (by omega))
      have HB := Lib.hid (xor_lt hx.out (u8_lt x))
      clear hx2 HX hx
      go_wp2
      go_loop [3, 6] (fun h i => ∃ j q : Nat, j ≤ 8 ∧ q < 4294967296 ∧ i = .int .i64 j ∧ h = .int .u32 q ∧ Hid (q = crcN j (r ^^^ x.toNat))) (fun _ i => 8 - (intOf i).toNat)
      case atStart => exact ⟨0, _, Nat.zero_le _, HB.out, rfl, by rw [HX0.out], Lib.hid rfl⟩
      case round =>
        obtain ⟨j, q, hj, hq, rfl, rfl, HQ⟩ := hrel
        by_cases hlj : j < 8
        · have HL := Lib.hid (crcB_lt hq)
          have HQ2 : Hid (crcB q = crcN (j + 1) (r ^^^ x.toNat)) := Lib.hid (by rw [HQ.out]; rfl)
          clear HQ
          rcases Nat.mod_two_eq_zero_or_one q with h | h
          · have HS := Lib.hid (shift_even h)
            have ht : ((q : Int) % 2 == 1) = false := by rw [beq_eq_false_iff_ne]; omega
            clear h
            go_wp2
            go_round
            case rel => exact ⟨j + 1, _, by omega, HL.out, by go_num, by rw [HS.out], HQ2⟩
            case measure => simp [intOf]; omega
          · have HS := Lib.hid (shift_odd hq h)
            have ht : ((q : Int) % 2 == 1) = true := by rw [beq_iff_eq]; omega
            clear h
            go_wp2
            go_round
            case rel => exact ⟨j + 1, _, by omega, HL.out, by go_num, by rw [HS.out], HQ2⟩
            case measure => simp [intOf]; omega
        · have HQ2 : Hid (q = crcN 8 (r ^^^ x.toNat)) := Lib.hid (by rw [HQ.out, show j = 8 by omega])
          have HL := Lib.hid hq
          clear HQ hq
          go_wp2
          go_round
          case rel => exact ⟨k + 1, q, by omega, HL, by go_num, rfl, Lib.hid (by rw [HQ2.out, HS.out])⟩
          case measure => simp [intOf]; omega
    · have HN := Lib.hid (crc_all (by have := HR.out.len; omega) HX.out)
      have HE := Lib.hid (not_end hx.out)
      clear HX hx
      go_wp2
      go_ret
      exact ⟨ret_i64 (by rw [← HN.out, ← HE.out]), rfl⟩
end

/-- the bucket of a string among n -/
def buck (l : List UInt8) (n : Int) : Int := if n < 1 then 0 else (fnv l : Int) % n
theorem buck_0 {l : List UInt8} {n : Int} (h : n < 1) : buck l n = 0 := by unfold buck; rw [if_pos h]
theorem buck_1 {l : List UInt8} {n : Int} (h : 1 ≤ n) : buck l n = (fnv l : Int) % n := by unfold buck; rw [if_neg (by omega)]
theorem buck_bd {l : List UInt8} {n : Int} : 0 ≤ buck l n ∧ (n < 1 ∨ buck l n < n) := by
  rcases Int.lt_or_le n 1 with h | h
  · rw [buck_0 h]; exact ⟨by omega, .inl h⟩
  · rw [buck_1 h]; exact ⟨Int.emod_nonneg _ (by omega), .inr (Int.emod_lt_of_pos _ (by omega))⟩

set_option maxHeartbeats 400000 in
theorem Bucket_any (s : ByteArray) (n : Int) (w : World) (hs : s.size ≤ maxLen) (h1 : -9223372036854775808 ≤ n) (h2 : n ≤ 9223372036854775807) :
    Calls Try.prog 16 #[.string s, .int .i64 n] w fun e w' => e = .returned (.int .i64 (buck s.data.toList n)) ∧ w = w' := by
  have HS := Lib.hid hs
  rcases Int.lt_or_le n 1 with h | h
  · have HB := Lib.hid (buck_0 (l := s.data.toList) h)
    go_enter Try.func16, Try.ntmps16
    go_wp2
    go_ret
    exact ⟨ret_i64 HB.out.symm, rfl⟩
  · have HB := Lib.hid (buck_1 (l := s.data.toList) h)
    have hm := Lib.hid (fnv_lt s.data.toList)
    have hn : ¬ n < 1 := by omega
    obtain ⟨m, hm2⟩ : ∃ m : Nat, m = fnv s.data.toList := ⟨_, rfl⟩
    have HM := Lib.hid hm2
    have hm3 : m < 4294967296 := by rw [hm2]; exact hm.out
    clear hm2
    go_enter Try.func16, Try.ntmps16
    go_wp2_with fail
    refine (Fnv_any s _ HS.out).mono ?_
    rw [← HM.out]
    rintro e w' ⟨rfl, rfl⟩
    go_wp2
    go_ret
    exact ⟨ret_i64 (by rw [HB.out, ← HM.out]), rfl⟩

set_option maxHeartbeats 400000 in
theorem refBucket_any (s : ByteArray) (n : Int) (w : World) (hs : s.size ≤ maxLen) (h1 : -9223372036854775808 ≤ n) (h2 : n ≤ 9223372036854775807) :
    Calls Try.prog 17 #[.string s, .int .i64 n] w fun e w' => e = .returned (.int .i64 (buck s.data.toList n)) ∧ w = w' := by
  have HS := Lib.hid hs
  rcases Int.lt_or_le n 1 with h | h
  · have HB := Lib.hid (buck_0 (l := s.data.toList) h)
    go_enter Try.func17, Try.ntmps17
    go_wp2
    go_ret
    exact ⟨ret_i64 HB.out.symm, rfl⟩
  · have HB := Lib.hid (buck_1 (l := s.data.toList) h)
    have hm := Lib.hid (fnv_lt s.data.toList)
    have hn : ¬ n < 1 := by omega
    obtain ⟨m, hm2⟩ : ∃ m : Nat, m = fnv s.data.toList := ⟨_, rfl⟩
    have HM := Lib.hid hm2
    have hm3 : m < 4294967296 := by rw [hm2]; exact hm.out
    clear hm2
    go_enter Try.func17, Try.ntmps17
    go_wp2_with fail
    refine (refFnv_any s _ HS.out).mono ?_
    rw [← HM.out]
    rintro e w' ⟨rfl, rfl⟩
    go_wp2
    go_ret
    exact ⟨ret_i64 (by rw [HB.out, ← HM.out]), rfl⟩

theorem Rb.lit (w : World) (t : TypeId) (l : List UInt8) : Rb (w.alloc (.cells (l.map b8).toArray t)) (w.heap.size + 1) (some ⟨w.heap.size, 0, none⟩) l.length l := by
  refine ⟨rfl, fun _ => ⟨w.heap.size, 0, rfl, by omega, fun j d hj => ?_⟩⟩
  rw [Nat.zero_add, World.cell?_alloc_at _ _ _ _ rfl]
  simp [hj]
theorem Rb.marked (w : World) (t : TypeId) (f : Nat × Nat) (l : List UInt8) : Rb (w.alloc (.cells (l.map b8).toArray t f)) (w.heap.size + 1) (some ⟨w.heap.size, 0, none⟩) l.length l := by
  refine ⟨rfl, fun _ => ⟨w.heap.size, 0, rfl, by omega, fun j d hj => ?_⟩⟩
  rw [Nat.zero_add, cell_of_row _ _ _ _ _ _ (heap_alloc_new w _)]
  simp [hj]
theorem Rb.nil0 (w : World) (B : Nat) : Rb w B none 0 [] := ⟨rfl, fun h => absurd rfl h⟩

theorem Fnv_is (s : ByteArray) (w : World) (hs : s.size ≤ maxLen) (m : Int) (h : (fnv s.data.toList : Int) = m) :
    Calls Try.prog 10 #[.string s] w fun e w' => e = .returned (.int .i64 m) ∧ w = w' := by subst h; exact Fnv_any s w hs
theorem Crc_is {w : World} {B : Nat} {A : Option Addr} {n c : Nat} {l : List UInt8} (hr : Rb w B A n l) (hn : n ≤ 70368744177000) (m : Int) (h : (crc l : Int) = m) :
    Calls Try.prog 12 #[.slice A n c] w fun e w' => e = .returned (.int .i64 m) ∧ w = w' := by subst h; exact Crc_any hr hn
theorem Bucket_is (s : ByteArray) (n : Int) (w : World) (hs : s.size ≤ maxLen) (h1 : -9223372036854775808 ≤ n) (h2 : n ≤ 9223372036854775807) (m : Int) (h : buck s.data.toList n = m) :
    Calls Try.prog 16 #[.string s, .int .i64 n] w fun e w' => e = .returned (.int .i64 m) ∧ w = w' := by subst h; exact Bucket_any s n w hs h1 h2

theorem ex1 : (fnv (⟨#[]⟩ : ByteArray).data.toList : Int) = 2166136261 := by decide +kernel
theorem ex2 : (fnv (⟨#[97]⟩ : ByteArray).data.toList : Int) = 3826002220 := by decide +kernel
theorem ex3 : (crc [] : Int) = 0 := by decide +kernel
theorem ex4 : (crc [49, 50, 51, 52, 53, 54, 55, 56, 57] : Int) = 3421780262 := by decide +kernel
theorem ex5 : buck (⟨#[97]⟩ : ByteArray).data.toList 0 = 0 := by decide +kernel

set_option maxHeartbeats 1000000 in
theorem works_any (w : World) : Calls Try.prog 9 #[] w fun e w' => e = .returned (.bool true) ∧ Below w.heap.size w w' := by
  have kc := fun (w : World) (C : Array Value) (n c : Nat) => Lib.run_convert_bytes_const (P := Try.prog) w 25 5 C n c Try.underlying25 Try.underlying5
  go_enter Try.func9, Try.ntmps9
  go_wp2_with fail
  refine (Fnv_is ⟨#[]⟩ _ (by decide) _ ex1).mono ?_
  rintro e w' ⟨rfl, rfl⟩
  go_wp2_with fail
  refine (Fnv_is ⟨#[97]⟩ _ (by decide) _ ex2).mono ?_
  rintro e w' ⟨rfl, rfl⟩
  go_wp2_with fail
  refine (Crc_is (Rb.nil0 _ 0) (by omega) _ ex3).mono ?_
  rintro e w' ⟨rfl, rfl⟩
  go_wp2_with fail
  refine (Crc_is (Rb.marked w 5 (9, 10) [49, 50, 51, 52, 53, 54, 55, 56, 57]) (by decide) _ ex4).mono ?_
  rintro e w' ⟨rfl, rfl⟩
  go_wp2_with fail
  refine (Bucket_is ⟨#[97]⟩ 0 _ (by decide) (by omega) (by omega) _ ex5).mono ?_
  rintro e w' ⟨rfl, rfl⟩
  go_wp2
  go_ret
  exact ⟨rfl, (Below.refl _ _).alloc (Nat.le_refl _) _⟩
end Go.Proofs.Ytkjhlpdocpoedaa
