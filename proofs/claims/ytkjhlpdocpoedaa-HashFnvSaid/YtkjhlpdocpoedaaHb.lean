/-
  Contracts of Fnv and Crc, of package hash and of the reference.
-/
import Derived.Test.YtkjhlpdocpoedaaHa
namespace Go.Proofs.Ytkjhlpdocpoedaa
open Go.RowKit

theorem str_take (s : ByteArray) (k : Nat) (h : k < s.size) : s.data.toList.take (k + 1) = s.data.toList.take k ++ [s[k]] := by
  rw [List.take_succ_eq_append_getElem (by simpa using h)]; rfl
theorem fnv_at (s : ByteArray) (k x : Nat) (h : k < s.size) (e : x = fnv (s.data.toList.take k)) : fnvS x s[k].toNat = fnv (s.data.toList.take (k + 1)) := by
  rw [str_take s k h, fnv_snoc, e]
theorem fnv_all (s : ByteArray) (k x : Nat) (h : s.size ≤ k) (e : x = fnv (s.data.toList.take k)) : x = fnv s.data.toList := by
  rw [e, List.take_of_length_le (by simpa using h)]

set_option maxHeartbeats 400000 in
theorem Fnv_any (s : ByteArray) (w : World) (hs : s.size ≤ maxLen) :
    Calls Try.prog 10 #[.string s] w fun e w' => e = .returned (.int .i64 (fnv s.data.toList : Nat)) ∧ w = w' := by
  unfold maxLen at hs
  go_enter Try.func10, Try.ntmps10
  go_wp2
  go_loop [3, 7] (fun h i => ∃ k x : Nat, k ≤ s.size ∧ x < 4294967296 ∧ i = .int .i64 k ∧ h = .int .u32 x ∧ Hid (x = fnv (s.data.toList.take k))) (fun _ i => s.size - (intOf i).toNat)
  case atStart => exact ⟨0, 2166136261, Nat.zero_le _, by omega, rfl, rfl, Lib.hid (by rw [List.take_zero]; rfl)⟩
  case round =>
    obtain ⟨k, x, hk, hx, rfl, rfl, HX⟩ := hrel
    by_cases hlt : k < s.size
    · have HN := Lib.hid (fnv_at s k x hlt HX.out)
      have hb : s[k].toNat < 256 := s[k].toNat_lt
      have HL := Lib.hid (fnvS_lt x s[k].toNat)
      clear HX
      go_wp2_with (go_at_call 18; refine (fnvStep_any x s[k].toNat _ hx hb).mono ?_; rintro e w' ⟨rfl, rfl⟩)
      go_round
      case rel => exact ⟨k + 1, _, by omega, HL.out, by go_num, rfl, HN⟩
      case measure => simp [intOf]; omega
    · have HN := Lib.hid (fnv_all s k x (by omega) HX.out)
      clear HX
      go_wp2
      go_ret
      exact ⟨ret_i64 (by rw [HN.out]), rfl⟩

set_option maxHeartbeats 400000 in
theorem refFnv_any (s : ByteArray) (w : World) (hs : s.size ≤ maxLen) :
    Calls Try.prog 11 #[.string s] w fun e w' => e = .returned (.int .i64 (fnv s.data.toList : Nat)) ∧ w = w' := by
  unfold maxLen at hs
  go_enter Try.func11, Try.ntmps11
  go_wp2
  go_loop [3, 4] (fun h i => ∃ k x : Nat, k ≤ s.size ∧ Hid (x < 4294967296) ∧ i = .int .i64 k ∧ h = .int .u32 x ∧ Hid (x = fnv (s.data.toList.take k))) (fun _ i => s.size - (intOf i).toNat)
  case atStart => exact ⟨0, 2166136261, Nat.zero_le _, Lib.hid (by omega), rfl, rfl, Lib.hid (by rw [List.take_zero]; rfl)⟩
  case round =>
    obtain ⟨k, x, hk, hx, rfl, rfl, HX⟩ := hrel
    by_cases hlt : k < s.size
    · have HN := Lib.hid (fnv_at s k x hlt HX.out)
      have hb : s[k].toNat < 256 := s[k].toNat_lt
      have HL := Lib.hid (fnvS_lt x s[k].toNat)
      have HS := Lib.hid (step_u32 hx.out hb)
      clear HX hx
      go_wp2
      go_round
      case rel => exact ⟨k + 1, _, by omega, HL, by go_num, by rw [← HS.out, IntKind.wrap_u32'], HN⟩
      case measure => simp [intOf]; omega
    · have HN := Lib.hid (fnv_all s k x (by omega) HX.out)
      have hx' := hx.out
      clear HX
      go_wp2
      go_ret
      exact ⟨ret_i64 (by rw [HN.out]), rfl⟩

theorem u32_not (a : Nat) (ha : a < 4294967296) : bits .xor .u32 IntKind.u32.max (a : Int) = 4294967295 - (a : Int) := by
  have h1 : (BitVec.ofInt 32 IntKind.u32.max) = BitVec.allOnes 32 := by decide
  show IntKind.u32.wrap ((BitVec.ofInt 32 IntKind.u32.max ^^^ BitVec.ofInt 32 (a : Int)).toNat : Int) = _
  rw [h1, BitVec.allOnes_xor, BitVec.toNat_not, ofInt_u32 a (by omega), IntKind.wrap_u32']
  omega
theorem not_end {a : Nat} (ha : a < 4294967296) : wrap64 (bits .xor .u32 IntKind.u32.max (a : Int)) = ((4294967295 - a : Nat) : Int) := by
  rw [u32_not a ha]
  unfold wrap64
  omega

section
variable {w : World} {B : Nat} {A : Option Addr} {n c : Nat} {l : List UInt8}

theorem take_at' {k : Nat} {x : UInt8} (h : l[k]? = some x) : l.take (k + 1) = l.take k ++ [x] := by
  obtain ⟨hk, rfl⟩ := List.getElem?_eq_some_iff.1 h
  rw [List.take_succ_eq_append_getElem hk]
theorem crc_at {k r : Nat} {x : UInt8} (h : l[k]? = some x) (e : r = crcL 4294967295 (l.take k)) : crcN 8 (r ^^^ x.toNat) = crcL 4294967295 (l.take (k + 1)) := by
  rw [take_at' h, crcL_snoc, e]; rfl
theorem crc_all {k r : Nat} (h : l.length ≤ k) (e : r = crcL 4294967295 (l.take k)) : 4294967295 - r = crc l := by
  rw [e, List.take_of_length_le h]; rfl

set_option maxHeartbeats 1000000 in
theorem Crc_any (hr : Rb w B A n l) (hn : n ≤ 70368744177000) :
    Calls Try.prog 12 #[.slice A n c] w fun e w' => e = .returned (.int .i64 (crc l : Nat)) ∧ w = w' := by
  have HR := Lib.hid hr
  clear hr
  go_enter Try.func12, Try.ntmps12
  go_wp2
  go_loop [3, 8] (fun h i => ∃ k r : Nat, k ≤ n ∧ Hid (r < 4294967296) ∧ i = .int .i64 k ∧ h = .int .u32 r ∧ Hid (r = crcL 4294967295 (l.take k))) (fun _ i => n - (intOf i).toNat)
  case atStart => exact ⟨0, 4294967295, Nat.zero_le _, Lib.hid (by omega), rfl, rfl, Lib.hid (by rw [List.take_zero]; rfl)⟩
  case round =>
    obtain ⟨k, r, hk, hx, rfl, rfl, HX⟩ := hrel
    by_cases hlt : k < n
    · obtain ⟨g, o, x, rfl, _, hx2, hcell⟩ := HR.out.at_ hlt
      unfold b8 at hcell
      have hb : x.toNat < 256 := x.toNat_lt
      have HS := Lib.hid (crc_at hx2 HX.out)
      have HX0 := Lib.hid (u32_xor_nat r x.toNat hx.out (by omega))
      have HB := Lib.hid (xor_lt hx.out (u8_lt x))
      clear hx2 HX hx
      go_wp2
      go_loop [3, 16] (fun h i => ∃ j q : Nat, j ≤ 8 ∧ q < 4294967296 ∧ i = .int .i64 j ∧ h = .int .u32 q ∧ Hid (q = crcN j (r ^^^ x.toNat))) (fun _ i => 8 - (intOf i).toNat)
      case atStart => exact ⟨0, _, Nat.zero_le _, HB.out, rfl, by rw [HX0.out], Lib.hid rfl⟩
      case round =>
        obtain ⟨j, q, hj, hq, rfl, rfl, HQ⟩ := hrel
        by_cases hlj : j < 8
        · have HL := Lib.hid (crcB_lt hq)
          have HQ2 : Hid (crcB q = crcN (j + 1) (r ^^^ x.toNat)) := Lib.hid (by rw [HQ.out]; rfl)
          clear HQ
          go_wp2_with (go_at_call 19; refine (crcShift_any q _ hq).mono ?_; rintro e w' ⟨rfl, rfl⟩)
          go_round
          case rel => exact ⟨j + 1, _, by omega, HL.out, by go_num, rfl, HQ2⟩
          case measure => simp [intOf]; omega
        · have HQ2 : Hid (q = crcN 8 (r ^^^ x.toNat)) := Lib.hid (by rw [HQ.out, show j = 8 by omega])
          have HL := Lib.hid hq
          clear HQ hq
          go_wp2
          go_round
          case rel => exact ⟨k + 1, q, by omega, HL, by go_num, rfl, Lib.hid (by rw [HQ2.out, HS.out])⟩
          case measure => simp [intOf]; omega
    · have HN := Lib.hid (crc_all (by have := HR.out.len; omega) HX.out)
      have HE := Lib.hid (not_end hx.out)
      clear HX hx
      go_wp2
      go_ret
      exact ⟨ret_i64 (by rw [← HN.out, ← HE.out]), rfl⟩
end
end Go.Proofs.Ytkjhlpdocpoedaa
