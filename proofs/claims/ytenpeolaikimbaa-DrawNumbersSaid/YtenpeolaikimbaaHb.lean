/-
  Contracts of Fnv and Crc, of package hash and of the reference.
-/
import Derived.Test.YtenpeolaikimbaaHa
namespace Go.Proofs.Ytenpeolaikimbaa
open Go.RowKit

theorem str_take (s : ByteArray) (k : Nat) (h : k < s.size) : s.data.toList.take (k + 1) = s.data.toList.take k ++ [s[k]] := by
  rw [List.take_succ_eq_append_getElem (by simpa using h)]; rfl
theorem fnv_at (s : ByteArray) (k x : Nat) (h : k < s.size) (e : x = fnv (s.data.toList.take k)) : fnvS x s[k].toNat = fnv (s.data.toList.take (k + 1)) := by
  rw [str_take s k h, fnv_snoc, e]
theorem fnv_all (s : ByteArray) (k x : Nat) (h : s.size ≤ k) (e : x = fnv (s.data.toList.take k)) : x = fnv s.data.toList := by
  rw [e, List.take_of_length_le (by simpa using h)]

set_option maxHeartbeats 400000 in
theorem Fnv_any (s : ByteArray) (w : World) (hs : s.size ≤ maxLen) :
    Calls Try.prog 19 #[.string s] w fun e w' => e = .returned (.int .i64 (fnv s.data.toList : Nat)) ∧ w = w' := by
  unfold maxLen at hs
  go_enter Try.func19, Try.ntmps19
  go_wp2
  go_loop [3, 7] (fun h i => ∃ k x : Nat, k ≤ s.size ∧ x < 4294967296 ∧ i = .int .i64 k ∧ h = .int .u32 x ∧ Hid (x = fnv (s.data.toList.take k))) (fun _ i => s.size - (intOf i).toNat)
  case atStart => exact ⟨0, 2166136261, Nat.zero_le _, by omega, rfl, rfl, Lib.hid (by rw [List.take_zero]; rfl)⟩
  case round =>
    obtain ⟨k, x, hk, hx, rfl, rfl, HX⟩ := hrel
    by_cases hlt : k < s.size
    · have HN := Lib.hid (fnv_at s k x hlt HX.out)
      have hb : s[k].toNat < 256 := s[k].toNat_lt
      have HL := Lib.hid (fnvS_lt x s[k].toNat)
      clear HX
      go_wp2_with (go_at_call 22; refine (fnvStep_any x s[k].toNat _ hx hb).mono ?_; rintro e w' ⟨rfl, rfl⟩)
      go_round
      case rel => exact ⟨k + 1, _, by omega, HL.out, by go_num, rfl, HN⟩
      case measure => simp [intOf]; omega
    · have HN := Lib.hid (fnv_all s k x (by omega) HX.out)
      clear HX
      go_wp2
      go_ret
      exact ⟨ret_i64 (by rw [HN.out]), rfl⟩

theorem u32_not (a : Nat) (ha : a < 4294967296) : bits .xor .u32 IntKind.u32.max (a : Int) = 4294967295 - (a : Int) := by
  have h1 : (BitVec.ofInt 32 IntKind.u32.max) = BitVec.allOnes 32 := by decide
  show IntKind.u32.wrap ((BitVec.ofInt 32 IntKind.u32.max ^^^ BitVec.ofInt 32 (a : Int)).toNat : Int) = _
  rw [h1, BitVec.allOnes_xor, BitVec.toNat_not, ofInt_u32 a (by omega), IntKind.wrap_u32']
  omega
theorem not_end {a : Nat} (ha : a < 4294967296) : wrap64 (bits .xor .u32 IntKind.u32.max (a : Int)) = ((4294967295 - a : Nat) : Int) := by
  rw [u32_not a ha]
  unfold wrap64
  omega

section
variable {w : World} {B : Nat} {A : Option Addr} {n c : Nat} {l : List UInt8}

theorem take_at' {k : Nat} {x : UInt8} (h : l[k]? = some x) : l.take (k + 1) = l.take k ++ [x] := by
  obtain ⟨hk, rfl⟩ := List.getElem?_eq_some_iff.1 h
  rw [List.take_succ_eq_append_getElem hk]
theorem crc_at {k r : Nat} {x : UInt8} (h : l[k]? = some x) (e : r = crcL 4294967295 (l.take k)) : crcN 8 (r ^^^ x.toNat) = crcL 4294967295 (l.take (k + 1)) := by
  rw [take_at' h, crcL_snoc, e]; rfl
theorem crc_all {k r : Nat} (h : l.length ≤ k) (e : r = crcL 4294967295 (l.take k)) : 4294967295 - r = crc l := by
  rw [e, List.take_of_length_le h]; rfl

end
end Go.Proofs.Ytenpeolaikimbaa
