/-
  Contracts of layer 4's small functions: fnvStep and crcShift (package hash).
-/
import Derived.Test.YtenpeolaikimbaaRows
import Derived.WalkKit
import Derived.Lib.Hide
import Derived.WalkSpells
import Derived.WalkLawsBesides
import Derived.Test.YtenpeolaikimbaaBytes
import Derived.Test.YtenpeolaikimbaaHm
namespace Go.Proofs.Ytenpeolaikimbaa
open Go.RowKit

theorem ret_u32 {a b : Int} (h : a = b) : Ending.returned (.int .u32 a) = .returned (.int .u32 b) := by rw [h]
theorem ret_i64 {a b : Int} (h : a = b) : Ending.returned (.int .i64 a) = .returned (.int .i64 b) := by rw [h]
theorem step_u32 {h x : Nat} (hh : h < 4294967296) (hx : x < 256) : IntKind.u32.wrap (bits .xor .u32 (h : Int) (x : Int) * 16777619) = ((fnvS h x : Nat) : Int) := by
  rw [u32_xor_nat h x hh (by omega), IntKind.wrap_u32']
  unfold fnvS
  omega

set_option maxHeartbeats 400000 in
theorem fnvStep_any (h x : Nat) (w : World) (hh : h < 4294967296) (hx : x < 256) :
    Calls Try.prog 22 #[.int .u32 (h : Int), .int .u8 (x : Int)] w fun e w' => e = .returned (.int .u32 (fnvS h x : Nat)) ∧ w = w' := by
  have HS := Lib.hid (step_u32 hh hx)
  clear hh
  go_enter Try.func22, Try.ntmps22
  go_wp2
  go_ret
  exact ⟨ret_u32 HS.out, rfl⟩

theorem shift_odd {r : Nat} (hr : r < 4294967296) (h : r % 2 = 1) : bits .xor .u32 ((r : Int) / 2) 3988292384 = ((crcB r : Nat) : Int) := by
  have e : (r : Int) / 2 = ((r / 2 : Nat) : Int) := by omega
  have e2 : (3988292384 : Int) = ((3988292384 : Nat) : Int) := rfl
  rw [e, e2, u32_xor_nat _ _ (by omega) (by omega)]
  unfold crcB
  rw [if_pos h]
theorem shift_even {r : Nat} (h : r % 2 = 0) : (r : Int) / 2 = ((crcB r : Nat) : Int) := by
  unfold crcB
  rw [if_neg (by omega)]
  omega
theorem and_one {r : Nat} (hr : r < 4294967296) : bits .and .u32 (r : Int) 1 = ((r % 2 : Nat) : Int) := by
  have e2 : (1 : Int) = ((1 : Nat) : Int) := rfl
  rw [e2, u32_and_nat _ _ hr (by omega), nat_mask1]

end Go.Proofs.Ytenpeolaikimbaa
