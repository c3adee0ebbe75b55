/-
  Contract of joinGroups (package wire).
-/
import Derived.Test.YtidinbeanaifmaaRdC
namespace Go.Proofs.Ytidinbeanaifmaa
open Go.RowKit

theorem val_lt (l : List UInt8) : val l < 128 ^ l.length := by
  induction l with
  | nil => simp [val]
  | cons c r ih => simp only [val, List.length_cons, Nat.pow_succ]; omega
theorem val_app (l r : List UInt8) : val (l ++ r) = val l + 128 ^ l.length * val r := by
  induction l with
  | nil => simp [val]
  | cons c s ih =>
    simp only [val, List.cons_append, List.length_cons, Nat.pow_succ, ih]
    rw [Nat.mul_add, ← Nat.add_assoc, ← Nat.mul_assoc, Nat.mul_comm 128 (128 ^ s.length)]
theorem val_take_le (l : List UInt8) (k : Nat) : val (l.take k) ≤ val l := by
  have h := val_app (l.take k) (l.drop k)
  rw [List.take_append_drop] at h
  omega
theorem or_step (X y k : Nat) (hX : X < 128 ^ k) (hs : X + 128 ^ k * y < 18446744073709551616) :
    bits .or .u64 (X : Int) (IntKind.u64.wrap ((y : Int) * 2 ^ (7 * k))) = ((X + 128 ^ k * y : Nat) : Int) := by
  have e2 : (128 : Nat) ^ k = 2 ^ (7 * k) := by rw [show (128 : Nat) = 2 ^ 7 from rfl, ← Nat.pow_mul]
  have e3 : (y : Int) * 2 ^ (7 * k) = ((128 ^ k * y : Nat) : Int) := by rw [e2, Int.natCast_mul, Int.natCast_pow, Int.mul_comm]; rfl
  have hlt : 128 ^ k * y < 18446744073709551616 := by omega
  rw [e3, IntWalk.u64_in _ ⟨by omega, by omega⟩, u64_or_nat X (128 ^ k * y) (by omega) hlt, e2, Nat.or_comm, Nat.mul_comm]
  rw [e2] at hX
  rw [← Nat.shiftLeft_eq, ← Nat.shiftLeft_add_eq_or_of_lt hX, Nat.add_comm]

section
variable {w : World} {B : Nat} {A : Option Addr} {n c : Nat} {l : List UInt8}

set_option maxHeartbeats 1000000 in
theorem joinGroups_any (hr : Rb w B A n l) (h10 : n ≤ 10) (hv : val l < 18446744073709551616) :
    Calls Try.prog 150 #[.slice A n c] w (Says (.int .u64 (val l : Nat)) w) := by
  have HR := Lib.hid hr
  have HV := Lib.hid hv
  clear hr hv
  go_enter Try.func150, Try.ntmps150
  go_wp2
  go_loop [3, 8] (fun u i => ∃ (k X : Nat), k ≤ n ∧ i = .int .i64 k ∧ u = .int .u64 (X : Int) ∧ Hid (X = val (l.take k))) (fun _ i => n - (intOf i).toNat)
  case atStart => exact ⟨0, 0, by omega, rfl, rfl, by simp [Hid, val]⟩
  case round =>
    obtain ⟨k, X, hkn, rfl, rfl, hX⟩ := hrel
    by_cases hlt : k < n
    · obtain ⟨g, o, x, rfl, _, hx, hcell⟩ := HR.out.at_ hlt
      unfold b8 at hcell
      have hX2 : Hid (X + 128 ^ k * (x.toNat % 128) = val (l.take (k + 1))) := Lib.hid (by
        rw [take_at hx, val_app, ← hX.out]
        have : (l.take k).length = k := by rw [List.length_take, HR.out.len]; omega
        rw [this]; simp [val])
      have hor : Hid (bits .or .u64 (X : Int) (IntKind.u64.wrap (((x.toNat % 128 : Nat) : Int) * 2 ^ (7 * k))) = ((X + 128 ^ k * (x.toNat % 128) : Nat) : Int)) := Lib.hid (or_step X _ k (by
          have h1 := val_lt (l.take k)
          rw [← hX.out] at h1
          have : (l.take k).length = k := by rw [List.length_take, HR.out.len]; omega
          rwa [this] at h1) (by have h1 := val_take_le l (k + 1); have h2 := HV.out; have h3 := hX2.out; omega))
      clear hx hX HR HV
      go_wp2
      go_round
      case rel =>
        refine ⟨k + 1, X + 128 ^ k * (x.toNat % 128), by omega, by go_num, ?_, hX2⟩
        rw [← hor.out]
        rfl
      case measure => simp [intOf]; omega
    · have HX : Hid (X = val l) := Lib.hid (by rw [hX.out, List.take_of_length_le (by have := HR.out.len; omega)])
      clear hX
      go_wp2
      go_ret
      exact ⟨ret_u64 (by rw [HX.out]), rfl⟩
end
end Go.Proofs.Ytidinbeanaifmaa
