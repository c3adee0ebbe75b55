/-
  Contracts of fnvInt and Mix (package hash).
-/
import Derived.Test.YtenpeolaikimbaaHc
import Derived.Laws.ShiftsVarLaws
namespace Go.Proofs.Ytenpeolaikimbaa
open Go.RowKit

theorem u64_wrap (n : Int) : IntKind.u64.wrap n = ((u64 n : Nat) : Int) := by
  rw [IntKind.wrap_u64]
  unfold u64
  omega
theorem bek_next (j u : Nat) (h : j < 8) : bek j (u / 256 ^ (8 - j)) ++ [UInt8.ofNat (u / 256 ^ (7 - j) % 256)] = bek (j + 1) (u / 256 ^ (7 - j)) := by
  show _ = bek j (u / 256 ^ (7 - j) / 256) ++ _
  rw [Nat.div_div_eq_div_mul, ← Nat.pow_succ, show (7 - j).succ = 8 - j by omega]
theorem ofNat_mod (m : Nat) : (UInt8.ofNat (m % 256)).toNat = m % 256 := by simp
theorem fnvInt_next (h j u q : Nat) (hj : j < 8) (e : q = fnvL h (bek j (u / 256 ^ (8 - j)))) : fnvS q (u / 256 ^ (7 - j) % 256) = fnvL h (bek (j + 1) (u / 256 ^ (7 - j))) := by
  rw [← bek_next j u hj, fnvL_snoc, ofNat_mod, e]

theorem byte_at (n : Int) (u j : Nat) (hj : j < 8) (e : IntKind.u64.wrap n = (u : Int)) : IntKind.u64.wrap n / 2 ^ (56 - 8 * j) % 256 = ((u / 256 ^ (7 - j) % 256 : Nat) : Int) := by
  have h : (256 : Nat) ^ (7 - j) = 2 ^ (56 - 8 * j) := by
    rw [show (256 : Nat) = 2 ^ 8 from rfl, ← Nat.pow_mul]
    congr 1
    omega
  rw [e, h, Int.natCast_emod, Int.natCast_ediv, Int.natCast_pow]
  rfl

set_option maxHeartbeats 400000 in
theorem fnvInt_any (h : Nat) (n : Int) (w : World) (hh : h < 4294967296) (_ : -9223372036854775808 ≤ n) (_ : n ≤ 9223372036854775807) :
    Calls Try.prog 20 #[.int .u32 (h : Int), .int .i64 n] w fun e w' => e = .returned (.int .u32 (fnvL h (bek 8 (u64 n)) : Nat)) ∧ w = w' := by
  obtain ⟨u, hu⟩ : ∃ u : Nat, u = u64 n := ⟨_, rfl⟩
  have HU : Hid (IntKind.u64.wrap n = (u : Int)) := Lib.hid (by rw [hu]; exact u64_wrap n)
  have HL : Hid (u < 18446744073709551616) := Lib.hid (by rw [hu]; exact u64_lt n)
  rw [← hu]
  clear hu
  go_enter Try.func20, Try.ntmps20
  go_wp2
  go_loop [0, 5] (fun x i => ∃ j q : Nat, j ≤ 8 ∧ q < 4294967296 ∧ i = .int .i64 (56 - 8 * j) ∧ x = .int .u32 q ∧ Hid (q = fnvL h (bek j (u / 256 ^ (8 - j))))) (fun _ i => (intOf i + 8).toNat)
  case atStart => exact ⟨0, h, Nat.zero_le _, hh, rfl, rfl, Lib.hid rfl⟩
  case round =>
    obtain ⟨j, q, hj, hq, rfl, rfl, HQ⟩ := hrel
    by_cases hlt : j < 8
    · have HN := Lib.hid (fnvInt_next h j u q hlt HQ.out)
      have HB := Lib.hid (byte_at n u j hlt HU.out)
      have HF := Lib.hid (fnvS_lt q (u / 256 ^ (7 - j) % 256))
      clear HQ
      go_wp2_with fail
      rw [HB.out]
      refine (fnvStep_any q _ _ hq (Nat.mod_lt _ (by omega))).mono ?_
      rintro e w' ⟨rfl, rfl⟩
      go_wp2
      go_round
      case rel => exact ⟨j + 1, _, by omega, HF.out, by go_num, rfl, Lib.hid (by rw [HN.out, show 8 - (j + 1) = 7 - j by omega])⟩
      case measure => simp [intOf]; omega
    · have HN : Hid (q = fnvL h (bek 8 u)) := Lib.hid (by
        have e := HQ.out
        rw [show j = 8 by omega] at e
        rw [e, Nat.sub_self, Nat.pow_zero, Nat.div_one])
      clear HQ
      go_wp2
      go_ret
      exact ⟨ret_u32 (by rw [HN.out]), rfl⟩

theorem mix_end {m : Nat} (hm : m < 4294967296) : wrap64 (bits .and .u32 (m : Int) 2147483647) = ((m % 2147483648 : Nat) : Int) := by
  have e2 : (2147483647 : Int) = ((2147483647 : Nat) : Int) := rfl
  rw [e2, u32_and_nat _ _ hm (by omega), nat_mask31]
  unfold wrap64
  omega

set_option maxHeartbeats 400000 in
theorem Mix_any (a b : Int) (w : World) (h1 : -9223372036854775808 ≤ a) (h2 : a ≤ 9223372036854775807) (h3 : -9223372036854775808 ≤ b) (h4 : b ≤ 9223372036854775807) :
    Calls Try.prog 16 #[.int .i64 a, .int .i64 b] w fun e w' => e = .returned (.int .i64 (mix a b : Nat)) ∧ w = w' := by
  have hm := fnvL_lt (fnvL 2166136261 (bek 8 (u64 a))) (bek 8 (u64 b)) (fnvL_lt _ _ (by decide))
  have HE := Lib.hid (mix_end hm)
  have HL := Lib.hid (fnvL_lt 2166136261 (bek 8 (u64 a)) (by decide))
  clear hm
  go_enter Try.func16, Try.ntmps16
  go_wp2_with fail
  refine (fnvInt_any 2166136261 a _ (by decide) h1 h2).mono ?_
  rintro e w' ⟨rfl, rfl⟩
  go_wp2_with fail
  refine (fnvInt_any _ b _ HL.out h3 h4).mono ?_
  rintro e w' ⟨rfl, rfl⟩
  go_wp2
  go_ret
  exact ⟨ret_i64 HE.out, rfl⟩
end Go.Proofs.Ytenpeolaikimbaa
