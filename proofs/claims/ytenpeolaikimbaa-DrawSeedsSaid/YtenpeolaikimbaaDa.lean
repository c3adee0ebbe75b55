/-
  Contracts of layer 5: times, Fnv and eight of the reference.
-/
import Derived.Test.YtenpeolaikimbaaHe
namespace Go.Proofs.Ytenpeolaikimbaa
open Go.RowKit

theorem tm_odd {a b o q : Nat} (h : b = 2 * q + 1) : ((o + a) % 4294967296 + a * 2 % 4294967296 * q) % 4294967296 = (o + a * b) % 4294967296 := by
  rw [Nat.add_mod, Nat.mod_mod, Nat.mod_mul_mod, ← Nat.add_mod, h, Nat.mul_add, Nat.mul_one, Nat.mul_assoc]
  congr 1
  omega
theorem tm_even {a b o q : Nat} (h : b = 2 * q) : (o + a * 2 % 4294967296 * q) % 4294967296 = (o + a * b) % 4294967296 := by
  rw [Nat.add_mod, Nat.mod_mul_mod, ← Nat.add_mod, h, Nat.mul_assoc]

set_option maxHeartbeats 400000 in
theorem times_any (a b : Nat) (w : World) (ha : a < 4294967296) (hb : b < 4294967296) :
    Calls Try.prog 21 #[.int .u64 (a : Int), .int .u64 (b : Int)] w fun e w' => e = .returned (.int .u64 (a * b % 4294967296 : Nat)) ∧ w = w' := by
  obtain ⟨t, ht⟩ : ∃ t : Nat, t = a * b % 4294967296 := ⟨_, rfl⟩
  have HT : Hid ((0 + a * b) % 4294967296 = t) := Lib.hid (by rw [ht, Nat.zero_add])
  rw [← ht]
  clear ht
  go_enter Try.func21, Try.ntmps21
  go_wp2
  go_loop [0, 1, 5] (fun x y z => ∃ p q o : Nat, p < 4294967296 ∧ q < 4294967296 ∧ o < 4294967296 ∧ x = .int .u64 p ∧ y = .int .u64 q ∧ z = .int .u64 o ∧ Hid ((o + p * q) % 4294967296 = t)) (fun _ y _ => (intOf y).toNat)
  case atStart => exact ⟨a, b, 0, ha, hb, by omega, rfl, rfl, rfl, HT⟩
  case round =>
    obtain ⟨p, q, o, hp, hq, ho, rfl, rfl, rfl, HR⟩ := hrel
    rcases Nat.eq_zero_or_pos q with h0 | h0
    · have HN : Hid (o = t) := Lib.hid (by rw [← HR.out, h0, Nat.mul_zero, Nat.add_zero, Nat.mod_eq_of_lt ho])
      clear HR
      subst h0
      go_wp2
      go_ret
      rw [HN.out]
      exact ⟨rfl, rfl⟩
    · rcases Nat.mod_two_eq_zero_or_one q with h | h
      · have HN : Hid ((o + p * 2 % 4294967296 * (q / 2)) % 4294967296 = t) := Lib.hid (by rw [← HR.out]; exact tm_even (by omega))
        have t1 : ((q : Int) % 2 == 1) = false := by rw [beq_eq_false_iff_ne]; omega
        clear h HR
        go_wp2
        go_round
        case rel => exact ⟨p * 2 % 4294967296, q / 2, o, by omega, by omega, ho, by go_num, by go_num, rfl, HN⟩
        case measure => simp [intOf]; omega
      · have HN : Hid (((o + p) % 4294967296 + p * 2 % 4294967296 * (q / 2)) % 4294967296 = t) := Lib.hid (by rw [← HR.out]; exact tm_odd (by omega))
        have t1 : ((q : Int) % 2 == 1) = true := by rw [beq_iff_eq]; omega
        clear h HR
        go_wp2
        go_round
        case rel => exact ⟨p * 2 % 4294967296, q / 2, (o + p) % 4294967296, by omega, by omega, by omega, by go_num, by go_num, by go_num, HN⟩
        case measure => simp [intOf]; omega

theorem xor_split {h c : Nat} (hc : c < 256) : h / 256 * 256 + (h % 256 ^^^ c) = h ^^^ c := by
  have h1 : (h ^^^ c) / 2 ^ 8 = h / 2 ^ 8 := by
    rw [Nat.xor_div_two_pow, Nat.div_eq_of_lt (a := c) (by omega), Nat.xor_zero]
  have h2 : (h ^^^ c) % 2 ^ 8 = (h % 2 ^ 8) ^^^ c := by
    rw [Nat.xor_mod_two_pow, Nat.mod_eq_of_lt (a := c) (by omega)]
  have h3 := Nat.div_add_mod (h ^^^ c) (2 ^ 8)
  rw [h1, h2] at h3
  have e : (2 : Nat) ^ 8 = 256 := rfl
  rw [e] at h3
  omega
theorem low_byte (h c : Nat) (hc : c < 256) : bits .xor .u8 ((h % 256 : Nat) : Int) (c : Int) = ((h % 256 ^^^ c : Nat) : Int) := u8_xor_nat _ _ (Nat.mod_lt _ (by omega)) hc

section
variable {w : World} {B : Nat} {A : Option Addr} {n c : Nat} {l : List UInt8}
theorem fnv_step {k x : Nat} {y : UInt8} (h : l[k]? = some y) (e : x = fnv (l.take k)) : (x / 256 * 256 + (x % 256 ^^^ y.toNat)) * 16777619 % 4294967296 = fnv (l.take (k + 1)) := by
  obtain ⟨hk, rfl⟩ := List.getElem?_eq_some_iff.1 h
  rw [List.take_succ_eq_append_getElem hk, fnv_snoc, xor_split l[k].toNat_lt, e]
  rfl

set_option maxHeartbeats 1000000 in
theorem refFnv_any (hr : Rb w B A n l) (hn : n ≤ 70368744177000) :
    Calls Try.prog 18 #[.slice A n c] w fun e w' => e = .returned (.int .i64 (fnv l : Nat)) ∧ w = w' := by
  have HR := Lib.hid hr
  clear hr
  go_enter Try.func18, Try.ntmps18
  go_wp2
  go_loop [3, 4] (fun h i => ∃ k x : Nat, k ≤ n ∧ x < 4294967296 ∧ i = .int .i64 k ∧ h = .int .u64 x ∧ Hid (x = fnv (l.take k))) (fun _ i => n - (intOf i).toNat)
  case atStart => exact ⟨0, 2166136261, Nat.zero_le _, by omega, rfl, rfl, Lib.hid (by rw [List.take_zero]; rfl)⟩
  case round =>
    obtain ⟨k, x, hk, hx, rfl, rfl, HX⟩ := hrel
    by_cases hlt : k < n
    · obtain ⟨g, o, y, rfl, _, hy, hcell⟩ := HR.out.at_ hlt
      unfold b8 at hcell
      have hb : y.toNat < 256 := y.toNat_lt
      have HN := Lib.hid (fnv_step hy HX.out)
      have HB := low_byte x y.toNat hb
      have HL := Lib.hid (fnv_lt (l.take (k + 1)))
      have hz : x / 256 * 256 + (x % 256 ^^^ y.toNat) < 4294967296 := by rw [xor_split hb]; exact xor_lt hx (by omega)
      generalize hzz : (x % 256 ^^^ y.toNat) = z at *
      have hz2 : z < 256 := by
        rw [← hzz]
        exact Nat.xor_lt_two_pow (n := 8) (by omega) hb
      have HW : Hid (IntKind.u64.wrap ((x : Int) / 256 * 256 + IntKind.u64.wrap (bits .xor .u8 ((x : Int) % 256) (y.toNat : Int))) = ((x / 256 * 256 + z : Nat) : Int)) := Lib.hid (by
        have e : ((x : Int) % 256) = ((x % 256 : Nat) : Int) := by omega
        rw [e, HB, IntKind.wrap_u64, IntKind.wrap_u64]
        omega)
      clear HX hzz HB
      go_wp2_with fail
      rw [HW.out]
      refine (times_any _ 16777619 _ hz (by omega)).mono ?_
      rw [HN.out]
      rintro e w' ⟨rfl, rfl⟩
      have hl := HL.out
      obtain ⟨m, hm⟩ : ∃ m, m = fnv (l.take (k + 1)) := ⟨_, rfl⟩
      rw [← hm] at hl ⊢
      have HM := Lib.hid hm
      clear hm
      go_wp2
      go_round
      case rel => exact ⟨k + 1, m, by omega, hl, by go_num, rfl, HM⟩
      case measure => simp [intOf]; omega
    · have HN : Hid (x = fnv l) := Lib.hid (by rw [HX.out, List.take_of_length_le (by have := HR.out.len; omega)])
      clear HX
      go_wp2
      go_ret
      exact ⟨ret_i64 (by rw [HN.out]), rfl⟩
end
end Go.Proofs.Ytenpeolaikimbaa
