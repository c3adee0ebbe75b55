/-
  Contracts of the functions that append an encoding: copyOf, appendInt, PutInt, PutText, PutBool (package wire).
-/
import Derived.Test.YtidinbeanaifmaaPutA
namespace Go.Proofs.Ytidinbeanaifmaa
open Go.RowKit

theorem Try.infob : (Try.prog.info? 5).map (fun i => (i.zero, i.size, i.bytes)) = some (some (.int .u8 0), 1, 1) := by kernel_rfl

set_option maxHeartbeats 400000 in
theorem copyOf_any (A : Option Addr) (n c : Nat) (l : List UInt8) (room : Int) (B : Nat) (w : World) (hr : Rb w B A n l) (hB : B ≤ w.heap.size) (hn : n ≤ 70368744177664) (h0 : 0 ≤ room) (hm : room ≤ 70368744177664) :
    Calls Try.prog 85 #[.slice A n c, .int .i64 room] w fun e w' => ∃ v, e = .returned v ∧ w'.ownsRow w.heap.size 5 1 v n (l.map b8) ∧ Below w.heap.size w w' := by
  obtain ⟨i, hi, hz, hs, hb⟩ := info_parts Try.infob
  obtain ⟨room, rfl⟩ := Int.eq_ofNat_of_zero_le h0
  have HR := Lib.hid hr
  clear hr
  go_enter Try.func85, Try.ntmps85
  go_wp2_with (at_make; refine wpList_make_own _ rfl _ _ 50 rfl w.heap.size 5 i (.int .u8 0) 1 Try.underlying50 hi hz hs _ _ _ (n + room) rfl rfl ?_ ?_ ?_ ?_ ?_)
  · rfl
  · rw [hb]; omega
  · unfold maxLen; omega
  · exact Nat.le_refl _
  · intro w1 hown hg
    have hb1 : Below w.heap.size w w1 := (Below.refl _ _).grown hg (Nat.le_refl _) (by simp)
    have H1 := Lib.hid hown
    have H2 := Lib.hid hb1
    clear hown hg hb1
    go_wp2_with (at_builtin; refine wpList_append_b8 rfl _ _ 50 rfl w.heap.size 5 i (.int .u8 0) Try.underlying50 hi hz hs hb rfl _ 0 [] rfl H1.out B A n c l rfl (HR.out.below (H2.out.mono hB)) ?_ ?_ ?_)
    · omega
    · exact H2.out.size
    · intro v' w2 hown2 hg2
      have hb2 : Below w.heap.size w w2 := H2.out.grown hg2 H2.out.size (fun k hk => (H1.out.lt k hk).1)
      have hown3 : w2.ownsRow w.heap.size 5 1 v' n (l.map b8) := by simpa using hown2
      have H3 := Lib.hid hown3
      have H4 := Lib.hid hb2
      clear hown2 hown3 hg2 hb2
      go_wp2
      go_ret
      exact ⟨v', rfl, H3.out, H4.out⟩

theorem Rb.one (w : World) (t : TypeId) (x : Int) (c : UInt8) (h : x = c.toNat) : Rb (w.alloc (.cells #[.int .u8 x] t)) (w.heap.size + 1) (some ⟨w.heap.size, 0, none⟩) 1 [c] := by
  refine ⟨rfl, fun _ => ⟨w.heap.size, 0, rfl, by omega, fun j d hj => ?_⟩⟩
  match j, hj with
  | 0, hj =>
    obtain rfl : c = d := by simpa using hj
    subst h
    rw [Nat.zero_add, World.cell?_alloc_at _ _ _ _ rfl]
    rfl

set_option maxRecDepth 100000 in
set_option maxHeartbeats 400000 in
theorem appendInt_any (base : Nat) (v : Value) (k : Nat) (xs : List Value) (n : Int) (w : World) (hown : w.ownsRow base 5 1 v k xs) (hB : base ≤ w.heap.size) (hk : k ≤ 140737488355000)
    (h1 : -9223372036854775808 ≤ n) (h2 : n ≤ 9223372036854775807) :
    Calls Try.prog 147 #[v, .int .i64 n] w fun e w' => ∃ v', e = .returned v' ∧ w'.ownsRow base 5 1 v' (k + (enc n).length) (xs ++ (enc n).map b8) ∧ Below base w w' := by
  obtain ⟨i, hi, hz, hs, hb⟩ := info_parts Try.infob
  have HO := Lib.hid hown
  clear hown
  go_enter Try.func147, Try.ntmps147
  go_wp2_with (go_at_call 154; refine (fold_any n _ h1 h2).mono ?_; rintro e w' ⟨rfl, rfl⟩)
  go_loopw [0, 5] (fun v u wr => ∃ (d : List UInt8) (f : Nat) (z : Nat), u = .int .u64 (z : Int) ∧ Hid (enc n = d ++ grp (f + 1) z ∧ d.length + f = 9 ∧ z * 128 ^ (9 - f) < 18446744073709551616 ∧ z < 18446744073709551616) ∧
      Hid (wr.ownsRow base 5 1 v (k + d.length) (xs ++ d.map b8)) ∧ Below base w wr) (fun _ u _ => (intOf u).toNat)
  case atStart => exact ⟨[], 9, zig n, rfl, ⟨rfl, rfl, by have := zig_lt h1 h2; simpa using this, zig_lt h1 h2⟩, by simpa using HO, Below.refl _ _⟩
  case round =>
    obtain ⟨d, f, z, rfl, hd, hown, hbl⟩ := hrel
    have hquo : IntKind.u64.wrap ((z : Int) / 128) = (z : Int) / 128 := by
      have hz' : (z : Int) < 18446744073709551616 := by have := hd.out; omega
      exact IntWalk.u64_in _ ⟨by omega, by omega⟩
    have HU := Lib.hid hquo
    clear hquo
    have HB := Lib.hid hbl
    clear hbl h1 h2
    by_cases hlt : 128 ≤ z
    · have hx : (z : Int) % 128 + 128 = ((UInt8.ofNat (z % 128 + 128)).toNat : Int) := by rw [u8_nat _ (by omega)]; omega
      have HX := Lib.hid hx
      clear hx
      go_wp2_with (at_builtin; refine wpList_append_b8 rfl _ _ 50 rfl base 5 i (.int .u8 0) Try.underlying50 hi hz hs hb rfl _ (k + d.length) (xs ++ d.map b8) rfl (hown.out.alloc _) (wr.heap.size + 1) (some ⟨wr.heap.size, 0, none⟩) 1 1 [UInt8.ofNat (z % 128 + 128)] rfl (Rb.one wr 5 _ _ HX.out) ?_ ?_ ?_)
      · have := hd.out; omega
      · have := HB.out.size; simp; omega
      · intro v' w2 hown2 hg2
        have hb2 : Below base w w2 := (HB.out.alloc (by have := HB.out.size; omega) _).grown hg2 (by have := HB.out.size; simp; omega) (fun k hk => (hown.out.lt k hk).1)
        have H3 := Lib.hid hown2
        have H4 := Lib.hid hb2
        clear hown2 hg2 hb2
        obtain ⟨f, rfl⟩ : ∃ g, f = g + 1 := ⟨f - 1, by
          rcases Nat.eq_zero_or_pos f with h0 | h0
          · subst h0; have := hd.out; simp only [Nat.sub_zero] at this; omega
          · omega⟩
        have hq : z / 128 * 128 ^ (9 - f) < 18446744073709551616 := by
          have h1 := hd.out.2.2.1
          refine Nat.lt_of_le_of_lt ?_ h1
          rw [show 9 - f = (9 - (f + 1)) + 1 from by have := hd.out; omega, Nat.pow_succ, Nat.mul_comm (128 ^ _) 128, ← Nat.mul_assoc]
          exact Nat.mul_le_mul_right _ (Nat.div_mul_le_self _ _)
        have HQ := Lib.hid hq
        clear hq
        have hquo := HU.out
        go_wp2
        clear hquo
        go_roundw
        case rel =>
          refine ⟨d ++ [UInt8.ofNat (z % 128 + 128)], f, z / 128, by go_num, ⟨?_, ?_, HQ.out, ?_⟩, ?_, H4.out⟩
          · rw [hd.out.1, grp_more hlt]; simp
          · have := hd.out; simp; omega
          · have := hd.out; omega
          · exact Lib.hid (by simpa [Nat.add_assoc] using H3.out)
        case measure => simp [intOf]; omega
    · have hx : (z : Int) = ((UInt8.ofNat z).toNat : Int) := by rw [u8_nat _ (by omega)]
      have HX := Lib.hid hx
      clear hx
      go_wp2_with (at_builtin; refine wpList_append_b8 rfl _ _ 50 rfl base 5 i (.int .u8 0) Try.underlying50 hi hz hs hb rfl _ (k + d.length) (xs ++ d.map b8) rfl (hown.out.alloc _) (wr.heap.size + 1) (some ⟨wr.heap.size, 0, none⟩) 1 1 [UInt8.ofNat z] rfl (Rb.one wr 5 _ _ HX.out) ?_ ?_ ?_)
      · have := hd.out; omega
      · have := HB.out.size; simp; omega
      · intro v' w2 hown2 hg2
        have hb2 : Below base w w2 := (HB.out.alloc (by have := HB.out.size; omega) _).grown hg2 (by have := HB.out.size; simp; omega) (fun k hk => (hown.out.lt k hk).1)
        have he : enc n = d ++ [UInt8.ofNat z] := by rw [hd.out.1, grp_last (by omega)]
        have H3 : Hid (w2.ownsRow base 5 1 v' (k + (enc n).length) (xs ++ (enc n).map b8)) := Lib.hid (by rw [he]; simpa [Nat.add_assoc] using hown2)
        have H4 := Lib.hid hb2
        clear hown2 hg2 hb2 he
        go_wp2
        go_ret
        exact ⟨v', rfl, H3.out, H4.out⟩
end Go.Proofs.Ytidinbeanaifmaa
