/-
  Contracts of PutInt, PutText, PutBool of the reference.
-/
import Derived.Test.YtidinbeanaifmaaPutC
namespace Go.Proofs.Ytidinbeanaifmaa
open Go.RowKit

/-- an empty slice literal owns nothing yet -/
theorem own_empty (w : World) (t : TypeId) : (w.alloc (.cells #[] t)).ownsRow w.heap.size t 1 (.slice (some ⟨w.heap.size, 0, none⟩) 0 0) 0 [] :=
  World.ownsRow_made w #[] 0 (Nat.le_refl _) (by unfold maxLen; omega) rfl

set_option maxRecDepth 100000 in
set_option maxHeartbeats 400000 in
theorem refPutInt_any (A : Option Addr) (n c : Nat) (l : List UInt8) (B : Nat) (w : World) (x : Int) (hr : Rb w B A n l) (hB : B ≤ w.heap.size) (hn : n ≤ 70368744177000)
    (h1 : -9223372036854775808 ≤ x) (h2 : x ≤ 9223372036854775807) :
    Calls Try.prog 108 #[.slice A n c, .int .i64 x] w (OwnRes w (l ++ enc x)) := by
  obtain ⟨i, hi, hz, hs, hb⟩ := info_parts Try.infob
  have HR := Lib.hid hr
  clear hr
  go_enter Try.func108, Try.ntmps108
  go_wp2_with (at_builtin; refine wpList_append_b8 rfl _ _ 50 rfl w.heap.size 5 i (.int .u8 0) Try.underlying50 hi hz hs hb rfl _ 0 [] rfl (own_empty w 5) B A n c l rfl (HR.out.alloc hB _) ?_ ?_ ?_)
  · omega
  · simp
  · intro v w1 hown hg
    have hown' : w1.ownsRow w.heap.size 5 1 v n (l.map b8) := by simpa using hown
    have hbl : Below w.heap.size w w1 := ((Below.refl _ _).alloc (Nat.le_refl _) _).grown hg (by simp) (fun k hk => by simp [Value.ownBlock] at hk; omega)
    have H1 := Lib.hid hown'
    have H2 := Lib.hid hbl
    clear hown hown' hg hbl
    go_wp2_with (go_at_call 133; refine (zigzag_any x _ h1 h2).mono ?_; rintro e w' ⟨rfl, rfl⟩)
    go_loopw [5, 6] (fun v u wr => ∃ (d : List UInt8) (f : Nat) (z : Nat), u = .int .u64 (z : Int) ∧ Hid (enc x = d ++ grp (f + 1) z ∧ d.length + f = 9 ∧ z * 128 ^ (9 - f) < 18446744073709551616 ∧ z < 18446744073709551616) ∧
        Hid (wr.ownsRow w.heap.size 5 1 v (n + d.length) (l.map b8 ++ d.map b8)) ∧ Below w.heap.size w wr) (fun _ u _ => (intOf u).toNat)
    case atStart => exact ⟨[], 9, zig x, rfl, ⟨rfl, rfl, by have := zig_lt h1 h2; simpa using this, zig_lt h1 h2⟩, by simpa using H1, H2.out⟩
    case round =>
      obtain ⟨d, f, z, rfl, hd, hown, hbl⟩ := hrel
      have hquo : IntKind.u64.wrap ((z : Int) / 128) = (z : Int) / 128 := by
        have hz' : (z : Int) < 18446744073709551616 := by have := hd.out; omega
        exact IntWalk.u64_in _ ⟨by omega, by omega⟩
      have HU := Lib.hid hquo
      clear hquo
      have HB := Lib.hid hbl
      clear hbl h1 h2
      by_cases hlt : 128 ≤ z
      · have hx : (z : Int) % 128 + 128 = ((UInt8.ofNat (z % 128 + 128)).toNat : Int) := by rw [u8_nat _ (by omega)]; omega
        have HX := Lib.hid hx
        clear hx
        go_wp2_with (at_builtin; refine wpList_append_b8 rfl _ _ 50 rfl w.heap.size 5 i (.int .u8 0) Try.underlying50 hi hz hs hb rfl _ (n + d.length) (l.map b8 ++ d.map b8) rfl (hown.out.alloc _) (wr.heap.size + 1) (some ⟨wr.heap.size, 0, none⟩) 1 1 [UInt8.ofNat (z % 128 + 128)] rfl (Rb.one wr 5 _ _ HX.out) ?_ ?_ ?_)
        · have := hd.out; omega
        · have := HB.out.size; simp; omega
        · intro v' w2 hown2 hg2
          have hb2 : Below w.heap.size w w2 := (HB.out.alloc (by have := HB.out.size; omega) _).grown hg2 (by have := HB.out.size; simp; omega) (fun k hk => (hown.out.lt k hk).1)
          have H3 := Lib.hid hown2
          have H4 := Lib.hid hb2
          clear hown2 hg2 hb2
          obtain ⟨f, rfl⟩ : ∃ g, f = g + 1 := ⟨f - 1, by
            rcases Nat.eq_zero_or_pos f with h0 | h0
            · subst h0; have := hd.out; simp only [Nat.sub_zero] at this; omega
            · omega⟩
          have hq : z / 128 * 128 ^ (9 - f) < 18446744073709551616 := by
            have h1 := hd.out.2.2.1
            refine Nat.lt_of_le_of_lt ?_ h1
            rw [show 9 - f = (9 - (f + 1)) + 1 from by have := hd.out; omega, Nat.pow_succ, Nat.mul_comm (128 ^ _) 128, ← Nat.mul_assoc]
            exact Nat.mul_le_mul_right _ (Nat.div_mul_le_self _ _)
          have HQ := Lib.hid hq
          clear hq
          have hquo := HU.out
          go_wp2
          clear hquo
          go_roundw
          case rel =>
            refine ⟨d ++ [UInt8.ofNat (z % 128 + 128)], f, z / 128, by go_num, ⟨?_, ?_, HQ.out, ?_⟩, ?_, H4.out⟩
            · rw [hd.out.1, grp_more hlt]; simp
            · have := hd.out; simp; omega
            · have := hd.out; omega
            · exact Lib.hid (by simpa [Nat.add_assoc] using H3.out)
          case measure => simp [intOf]; omega
      · have hx : (z : Int) = ((UInt8.ofNat z).toNat : Int) := by rw [u8_nat _ (by omega)]
        have HX := Lib.hid hx
        clear hx
        go_wp2_with (at_builtin; refine wpList_append_b8 rfl _ _ 50 rfl w.heap.size 5 i (.int .u8 0) Try.underlying50 hi hz hs hb rfl _ (n + d.length) (l.map b8 ++ d.map b8) rfl (hown.out.alloc _) (wr.heap.size + 1) (some ⟨wr.heap.size, 0, none⟩) 1 1 [UInt8.ofNat z] rfl (Rb.one wr 5 _ _ HX.out) ?_ ?_ ?_)
        · have := hd.out; omega
        · have := HB.out.size; simp; omega
        · intro v' w2 hown2 hg2
          have hb2 : Below w.heap.size w w2 := (HB.out.alloc (by have := HB.out.size; omega) _).grown hg2 (by have := HB.out.size; simp; omega) (fun k hk => (hown.out.lt k hk).1)
          have he : enc x = d ++ [UInt8.ofNat z] := by rw [hd.out.1, grp_last (by omega)]
          have H3 : Hid (w2.ownsRow w.heap.size 5 1 v' (n + (enc x).length) (l.map b8 ++ (enc x).map b8)) := Lib.hid (by rw [he]; simpa [Nat.add_assoc] using hown2)
          have H4 := Lib.hid hb2
          clear hown2 hg2 hb2 he
          go_wp2
          go_ret
          exact ⟨v', rfl, by rw [List.length_append, List.map_append, HR.out.len]; exact H3.out, H4.out⟩

set_option maxHeartbeats 400000 in
theorem refPutText_any (A : Option Addr) (n c : Nat) (l : List UInt8) (B : Nat) (w : World) (s : ByteArray) (hr : Rb w B A n l) (hB : B ≤ w.heap.size) (hn : n ≤ 30368744177000) (hs : s.size ≤ 30368744177000) :
    Calls Try.prog 109 #[.slice A n c, .string s] w (OwnRes w (l ++ encText s.data.toList)) := by
  obtain ⟨i, hi, hz, hsz, hb⟩ := info_parts Try.infob
  have hel := enc_len (s.size : Nat)
  have HR := Lib.hid hr
  clear hr
  go_enter Try.func109, Try.ntmps109
  go_wp2_with fail
  refine (refPutInt_any A n c l B w s.size HR.out hB (by omega) (by omega) (by omega)).mono ?_
  rintro e w1 ⟨v, rfl, hown, hbl⟩
  have H1 : Hid (w1.ownsRow w.heap.size 5 1 v (n + (enc (s.size : Nat)).length) ((l ++ enc (s.size : Nat)).map b8)) := Lib.hid (by rw [List.length_append, HR.out.len] at hown; exact hown)
  have H2 := Lib.hid hbl
  clear hown hbl
  go_wp2_with fail
  go_loopw [5, 6] (fun v j wr => ∃ k : Nat, k ≤ s.size ∧ j = .int .i64 k ∧ Hid (wr.ownsRow w.heap.size 5 1 v (n + (enc (s.size : Nat)).length + k) ((l ++ enc (s.size : Nat)).map b8 ++ (s.data.toList.take k).map b8)) ∧ Below w.heap.size w wr)
    (fun _ j _ => s.size - (intOf j).toNat)
  case atStart => exact ⟨0, Nat.zero_le _, rfl, by simpa using H1, H2.out⟩
  case round =>
    obtain ⟨k, hk, rfl, hown, hbl⟩ := hrel
    have HB := Lib.hid hbl
    clear hbl
    by_cases hlt : k < s.size
    · have hx : ((s[k]'hlt).toNat : Int) = ((s.data.toList[k]'(by simpa using hlt)).toNat : Int) := rfl
      have hts : s.data.toList.take (k + 1) = s.data.toList.take k ++ [s.data.toList[k]'(by simpa using hlt)] := by rw [List.take_succ_eq_append_getElem (by simpa using hlt)]
      have HX := Lib.hid hx
      have HT := Lib.hid hts
      clear hx hts
      go_wp2_with (at_builtin; refine wpList_append_b8 rfl _ _ 50 rfl w.heap.size 5 i (.int .u8 0) Try.underlying50 hi hz hsz hb rfl _ (n + (enc (s.size : Nat)).length + k) _ rfl (hown.out.alloc _) (wr.heap.size + 1) (some ⟨wr.heap.size, 0, none⟩) 1 1 [s.data.toList[k]'(by simpa using hlt)] rfl (Rb.one wr 5 _ _ HX.out) ?_ ?_ ?_)
      · omega
      · have := HB.out.size; simp; omega
      · intro v' w2 hown2 hg2
        have hb2 : Below w.heap.size w w2 := (HB.out.alloc (by have := HB.out.size; omega) _).grown hg2 (by have := HB.out.size; simp; omega) (fun k hk => (hown.out.lt k hk).1)
        have H3 := Lib.hid hown2
        have H4 := Lib.hid hb2
        clear hown2 hg2 hb2
        go_wp2
        go_roundw
        case rel =>
          refine ⟨k + 1, by omega, by go_num, ?_, H4.out⟩
          rw [HT.out]
          exact Lib.hid (by simpa [Nat.add_assoc, List.map_take] using H3.out)
        case measure => simp [intOf]; omega
    · obtain rfl : k = s.size := by omega
      go_wp2
      go_ret
      have e1 : s.data.toList.length = s.size := by rw [Array.length_toList]; rfl
      refine ⟨_, rfl, ?_, HB.out⟩
      have := hown.out
      rw [List.take_of_length_le (by omega)] at this
      unfold encText
      rw [e1, List.length_append, List.length_append, HR.out.len, e1, ← List.append_assoc, List.map_append, ← Nat.add_assoc]
      exact this

end Go.Proofs.Ytidinbeanaifmaa
