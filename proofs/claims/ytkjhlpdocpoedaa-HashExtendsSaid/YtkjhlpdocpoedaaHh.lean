/-
  The walk of HashExtends.
-/
import Derived.Test.YtkjhlpdocpoedaaHg
namespace Go.Proofs.Ytkjhlpdocpoedaa
open Go.RowKit

theorem ext_eq (s : ByteArray) (x : UInt8) : fnv (s ++ (⟨#[x]⟩ : ByteArray)).data.toList = fnvS (fnv s.data.toList) x.toNat := by
  rw [← fnv_snoc]
  congr 1

theorem fnvS_beq {m : Nat} {x y : UInt8} {b : Bool} (hm : m < 4294967296) (h : (x == y) = b) : (((fnvS m x.toNat : Nat) : Int) == ((fnvS m y.toNat : Nat) : Int)) = b := by
  rw [← h, Bool.eq_iff_iff, beq_iff_eq, beq_iff_eq]
  constructor
  · intro e; exact UInt8.toNat_inj.1 (fnvS_inj hm x.toNat_lt y.toNat_lt (by omega))
  · rintro rfl; rfl

theorem three (w : World) (x y : UInt8) :
    (convert 25 9 (.slice (some ⟨w.heap.size, 0, none⟩) 1 1)).run Try.prog (w.alloc (.cells #[.int .u8 (x.toNat : Int)] 5)).drew = .ok (.string ⟨#[x]⟩) (w.alloc (.cells #[.int .u8 (x.toNat : Int)] 5)).drew ∧
    (convert 25 9 (.slice (some ⟨w.heap.size, 0, none⟩) 1 1)).run Try.prog ((w.alloc (.cells #[.int .u8 (x.toNat : Int)] 5)).alloc (.cells #[.int .u8 (y.toNat : Int)] 5)).drew = .ok (.string ⟨#[x]⟩) ((w.alloc (.cells #[.int .u8 (x.toNat : Int)] 5)).alloc (.cells #[.int .u8 (y.toNat : Int)] 5)).drew ∧
    (convert 25 9 (.slice (some ⟨w.heap.size + 1, 0, none⟩) 1 1)).run Try.prog ((w.alloc (.cells #[.int .u8 (x.toNat : Int)] 5)).alloc (.cells #[.int .u8 (y.toNat : Int)] 5)).drew = .ok (.string ⟨#[y]⟩) ((w.alloc (.cells #[.int .u8 (x.toNat : Int)] 5)).alloc (.cells #[.int .u8 (y.toNat : Int)] 5)).drew := by
  have b1 : Rb (w.alloc (.cells #[.int .u8 (x.toNat : Int)] 5)) (w.heap.size + 1) (some ⟨w.heap.size, 0, none⟩) 1 [x] := Rb.marked w 5 (0, 0) [x]
  have b2 : Rb (w.alloc (.cells #[.int .u8 (x.toNat : Int)] 5)).drew (w.heap.size + 1) (some ⟨w.heap.size, 0, none⟩) 1 [x] := b1.below (Below.refl _ _).drew
  have b3 : Rb ((w.alloc (.cells #[.int .u8 (x.toNat : Int)] 5)).alloc (.cells #[.int .u8 (y.toNat : Int)] 5)).drew (w.heap.size + 1) (some ⟨w.heap.size, 0, none⟩) 1 [x] := (b1.alloc (by simp) _).below (Below.refl _ _).drew
  have b4 : Rb ((w.alloc (.cells #[.int .u8 (x.toNat : Int)] 5)).alloc (.cells #[.int .u8 (y.toNat : Int)] 5)).drew (w.heap.size + 2) (some ⟨w.heap.size + 1, 0, none⟩) 1 [y] := by
    have := Rb.marked (w.alloc (.cells #[.int .u8 (x.toNat : Int)] 5)) 5 (0, 0) [y]
    have h2 : Rb ((w.alloc (.cells #[.int .u8 (x.toNat : Int)] 5)).alloc (.cells #[.int .u8 (y.toNat : Int)] 5)) (w.heap.size + 2) (some ⟨w.heap.size + 1, 0, none⟩) 1 [y] := by simpa [b8] using this
    exact h2.below (Below.refl _ _).drew
  exact ⟨run_str (P := Try.prog) (c := 1) 25 9 5 Try.underlying25 Try.underlying5 Try.underlying9 b2,
    run_str (P := Try.prog) (c := 1) 25 9 5 Try.underlying25 Try.underlying5 Try.underlying9 b3,
    run_str (P := Try.prog) (c := 1) 25 9 5 Try.underlying25 Try.underlying5 Try.underlying9 b4⟩

set_option maxRecDepth 100000 in
set_option maxHeartbeats 1000000 in
theorem HashExtends_walk (s : ByteArray) (x y : UInt8) (w : World) (hs : s.size ≤ maxLen) :
    Calls Try.prog 8 #[.string s, .int .u8 (x.toNat : Int), .int .u8 (y.toNat : Int)] w (Holds w) := by
  have HS := Lib.hid hs
  have hs' := hs
  unfold maxLen at hs'
  clear hs
  by_cases hb : 1000 < s.size
  · go_enter Try.func8, Try.ntmps8
    go_wp2_with fail
    refine (works_below _ _ (Below.refl _ _)).mono ?_
    rintro e w' ⟨rfl, hb⟩
    have HB := Lib.hid hb
    clear hb
    go_wp2
    go_ret
    exact ⟨rfl, HB.out⟩
  · have z0 : ¬ 9223372036854775807 < s.size + 1 := by omega
    obtain ⟨g1, g2, g3⟩ := three w x y
    obtain ⟨g4, g5, g6⟩ := three w y x
    have hx1 : (s ++ (⟨#[x]⟩ : ByteArray)).size ≤ maxLen := by rw [ByteArray.size_append]; show s.size + 1 ≤ maxLen; unfold maxLen; omega
    have hy1 : (s ++ (⟨#[y]⟩ : ByteArray)).size ≤ maxLen := by rw [ByteArray.size_append]; show s.size + 1 ≤ maxLen; unfold maxLen; omega
    obtain ⟨b, hxy⟩ : ∃ b, (x == y) = b := ⟨_, rfl⟩
    have t1 := u8_beq hxy
    have hm := fnv_lt s.data.toList
    have t2 := fnvS_beq hm hxy
    have hst : Hid (bits .xor .u32 ((fnv s.data.toList : Nat) : Int) (x.toNat : Int) * 16777619 % 4294967296 = ((fnvS (fnv s.data.toList) x.toNat : Nat) : Int)) := Lib.hid (by rw [← IntKind.wrap_u32']; exact step_u32 hm x.toNat_lt)
    have hx256 : x.toNat < 256 := x.toNat_lt
    have E1 := Lib.hid (fun (W : World) => Fnv_is (s ++ (⟨#[x]⟩ : ByteArray)) W hx1 _ (by rw [ext_eq]))
    have E2 := Lib.hid (fun (W : World) => Fnv_is (s ++ (⟨#[y]⟩ : ByteArray)) W hy1 _ (by rw [ext_eq]))
    have E0 := Lib.hid (fun (W : World) => Fnv_any s W HS.out)
    have l1 := fnvS_lt (fnv s.data.toList) x.toNat
    generalize fnvS (fnv s.data.toList) x.toNat = mx at *
    generalize fnvS (fnv s.data.toList) y.toNat = my at *
    generalize fnv s.data.toList = m at *
    clear hxy hx1 hy1
    go_enter Try.func8, Try.ntmps8
    go_upto_region 3 with (fail)
    cases b
    all_goals (
      go_region_law (first
        | (go_simp; go_at_call 10; first
            | ((with_reducible refine (E1.out _).mono ?_); rintro e w' ⟨rfl, rfl⟩)
            | ((with_reducible refine (E2.out _).mono ?_); rintro e w' ⟨rfl, rfl⟩)))
      all_goals (
        go_wp2_with fail
        refine (E0.out _).mono ?_
        rintro e w' ⟨rfl, rfl⟩
        go_upto_region 6 with (fail)
        rw [hst.out]
        go_wp2_with fail
        refine (works_below _ w (by exact (((Below.refl w.heap.size w).alloc (Nat.le_refl _) _).alloc (by simp) _).drew)).mono ?_
        rintro e w' ⟨rfl, hb⟩
        have HB := Lib.hid hb
        clear hb
        go_wp2
        go_ret
        exact ⟨rfl, HB.out⟩))
end Go.Proofs.Ytkjhlpdocpoedaa
