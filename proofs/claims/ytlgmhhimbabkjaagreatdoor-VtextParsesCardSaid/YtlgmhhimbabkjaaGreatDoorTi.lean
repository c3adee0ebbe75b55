/-
  strings.IndexByte: the place of a byte in a string; sets of bytes.
-/
import Derived.Test.YtlgmhhimbabkjaaGreatDoorTm
import Derived.Test.YtlgmhhimbabkjaaGreatDoorVnl
import Derived.Lib.Bytealg
import Derived.Laws.Externs
namespace Go.Proofs.YtlgmhhimbabkjaaGreatDoor
open Go.RowKit

set_option maxHeartbeats 1000000 in
set_option maxRecDepth 100000 in
theorem ixInner_any (s : ByteArray) (c : Int) (w : World) :
    Calls Tryz.prog 79 #[.string s, .int .u8 c] w fun e w' => e = .returned (.int .i64 (Lib.indexByte s.data.toList c.toNat.toUInt8)) ∧ w' = w := by
  go_enter Tryz.func79, Tryz.ntmps79
  go_wp2
  rw [run_callFunc_extern Tryz.func96 (by kernel_rfl) (by kernel_rfl) (by kernel_rfl) (e := Extern.BytealgIndexByte.indexByte) (by kernel_rfl), Lib.run_indexByteString]
  simp only [Result.andThen]
  rw [Oper.upon_value]
  go_wp2
  go_ret
  exact ⟨rfl, rfl⟩
set_option maxHeartbeats 1000000 in
/-- the place of a byte in a set -/
theorem ix_any (s : ByteArray) (c : UInt8) (w : World) :
    Calls Tryz.prog 50 #[.string s, .int .u8 (c.toNat : Int)] w fun e w' => e = .returned (.int .i64 (Lib.indexByte s.data.toList c)) ∧ w' = w := by
  have hc : ((c.toNat : Int)).toNat.toUInt8 = c := by simp
  have H := Lib.hid (fun (W : World) => ixInner_any s (c.toNat : Int) W)
  rw [hc] at H
  generalize Lib.indexByte s.data.toList c = r at *
  go_enter Tryz.func50, Tryz.ntmps50
  go_wp2_with fail
  refine (H.out _).mono ?_
  rintro e w' ⟨rfl, rfl⟩
  go_wp2
  go_ret
  exact ⟨rfl, rfl⟩

theorem ix_mem (l : List UInt8) (c : UInt8) : 0 ≤ Lib.indexByte l c ↔ c ∈ l := by
  induction l with
  | nil => simp [Lib.indexByte]
  | cons b l ih =>
    have hge := Lib.indexByte_ge l c
    unfold Lib.indexByte
    by_cases hb : b = c
    · subst hb; simp
    · have h1 : (b == c) = false := beq_eq_false_iff_ne.2 hb
      rw [h1, if_neg (by simp)]
      by_cases h2 : Lib.indexByte l c = -1
      · have h3 : (Lib.indexByte l c == -1) = true := by rw [h2]; rfl
        rw [if_pos h3, List.mem_cons]
        constructor
        · intro h; omega
        · rintro (h | h)
          · exact absurd h.symm hb
          · have := ih.2 h; omega
      · have h3 : (Lib.indexByte l c == -1) = false := beq_eq_false_iff_ne.2 h2
        rw [h3, if_neg (by simp), List.mem_cons]
        constructor
        · intro _; exact Or.inr (ih.1 (by omega))
        · intro _; omega
/-- a set of bytes and what it means -/
def IsSet (s : ByteArray) (p : UInt8 → Bool) : Prop := ∀ c : UInt8, p c = decide (0 ≤ Lib.indexByte s.data.toList c)
theorem isSet {s : ByteArray} {p : UInt8 → Bool} (h : ∀ n, n < 256 → p (UInt8.ofNat n) = decide (UInt8.ofNat n ∈ s.data.toList)) : IsSet s p := by
  intro c
  have := h c.toNat c.toNat_lt
  rw [UInt8.ofNat_toNat] at this
  rw [this, decide_eq_decide, ix_mem]
theorem all256 {q : Nat → Bool} (h : (List.range 256).all q = true) : ∀ n, n < 256 → q n = true := fun n hn => List.all_eq_true.1 h n (List.mem_range.2 hn)
theorem isSet' {s : ByteArray} {p : UInt8 → Bool} (h : ((List.range 256).all fun n => p (UInt8.ofNat n) == decide (UInt8.ofNat n ∈ s.data.toList)) = true) : IsSet s p :=
  isSet fun n hn => beq_iff_eq.1 (all256 h n hn)
theorem set_blk : IsSet ⟨#[32, 9, 10, 13]⟩ blk := isSet' (by decide +kernel)
theorem set_sta : IsSet ⟨#[110, 116, 102, 34, 91, 123, 45, 48, 49, 50, 51, 52, 53, 54, 55, 56, 57]⟩ sta := isSet' (by decide +kernel)
theorem set_esq : IsSet ⟨#[34, 92, 110, 116, 120]⟩ esq := isSet' (by decide +kernel)
theorem set_hxd : IsSet ⟨#[48, 49, 50, 51, 52, 53, 54, 55, 56, 57, 97, 98, 99, 100, 101, 102]⟩ hxd := isSet' (by decide +kernel)
theorem set_dig1 : IsSet ⟨#[49, 50, 51, 52, 53, 54, 55, 56, 57]⟩ dig1 := isSet' (by decide +kernel)
theorem set_one (c : UInt8) : IsSet ⟨#[c]⟩ (fun x => x == c) := isSet fun n _ => by
  rw [Bool.eq_iff_iff, beq_iff_eq, decide_eq_true_eq]; simp
theorem set_more (e : UInt8) : IsSet ⟨#[44, e]⟩ (fun x => x == 44 || x == e) := isSet fun n _ => by
  rw [Bool.eq_iff_iff, decide_eq_true_eq]; simp
theorem hex_at : ∀ c : UInt8, hxd c = true → Lib.indexByte [48, 49, 50, 51, 52, 53, 54, 55, 56, 57, 97, 98, 99, 100, 101, 102] c = (hxv c : Int) ∧ hxv c < 16 := by
  have h : ((List.range 256).all fun n => !(hxd (UInt8.ofNat n)) || (decide (Lib.indexByte [48, 49, 50, 51, 52, 53, 54, 55, 56, 57, 97, 98, 99, 100, 101, 102] (UInt8.ofNat n) = (hxv (UInt8.ofNat n) : Int)) && decide (hxv (UInt8.ofNat n) < 16))) = true := by decide +kernel
  intro c hc
  have := all256 h c.toNat c.toNat_lt
  rw [UInt8.ofNat_toNat, hc] at this
  simpa using this
end Go.Proofs.YtlgmhhimbabkjaaGreatDoor
