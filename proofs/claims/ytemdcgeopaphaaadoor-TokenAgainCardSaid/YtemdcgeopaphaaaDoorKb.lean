/-
  Sets of bytes as closures: in, span, starts; isPlain.
-/
import Derived.Test.YtemdcgeopaphaaaDoorKa
namespace Go.Proofs.YtemdcgeopaphaaaDoor
open Go.RowKit

/-- a set of ASCII bytes and what it means -/
structure IsSet (s : ByteArray) (p : UInt8 → Bool) : Prop where
  ascii : ∀ x ∈ s.data.toList, x.toNat < 128
  size : 1 ≤ s.size ∧ s.size ≤ 1000
  mem : ∀ c : UInt8, c.toNat < 128 → p c = decide (0 ≤ Lib.indexByte s.data.toList c)
  high : ∀ c : UInt8, 128 ≤ c.toNat → p c = false
theorem allN {n : Nat} {q : Nat → Bool} (h : (List.range n).all q = true) : ∀ k, k < n → q k = true := fun k hk => List.all_eq_true.1 h k (List.mem_range.2 hk)
theorem isSet {s : ByteArray} {p : UInt8 → Bool} (h1 : (s.data.toList.all fun x => decide (x.toNat < 128)) = true) (h2 : decide (1 ≤ s.size ∧ s.size ≤ 1000) = true)
    (h3 : ((List.range 256).all fun n => p (UInt8.ofNat n) == (decide (n < 128) && decide (UInt8.ofNat n ∈ s.data.toList))) = true) : IsSet s p := by
  have key : ∀ c : UInt8, p c = (decide (c.toNat < 128) && decide (c ∈ s.data.toList)) := fun c => by
    have := allN h3 c.toNat c.toNat_lt
    rw [UInt8.ofNat_toNat] at this
    exact eq_of_beq this
  refine ⟨fun x hx => of_decide_eq_true (List.all_eq_true.1 h1 x hx), of_decide_eq_true h2, fun c hc => ?_, fun c hc => ?_⟩
  · rw [key, decide_eq_true hc, Bool.true_and, decide_eq_decide, ix_mem]
  · rw [key, decide_eq_false (by omega), Bool.false_and]
def lettersS : ByteArray := ⟨#[97, 98, 99, 100, 101, 102, 103, 104, 105, 106, 107, 108, 109, 110, 111, 112, 113, 114, 115, 116, 117, 118, 119, 120, 121, 122, 65, 66, 67, 68, 69, 70, 71, 72, 73, 74, 75, 76, 77, 78, 79, 80, 81, 82, 83, 84, 85, 86, 87, 88, 89, 90, 95]⟩
def wordS : ByteArray := ⟨#[97, 98, 99, 100, 101, 102, 103, 104, 105, 106, 107, 108, 109, 110, 111, 112, 113, 114, 115, 116, 117, 118, 119, 120, 121, 122, 65, 66, 67, 68, 69, 70, 71, 72, 73, 74, 75, 76, 77, 78, 79, 80, 81, 82, 83, 84, 85, 86, 87, 88, 89, 90, 95, 48, 49, 50, 51, 52, 53, 54, 55, 56, 57]⟩
theorem set_blanks : IsSet ⟨#[32, 9, 10]⟩ blkT := isSet (by decide) (by decide) (by decide +kernel)
theorem set_digits : IsSet ⟨#[48, 49, 50, 51, 52, 53, 54, 55, 56, 57]⟩ dgtT := isSet (by decide) (by decide) (by decide +kernel)
theorem set_letters : IsSet lettersS letT := isSet (by decide +kernel) (by decide) (by decide +kernel)
theorem set_word : IsSet wordS wrdT := isSet (by decide +kernel) (by decide) (by decide +kernel)
theorem set_before : IsSet ⟨#[61, 33, 60, 62]⟩ befT := isSet (by decide) (by decide) (by decide +kernel)
theorem set_equals : IsSet ⟨#[61]⟩ (fun c => c == 61) := isSet (by decide) (by decide) (by decide +kernel)
theorem set_signs : IsSet ⟨#[40, 41, 123, 125, 91, 93, 44, 59, 46, 58, 61, 60, 62, 43, 45, 42, 47, 37]⟩ sgnT := isSet (by decide) (by decide) (by decide +kernel)
end Go.Proofs.YtemdcgeopaphaaaDoor
