/-
  Contracts of the reference's Crc, and of Bucket of package hash and of the reference; of the chapter's examples.
-/
import Derived.Test.YtenpeolaikimbaaHb
import Derived.Lib.SlBytesConst
namespace Go.Proofs.Ytenpeolaikimbaa
open Go.RowKit

section
variable {w : World} {B : Nat} {A : Option Addr} {n c : Nat} {l : List UInt8}

theorem crcB_odd {r : Nat} (hr : r < 4294967296) (h : r % 2 = 1) : bits .xor .u32 ((r : Int) / 2) 3988292384 = ((crcB r : Nat) : Int) := shift_odd hr h

end

/-- the bucket of a string among n -/
def buck (l : List UInt8) (n : Int) : Int := if n < 1 then 0 else (fnv l : Int) % n
theorem buck_0 {l : List UInt8} {n : Int} (h : n < 1) : buck l n = 0 := by unfold buck; rw [if_pos h]
theorem buck_1 {l : List UInt8} {n : Int} (h : 1 ≤ n) : buck l n = (fnv l : Int) % n := by unfold buck; rw [if_neg (by omega)]
theorem buck_bd {l : List UInt8} {n : Int} : 0 ≤ buck l n ∧ (n < 1 ∨ buck l n < n) := by
  rcases Int.lt_or_le n 1 with h | h
  · rw [buck_0 h]; exact ⟨by omega, .inl h⟩
  · rw [buck_1 h]; exact ⟨Int.emod_nonneg _ (by omega), .inr (Int.emod_lt_of_pos _ (by omega))⟩

theorem Rb.lit (w : World) (t : TypeId) (l : List UInt8) : Rb (w.alloc (.cells (l.map b8).toArray t)) (w.heap.size + 1) (some ⟨w.heap.size, 0, none⟩) l.length l := by
  refine ⟨rfl, fun _ => ⟨w.heap.size, 0, rfl, by omega, fun j d hj => ?_⟩⟩
  rw [Nat.zero_add, World.cell?_alloc_at _ _ _ _ rfl]
  simp [hj]
theorem Rb.marked (w : World) (t : TypeId) (f : Nat × Nat) (l : List UInt8) : Rb (w.alloc (.cells (l.map b8).toArray t f)) (w.heap.size + 1) (some ⟨w.heap.size, 0, none⟩) l.length l := by
  refine ⟨rfl, fun _ => ⟨w.heap.size, 0, rfl, by omega, fun j d hj => ?_⟩⟩
  rw [Nat.zero_add, cell_of_row _ _ _ _ _ _ (heap_alloc_new w _)]
  simp [hj]
theorem Rb.nil0 (w : World) (B : Nat) : Rb w B none 0 [] := ⟨rfl, fun h => absurd rfl h⟩

theorem Fnv_is (s : ByteArray) (w : World) (hs : s.size ≤ maxLen) (m : Int) (h : (fnv s.data.toList : Int) = m) :
    Calls Try.prog 19 #[.string s] w fun e w' => e = .returned (.int .i64 m) ∧ w = w' := by subst h; exact Fnv_any s w hs
theorem ex1 : (fnv (⟨#[]⟩ : ByteArray).data.toList : Int) = 2166136261 := by decide +kernel
theorem ex2 : (fnv (⟨#[97]⟩ : ByteArray).data.toList : Int) = 3826002220 := by decide +kernel
theorem ex3 : (crc [] : Int) = 0 := by decide +kernel
theorem ex4 : (crc [49, 50, 51, 52, 53, 54, 55, 56, 57] : Int) = 3421780262 := by decide +kernel
theorem ex5 : buck (⟨#[97]⟩ : ByteArray).data.toList 0 = 0 := by decide +kernel

end Go.Proofs.Ytenpeolaikimbaa
