/-
  strings.ContainsRune at a byte; the closures over a set of bytes; span, starts.
-/
import Derived.Test.YtemdcgeopaphaaaDoorBytes
import Derived.Test.YtemdcgeopaphaaaDoorKm
import Derived.Test.YtemdcgeopaphaaaDoorSh
import Derived.Lib.Hide
import Derived.Lib.Walk
import Derived.Lib.Bytealg
import Derived.Laws.Externs
import Derived.Deep.RegionLaw
import Derived.Laws.Runes
import Derived.WalkMore
namespace Go.Proofs.YtemdcgeopaphaaaDoor
open Go.RowKit

set_option maxHeartbeats 1000000 in
set_option maxRecDepth 1000000 in
theorem ixInner_any (s : ByteArray) (c : Int) (w : World) :
    Calls Tryd.prog 67 #[.string s, .int .u8 c] w fun e w' => e = .returned (.int .i64 (Lib.indexByte s.data.toList c.toNat.toUInt8)) ∧ w' = w := by
  go_enter Tryd.func67, Tryd.ntmps67
  go_wp2
  rw [run_callFunc_extern Tryd.func78 (by kernel_rfl) (by kernel_rfl) (by kernel_rfl) (e := Extern.BytealgIndexByte.indexByte) (by kernel_rfl), Lib.run_indexByteString]
  simp only [Result.andThen]
  rw [Oper.upon_value]
  go_wp2
  go_ret
  exact ⟨rfl, rfl⟩
set_option maxHeartbeats 1000000 in
theorem ix_any (s : ByteArray) (c : Int) (w : World) :
    Calls Tryd.prog 54 #[.string s, .int .u8 c] w fun e w' => e = .returned (.int .i64 (Lib.indexByte s.data.toList c.toNat.toUInt8)) ∧ w' = w := by
  have H := Lib.hid (fun (W : World) => ixInner_any s c W)
  generalize Lib.indexByte s.data.toList c.toNat.toUInt8 = r at *
  go_enter Tryd.func54, Tryd.ntmps54
  go_wp2_with fail
  refine (H.out _).mono ?_
  rintro e w' ⟨rfl, rfl⟩
  go_wp2
  go_ret
  exact ⟨rfl, rfl⟩
theorem ix_mem (l : List UInt8) (c : UInt8) : 0 ≤ Lib.indexByte l c ↔ c ∈ l := by
  induction l with
  | nil => simp [Lib.indexByte]
  | cons b l ih =>
    have hge := Lib.indexByte_ge l c
    unfold Lib.indexByte
    by_cases hb : b = c
    · subst hb; simp
    · have h1 : (b == c) = false := beq_eq_false_iff_ne.2 hb
      rw [h1, if_neg (by simp)]
      by_cases h2 : Lib.indexByte l c = -1
      · have h3 : (Lib.indexByte l c == -1) = true := by rw [h2]; rfl
        rw [if_pos h3, List.mem_cons]
        constructor
        · intro h; omega
        · rintro (h | h)
          · exact absurd h.symm hb
          · have := ih.2 h; omega
      · have h3 : (Lib.indexByte l c == -1) = false := beq_eq_false_iff_ne.2 h2
        rw [h3, if_neg (by simp), List.mem_cons]
        constructor
        · intro _; exact Or.inr (ih.1 (by omega))
        · intro _; omega

set_option maxHeartbeats 1000000 in
set_option maxRecDepth 1000000 in
theorem valid_any (c : Int) (w : World) (h0 : 0 ≤ c) (h1 : c < 256) : Calls Tryd.prog 55 #[.int .i32 c] w fun e w' => e = .returned (.bool true) ∧ w' = w := by
  go_enter Tryd.func55, Tryd.ntmps55
  go_wp2
  go_ret
  exact ⟨rfl, rfl⟩
theorem in_at {s : ByteArray} {i : Nat} (h : i < s.size) : s.data.toList[i]? = some s[i] := by
  rw [List.getElem?_eq_getElem (by simpa using h)]
  simp [ByteArray.getElem_eq_getElem_data]
theorem ext_to (s : ByteArray) (k : Nat) : (s.extract 0 k).data.toList = s.data.toList.take k := by
  rw [ByteArray.data_extract, Array.toList_extract]
  show (s.data.toList.drop 0).take (k - 0) = _
  rw [List.drop_zero, Nat.sub_zero]
theorem ext_from (s : ByteArray) (k : Nat) : (s.extract k s.size).data.toList = s.data.toList.drop k := by
  rw [ByteArray.data_extract, Array.toList_extract]
  show (s.data.toList.drop k).take (s.size - k) = _
  rw [List.take_of_length_le]
  simp
theorem ext_size (s : ByteArray) (a b : Nat) : (s.extract a b).size ≤ s.size := by
  rw [ByteArray.size_extract]; omega
theorem enc_two (c : UInt8) (hc : 128 ≤ c.toNat) : ∃ (r : ByteArray) (h : r.size = 2), Utf8.encode (c.toNat : Int) = r ∧ 128 ≤ (r[1]'(by omega)).toNat := by
  have hlt := c.toNat_lt
  have h := encode_facts (c.toNat : Int) (by unfold Utf8.valid; simp; omega) (by omega)
  have h2 : (Utf8.encode (c.toNat : Int)).size = 2 := by
    unfold Utf8.encode
    have hv : Utf8.valid (c.toNat : Int) = true := by unfold Utf8.valid; simp; omega
    have hc2 : ¬ ((c.toNat : Int)).toNat < 128 := by omega
    have hc3 : ((c.toNat : Int)).toNat < 2048 := by omega
    simp only [hv, if_true, hc2, if_false, hc3]
    rfl
  refine ⟨_, h2, rfl, ?_⟩
  have := h.2.2 (by omega)
  simpa [h2] using this
theorem ix_none {l : List UInt8} {c : UInt8} (h : c ∉ l) : Lib.indexByte l c = -1 := by
  have h1 := Lib.indexByte_ge l c
  have h2 : ¬ 0 ≤ Lib.indexByte l c := fun e => h ((ix_mem l c).1 e)
  omega
end Go.Proofs.YtemdcgeopaphaaaDoor
