/-
  Quote of the code.
-/
import Derived.Test.YtemdcgeopaphaaaDoorKl
namespace Go.Proofs.YtemdcgeopaphaaaDoor
open Go.RowKit

theorem escB_len (c : UInt8) : (escB c).length ≤ 4 := by
  unfold escB
  split
  · simp
  · split
    · simp
    · split
      · simp
      · split
        · simp
        · simp
theorem bytes_take (s : ByteArray) (k : Nat) (h : k < s.size) : s.data.toList.take (k + 1) = s.data.toList.take k ++ [s[k]] := by
  rw [List.take_succ_eq_append_getElem (by simpa using h)]; rfl
theorem esc_step (o' : List UInt8) (s : ByteArray) (k : Nat) (h : k < s.size) (e : o' = 34 :: (s.data.toList.take k).flatMap escB) : o' ++ escB s[k] = 34 :: (s.data.toList.take (k + 1)).flatMap escB := by
  rw [bytes_take s k h, List.flatMap_append, e]
  simp
theorem own_one (w : World) (x : Value) : (w.alloc (.cells #[x] 5)).ownsRow w.heap.size 5 1 (.slice (some ⟨w.heap.size, 0, none⟩) 1 1) 1 [x] := by
  exact ⟨rfl, .inr ⟨w.heap.size, 1, #[x], rfl, Nat.le_refl _, heap_alloc_new w _, Nat.le_refl _, by unfold maxLen; omega, rfl, rfl⟩⟩
set_option maxRecDepth 100000 in
set_option maxHeartbeats 4000000 in
theorem Quote_any (s : ByteArray) (w : World) (hn : 4 * s.size + 2 ≤ 100000000) :
    Calls Tryd.prog 18 #[.string s] w fun e w' => e = .returned (.string ⟨(quoL s.data.toList).toArray⟩) ∧ Below w.heap.size w w' := by
  obtain ⟨ti, hti, hz, hsz, hby⟩ := info_parts Tryd.infob
  go_enter Tryd.func18, Tryd.ntmps18
  go_upto_region 2 with (fail)
  obtain ⟨w3, hw3⟩ : ∃ w3, w3 = w.alloc (.cells #[.int .u8 34] 5) := ⟨_, rfl⟩
  have HO3 : Hid (w3.ownsRow w.heap.size 5 1 (.slice (some ⟨w.heap.size, 0, none⟩) 1 1) 1 ([34].map b8)) := Lib.hid (by rw [hw3]; exact own_one w _)
  have HB3 : Hid (Below w.heap.size w w3) := Lib.hid (by rw [hw3]; exact (Below.refl _ _).alloc (Nat.le_refl _) _)
  rw [← hw3]
  clear hw3
  generalize hA : (some ⟨w.heap.size, 0, none⟩ : Option Addr) = A1 at *
  clear hA
  go_wp2_with fail
  go_loopg [3, 8] (s.size) (fun gh b x wr => ∃ (k : Nat) (A' : Option Addr) (n' c' : Nat) (o' : List UInt8), k ≤ s.size ∧ gh = s.size - k ∧ x = .int .i64 k ∧ b = .slice A' n' c' ∧ n' ≤ c' ∧ c' ≤ 9223372036854775807 ∧ n' ≤ 1 + 4 * k ∧ Hid (o'.length = n') ∧ Hid (o' = 34 :: (s.data.toList.take k).flatMap escB) ∧ Hid (wr.ownsRow w.heap.size 5 1 (.slice A' n' c') n' (o'.map b8)) ∧ Hid (Below w.heap.size w wr))
  case atStart => exact ⟨0, A1, 1, 1, [34], by omega, by omega, rfl, rfl, by omega, by omega, by omega, Lib.hid rfl, Lib.hid (by simp), HO3, HB3⟩
  case round =>
    obtain ⟨k, A', n', c', o', hk, rfl, rfl, rfl, hnc, hcm, hn', HL, HE, HW, HBL⟩ := hrel
    by_cases hlt : k < s.size
    · have HE2 := Lib.hid (esc_step o' s k hlt HE.out)
      have HLE := Lib.hid (escB_len s[k])
      go_wp2_with fail
      refine (escaped_any w.heap.size A' n' c' o' s[k] wr HW.out HBL.out.size (by omega)).mono ?_
      rintro _ w4 ⟨A2, n2, c2, rfl, hl2, h3, h4, ho2, hw2⟩
      have hn2 : n2 ≤ 1 + 4 * (k + 1) := by
        have e1 := hl2.out
        have e2 := HLE.out
        have e3 := HL.out
        rw [List.length_append] at e1
        omega
      have HBL2 : Hid (Below w.heap.size w w4) := Lib.hid (HBL.out.grown hw2.out.1 HBL.out.size (own_lt HW.out))
      go_wp2
      go_roundg (s.size - (k + 1))
      case rel => exact ⟨k + 1, A2, n2, c2, o' ++ escB s[k], by omega, rfl, by go_num, rfl, h3, h4, hn2, hl2, HE2, ho2, HBL2⟩
      case measure => omega
    · have HE2 : Hid (o' = 34 :: s.data.toList.flatMap escB) := Lib.hid (by rw [HE.out, List.take_of_length_le (by simpa using Nat.le_of_not_lt hlt)])
      have HX2 : Hid (Rb (wr.alloc (.cells #[.int .u8 34] 5)) (wr.heap.size + 1) (some ⟨wr.heap.size, 0, none⟩) 1 [34]) := Lib.hid (Rb.lit wr 5 [34])
      go_wp2_with (at_builtin; refine wpList_append_b8_at rfl _ _ 44 rfl w.heap.size 5 ti (.int .u8 0) Tryd.underlying44 hti hz hsz hby rfl _ n' (o'.map b8) rfl (HW.out.alloc _) (wr.heap.size + 1) ⟨wr.heap.size, 0, none⟩ 1 1 [34] rfl HX2.out (by simp) ?_ ?_ ?_)
      · omega
      · rw [World.size_alloc]; have := HBL.out.size; omega
      · intro v4 w4 ho hg
        obtain ⟨A4, c4, rfl, _, _⟩ := own_form ho
        have HS := run_str (P := Tryd.prog) (c := c4) 44 9 5 Tryd.underlying44 Tryd.underlying5 Tryd.underlying9 (Rb.of_own (l := o' ++ [34]) (by rw [List.map_append]; exact ho))
        have HQ : Hid (quoL s.data.toList = o' ++ [34]) := Lib.hid (by rw [HE2.out]; rfl)
        have HB4 : Hid (Below w.heap.size w w4) := Lib.hid (by
          have hA : Below w.heap.size w (wr.alloc (.cells #[.int .u8 34] 5)) := Below.alloc HBL.out HBL.out.size _
          exact hA.grown hg.1 hA.size (own_lt HW.out))
        clear ho hg
        go_wp2
        go_ret
        exact ⟨by rw [HQ.out]; rfl, HB4.out⟩
end Go.Proofs.YtemdcgeopaphaaaDoor
