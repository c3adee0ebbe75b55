/-
  appendLiteral and Quote of the code.
-/
import Derived.Test.YtjblchdfkcbodaaGreatDoorUa
import Derived.Test.YtjblchdfkcbodaaGreatDoorTx
namespace Go.Proofs.YtjblchdfkcbodaaGreatDoor
open Go.RowKit

theorem escB_len (c : UInt8) : (escB c).length ≤ 4 := by
  unfold escB
  split
  · simp
  · split
    · simp
    · split
      · simp
      · split
        · simp
        · simp
theorem AppB.trans {base : Nat} {u v : Value} {w w1 w2 : World} {o : List UInt8} {e : Ending} (h : AppB base v w1 o e w2) (hb : Grw w u.ownBlock v.ownBlock w1) : AppB base u w o e w2 := by
  obtain ⟨A, n, c, rfl, h1, h2, h3, h4, h5⟩ := h
  exact ⟨A, n, c, rfl, h1, h2, h3, h4, Lib.hid (hb.trans h5.out)⟩
theorem bytes_take (s : ByteArray) (k : Nat) (h : k < s.size) : s.data.toList.take (k + 1) = s.data.toList.take k ++ [s[k]] := by
  rw [List.take_succ_eq_append_getElem (by simpa using h)]; rfl
theorem esc_step (o o' : List UInt8) (s : ByteArray) (k : Nat) (h : k < s.size) (e : o' = o ++ 34 :: (s.data.toList.take k).flatMap escB) : o' ++ escB s[k] = o ++ 34 :: (s.data.toList.take (k + 1)).flatMap escB := by
  rw [bytes_take s k h, List.flatMap_append, e]
  simp

set_option maxRecDepth 100000 in
set_option maxHeartbeats 4000000 in
theorem literal_app (base : Nat) (A : Option Addr) (n cp : Nat) (o : List UInt8) (s : ByteArray) (w : World) (hown : w.ownsRow base 5 1 (.slice A n cp) n (o.map b8)) (hb : base ≤ w.heap.size) (hn : n + 4 * s.size + 2 ≤ 100000000) :
    Calls Tryz.prog 20 #[.slice A n cp, .string s] w (AppB base (.slice A n cp) w (o ++ quoL s.data.toList)) := by
  obtain ⟨ti, hti, hz, hsz, hby⟩ := info_parts Tryz.infob
  have HO := Lib.hid hown
  have HB := Lib.hid hb
  have HX : Hid (Rb (w.alloc (.cells #[.int .u8 34] 5)) (w.heap.size + 1) (some ⟨w.heap.size, 0, none⟩) 1 [34]) := Lib.hid (Rb.lit w 5 [34])
  clear hown hb
  go_enter Tryz.func20, Tryz.ntmps20
  go_wp2_with (at_builtin; refine wpList_append_b8_at rfl _ _ 38 rfl base 5 ti (.int .u8 0) Tryz.underlying38 hti hz hsz hby rfl _ n (o.map b8) rfl (HO.out.alloc _) (w.heap.size + 1) ⟨w.heap.size, 0, none⟩ 1 1 [34] rfl HX.out (by simp) ?_ ?_ ?_)
  · omega
  · rw [World.size_alloc]; have := HB.out; omega
  · intro v3 w3 ho hg
    have HA : Hid (AppB base (.slice A n cp) w (o ++ [34]) (.returned v3) w3) := Lib.hid (AppB.mk' (n := n + 1) (by rw [List.map_append]; exact ho) hg.new)
    obtain ⟨A1, n1, c1, hv, hl1, h1, h2, ho1, hw1⟩ := HA.out
    injection hv with hv
    subst hv
    have hn1 : n1 = n + 1 := by
      have := hl1.out
      have h9 := own_len ho1.out
      have h8 := own_len HO.out
      simp at this h8
      omega
    subst hn1
    clear ho hg HA
    go_wp2
    go_loopg [0, 11] (s.size) (fun gh b x wr => ∃ (k : Nat) (A' : Option Addr) (n' c' : Nat) (o' : List UInt8), k ≤ s.size ∧ gh = s.size - k ∧ x = .int .i64 k ∧ b = .slice A' n' c' ∧ n' ≤ c' ∧ c' ≤ 9223372036854775807 ∧ n' ≤ n + 1 + 4 * k ∧ Hid (o'.length = n') ∧ Hid (o' = o ++ 34 :: (s.data.toList.take k).flatMap escB) ∧ Hid (wr.ownsRow base 5 1 (.slice A' n' c') n' (o'.map b8)) ∧ Hid (Grw w (Value.slice A n cp).ownBlock (Value.slice A' n' c').ownBlock wr))
    case atStart => exact ⟨0, A1, n + 1, c1, o ++ [34], by omega, by omega, rfl, rfl, h1, h2, by omega, hl1, Lib.hid (by simp), ho1, hw1⟩
    case round =>
      obtain ⟨k, A', n', c', o', hk, hg, rfl, rfl, hnc, hcm, hn', HL, HE, HW, HBL⟩ := hrel
      by_cases hlt : k < s.size
      · have HE2 := Lib.hid (esc_step o o' s k hlt HE.out)
        have HBw : Hid (base ≤ wr.heap.size) := Lib.hid (Nat.le_trans HB.out HBL.out.1.size)
        have HLE := Lib.hid (escB_len s[k])
        go_wp2_with fail
        refine (escaped_any base A' n' c' o' s[k] wr HW.out HBw.out (by omega)).mono ?_
        rintro _ w4 ⟨A2, n2, c2, rfl, hl2, h3, h4, ho2, hw2⟩
        have hn2 : n2 ≤ n + 1 + 4 * (k + 1) := by
          have e1 := hl2.out
          have e2 := HLE.out
          have e3 := HL.out
          rw [List.length_append] at e1
          omega
        have HBL2 := Lib.hid (HBL.out.trans hw2.out)
        go_wp2
        go_roundg (s.size - (k + 1))
        case rel => exact ⟨k + 1, A2, n2, c2, o' ++ escB s[k], by omega, rfl, by go_num, rfl, h3, h4, hn2, hl2, HE2, ho2, HBL2⟩
        case measure => omega
      · have HE2 : Hid (o' = o ++ 34 :: s.data.toList.flatMap escB) := Lib.hid (by rw [HE.out, List.take_of_length_le (by simpa using Nat.le_of_not_lt hlt)])
        have HX2 : Hid (Rb (wr.alloc (.cells #[.int .u8 34] 5)) (wr.heap.size + 1) (some ⟨wr.heap.size, 0, none⟩) 1 [34]) := Lib.hid (Rb.lit wr 5 [34])
        have HBw : Hid (base ≤ wr.heap.size) := Lib.hid (Nat.le_trans HB.out HBL.out.1.size)
        go_wp2_with (at_builtin; refine wpList_append_b8_at rfl _ _ 38 rfl base 5 ti (.int .u8 0) Tryz.underlying38 hti hz hsz hby rfl _ n' (o'.map b8) rfl (HW.out.alloc _) (wr.heap.size + 1) ⟨wr.heap.size, 0, none⟩ 1 1 [34] rfl HX2.out (by simp) ?_ ?_ ?_)
        · omega
        · rw [World.size_alloc]; have := HBw.out; omega
        · intro v4 w4 ho hg
          have FIN : Hid (AppB base (.slice A n cp) w (o ++ quoL s.data.toList) (.returned v4) w4) := Lib.hid ((AppB.mk' (u := .slice A' n' c') (n := n' + 1) (o := o ++ quoL s.data.toList) (by
            have e : o ++ quoL s.data.toList = o' ++ [34] := by rw [HE2.out]; unfold quoL; simp
            rw [e, List.map_append]; exact ho) hg.new).trans HBL.out)
          clear ho hg
          go_wp2
          go_ret
          exact FIN.out
end Go.Proofs.YtjblchdfkcbodaaGreatDoor
