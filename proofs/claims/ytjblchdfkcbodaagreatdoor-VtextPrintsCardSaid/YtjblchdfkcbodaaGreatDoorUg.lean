/-
  AppendUint and AppendInt at base 10, as appendPayload calls them: with the row's block.
-/
import Derived.Test.YtjblchdfkcbodaaGreatDoorUd
import Derived.Test.YtjblchdfkcbodaaGreatDoorSh
namespace Go.Proofs.YtjblchdfkcbodaaGreatDoor
open Go.RowKit Go.Sort

theorem dec_len (u : Nat) (h : u < 18446744073709551616) (h1 : 1 ≤ u) : (Lib.decDigits u).length ≤ 20 := by
  rw [Lib.decDigits_length]
  have := Lib.numDigits_eq u h1 h
  split at this <;> omega
theorem dec_ne (u : Nat) : Lib.decDigits u ≠ [] := by
  intro e
  have h := Lib.decDigits_length u
  rw [e] at h
  by_cases h10 : u < 10
  · rw [Lib.nDigits_small h10] at h; simp at h
  · rw [Lib.nDigits_big h10] at h; simp at h

set_option maxRecDepth 100000 in
set_option maxHeartbeats 4000000 in
theorem uint_small (u : Nat) (hu : u < 100) (base : Nat) (A : Option Addr) (n cp : Nat) (o : List UInt8) (w : World) (hown : w.ownsRow base 5 1 (.slice A n cp) n (o.map b8)) (hb : base ≤ w.heap.size) (hn : n ≤ 100000000) :
    Calls Tryz.prog 86 #[.slice A n cp, .int .u64 u, .int .i64 10] w (AppB base (.slice A n cp) w (o ++ Lib.decDigits u)) := by
  obtain ⟨ti, hti, hz, htz, hby⟩ := info_parts Tryz.infob
  have HO := Lib.hid hown
  have HB := Lib.hid hb
  have HC := Lib.hid (fun (W : World) => (Tryz.internal_strconv_small u hu W).mono (fun _ _ (h : _ ∧ _) => (⟨h.1, h.2.symm⟩ : _ ∧ W = _)))
  have hl : (Lib.decDigits u).length ≤ 20 := by
    rcases Nat.eq_zero_or_pos u with h | h
    · subst h; rw [Lib.decDigits_length, Lib.nDigits_small (by omega)]; omega
    · exact dec_len u (by omega) h
  have HS : Hid ((⟨(Lib.decDigits u).toArray⟩ : ByteArray).size = (Lib.decDigits u).length) := Lib.hid (by simp [ByteArray.size])
  have HL := Lib.hid hl
  clear hown hb hl
  go_enter Tryz.func86, Tryz.ntmps86
  go_wp2_with fail
  refine (HC.out _).mono ?_
  rintro _ _ ⟨rfl, rfl⟩
  go_wp2_with (at_builtin; refine wpList_append_str_at rfl _ _ 38 9 rfl base 5 ti Tryz.underlying38 Tryz.underlying9 hti hz htz hby _ _ _ rfl HO.out ⟨(Lib.decDigits u).toArray⟩ rfl ?_ ?_ ?_ ?_)
  · have h1 := HS.out; have h2 := HL.out; rw [h1]; unfold maxLen; omega
  · have h1 := HS.out; have h2 := HL.out; rw [h1]; omega
  · exact HB.out
  · intro v3 w3 ho hg
    have FIN : Hid (AppB base (.slice A n cp) w (o ++ Lib.decDigits u) (.returned v3) w3) := Lib.hid (AppB.mk' (n := n + (Lib.decDigits u).length) (by rw [List.map_append, ← HS.out]; exact ho) hg)
    clear ho hg
    go_wp2
    go_ret
    exact FIN.out

set_option maxRecDepth 100000 in
set_option maxHeartbeats 4000000 in
theorem uint_big (u : Nat) (hu : 100 ≤ u) (h64 : u < 18446744073709551616) (base : Nat) (A : Option Addr) (n cp : Nat) (o : List UInt8) (w : World) (hown : w.ownsRow base 5 1 (.slice A n cp) n (o.map b8)) (hb : base ≤ w.heap.size) (hn : n ≤ 100000000) (hT : PowTab base w) :
    Calls Tryz.prog 86 #[.slice A n cp, .int .u64 u, .int .i64 10] w (AppB base (.slice A n cp) w (o ++ Lib.decDigits u)) := by
  obtain ⟨ti, hti, hz, htz, hby⟩ := info_parts Tryz.infob
  have HO := Lib.hid hown
  have HB := Lib.hid hb
  have hlen := dec_len u h64 (by omega)
  rw [Lib.decDigits_length] at hlen
  obtain ⟨w1, hw1⟩ : ∃ w1, w1 = w.alloc (.cells Lib.zeros24 94) := ⟨_, rfl⟩
  have HN := Lib.hid ((Tryz.internal_strconv_numDigits u (by omega) h64 w1 (by rw [hw1]; exact Lib.tabIs_alloc hT.here _)).mono (fun _ _ (h : _ ∧ _) => (⟨h.1, h.2.symm⟩ : _ ∧ w1 = _)))
  have hH : Holds (fun (b : UInt8) => Value.int .u8 (b.toNat : Int)) w1 w.heap.size 0 (Array.replicate (Lib.nDigits u) 0) := by rw [hw1]; exact Lib.holds_zero0 w _ _ (by omega)
  have HF := Lib.hid (Tryz.internal_strconv_formatBase10 w.heap.size 0 24 u (Array.replicate (Lib.nDigits u) 0) w1 hH (by rw [Array.size_replicate]; exact Lib.lt_pow_nDigits u) h64 (by rw [Array.size_replicate]; omega))
  rw [Array.size_replicate] at HF
  have HH := Lib.hid hH
  have hsl : ∀ W, (Instr.sliceAt 94 (.pointer (some ⟨w.heap.size, 0, none⟩)) none (some (.int .i64 (Lib.nDigits u : Int))) none).run Tryz.prog W = .ok (.slice (some ⟨w.heap.size, 0, none⟩) (Lib.nDigits u) 24) W := fun W => by
    have hal : Tryz.prog.arrayLen 94 = 24 := by kernel_rfl
    rw [run_sliceAt_array_h W 94 ⟨w.heap.size, 0, none⟩ (by kernel_rfl) .i64 (Lib.nDigits u : Int) (by omega) (by rw [hal]; omega), hal]
    have hel : Tryz.prog.elem 94 = 5 := by kernel_rfl
    rw [hel]
    simp [sizeOf, typeInfo, hti, htz, Result.andThen, slicedAt, Lib.add_plain]
  have iu : (100 : Int) ≤ (u : Int) := by omega
  have HW := Lib.hid hw1
  clear hown hb hH hT hw1
  go_enter Tryz.func86, Tryz.ntmps86
  go_wp2_with fail
  change Calls _ _ _ (w.alloc (.cells Lib.zeros24 94)) _
  rw [← HW.out]
  refine (HN.out).mono ?_
  rintro _ _ ⟨rfl, rfl⟩
  go_wp2_with fail
  refine (HF.out).mono ?_
  rintro _ w2 ⟨rfl, k, v', dk, hw2, hfi⟩
  obtain ⟨os, eo⟩ := Lib.fin_at w (.cells Lib.zeros24 94) dk k 0
  rw [← HW.out, ← hw2] at eo
  have O2 : Hid (w2.ownsRow base 5 1 (.slice A n cp) n (o.map b8)) := Lib.hid (by rw [eo]; exact Lib.ownsRow_grow HO.out k os)
  have B2 : Hid (Below w.heap.size w w2) := Lib.hid (by rw [eo]; exact Lib.below_grow _ w (Nat.le_refl _) k os)
  have R2 : Hid (Rb w2 (w.heap.size + 1) (some ⟨w.heap.size, 0, none⟩) (Lib.nDigits u) (Lib.decDigits u)) := Lib.hid ⟨Lib.decDigits_length u, fun _ => ⟨_, 0, rfl, by omega, fun j c hj => by
    obtain ⟨hjl, hc⟩ := List.getElem?_eq_some_iff.1 hj
    have hjd : j < dk.size := by rw [hfi.size]; rw [Lib.decDigits_length] at hjl; exact hjl
    rw [hw2, World.cell?_drewN, cell?_putRow (fun (b : UInt8) => Value.int .u8 (b.toNat : Int)) w1 w.heap.size 0 _ dk HH.out (by rw [hfi.size, Array.size_replicate]) j hjd, ← Lib.row_is_numeral hfi j hjl, hc]
    rfl⟩⟩
  clear hw2 eo hfi
  go_wp2_with (at_builtin; refine wpList_append_b8_at rfl _ _ 38 rfl base 5 ti (.int .u8 0) Tryz.underlying38 hti hz htz hby rfl _ n (o.map b8) rfl O2.out (w.heap.size + 1) ⟨w.heap.size, 0, none⟩ (Lib.nDigits u) 24 (Lib.decDigits u) rfl R2.out (dec_ne u) ?_ ?_ ?_)
  · omega
  · have := B2.out.size; have := HB.out; omega
  · intro v3 w3 ho hg
    have FIN : Hid (AppB base (.slice A n cp) w (o ++ Lib.decDigits u) (.returned v3) w3) := Lib.hid (AppB.mk' (n := n + Lib.nDigits u) (by rw [List.map_append]; exact ho) (Grw.trans (r1 := (Value.slice A n cp).ownBlock) ⟨grown_of_below B2.out, fun b h => .inl h⟩ hg))
    clear ho hg
    go_wp2
    go_ret
    exact FIN.out
theorem uint_app (u : Nat) (h64 : u < 18446744073709551616) (base : Nat) (A : Option Addr) (n cp : Nat) (o : List UInt8) (w : World) (hown : w.ownsRow base 5 1 (.slice A n cp) n (o.map b8)) (hb : base ≤ w.heap.size) (hn : n ≤ 100000000) (hT : PowTab base w) :
    Calls Tryz.prog 86 #[.slice A n cp, .int .u64 u, .int .i64 10] w (AppB base (.slice A n cp) w (o ++ Lib.decDigits u)) := by
  rcases Nat.lt_or_ge u 100 with h | h
  · exact uint_small u h base A n cp o w hown hb hn
  · exact uint_big u h h64 base A n cp o w hown hb hn hT

set_option maxRecDepth 100000 in
set_option maxHeartbeats 4000000 in
theorem inInt_app (i : Int) (base : Nat) (A : Option Addr) (n cp : Nat) (o : List UInt8) (w : World) (hown : w.ownsRow base 5 1 (.slice A n cp) n (o.map b8)) (hb : base ≤ w.heap.size) (hn : n + 1 ≤ 100000000) (h1 : -9223372036854775808 ≤ i) (h2 : i ≤ 9223372036854775807) (hT : PowTab base w) :
    Calls Tryz.prog 65 #[.slice A n cp, .int .i64 i, .int .i64 10] w (AppB base (.slice A n cp) w (o ++ Lib.itoa i)) := by
  obtain ⟨ti, hti, hz, htz, hby⟩ := info_parts Tryz.infob
  rcases Int.lt_or_le i 0 with hneg | hpos
  · obtain ⟨u, rfl⟩ : ∃ u : Nat, i = -(u : Int) := ⟨i.natAbs, by omega⟩
    have hu1 : 1 ≤ u := by omega
    rw [Lib.itoa_neg u hu1]
    have hwr : IntKind.u64.wrap (-IntKind.u64.wrap (-(u : Int))) = (u : Int) := by rw [IntKind.wrap_u64, IntKind.wrap_u64]; omega
    have HO := Lib.hid hown
    have HB := Lib.hid hb
    have HT := Lib.hid hT
    have HX : Hid (Rb (w.alloc (.cells #[.int .u8 45] 5)) (w.heap.size + 1) (some ⟨w.heap.size, 0, none⟩) 1 [45]) := Lib.hid (Rb.lit w 5 [45])
    clear hown hb hT
    go_enter Tryz.func65, Tryz.ntmps65
    go_wp2_with (at_builtin; refine wpList_append_b8_at rfl _ _ 38 rfl base 5 ti (.int .u8 0) Tryz.underlying38 hti hz htz hby rfl _ n (o.map b8) rfl (HO.out.alloc _) (w.heap.size + 1) ⟨w.heap.size, 0, none⟩ 1 1 [45] rfl HX.out (by simp) ?_ ?_ ?_)
    · omega
    · rw [World.size_alloc]; have := HB.out; omega
    · intro v3 w3 ho hg
      have HA : Hid (AppB base (.slice A n cp) w (o ++ [45]) (.returned v3) w3) := Lib.hid (AppB.mk' (n := n + 1) (by rw [List.map_append]; exact ho) hg.new)
      obtain ⟨A1, n1, c1, hv, hl1, g1, g2, ho1, hw1⟩ := HA.out
      injection hv with hv
      subst hv
      have hn1 : n1 = n + 1 := by
        have h := hl1.out
        have h9 := own_len HO.out
        rw [List.length_append] at h
        simp at h h9
        omega
      subst hn1
      have HBw : Hid (base ≤ w3.heap.size) := Lib.hid (Nat.le_trans HB.out hw1.out.1.size)
      have HU := Lib.hid (uint_app u (by omega) base A1 (n + 1) c1 (o ++ [45]) w3 ho1.out HBw.out (by omega) (HT.out.on (Frm.of_grw hw1.out HO.out HB.out).below))
      clear ho hg HA
      go_wp2_with fail
      refine (HU.out).mono ?_
      rintro _ w4 ⟨A2, n2, c2, rfl, hl2, g3, g4, ho2, hw2⟩
      have HE : Hid (o ++ 45 :: Lib.decDigits u = o ++ [45] ++ Lib.decDigits u) := Lib.hid (by simp)
      go_wp2
      go_ret
      exact ⟨A2, n2, c2, rfl, Lib.hid (by rw [HE.out]; exact hl2.out), g3, g4, Lib.hid (by rw [HE.out]; exact ho2.out), Lib.hid (hw1.out.trans hw2.out)⟩
  · obtain ⟨u, rfl⟩ : ∃ u : Nat, i = u := ⟨i.toNat, by omega⟩
    rw [Lib.itoa_nonneg]
    have HU := Lib.hid (uint_app u (by omega) base A n cp o w hown hb (by omega) hT)
    clear hown hb hT
    go_enter Tryz.func65, Tryz.ntmps65
    go_wp2_with fail
    refine (HU.out).mono ?_
    rintro _ w4 ⟨A2, n2, c2, rfl, hl2, g3, g4, ho2, hw2⟩
    go_wp2
    go_ret
    exact ⟨A2, n2, c2, rfl, hl2, g3, g4, ho2, hw2⟩
set_option maxRecDepth 100000 in
set_option maxHeartbeats 4000000 in
theorem int_app (i : Int) (base : Nat) (A : Option Addr) (n cp : Nat) (o : List UInt8) (w : World) (hown : w.ownsRow base 5 1 (.slice A n cp) n (o.map b8)) (hb : base ≤ w.heap.size) (hn : n + 1 ≤ 100000000) (h1 : -9223372036854775808 ≤ i) (h2 : i ≤ 9223372036854775807) (hT : PowTab base w) :
    Calls Tryz.prog 38 #[.slice A n cp, .int .i64 i, .int .i64 10] w (AppB base (.slice A n cp) w (o ++ Lib.itoa i)) := by
  have HI := Lib.hid (inInt_app i base A n cp o w hown hb hn h1 h2 hT)
  clear hown hb hT h1 h2
  go_enter Tryz.func38, Tryz.ntmps38
  go_wp2_with fail
  refine (HI.out).mono ?_
  rintro _ w1 ⟨A2, n2, c2, rfl, hl, h1, h2, ho, hf⟩
  go_wp2
  go_ret
  exact ⟨A2, n2, c2, rfl, hl, h1, h2, ho, hf⟩
end Go.Proofs.YtjblchdfkcbodaaGreatDoor
