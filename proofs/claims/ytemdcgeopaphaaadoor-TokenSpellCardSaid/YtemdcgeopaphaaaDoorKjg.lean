/-
  Spell of the reference. (gen_kjg.py)
-/
import Derived.Test.YtemdcgeopaphaaaDoorKjf
namespace Go.Proofs.YtemdcgeopaphaaaDoor
open Go.RowKit Go.Sort

theorem joinT_snoc (sep : List UInt8) (r : List (List UInt8)) (x : List UInt8) : Lib.joinTail sep (r ++ [x]) = Lib.joinTail sep r ++ (sep ++ x) := by
  simp [Lib.joinTail]
theorem join_snoc {xs : List (List UInt8)} (h : xs ≠ []) (x sep : List UInt8) : Lib.join (xs ++ [x]) sep = Lib.join xs sep ++ sep ++ x := by
  cases xs with
  | nil => exact absurd rfl h
  | cons y r => rw [List.cons_append, Lib.join_cons, Lib.join_cons, joinT_snoc]; simp
theorem spL_first {l : List Tok} {j : Nat} {k : Tok} {x : List UInt8} (h : l[j]? = some k) (hx : spO k = some x) (he : (spP (l.take j)).isEmpty = true) : spL (l.take (j + 1)) = spL (l.take j) ++ x := by
  unfold spL
  rw [sp_some h hx, List.isEmpty_iff.1 he, List.nil_append, Lib.join_one, Lib.join_nil, List.nil_append]
theorem spL_next {l : List Tok} {j : Nat} {k : Tok} {x : List UInt8} (h : l[j]? = some k) (hx : spO k = some x) (he : (spP (l.take j)).isEmpty = false) : spL (l.take (j + 1)) = (spL (l.take j) ++ [32]) ++ x := by
  unfold spL
  rw [sp_some h hx, join_snoc (fun e => by rw [e] at he; cases he)]
theorem sp_empty {l : List Tok} {j : Nat} {k : Tok} {x : List UInt8} (h : l[j]? = some k) (hx : spO k = some x) : (spP (l.take (j + 1))).isEmpty = false := by
  rw [sp_some h hx]; cases spP (l.take j) <;> rfl
theorem spL_same {l : List Tok} {j : Nat} {k : Tok} (h : l[j]? = some k) (hx : spO k = none) : spL (l.take (j + 1)) = spL (l.take j) := by
  unfold spL
  rw [sp_none h hx]
set_option maxRecDepth 100000 in
set_option maxHeartbeats 16000000 in
theorem rSpell_any {w : World} {A : Option Addr} {c0 : Nat} {l : List Tok} (hU : URow w A l) (hM : Mod l) :
    Calls Tryd.prog 17 #[.slice A l.length c0] w fun e w' => e = .returned (.string ⟨(spL l).toArray⟩) ∧ Below w.heap.size w w' := by
  have HU := Lib.hid hU
  have HM := Lib.hid hM
  obtain ⟨n, hn⟩ : ∃ n, n = l.length := ⟨_, rfl⟩
  have hn1 : n ≤ 1000 := by have := hM.len; omega
  rw [← hn]
  have HN := Lib.hid hn
  clear hU hM hn
  go_enter Tryd.func17, Tryd.ntmps17
  go_wp2_with fail
  go_loopw [3, 4, 10] (fun ov fv iv wr => ∃ (j : Nat) (L : List UInt8) (f : Bool), j ≤ n ∧ iv = .int .i64 j ∧ ov = .string ⟨L.toArray⟩ ∧ fv = .bool f ∧ L.length ≤ 4003 * j ∧ Hid (L = spL (l.take j)) ∧ Hid ((spP (l.take j)).isEmpty = f) ∧
    Hid (Below w.heap.size w wr)) (fun _ _ iv _ => n - (intOf iv).toNat)
  case atStart => exact ⟨0, [], true, Nat.zero_le _, rfl, rfl, rfl, by simp, Lib.hid rfl, Lib.hid rfl, Lib.hid (Below.refl _ _)⟩
  case round =>
    obtain ⟨j, L, f, hj, rfl, rfl, rfl, hL, HL, HF, HB⟩ := hrel
    by_cases hlt : j < n
    · obtain ⟨x, hx⟩ : ∃ x, l[j]? = some x := ⟨_, List.getElem?_eq_getElem (by rw [← HN.out]; exact hlt)⟩
      have HX := Lib.hid hx
      have HEA := Lib.hid (HM.out.each x (List.mem_of_getElem? hx))
      obtain ⟨g, q, z, rfl, _, a0, a1, a2, a3⟩ := (HU.out.below HB.out) j x hx
      obtain ⟨st, hst⟩ : ∃ st : ByteArray, strV x.text = .string st := ⟨_, rfl⟩
      have HST : Hid (st.data.toList = x.text) := Lib.hid (by
        unfold strV at hst
        injection hst with hst
        rw [← hst])
      have HSE : Hid (st = ⟨x.text.toArray⟩) := Lib.hid (by
        unfold strV at hst
        injection hst with hst
        exact hst.symm)
      rw [hst] at a2
      clear hx hst
      go_upto_region 6 with (fail)
      obtain ⟨k, hk⟩ : ∃ k, k = x.kind := ⟨_, rfl⟩
      obtain ⟨zi, hzi⟩ : ∃ zi, zi = x.int := ⟨_, rfl⟩
      rw [← hk, ← hzi]
      have HK := Lib.hid hk
      have HZI := Lib.hid hzi
      clear hk hzi
      obtain ⟨w4, hw4⟩ : ∃ w4, w4 = wr.alloc (.cells #[.int .i64 k, .int .i64 z, .string st, .int .i64 zi] 30) := ⟨_, rfl⟩
      have hb4 : Below wr.heap.size wr w4 := by rw [hw4]; exact (Below.refl _ _).alloc (Nat.le_refl _) _
      have K4 : Hid (Bk w4 wr.heap.size 30 #[.int .i64 k, .int .i64 z, .string st, .int .i64 zi]) := Lib.hid (by rw [hw4]; exact Bk.new _ _ _)
      have B4 := Lib.hid (lnk HB.out hb4)
      change Code.wp _ _ _ _ (wr.alloc (.cells #[.int .i64 k, .int .i64 z, .string st, .int .i64 zi] 30))
      rw [← hw4]
      clear hw4 hb4 a0 a1 a2 a3
      obtain ⟨b, hb⟩ : ∃ b, b = wr.heap.size := ⟨_, rfl⟩
      rw [← hb] at K4 ⊢
      clear hb
      have q0 := K4.out.cell 0
      have q2 := K4.out.cell 2
      have q3 := K4.out.cell 3
      by_cases h1 : k = 1
      · have t1 : (k == 1) = true := beq_iff_eq.2 h1
        have HSO : Hid (spO x = some (x.text)) := Lib.hid (by unfold spO; rw [← HK.out]; exact if_pos (.inl h1))
        clear h1
        obtain ⟨pc, hpc⟩ : ∃ pc, pc = x.text := ⟨_, rfl⟩
        rw [← hpc] at HSO HSE
        clear hpc
        have HPL : Hid (pc.length ≤ 4002) := Lib.hid (spO_len HSO.out HEA.out)
        have HE5 := Lib.hid (sp_empty HX.out HSO.out)
        have AP := Lib.hid (fun L : List UInt8 => str_appT L pc)
        have hpl : st.size = pc.length := by rw [HSE.out]; simp [ByteArray.size]
        have hp9 := HPL.out
        cases f with
        | true =>
          have HL5 : Hid (L ++ pc = spL (l.take (j + 1))) := Lib.hid (by rw [spL_first HX.out HSO.out HF.out, HL.out])
          have z1 : ¬ 9223372036854775807 < L.length + pc.length := by omega
          have z2 : ¬ 9223372036854775807 < L.length + st.size := by omega
          go_wp2_with fail
          go_roundw
          case rel => exact ⟨j + 1, L ++ pc, false, hlt, by go_num, by rw [HSE.out, AP.out L], rfl, by rw [List.length_append]; omega, HL5, HE5, B4⟩
          case measure => simp [intOf]; omega
        | false =>
          have HL5 : Hid ((L ++ [32]) ++ pc = spL (l.take (j + 1))) := Lib.hid (by rw [spL_next HX.out HSO.out HF.out, HL.out])
          have z0 : ¬ 9223372036854775807 < L.length + 1 := by omega
          have z1 : ¬ 9223372036854775807 < L.length + 1 + pc.length := by omega
          have z2 : ¬ 9223372036854775807 < L.length + 1 + st.size := by omega
          go_wp2_with fail
          go_roundw
          case rel => exact ⟨j + 1, (L ++ [32]) ++ pc, false, hlt, by go_num, by rw [HSE.out, ← AP.out (L ++ [32]), ← str_appT], rfl, by rw [List.length_append, List.length_append, List.length_singleton]; omega, HL5, HE5, B4⟩
          case measure => simp [intOf]; omega
      by_cases h2 : k = 2
      · have t2 : (k == 2) = true := beq_iff_eq.2 h2
        have t1 : (k == 1) = false := beq_eq_false_iff_ne.2 h1
        have HSO : Hid (spO x = some (x.text)) := Lib.hid (by unfold spO; rw [← HK.out]; exact if_pos (.inr (.inl h2)))
        clear h1 h2
        obtain ⟨pc, hpc⟩ : ∃ pc, pc = x.text := ⟨_, rfl⟩
        rw [← hpc] at HSO HSE
        clear hpc
        have HPL : Hid (pc.length ≤ 4002) := Lib.hid (spO_len HSO.out HEA.out)
        have HE5 := Lib.hid (sp_empty HX.out HSO.out)
        have AP := Lib.hid (fun L : List UInt8 => str_appT L pc)
        have hpl : st.size = pc.length := by rw [HSE.out]; simp [ByteArray.size]
        have hp9 := HPL.out
        cases f with
        | true =>
          have HL5 : Hid (L ++ pc = spL (l.take (j + 1))) := Lib.hid (by rw [spL_first HX.out HSO.out HF.out, HL.out])
          have z1 : ¬ 9223372036854775807 < L.length + pc.length := by omega
          have z2 : ¬ 9223372036854775807 < L.length + st.size := by omega
          go_wp2_with fail
          go_roundw
          case rel => exact ⟨j + 1, L ++ pc, false, hlt, by go_num, by rw [HSE.out, AP.out L], rfl, by rw [List.length_append]; omega, HL5, HE5, B4⟩
          case measure => simp [intOf]; omega
        | false =>
          have HL5 : Hid ((L ++ [32]) ++ pc = spL (l.take (j + 1))) := Lib.hid (by rw [spL_next HX.out HSO.out HF.out, HL.out])
          have z0 : ¬ 9223372036854775807 < L.length + 1 := by omega
          have z1 : ¬ 9223372036854775807 < L.length + 1 + pc.length := by omega
          have z2 : ¬ 9223372036854775807 < L.length + 1 + st.size := by omega
          go_wp2_with fail
          go_roundw
          case rel => exact ⟨j + 1, (L ++ [32]) ++ pc, false, hlt, by go_num, by rw [HSE.out, ← AP.out (L ++ [32]), ← str_appT], rfl, by rw [List.length_append, List.length_append, List.length_singleton]; omega, HL5, HE5, B4⟩
          case measure => simp [intOf]; omega
      by_cases h5 : k = 5
      · have t5 : (k == 5) = true := beq_iff_eq.2 h5
        have t1 : (k == 1) = false := beq_eq_false_iff_ne.2 h1
        have t2 : (k == 2) = false := beq_eq_false_iff_ne.2 h2
        have HSO : Hid (spO x = some (x.text)) := Lib.hid (by unfold spO; rw [← HK.out]; exact if_pos (.inr (.inr h5)))
        clear h1 h2 h5
        obtain ⟨pc, hpc⟩ : ∃ pc, pc = x.text := ⟨_, rfl⟩
        rw [← hpc] at HSO HSE
        clear hpc
        have HPL : Hid (pc.length ≤ 4002) := Lib.hid (spO_len HSO.out HEA.out)
        have HE5 := Lib.hid (sp_empty HX.out HSO.out)
        have AP := Lib.hid (fun L : List UInt8 => str_appT L pc)
        have hpl : st.size = pc.length := by rw [HSE.out]; simp [ByteArray.size]
        have hp9 := HPL.out
        cases f with
        | true =>
          have HL5 : Hid (L ++ pc = spL (l.take (j + 1))) := Lib.hid (by rw [spL_first HX.out HSO.out HF.out, HL.out])
          have z1 : ¬ 9223372036854775807 < L.length + pc.length := by omega
          have z2 : ¬ 9223372036854775807 < L.length + st.size := by omega
          go_wp2_with fail
          go_roundw
          case rel => exact ⟨j + 1, L ++ pc, false, hlt, by go_num, by rw [HSE.out, AP.out L], rfl, by rw [List.length_append]; omega, HL5, HE5, B4⟩
          case measure => simp [intOf]; omega
        | false =>
          have HL5 : Hid ((L ++ [32]) ++ pc = spL (l.take (j + 1))) := Lib.hid (by rw [spL_next HX.out HSO.out HF.out, HL.out])
          have z0 : ¬ 9223372036854775807 < L.length + 1 := by omega
          have z1 : ¬ 9223372036854775807 < L.length + 1 + pc.length := by omega
          have z2 : ¬ 9223372036854775807 < L.length + 1 + st.size := by omega
          go_wp2_with fail
          go_roundw
          case rel => exact ⟨j + 1, (L ++ [32]) ++ pc, false, hlt, by go_num, by rw [HSE.out, ← AP.out (L ++ [32]), ← str_appT], rfl, by rw [List.length_append, List.length_append, List.length_singleton]; omega, HL5, HE5, B4⟩
          case measure => simp [intOf]; omega
      by_cases h3 : k = 3
      · have t3 : (k == 3) = true := beq_iff_eq.2 h3
        have t1 : (k == 1) = false := beq_eq_false_iff_ne.2 h1
        have t2 : (k == 2) = false := beq_eq_false_iff_ne.2 h2
        have t5 : (k == 5) = false := beq_eq_false_iff_ne.2 h5
        have HSO : Hid (spO x = some (Lib.itoa zi)) := Lib.hid (by unfold spO; rw [← HK.out, ← HZI.out]; rw [if_neg (by omega)]; exact if_pos h3)
        clear h1 h2 h5 h3
        have IT := Lib.hid (rdecimal_any zi w4 (by rw [HZI.out]; exact HEA.out.2.1) (by rw [HZI.out]; exact HEA.out.2.2))
        obtain ⟨pc, hpc⟩ : ∃ pc, pc = Lib.itoa zi := ⟨_, rfl⟩
        rw [← hpc] at IT HSO
        clear hpc
        go_wp2_with fail
        refine (IT.out).mono ?_
        rintro _ w6 ⟨rfl, rfl⟩
        clear IT
        have HPL : Hid (pc.length ≤ 4002) := Lib.hid (spO_len HSO.out HEA.out)
        have HE5 := Lib.hid (sp_empty HX.out HSO.out)
        have AP := Lib.hid (fun L : List UInt8 => str_appT L pc)
        have hpl : (⟨pc.toArray⟩ : ByteArray).size = pc.length := by simp [ByteArray.size]
        have hp9 := HPL.out
        cases f with
        | true =>
          have HL5 : Hid (L ++ pc = spL (l.take (j + 1))) := Lib.hid (by rw [spL_first HX.out HSO.out HF.out, HL.out])
          have z1 : ¬ 9223372036854775807 < L.length + pc.length := by omega
          have z2 : ¬ 9223372036854775807 < L.length + (⟨pc.toArray⟩ : ByteArray).size := by omega
          go_wp2_with fail
          go_roundw
          case rel => exact ⟨j + 1, L ++ pc, false, hlt, by go_num, by rw [AP.out L], rfl, by rw [List.length_append]; omega, HL5, HE5, B4⟩
          case measure => simp [intOf]; omega
        | false =>
          have HL5 : Hid ((L ++ [32]) ++ pc = spL (l.take (j + 1))) := Lib.hid (by rw [spL_next HX.out HSO.out HF.out, HL.out])
          have z0 : ¬ 9223372036854775807 < L.length + 1 := by omega
          have z1 : ¬ 9223372036854775807 < L.length + 1 + pc.length := by omega
          have z2 : ¬ 9223372036854775807 < L.length + 1 + (⟨pc.toArray⟩ : ByteArray).size := by omega
          go_wp2_with fail
          go_roundw
          case rel => exact ⟨j + 1, (L ++ [32]) ++ pc, false, hlt, by go_num, by rw [← AP.out (L ++ [32]), ← str_appT], rfl, by rw [List.length_append, List.length_append, List.length_singleton]; omega, HL5, HE5, B4⟩
          case measure => simp [intOf]; omega
      by_cases h4 : k = 4
      · have t4 : (k == 4) = true := beq_iff_eq.2 h4
        have t1 : (k == 1) = false := beq_eq_false_iff_ne.2 h1
        have t2 : (k == 2) = false := beq_eq_false_iff_ne.2 h2
        have t5 : (k == 5) = false := beq_eq_false_iff_ne.2 h5
        have t3 : (k == 3) = false := beq_eq_false_iff_ne.2 h3
        have HSO : Hid (spO x = some (quoL x.text)) := Lib.hid (by unfold spO; rw [← HK.out]; rw [if_neg (by omega), if_neg h3]; exact if_pos h4)
        clear h1 h2 h5 h3 h4
        have QU := Lib.hid (rQuote_any st w4 (by have e1 : st.data.toList.length = st.size := by simp
                                                 have := HEA.out.1; rw [HST.out] at e1; omega))
        rw [HST.out] at QU
        obtain ⟨pc, hpc⟩ : ∃ pc, pc = quoL x.text := ⟨_, rfl⟩
        rw [← hpc] at QU HSO
        clear hpc
        go_wp2_with fail
        refine (QU.out).mono ?_
        rintro _ w6 ⟨rfl, hd6⟩
        have B6 := Lib.hid (lnk B4.out hd6.below)
        clear hd6 QU q0 q2 q3
        have HPL : Hid (pc.length ≤ 4002) := Lib.hid (spO_len HSO.out HEA.out)
        have HE5 := Lib.hid (sp_empty HX.out HSO.out)
        have AP := Lib.hid (fun L : List UInt8 => str_appT L pc)
        have hpl : (⟨pc.toArray⟩ : ByteArray).size = pc.length := by simp [ByteArray.size]
        have hp9 := HPL.out
        cases f with
        | true =>
          have HL5 : Hid (L ++ pc = spL (l.take (j + 1))) := Lib.hid (by rw [spL_first HX.out HSO.out HF.out, HL.out])
          have z1 : ¬ 9223372036854775807 < L.length + pc.length := by omega
          have z2 : ¬ 9223372036854775807 < L.length + (⟨pc.toArray⟩ : ByteArray).size := by omega
          go_wp2_with fail
          go_roundw
          case rel => exact ⟨j + 1, L ++ pc, false, hlt, by go_num, by rw [AP.out L], rfl, by rw [List.length_append]; omega, HL5, HE5, B6⟩
          case measure => simp [intOf]; omega
        | false =>
          have HL5 : Hid ((L ++ [32]) ++ pc = spL (l.take (j + 1))) := Lib.hid (by rw [spL_next HX.out HSO.out HF.out, HL.out])
          have z0 : ¬ 9223372036854775807 < L.length + 1 := by omega
          have z1 : ¬ 9223372036854775807 < L.length + 1 + pc.length := by omega
          have z2 : ¬ 9223372036854775807 < L.length + 1 + (⟨pc.toArray⟩ : ByteArray).size := by omega
          go_wp2_with fail
          go_roundw
          case rel => exact ⟨j + 1, (L ++ [32]) ++ pc, false, hlt, by go_num, by rw [← AP.out (L ++ [32]), ← str_appT], rfl, by rw [List.length_append, List.length_append, List.length_singleton]; omega, HL5, HE5, B6⟩
          case measure => simp [intOf]; omega
      have t1 : (k == 1) = false := beq_eq_false_iff_ne.2 h1
      have t2 : (k == 2) = false := beq_eq_false_iff_ne.2 h2
      have t5 : (k == 5) = false := beq_eq_false_iff_ne.2 h5
      have t3 : (k == 3) = false := beq_eq_false_iff_ne.2 h3
      have t4 : (k == 4) = false := beq_eq_false_iff_ne.2 h4
      have HSO : Hid (spO x = none) := Lib.hid (by unfold spO; rw [← HK.out, if_neg (by omega), if_neg h3, if_neg h4])
      clear h1 h2 h3 h4 h5
      have HL5 : Hid (L = spL (l.take (j + 1))) := Lib.hid (by rw [spL_same HX.out HSO.out, HL.out])
      have HF5 : Hid ((spP (l.take (j + 1))).isEmpty = f) := Lib.hid (by rw [sp_none HX.out HSO.out, HF.out])
      go_wp2_with fail
      go_roundw
      case rel => exact ⟨j + 1, L, f, hlt, by go_num, rfl, rfl, by omega, HL5, HF5, B4⟩
      case measure => simp [intOf]; omega
    · have HSL : Hid (L = spL l) := Lib.hid (by
        rw [HL.out, List.take_of_length_le (by rw [← HN.out]; omega)])
      go_wp2
      go_ret
      exact ⟨ret_strT HSL.out, HB.out⟩
end Go.Proofs.YtemdcgeopaphaaaDoor
