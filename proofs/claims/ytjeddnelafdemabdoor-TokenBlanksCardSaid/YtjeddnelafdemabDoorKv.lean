/-
  The walk of TokenBlanks.
-/
import Derived.Test.YtjeddnelafdemabDoorKt
import Derived.Test.YtjeddnelafdemabDoorKsm
namespace Go.Proofs.YtjeddnelafdemabDoor
open Go.RowKit

theorem scanG_off {l : List UInt8} : ∀ {f i : Nat} {o L : List Tok}, scanG l f i o = .ok L → (∀ x ∈ o, x.off ≤ l.length) → ∀ x ∈ L, x.off ≤ l.length
  | 0, _, _, _, h, _ => by cases h
  | f + 1, i, o, L, h, ho => by
    by_cases hi : l.length ≤ i
    · rw [scan_end hi] at h
      injection h with h
      subst h
      intro x hx
      rcases List.mem_append.1 hx with h | h
      · exact ho x h
      · rw [List.mem_singleton.1 h]; exact Nat.le_refl _
    · cases h1 : oneT (l.drop i) with
      | err e => rw [scan_err (by omega) h1] at h; cases h
      | ok k t v n =>
        rw [scan_ok (by omega) h1] at h
        refine scanG_off h fun x hx => ?_
        rcases List.mem_append.1 hx with h | h
        · exact ho x h
        · rw [List.mem_singleton.1 h]; show i ≤ _; omega
theorem scanG_eoff {l : List UInt8} {e : Int} : ∀ {f i j : Nat} {o : List Tok}, scanG l f i o = .err j e → i ≤ l.length → j ≤ l.length
  | 0, _, _, _, h, hi => by injection h with h; omega
  | f + 1, i, j, o, h, hi => by
    by_cases hi : l.length ≤ i
    · rw [scan_end hi] at h; cases h
    · cases h1 : oneT (l.drop i) with
      | err e => rw [scan_err (by omega) h1] at h; injection h with h; omega
      | ok k t v n =>
        rw [scan_ok (by omega) h1] at h
        have hn := oneT_n h1
        rw [List.length_drop] at hn
        exact scanG_eoff h (skpT_le l (i + n) (by omega))
theorem scanT_off {l : List UInt8} {L : List Tok} (h : scanT l = .ok L) : ∀ x ∈ L, x.off ≤ l.length := by
  unfold scanT at h
  split at h
  · cases h
  · exact scanG_off h (fun x hx => by cases hx)
theorem scanT_eoff {l : List UInt8} {j : Nat} {e : Int} (h : scanT l = .err j e) : j ≤ l.length := by
  unfold scanT at h
  split at h
  · injection h with h; omega
  · exact scanG_eoff h (skpT_le l 0 (Nat.zero_le _))
theorem rep_snoc (j : Nat) : List.replicate (j + 1) (32 : UInt8) = List.replicate j 32 ++ [32] := by
  rw [List.replicate_succ']
theorem app_list (a b : ByteArray) : (a ++ b).data.toList = a.data.toList ++ b.data.toList := by simp
set_option maxRecDepth 100000 in
set_option maxHeartbeats 8000000 in
theorem Blanks_any (s : ByteArray) (c : UInt8) (w : World) (hE : NStd w) : Calls Tryd.prog 3 #[.string s, .int .u8 (c.toNat : Int)] w fun e w' => e = .returned (.bool true) ∧ Below w.heap.size w w' := by
  have HE := Lib.hid hE
  clear hE
  by_cases hbig : 400 < s.size
  · have hbi : (400 : Int) < (s.size : Int) := by omega
    have HW := Lib.hid (works_any HE.out)
    go_enter Tryd.func3, Tryd.ntmps3
    go_wp2_with fail
    refine (HW.out).mono ?_
    rintro _ w1 ⟨rfl, hb1⟩
    go_wp2
    go_ret
    exact ⟨rfl, hb1⟩
  · have hbi : ¬ (400 : Int) < (s.size : Int) := by omega
    have hls : s.data.toList.length = s.size := by simp
    obtain ⟨k, hk⟩ : ∃ k, k = c.toNat % 20 := ⟨_, rfl⟩
    have hk20 : k < 20 := by omega
    have hkm : (c.toNat : Int) % 20 = (k : Int) := by omega
    have hkt : Int.tmod (c.toNat : Int) 20 = (k : Int) := by rw [Int.tmod_eq_emod_of_nonneg (by omega)]; exact hkm
    have hkn : c.toNat % 20 = k := hk.symm
    have hc8 : c.toNat < 256 := c.toNat_lt
    have hwc : wrap64 (c.toNat : Int) = (c.toNat : Int) := by unfold wrap64; omega
    have SC := Lib.hid (fun V h => Scan_any s V (by omega) h)
    have SP := Lib.hid (scanT_pre k s.data.toList (by omega))
    clear hk
    go_enter Tryd.func3, Tryd.ntmps3
    go_wp2_with fail
    go_loopw [6, 7] (fun sv iv wr => ∃ (j : Nat) (bl : ByteArray), j ≤ k ∧ iv = .int .i64 j ∧ sv = .string bl ∧ bl.size = j ∧ Hid (bl.data.toList = List.replicate j 32) ∧ wr = w) (fun _ iv _ => k - (intOf iv).toNat)
    case atStart => exact ⟨0, ⟨#[]⟩, Nat.zero_le _, rfl, rfl, rfl, Lib.hid rfl, rfl⟩
    case round =>
      obtain ⟨j, bl, hj, rfl, rfl, hbs, HBL, rfl⟩ := hrel
      by_cases hlt : j < k
      · have hsz : ¬ (9223372036854775807 < bl.size + 1) := by omega
        have HB2 : Hid ((bl ++ ⟨#[32]⟩ : ByteArray).data.toList = List.replicate (j + 1) 32) := Lib.hid (by rw [app_list, HBL.out, rep_snoc])
        have HB3 : Hid ((bl ++ ⟨#[32]⟩ : ByteArray).size = j + 1) := Lib.hid (by rw [ByteArray.size_append, hbs]; rfl)
        go_wp2_with fail
        go_roundw
        case rel => exact ⟨j + 1, bl ++ ⟨#[32]⟩, hlt, by go_num, rfl, HB3.out, HB2, trivial⟩
        case measure => simp [intOf]; omega
      · obtain rfl : j = k := by omega
        have HS := Lib.hid (fun V h => Scan_any (bl ++ s) V (by rw [ByteArray.size_append]; omega) h)
        rw [app_list, HBL.out, SP.out] at HS
        have hsz : ¬ (9223372036854775807 < bl.size + s.size) := by omega
        go_wp2_with fail
        refine (SC.out _ HE.out).mono ?_
        rintro _ w1 ⟨hb1, ⟨L, A, c1, hL, rfl, ho⟩ | ⟨i, x, hL, rfl⟩⟩
        · have B1 := Lib.hid hb1
          have T1 := Lib.hid (TRow.of_own ho)
          have HO := Lib.hid (scanT_off hL)
          rw [hls] at HO
          obtain ⟨n, hn⟩ : ∃ n, n = L.length := ⟨_, rfl⟩
          have hlm : n ≤ 9223372036854775807 := by
            obtain ⟨A9, c9, hv9, h8, h9⟩ := own_formN ho
            unfold maxLen at h9
            omega
          rw [hL] at HS
          rw [← hn]
          have HN := Lib.hid hn
          clear hb1 ho hL
          go_wp2_with fail
          refine (HS.out _ (HE.out.on B1.out)).mono ?_
          rintro _ w2 ⟨hb2, ⟨M, A2, c2, hM, rfl, ho2⟩ | ⟨i2, x2, hM, _⟩⟩
          case inr => cases hM
          injection hM with hM
          subst hM
          have B2 := Lib.hid (lnk B1.out hb2)
          have T2 := Lib.hid (T1.out.below hb2)
          have U2 : Hid (TRow w2 A2 (L.map (shT j))) := Lib.hid (TRow.of_own ho2)
          have SM := Lib.hid (same_any (c := c1) (c' := c2) T2.out U2.out (by omega))
          rw [show (L.map (shT j)).length = L.length from List.length_map ..]
          rw [← hn] at SM ⊢
          clear HS hb2 ho2 T1 hn
          go_wp2_with fail
          refine (SM.out).mono ?_
          rintro _ w3 ⟨rfl, d3⟩
          have B3 := Lib.hid (lnk B2.out (Dr.below d3))
          have T3 := Lib.hid (T2.out.below (Dr.below d3))
          have U3 := Lib.hid (U2.out.below (Dr.below d3))
          clear T2 U2 d3
          go_wp2_with fail
          go_loopw [69] (fun i wq => ∃ q : Nat, q ≤ n ∧ i = .int .i64 q ∧ Hid (Dr w3 wq)) (fun i _ => n - (intOf i).toNat)
          case atStart => exact ⟨0, Nat.zero_le _, rfl, Lib.hid (Dr.refl _)⟩
          case round =>
            obtain ⟨q, hq, rfl, HD⟩ := hrel
            by_cases hql : q < n
            · obtain ⟨x, hx⟩ : ∃ x, L[q]? = some x := ⟨_, List.getElem?_eq_getElem (by rw [← HN.out]; exact hql)⟩
              have hx' : (L.map (shT j))[q]? = some (shT j x) := by rw [List.getElem?_map, hx]; rfl
              have hox := HO.out x (List.mem_of_getElem? hx)
              obtain ⟨g, o, rfl, _, a0, a1, a2, a3⟩ := T3.out q x hx
              obtain ⟨g', o', rfl, _, b0, b1, b2, b3⟩ := U3.out q _ hx'
              change _ = some (Value.int .i64 ((x.off + j : Nat) : Int)) at b1
              have hd := fun (a : Addr) => HD.out.cell a
              rw [← hd] at a1 b1
              have hji : (q : Int) < (n : Int) := by omega
              have k1 : wrap64 (((x.off + j : Nat) : Int) - (j : Int)) = (x.off : Int) := by unfold wrap64; omega
              have k0 : ((x.off : Int) != (x.off : Int)) = false := by simp
              clear hx hx' hd a0 a2 a3 b0 b2 b3
              generalize hof : ((x.off + j : Nat) : Int) = ofj at b1 k1
              go_wp2_with fail
              go_quiet (fail)
              go_wp2
              go_roundw
              case rel => exact ⟨q + 1, hql, by go_num, Lib.hid (HD.out.trans (Dr.next _ _))⟩
              case measure => simp [intOf]; omega
            · have BE := Lib.hid (lnk B3.out (Dr.below HD.out))
              have WK := Lib.hid (works_any (HE.out.on BE.out))
              go_wp2_with fail
              refine (WK.out).mono ?_
              rintro _ w4 ⟨rfl, hb4⟩
              go_wp2
              go_ret
              exact ⟨rfl, lnk BE.out hb4⟩
        · have hx0 : x ≠ 0 := scanT_ne hL
          have hio := scanT_eoff hL
          rw [hls] at hio
          have B1 := Lib.hid hb1
          rw [hL] at HS
          have t0 : (x == 0) = false := beq_eq_false_iff_ne.2 hx0
          have t0n : (x != 0) = true := bne_iff_ne.2 hx0
          have txx : (x != x) = false := by simp
          have k1 : wrap64 (((i + j : Nat) : Int) - (j : Int)) = (i : Int) := by unfold wrap64; omega
          have k0 : ((i : Int) != (i : Int)) = false := by simp
          clear hb1 hL hx0
          go_wp2_with fail
          refine (HS.out _ (HE.out.on B1.out)).mono ?_
          rintro _ w2 ⟨hb2, ⟨_, _, _, hM, _, _⟩ | ⟨i2, x2, hM, rfl⟩⟩
          case inl => cases hM
          injection hM with h1 h2
          subst h1 h2
          have B2 := Lib.hid (lnk B1.out hb2)
          have WK := Lib.hid (works_any (HE.out.on B2.out))
          generalize hof : ((i + j : Nat) : Int) = ofj at k1
          clear HS hb2
          go_wp2_with fail
          go_loopw [69] (fun i wq => i = .int .i64 0 ∧ wq = w2) (fun _ _ => 0)
          case atStart => exact ⟨rfl, rfl⟩
          case round =>
            obtain ⟨rfl, rfl⟩ := hrel
            have h00 : ¬ (0 : Int) < (0 : Int) := by omega
            go_wp2_with fail
            refine (WK.out).mono ?_
            rintro _ w3 ⟨rfl, hb3⟩
            go_wp2
            go_ret
            exact ⟨rfl, lnk B2.out hb3⟩
theorem TokenBlanks_walk (s : ByteArray) (c : UInt8) (w : World) (_ : s.size ≤ maxLen) (h : NStd w) : Calls Tryd.prog 3 #[.string s, .int .u8 (c.toNat : Int)] w fun e w' => e = .returned (.bool true) ∧ Below w.heap.size w w' := Blanks_any s c w h
end Go.Proofs.YtjeddnelafdemabDoor
