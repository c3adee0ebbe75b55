/-
  The walk of TokenScan: both Scans give the same tokens, or the same error.
-/
import Derived.Test.YtemdcgeopaphaaaDoorKja
import Derived.Test.YtemdcgeopaphaaaDoorKq
namespace Go.Proofs.YtemdcgeopaphaaaDoor
open Go.RowKit

theorem scanG_len {l : List UInt8} : ∀ {f i : Nat} {o L : List Tok}, scanG l f i o = .ok L → i ≤ l.length → L.length + i ≤ o.length + l.length + 1
  | 0, _, _, _, h, _ => by cases h
  | f + 1, i, o, L, h, hil => by
    by_cases hi : l.length ≤ i
    · rw [scan_end hi] at h
      injection h with h
      subst h
      rw [List.length_append, List.length_singleton]
      omega
    · cases h1 : oneT (l.drop i) with
      | err e => rw [scan_err (by omega) h1] at h; cases h
      | ok k t v n =>
        rw [scan_ok (by omega) h1] at h
        have hn := oneT_n h1
        rw [List.length_drop] at hn
        have h2 := scanG_len h (skpT_le l (i + n) (by omega))
        have h3 := skpT_ge l (i + n)
        rw [List.length_append, List.length_singleton] at h2
        omega
theorem scanT_len {l : List UInt8} {L : List Tok} (h : scanT l = .ok L) : L.length ≤ l.length + 1 := by
  unfold scanT at h
  split at h
  · cases h
  · have := scanG_len h (skpT_le l 0 (Nat.zero_le _))
    rw [List.length_nil] at this
    omega
set_option maxHeartbeats 2000000 in
theorem Scan_big (t : ByteArray) (w : World) (hz : 16384 < t.size) (hm : t.size ≤ 9223372036854775807) :
    Calls Tryd.prog 11 #[.string t] w fun e w' => e = .returned (.tuple #[.slice none 0 0, .int .i64 0, .int .i64 6]) ∧ w' = w := by
  have hbi : (16384 : Int) < (t.size : Int) := by omega
  go_enter Tryd.func11, Tryd.ntmps11
  go_wp2_with fail
  go_ret3
  exact ⟨rfl, rfl⟩
set_option maxHeartbeats 2000000 in
theorem rScan_big (t : ByteArray) (w : World) (hz : 16384 < t.size) (hm : t.size ≤ 9223372036854775807) :
    Calls Tryd.prog 12 #[.string t] w fun e w' => e = .returned (.tuple #[.slice none 0 0, .int .i64 0, .int .i64 6]) ∧ w' = w := by
  have hbi : (16384 : Int) < (t.size : Int) := by omega
  go_enter Tryd.func12, Tryd.ntmps12
  go_wp2_with fail
  go_ret3
  exact ⟨rfl, rfl⟩
theorem TRow.nil (w : World) : TRow w none [] := fun j k h => by cases h
set_option maxRecDepth 100000 in
set_option maxHeartbeats 8000000 in
theorem TokenScan_walk (s : ByteArray) (w : World) (hm : s.size ≤ maxLen) (hE : NStd w) : Calls Tryd.prog 3 #[.string s] w fun e w' => e = .returned (.bool true) ∧ Below w.heap.size w w' := by
  have HE := Lib.hid hE
  clear hE
  have hm9 : s.size ≤ 9223372036854775807 := by unfold maxLen at hm; omega
  clear hm
  by_cases hbig : 16384 < s.size
  · have g1 : (400 : Int) < (s.size : Int) := by omega
    have g2 : ¬ (s.size : Int) ≤ 16384 := by omega
    have SC := Lib.hid (fun V => Scan_big s V hbig hm9)
    have RC := Lib.hid (fun V => rScan_big s V hbig hm9)
    have EQ := Lib.hid (fun V => equal_any (c := 0) (c' := 0) (TRow.nil V) (TRow.nil V) (by decide))
    rw [show ([] : List Tok).length = 0 from rfl] at EQ
    clear hbig
    go_enter Tryd.func3, Tryd.ntmps3
    go_wp2_with fail
    refine (SC.out _).mono ?_
    rintro _ w1 ⟨rfl, rfl⟩
    go_wp2_with fail
    refine (RC.out _).mono ?_
    rintro _ w2 ⟨rfl, rfl⟩
    go_wp2_with fail
    refine (EQ.out _).mono ?_
    rintro _ w3 ⟨rfl, d3⟩
    have B3 := Lib.hid (Dr.below d3)
    clear d3
    go_wp2_with fail
    refine (works_any (HE.out.on B3.out)).mono ?_
    rintro _ w4 ⟨rfl, hb4⟩
    have B4 := Lib.hid (lnk B3.out hb4)
    clear hb4
    go_wp2
    go_ret
    exact ⟨rfl, B4.out⟩
  · by_cases hsm : 400 < s.size
    · have g1 : (400 : Int) < (s.size : Int) := by omega
      have g2 : (s.size : Int) ≤ 16384 := by omega
      clear hbig hsm
      have HW := Lib.hid (works_any HE.out)
      go_enter Tryd.func3, Tryd.ntmps3
      go_wp2_with fail
      refine (HW.out).mono ?_
      rintro _ w1 ⟨rfl, hb1⟩
      go_wp2
      go_ret
      exact ⟨rfl, hb1⟩
    · have g1 : ¬ (400 : Int) < (s.size : Int) := by omega
      have hls : s.data.toList.length = s.size := by simp
      have SC := Lib.hid (fun V h => Scan_any s V (by omega) h)
      have RC := Lib.hid (fun V => rScan_any s V (by omega))
      go_enter Tryd.func3, Tryd.ntmps3
      go_wp2_with fail
      refine (SC.out _ HE.out).mono ?_
      rintro _ w1 ⟨hb1, ⟨L, A, c1, hL, rfl, ho⟩ | ⟨i, x, hL, rfl⟩⟩
      · have B1 := Lib.hid hb1
        have T1 := Lib.hid (TRow.of_own ho)
        have HLN := Lib.hid (scanT_len hL)
        rw [hls] at HLN
        obtain ⟨n, hn⟩ : ∃ n, n = L.length := ⟨_, rfl⟩
        rw [hL] at RC
        rw [← hn]
        have HN := Lib.hid hn
        clear hb1 ho hL
        go_wp2_with fail
        refine (RC.out _).mono ?_
        rintro _ w2 ⟨hb2, ⟨M, A2, c2, hM, rfl, ho2⟩ | ⟨i2, x2, hM, _⟩⟩
        case inr => cases hM
        injection hM with hM
        subst hM
        have B2 := Lib.hid (lnk B1.out hb2)
        have T2 := Lib.hid (T1.out.below hb2)
        have U2 : Hid (TRow w2 A2 L) := Lib.hid (TRow.of_own ho2)
        have SM := Lib.hid (equal_any (c := c1) (c' := c2) T2.out U2.out (by have := HLN.out; omega))
        rw [← hn] at SM ⊢
        clear RC hb2 ho2 T1 hn
        go_wp2_with fail
        refine (SM.out).mono ?_
        rintro _ w3 ⟨rfl, d3⟩
        have B3 := Lib.hid (lnk B2.out (Dr.below d3))
        clear T2 U2 d3
        go_wp2_with fail
        refine (works_any (HE.out.on B3.out)).mono ?_
        rintro _ w4 ⟨rfl, hb4⟩
        have B4 := Lib.hid (lnk B3.out hb4)
        clear hb4
        go_wp2
        go_ret
        exact ⟨rfl, B4.out⟩
      · have B1 := Lib.hid hb1
        rw [hL] at RC
        clear hb1 hL
        have ti : ((i : Int) == (i : Int)) = true := by simp
        have tx : (x == x) = true := by simp
        go_wp2_with fail
        refine (RC.out _).mono ?_
        rintro _ w2 ⟨hb2, ⟨M, A2, c2, hM, rfl, ho2⟩ | ⟨i2, x2, hM, rfl⟩⟩
        case inl => cases hM
        injection hM with h1 h2
        subst h1 h2
        have B2 := Lib.hid (lnk B1.out hb2)
        have EQ := Lib.hid (equal_any (c := 0) (c' := 0) (TRow.nil w2) (TRow.nil w2) (by decide))
        rw [show ([] : List Tok).length = 0 from rfl] at EQ
        clear hb2
        go_wp2_with fail
        refine (EQ.out).mono ?_
        rintro _ w3 ⟨rfl, d3⟩
        have B3 := Lib.hid (lnk B2.out (Dr.below d3))
        clear d3
        go_wp2_with fail
        refine (works_any (HE.out.on B3.out)).mono ?_
        rintro _ w4 ⟨rfl, hb4⟩
        have B4 := Lib.hid (lnk B3.out hb4)
        clear hb4
        go_wp2
        go_ret
        exact ⟨rfl, B4.out⟩
end Go.Proofs.YtemdcgeopaphaaaDoor
