/-
  The walks of NameChecks, NameKeys, NameRuns and NameGrows.
-/
import Derived.Test.YtegiicbbmkjplaaDoorNf
namespace Go.Proofs.YtegiicbbmkjplaaDoor
open Go.RowKit

theorem Good.go {w0 w1 w2 : World} (h : Below w0.heap.size w0 w1) (hb : Below w1.heap.size w1 w2) : Below w0.heap.size w0 w2 := h.trans (hb.mono h.size)

set_option maxHeartbeats 1000000 in
theorem NameChecks_walk (s : ByteArray) (w : World) (hs : s.size ≤ maxLen) (h : NStd w) : Calls Tryd.prog 3 #[.string s] w (Good w) := by
  have R1 := Lib.hid (Right_any s w hs)
  have R2 := Lib.hid (refRight_any s w hs)
  have L := Lib.hid (lives_any w w h (Below.refl _ _))
  unfold maxLen at hs
  clear h
  generalize nameB s.data.toList = b at *
  by_cases hb : 10000 < s.size
  · go_enter Tryd.func3, Tryd.ntmps3
    go_wp2_with fail
    go_ret
    exact ⟨rfl, Below.refl _ _⟩
  · go_enter Tryd.func3, Tryd.ntmps3
    go_wp2_with fail
    refine R1.out.mono ?_
    rintro e w' ⟨rfl, rfl⟩
    go_wp2_with fail
    refine R2.out.mono ?_
    rintro e w' ⟨rfl, rfl⟩
    go_wp2_with fail
    refine L.out.mono ?_
    rintro e w' ⟨rfl, hb⟩
    have HB := Lib.hid hb
    clear hb
    go_wp2
    go_ret
    exact ⟨rfl, HB.out⟩

theorem run_is {s : ByteArray} (v : Int) (hr : runS v = s.data.toList) (W : World) (h0 : -9223372036854775808 ≤ v) (h1 : v ≤ 9223372036854775807) (hw : NStd W) : Calls Tryd.prog 12 #[.int .i64 v] W fun e w' => e = .returned (.string s) ∧ Below W.heap.size W w' := by
  have := Run_any v W h0 h1 hw
  rw [hr, str_ne rfl] at this
  exact this
theorem run_size {n : Int} (h0 : -9223372036854775808 ≤ n) (h1 : n ≤ 9223372036854775807) : (⟨(runS n).toArray⟩ : ByteArray).size ≤ 10000 := by
  have : (⟨(runS n).toArray⟩ : ByteArray).size = (runS n).length := by simp [ByteArray.size]
  rw [this]
  unfold runS
  split
  · exact Nat.zero_le _
  · rw [List.length_cons]
    have := itoa_len h0 h1
    omega
theorem num_run {n x : Int} {y : Bool} (h1 : n ≤ 9223372036854775807) (h : NumP (runS n) x y) : (n < 1 ∧ x = 0 ∧ y = false) ∨ (¬ n < 1 ∧ x = n ∧ y = true) := by
  by_cases hn : n < 1
  · have h2 : NumP (runS n) 0 false := .inr ⟨rfl, rfl, fun m hm e => by rw [runS_0 hn, runS_dec hm] at e; cases e⟩
    obtain ⟨e1, e2⟩ := NumP.one h h2
    exact .inl ⟨hn, e1, e2⟩
  · have h2 : NumP (runS n) n true := .inl ⟨rfl, ⟨by omega, h1⟩, rfl⟩
    obtain ⟨e1, e2⟩ := NumP.one h h2
    exact .inr ⟨hn, e1, e2⟩
set_option maxHeartbeats 2000000 in
theorem NameRuns_walk (n : Int) (s : ByteArray) (w : World) (h0 : -9223372036854775808 ≤ n) (h1 : n ≤ 9223372036854775807) (hs : s.size ≤ maxLen) (h : NStd w) : Calls Tryd.prog 4 #[.int .i64 n, .string s] w (Good w) := by
  unfold maxLen at hs
  by_cases hb : 10000 < s.size
  · have L := Lib.hid (lives_any w w h (Below.refl _ _))
    clear h
    go_enter Tryd.func4, Tryd.ntmps4
    go_wp2_with fail
    refine L.out.mono ?_
    rintro e w' ⟨rfl, hb⟩
    have HB := Lib.hid hb
    clear hb
    go_wp2
    go_ret
    exact ⟨rfl, HB.out⟩
  · have S0 := Lib.hid h
    clear h
    go_enter Tryd.func4, Tryd.ntmps4
    go_wp2_with fail
    refine (Number_any s _ (by omega) S0.out).mono ?_
    rintro e w1 ⟨v, b, rfl, hn, hv0, hv1, hb⟩
    have S1 := Lib.hid (S0.out.on hb)
    have B1 := Lib.hid hb
    have N1 := Lib.hid hn
    clear hb hn S0
    go_wp2_with fail
    refine (refNumber_any s _ (by omega)).mono ?_
    rintro e w2 ⟨v', b', rfl, hn, _, _, hb⟩
    obtain ⟨rfl, rfl⟩ := NumP.one N1.out hn
    have HZ : Hid ((⟨(runS n).toArray⟩ : ByteArray).size ≤ 10000) := Lib.hid (run_size h0 h1)
    have S2 := Lib.hid (S1.out.on hb)
    have B2 := Lib.hid (Good.go B1.out hb)
    clear hb hn S1 B1
    go_wp2_with fail
    refine (Run_any n _ h0 h1 S2.out).mono ?_
    rintro e w3 ⟨rfl, hb⟩
    have S3 := Lib.hid (S2.out.on hb)
    have B3 := Lib.hid (Good.go B2.out hb)
    clear hb S2 B2
    go_wp2_with fail
    refine (refRun_any n _ h0 h1).mono ?_
    rintro e w4 ⟨rfl, hb⟩
    have S4 := Lib.hid (S3.out.on hb)
    have B4 := Lib.hid (Good.go B3.out hb)
    clear hb S3 B3
    cases b with
    | true =>
      have HR : Hid (runS v = s.data.toList) := Lib.hid (by
        rcases N1.out with ⟨_, _, h⟩ | ⟨h, _⟩
        · exact h
        · cases h)
      clear N1
      go_wp2_with fail
      refine (run_is v HR.out _ hv0 hv1 S4.out).mono ?_
      rintro e w5 ⟨rfl, hb⟩
      have S5 := Lib.hid (S4.out.on hb)
      have B5 := Lib.hid (Good.go B4.out hb)
      clear hb S4 B4
      go_wp2_with fail
      refine (Run_any n _ h0 h1 S5.out).mono ?_
      rintro e w6 ⟨rfl, hb⟩
      have S6 := Lib.hid (S5.out.on hb)
      have B6 := Lib.hid (Good.go B5.out hb)
      clear hb S5 B5
      go_wp2_with fail
      refine (Number_any ⟨(runS n).toArray⟩ _ HZ.out S6.out).mono ?_
      rintro e w7 ⟨x, y, rfl, hn, _, _, hb⟩
      have hx := num_run h1 hn
      have S7 := Lib.hid (S6.out.on hb)
      have B7 := Lib.hid (Good.go B6.out hb)
      clear hb S6 B6 hn
      rcases hx with ⟨hn1, rfl, rfl⟩ | ⟨hn1, rfl, rfl⟩
      all_goals (
        go_wp2_with fail
        refine (lives_any _ w S7.out B7.out).mono ?_
        rintro e w' ⟨rfl, hb⟩
        have HB := Lib.hid hb
        clear hb
        go_wp2
        go_ret
        exact ⟨rfl, HB.out⟩)
    | false =>
      clear N1
      go_wp2_with fail
      refine (Run_any n _ h0 h1 S4.out).mono ?_
      rintro e w5 ⟨rfl, hb⟩
      have S5 := Lib.hid (S4.out.on hb)
      have B5 := Lib.hid (Good.go B4.out hb)
      clear hb S4 B4
      go_wp2_with fail
      refine (Number_any ⟨(runS n).toArray⟩ _ HZ.out S5.out).mono ?_
      rintro e w6 ⟨x, y, rfl, hn, _, _, hb⟩
      have hx := num_run h1 hn
      have S6 := Lib.hid (S5.out.on hb)
      have B6 := Lib.hid (Good.go B5.out hb)
      clear hb S5 B5 hn
      rcases hx with ⟨hn1, rfl, rfl⟩ | ⟨hn1, rfl, rfl⟩
      all_goals (
        go_wp2_with fail
        refine (lives_any _ w S6.out B6.out).mono ?_
        rintro e w' ⟨rfl, hb⟩
        have HB := Lib.hid hb
        clear hb
        go_wp2
        go_ret
        exact ⟨rfl, HB.out⟩)

theorem key_of {a b u v : List UInt8} (h : a ++ (47 : UInt8) :: b = u ++ 47 :: v) (hu : (47 : UInt8) ∉ u) (hv : (47 : UInt8) ∉ v) : a = u ∧ b = v := by
  refine cut_one h ?_ hu
  intro ha
  have h1 := congrArg (List.count (47 : UInt8)) h
  rw [List.count_append, List.count_append, List.count_cons_self, List.count_cons_self, List.count_eq_zero.2 hu, List.count_eq_zero.2 hv] at h1
  have h2 := List.count_pos_iff.2 ha
  omega
theorem key_list (s t : ByteArray) : (s ++ ⟨#[47]⟩ ++ t).data.toList = s.data.toList ++ 47 :: t.data.toList := by
  rw [ByteArray.data_append, ByteArray.data_append]
  simp
theorem key_back {s t u v : ByteArray} (h : SplP (s ++ ⟨#[47]⟩ ++ t).data.toList u.data.toList v.data.toList true) : u = s ∧ v = t := by
  rw [key_list] at h
  rcases h with ⟨_, h1, h2, h3⟩ | ⟨h, _⟩
  · obtain ⟨e1, e2⟩ := key_of h1 h2 h3
    exact ⟨(str_of e1.symm).trans (str_of rfl).symm, (str_of e2.symm).trans (str_of rfl).symm⟩
  · cases h
theorem key_again {s u v : ByteArray} (h : SplP s.data.toList u.data.toList v.data.toList true) : u ++ ⟨#[47]⟩ ++ v = s := by
  rcases h with ⟨_, h1, _⟩ | ⟨h, _⟩
  · exact (str_of (key_list u v)).trans (by rw [← h1])
  · cases h
theorem spl_false {l u v : List UInt8} (h : SplP l u v false) : u = [] ∧ v = [] := by
  rcases h with ⟨h, _⟩ | ⟨_, h1, h2, _⟩
  · cases h
  · exact ⟨h1, h2⟩

set_option maxHeartbeats 2000000 in
theorem NameKeys_walk (s t : ByteArray) (w : World) (hs : s.size ≤ maxLen) (ht : t.size ≤ maxLen) (h : NStd w) : Calls Tryd.prog 5 #[.string s, .string t] w (Good w) := by
  unfold maxLen at hs ht
  by_cases hb : 10000 < s.size ∨ 10000 < t.size
  · have L := Lib.hid (lives_any w w h (Below.refl _ _))
    clear h
    rcases Nat.lt_or_ge 10000 s.size with h1 | h1
    · clear hb
      go_enter Tryd.func5, Tryd.ntmps5
      go_wp2_with fail
      refine L.out.mono ?_
      rintro e w' ⟨rfl, hb⟩
      have HB := Lib.hid hb
      clear hb
      go_wp2
      go_ret
      exact ⟨rfl, HB.out⟩
    · have h2 : 10000 < t.size := by omega
      clear hb
      go_enter Tryd.func5, Tryd.ntmps5
      go_wp2_with fail
      refine L.out.mono ?_
      rintro e w' ⟨rfl, hb⟩
      have HB := Lib.hid hb
      clear hb
      go_wp2
      go_ret
      exact ⟨rfl, HB.out⟩
  · have S0 := Lib.hid h
    have hs1 : s.size ≤ 10000 := by omega
    have ht1 : t.size ≤ 10000 := by omega
    clear h hb
    have HK : Hid ((s ++ ⟨#[47]⟩ ++ t).size ≤ 30000) := Lib.hid (by rw [ByteArray.size_append, ByteArray.size_append]; show s.size + 1 + t.size ≤ 30000; omega)
    have K1 := Lib.hid (fun W => Key_any s t W hs1 ht1)
    have K2 := Lib.hid (fun W => refKey_any s t W hs1 ht1)
    have HB2 := Lib.hid (fun (u v : ByteArray) => @key_back s t u v)
    generalize s ++ ⟨#[47]⟩ ++ t = k at *
    go_enter Tryd.func5, Tryd.ntmps5
    go_wp2_with fail
    refine (K1.out _).mono ?_
    rintro e w' ⟨rfl, rfl⟩
    go_wp2_with fail
    refine (Split_any k _ HK.out).mono ?_
    rintro e w1 ⟨u, v, b, rfl, hn, _, _, hb⟩
    have S1 := Lib.hid (S0.out.on hb)
    have B1 := Lib.hid hb
    have N1 := Lib.hid hn
    clear hb hn S0
    go_wp2_with fail
    refine (refSplit_any k _ HK.out).mono ?_
    rintro e w2 ⟨u', v', b', rfl, hn, _, _, hb⟩
    obtain ⟨eu, ev, rfl⟩ := SplP.one N1.out hn
    obtain rfl : u = u' := (str_of eu).trans (str_of rfl).symm
    obtain rfl : v = v' := (str_of ev).trans (str_of rfl).symm
    have S2 := Lib.hid (S1.out.on hb)
    have B2 := Lib.hid (Good.go B1.out hb)
    clear hb hn S1 B1 eu ev
    cases b with
    | true =>
      obtain ⟨rfl, rfl⟩ := HB2.out u v N1.out
      clear HB2 N1
      go_wp2_with fail
      refine (K2.out _).mono ?_
      rintro e w' ⟨rfl, rfl⟩
      go_wp2_with fail
      have hxl : u.data.toList.length = u.size := by simp
      refine (Split_any u _ (by omega)).mono ?_
      rintro e w3 ⟨p, q, yes, rfl, hn, hp, hq, hb⟩
      have S3 := Lib.hid (S2.out.on hb)
      have B3 := Lib.hid (Good.go B2.out hb)
      clear hb S2 B2
      cases yes with
      | true =>
        have HA := Lib.hid (key_again hn)
        have hp' : p.size ≤ 10000 := by omega
        have hq' : q.size ≤ 10000 := by omega
        clear hn
        go_wp2_with fail
        refine (Key_any p q _ hp' hq').mono ?_
        rw [HA.out]
        rintro e w' ⟨rfl, rfl⟩
        go_wp2_with fail
        refine (lives_any _ w S3.out B3.out).mono ?_
        rintro e w' ⟨rfl, hb⟩
        have HB := Lib.hid hb
        clear hb
        go_wp2
        go_ret
        exact ⟨rfl, HB.out⟩
      | false =>
        clear hn
        go_wp2_with fail
        refine (lives_any _ w S3.out B3.out).mono ?_
        rintro e w' ⟨rfl, hb⟩
        have HB := Lib.hid hb
        clear hb
        go_wp2
        go_ret
        exact ⟨rfl, HB.out⟩
    | false =>
      clear HB2 N1
      go_wp2_with fail
      refine (K2.out _).mono ?_
      rintro e w' ⟨rfl, rfl⟩
      go_wp2_with fail
      have hxl : s.data.toList.length = s.size := by simp
      refine (Split_any s _ (by omega)).mono ?_
      rintro e w3 ⟨p, q, yes, rfl, hn, hp, hq, hb⟩
      have S3 := Lib.hid (S2.out.on hb)
      have B3 := Lib.hid (Good.go B2.out hb)
      clear hb S2 B2
      cases yes with
      | true =>
        have HA := Lib.hid (key_again hn)
        have hp' : p.size ≤ 10000 := by omega
        have hq' : q.size ≤ 10000 := by omega
        clear hn
        go_wp2_with fail
        refine (Key_any p q _ hp' hq').mono ?_
        rw [HA.out]
        rintro e w' ⟨rfl, rfl⟩
        go_wp2_with fail
        refine (lives_any _ w S3.out B3.out).mono ?_
        rintro e w' ⟨rfl, hb⟩
        have HB := Lib.hid hb
        clear hb
        go_wp2
        go_ret
        exact ⟨rfl, HB.out⟩
      | false =>
        clear hn
        go_wp2_with fail
        refine (lives_any _ w S3.out B3.out).mono ?_
        rintro e w' ⟨rfl, hb⟩
        have HB := Lib.hid hb
        clear hb
        go_wp2
        go_ret
        exact ⟨rfl, HB.out⟩

theorem nameB_snoc {l : List UInt8} (c : UInt8) (h : nameB l = true) : nameB (l ++ [c]) = (wordB c && decide (l.length < 64)) := by
  unfold nameB at h ⊢
  rw [Bool.and_eq_true, Bool.and_eq_true, decide_eq_true_iff] at h
  obtain ⟨⟨⟨h1, h2⟩, h3⟩, h4⟩ := h
  have e1 : (l ++ [c]).headD 48 = l.headD 48 := by
    cases l with
    | nil => simp at h1
    | cons a r => rfl
  rw [e1, h3, List.all_append, h4, List.length_append, List.length_singleton]
  have e2 : decide (1 ≤ l.length + 1 ∧ l.length + 1 ≤ 64) = decide (l.length < 64) := decide_eq_decide.2 (by omega)
  rw [e2]
  generalize decide (l.length < 64) = d
  cases hw : wordB c <;> cases d <;> simp [hw]
theorem nameB_seven (l : List UInt8) : nameB (55 :: l) = false := nameB_dig (by decide)
theorem snoc_list (s : ByteArray) (c : UInt8) : (s ++ (⟨#[c]⟩ : ByteArray)).data.toList = s.data.toList ++ [c] := by
  rw [ByteArray.data_append]; simp
theorem seven_list (s : ByteArray) : ((⟨#[55]⟩ : ByteArray) ++ s).data.toList = 55 :: s.data.toList := by
  rw [ByteArray.data_append]; simp

theorem word_yes {c : UInt8} (h : wordB c = true) : (97 ≤ c.toNat ∧ c.toNat ≤ 122) ∨ (65 ≤ c.toNat ∧ c.toNat ≤ 90) ∨ (48 ≤ c.toNat ∧ c.toNat ≤ 57) ∨ c.toNat = 95 := by
  unfold wordB digB at h
  simp at h
  omega
theorem word_no {c : UInt8} (h : wordB c = false) : ¬ ((97 ≤ c.toNat ∧ c.toNat ≤ 122) ∨ (65 ≤ c.toNat ∧ c.toNat ≤ 90) ∨ (48 ≤ c.toNat ∧ c.toNat ≤ 57) ∨ c.toNat = 95) := by
  unfold wordB digB at h
  simp at h
  omega
theorem below_one' (w : World) (o : Obj) : Below w.heap.size w (w.alloc o) := (Below.refl _ _).alloc (Nat.le_refl _) o
set_option maxHeartbeats 4000000 in
theorem NameGrows_walk (s : ByteArray) (c : UInt8) (w : World) (hs : s.size ≤ maxLen) (h : NStd w) : Calls Tryd.prog 6 #[.string s, .int .u8 (c.toNat : Int)] w (Good w) := by
  have hl : s.data.toList.length = s.size := by simp
  have R := Lib.hid (Right_any s w hs)
  have L := Lib.hid (lives_any w w h (Below.refl _ _))
  unfold maxLen at hs
  by_cases hb : 1000 < s.size
  · go_enter Tryd.func6, Tryd.ntmps6
    go_wp2_with fail
    refine L.out.mono ?_
    rintro e w' ⟨rfl, hb⟩
    have HB := Lib.hid hb
    clear hb
    go_wp2
    go_ret
    exact ⟨rfl, HB.out⟩
  · cases hn : nameB s.data.toList with
    | false =>
      rw [hn] at R
      clear hn
      go_enter Tryd.func6, Tryd.ntmps6
      go_wp2_with fail
      refine R.out.mono ?_
      rintro e w' ⟨rfl, rfl⟩
      go_wp2_with fail
      refine L.out.mono ?_
      rintro e w' ⟨rfl, hb⟩
      have HB := Lib.hid hb
      clear hb
      go_wp2
      go_ret
      exact ⟨rfl, HB.out⟩
    | true =>
      have R1 : Hid (∀ W, Calls Tryd.prog 7 #[.string (s ++ ⟨#[c]⟩)] W fun e w' => e = .returned (.bool (wordB c && decide (s.size < 64))) ∧ W = w') := Lib.hid (fun W => by
        have := Right_any (s ++ ⟨#[c]⟩) W (by rw [ByteArray.size_append]; show s.size + 1 ≤ maxLen; unfold maxLen; omega)
        rw [snoc_list, nameB_snoc c hn, hl] at this
        exact this)
      have R2 : Hid (∀ W, Calls Tryd.prog 7 #[.string (⟨#[55]⟩ ++ s)] W fun e w' => e = .returned (.bool false) ∧ W = w') := Lib.hid (fun W => by
        have := Right_any (⟨#[55]⟩ ++ s) W (by rw [ByteArray.size_append]; show 1 + s.size ≤ maxLen; unfold maxLen; omega)
        rw [seven_list, nameB_seven] at this
        exact this)
      rw [hn] at R
      have S0 := Lib.hid h
      have kc := conv_one w c
      have hc : c.toNat < 256 := c.toNat_lt
      clear hn h
      by_cases h64 : s.size < 64 <;> rcases Bool.eq_false_or_eq_true (wordB c) with hw | hw
      · rw [hw] at R1
        rw [decide_eq_true h64] at R1
        have hf := word_yes hw
        clear hw
        go_enter Tryd.func6, Tryd.ntmps6
        go_wp2_with fail
        refine R.out.mono ?_
        rintro e w' ⟨rfl, rfl⟩
        go_wp2_with fail
        all_goals first
          | (exfalso; omega)
          | (try rw [decide_eq_true (show (c.toNat : Int) ≤ 122 by omega)]
             try rw [decide_eq_false (show ¬ (c.toNat : Int) ≤ 122 by omega)]
             try rw [decide_eq_true (show (c.toNat : Int) ≤ 90 by omega)]
             try rw [decide_eq_false (show ¬ (c.toNat : Int) ≤ 90 by omega)]
             try rw [decide_eq_true (show (c.toNat : Int) ≤ 57 by omega)]
             try rw [decide_eq_false (show ¬ (c.toNat : Int) ≤ 57 by omega)]
             try rw [show ((c.toNat : Int) == 95) = false from beq_eq_false_iff_ne.2 (by omega)]
             try rw [show ((c.toNat : Int) == 95) = true from beq_iff_eq.2 (by omega)]
             refine (R1.out _).mono ?_
             rintro e w' ⟨rfl, rfl⟩
             go_wp2_with fail
             refine (R2.out _).mono ?_
             rintro e w' ⟨rfl, rfl⟩
             go_wp2_with fail
             refine (lives_any _ w (S0.out.on (below_one' w _)) (below_one' w _)).mono ?_
             rintro e w' ⟨rfl, hb⟩
             have HB := Lib.hid hb
             clear hb
             go_wp2
             go_ret
             first | exact ⟨rfl, HB.out⟩ | exact ⟨ret_bool (by simp <;> omega), HB.out⟩)
      · rw [hw] at R1
        rw [decide_eq_true h64] at R1
        have hf := word_no hw
        clear hw
        go_enter Tryd.func6, Tryd.ntmps6
        go_wp2_with fail
        refine R.out.mono ?_
        rintro e w' ⟨rfl, rfl⟩
        go_wp2_with fail
        all_goals first
          | (exfalso; omega)
          | (try rw [decide_eq_true (show (c.toNat : Int) ≤ 122 by omega)]
             try rw [decide_eq_false (show ¬ (c.toNat : Int) ≤ 122 by omega)]
             try rw [decide_eq_true (show (c.toNat : Int) ≤ 90 by omega)]
             try rw [decide_eq_false (show ¬ (c.toNat : Int) ≤ 90 by omega)]
             try rw [decide_eq_true (show (c.toNat : Int) ≤ 57 by omega)]
             try rw [decide_eq_false (show ¬ (c.toNat : Int) ≤ 57 by omega)]
             try rw [show ((c.toNat : Int) == 95) = false from beq_eq_false_iff_ne.2 (by omega)]
             try rw [show ((c.toNat : Int) == 95) = true from beq_iff_eq.2 (by omega)]
             refine (R1.out _).mono ?_
             rintro e w' ⟨rfl, rfl⟩
             go_wp2_with fail
             refine (R2.out _).mono ?_
             rintro e w' ⟨rfl, rfl⟩
             go_wp2_with fail
             refine (lives_any _ w (S0.out.on (below_one' w _)) (below_one' w _)).mono ?_
             rintro e w' ⟨rfl, hb⟩
             have HB := Lib.hid hb
             clear hb
             go_wp2
             go_ret
             first | exact ⟨rfl, HB.out⟩ | exact ⟨ret_bool (by simp <;> omega), HB.out⟩)
      · rw [hw] at R1
        rw [decide_eq_false h64] at R1
        have hf := word_yes hw
        clear hw
        go_enter Tryd.func6, Tryd.ntmps6
        go_wp2_with fail
        refine R.out.mono ?_
        rintro e w' ⟨rfl, rfl⟩
        go_wp2_with fail
        all_goals first
          | (exfalso; omega)
          | (try rw [decide_eq_true (show (c.toNat : Int) ≤ 122 by omega)]
             try rw [decide_eq_false (show ¬ (c.toNat : Int) ≤ 122 by omega)]
             try rw [decide_eq_true (show (c.toNat : Int) ≤ 90 by omega)]
             try rw [decide_eq_false (show ¬ (c.toNat : Int) ≤ 90 by omega)]
             try rw [decide_eq_true (show (c.toNat : Int) ≤ 57 by omega)]
             try rw [decide_eq_false (show ¬ (c.toNat : Int) ≤ 57 by omega)]
             try rw [show ((c.toNat : Int) == 95) = false from beq_eq_false_iff_ne.2 (by omega)]
             try rw [show ((c.toNat : Int) == 95) = true from beq_iff_eq.2 (by omega)]
             refine (R1.out _).mono ?_
             rintro e w' ⟨rfl, rfl⟩
             go_wp2_with fail
             refine (R2.out _).mono ?_
             rintro e w' ⟨rfl, rfl⟩
             go_wp2_with fail
             refine (lives_any _ w (S0.out.on (below_one' w _)) (below_one' w _)).mono ?_
             rintro e w' ⟨rfl, hb⟩
             have HB := Lib.hid hb
             clear hb
             go_wp2
             go_ret
             first | exact ⟨rfl, HB.out⟩ | exact ⟨ret_bool (by simp <;> omega), HB.out⟩)
      · rw [hw] at R1
        rw [decide_eq_false h64] at R1
        have hf := word_no hw
        clear hw
        go_enter Tryd.func6, Tryd.ntmps6
        go_wp2_with fail
        refine R.out.mono ?_
        rintro e w' ⟨rfl, rfl⟩
        go_wp2_with fail
        all_goals first
          | (exfalso; omega)
          | (try rw [decide_eq_true (show (c.toNat : Int) ≤ 122 by omega)]
             try rw [decide_eq_false (show ¬ (c.toNat : Int) ≤ 122 by omega)]
             try rw [decide_eq_true (show (c.toNat : Int) ≤ 90 by omega)]
             try rw [decide_eq_false (show ¬ (c.toNat : Int) ≤ 90 by omega)]
             try rw [decide_eq_true (show (c.toNat : Int) ≤ 57 by omega)]
             try rw [decide_eq_false (show ¬ (c.toNat : Int) ≤ 57 by omega)]
             try rw [show ((c.toNat : Int) == 95) = false from beq_eq_false_iff_ne.2 (by omega)]
             try rw [show ((c.toNat : Int) == 95) = true from beq_iff_eq.2 (by omega)]
             refine (R1.out _).mono ?_
             rintro e w' ⟨rfl, rfl⟩
             go_wp2_with fail
             refine (R2.out _).mono ?_
             rintro e w' ⟨rfl, rfl⟩
             go_wp2_with fail
             refine (lives_any _ w (S0.out.on (below_one' w _)) (below_one' w _)).mono ?_
             rintro e w' ⟨rfl, hb⟩
             have HB := Lib.hid hb
             clear hb
             go_wp2
             go_ret
             first | exact ⟨rfl, HB.out⟩ | exact ⟨ret_bool (by simp <;> omega), HB.out⟩)
end Go.Proofs.YtegiicbbmkjplaaDoor
