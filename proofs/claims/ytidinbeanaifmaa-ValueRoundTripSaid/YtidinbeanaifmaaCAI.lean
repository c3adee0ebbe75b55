/-
  Contracts of the code's and of the reference's functions, part AI, and what they lean on.
-/
import Derived.Test.YtidinbeanaifmaaCAH
import Derived.Test.YtidinbeanaifmaaCAD
import Derived.Test.YtidinbeanaifmaaCAA
import Derived.ProofKit
import Derived.OpenShut
import Derived.ShutString
import Derived.ChangeOld
import Derived.Below
namespace Go.Proofs.Ytidinbeanaifmaa
open Go.RowKit

theorem encI {k i : Int} {t : ByteArray} {its : List VT} {ks : List ByteArray} (h : k = 1 ∨ k = 2 ∨ k = 6) : (VT.mk k i t its ks).enc = Go.Proofs.Ytidinbeanaifmaa.enc k ++ Go.Proofs.Ytidinbeanaifmaa.enc i := by rw [VT.enc_mk, if_pos h]
theorem encTx {i : Int} {t : ByteArray} {its : List VT} {ks : List ByteArray} : (VT.mk 3 i t its ks).enc = Go.Proofs.Ytidinbeanaifmaa.enc 3 ++ encText t.data.toList := by rw [VT.enc_mk, if_neg (by omega), if_pos rfl]
theorem encN {i : Int} {t : ByteArray} {its : List VT} {ks : List ByteArray} : (VT.mk 0 i t its ks).enc = Go.Proofs.Ytidinbeanaifmaa.enc 0 := by rw [VT.enc_mk, if_neg (by omega), if_neg (by omega), if_neg (by omega), List.append_nil]
theorem encIt {k i : Int} {t : ByteArray} {its : List VT} {ks : List ByteArray} (h : k = 4 ∨ k = 5) : (VT.mk k i t its ks).enc = Go.Proofs.Ytidinbeanaifmaa.enc k ++ (Go.Proofs.Ytidinbeanaifmaa.enc (its.length : Nat) ++ encs (decide (k = 5)) its ks) := by
  rw [VT.enc_mk, if_neg (by omega), if_neg (by omega), if_pos h]

set_option maxRecDepth 100000 in
set_option maxHeartbeats 2000000 in
set_option linter.unusedVariables false in
theorem av_0 (m : Nat) (IH : Hid (EncUpto m)) (i : Int) (t : ByteArray) (its : List VT) (ks : List ByteArray) (A : Option Addr) (c : Nat) (A' : Option Addr) (c' : Nat) (w : World) (base n0 c0 : Nat) (A0 : Option Addr) (l : List UInt8)
    (hi : -9223372036854775808 ≤ i ∧ i ≤ 9223372036854775807) (hL : LiesL w (fun b => b < base) A 0 its) (hS : LiesS w (fun b => b < base) A' ks) (hkc : ks.length ≤ c') (hcm' : c' ≤ 9223372036854775807) (h1 : its.length ≤ c) (h2 : c ≤ 9223372036854775807) (hsz : sizes its ≤ m) (hw : alls okF its = true) (hf : okF (.mk 0 i t its ks) = true)
    (ho : w.ownsRow base 5 1 (.slice A0 n0 c0) n0 (l.map b8)) (hB : base ≤ w.heap.size) (hn : n0 + (VT.mk 0 i t its ks).enc.length ≤ 30000000000000) :
    Calls Try.prog 83 #[.slice A0 n0 c0, vag 0 i t A its.length c A' ks.length c'] w (App base (l ++ (VT.mk 0 i t its ks).enc) w) := by
  have HNN := Lib.hid hn
  obtain ⟨w1, hw1⟩ : ∃ w1, w1 = w.alloc (.cells #[.int .i64 0, .int .i64 i, .string t, .slice A its.length c, .slice A' ks.length c'] 26) := ⟨_, rfl⟩
  have P1 : Hid (Bk w1 w.heap.size 26 #[.int .i64 0, .int .i64 i, .string t, .slice A its.length c, .slice A' ks.length c']) := Lib.hid (by rw [hw1]; exact Bk.new _ _ _)
  have F1 : Hid (Frm base w w1) := Lib.hid (by rw [hw1]; exact Frm.of_below (below_one _ _) hB)
  have O1 := Lib.hid (ho.kept (grown_of_below (r := none) (hw1 ▸ below_one w _ : Below w.heap.size w w1)) (by cases h : (Value.slice A0 n0 c0).ownBlock <;> simp))
  have B1 := Lib.hid (Nat.le_trans hB F1.out.below.size)
  have LL := Lib.hid (own_len ho)
  have HA := Lib.hid (appendInt_v 0 O1.out B1.out (by omega) (by omega) (by omega))
  have HW := Lib.hid hw1
  have HE := Lib.hid (encN (i := i) (t := t) (its := its) (ks := ks))
  clear hL hS hw hf ho hB hn hw1
  unfold vag
  go_enter Try.func83, Try.ntmps83
  go_wp2_with fail
  rw [← HW.out]
  refine (HA.out).mono ?_
  rintro e w2 ⟨A2, n2, c2, rfl, hl2, O2, F2, _, _⟩
  have P2 := Lib.hid (F2.out.keep _ _ _ P1.out (by decide))
  have FF := Lib.hid (F1.out.trans F2.out)
  have B2 := Lib.hid (Nat.le_trans B1.out F2.out.below.size)
  have p0 := P2.out.cell 0
  have p1 := P2.out.cell 1
  have p2 := P2.out.cell 2
  have p3 := P2.out.cell 3
  have p4 := P2.out.cell 4
  have b8_ := own_bounds O2.out
  go_wp2
  go_ret
  exact ⟨A2, n2, c2, rfl, Lib.hid (by rw [HE.out]; exact hl2.out), Lib.hid (by rw [HE.out]; exact O2.out), FF, b8_.1, b8_.2⟩

set_option maxRecDepth 100000 in
set_option maxHeartbeats 2000000 in
set_option linter.unusedVariables false in
theorem av_1 (m : Nat) (IH : Hid (EncUpto m)) (i : Int) (t : ByteArray) (its : List VT) (ks : List ByteArray) (A : Option Addr) (c : Nat) (A' : Option Addr) (c' : Nat) (w : World) (base n0 c0 : Nat) (A0 : Option Addr) (l : List UInt8)
    (hi : -9223372036854775808 ≤ i ∧ i ≤ 9223372036854775807) (hL : LiesL w (fun b => b < base) A 0 its) (hS : LiesS w (fun b => b < base) A' ks) (hkc : ks.length ≤ c') (hcm' : c' ≤ 9223372036854775807) (h1 : its.length ≤ c) (h2 : c ≤ 9223372036854775807) (hsz : sizes its ≤ m) (hw : alls okF its = true) (hf : okF (.mk 1 i t its ks) = true)
    (ho : w.ownsRow base 5 1 (.slice A0 n0 c0) n0 (l.map b8)) (hB : base ≤ w.heap.size) (hn : n0 + (VT.mk 1 i t its ks).enc.length ≤ 30000000000000) :
    Calls Try.prog 83 #[.slice A0 n0 c0, vag 1 i t A its.length c A' ks.length c'] w (App base (l ++ (VT.mk 1 i t its ks).enc) w) := by
  have HNN := Lib.hid hn
  obtain ⟨w1, hw1⟩ : ∃ w1, w1 = w.alloc (.cells #[.int .i64 1, .int .i64 i, .string t, .slice A its.length c, .slice A' ks.length c'] 26) := ⟨_, rfl⟩
  have P1 : Hid (Bk w1 w.heap.size 26 #[.int .i64 1, .int .i64 i, .string t, .slice A its.length c, .slice A' ks.length c']) := Lib.hid (by rw [hw1]; exact Bk.new _ _ _)
  have F1 : Hid (Frm base w w1) := Lib.hid (by rw [hw1]; exact Frm.of_below (below_one _ _) hB)
  have O1 := Lib.hid (ho.kept (grown_of_below (r := none) (hw1 ▸ below_one w _ : Below w.heap.size w w1)) (by cases h : (Value.slice A0 n0 c0).ownBlock <;> simp))
  have B1 := Lib.hid (Nat.le_trans hB F1.out.below.size)
  have LL := Lib.hid (own_len ho)
  have HA := Lib.hid (appendInt_v 1 O1.out B1.out (by omega) (by omega) (by omega))
  have HW := Lib.hid hw1
  have HE := Lib.hid (encI (k := 1) (i := i) (t := t) (its := its) (ks := ks) (by omega))
  have HI := Lib.hid hi
  clear hL hS hw hf ho hB hn hw1 hi
  unfold vag
  go_enter Try.func83, Try.ntmps83
  go_wp2_with fail
  rw [← HW.out]
  refine (HA.out).mono ?_
  rintro e w2 ⟨A2, n2, c2, rfl, hl2, O2, F2, _, _⟩
  have P2 := Lib.hid (F2.out.keep _ _ _ P1.out (by decide))
  have FF := Lib.hid (F1.out.trans F2.out)
  have B2 := Lib.hid (Nat.le_trans B1.out F2.out.below.size)
  have p0 := P2.out.cell 0
  have p1 := P2.out.cell 1
  have p2 := P2.out.cell 2
  have p3 := P2.out.cell 3
  have p4 := P2.out.cell 4
  have HC := Lib.hid (appendInt_v i O2.out B2.out (by
    have h3 := hl2.out
    have h4 := HNN.out
    have h5 := LL.out
    rw [HE.out, List.length_append] at h4
    rw [List.length_append] at h3
    omega) HI.out.1 HI.out.2)
  go_wp2_with fail
  refine (HC.out).mono ?_
  rintro e w3 ⟨A3, n3, c3, rfl, hl3, O3, F3, g1, g2⟩
  have FX := Lib.hid (FF.out.trans F3.out)
  clear p0 p1 p2 p3 p4
  go_wp2
  go_ret
  exact ⟨A3, n3, c3, rfl, Lib.hid (by rw [HE.out, ← List.append_assoc]; exact hl3.out), Lib.hid (by rw [HE.out, ← List.append_assoc]; exact O3.out), FX, g1, g2⟩

set_option maxRecDepth 100000 in
set_option maxHeartbeats 2000000 in
set_option linter.unusedVariables false in
theorem av_2 (m : Nat) (IH : Hid (EncUpto m)) (i : Int) (t : ByteArray) (its : List VT) (ks : List ByteArray) (A : Option Addr) (c : Nat) (A' : Option Addr) (c' : Nat) (w : World) (base n0 c0 : Nat) (A0 : Option Addr) (l : List UInt8)
    (hi : -9223372036854775808 ≤ i ∧ i ≤ 9223372036854775807) (hL : LiesL w (fun b => b < base) A 0 its) (hS : LiesS w (fun b => b < base) A' ks) (hkc : ks.length ≤ c') (hcm' : c' ≤ 9223372036854775807) (h1 : its.length ≤ c) (h2 : c ≤ 9223372036854775807) (hsz : sizes its ≤ m) (hw : alls okF its = true) (hf : okF (.mk 2 i t its ks) = true)
    (ho : w.ownsRow base 5 1 (.slice A0 n0 c0) n0 (l.map b8)) (hB : base ≤ w.heap.size) (hn : n0 + (VT.mk 2 i t its ks).enc.length ≤ 30000000000000) :
    Calls Try.prog 83 #[.slice A0 n0 c0, vag 2 i t A its.length c A' ks.length c'] w (App base (l ++ (VT.mk 2 i t its ks).enc) w) := by
  have HNN := Lib.hid hn
  obtain ⟨w1, hw1⟩ : ∃ w1, w1 = w.alloc (.cells #[.int .i64 2, .int .i64 i, .string t, .slice A its.length c, .slice A' ks.length c'] 26) := ⟨_, rfl⟩
  have P1 : Hid (Bk w1 w.heap.size 26 #[.int .i64 2, .int .i64 i, .string t, .slice A its.length c, .slice A' ks.length c']) := Lib.hid (by rw [hw1]; exact Bk.new _ _ _)
  have F1 : Hid (Frm base w w1) := Lib.hid (by rw [hw1]; exact Frm.of_below (below_one _ _) hB)
  have O1 := Lib.hid (ho.kept (grown_of_below (r := none) (hw1 ▸ below_one w _ : Below w.heap.size w w1)) (by cases h : (Value.slice A0 n0 c0).ownBlock <;> simp))
  have B1 := Lib.hid (Nat.le_trans hB F1.out.below.size)
  have LL := Lib.hid (own_len ho)
  have HA := Lib.hid (appendInt_v 2 O1.out B1.out (by omega) (by omega) (by omega))
  have HW := Lib.hid hw1
  have HE := Lib.hid (encI (k := 2) (i := i) (t := t) (its := its) (ks := ks) (by omega))
  have HI := Lib.hid hi
  clear hL hS hw hf ho hB hn hw1 hi
  unfold vag
  go_enter Try.func83, Try.ntmps83
  go_wp2_with fail
  rw [← HW.out]
  refine (HA.out).mono ?_
  rintro e w2 ⟨A2, n2, c2, rfl, hl2, O2, F2, _, _⟩
  have P2 := Lib.hid (F2.out.keep _ _ _ P1.out (by decide))
  have FF := Lib.hid (F1.out.trans F2.out)
  have B2 := Lib.hid (Nat.le_trans B1.out F2.out.below.size)
  have p0 := P2.out.cell 0
  have p1 := P2.out.cell 1
  have p2 := P2.out.cell 2
  have p3 := P2.out.cell 3
  have p4 := P2.out.cell 4
  have HC := Lib.hid (appendInt_v i O2.out B2.out (by
    have h3 := hl2.out
    have h4 := HNN.out
    have h5 := LL.out
    rw [HE.out, List.length_append] at h4
    rw [List.length_append] at h3
    omega) HI.out.1 HI.out.2)
  go_wp2_with fail
  refine (HC.out).mono ?_
  rintro e w3 ⟨A3, n3, c3, rfl, hl3, O3, F3, g1, g2⟩
  have FX := Lib.hid (FF.out.trans F3.out)
  clear p0 p1 p2 p3 p4
  go_wp2
  go_ret
  exact ⟨A3, n3, c3, rfl, Lib.hid (by rw [HE.out, ← List.append_assoc]; exact hl3.out), Lib.hid (by rw [HE.out, ← List.append_assoc]; exact O3.out), FX, g1, g2⟩

set_option maxRecDepth 100000 in
set_option maxHeartbeats 2000000 in
set_option linter.unusedVariables false in
theorem av_3 (m : Nat) (IH : Hid (EncUpto m)) (i : Int) (t : ByteArray) (its : List VT) (ks : List ByteArray) (A : Option Addr) (c : Nat) (A' : Option Addr) (c' : Nat) (w : World) (base n0 c0 : Nat) (A0 : Option Addr) (l : List UInt8)
    (hi : -9223372036854775808 ≤ i ∧ i ≤ 9223372036854775807) (hL : LiesL w (fun b => b < base) A 0 its) (hS : LiesS w (fun b => b < base) A' ks) (hkc : ks.length ≤ c') (hcm' : c' ≤ 9223372036854775807) (h1 : its.length ≤ c) (h2 : c ≤ 9223372036854775807) (hsz : sizes its ≤ m) (hw : alls okF its = true) (hf : okF (.mk 3 i t its ks) = true)
    (ho : w.ownsRow base 5 1 (.slice A0 n0 c0) n0 (l.map b8)) (hB : base ≤ w.heap.size) (hn : n0 + (VT.mk 3 i t its ks).enc.length ≤ 30000000000000) :
    Calls Try.prog 83 #[.slice A0 n0 c0, vag 3 i t A its.length c A' ks.length c'] w (App base (l ++ (VT.mk 3 i t its ks).enc) w) := by
  have HNN := Lib.hid hn
  obtain ⟨w1, hw1⟩ : ∃ w1, w1 = w.alloc (.cells #[.int .i64 3, .int .i64 i, .string t, .slice A its.length c, .slice A' ks.length c'] 26) := ⟨_, rfl⟩
  have P1 : Hid (Bk w1 w.heap.size 26 #[.int .i64 3, .int .i64 i, .string t, .slice A its.length c, .slice A' ks.length c']) := Lib.hid (by rw [hw1]; exact Bk.new _ _ _)
  have F1 : Hid (Frm base w w1) := Lib.hid (by rw [hw1]; exact Frm.of_below (below_one _ _) hB)
  have O1 := Lib.hid (ho.kept (grown_of_below (r := none) (hw1 ▸ below_one w _ : Below w.heap.size w w1)) (by cases h : (Value.slice A0 n0 c0).ownBlock <;> simp))
  have B1 := Lib.hid (Nat.le_trans hB F1.out.below.size)
  have LL := Lib.hid (own_len ho)
  have HA := Lib.hid (appendInt_v 3 O1.out B1.out (by omega) (by omega) (by omega))
  have HW := Lib.hid hw1
  have HE := Lib.hid (encTx (i := i) (t := t) (its := its) (ks := ks))
  clear hL hS hw hf ho hB hn hw1
  unfold vag
  go_enter Try.func83, Try.ntmps83
  go_wp2_with fail
  rw [← HW.out]
  refine (HA.out).mono ?_
  rintro e w2 ⟨A2, n2, c2, rfl, hl2, O2, F2, _, _⟩
  have P2 := Lib.hid (F2.out.keep _ _ _ P1.out (by decide))
  have FF := Lib.hid (F1.out.trans F2.out)
  have B2 := Lib.hid (Nat.le_trans B1.out F2.out.below.size)
  have p0 := P2.out.cell 0
  have p1 := P2.out.cell 1
  have p2 := P2.out.cell 2
  have p3 := P2.out.cell 3
  have p4 := P2.out.cell 4
  have htx := encText_len t.data.toList
  have hts : t.data.toList.length = t.size := rfl
  have HC := Lib.hid (appendText_v t O2.out B2.out (by
    have h3 := hl2.out
    have h4 := HNN.out
    have h5 := LL.out
    rw [HE.out, List.length_append] at h4
    rw [List.length_append] at h3
    omega) (by
    have h4 := HNN.out
    rw [HE.out, List.length_append] at h4
    omega))
  clear htx hts
  go_wp2_with fail
  refine (HC.out).mono ?_
  rintro e w3 ⟨A3, n3, c3, rfl, hl3, O3, F3, g1, g2⟩
  have FX := Lib.hid (FF.out.trans F3.out)
  clear p0 p1 p2 p3 p4
  go_wp2
  go_ret
  exact ⟨A3, n3, c3, rfl, Lib.hid (by rw [HE.out, ← List.append_assoc]; exact hl3.out), Lib.hid (by rw [HE.out, ← List.append_assoc]; exact O3.out), FX, g1, g2⟩

set_option maxRecDepth 100000 in
set_option maxHeartbeats 2000000 in
set_option linter.unusedVariables false in
theorem av_4 (m : Nat) (IH : Hid (EncUpto m)) (i : Int) (t : ByteArray) (its : List VT) (ks : List ByteArray) (A : Option Addr) (c : Nat) (A' : Option Addr) (c' : Nat) (w : World) (base n0 c0 : Nat) (A0 : Option Addr) (l : List UInt8)
    (hi : -9223372036854775808 ≤ i ∧ i ≤ 9223372036854775807) (hL : LiesL w (fun b => b < base) A 0 its) (hS : LiesS w (fun b => b < base) A' ks) (hkc : ks.length ≤ c') (hcm' : c' ≤ 9223372036854775807) (h1 : its.length ≤ c) (h2 : c ≤ 9223372036854775807) (hsz : sizes its ≤ m) (hw : alls okF its = true) (hf : okF (.mk 4 i t its ks) = true)
    (ho : w.ownsRow base 5 1 (.slice A0 n0 c0) n0 (l.map b8)) (hB : base ≤ w.heap.size) (hn : n0 + (VT.mk 4 i t its ks).enc.length ≤ 30000000000000) :
    Calls Try.prog 83 #[.slice A0 n0 c0, vag 4 i t A its.length c A' ks.length c'] w (App base (l ++ (VT.mk 4 i t its ks).enc) w) := by
  have HNN := Lib.hid hn
  obtain ⟨w1, hw1⟩ : ∃ w1, w1 = w.alloc (.cells #[.int .i64 4, .int .i64 i, .string t, .slice A its.length c, .slice A' ks.length c'] 26) := ⟨_, rfl⟩
  have P1 : Hid (Bk w1 w.heap.size 26 #[.int .i64 4, .int .i64 i, .string t, .slice A its.length c, .slice A' ks.length c']) := Lib.hid (by rw [hw1]; exact Bk.new _ _ _)
  have F1 : Hid (Frm base w w1) := Lib.hid (by rw [hw1]; exact Frm.of_below (below_one _ _) hB)
  have O1 := Lib.hid (ho.kept (grown_of_below (r := none) (hw1 ▸ below_one w _ : Below w.heap.size w w1)) (by cases h : (Value.slice A0 n0 c0).ownBlock <;> simp))
  have B1 := Lib.hid (Nat.le_trans hB F1.out.below.size)
  have LL := Lib.hid (own_len ho)
  have HA := Lib.hid (appendInt_v 4 O1.out B1.out (by omega) (by omega) (by omega))
  have HW := Lib.hid hw1
  have HE := Lib.hid (encIt (k := 4) (i := i) (t := t) (its := its) (ks := ks) (by omega))
  have HCC := Lib.hid (fun (W : World) (hb : Below base w W) (n2 c2 : Nat) (A2 : Option Addr) (l2 : List UInt8) (h5 : W.ownsRow base 5 1 (.slice A2 n2 c2) n2 (l2.map b8)) (h6 : base ≤ W.heap.size) (h7 : n2 + (Go.Proofs.Ytidinbeanaifmaa.enc (its.length : Nat) ++ encs false its ks).length ≤ 30000000000000) =>
    encItems_4 m IH i t its ks A c A' c' W base n2 c2 A2 l2 (hL.keep (fun p hp => hb.cell hp) (fun _ h => h)) h1 h2 hsz hw h5 h6 h7)
  clear hL hS hw hf ho hB hn hw1
  unfold vag
  go_enter Try.func83, Try.ntmps83
  go_wp2_with fail
  rw [← HW.out]
  refine (HA.out).mono ?_
  rintro e w2 ⟨A2, n2, c2, rfl, hl2, O2, F2, _, _⟩
  have P2 := Lib.hid (F2.out.keep _ _ _ P1.out (by decide))
  have FF := Lib.hid (F1.out.trans F2.out)
  have B2 := Lib.hid (Nat.le_trans B1.out F2.out.below.size)
  have p0 := P2.out.cell 0
  have p1 := P2.out.cell 1
  have p2 := P2.out.cell 2
  have p3 := P2.out.cell 3
  have p4 := P2.out.cell 4
  have HC := Lib.hid (HCC.out w2 FF.out.below n2 c2 A2 _ O2.out B2.out (by
    have h3 := hl2.out
    have h4 := HNN.out
    have h5 := LL.out
    rw [HE.out, List.length_append] at h4
    rw [List.length_append] at h3
    change n0 + ((Go.Proofs.Ytidinbeanaifmaa.enc 4).length + (Go.Proofs.Ytidinbeanaifmaa.enc (its.length : Nat) ++ encs false its ks).length) ≤ _ at h4
    omega))
  unfold vag at HC
  go_wp2_with fail
  refine (HC.out).mono ?_
  rintro e w3 ⟨A3, n3, c3, rfl, hl3, O3, F3, g1, g2⟩
  have FX := Lib.hid (FF.out.trans F3.out)
  clear p0 p1 p2 p3 p4
  go_wp2
  go_ret
  exact ⟨A3, n3, c3, rfl, Lib.hid (by rw [HE.out, ← List.append_assoc]; exact hl3.out), Lib.hid (by rw [HE.out, ← List.append_assoc]; exact O3.out), FX, g1, g2⟩

set_option maxRecDepth 100000 in
set_option maxHeartbeats 2000000 in
set_option linter.unusedVariables false in
theorem av_5 (m : Nat) (IH : Hid (EncUpto m)) (i : Int) (t : ByteArray) (its : List VT) (ks : List ByteArray) (A : Option Addr) (c : Nat) (A' : Option Addr) (c' : Nat) (w : World) (base n0 c0 : Nat) (A0 : Option Addr) (l : List UInt8)
    (hi : -9223372036854775808 ≤ i ∧ i ≤ 9223372036854775807) (hL : LiesL w (fun b => b < base) A 0 its) (hS : LiesS w (fun b => b < base) A' ks) (hkc : ks.length ≤ c') (hcm' : c' ≤ 9223372036854775807) (h1 : its.length ≤ c) (h2 : c ≤ 9223372036854775807) (hsz : sizes its ≤ m) (hw : alls okF its = true) (hf : okF (.mk 5 i t its ks) = true)
    (ho : w.ownsRow base 5 1 (.slice A0 n0 c0) n0 (l.map b8)) (hB : base ≤ w.heap.size) (hn : n0 + (VT.mk 5 i t its ks).enc.length ≤ 30000000000000) :
    Calls Try.prog 83 #[.slice A0 n0 c0, vag 5 i t A its.length c A' ks.length c'] w (App base (l ++ (VT.mk 5 i t its ks).enc) w) := by
  have HNN := Lib.hid hn
  obtain ⟨w1, hw1⟩ : ∃ w1, w1 = w.alloc (.cells #[.int .i64 5, .int .i64 i, .string t, .slice A its.length c, .slice A' ks.length c'] 26) := ⟨_, rfl⟩
  have P1 : Hid (Bk w1 w.heap.size 26 #[.int .i64 5, .int .i64 i, .string t, .slice A its.length c, .slice A' ks.length c']) := Lib.hid (by rw [hw1]; exact Bk.new _ _ _)
  have F1 : Hid (Frm base w w1) := Lib.hid (by rw [hw1]; exact Frm.of_below (below_one _ _) hB)
  have O1 := Lib.hid (ho.kept (grown_of_below (r := none) (hw1 ▸ below_one w _ : Below w.heap.size w w1)) (by cases h : (Value.slice A0 n0 c0).ownBlock <;> simp))
  have B1 := Lib.hid (Nat.le_trans hB F1.out.below.size)
  have LL := Lib.hid (own_len ho)
  have HA := Lib.hid (appendInt_v 5 O1.out B1.out (by omega) (by omega) (by omega))
  have HW := Lib.hid hw1
  have HE := Lib.hid (encIt (k := 5) (i := i) (t := t) (its := its) (ks := ks) (by omega))
  have HCC := Lib.hid (fun (W : World) (hb : Below base w W) (n2 c2 : Nat) (A2 : Option Addr) (l2 : List UInt8) (h5 : W.ownsRow base 5 1 (.slice A2 n2 c2) n2 (l2.map b8)) (h6 : base ≤ W.heap.size) (h7 : n2 + (Go.Proofs.Ytidinbeanaifmaa.enc (its.length : Nat) ++ encs true its ks).length ≤ 30000000000000) =>
    encItems_5 m IH i t its ks A c A' c' W base n2 c2 A2 l2 (hL.keep (fun p hp => hb.cell hp) (fun _ h => h)) (hS.keep (fun p hp => hb.cell hp) (fun _ h => h)) (wf_map hf).2.2 hkc hcm' h1 h2 hsz hw h5 h6 h7)
  clear hL hS hw hf ho hB hn hw1
  unfold vag
  go_enter Try.func83, Try.ntmps83
  go_wp2_with fail
  rw [← HW.out]
  refine (HA.out).mono ?_
  rintro e w2 ⟨A2, n2, c2, rfl, hl2, O2, F2, _, _⟩
  have P2 := Lib.hid (F2.out.keep _ _ _ P1.out (by decide))
  have FF := Lib.hid (F1.out.trans F2.out)
  have B2 := Lib.hid (Nat.le_trans B1.out F2.out.below.size)
  have p0 := P2.out.cell 0
  have p1 := P2.out.cell 1
  have p2 := P2.out.cell 2
  have p3 := P2.out.cell 3
  have p4 := P2.out.cell 4
  have HC := Lib.hid (HCC.out w2 FF.out.below n2 c2 A2 _ O2.out B2.out (by
    have h3 := hl2.out
    have h4 := HNN.out
    have h5 := LL.out
    rw [HE.out, List.length_append] at h4
    rw [List.length_append] at h3
    change n0 + ((Go.Proofs.Ytidinbeanaifmaa.enc 5).length + (Go.Proofs.Ytidinbeanaifmaa.enc (its.length : Nat) ++ encs true its ks).length) ≤ _ at h4
    omega))
  unfold vag at HC
  go_wp2_with fail
  refine (HC.out).mono ?_
  rintro e w3 ⟨A3, n3, c3, rfl, hl3, O3, F3, g1, g2⟩
  have FX := Lib.hid (FF.out.trans F3.out)
  clear p0 p1 p2 p3 p4
  go_wp2
  go_ret
  exact ⟨A3, n3, c3, rfl, Lib.hid (by rw [HE.out, ← List.append_assoc]; exact hl3.out), Lib.hid (by rw [HE.out, ← List.append_assoc]; exact O3.out), FX, g1, g2⟩

set_option maxRecDepth 100000 in
set_option maxHeartbeats 2000000 in
set_option linter.unusedVariables false in
theorem av_6 (m : Nat) (IH : Hid (EncUpto m)) (i : Int) (t : ByteArray) (its : List VT) (ks : List ByteArray) (A : Option Addr) (c : Nat) (A' : Option Addr) (c' : Nat) (w : World) (base n0 c0 : Nat) (A0 : Option Addr) (l : List UInt8)
    (hi : -9223372036854775808 ≤ i ∧ i ≤ 9223372036854775807) (hL : LiesL w (fun b => b < base) A 0 its) (hS : LiesS w (fun b => b < base) A' ks) (hkc : ks.length ≤ c') (hcm' : c' ≤ 9223372036854775807) (h1 : its.length ≤ c) (h2 : c ≤ 9223372036854775807) (hsz : sizes its ≤ m) (hw : alls okF its = true) (hf : okF (.mk 6 i t its ks) = true)
    (ho : w.ownsRow base 5 1 (.slice A0 n0 c0) n0 (l.map b8)) (hB : base ≤ w.heap.size) (hn : n0 + (VT.mk 6 i t its ks).enc.length ≤ 30000000000000) :
    Calls Try.prog 83 #[.slice A0 n0 c0, vag 6 i t A its.length c A' ks.length c'] w (App base (l ++ (VT.mk 6 i t its ks).enc) w) := by
  have HNN := Lib.hid hn
  obtain ⟨w1, hw1⟩ : ∃ w1, w1 = w.alloc (.cells #[.int .i64 6, .int .i64 i, .string t, .slice A its.length c, .slice A' ks.length c'] 26) := ⟨_, rfl⟩
  have P1 : Hid (Bk w1 w.heap.size 26 #[.int .i64 6, .int .i64 i, .string t, .slice A its.length c, .slice A' ks.length c']) := Lib.hid (by rw [hw1]; exact Bk.new _ _ _)
  have F1 : Hid (Frm base w w1) := Lib.hid (by rw [hw1]; exact Frm.of_below (below_one _ _) hB)
  have O1 := Lib.hid (ho.kept (grown_of_below (r := none) (hw1 ▸ below_one w _ : Below w.heap.size w w1)) (by cases h : (Value.slice A0 n0 c0).ownBlock <;> simp))
  have B1 := Lib.hid (Nat.le_trans hB F1.out.below.size)
  have LL := Lib.hid (own_len ho)
  have HA := Lib.hid (appendInt_v 6 O1.out B1.out (by omega) (by omega) (by omega))
  have HW := Lib.hid hw1
  have HE := Lib.hid (encI (k := 6) (i := i) (t := t) (its := its) (ks := ks) (by omega))
  have HI := Lib.hid hi
  clear hL hS hw hf ho hB hn hw1 hi
  unfold vag
  go_enter Try.func83, Try.ntmps83
  go_wp2_with fail
  rw [← HW.out]
  refine (HA.out).mono ?_
  rintro e w2 ⟨A2, n2, c2, rfl, hl2, O2, F2, _, _⟩
  have P2 := Lib.hid (F2.out.keep _ _ _ P1.out (by decide))
  have FF := Lib.hid (F1.out.trans F2.out)
  have B2 := Lib.hid (Nat.le_trans B1.out F2.out.below.size)
  have p0 := P2.out.cell 0
  have p1 := P2.out.cell 1
  have p2 := P2.out.cell 2
  have p3 := P2.out.cell 3
  have p4 := P2.out.cell 4
  have HC := Lib.hid (appendInt_v i O2.out B2.out (by
    have h3 := hl2.out
    have h4 := HNN.out
    have h5 := LL.out
    rw [HE.out, List.length_append] at h4
    rw [List.length_append] at h3
    omega) HI.out.1 HI.out.2)
  go_wp2_with fail
  refine (HC.out).mono ?_
  rintro e w3 ⟨A3, n3, c3, rfl, hl3, O3, F3, g1, g2⟩
  have FX := Lib.hid (FF.out.trans F3.out)
  clear p0 p1 p2 p3 p4
  go_wp2
  go_ret
  exact ⟨A3, n3, c3, rfl, Lib.hid (by rw [HE.out, ← List.append_assoc]; exact hl3.out), Lib.hid (by rw [HE.out, ← List.append_assoc]; exact O3.out), FX, g1, g2⟩

theorem valEnc_all (m : Nat) : EncUpto m := by
  induction m with
  | zero => intro x _ _ _ _ _ _ _ h; have := size_pos x; omega
  | succ m ih =>
    intro x w v base n c A l hsz hw hv ho hB hn
    have IH := Lib.hid ih
    obtain ⟨k, i, t, its, ks⟩ := x
    obtain ⟨A1, c1, A', c', rfl, _, hi, _, h1, h2, hL, h3, h4, hS⟩ := hv.open
    rw [VT.size_mk] at hsz
    rw [VT.all_mk, Bool.and_eq_true] at hw
    have hk := wf_kind hw.1
    obtain rfl | rfl | rfl | rfl | rfl | rfl | rfl : k = 0 ∨ k = 1 ∨ k = 2 ∨ k = 3 ∨ k = 4 ∨ k = 5 ∨ k = 6 := by omega
    · exact av_0 m IH i t its ks A1 c1 A' c' w base n c A l hi hL hS h3 h4 h1 h2 (by omega) hw.2 hw.1 ho hB hn
    · exact av_1 m IH i t its ks A1 c1 A' c' w base n c A l hi hL hS h3 h4 h1 h2 (by omega) hw.2 hw.1 ho hB hn
    · exact av_2 m IH i t its ks A1 c1 A' c' w base n c A l hi hL hS h3 h4 h1 h2 (by omega) hw.2 hw.1 ho hB hn
    · exact av_3 m IH i t its ks A1 c1 A' c' w base n c A l hi hL hS h3 h4 h1 h2 (by omega) hw.2 hw.1 ho hB hn
    · exact av_4 m IH i t its ks A1 c1 A' c' w base n c A l hi hL hS h3 h4 h1 h2 (by omega) hw.2 hw.1 ho hB hn
    · exact av_5 m IH i t its ks A1 c1 A' c' w base n c A l hi hL hS h3 h4 h1 h2 (by omega) hw.2 hw.1 ho hB hn
    · exact av_6 m IH i t its ks A1 c1 A' c' w base n c A l hi hL hS h3 h4 h1 h2 (by omega) hw.2 hw.1 ho hB hn

/-- the encoding of a well-formed value, and nothing of another one -/
def encOf (x : VT) : List UInt8 := if x.wf = true then x.enc else []
theorem encOf_yes {x : VT} (h : x.wf = true) : encOf x = x.enc := by unfold encOf; rw [if_pos h]
theorem encOf_no {x : VT} (h : x.wf = false) : encOf x = [] := by unfold encOf; rw [h]; rfl

set_option maxRecDepth 100000 in
set_option maxHeartbeats 2000000 in
theorem valEncode_any {A : Option Addr} {n c B : Nat} {l : List UInt8} {x : VT} {v : Value} {w : World} (hr : Rb w B A n l) (hB : B ≤ w.heap.size) (hv : Lies w (Lo w) x v) (hn : n + x.enc.length ≤ 30000000000000) :
    Calls Try.prog 46 #[.slice A n c, v] w (OwnRes w (l ++ encOf x)) := by
  obtain ⟨iB, hiB, hzB, hsB, hbB⟩ := info_parts Try.infob
  have HT := Lib.hid (fun (w' : World) (hb : Below w.heap.size w w') => wf_any (hv.below hb))
  have HE := Lib.hid (fun (w' : World) (hb : Below w.heap.size w w') (hx : x.all okF = true) (n2 c2 : Nat) (A2 : Option Addr) (l2 : List UInt8) (h5 : w'.ownsRow w.heap.size 5 1 (.slice A2 n2 c2) n2 (l2.map b8)) (h7 : n2 + x.enc.length ≤ 30000000000000) =>
    valEnc_all x.size x w' v w.heap.size n2 c2 A2 l2 (Nat.le_refl _) hx (hv.keep (fun p hp => hb.cell hp) (fun _ h => h)) h5 hb.size h7)
  have HY := Lib.hid (encOf_yes (x := x))
  have HN := Lib.hid (encOf_no (x := x))
  have HR := Lib.hid hr
  have HLN := Lib.hid hn
  have HBN := Lib.hid hB
  obtain ⟨k, i, t, its, ks⟩ := x
  obtain ⟨A1, c1, A', c', rfl, _, _, _, _, _, _, _, _, _⟩ := hv.open
  have hnb : n ≤ 30000000000000 := by omega
  clear hv hr hn
  generalize hx : VT.mk k i t its ks = x at *
  clear hx
  unfold VT.wf at *
  generalize hb : x.all okF = b at *
  have HBE := Lib.hid hb
  clear hb
  obtain ⟨w1, hw1⟩ : ∃ w1, w1 = w.alloc (.cells #[.int .i64 k, .int .i64 i, .string t, .slice A1 its.length c1, .slice A' ks.length c'] 26) := ⟨_, rfl⟩
  have P1 : Hid (Bk w1 w.heap.size 26 #[.int .i64 k, .int .i64 i, .string t, .slice A1 its.length c1, .slice A' ks.length c']) := Lib.hid (by rw [hw1]; exact Bk.new _ _ _)
  have B1 : Hid (Below w.heap.size w w1) := Lib.hid (by rw [hw1]; exact below_one _ _)
  have HW := Lib.hid hw1
  clear hw1 hB
  unfold vag at *
  go_enter Try.func46, Try.ntmps46
  go_wp2_with (at_make; rw [← HW.out]; refine wpList_make_own _ rfl _ _ 50 rfl w.heap.size 5 iB (.int .u8 0) 1 Try.underlying50 hiB hzB hsB _ _ _ n rfl rfl ?_ ?_ ?_ ?_ ?_)
  · rfl
  · rw [hbB]; omega
  · unfold maxLen; omega
  · exact B1.out.size
  · intro w2 hown hg
    have H2 := Lib.hid hown
    have B2 := Lib.hid (B1.out.grown hg B1.out.size (fun k hk => by cases hk))
    have P2 := Lib.hid (P1.out.grown hg (by simp))
    clear hown hg
    go_wp2_with (at_builtin; refine wpList_append_b8 rfl _ _ 50 rfl w.heap.size 5 iB (.int .u8 0) Try.underlying50 hiB hzB hsB hbB rfl _ 0 [] rfl H2.out B A n c l rfl (HR.out.below (B2.out.mono HBN.out)) ?_ ?_ ?_)
    · omega
    · exact B2.out.size
    · intro v3 w3 hown hg
      have hown' : w3.ownsRow w.heap.size 5 1 v3 n (l.map b8) := by simpa using hown
      obtain ⟨A3, c3, rfl, g1, g2⟩ := own_form hown'
      have O3 := Lib.hid hown'
      have B3 := Lib.hid (B2.out.grown hg B2.out.size (fun k hk => (H2.out.lt k hk).1))
      have FR3 := Lib.hid (Frm.of_grown hg H2.out B2.out.size)
      have P3 := Lib.hid (FR3.out.keep _ _ _ P2.out (by decide))
      have p0 := P3.out.cell 0
      have p1 := P3.out.cell 1
      have p2 := P3.out.cell 2
      have p3 := P3.out.cell 3
      have p4 := P3.out.cell 4
      have T3 := Lib.hid (HT.out w3 B3.out)
      clear hown hown' hg
      go_wp2_with fail
      refine (T3.out).mono ?_
      rintro e w4 ⟨rfl, hb⟩
      have O4 := Lib.hid (O3.out.kept (grown_of_below (r := none) hb) (by cases h : (Value.slice A3 n c3).ownBlock <;> simp))
      have B4 := Lib.hid (B3.out.trans (hb.mono B3.out.size))
      have P4 := Lib.hid (P3.out.below hb P3.out.lt)
      clear hb p0 p1 p2 p3 p4
      cases b with
      | false =>
        have R := Lib.hid (HN.out rfl)
        clear HN HY HE HT T3
        go_wp2
        go_ret
        exact ⟨_, rfl, by rw [R.out, List.append_nil]; have := own_len O4.out; rw [this]; exact O4.out, B4.out⟩
      | true =>
        have R := Lib.hid (HY.out rfl)
        have E4 := Lib.hid (HE.out w4 B4.out rfl n c3 A3 l O4.out HLN.out)
        have p0 := P4.out.cell 0
        have p1 := P4.out.cell 1
        have p2 := P4.out.cell 2
        have p3 := P4.out.cell 3
        have p4 := P4.out.cell 4
        clear HN HY HE HT T3
        go_wp2_with fail
        refine (E4.out).mono ?_
        rintro e w5 ⟨A5, n5, c5, rfl, hl5, O5, F5, _, _⟩
        have B5 := Lib.hid (B4.out.trans F5.out.below)
        clear p0 p1 p2 p3 p4
        go_wp2
        go_ret
        exact ⟨_, rfl, by rw [R.out, hl5.out]; exact O5.out, B5.out⟩
end Go.Proofs.Ytidinbeanaifmaa
namespace Go.Proofs.Ytidinbeanaifmaa

def kA : ByteArray := ⟨#[97]⟩
def kB : ByteArray := ⟨#[98]⟩
def iT (n : Int) : VT := .mk 2 n ⟨#[]⟩ [] []
def xT (s : ByteArray) : VT := .mk 3 0 s [] []
def mT : VT := .mk 5 0 ⟨#[]⟩ [iT 2, iT 1] [kA, kB]
theorem less_ab : less kA kB = true := by unfold less; rw [ByteArray.toList_eq, ByteArray.toList_eq]; rfl
theorem less_self (a : ByteArray) : less a a = false := bl_irrefl _
theorem rise2 (a b : ByteArray) : rising [a, b] = (less a b && true) := rfl
theorem perm2 {α : Type} {l : List α} {x y : α} (h : l.Perm [x, y]) : l = [x, y] ∨ l = [y, x] := by
  have hl := h.length_eq
  match l, hl with
  | [p, q], _ =>
    have hp : p ∈ [x, y] := h.mem_iff.1 (by simp)
    simp only [List.mem_cons, List.not_mem_nil, or_false] at hp
    rcases hp with rfl | rfl
    · have := (List.perm_cons p).1 h
      rw [List.perm_singleton] at this
      injection this with this
      left; rw [this]
    · have := (List.perm_cons p).1 (h.trans (List.Perm.swap _ _ _))
      rw [List.perm_singleton] at this
      injection this with this
      right; rw [this]
theorem sorts_ba {es : List (ByteArray × VT)} (h : Sorts [kB, kA] [iT 1, iT 2] es) : es = [(kA, iT 2), (kB, iT 1)] := by
  rcases perm2 h.1 with h1 | h1
  · have := h.2 0 1 (by omega) (by rw [h1]; decide)
    rw [h1] at this
    exact absurd (less_ab.symm.trans this) (by decide)
  · exact h1
theorem within_m : mT.within = true := by rfl
theorem map_ba {es : List (ByteArray × VT)} (h : Sorts [kB, kA] [iT 1, iT 2] es) : mapV es = mT ∧ mapE es = 0 := by
  rw [sorts_ba h]
  have e : rising (List.map (·.1) [(kA, iT 2), (kB, iT 1)]) = true := by
    show rising [kA, kB] = true
    rw [rise2, less_ab]; rfl
  unfold mapV mapE
  rw [if_pos e, if_pos e]
  exact limT_yes within_m
theorem map_aa {es : List (ByteArray × VT)} (h : Sorts [kA, kA] [iT 1, iT 2] es) : mapE es = 9 := by
  have e : rising (es.map (·.1)) = false := by
    rcases perm2 h.1 with h1 | h1
    · rw [h1]
      show rising [kA, kA] = false
      rw [rise2, less_self]; rfl
    · rw [h1]
      show rising [kA, kA] = false
      rw [rise2, less_self]; rfl
  unfold mapE
  rw [e]
  rfl
theorem iT_wf (n : Int) : (iT n).all okF = true := by unfold iT; rw [VT.all_mk, okF_2]; rfl
theorem xT_wf (s : ByteArray) : (xT s).all okF = true := by unfold xT; rw [VT.all_mk, okF_3]; rfl
theorem isMap_m : isMapT mT = true := by
  unfold isMapT VT.wf mT VT.k
  rw [VT.all_mk, okF_5, rise2, less_ab]
  unfold alls alls alls
  rw [iT_wf, iT_wf]
  rfl
theorem get_a {y : VT} {b : Bool} (h : GetSpec mT kA y b) : y = iT 2 ∧ b = true := by
  rcases h with ⟨h, _⟩ | ⟨_, p, hp, rfl, h1, _⟩
  · rw [isMap_m] at h; cases h
  · have h0 : p = 0 := by
      rcases Nat.eq_zero_or_pos p with h | h
      · exact h
      · have := hp.2.1 0 h
        exact absurd ((less_self kA).symm.trans this) (by decide)
    subst h0
    have ha : isAt mT.ks kA 0 = true := by
      unfold isAt
      rw [decide_eq_true (show 0 < mT.ks.length by decide), decide_eq_true (show mT.ks.getD 0 ByteArray.empty = kA from rfl)]
      rfl
    have := h1 ha
    exact ⟨by injection this.symm, ha⟩
def lT : VT := .mk 4 0 ⟨#[]⟩ [iT 5, xT ⟨#[120]⟩] []
theorem lT_wf : lT.wf = true := by
  unfold lT VT.wf
  rw [VT.all_mk, okF_4]
  unfold alls alls alls
  rw [iT_wf, xT_wf]
  rfl
theorem enc_l : encOf lT = [8, 4, 4, 10, 6, 2, 120] := by rw [encOf_yes lT_wf]; decide
theorem ord_9 : (iT 9).ord (xT ⟨#[]⟩) = -1 := by
  unfold VT.ord VT.wf
  rw [iT_wf, xT_wf]
  unfold iT xT
  rw [VT.cmp_mk]
  rfl
end Go.Proofs.Ytidinbeanaifmaa
namespace Go.Proofs.Ytidinbeanaifmaa
open Go.RowKit

def iV (n : Int) : Value := .agg #[.int .i64 2, .int .i64 n, .string ⟨#[]⟩, .slice none 0 0, .slice none 0 0]
def xV (s : ByteArray) : Value := .agg #[.int .i64 3, .int .i64 0, .string s, .slice none 0 0, .slice none 0 0]
theorem iT_lies (w : World) (R : Nat → Prop) (n : Int) (h : -9223372036854775808 ≤ n ∧ n ≤ 9223372036854775807) : Lies w R (iT n) (iV n) := by
  unfold iT
  rw [Lies]
  exact ⟨none, 0, none, 0, rfl, by omega, h, by decide, Nat.le_refl _, by omega, LiesL.none_, Nat.le_refl _, by omega, LiesS.none_⟩
theorem xT_lies (w : World) (R : Nat → Prop) (s : ByteArray) (h : s.size ≤ 9223372036854775807) : Lies w R (xT s) (xV s) := by
  unfold xT
  rw [Lies]
  exact ⟨none, 0, none, 0, rfl, by omega, by omega, h, Nat.le_refl _, by omega, LiesL.none_, Nat.le_refl _, by omega, LiesS.none_⟩
/-- two strings in a block -/
theorem strs2 {w : World} {g : Nat} {t : TypeId} {a b : ByteArray} (h : Bk w g t #[.string a, .string b]) (ha : a.size ≤ 9223372036854775807) (hb : b.size ≤ 9223372036854775807) : LiesS w (Lo w) (some ⟨g, 0, none⟩) [a, b] := by
  intro j s hj
  match j with
  | 0 => simp at hj; subst hj; exact ⟨ha, g, 0, rfl, h.lt, h.cell 0⟩
  | 1 => simp at hj; subst hj; exact ⟨hb, g, 0, rfl, h.lt, h.cell 1⟩
  | j + 2 => simp at hj
/-- two values in a block -/
theorem vals2 {w : World} {g : Nat} {t : TypeId} {x y : VT} {a b s p q a' b' s' p' q' : Value} (h : Bk w g t #[a, b, s, p, q, a', b', s', p', q']) (hx : Lies w (Lo w) x (.agg #[a, b, s, p, q])) (hy : Lies w (Lo w) y (.agg #[a', b', s', p', q'])) :
    LiesL w (Lo w) (some ⟨g, 0, none⟩) 0 [x, y] := by
  rw [LiesL, LiesL, LiesL]
  exact ⟨⟨g, 0, a, b, s, p, q, rfl, h.lt, h.cell 0, h.cell 1, h.cell 2, h.cell 3, h.cell 4, hx⟩, ⟨g, 0, a', b', s', p', q', rfl, h.lt, h.cell 5, h.cell 6, h.cell 7, h.cell 8, h.cell 9, hy⟩, trivial⟩

set_option maxRecDepth 100000 in
set_option maxHeartbeats 8000000 in
theorem works_any (w : World) : Calls Try.prog 12 #[] w (Gives (.bool true) w) := by
  go_enter Try.func12, Try.ntmps12
  go_wp2_with fail
  refine (Int_any 1 _).mono ?_
  rintro e w1 ⟨rfl, hb1⟩
  have K1 : Hid (Bk w1 w.heap.size 9 #[.string kB, .string kA]) := Lib.hid ((Bk.new w _ _).below hb1 (by simp))
  have B1 : Hid (Below w.heap.size w w1) := Lib.hid (below_via (Below.refl _ _) hb1)
  clear hb1
  go_wp2_with fail
  refine (Int_any 2 _).mono ?_
  rintro e w2 ⟨rfl, hb⟩
  have K2 := Lib.hid (K1.out.below hb K1.out.lt)
  have B2 := Lib.hid (below_next B1.out hb)
  clear hb
  obtain ⟨w3, hw3⟩ : ∃ w3, w3 = w2.alloc (.cells #[.int .i64 2, .int .i64 1, .string ⟨#[]⟩, .slice none 0 0, .slice none 0 0, .int .i64 2, .int .i64 2, .string ⟨#[]⟩, .slice none 0 0, .slice none 0 0] 26) := ⟨_, rfl⟩
  have K3 : Hid (Bk w3 w.heap.size 9 #[.string kB, .string kA]) := Lib.hid (by rw [hw3]; exact K2.out.alloc _)
  have V3 : Hid (Bk w3 w2.heap.size 26 #[.int .i64 2, .int .i64 1, .string ⟨#[]⟩, .slice none 0 0, .slice none 0 0, .int .i64 2, .int .i64 2, .string ⟨#[]⟩, .slice none 0 0, .slice none 0 0]) := Lib.hid (by rw [hw3]; exact Bk.new _ _ _)
  have B3 : Hid (Below w.heap.size w w3) := Lib.hid (by rw [hw3]; exact B2.out.alloc B2.out.size _)
  have M3 := Lib.hid (Map_any (some ⟨w.heap.size, 0, none⟩) 2 [kB, kA] (some ⟨w2.heap.size, 0, none⟩) 2 [iT 1, iT 2] w3 (strs2 K3.out (by decide) (by decide)) (vals2 V3.out (iT_lies _ _ 1 (by omega)) (iT_lies _ _ 2 (by omega))) (Nat.le_refl _) (Nat.le_refl _) (by decide) (by decide))
  have HW3 := Lib.hid hw3
  clear hw3
  go_wp2_with fail
  rw [← HW3.out]
  refine (M3.out).mono ?_
  rintro e w4 ⟨y, r, hsp, v, rfl, hov, hb⟩
  obtain ⟨rfl, rfl⟩ : y = mT ∧ r = 0 := by
    rcases hsp with ⟨h, _⟩ | ⟨_, es, he, rfl, rfl⟩
    · exact absurd rfl h
    · exact map_ba he
  obtain ⟨mk, mi, mt, mA, mn, mc, mA', mn', mc', rfl⟩ := hov.form
  have MO := Lib.hid hov.lies
  have B4 := Lib.hid (below_next B3.out hb)
  clear hsp hov hb M3
  go_wp2_with fail
  refine (Int_any 1 _).mono ?_
  rintro e w5 ⟨rfl, hb⟩
  have b45 : Below w4.heap.size w4 w5 := ((below_one w4 _).trans (Below.alloc (Below.refl _ _) (by simp) _)).trans (hb.mono (Nat.le_trans (Nat.le_succ _) (by simp)))
  have MB5 : Hid (Bk w5 w4.heap.size 26 #[.int .i64 mk, .int .i64 mi, .string mt, .slice mA mn mc, .slice mA' mn' mc']) := Lib.hid (((Bk.new w4 _ _).alloc _).below hb (by simp; omega))
  have K5 : Hid (Bk w5 (w4.heap.size + 1) 9 #[.string kA, .string kA]) := Lib.hid (by
    have h := Bk.new (w4.alloc (.cells #[.int .i64 mk, .int .i64 mi, .string mt, .slice mA mn mc, .slice mA' mn' mc'] 26)) 9 #[.string kA, .string kA]
    have e : (w4.alloc (.cells #[.int .i64 mk, .int .i64 mi, .string mt, .slice mA mn mc, .slice mA' mn' mc'] 26)).heap.size = w4.heap.size + 1 := by simp
    rw [e] at h
    exact h.below hb (by simp))
  have MO5 := Lib.hid (MO.out.below b45)
  have B5 := Lib.hid (below_next B4.out b45)
  clear hb b45
  go_wp2_with fail
  refine (Int_any 2 _).mono ?_
  rintro e w6 ⟨rfl, hb⟩
  have K6 := Lib.hid (K5.out.below hb K5.out.lt)
  have MB6 := Lib.hid (MB5.out.below hb MB5.out.lt)
  have MO6 := Lib.hid (MO5.out.below hb)
  have B6 := Lib.hid (below_next B5.out hb)
  clear hb
  obtain ⟨w7, hw7⟩ : ∃ w7, w7 = w6.alloc (.cells #[.int .i64 2, .int .i64 1, .string ⟨#[]⟩, .slice none 0 0, .slice none 0 0, .int .i64 2, .int .i64 2, .string ⟨#[]⟩, .slice none 0 0, .slice none 0 0] 26) := ⟨_, rfl⟩
  have K7 : Hid (Bk w7 (w4.heap.size + 1) 9 #[.string kA, .string kA]) := Lib.hid (by rw [hw7]; exact K6.out.alloc _)
  have V7 : Hid (Bk w7 w6.heap.size 26 #[.int .i64 2, .int .i64 1, .string ⟨#[]⟩, .slice none 0 0, .slice none 0 0, .int .i64 2, .int .i64 2, .string ⟨#[]⟩, .slice none 0 0, .slice none 0 0]) := Lib.hid (by rw [hw7]; exact Bk.new _ _ _)
  have MB7 := Lib.hid (show Bk w7 _ _ _ from by rw [hw7]; exact MB6.out.alloc _)
  have MO7 := Lib.hid (MO6.out.below (by rw [hw7]; exact below_one _ _ : Below w6.heap.size w6 w7))
  have B7 : Hid (Below w.heap.size w w7) := Lib.hid (by rw [hw7]; exact B6.out.alloc B6.out.size _)
  have M7 := Lib.hid (Map_any (some ⟨w4.heap.size + 1, 0, none⟩) 2 [kA, kA] (some ⟨w6.heap.size, 0, none⟩) 2 [iT 1, iT 2] w7 (strs2 K7.out (by decide) (by decide)) (vals2 V7.out (iT_lies _ _ 1 (by omega)) (iT_lies _ _ 2 (by omega))) (Nat.le_refl _) (Nat.le_refl _) (by decide) (by decide))
  have HW7 := Lib.hid hw7
  clear hw7
  go_wp2_with fail
  rw [← HW7.out]
  refine (M7.out).mono ?_
  rintro e w8 ⟨y, r, hsp, v, rfl, hov, hb⟩
  obtain rfl : r = 9 := by
    rcases hsp with ⟨h, _⟩ | ⟨_, es, he, rfl, rfl⟩
    · exact absurd rfl h
    · exact map_aa he
  obtain ⟨nk, ni, nt, nA, nn, nc, nA', nn', nc', rfl⟩ := hov.form
  have MB8 := Lib.hid (MB7.out.below hb MB7.out.lt)
  have MO8 := Lib.hid (MO7.out.below hb)
  have B8 := Lib.hid (below_next B7.out hb)
  clear hsp hov hb M7
  obtain ⟨w9, hw9⟩ : ∃ w9, w9 = w8.alloc (.cells #[.int .i64 nk, .int .i64 ni, .string nt, .slice nA nn nc, .slice nA' nn' nc'] 26) := ⟨_, rfl⟩
  have B89 : Hid (Below w8.heap.size w8 w9) := Lib.hid (by rw [hw9]; exact below_one _ _)
  have MB9 := Lib.hid (MB8.out.below B89.out MB8.out.lt)
  have MO9 := Lib.hid (MO8.out.below B89.out)
  have B9 := Lib.hid (below_next B8.out B89.out)
  have G9 := Lib.hid (Get_any kA MO9.out (by decide))
  have c0 := MB9.out.cell 0
  have c1 := MB9.out.cell 1
  have c2 := MB9.out.cell 2
  have c3 := MB9.out.cell 3
  have c4 := MB9.out.cell 4
  change _ = some (Value.int .i64 mk) at c0
  change _ = some (Value.int .i64 mi) at c1
  change _ = some (Value.string mt) at c2
  change _ = some (Value.slice mA mn mc) at c3
  change _ = some (Value.slice mA' mn' mc') at c4
  rw [hw9] at c0 c1 c2 c3 c4
  have HW9 := Lib.hid hw9
  clear hw9
  go_wp2_with fail
  rw [← HW9.out]
  refine (G9.out).mono ?_
  rintro e w10 ⟨y, b, hsp, v, rfl, hov, hb⟩
  obtain ⟨rfl, rfl⟩ := get_a hsp
  obtain ⟨xk, xi, xt, xA, xn, xc, xA', xn', xc', rfl⟩ := hov.form
  have XO := Lib.hid hov.lies
  have B10 := Lib.hid (below_next B9.out hb)
  clear hsp hov hb c0 c1 c2 c3 c4 G9
  go_wp2_with fail
  refine (Int_any 5 _).mono ?_
  rintro e w11 ⟨rfl, hb⟩
  have XB11 : Hid (Bk w11 w10.heap.size 26 #[.int .i64 xk, .int .i64 xi, .string xt, .slice xA xn xc, .slice xA' xn' xc']) := Lib.hid ((Bk.new w10 _ _).below hb (by simp))
  have b11 : Below w10.heap.size w10 w11 := below_via (Below.refl _ _) hb
  have XO11 := Lib.hid (XO.out.below b11)
  have B11 := Lib.hid (below_next B10.out b11)
  clear hb b11
  go_wp2_with fail
  refine (Text_any ⟨#[120]⟩ _).mono ?_
  rintro e w12 ⟨rfl, hb⟩
  have XB12 := Lib.hid (XB11.out.below hb XB11.out.lt)
  have XO12 := Lib.hid (XO11.out.below hb)
  have B12 := Lib.hid (below_next B11.out hb)
  clear hb
  obtain ⟨w13, hw13⟩ : ∃ w13, w13 = w12.alloc (.cells #[.int .i64 2, .int .i64 5, .string ⟨#[]⟩, .slice none 0 0, .slice none 0 0, .int .i64 3, .int .i64 0, .string ⟨#[120]⟩, .slice none 0 0, .slice none 0 0] 26) := ⟨_, rfl⟩
  have V13 : Hid (Bk w13 w12.heap.size 26 #[.int .i64 2, .int .i64 5, .string ⟨#[]⟩, .slice none 0 0, .slice none 0 0, .int .i64 3, .int .i64 0, .string ⟨#[120]⟩, .slice none 0 0, .slice none 0 0]) := Lib.hid (by rw [hw13]; exact Bk.new _ _ _)
  have b13 : Below w12.heap.size w12 w13 := by rw [hw13]; exact below_one _ _
  have XB13 := Lib.hid (XB12.out.below b13 XB12.out.lt)
  have XO13 := Lib.hid (XO12.out.below b13)
  have B13 := Lib.hid (below_next B12.out b13)
  have L13 := Lib.hid (List_any (A := some ⟨w12.heap.size, 0, none⟩) (c := 2) (its := [iT 5, xT ⟨#[120]⟩]) (w := w13) (vals2 V13.out (iT_lies _ _ 5 (by omega)) (xT_lies _ _ _ (by decide))) (Nat.le_refl _) (by omega) (by decide) (by decide))
  have HW13 := Lib.hid hw13
  clear hw13 b13
  go_wp2_with fail
  rw [← HW13.out]
  refine (L13.out).mono ?_
  rintro e w14 ⟨v, rfl, hov, hb⟩
  have XB14 := Lib.hid (XB13.out.below hb XB13.out.lt)
  have XO14 := Lib.hid (XO13.out.below hb)
  have B14 := Lib.hid (below_next B13.out hb)
  have E14 := Lib.hid (valEncode_any (A := none) (n := 0) (c := 0) (B := 0) (l := []) (Rb.nil0 w14 0) (Nat.zero_le _) hov.lies (by decide))
  clear hov hb L13
  go_wp2_with fail
  refine (E14.out).mono ?_
  intro e w15 hq
  obtain ⟨A2, n2, c2, rfl, hl2, hc2, hm2, R2, O2, hb⟩ := own_named hq
  have XB15 := Lib.hid (XB14.out.below hb.out XB14.out.lt)
  have XO15 := Lib.hid (XO14.out.below hb.out)
  have B15 := Lib.hid (below_next B14.out hb.out)
  have HCV : ∀ q : BelowBy w15, (convert 50 9 (.slice A2 n2 c2)).run Try.prog q.val = .ok (.string ⟨#[8, 4, 4, 10, 6, 2, 120]⟩) q.val := fun q => by
    have h := conv_rb c2 (R2.out.below q.below)
    rw [List.nil_append, show encOf (.mk 4 0 ⟨#[]⟩ [iT 5, xT ⟨#[120]⟩] []) = [8, 4, 4, 10, 6, 2, 120] from enc_l] at h
    exact h
  have HSM : Hid (∀ q : BelowBy w15, Calls Try.prog 32 #[.agg #[.int .i64 xk, .int .i64 xi, .string xt, .slice xA xn xc, .slice xA' xn' xc'], iV 2] q.val (Gives (.bool true) q.val)) := Lib.hid (fun q => by
    have h := valSame_all (iT 2).size (iT 2) (iT 2) q.val _ (iV 2) (Nat.le_refl _) (XO15.out.below q.below) (iT_lies _ _ 2 (by omega))
    rwa [eqB_true rfl] at h)
  have HOR : Hid (∀ q : BelowBy w15, Calls Try.prog 37 #[iV 9, xV ⟨#[]⟩] q.val (Gives (.int .i64 (-1)) q.val)) := Lib.hid (fun q => by
    have h := valOrder_any (iT_lies q.val (Lo q.val) 9 (by omega)) (xT_lies q.val (Lo q.val) ⟨#[]⟩ (by decide))
    rwa [ord_9] at h)
  unfold iV at HSM
  unfold iV xV at HOR
  have x0 := BelowBy.cell (show w15.cell? ⟨w10.heap.size, 0, none⟩ = some (.int .i64 xk) from XB15.out.cell 0)
  have x1 := BelowBy.cell (show w15.cell? ⟨w10.heap.size, 1, none⟩ = some (.int .i64 xi) from XB15.out.cell 1)
  have x2 := BelowBy.cell (show w15.cell? ⟨w10.heap.size, 2, none⟩ = some (.string xt) from XB15.out.cell 2)
  have x3 := BelowBy.cell (show w15.cell? ⟨w10.heap.size, 3, none⟩ = some (.slice xA xn xc) from XB15.out.cell 3)
  have x4 := BelowBy.cell (show w15.cell? ⟨w10.heap.size, 4, none⟩ = some (.slice xA' xn' xc') from XB15.out.cell 4)
  clear hq E14 hb
  go_wp2_with fail
  refine wp_region_gives (by kernel_rfl) (by kernel_rfl) ?_
  repeat (quiet_step ((first | (go_at_call 22; exact gives_by (Int_any _ _)) | (go_at_call 18; exact gives_by (Text_any _ _)) | (go_at_call 32; exact gives_by (HSM.out _)) | (go_at_call 37; exact gives_by (HOR.out _)))))
  refine wpQuiet_nil ?_
  intro _ hw'
  obtain ⟨q, rfl⟩ := hw'
  go_wp2
  go_ret
  exact ⟨rfl, below_next B15.out q.below⟩
end Go.Proofs.Ytidinbeanaifmaa
namespace Go.Proofs.Ytidinbeanaifmaa.opens
open Go.ChangeShapes Go.WideShapes Go.ChangeAt Go.RowKit

theorem int64 {a : Int} (h : (Lit.int .i64 a).wf = true) : -9223372036854775808 ≤ a ∧ a ≤ 9223372036854775807 := by
  simpa [Lit.wf, IntKind.min, IntKind.max, IntKind.signed, IntKind.bits] using h

/-- numbers that fit a byte, as bytes -/
theorem as_bytes : ∀ (zs : List Int), (∀ n ∈ zs, (Lit.int .u8 n).wf = true) → ∃ l : List UInt8, zs = l.map fun c => (c.toNat : Int)
  | [], _ => ⟨[], rfl⟩
  | z :: r, h => by
    obtain ⟨l, hl⟩ := as_bytes r fun n hn => h n (List.mem_cons_of_mem _ hn)
    have hz : 0 ≤ z ∧ z ≤ 255 := by simpa [Lit.wf, IntKind.min, IntKind.max, IntKind.signed, IntKind.bits] using h z List.mem_cons_self
    refine ⟨UInt8.ofNat z.toNat :: l, ?_⟩
    rw [List.map_cons, ← hl]
    congr 1
    have : (UInt8.ofNat z.toNat).toNat = z.toNat := by simp; omega
    rw [this]
    omega

section
variable {H : Type} {enc : TypeId × Value → H} {P : Program} {W : World} {base : Nat} {spare : Nat → Bool} {held : Bool}
/-- a slice of bytes that came in reads as a list -/
theorem bytes {r : Reach} {b0 : Nat} {t e : TypeId} {v : Value} {d : DataW H} {ps : List MemPlace} (ht : P.underlying t = some (.slice e)) (he : P.underlying e = some (.int .u8)) (hc : P.cellsOf e = 1)
    (hval : Value.okWide P W r b0 t v) (hd : DataW.Trod enc P W base spare held t v d ps) : ∃ A n c l, v = .slice A n c ∧ Rb W W.heap.size A n l ∧ n ≤ c ∧ c ≤ maxLen := by
  obtain ⟨A, n, c, rfl⟩ := okWide_slice ht hval
  obtain ⟨fuel, hf⟩ := hd
  rcases open_ints ht he hc hf with ⟨hcs, _⟩ | ⟨x, len, cap, zs, hcs, _, hl, hm, hz, _, hcell, hwz⟩
  · simp [Value.cells] at hcs
    obtain ⟨rfl, rfl, rfl⟩ := hcs
    exact ⟨none, 0, 0, [], rfl, ⟨rfl, fun h => absurd rfl h⟩, Nat.le_refl _, Nat.zero_le _⟩
  · simp [Value.cells] at hcs
    obtain ⟨rfl, rfl, rfl⟩ := hcs
    obtain ⟨l, hlz⟩ := as_bytes zs hwz
    have hlen : n ≤ l.length := by
      have h1 : zs.length = l.length := by rw [hlz, List.length_map]
      rw [← h1, hz]
      split <;> omega
    refine ⟨some x, n, c, l.take n, rfl, ⟨by rw [List.length_take]; omega, fun hne => ?_⟩, hl, hm⟩
    have hpos : 0 < zs.length := by
      rw [hlz, List.length_map]
      rcases Nat.eq_zero_or_pos n with h0 | h0
      · subst h0; simp at hne
      · omega
    obtain ⟨b, off, rfl, hcc⟩ := ints_at hcell hpos
    refine ⟨b, off, rfl, World.block_lt_of_cell? W _ (hcc 0 hpos), fun j c' hj => ?_⟩
    have hj2 : l[j]? = some c' := by
      rw [List.getElem?_take] at hj
      split at hj
      · exact hj
      · cases hj
    have hjl : j < zs.length := by rw [hlz, List.length_map]; exact (List.getElem?_eq_some_iff.1 hj2).1
    rw [hcc j hjl, hlz, List.getD_eq_getElem?_getD, List.getElem?_map, hj2]
    rfl
end
end Go.Proofs.Ytidinbeanaifmaa.opens
