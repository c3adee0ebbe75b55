/-
  Keyword of both. (gen_kd.py)
-/
import Derived.Test.YtemdcgeopaphaaaDoorKc
namespace Go.Proofs.YtemdcgeopaphaaaDoor
open Go.RowKit

theorem str_inj {a b : ByteArray} (h : a.toList = b.toList) : a = b := by
  rw [ByteArray.toList_eq, ByteArray.toList_eq] at h
  apply ByteArray.ext
  exact Array.toList_inj.1 h
theorem kw_yes {l K : List UInt8} (h : l = K) : (l == K) = true := by rw [h]; simp
theorem kw_no {l K : List UInt8} (h : l ≠ K) : (l == K) = false := beq_eq_false_iff_ne.2 h
/-- the keywords as strings -/
def kwS : List ByteArray := [⟨#[97, 110, 100]⟩, ⟨#[97, 119, 97, 105, 116]⟩, ⟨#[99, 97, 115, 101]⟩, ⟨#[99, 97, 116, 99, 104]⟩, ⟨#[99, 104, 101, 99, 107]⟩, ⟨#[101, 108, 115, 101]⟩, ⟨#[102, 97, 108, 115, 101]⟩, ⟨#[102, 117, 110, 99]⟩, ⟨#[103, 111]⟩, ⟨#[105, 102]⟩, ⟨#[108, 101, 116]⟩, ⟨#[110, 111, 116]⟩, ⟨#[110, 117, 108, 108]⟩, ⟨#[111, 110]⟩, ⟨#[111, 114]⟩, ⟨#[113, 117, 101, 114, 121]⟩, ⟨#[114, 101, 116, 117, 114, 110]⟩, ⟨#[115, 97, 103, 97]⟩, ⟨#[115, 101, 108, 101, 99, 116]⟩, ⟨#[115, 105, 103, 110, 97, 108]⟩, ⟨#[116, 104, 114, 111, 119]⟩, ⟨#[116, 114, 117, 101]⟩, ⟨#[116, 114, 121]⟩, ⟨#[117, 110, 100, 111]⟩, ⟨#[117, 112, 100, 97, 116, 101]⟩, ⟨#[118, 97, 114]⟩, ⟨#[119, 104, 105, 108, 101]⟩]
theorem kwS_at {k : Nat} {x : ByteArray} (h : kwS[k]? = some x) : kwL[k]? = some x.toList := by
  have e : kwL = kwS.map fun q => q.toList := by
    have : (fun q : ByteArray => q.toList) = fun q => q.data.toList := funext fun q => ByteArray.toList_eq q
    rw [this]
    decide
  rw [e, List.getElem?_map, h]
  rfl
theorem kwB_of (s : ByteArray) : kwB s.data.toList = decide (s.toList ∈ kwL) := by
  unfold kwB
  rw [ByteArray.toList_eq, List.contains_eq_mem]
set_option maxRecDepth 100000 in
set_option maxHeartbeats 8000000 in
theorem Keyword_any (s : ByteArray) (w : World) : Calls Tryd.prog 14 #[.string s] w fun e w' => e = .returned (.bool (kwB s.data.toList)) ∧ w' = w := by
  rw [kwB_of]
  by_cases h0 : s.toList = [97, 110, 100]
  · have HT : Hid (decide (s.toList ∈ kwL) = true) := Lib.hid (by rw [h0]; decide)
    have t0 := kw_yes h0
    clear h0
    go_enter Tryd.func14, Tryd.ntmps14
    go_wp2
    go_ret
    exact ⟨ret_bool HT.out.symm, rfl⟩
  by_cases h1 : s.toList = [97, 119, 97, 105, 116]
  · have HT : Hid (decide (s.toList ∈ kwL) = true) := Lib.hid (by rw [h1]; decide)
    have t1 := kw_yes h1
    have t0 := kw_no h0
    clear h0 h1
    go_enter Tryd.func14, Tryd.ntmps14
    go_wp2
    go_ret
    exact ⟨ret_bool HT.out.symm, rfl⟩
  by_cases h2 : s.toList = [99, 97, 115, 101]
  · have HT : Hid (decide (s.toList ∈ kwL) = true) := Lib.hid (by rw [h2]; decide)
    have t2 := kw_yes h2
    have t0 := kw_no h0
    have t1 := kw_no h1
    clear h0 h1 h2
    go_enter Tryd.func14, Tryd.ntmps14
    go_wp2
    go_ret
    exact ⟨ret_bool HT.out.symm, rfl⟩
  by_cases h3 : s.toList = [99, 97, 116, 99, 104]
  · have HT : Hid (decide (s.toList ∈ kwL) = true) := Lib.hid (by rw [h3]; decide)
    have t3 := kw_yes h3
    have t0 := kw_no h0
    have t1 := kw_no h1
    have t2 := kw_no h2
    clear h0 h1 h2 h3
    go_enter Tryd.func14, Tryd.ntmps14
    go_wp2
    go_ret
    exact ⟨ret_bool HT.out.symm, rfl⟩
  by_cases h4 : s.toList = [99, 104, 101, 99, 107]
  · have HT : Hid (decide (s.toList ∈ kwL) = true) := Lib.hid (by rw [h4]; decide)
    have t4 := kw_yes h4
    have t0 := kw_no h0
    have t1 := kw_no h1
    have t2 := kw_no h2
    have t3 := kw_no h3
    clear h0 h1 h2 h3 h4
    go_enter Tryd.func14, Tryd.ntmps14
    go_wp2
    go_ret
    exact ⟨ret_bool HT.out.symm, rfl⟩
  by_cases h5 : s.toList = [101, 108, 115, 101]
  · have HT : Hid (decide (s.toList ∈ kwL) = true) := Lib.hid (by rw [h5]; decide)
    have t5 := kw_yes h5
    have t0 := kw_no h0
    have t1 := kw_no h1
    have t2 := kw_no h2
    have t3 := kw_no h3
    have t4 := kw_no h4
    clear h0 h1 h2 h3 h4 h5
    go_enter Tryd.func14, Tryd.ntmps14
    go_wp2
    go_ret
    exact ⟨ret_bool HT.out.symm, rfl⟩
  by_cases h6 : s.toList = [102, 97, 108, 115, 101]
  · have HT : Hid (decide (s.toList ∈ kwL) = true) := Lib.hid (by rw [h6]; decide)
    have t6 := kw_yes h6
    have t0 := kw_no h0
    have t1 := kw_no h1
    have t2 := kw_no h2
    have t3 := kw_no h3
    have t4 := kw_no h4
    have t5 := kw_no h5
    clear h0 h1 h2 h3 h4 h5 h6
    go_enter Tryd.func14, Tryd.ntmps14
    go_wp2
    go_ret
    exact ⟨ret_bool HT.out.symm, rfl⟩
  by_cases h7 : s.toList = [102, 117, 110, 99]
  · have HT : Hid (decide (s.toList ∈ kwL) = true) := Lib.hid (by rw [h7]; decide)
    have t7 := kw_yes h7
    have t0 := kw_no h0
    have t1 := kw_no h1
    have t2 := kw_no h2
    have t3 := kw_no h3
    have t4 := kw_no h4
    have t5 := kw_no h5
    have t6 := kw_no h6
    clear h0 h1 h2 h3 h4 h5 h6 h7
    go_enter Tryd.func14, Tryd.ntmps14
    go_wp2
    go_ret
    exact ⟨ret_bool HT.out.symm, rfl⟩
  by_cases h8 : s.toList = [103, 111]
  · have HT : Hid (decide (s.toList ∈ kwL) = true) := Lib.hid (by rw [h8]; decide)
    have t8 := kw_yes h8
    have t0 := kw_no h0
    have t1 := kw_no h1
    have t2 := kw_no h2
    have t3 := kw_no h3
    have t4 := kw_no h4
    have t5 := kw_no h5
    have t6 := kw_no h6
    have t7 := kw_no h7
    clear h0 h1 h2 h3 h4 h5 h6 h7 h8
    go_enter Tryd.func14, Tryd.ntmps14
    go_wp2
    go_ret
    exact ⟨ret_bool HT.out.symm, rfl⟩
  by_cases h9 : s.toList = [105, 102]
  · have HT : Hid (decide (s.toList ∈ kwL) = true) := Lib.hid (by rw [h9]; decide)
    have t9 := kw_yes h9
    have t0 := kw_no h0
    have t1 := kw_no h1
    have t2 := kw_no h2
    have t3 := kw_no h3
    have t4 := kw_no h4
    have t5 := kw_no h5
    have t6 := kw_no h6
    have t7 := kw_no h7
    have t8 := kw_no h8
    clear h0 h1 h2 h3 h4 h5 h6 h7 h8 h9
    go_enter Tryd.func14, Tryd.ntmps14
    go_wp2
    go_ret
    exact ⟨ret_bool HT.out.symm, rfl⟩
  by_cases h10 : s.toList = [108, 101, 116]
  · have HT : Hid (decide (s.toList ∈ kwL) = true) := Lib.hid (by rw [h10]; decide)
    have t10 := kw_yes h10
    have t0 := kw_no h0
    have t1 := kw_no h1
    have t2 := kw_no h2
    have t3 := kw_no h3
    have t4 := kw_no h4
    have t5 := kw_no h5
    have t6 := kw_no h6
    have t7 := kw_no h7
    have t8 := kw_no h8
    have t9 := kw_no h9
    clear h0 h1 h2 h3 h4 h5 h6 h7 h8 h9 h10
    go_enter Tryd.func14, Tryd.ntmps14
    go_wp2
    go_ret
    exact ⟨ret_bool HT.out.symm, rfl⟩
  by_cases h11 : s.toList = [110, 111, 116]
  · have HT : Hid (decide (s.toList ∈ kwL) = true) := Lib.hid (by rw [h11]; decide)
    have t11 := kw_yes h11
    have t0 := kw_no h0
    have t1 := kw_no h1
    have t2 := kw_no h2
    have t3 := kw_no h3
    have t4 := kw_no h4
    have t5 := kw_no h5
    have t6 := kw_no h6
    have t7 := kw_no h7
    have t8 := kw_no h8
    have t9 := kw_no h9
    have t10 := kw_no h10
    clear h0 h1 h2 h3 h4 h5 h6 h7 h8 h9 h10 h11
    go_enter Tryd.func14, Tryd.ntmps14
    go_wp2
    go_ret
    exact ⟨ret_bool HT.out.symm, rfl⟩
  by_cases h12 : s.toList = [110, 117, 108, 108]
  · have HT : Hid (decide (s.toList ∈ kwL) = true) := Lib.hid (by rw [h12]; decide)
    have t12 := kw_yes h12
    have t0 := kw_no h0
    have t1 := kw_no h1
    have t2 := kw_no h2
    have t3 := kw_no h3
    have t4 := kw_no h4
    have t5 := kw_no h5
    have t6 := kw_no h6
    have t7 := kw_no h7
    have t8 := kw_no h8
    have t9 := kw_no h9
    have t10 := kw_no h10
    have t11 := kw_no h11
    clear h0 h1 h2 h3 h4 h5 h6 h7 h8 h9 h10 h11 h12
    go_enter Tryd.func14, Tryd.ntmps14
    go_wp2
    go_ret
    exact ⟨ret_bool HT.out.symm, rfl⟩
  by_cases h13 : s.toList = [111, 110]
  · have HT : Hid (decide (s.toList ∈ kwL) = true) := Lib.hid (by rw [h13]; decide)
    have t13 := kw_yes h13
    have t0 := kw_no h0
    have t1 := kw_no h1
    have t2 := kw_no h2
    have t3 := kw_no h3
    have t4 := kw_no h4
    have t5 := kw_no h5
    have t6 := kw_no h6
    have t7 := kw_no h7
    have t8 := kw_no h8
    have t9 := kw_no h9
    have t10 := kw_no h10
    have t11 := kw_no h11
    have t12 := kw_no h12
    clear h0 h1 h2 h3 h4 h5 h6 h7 h8 h9 h10 h11 h12 h13
    go_enter Tryd.func14, Tryd.ntmps14
    go_wp2
    go_ret
    exact ⟨ret_bool HT.out.symm, rfl⟩
  by_cases h14 : s.toList = [111, 114]
  · have HT : Hid (decide (s.toList ∈ kwL) = true) := Lib.hid (by rw [h14]; decide)
    have t14 := kw_yes h14
    have t0 := kw_no h0
    have t1 := kw_no h1
    have t2 := kw_no h2
    have t3 := kw_no h3
    have t4 := kw_no h4
    have t5 := kw_no h5
    have t6 := kw_no h6
    have t7 := kw_no h7
    have t8 := kw_no h8
    have t9 := kw_no h9
    have t10 := kw_no h10
    have t11 := kw_no h11
    have t12 := kw_no h12
    have t13 := kw_no h13
    clear h0 h1 h2 h3 h4 h5 h6 h7 h8 h9 h10 h11 h12 h13 h14
    go_enter Tryd.func14, Tryd.ntmps14
    go_wp2
    go_ret
    exact ⟨ret_bool HT.out.symm, rfl⟩
  by_cases h15 : s.toList = [113, 117, 101, 114, 121]
  · have HT : Hid (decide (s.toList ∈ kwL) = true) := Lib.hid (by rw [h15]; decide)
    have t15 := kw_yes h15
    have t0 := kw_no h0
    have t1 := kw_no h1
    have t2 := kw_no h2
    have t3 := kw_no h3
    have t4 := kw_no h4
    have t5 := kw_no h5
    have t6 := kw_no h6
    have t7 := kw_no h7
    have t8 := kw_no h8
    have t9 := kw_no h9
    have t10 := kw_no h10
    have t11 := kw_no h11
    have t12 := kw_no h12
    have t13 := kw_no h13
    have t14 := kw_no h14
    clear h0 h1 h2 h3 h4 h5 h6 h7 h8 h9 h10 h11 h12 h13 h14 h15
    go_enter Tryd.func14, Tryd.ntmps14
    go_wp2
    go_ret
    exact ⟨ret_bool HT.out.symm, rfl⟩
  by_cases h16 : s.toList = [114, 101, 116, 117, 114, 110]
  · have HT : Hid (decide (s.toList ∈ kwL) = true) := Lib.hid (by rw [h16]; decide)
    have t16 := kw_yes h16
    have t0 := kw_no h0
    have t1 := kw_no h1
    have t2 := kw_no h2
    have t3 := kw_no h3
    have t4 := kw_no h4
    have t5 := kw_no h5
    have t6 := kw_no h6
    have t7 := kw_no h7
    have t8 := kw_no h8
    have t9 := kw_no h9
    have t10 := kw_no h10
    have t11 := kw_no h11
    have t12 := kw_no h12
    have t13 := kw_no h13
    have t14 := kw_no h14
    have t15 := kw_no h15
    clear h0 h1 h2 h3 h4 h5 h6 h7 h8 h9 h10 h11 h12 h13 h14 h15 h16
    go_enter Tryd.func14, Tryd.ntmps14
    go_wp2
    go_ret
    exact ⟨ret_bool HT.out.symm, rfl⟩
  by_cases h17 : s.toList = [115, 97, 103, 97]
  · have HT : Hid (decide (s.toList ∈ kwL) = true) := Lib.hid (by rw [h17]; decide)
    have t17 := kw_yes h17
    have t0 := kw_no h0
    have t1 := kw_no h1
    have t2 := kw_no h2
    have t3 := kw_no h3
    have t4 := kw_no h4
    have t5 := kw_no h5
    have t6 := kw_no h6
    have t7 := kw_no h7
    have t8 := kw_no h8
    have t9 := kw_no h9
    have t10 := kw_no h10
    have t11 := kw_no h11
    have t12 := kw_no h12
    have t13 := kw_no h13
    have t14 := kw_no h14
    have t15 := kw_no h15
    have t16 := kw_no h16
    clear h0 h1 h2 h3 h4 h5 h6 h7 h8 h9 h10 h11 h12 h13 h14 h15 h16 h17
    go_enter Tryd.func14, Tryd.ntmps14
    go_wp2
    go_ret
    exact ⟨ret_bool HT.out.symm, rfl⟩
  by_cases h18 : s.toList = [115, 101, 108, 101, 99, 116]
  · have HT : Hid (decide (s.toList ∈ kwL) = true) := Lib.hid (by rw [h18]; decide)
    have t18 := kw_yes h18
    have t0 := kw_no h0
    have t1 := kw_no h1
    have t2 := kw_no h2
    have t3 := kw_no h3
    have t4 := kw_no h4
    have t5 := kw_no h5
    have t6 := kw_no h6
    have t7 := kw_no h7
    have t8 := kw_no h8
    have t9 := kw_no h9
    have t10 := kw_no h10
    have t11 := kw_no h11
    have t12 := kw_no h12
    have t13 := kw_no h13
    have t14 := kw_no h14
    have t15 := kw_no h15
    have t16 := kw_no h16
    have t17 := kw_no h17
    clear h0 h1 h2 h3 h4 h5 h6 h7 h8 h9 h10 h11 h12 h13 h14 h15 h16 h17 h18
    go_enter Tryd.func14, Tryd.ntmps14
    go_wp2
    go_ret
    exact ⟨ret_bool HT.out.symm, rfl⟩
  by_cases h19 : s.toList = [115, 105, 103, 110, 97, 108]
  · have HT : Hid (decide (s.toList ∈ kwL) = true) := Lib.hid (by rw [h19]; decide)
    have t19 := kw_yes h19
    have t0 := kw_no h0
    have t1 := kw_no h1
    have t2 := kw_no h2
    have t3 := kw_no h3
    have t4 := kw_no h4
    have t5 := kw_no h5
    have t6 := kw_no h6
    have t7 := kw_no h7
    have t8 := kw_no h8
    have t9 := kw_no h9
    have t10 := kw_no h10
    have t11 := kw_no h11
    have t12 := kw_no h12
    have t13 := kw_no h13
    have t14 := kw_no h14
    have t15 := kw_no h15
    have t16 := kw_no h16
    have t17 := kw_no h17
    have t18 := kw_no h18
    clear h0 h1 h2 h3 h4 h5 h6 h7 h8 h9 h10 h11 h12 h13 h14 h15 h16 h17 h18 h19
    go_enter Tryd.func14, Tryd.ntmps14
    go_wp2
    go_ret
    exact ⟨ret_bool HT.out.symm, rfl⟩
  by_cases h20 : s.toList = [116, 104, 114, 111, 119]
  · have HT : Hid (decide (s.toList ∈ kwL) = true) := Lib.hid (by rw [h20]; decide)
    have t20 := kw_yes h20
    have t0 := kw_no h0
    have t1 := kw_no h1
    have t2 := kw_no h2
    have t3 := kw_no h3
    have t4 := kw_no h4
    have t5 := kw_no h5
    have t6 := kw_no h6
    have t7 := kw_no h7
    have t8 := kw_no h8
    have t9 := kw_no h9
    have t10 := kw_no h10
    have t11 := kw_no h11
    have t12 := kw_no h12
    have t13 := kw_no h13
    have t14 := kw_no h14
    have t15 := kw_no h15
    have t16 := kw_no h16
    have t17 := kw_no h17
    have t18 := kw_no h18
    have t19 := kw_no h19
    clear h0 h1 h2 h3 h4 h5 h6 h7 h8 h9 h10 h11 h12 h13 h14 h15 h16 h17 h18 h19 h20
    go_enter Tryd.func14, Tryd.ntmps14
    go_wp2
    go_ret
    exact ⟨ret_bool HT.out.symm, rfl⟩
  by_cases h21 : s.toList = [116, 114, 117, 101]
  · have HT : Hid (decide (s.toList ∈ kwL) = true) := Lib.hid (by rw [h21]; decide)
    have t21 := kw_yes h21
    have t0 := kw_no h0
    have t1 := kw_no h1
    have t2 := kw_no h2
    have t3 := kw_no h3
    have t4 := kw_no h4
    have t5 := kw_no h5
    have t6 := kw_no h6
    have t7 := kw_no h7
    have t8 := kw_no h8
    have t9 := kw_no h9
    have t10 := kw_no h10
    have t11 := kw_no h11
    have t12 := kw_no h12
    have t13 := kw_no h13
    have t14 := kw_no h14
    have t15 := kw_no h15
    have t16 := kw_no h16
    have t17 := kw_no h17
    have t18 := kw_no h18
    have t19 := kw_no h19
    have t20 := kw_no h20
    clear h0 h1 h2 h3 h4 h5 h6 h7 h8 h9 h10 h11 h12 h13 h14 h15 h16 h17 h18 h19 h20 h21
    go_enter Tryd.func14, Tryd.ntmps14
    go_wp2
    go_ret
    exact ⟨ret_bool HT.out.symm, rfl⟩
  by_cases h22 : s.toList = [116, 114, 121]
  · have HT : Hid (decide (s.toList ∈ kwL) = true) := Lib.hid (by rw [h22]; decide)
    have t22 := kw_yes h22
    have t0 := kw_no h0
    have t1 := kw_no h1
    have t2 := kw_no h2
    have t3 := kw_no h3
    have t4 := kw_no h4
    have t5 := kw_no h5
    have t6 := kw_no h6
    have t7 := kw_no h7
    have t8 := kw_no h8
    have t9 := kw_no h9
    have t10 := kw_no h10
    have t11 := kw_no h11
    have t12 := kw_no h12
    have t13 := kw_no h13
    have t14 := kw_no h14
    have t15 := kw_no h15
    have t16 := kw_no h16
    have t17 := kw_no h17
    have t18 := kw_no h18
    have t19 := kw_no h19
    have t20 := kw_no h20
    have t21 := kw_no h21
    clear h0 h1 h2 h3 h4 h5 h6 h7 h8 h9 h10 h11 h12 h13 h14 h15 h16 h17 h18 h19 h20 h21 h22
    go_enter Tryd.func14, Tryd.ntmps14
    go_wp2
    go_ret
    exact ⟨ret_bool HT.out.symm, rfl⟩
  by_cases h23 : s.toList = [117, 110, 100, 111]
  · have HT : Hid (decide (s.toList ∈ kwL) = true) := Lib.hid (by rw [h23]; decide)
    have t23 := kw_yes h23
    have t0 := kw_no h0
    have t1 := kw_no h1
    have t2 := kw_no h2
    have t3 := kw_no h3
    have t4 := kw_no h4
    have t5 := kw_no h5
    have t6 := kw_no h6
    have t7 := kw_no h7
    have t8 := kw_no h8
    have t9 := kw_no h9
    have t10 := kw_no h10
    have t11 := kw_no h11
    have t12 := kw_no h12
    have t13 := kw_no h13
    have t14 := kw_no h14
    have t15 := kw_no h15
    have t16 := kw_no h16
    have t17 := kw_no h17
    have t18 := kw_no h18
    have t19 := kw_no h19
    have t20 := kw_no h20
    have t21 := kw_no h21
    have t22 := kw_no h22
    clear h0 h1 h2 h3 h4 h5 h6 h7 h8 h9 h10 h11 h12 h13 h14 h15 h16 h17 h18 h19 h20 h21 h22 h23
    go_enter Tryd.func14, Tryd.ntmps14
    go_wp2
    go_ret
    exact ⟨ret_bool HT.out.symm, rfl⟩
  by_cases h24 : s.toList = [117, 112, 100, 97, 116, 101]
  · have HT : Hid (decide (s.toList ∈ kwL) = true) := Lib.hid (by rw [h24]; decide)
    have t24 := kw_yes h24
    have t0 := kw_no h0
    have t1 := kw_no h1
    have t2 := kw_no h2
    have t3 := kw_no h3
    have t4 := kw_no h4
    have t5 := kw_no h5
    have t6 := kw_no h6
    have t7 := kw_no h7
    have t8 := kw_no h8
    have t9 := kw_no h9
    have t10 := kw_no h10
    have t11 := kw_no h11
    have t12 := kw_no h12
    have t13 := kw_no h13
    have t14 := kw_no h14
    have t15 := kw_no h15
    have t16 := kw_no h16
    have t17 := kw_no h17
    have t18 := kw_no h18
    have t19 := kw_no h19
    have t20 := kw_no h20
    have t21 := kw_no h21
    have t22 := kw_no h22
    have t23 := kw_no h23
    clear h0 h1 h2 h3 h4 h5 h6 h7 h8 h9 h10 h11 h12 h13 h14 h15 h16 h17 h18 h19 h20 h21 h22 h23 h24
    go_enter Tryd.func14, Tryd.ntmps14
    go_wp2
    go_ret
    exact ⟨ret_bool HT.out.symm, rfl⟩
  by_cases h25 : s.toList = [118, 97, 114]
  · have HT : Hid (decide (s.toList ∈ kwL) = true) := Lib.hid (by rw [h25]; decide)
    have t25 := kw_yes h25
    have t0 := kw_no h0
    have t1 := kw_no h1
    have t2 := kw_no h2
    have t3 := kw_no h3
    have t4 := kw_no h4
    have t5 := kw_no h5
    have t6 := kw_no h6
    have t7 := kw_no h7
    have t8 := kw_no h8
    have t9 := kw_no h9
    have t10 := kw_no h10
    have t11 := kw_no h11
    have t12 := kw_no h12
    have t13 := kw_no h13
    have t14 := kw_no h14
    have t15 := kw_no h15
    have t16 := kw_no h16
    have t17 := kw_no h17
    have t18 := kw_no h18
    have t19 := kw_no h19
    have t20 := kw_no h20
    have t21 := kw_no h21
    have t22 := kw_no h22
    have t23 := kw_no h23
    have t24 := kw_no h24
    clear h0 h1 h2 h3 h4 h5 h6 h7 h8 h9 h10 h11 h12 h13 h14 h15 h16 h17 h18 h19 h20 h21 h22 h23 h24 h25
    go_enter Tryd.func14, Tryd.ntmps14
    go_wp2
    go_ret
    exact ⟨ret_bool HT.out.symm, rfl⟩
  by_cases h26 : s.toList = [119, 104, 105, 108, 101]
  · have HT : Hid (decide (s.toList ∈ kwL) = true) := Lib.hid (by rw [h26]; decide)
    have t26 := kw_yes h26
    have t0 := kw_no h0
    have t1 := kw_no h1
    have t2 := kw_no h2
    have t3 := kw_no h3
    have t4 := kw_no h4
    have t5 := kw_no h5
    have t6 := kw_no h6
    have t7 := kw_no h7
    have t8 := kw_no h8
    have t9 := kw_no h9
    have t10 := kw_no h10
    have t11 := kw_no h11
    have t12 := kw_no h12
    have t13 := kw_no h13
    have t14 := kw_no h14
    have t15 := kw_no h15
    have t16 := kw_no h16
    have t17 := kw_no h17
    have t18 := kw_no h18
    have t19 := kw_no h19
    have t20 := kw_no h20
    have t21 := kw_no h21
    have t22 := kw_no h22
    have t23 := kw_no h23
    have t24 := kw_no h24
    have t25 := kw_no h25
    clear h0 h1 h2 h3 h4 h5 h6 h7 h8 h9 h10 h11 h12 h13 h14 h15 h16 h17 h18 h19 h20 h21 h22 h23 h24 h25 h26
    go_enter Tryd.func14, Tryd.ntmps14
    go_wp2
    go_ret
    exact ⟨ret_bool HT.out.symm, rfl⟩
  have HT : Hid (decide (s.toList ∈ kwL) = false) := Lib.hid (by rw [decide_eq_false_iff_not]; unfold kwL; simp only [List.mem_cons, List.not_mem_nil, or_false, not_or]; exact ⟨h0, h1, h2, h3, h4, h5, h6, h7, h8, h9, h10, h11, h12, h13, h14, h15, h16, h17, h18, h19, h20, h21, h22, h23, h24, h25, h26⟩)
  have t0 := kw_no h0
  have t1 := kw_no h1
  have t2 := kw_no h2
  have t3 := kw_no h3
  have t4 := kw_no h4
  have t5 := kw_no h5
  have t6 := kw_no h6
  have t7 := kw_no h7
  have t8 := kw_no h8
  have t9 := kw_no h9
  have t10 := kw_no h10
  have t11 := kw_no h11
  have t12 := kw_no h12
  have t13 := kw_no h13
  have t14 := kw_no h14
  have t15 := kw_no h15
  have t16 := kw_no h16
  have t17 := kw_no h17
  have t18 := kw_no h18
  have t19 := kw_no h19
  have t20 := kw_no h20
  have t21 := kw_no h21
  have t22 := kw_no h22
  have t23 := kw_no h23
  have t24 := kw_no h24
  have t25 := kw_no h25
  have t26 := kw_no h26
  clear h0 h1 h2 h3 h4 h5 h6 h7 h8 h9 h10 h11 h12 h13 h14 h15 h16 h17 h18 h19 h20 h21 h22 h23 h24 h25 h26
  go_enter Tryd.func14, Tryd.ntmps14
  go_wp2
  go_ret
  exact ⟨ret_bool HT.out.symm, rfl⟩

/-- a row of strings that the call has made: whole, in one block -/
def RowS (w : World) (b : Nat) (l : List ByteArray) : Prop := Bk w b 9 (l.map Value.string).toArray
theorem RowS.cell {w : World} {b k : Nat} {l : List ByteArray} {s : ByteArray} (h : RowS w b l) (hk : l[k]? = some s) : w.cell? ⟨b, k, none⟩ = some (.string s) := by
  refine (Bk.cell h k).trans ?_
  simp [hk]
set_option maxRecDepth 100000 in
set_option maxHeartbeats 2000000 in
theorem keywords_any (w : World) : Calls Tryd.prog 25 #[] w fun e w' => e = .returned (.slice (some ⟨w.heap.size, 0, none⟩) 27 27) ∧ RowS w' w.heap.size kwS ∧ Below w.heap.size w w' := by
  go_enter Tryd.func25, Tryd.ntmps25
  go_wp2
  go_ret
  exact ⟨rfl, Bk.new _ _ _, (Below.refl _ _).alloc (Nat.le_refl _) _⟩
set_option maxRecDepth 100000 in
set_option maxHeartbeats 2000000 in
theorem refKeyword_any (s : ByteArray) (w : World) : Calls Tryd.prog 15 #[.string s] w fun e w' => e = .returned (.bool (kwB s.data.toList)) ∧ Below w.heap.size w w' := by
  rw [kwB_of]
  have HL : Hid (kwS.length = 27) := Lib.hid rfl
  go_enter Tryd.func15, Tryd.ntmps15
  go_wp2_with fail
  refine (keywords_any _).mono ?_
  rintro e w2 ⟨rfl, hr, hb⟩
  have HR := Lib.hid hr
  have HB := Lib.hid hb
  clear hr hb
  go_wp2_with fail
  go_loop [7] (fun i => ∃ k : Nat, k ≤ 27 ∧ i = .int .i64 k ∧ Hid (∀ x ∈ kwL.take k, x ≠ s.toList)) (fun i => 27 - (intOf i).toNat)
  case atStart => exact ⟨0, Nat.zero_le _, rfl, Lib.hid (fun x hx => by cases hx)⟩
  case round =>
    obtain ⟨k, hk, rfl, HN⟩ := hrel
    by_cases hlt : k < 27
    · obtain ⟨x, hx⟩ : ∃ x, kwS[k]? = some x := ⟨_, List.getElem?_eq_getElem (by rw [HL.out]; exact hlt)⟩
      have c0 := HR.out.cell hx
      have HX := Lib.hid (kwS_at hx)
      clear hx
      by_cases he : x.toList = s.toList
      · have t0 := kw_yes he
        have HT : Hid (decide (s.toList ∈ kwL) = true) := Lib.hid (by rw [← he]; exact decide_eq_true (List.mem_of_getElem? HX.out))
        clear he
        go_wp2
        go_ret
        exact ⟨ret_bool HT.out.symm, HB.out⟩
      · have t0 := kw_no he
        have HM : Hid (∀ y ∈ kwL.take (k + 1), y ≠ s.toList) := Lib.hid (fun y hy => by
          rw [List.take_add_one, HX.out] at hy
          rcases List.mem_append.1 hy with h | h
          · exact HN.out y h
          · have : y = x.toList := by simpa using h
            rw [this]
            exact he)
        clear he
        go_wp2
        go_round
        case rel => exact ⟨k + 1, hlt, by go_num, HM⟩
        case measure => simp [intOf]; omega
    · have HT : Hid (decide (s.toList ∈ kwL) = false) := Lib.hid (by
        rw [decide_eq_false_iff_not]
        intro hm
        have := HN.out s.toList (by rw [List.take_of_length_le (by have : kwL.length = 27 := rfl; omega)]; exact hm)
        exact this rfl)
      go_wp2
      go_ret
      exact ⟨ret_bool HT.out.symm, HB.out⟩
end Go.Proofs.YtemdcgeopaphaaaDoor
