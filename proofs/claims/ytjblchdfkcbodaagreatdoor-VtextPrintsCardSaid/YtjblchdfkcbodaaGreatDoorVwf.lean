/-
  Well formed, by the reference. (Written by gen_wf.py.)
-/
import Derived.Test.YtjblchdfkcbodaaGreatDoorVrf
namespace Go.Proofs.YtjblchdfkcbodaaGreatDoor
open Go.RowKit

set_option maxRecDepth 100000 in
set_option maxHeartbeats 4000000 in
set_option linter.unusedVariables false in
theorem wfr_0 (m : Nat) (IH : Hid (∀ (x : VT) (w : World) (v : Value), x.size ≤ m → Lies w (Lo w) x v → Calls Tryz.prog 30 #[v] w (Gives (.bool x.wf) w))) (i : Int) (t : ByteArray) (its : List VT) (ks : List ByteArray) (A : Option Addr) (c : Nat) (A' : Option Addr) (c' : Nat) (w : World) (hL : LiesL w (Lo w) A 0 its) (hS : LiesS w (Lo w) A' ks)
    (hlc : its.length ≤ c) (hcm : c ≤ 9223372036854775807) (hkc : ks.length ≤ c') (hcm' : c' ≤ 9223372036854775807) (hsz : sizes its ≤ m) :
    Calls Tryz.prog 30 #[vag 0 i t A its.length c A' ks.length c'] w (Gives (.bool (VT.mk 0 i t its ks).wf) w) := by
  have HS := Lib.hid hS
  have HL := Lib.hid hL
  clear hS hL
  unfold vag
  go_enter Tryz.func30, Tryz.ntmps30
  go_wp2
  obtain ⟨w1, hw1⟩ : ∃ w1, w1 = w.alloc (.cells #[.int .i64 0, .int .i64 i, .string t, .slice A its.length c, .slice A' ks.length c'] 25) := ⟨_, rfl⟩
  have B0 : Hid (Below w.heap.size w w1) := Lib.hid (by rw [hw1]; exact below_one _ _)
  have S1 : Hid (w.heap.size < w1.heap.size) := Lib.hid (by rw [hw1]; simp)
  have D : Hid (∀ j, w1.cell? ⟨w.heap.size, j, none⟩ = (#[.int .i64 0, .int .i64 i, .string t, .slice A its.length c, .slice A' ks.length c'] : Array Value)[j]?) := Lib.hid (fun j => by rw [hw1, World.cell?_alloc_at _ _ _ _ rfl])
  rw [← hw1]
  have HW := Lib.hid hw1
  clear hw1
  go_loopw [3] (fun s wr => ∃ j : Nat, j ≤ its.length ∧ s = .int .i64 j ∧ Hid (alls okF (its.take j) = true) ∧ Hid (Below w1.heap.size w1 wr)) (fun s _ => its.length - (intOf s).toNat)
  case atStart => exact ⟨0, by omega, rfl, Lib.hid rfl, Lib.hid (Below.refl _ _)⟩
  case round =>
    obtain ⟨j, hjn, rfl, ha, hb⟩ := hrel
    have C3 := (hb.out.cell (p := ⟨w.heap.size, 3, none⟩) S1.out).trans (D.out 3)
    by_cases hlt : j < its.length
    · obtain ⟨g, o, k', i', t', B, n', c1, B', n1, c2, rfl, hg, e0, e1, e2, e3, e4, hx⟩ := (HL.out).at_ (j := j) (x := its[j]'hlt) (List.getElem?_eq_getElem _)
      have hj := alls_take (p := okF) (List.getElem?_eq_getElem (l := its) (i := j) hlt)
      have hle := size_at (List.getElem?_eq_getElem (l := its) (i := j) hlt)
      have hfl := fun h => alls_false (p := okF) (List.getElem?_eq_getElem (l := its) (i := j) hlt) h
      have hb' : Below w.heap.size w wr := below_next B0.out hb.out
      have cc := fun (q : Nat) => hb'.cell (p := ⟨g, q, none⟩) hg
      rw [Nat.zero_add] at e0 e1 e2 e3 e4
      rw [← cc] at e0 e1 e2 e3 e4
      have hc := IH.out (its[j]'hlt) wr _ (by omega) (hx.below hb')
      generalize its[j]'hlt = x at *
      unfold VT.wf at hc
      have HC := Lib.hid hc
      rw [ha.out, Bool.true_and] at hj
      have HJ := Lib.hid hj
      have HF := Lib.hid hfl
      clear hc hx hb' cc hj hfl
      unfold vag at HC
      go_wp2_with fail
      refine (HC.out).mono ?_
      rintro e w' ⟨rfl, hb2⟩
      have HB2 := Lib.hid (below_next hb.out hb2)
      clear hb2
      cases hxx : x.all okF with
      | true =>
        have HXX := Lib.hid hxx
        clear hxx
        go_wp2
        go_roundw
        case rel => exact ⟨j + 1, by omega, by go_num, Lib.hid (by rw [HJ.out, HXX.out]), HB2⟩
        case measure => simp [intOf]; omega
      | false =>
        have HXX := Lib.hid (HF.out hxx)
        clear hxx
        go_wp2
        go_ret
        exact ⟨ret_bool (by rw [VT.wf, VT.all_mk, HXX.out, Bool.and_false]), below_next B0.out HB2.out⟩
    · obtain rfl : j = its.length := by omega
      have HA : Hid (alls okF its = true) := Lib.hid (by rw [← ha.out, List.take_length])
      have C0 := (hb.out.cell (p := ⟨w.heap.size, 0, none⟩) S1.out).trans (D.out 0)
      have C1 := (hb.out.cell (p := ⟨w.heap.size, 1, none⟩) S1.out).trans (D.out 1)
      have C2 := (hb.out.cell (p := ⟨w.heap.size, 2, none⟩) S1.out).trans (D.out 2)
      have C4 := (hb.out.cell (p := ⟨w.heap.size, 4, none⟩) S1.out).trans (D.out 4)
      clear hlt ha
      by_cases hI0 : i = 0
      · have fhI0 : (i == 0) = true := by rw [beq_iff_eq]; omega
        by_cases hT : t.size = 0
        · have fhT : (t.toList == []) = true := by rw [tl_empty]; exact decide_eq_true hT
          by_cases hN : its.length = 0
          · have fhN : (((its.length : Nat) : Int) == 0) = true := by rw [beq_iff_eq]; omega
            by_cases hK : ks.length = 0
            · have fhK : (((ks.length : Nat) : Int) == 0) = true := by rw [beq_iff_eq]; omega
              have key : okF (.mk 0 i t its ks) = true := by rw [okF_0]; simp [*]
              have KEY := Lib.hid key
              clear hI0 hT hN hK key
              go_wp2
              go_ret
              exact ⟨ret_bool (by rw [VT.wf, VT.all_mk, KEY.out, HA.out]; rfl), below_next B0.out hb.out⟩
            · have fhK : (((ks.length : Nat) : Int) == 0) = false := by rw [beq_eq_false_iff_ne]; omega
              have key : okF (.mk 0 i t its ks) = false := by rw [okF_0]; simp [*]
              have KEY := Lib.hid key
              clear hI0 hT hN hK key
              go_wp2
              go_ret
              exact ⟨ret_bool (by rw [VT.wf, VT.all_mk, KEY.out, HA.out]; rfl), below_next B0.out hb.out⟩
          · have fhN : (((its.length : Nat) : Int) == 0) = false := by rw [beq_eq_false_iff_ne]; omega
            have key : okF (.mk 0 i t its ks) = false := by rw [okF_0]; simp [*]
            have KEY := Lib.hid key
            clear hI0 hT hN key
            go_wp2
            go_ret
            exact ⟨ret_bool (by rw [VT.wf, VT.all_mk, KEY.out, HA.out]; rfl), below_next B0.out hb.out⟩
        · have fhT : (t.toList == []) = false := by rw [tl_empty]; exact decide_eq_false hT
          have key : okF (.mk 0 i t its ks) = false := by rw [okF_0]; simp [*]
          have KEY := Lib.hid key
          clear hI0 hT key
          go_wp2
          go_ret
          exact ⟨ret_bool (by rw [VT.wf, VT.all_mk, KEY.out, HA.out]; rfl), below_next B0.out hb.out⟩
      · have fhI0 : (i == 0) = false := by rw [beq_eq_false_iff_ne]; omega
        have key : okF (.mk 0 i t its ks) = false := by rw [okF_0]; simp [*]
        have KEY := Lib.hid key
        clear hI0 key
        go_wp2
        go_ret
        exact ⟨ret_bool (by rw [VT.wf, VT.all_mk, KEY.out, HA.out]; rfl), below_next B0.out hb.out⟩

set_option maxRecDepth 100000 in
set_option maxHeartbeats 4000000 in
set_option linter.unusedVariables false in
theorem wfr_1 (m : Nat) (IH : Hid (∀ (x : VT) (w : World) (v : Value), x.size ≤ m → Lies w (Lo w) x v → Calls Tryz.prog 30 #[v] w (Gives (.bool x.wf) w))) (i : Int) (t : ByteArray) (its : List VT) (ks : List ByteArray) (A : Option Addr) (c : Nat) (A' : Option Addr) (c' : Nat) (w : World) (hL : LiesL w (Lo w) A 0 its) (hS : LiesS w (Lo w) A' ks)
    (hlc : its.length ≤ c) (hcm : c ≤ 9223372036854775807) (hkc : ks.length ≤ c') (hcm' : c' ≤ 9223372036854775807) (hsz : sizes its ≤ m) :
    Calls Tryz.prog 30 #[vag 1 i t A its.length c A' ks.length c'] w (Gives (.bool (VT.mk 1 i t its ks).wf) w) := by
  have HS := Lib.hid hS
  have HL := Lib.hid hL
  clear hS hL
  unfold vag
  go_enter Tryz.func30, Tryz.ntmps30
  go_wp2
  obtain ⟨w1, hw1⟩ : ∃ w1, w1 = w.alloc (.cells #[.int .i64 1, .int .i64 i, .string t, .slice A its.length c, .slice A' ks.length c'] 25) := ⟨_, rfl⟩
  have B0 : Hid (Below w.heap.size w w1) := Lib.hid (by rw [hw1]; exact below_one _ _)
  have S1 : Hid (w.heap.size < w1.heap.size) := Lib.hid (by rw [hw1]; simp)
  have D : Hid (∀ j, w1.cell? ⟨w.heap.size, j, none⟩ = (#[.int .i64 1, .int .i64 i, .string t, .slice A its.length c, .slice A' ks.length c'] : Array Value)[j]?) := Lib.hid (fun j => by rw [hw1, World.cell?_alloc_at _ _ _ _ rfl])
  rw [← hw1]
  have HW := Lib.hid hw1
  clear hw1
  go_loopw [3] (fun s wr => ∃ j : Nat, j ≤ its.length ∧ s = .int .i64 j ∧ Hid (alls okF (its.take j) = true) ∧ Hid (Below w1.heap.size w1 wr)) (fun s _ => its.length - (intOf s).toNat)
  case atStart => exact ⟨0, by omega, rfl, Lib.hid rfl, Lib.hid (Below.refl _ _)⟩
  case round =>
    obtain ⟨j, hjn, rfl, ha, hb⟩ := hrel
    have C3 := (hb.out.cell (p := ⟨w.heap.size, 3, none⟩) S1.out).trans (D.out 3)
    by_cases hlt : j < its.length
    · obtain ⟨g, o, k', i', t', B, n', c1, B', n1, c2, rfl, hg, e0, e1, e2, e3, e4, hx⟩ := (HL.out).at_ (j := j) (x := its[j]'hlt) (List.getElem?_eq_getElem _)
      have hj := alls_take (p := okF) (List.getElem?_eq_getElem (l := its) (i := j) hlt)
      have hle := size_at (List.getElem?_eq_getElem (l := its) (i := j) hlt)
      have hfl := fun h => alls_false (p := okF) (List.getElem?_eq_getElem (l := its) (i := j) hlt) h
      have hb' : Below w.heap.size w wr := below_next B0.out hb.out
      have cc := fun (q : Nat) => hb'.cell (p := ⟨g, q, none⟩) hg
      rw [Nat.zero_add] at e0 e1 e2 e3 e4
      rw [← cc] at e0 e1 e2 e3 e4
      have hc := IH.out (its[j]'hlt) wr _ (by omega) (hx.below hb')
      generalize its[j]'hlt = x at *
      unfold VT.wf at hc
      have HC := Lib.hid hc
      rw [ha.out, Bool.true_and] at hj
      have HJ := Lib.hid hj
      have HF := Lib.hid hfl
      clear hc hx hb' cc hj hfl
      unfold vag at HC
      go_wp2_with fail
      refine (HC.out).mono ?_
      rintro e w' ⟨rfl, hb2⟩
      have HB2 := Lib.hid (below_next hb.out hb2)
      clear hb2
      cases hxx : x.all okF with
      | true =>
        have HXX := Lib.hid hxx
        clear hxx
        go_wp2
        go_roundw
        case rel => exact ⟨j + 1, by omega, by go_num, Lib.hid (by rw [HJ.out, HXX.out]), HB2⟩
        case measure => simp [intOf]; omega
      | false =>
        have HXX := Lib.hid (HF.out hxx)
        clear hxx
        go_wp2
        go_ret
        exact ⟨ret_bool (by rw [VT.wf, VT.all_mk, HXX.out, Bool.and_false]), below_next B0.out HB2.out⟩
    · obtain rfl : j = its.length := by omega
      have HA : Hid (alls okF its = true) := Lib.hid (by rw [← ha.out, List.take_length])
      have C0 := (hb.out.cell (p := ⟨w.heap.size, 0, none⟩) S1.out).trans (D.out 0)
      have C1 := (hb.out.cell (p := ⟨w.heap.size, 1, none⟩) S1.out).trans (D.out 1)
      have C2 := (hb.out.cell (p := ⟨w.heap.size, 2, none⟩) S1.out).trans (D.out 2)
      have C4 := (hb.out.cell (p := ⟨w.heap.size, 4, none⟩) S1.out).trans (D.out 4)
      clear hlt ha
      by_cases hI0 : i = 0
      · have fhI0 : (i == 0) = true := by rw [beq_iff_eq]; omega
        by_cases hT : t.size = 0
        · have fhT : (t.toList == []) = true := by rw [tl_empty]; exact decide_eq_true hT
          by_cases hN : its.length = 0
          · have fhN : (((its.length : Nat) : Int) == 0) = true := by rw [beq_iff_eq]; omega
            by_cases hK : ks.length = 0
            · have fhK : (((ks.length : Nat) : Int) == 0) = true := by rw [beq_iff_eq]; omega
              have key : okF (.mk 1 i t its ks) = true := by rw [okF_1]; simp [*]
              have KEY := Lib.hid key
              clear hI0 hT hN hK key
              go_wp2
              go_ret
              exact ⟨ret_bool (by rw [VT.wf, VT.all_mk, KEY.out, HA.out]; rfl), below_next B0.out hb.out⟩
            · have fhK : (((ks.length : Nat) : Int) == 0) = false := by rw [beq_eq_false_iff_ne]; omega
              have key : okF (.mk 1 i t its ks) = false := by rw [okF_1]; simp [*]
              have KEY := Lib.hid key
              clear hI0 hT hN hK key
              go_wp2
              go_ret
              exact ⟨ret_bool (by rw [VT.wf, VT.all_mk, KEY.out, HA.out]; rfl), below_next B0.out hb.out⟩
          · have fhN : (((its.length : Nat) : Int) == 0) = false := by rw [beq_eq_false_iff_ne]; omega
            have key : okF (.mk 1 i t its ks) = false := by rw [okF_1]; simp [*]
            have KEY := Lib.hid key
            clear hI0 hT hN key
            go_wp2
            go_ret
            exact ⟨ret_bool (by rw [VT.wf, VT.all_mk, KEY.out, HA.out]; rfl), below_next B0.out hb.out⟩
        · have fhT : (t.toList == []) = false := by rw [tl_empty]; exact decide_eq_false hT
          have key : okF (.mk 1 i t its ks) = false := by rw [okF_1]; simp [*]
          have KEY := Lib.hid key
          clear hI0 hT key
          go_wp2
          go_ret
          exact ⟨ret_bool (by rw [VT.wf, VT.all_mk, KEY.out, HA.out]; rfl), below_next B0.out hb.out⟩
      · have fhI0 : (i == 0) = false := by rw [beq_eq_false_iff_ne]; omega
        by_cases hI1 : i = 1
        · have fhI1 : (i == 1) = true := by rw [beq_iff_eq]; omega
          by_cases hT : t.size = 0
          · have fhT : (t.toList == []) = true := by rw [tl_empty]; exact decide_eq_true hT
            by_cases hN : its.length = 0
            · have fhN : (((its.length : Nat) : Int) == 0) = true := by rw [beq_iff_eq]; omega
              by_cases hK : ks.length = 0
              · have fhK : (((ks.length : Nat) : Int) == 0) = true := by rw [beq_iff_eq]; omega
                have key : okF (.mk 1 i t its ks) = true := by rw [okF_1]; simp [*]
                have KEY := Lib.hid key
                clear hI0 hI1 hT hN hK key
                go_wp2
                go_ret
                exact ⟨ret_bool (by rw [VT.wf, VT.all_mk, KEY.out, HA.out]; rfl), below_next B0.out hb.out⟩
              · have fhK : (((ks.length : Nat) : Int) == 0) = false := by rw [beq_eq_false_iff_ne]; omega
                have key : okF (.mk 1 i t its ks) = false := by rw [okF_1]; simp [*]
                have KEY := Lib.hid key
                clear hI0 hI1 hT hN hK key
                go_wp2
                go_ret
                exact ⟨ret_bool (by rw [VT.wf, VT.all_mk, KEY.out, HA.out]; rfl), below_next B0.out hb.out⟩
            · have fhN : (((its.length : Nat) : Int) == 0) = false := by rw [beq_eq_false_iff_ne]; omega
              have key : okF (.mk 1 i t its ks) = false := by rw [okF_1]; simp [*]
              have KEY := Lib.hid key
              clear hI0 hI1 hT hN key
              go_wp2
              go_ret
              exact ⟨ret_bool (by rw [VT.wf, VT.all_mk, KEY.out, HA.out]; rfl), below_next B0.out hb.out⟩
          · have fhT : (t.toList == []) = false := by rw [tl_empty]; exact decide_eq_false hT
            have key : okF (.mk 1 i t its ks) = false := by rw [okF_1]; simp [*]
            have KEY := Lib.hid key
            clear hI0 hI1 hT key
            go_wp2
            go_ret
            exact ⟨ret_bool (by rw [VT.wf, VT.all_mk, KEY.out, HA.out]; rfl), below_next B0.out hb.out⟩
        · have fhI1 : (i == 1) = false := by rw [beq_eq_false_iff_ne]; omega
          have key : okF (.mk 1 i t its ks) = false := by rw [okF_1]; simp [*]
          have KEY := Lib.hid key
          clear hI0 hI1 key
          go_wp2
          go_ret
          exact ⟨ret_bool (by rw [VT.wf, VT.all_mk, KEY.out, HA.out]; rfl), below_next B0.out hb.out⟩

set_option maxRecDepth 100000 in
set_option maxHeartbeats 4000000 in
set_option linter.unusedVariables false in
theorem wfr_2 (m : Nat) (IH : Hid (∀ (x : VT) (w : World) (v : Value), x.size ≤ m → Lies w (Lo w) x v → Calls Tryz.prog 30 #[v] w (Gives (.bool x.wf) w))) (i : Int) (t : ByteArray) (its : List VT) (ks : List ByteArray) (A : Option Addr) (c : Nat) (A' : Option Addr) (c' : Nat) (w : World) (hL : LiesL w (Lo w) A 0 its) (hS : LiesS w (Lo w) A' ks)
    (hlc : its.length ≤ c) (hcm : c ≤ 9223372036854775807) (hkc : ks.length ≤ c') (hcm' : c' ≤ 9223372036854775807) (hsz : sizes its ≤ m) :
    Calls Tryz.prog 30 #[vag 2 i t A its.length c A' ks.length c'] w (Gives (.bool (VT.mk 2 i t its ks).wf) w) := by
  have HS := Lib.hid hS
  have HL := Lib.hid hL
  clear hS hL
  unfold vag
  go_enter Tryz.func30, Tryz.ntmps30
  go_wp2
  obtain ⟨w1, hw1⟩ : ∃ w1, w1 = w.alloc (.cells #[.int .i64 2, .int .i64 i, .string t, .slice A its.length c, .slice A' ks.length c'] 25) := ⟨_, rfl⟩
  have B0 : Hid (Below w.heap.size w w1) := Lib.hid (by rw [hw1]; exact below_one _ _)
  have S1 : Hid (w.heap.size < w1.heap.size) := Lib.hid (by rw [hw1]; simp)
  have D : Hid (∀ j, w1.cell? ⟨w.heap.size, j, none⟩ = (#[.int .i64 2, .int .i64 i, .string t, .slice A its.length c, .slice A' ks.length c'] : Array Value)[j]?) := Lib.hid (fun j => by rw [hw1, World.cell?_alloc_at _ _ _ _ rfl])
  rw [← hw1]
  have HW := Lib.hid hw1
  clear hw1
  go_loopw [3] (fun s wr => ∃ j : Nat, j ≤ its.length ∧ s = .int .i64 j ∧ Hid (alls okF (its.take j) = true) ∧ Hid (Below w1.heap.size w1 wr)) (fun s _ => its.length - (intOf s).toNat)
  case atStart => exact ⟨0, by omega, rfl, Lib.hid rfl, Lib.hid (Below.refl _ _)⟩
  case round =>
    obtain ⟨j, hjn, rfl, ha, hb⟩ := hrel
    have C3 := (hb.out.cell (p := ⟨w.heap.size, 3, none⟩) S1.out).trans (D.out 3)
    by_cases hlt : j < its.length
    · obtain ⟨g, o, k', i', t', B, n', c1, B', n1, c2, rfl, hg, e0, e1, e2, e3, e4, hx⟩ := (HL.out).at_ (j := j) (x := its[j]'hlt) (List.getElem?_eq_getElem _)
      have hj := alls_take (p := okF) (List.getElem?_eq_getElem (l := its) (i := j) hlt)
      have hle := size_at (List.getElem?_eq_getElem (l := its) (i := j) hlt)
      have hfl := fun h => alls_false (p := okF) (List.getElem?_eq_getElem (l := its) (i := j) hlt) h
      have hb' : Below w.heap.size w wr := below_next B0.out hb.out
      have cc := fun (q : Nat) => hb'.cell (p := ⟨g, q, none⟩) hg
      rw [Nat.zero_add] at e0 e1 e2 e3 e4
      rw [← cc] at e0 e1 e2 e3 e4
      have hc := IH.out (its[j]'hlt) wr _ (by omega) (hx.below hb')
      generalize its[j]'hlt = x at *
      unfold VT.wf at hc
      have HC := Lib.hid hc
      rw [ha.out, Bool.true_and] at hj
      have HJ := Lib.hid hj
      have HF := Lib.hid hfl
      clear hc hx hb' cc hj hfl
      unfold vag at HC
      go_wp2_with fail
      refine (HC.out).mono ?_
      rintro e w' ⟨rfl, hb2⟩
      have HB2 := Lib.hid (below_next hb.out hb2)
      clear hb2
      cases hxx : x.all okF with
      | true =>
        have HXX := Lib.hid hxx
        clear hxx
        go_wp2
        go_roundw
        case rel => exact ⟨j + 1, by omega, by go_num, Lib.hid (by rw [HJ.out, HXX.out]), HB2⟩
        case measure => simp [intOf]; omega
      | false =>
        have HXX := Lib.hid (HF.out hxx)
        clear hxx
        go_wp2
        go_ret
        exact ⟨ret_bool (by rw [VT.wf, VT.all_mk, HXX.out, Bool.and_false]), below_next B0.out HB2.out⟩
    · obtain rfl : j = its.length := by omega
      have HA : Hid (alls okF its = true) := Lib.hid (by rw [← ha.out, List.take_length])
      have C0 := (hb.out.cell (p := ⟨w.heap.size, 0, none⟩) S1.out).trans (D.out 0)
      have C1 := (hb.out.cell (p := ⟨w.heap.size, 1, none⟩) S1.out).trans (D.out 1)
      have C2 := (hb.out.cell (p := ⟨w.heap.size, 2, none⟩) S1.out).trans (D.out 2)
      have C4 := (hb.out.cell (p := ⟨w.heap.size, 4, none⟩) S1.out).trans (D.out 4)
      clear hlt ha
      by_cases hT : t.size = 0
      · have fhT : (t.toList == []) = true := by rw [tl_empty]; exact decide_eq_true hT
        by_cases hN : its.length = 0
        · have fhN : (((its.length : Nat) : Int) == 0) = true := by rw [beq_iff_eq]; omega
          by_cases hK : ks.length = 0
          · have fhK : (((ks.length : Nat) : Int) == 0) = true := by rw [beq_iff_eq]; omega
            have key : okF (.mk 2 i t its ks) = true := by rw [okF_2]; simp [*]
            have KEY := Lib.hid key
            clear hT hN hK key
            go_wp2
            go_ret
            exact ⟨ret_bool (by rw [VT.wf, VT.all_mk, KEY.out, HA.out]; rfl), below_next B0.out hb.out⟩
          · have fhK : (((ks.length : Nat) : Int) == 0) = false := by rw [beq_eq_false_iff_ne]; omega
            have key : okF (.mk 2 i t its ks) = false := by rw [okF_2]; simp [*]
            have KEY := Lib.hid key
            clear hT hN hK key
            go_wp2
            go_ret
            exact ⟨ret_bool (by rw [VT.wf, VT.all_mk, KEY.out, HA.out]; rfl), below_next B0.out hb.out⟩
        · have fhN : (((its.length : Nat) : Int) == 0) = false := by rw [beq_eq_false_iff_ne]; omega
          have key : okF (.mk 2 i t its ks) = false := by rw [okF_2]; simp [*]
          have KEY := Lib.hid key
          clear hT hN key
          go_wp2
          go_ret
          exact ⟨ret_bool (by rw [VT.wf, VT.all_mk, KEY.out, HA.out]; rfl), below_next B0.out hb.out⟩
      · have fhT : (t.toList == []) = false := by rw [tl_empty]; exact decide_eq_false hT
        have key : okF (.mk 2 i t its ks) = false := by rw [okF_2]; simp [*]
        have KEY := Lib.hid key
        clear hT key
        go_wp2
        go_ret
        exact ⟨ret_bool (by rw [VT.wf, VT.all_mk, KEY.out, HA.out]; rfl), below_next B0.out hb.out⟩

set_option maxRecDepth 100000 in
set_option maxHeartbeats 4000000 in
set_option linter.unusedVariables false in
theorem wfr_3 (m : Nat) (IH : Hid (∀ (x : VT) (w : World) (v : Value), x.size ≤ m → Lies w (Lo w) x v → Calls Tryz.prog 30 #[v] w (Gives (.bool x.wf) w))) (i : Int) (t : ByteArray) (its : List VT) (ks : List ByteArray) (A : Option Addr) (c : Nat) (A' : Option Addr) (c' : Nat) (w : World) (hL : LiesL w (Lo w) A 0 its) (hS : LiesS w (Lo w) A' ks)
    (hlc : its.length ≤ c) (hcm : c ≤ 9223372036854775807) (hkc : ks.length ≤ c') (hcm' : c' ≤ 9223372036854775807) (hsz : sizes its ≤ m) :
    Calls Tryz.prog 30 #[vag 3 i t A its.length c A' ks.length c'] w (Gives (.bool (VT.mk 3 i t its ks).wf) w) := by
  have HS := Lib.hid hS
  have HL := Lib.hid hL
  clear hS hL
  unfold vag
  go_enter Tryz.func30, Tryz.ntmps30
  go_wp2
  obtain ⟨w1, hw1⟩ : ∃ w1, w1 = w.alloc (.cells #[.int .i64 3, .int .i64 i, .string t, .slice A its.length c, .slice A' ks.length c'] 25) := ⟨_, rfl⟩
  have B0 : Hid (Below w.heap.size w w1) := Lib.hid (by rw [hw1]; exact below_one _ _)
  have S1 : Hid (w.heap.size < w1.heap.size) := Lib.hid (by rw [hw1]; simp)
  have D : Hid (∀ j, w1.cell? ⟨w.heap.size, j, none⟩ = (#[.int .i64 3, .int .i64 i, .string t, .slice A its.length c, .slice A' ks.length c'] : Array Value)[j]?) := Lib.hid (fun j => by rw [hw1, World.cell?_alloc_at _ _ _ _ rfl])
  rw [← hw1]
  have HW := Lib.hid hw1
  clear hw1
  go_loopw [3] (fun s wr => ∃ j : Nat, j ≤ its.length ∧ s = .int .i64 j ∧ Hid (alls okF (its.take j) = true) ∧ Hid (Below w1.heap.size w1 wr)) (fun s _ => its.length - (intOf s).toNat)
  case atStart => exact ⟨0, by omega, rfl, Lib.hid rfl, Lib.hid (Below.refl _ _)⟩
  case round =>
    obtain ⟨j, hjn, rfl, ha, hb⟩ := hrel
    have C3 := (hb.out.cell (p := ⟨w.heap.size, 3, none⟩) S1.out).trans (D.out 3)
    by_cases hlt : j < its.length
    · obtain ⟨g, o, k', i', t', B, n', c1, B', n1, c2, rfl, hg, e0, e1, e2, e3, e4, hx⟩ := (HL.out).at_ (j := j) (x := its[j]'hlt) (List.getElem?_eq_getElem _)
      have hj := alls_take (p := okF) (List.getElem?_eq_getElem (l := its) (i := j) hlt)
      have hle := size_at (List.getElem?_eq_getElem (l := its) (i := j) hlt)
      have hfl := fun h => alls_false (p := okF) (List.getElem?_eq_getElem (l := its) (i := j) hlt) h
      have hb' : Below w.heap.size w wr := below_next B0.out hb.out
      have cc := fun (q : Nat) => hb'.cell (p := ⟨g, q, none⟩) hg
      rw [Nat.zero_add] at e0 e1 e2 e3 e4
      rw [← cc] at e0 e1 e2 e3 e4
      have hc := IH.out (its[j]'hlt) wr _ (by omega) (hx.below hb')
      generalize its[j]'hlt = x at *
      unfold VT.wf at hc
      have HC := Lib.hid hc
      rw [ha.out, Bool.true_and] at hj
      have HJ := Lib.hid hj
      have HF := Lib.hid hfl
      clear hc hx hb' cc hj hfl
      unfold vag at HC
      go_wp2_with fail
      refine (HC.out).mono ?_
      rintro e w' ⟨rfl, hb2⟩
      have HB2 := Lib.hid (below_next hb.out hb2)
      clear hb2
      cases hxx : x.all okF with
      | true =>
        have HXX := Lib.hid hxx
        clear hxx
        go_wp2
        go_roundw
        case rel => exact ⟨j + 1, by omega, by go_num, Lib.hid (by rw [HJ.out, HXX.out]), HB2⟩
        case measure => simp [intOf]; omega
      | false =>
        have HXX := Lib.hid (HF.out hxx)
        clear hxx
        go_wp2
        go_ret
        exact ⟨ret_bool (by rw [VT.wf, VT.all_mk, HXX.out, Bool.and_false]), below_next B0.out HB2.out⟩
    · obtain rfl : j = its.length := by omega
      have HA : Hid (alls okF its = true) := Lib.hid (by rw [← ha.out, List.take_length])
      have C0 := (hb.out.cell (p := ⟨w.heap.size, 0, none⟩) S1.out).trans (D.out 0)
      have C1 := (hb.out.cell (p := ⟨w.heap.size, 1, none⟩) S1.out).trans (D.out 1)
      have C2 := (hb.out.cell (p := ⟨w.heap.size, 2, none⟩) S1.out).trans (D.out 2)
      have C4 := (hb.out.cell (p := ⟨w.heap.size, 4, none⟩) S1.out).trans (D.out 4)
      clear hlt ha
      by_cases hI0 : i = 0
      · have fhI0 : (i == 0) = true := by rw [beq_iff_eq]; omega
        by_cases hN : its.length = 0
        · have fhN : (((its.length : Nat) : Int) == 0) = true := by rw [beq_iff_eq]; omega
          by_cases hK : ks.length = 0
          · have fhK : (((ks.length : Nat) : Int) == 0) = true := by rw [beq_iff_eq]; omega
            have key : okF (.mk 3 i t its ks) = true := by rw [okF_3]; simp [*]
            have KEY := Lib.hid key
            clear hI0 hN hK key
            go_wp2
            go_ret
            exact ⟨ret_bool (by rw [VT.wf, VT.all_mk, KEY.out, HA.out]; rfl), below_next B0.out hb.out⟩
          · have fhK : (((ks.length : Nat) : Int) == 0) = false := by rw [beq_eq_false_iff_ne]; omega
            have key : okF (.mk 3 i t its ks) = false := by rw [okF_3]; simp [*]
            have KEY := Lib.hid key
            clear hI0 hN hK key
            go_wp2
            go_ret
            exact ⟨ret_bool (by rw [VT.wf, VT.all_mk, KEY.out, HA.out]; rfl), below_next B0.out hb.out⟩
        · have fhN : (((its.length : Nat) : Int) == 0) = false := by rw [beq_eq_false_iff_ne]; omega
          have key : okF (.mk 3 i t its ks) = false := by rw [okF_3]; simp [*]
          have KEY := Lib.hid key
          clear hI0 hN key
          go_wp2
          go_ret
          exact ⟨ret_bool (by rw [VT.wf, VT.all_mk, KEY.out, HA.out]; rfl), below_next B0.out hb.out⟩
      · have fhI0 : (i == 0) = false := by rw [beq_eq_false_iff_ne]; omega
        have key : okF (.mk 3 i t its ks) = false := by rw [okF_3]; simp [*]
        have KEY := Lib.hid key
        clear hI0 key
        go_wp2
        go_ret
        exact ⟨ret_bool (by rw [VT.wf, VT.all_mk, KEY.out, HA.out]; rfl), below_next B0.out hb.out⟩

set_option maxRecDepth 100000 in
set_option maxHeartbeats 4000000 in
set_option linter.unusedVariables false in
theorem wfr_4 (m : Nat) (IH : Hid (∀ (x : VT) (w : World) (v : Value), x.size ≤ m → Lies w (Lo w) x v → Calls Tryz.prog 30 #[v] w (Gives (.bool x.wf) w))) (i : Int) (t : ByteArray) (its : List VT) (ks : List ByteArray) (A : Option Addr) (c : Nat) (A' : Option Addr) (c' : Nat) (w : World) (hL : LiesL w (Lo w) A 0 its) (hS : LiesS w (Lo w) A' ks)
    (hlc : its.length ≤ c) (hcm : c ≤ 9223372036854775807) (hkc : ks.length ≤ c') (hcm' : c' ≤ 9223372036854775807) (hsz : sizes its ≤ m) :
    Calls Tryz.prog 30 #[vag 4 i t A its.length c A' ks.length c'] w (Gives (.bool (VT.mk 4 i t its ks).wf) w) := by
  have HS := Lib.hid hS
  have HL := Lib.hid hL
  clear hS hL
  unfold vag
  go_enter Tryz.func30, Tryz.ntmps30
  go_wp2
  obtain ⟨w1, hw1⟩ : ∃ w1, w1 = w.alloc (.cells #[.int .i64 4, .int .i64 i, .string t, .slice A its.length c, .slice A' ks.length c'] 25) := ⟨_, rfl⟩
  have B0 : Hid (Below w.heap.size w w1) := Lib.hid (by rw [hw1]; exact below_one _ _)
  have S1 : Hid (w.heap.size < w1.heap.size) := Lib.hid (by rw [hw1]; simp)
  have D : Hid (∀ j, w1.cell? ⟨w.heap.size, j, none⟩ = (#[.int .i64 4, .int .i64 i, .string t, .slice A its.length c, .slice A' ks.length c'] : Array Value)[j]?) := Lib.hid (fun j => by rw [hw1, World.cell?_alloc_at _ _ _ _ rfl])
  rw [← hw1]
  have HW := Lib.hid hw1
  clear hw1
  go_loopw [3] (fun s wr => ∃ j : Nat, j ≤ its.length ∧ s = .int .i64 j ∧ Hid (alls okF (its.take j) = true) ∧ Hid (Below w1.heap.size w1 wr)) (fun s _ => its.length - (intOf s).toNat)
  case atStart => exact ⟨0, by omega, rfl, Lib.hid rfl, Lib.hid (Below.refl _ _)⟩
  case round =>
    obtain ⟨j, hjn, rfl, ha, hb⟩ := hrel
    have C3 := (hb.out.cell (p := ⟨w.heap.size, 3, none⟩) S1.out).trans (D.out 3)
    by_cases hlt : j < its.length
    · obtain ⟨g, o, k', i', t', B, n', c1, B', n1, c2, rfl, hg, e0, e1, e2, e3, e4, hx⟩ := (HL.out).at_ (j := j) (x := its[j]'hlt) (List.getElem?_eq_getElem _)
      have hj := alls_take (p := okF) (List.getElem?_eq_getElem (l := its) (i := j) hlt)
      have hle := size_at (List.getElem?_eq_getElem (l := its) (i := j) hlt)
      have hfl := fun h => alls_false (p := okF) (List.getElem?_eq_getElem (l := its) (i := j) hlt) h
      have hb' : Below w.heap.size w wr := below_next B0.out hb.out
      have cc := fun (q : Nat) => hb'.cell (p := ⟨g, q, none⟩) hg
      rw [Nat.zero_add] at e0 e1 e2 e3 e4
      rw [← cc] at e0 e1 e2 e3 e4
      have hc := IH.out (its[j]'hlt) wr _ (by omega) (hx.below hb')
      generalize its[j]'hlt = x at *
      unfold VT.wf at hc
      have HC := Lib.hid hc
      rw [ha.out, Bool.true_and] at hj
      have HJ := Lib.hid hj
      have HF := Lib.hid hfl
      clear hc hx hb' cc hj hfl
      unfold vag at HC
      go_wp2_with fail
      refine (HC.out).mono ?_
      rintro e w' ⟨rfl, hb2⟩
      have HB2 := Lib.hid (below_next hb.out hb2)
      clear hb2
      cases hxx : x.all okF with
      | true =>
        have HXX := Lib.hid hxx
        clear hxx
        go_wp2
        go_roundw
        case rel => exact ⟨j + 1, by omega, by go_num, Lib.hid (by rw [HJ.out, HXX.out]), HB2⟩
        case measure => simp [intOf]; omega
      | false =>
        have HXX := Lib.hid (HF.out hxx)
        clear hxx
        go_wp2
        go_ret
        exact ⟨ret_bool (by rw [VT.wf, VT.all_mk, HXX.out, Bool.and_false]), below_next B0.out HB2.out⟩
    · obtain rfl : j = its.length := by omega
      have HA : Hid (alls okF its = true) := Lib.hid (by rw [← ha.out, List.take_length])
      have C0 := (hb.out.cell (p := ⟨w.heap.size, 0, none⟩) S1.out).trans (D.out 0)
      have C1 := (hb.out.cell (p := ⟨w.heap.size, 1, none⟩) S1.out).trans (D.out 1)
      have C2 := (hb.out.cell (p := ⟨w.heap.size, 2, none⟩) S1.out).trans (D.out 2)
      have C4 := (hb.out.cell (p := ⟨w.heap.size, 4, none⟩) S1.out).trans (D.out 4)
      clear hlt ha
      by_cases hI0 : i = 0
      · have fhI0 : (i == 0) = true := by rw [beq_iff_eq]; omega
        by_cases hT : t.size = 0
        · have fhT : (t.toList == []) = true := by rw [tl_empty]; exact decide_eq_true hT
          by_cases hK : ks.length = 0
          · have fhK : (((ks.length : Nat) : Int) == 0) = true := by rw [beq_iff_eq]; omega
            have key : okF (.mk 4 i t its ks) = true := by rw [okF_4]; simp [*]
            have KEY := Lib.hid key
            clear hI0 hT hK key
            go_wp2
            go_ret
            exact ⟨ret_bool (by rw [VT.wf, VT.all_mk, KEY.out, HA.out]; rfl), below_next B0.out hb.out⟩
          · have fhK : (((ks.length : Nat) : Int) == 0) = false := by rw [beq_eq_false_iff_ne]; omega
            have key : okF (.mk 4 i t its ks) = false := by rw [okF_4]; simp [*]
            have KEY := Lib.hid key
            clear hI0 hT hK key
            go_wp2
            go_ret
            exact ⟨ret_bool (by rw [VT.wf, VT.all_mk, KEY.out, HA.out]; rfl), below_next B0.out hb.out⟩
        · have fhT : (t.toList == []) = false := by rw [tl_empty]; exact decide_eq_false hT
          have key : okF (.mk 4 i t its ks) = false := by rw [okF_4]; simp [*]
          have KEY := Lib.hid key
          clear hI0 hT key
          go_wp2
          go_ret
          exact ⟨ret_bool (by rw [VT.wf, VT.all_mk, KEY.out, HA.out]; rfl), below_next B0.out hb.out⟩
      · have fhI0 : (i == 0) = false := by rw [beq_eq_false_iff_ne]; omega
        have key : okF (.mk 4 i t its ks) = false := by rw [okF_4]; simp [*]
        have KEY := Lib.hid key
        clear hI0 key
        go_wp2
        go_ret
        exact ⟨ret_bool (by rw [VT.wf, VT.all_mk, KEY.out, HA.out]; rfl), below_next B0.out hb.out⟩

set_option maxRecDepth 100000 in
set_option maxHeartbeats 4000000 in
set_option linter.unusedVariables false in
theorem wfr_5 (m : Nat) (IH : Hid (∀ (x : VT) (w : World) (v : Value), x.size ≤ m → Lies w (Lo w) x v → Calls Tryz.prog 30 #[v] w (Gives (.bool x.wf) w))) (i : Int) (t : ByteArray) (its : List VT) (ks : List ByteArray) (A : Option Addr) (c : Nat) (A' : Option Addr) (c' : Nat) (w : World) (hL : LiesL w (Lo w) A 0 its) (hS : LiesS w (Lo w) A' ks)
    (hlc : its.length ≤ c) (hcm : c ≤ 9223372036854775807) (hkc : ks.length ≤ c') (hcm' : c' ≤ 9223372036854775807) (hsz : sizes its ≤ m) :
    Calls Tryz.prog 30 #[vag 5 i t A its.length c A' ks.length c'] w (Gives (.bool (VT.mk 5 i t its ks).wf) w) := by
  have HS := Lib.hid hS
  have HL := Lib.hid hL
  clear hS hL
  unfold vag
  go_enter Tryz.func30, Tryz.ntmps30
  go_wp2
  obtain ⟨w1, hw1⟩ : ∃ w1, w1 = w.alloc (.cells #[.int .i64 5, .int .i64 i, .string t, .slice A its.length c, .slice A' ks.length c'] 25) := ⟨_, rfl⟩
  have B0 : Hid (Below w.heap.size w w1) := Lib.hid (by rw [hw1]; exact below_one _ _)
  have S1 : Hid (w.heap.size < w1.heap.size) := Lib.hid (by rw [hw1]; simp)
  have D : Hid (∀ j, w1.cell? ⟨w.heap.size, j, none⟩ = (#[.int .i64 5, .int .i64 i, .string t, .slice A its.length c, .slice A' ks.length c'] : Array Value)[j]?) := Lib.hid (fun j => by rw [hw1, World.cell?_alloc_at _ _ _ _ rfl])
  rw [← hw1]
  have HW := Lib.hid hw1
  clear hw1
  go_loopw [3] (fun s wr => ∃ j : Nat, j ≤ its.length ∧ s = .int .i64 j ∧ Hid (alls okF (its.take j) = true) ∧ Hid (Below w1.heap.size w1 wr)) (fun s _ => its.length - (intOf s).toNat)
  case atStart => exact ⟨0, by omega, rfl, Lib.hid rfl, Lib.hid (Below.refl _ _)⟩
  case round =>
    obtain ⟨j, hjn, rfl, ha, hb⟩ := hrel
    have C3 := (hb.out.cell (p := ⟨w.heap.size, 3, none⟩) S1.out).trans (D.out 3)
    by_cases hlt : j < its.length
    · obtain ⟨g, o, k', i', t', B, n', c1, B', n1, c2, rfl, hg, e0, e1, e2, e3, e4, hx⟩ := (HL.out).at_ (j := j) (x := its[j]'hlt) (List.getElem?_eq_getElem _)
      have hj := alls_take (p := okF) (List.getElem?_eq_getElem (l := its) (i := j) hlt)
      have hle := size_at (List.getElem?_eq_getElem (l := its) (i := j) hlt)
      have hfl := fun h => alls_false (p := okF) (List.getElem?_eq_getElem (l := its) (i := j) hlt) h
      have hb' : Below w.heap.size w wr := below_next B0.out hb.out
      have cc := fun (q : Nat) => hb'.cell (p := ⟨g, q, none⟩) hg
      rw [Nat.zero_add] at e0 e1 e2 e3 e4
      rw [← cc] at e0 e1 e2 e3 e4
      have hc := IH.out (its[j]'hlt) wr _ (by omega) (hx.below hb')
      generalize its[j]'hlt = x at *
      unfold VT.wf at hc
      have HC := Lib.hid hc
      rw [ha.out, Bool.true_and] at hj
      have HJ := Lib.hid hj
      have HF := Lib.hid hfl
      clear hc hx hb' cc hj hfl
      unfold vag at HC
      go_wp2_with fail
      refine (HC.out).mono ?_
      rintro e w' ⟨rfl, hb2⟩
      have HB2 := Lib.hid (below_next hb.out hb2)
      clear hb2
      cases hxx : x.all okF with
      | true =>
        have HXX := Lib.hid hxx
        clear hxx
        go_wp2
        go_roundw
        case rel => exact ⟨j + 1, by omega, by go_num, Lib.hid (by rw [HJ.out, HXX.out]), HB2⟩
        case measure => simp [intOf]; omega
      | false =>
        have HXX := Lib.hid (HF.out hxx)
        clear hxx
        go_wp2
        go_ret
        exact ⟨ret_bool (by rw [VT.wf, VT.all_mk, HXX.out, Bool.and_false]), below_next B0.out HB2.out⟩
    · obtain rfl : j = its.length := by omega
      have HA : Hid (alls okF its = true) := Lib.hid (by rw [← ha.out, List.take_length])
      have C0 := (hb.out.cell (p := ⟨w.heap.size, 0, none⟩) S1.out).trans (D.out 0)
      have C1 := (hb.out.cell (p := ⟨w.heap.size, 1, none⟩) S1.out).trans (D.out 1)
      have C2 := (hb.out.cell (p := ⟨w.heap.size, 2, none⟩) S1.out).trans (D.out 2)
      have C4 := (hb.out.cell (p := ⟨w.heap.size, 4, none⟩) S1.out).trans (D.out 4)
      clear hlt ha
      by_cases hI0 : i = 0
      · have fhI0 : (i == 0) = true := by rw [beq_iff_eq]; omega
        by_cases hT : t.size = 0
        · have fhT : (t.toList == []) = true := by rw [tl_empty]; exact decide_eq_true hT
          by_cases hL : ks.length = its.length
          · have fhL : (((ks.length : Nat) : Int) == ((its.length : Nat) : Int)) = true := by rw [beq_iff_eq]; omega
            by_cases hR : rising ks = true
            · have fhR : rising ks = true := by simpa using hR
              have key : okF (.mk 5 i t its ks) = true := by rw [okF_5]; simp [*]
              have KEY := Lib.hid key
              clear hI0 hT hL hR key
              go_wp2_with fail
              refine (rising_any _ _ _ _ (HS.out.below (below_next B0.out hb.out)) hkc hcm').mono ?_
              rintro e w' ⟨rfl, hb2⟩
              have HB2 := Lib.hid (below_next hb.out hb2)
              clear hb2
              rw [fhR]
              go_wp2
              go_ret
              exact ⟨ret_bool (by rw [VT.wf, VT.all_mk, KEY.out, HA.out]; rfl), below_next B0.out HB2.out⟩
            · have fhR : rising ks = false := by simpa using hR
              have key : okF (.mk 5 i t its ks) = false := by rw [okF_5]; simp [*]
              have KEY := Lib.hid key
              clear hI0 hT hL hR key
              go_wp2_with fail
              refine (rising_any _ _ _ _ (HS.out.below (below_next B0.out hb.out)) hkc hcm').mono ?_
              rintro e w' ⟨rfl, hb2⟩
              have HB2 := Lib.hid (below_next hb.out hb2)
              clear hb2
              rw [fhR]
              go_wp2
              go_ret
              exact ⟨ret_bool (by rw [VT.wf, VT.all_mk, KEY.out, HA.out]; rfl), below_next B0.out HB2.out⟩
          · have fhL : (((ks.length : Nat) : Int) == ((its.length : Nat) : Int)) = false := by rw [beq_eq_false_iff_ne]; omega
            have key : okF (.mk 5 i t its ks) = false := by rw [okF_5]; simp [*]
            have KEY := Lib.hid key
            clear hI0 hT hL key
            go_wp2
            go_ret
            exact ⟨ret_bool (by rw [VT.wf, VT.all_mk, KEY.out, HA.out]; rfl), below_next B0.out hb.out⟩
        · have fhT : (t.toList == []) = false := by rw [tl_empty]; exact decide_eq_false hT
          have key : okF (.mk 5 i t its ks) = false := by rw [okF_5]; simp [*]
          have KEY := Lib.hid key
          clear hI0 hT key
          go_wp2
          go_ret
          exact ⟨ret_bool (by rw [VT.wf, VT.all_mk, KEY.out, HA.out]; rfl), below_next B0.out hb.out⟩
      · have fhI0 : (i == 0) = false := by rw [beq_eq_false_iff_ne]; omega
        have key : okF (.mk 5 i t its ks) = false := by rw [okF_5]; simp [*]
        have KEY := Lib.hid key
        clear hI0 key
        go_wp2
        go_ret
        exact ⟨ret_bool (by rw [VT.wf, VT.all_mk, KEY.out, HA.out]; rfl), below_next B0.out hb.out⟩

set_option maxRecDepth 100000 in
set_option maxHeartbeats 4000000 in
set_option linter.unusedVariables false in
theorem wfr_6 (m : Nat) (IH : Hid (∀ (x : VT) (w : World) (v : Value), x.size ≤ m → Lies w (Lo w) x v → Calls Tryz.prog 30 #[v] w (Gives (.bool x.wf) w))) (i : Int) (t : ByteArray) (its : List VT) (ks : List ByteArray) (A : Option Addr) (c : Nat) (A' : Option Addr) (c' : Nat) (w : World) (hL : LiesL w (Lo w) A 0 its) (hS : LiesS w (Lo w) A' ks)
    (hlc : its.length ≤ c) (hcm : c ≤ 9223372036854775807) (hkc : ks.length ≤ c') (hcm' : c' ≤ 9223372036854775807) (hsz : sizes its ≤ m) :
    Calls Tryz.prog 30 #[vag 6 i t A its.length c A' ks.length c'] w (Gives (.bool (VT.mk 6 i t its ks).wf) w) := by
  have HS := Lib.hid hS
  have HL := Lib.hid hL
  clear hS hL
  unfold vag
  go_enter Tryz.func30, Tryz.ntmps30
  go_wp2
  obtain ⟨w1, hw1⟩ : ∃ w1, w1 = w.alloc (.cells #[.int .i64 6, .int .i64 i, .string t, .slice A its.length c, .slice A' ks.length c'] 25) := ⟨_, rfl⟩
  have B0 : Hid (Below w.heap.size w w1) := Lib.hid (by rw [hw1]; exact below_one _ _)
  have S1 : Hid (w.heap.size < w1.heap.size) := Lib.hid (by rw [hw1]; simp)
  have D : Hid (∀ j, w1.cell? ⟨w.heap.size, j, none⟩ = (#[.int .i64 6, .int .i64 i, .string t, .slice A its.length c, .slice A' ks.length c'] : Array Value)[j]?) := Lib.hid (fun j => by rw [hw1, World.cell?_alloc_at _ _ _ _ rfl])
  rw [← hw1]
  have HW := Lib.hid hw1
  clear hw1
  go_loopw [3] (fun s wr => ∃ j : Nat, j ≤ its.length ∧ s = .int .i64 j ∧ Hid (alls okF (its.take j) = true) ∧ Hid (Below w1.heap.size w1 wr)) (fun s _ => its.length - (intOf s).toNat)
  case atStart => exact ⟨0, by omega, rfl, Lib.hid rfl, Lib.hid (Below.refl _ _)⟩
  case round =>
    obtain ⟨j, hjn, rfl, ha, hb⟩ := hrel
    have C3 := (hb.out.cell (p := ⟨w.heap.size, 3, none⟩) S1.out).trans (D.out 3)
    by_cases hlt : j < its.length
    · obtain ⟨g, o, k', i', t', B, n', c1, B', n1, c2, rfl, hg, e0, e1, e2, e3, e4, hx⟩ := (HL.out).at_ (j := j) (x := its[j]'hlt) (List.getElem?_eq_getElem _)
      have hj := alls_take (p := okF) (List.getElem?_eq_getElem (l := its) (i := j) hlt)
      have hle := size_at (List.getElem?_eq_getElem (l := its) (i := j) hlt)
      have hfl := fun h => alls_false (p := okF) (List.getElem?_eq_getElem (l := its) (i := j) hlt) h
      have hb' : Below w.heap.size w wr := below_next B0.out hb.out
      have cc := fun (q : Nat) => hb'.cell (p := ⟨g, q, none⟩) hg
      rw [Nat.zero_add] at e0 e1 e2 e3 e4
      rw [← cc] at e0 e1 e2 e3 e4
      have hc := IH.out (its[j]'hlt) wr _ (by omega) (hx.below hb')
      generalize its[j]'hlt = x at *
      unfold VT.wf at hc
      have HC := Lib.hid hc
      rw [ha.out, Bool.true_and] at hj
      have HJ := Lib.hid hj
      have HF := Lib.hid hfl
      clear hc hx hb' cc hj hfl
      unfold vag at HC
      go_wp2_with fail
      refine (HC.out).mono ?_
      rintro e w' ⟨rfl, hb2⟩
      have HB2 := Lib.hid (below_next hb.out hb2)
      clear hb2
      cases hxx : x.all okF with
      | true =>
        have HXX := Lib.hid hxx
        clear hxx
        go_wp2
        go_roundw
        case rel => exact ⟨j + 1, by omega, by go_num, Lib.hid (by rw [HJ.out, HXX.out]), HB2⟩
        case measure => simp [intOf]; omega
      | false =>
        have HXX := Lib.hid (HF.out hxx)
        clear hxx
        go_wp2
        go_ret
        exact ⟨ret_bool (by rw [VT.wf, VT.all_mk, HXX.out, Bool.and_false]), below_next B0.out HB2.out⟩
    · obtain rfl : j = its.length := by omega
      have HA : Hid (alls okF its = true) := Lib.hid (by rw [← ha.out, List.take_length])
      have C0 := (hb.out.cell (p := ⟨w.heap.size, 0, none⟩) S1.out).trans (D.out 0)
      have C1 := (hb.out.cell (p := ⟨w.heap.size, 1, none⟩) S1.out).trans (D.out 1)
      have C2 := (hb.out.cell (p := ⟨w.heap.size, 2, none⟩) S1.out).trans (D.out 2)
      have C4 := (hb.out.cell (p := ⟨w.heap.size, 4, none⟩) S1.out).trans (D.out 4)
      clear hlt ha
      by_cases hP : 0 ≤ i
      · have fhP : decide ((0 : Int) ≤ i) = true := decide_eq_true hP
        by_cases hT : t.size = 0
        · have fhT : (t.toList == []) = true := by rw [tl_empty]; exact decide_eq_true hT
          by_cases hN : its.length = 0
          · have fhN : (((its.length : Nat) : Int) == 0) = true := by rw [beq_iff_eq]; omega
            by_cases hK : ks.length = 0
            · have fhK : (((ks.length : Nat) : Int) == 0) = true := by rw [beq_iff_eq]; omega
              have key : okF (.mk 6 i t its ks) = true := by rw [okF_6]; simp [*]
              have KEY := Lib.hid key
              clear hP hT hN hK key
              go_wp2
              go_ret
              exact ⟨ret_bool (by rw [VT.wf, VT.all_mk, KEY.out, HA.out]; rfl), below_next B0.out hb.out⟩
            · have fhK : (((ks.length : Nat) : Int) == 0) = false := by rw [beq_eq_false_iff_ne]; omega
              have key : okF (.mk 6 i t its ks) = false := by rw [okF_6]; simp [*]
              have KEY := Lib.hid key
              clear hP hT hN hK key
              go_wp2
              go_ret
              exact ⟨ret_bool (by rw [VT.wf, VT.all_mk, KEY.out, HA.out]; rfl), below_next B0.out hb.out⟩
          · have fhN : (((its.length : Nat) : Int) == 0) = false := by rw [beq_eq_false_iff_ne]; omega
            have key : okF (.mk 6 i t its ks) = false := by rw [okF_6]; simp [*]
            have KEY := Lib.hid key
            clear hP hT hN key
            go_wp2
            go_ret
            exact ⟨ret_bool (by rw [VT.wf, VT.all_mk, KEY.out, HA.out]; rfl), below_next B0.out hb.out⟩
        · have fhT : (t.toList == []) = false := by rw [tl_empty]; exact decide_eq_false hT
          have key : okF (.mk 6 i t its ks) = false := by rw [okF_6]; simp [*]
          have KEY := Lib.hid key
          clear hP hT key
          go_wp2
          go_ret
          exact ⟨ret_bool (by rw [VT.wf, VT.all_mk, KEY.out, HA.out]; rfl), below_next B0.out hb.out⟩
      · have fhP : decide ((0 : Int) ≤ i) = false := decide_eq_false hP
        have key : okF (.mk 6 i t its ks) = false := by rw [okF_6]; simp [*]
        have KEY := Lib.hid key
        clear hP key
        go_wp2
        go_ret
        exact ⟨ret_bool (by rw [VT.wf, VT.all_mk, KEY.out, HA.out]; rfl), below_next B0.out hb.out⟩

set_option maxRecDepth 100000 in
set_option maxHeartbeats 4000000 in
set_option linter.unusedVariables false in
theorem wfr_o (m : Nat) (IH : Hid (∀ (x : VT) (w : World) (v : Value), x.size ≤ m → Lies w (Lo w) x v → Calls Tryz.prog 30 #[v] w (Gives (.bool x.wf) w))) (k : Int) (hk : ¬ (0 ≤ k ∧ k ≤ 6)) (i : Int) (t : ByteArray) (its : List VT) (ks : List ByteArray) (A : Option Addr) (c : Nat) (A' : Option Addr) (c' : Nat) (w : World) (hL : LiesL w (Lo w) A 0 its) (hS : LiesS w (Lo w) A' ks)
    (hlc : its.length ≤ c) (hcm : c ≤ 9223372036854775807) (hkc : ks.length ≤ c') (hcm' : c' ≤ 9223372036854775807) (hsz : sizes its ≤ m) :
    Calls Tryz.prog 30 #[vag k i t A its.length c A' ks.length c'] w (Gives (.bool (VT.mk k i t its ks).wf) w) := by
  have HS := Lib.hid hS
  have HL := Lib.hid hL
  clear hS hL
  unfold vag
  go_enter Tryz.func30, Tryz.ntmps30
  go_wp2
  obtain ⟨w1, hw1⟩ : ∃ w1, w1 = w.alloc (.cells #[.int .i64 k, .int .i64 i, .string t, .slice A its.length c, .slice A' ks.length c'] 25) := ⟨_, rfl⟩
  have B0 : Hid (Below w.heap.size w w1) := Lib.hid (by rw [hw1]; exact below_one _ _)
  have S1 : Hid (w.heap.size < w1.heap.size) := Lib.hid (by rw [hw1]; simp)
  have D : Hid (∀ j, w1.cell? ⟨w.heap.size, j, none⟩ = (#[.int .i64 k, .int .i64 i, .string t, .slice A its.length c, .slice A' ks.length c'] : Array Value)[j]?) := Lib.hid (fun j => by rw [hw1, World.cell?_alloc_at _ _ _ _ rfl])
  rw [← hw1]
  have HW := Lib.hid hw1
  clear hw1
  go_loopw [3] (fun s wr => ∃ j : Nat, j ≤ its.length ∧ s = .int .i64 j ∧ Hid (alls okF (its.take j) = true) ∧ Hid (Below w1.heap.size w1 wr)) (fun s _ => its.length - (intOf s).toNat)
  case atStart => exact ⟨0, by omega, rfl, Lib.hid rfl, Lib.hid (Below.refl _ _)⟩
  case round =>
    obtain ⟨j, hjn, rfl, ha, hb⟩ := hrel
    have C3 := (hb.out.cell (p := ⟨w.heap.size, 3, none⟩) S1.out).trans (D.out 3)
    by_cases hlt : j < its.length
    · obtain ⟨g, o, k', i', t', B, n', c1, B', n1, c2, rfl, hg, e0, e1, e2, e3, e4, hx⟩ := (HL.out).at_ (j := j) (x := its[j]'hlt) (List.getElem?_eq_getElem _)
      have hj := alls_take (p := okF) (List.getElem?_eq_getElem (l := its) (i := j) hlt)
      have hle := size_at (List.getElem?_eq_getElem (l := its) (i := j) hlt)
      have hfl := fun h => alls_false (p := okF) (List.getElem?_eq_getElem (l := its) (i := j) hlt) h
      have hb' : Below w.heap.size w wr := below_next B0.out hb.out
      have cc := fun (q : Nat) => hb'.cell (p := ⟨g, q, none⟩) hg
      rw [Nat.zero_add] at e0 e1 e2 e3 e4
      rw [← cc] at e0 e1 e2 e3 e4
      have hc := IH.out (its[j]'hlt) wr _ (by omega) (hx.below hb')
      generalize its[j]'hlt = x at *
      unfold VT.wf at hc
      have HC := Lib.hid hc
      rw [ha.out, Bool.true_and] at hj
      have HJ := Lib.hid hj
      have HF := Lib.hid hfl
      clear hc hx hb' cc hj hfl
      unfold vag at HC
      go_wp2_with fail
      refine (HC.out).mono ?_
      rintro e w' ⟨rfl, hb2⟩
      have HB2 := Lib.hid (below_next hb.out hb2)
      clear hb2
      cases hxx : x.all okF with
      | true =>
        have HXX := Lib.hid hxx
        clear hxx
        go_wp2
        go_roundw
        case rel => exact ⟨j + 1, by omega, by go_num, Lib.hid (by rw [HJ.out, HXX.out]), HB2⟩
        case measure => simp [intOf]; omega
      | false =>
        have HXX := Lib.hid (HF.out hxx)
        clear hxx
        go_wp2
        go_ret
        exact ⟨ret_bool (by rw [VT.wf, VT.all_mk, HXX.out, Bool.and_false]), below_next B0.out HB2.out⟩
    · obtain rfl : j = its.length := by omega
      have HA : Hid (alls okF its = true) := Lib.hid (by rw [← ha.out, List.take_length])
      have C0 := (hb.out.cell (p := ⟨w.heap.size, 0, none⟩) S1.out).trans (D.out 0)
      have C1 := (hb.out.cell (p := ⟨w.heap.size, 1, none⟩) S1.out).trans (D.out 1)
      have C2 := (hb.out.cell (p := ⟨w.heap.size, 2, none⟩) S1.out).trans (D.out 2)
      have C4 := (hb.out.cell (p := ⟨w.heap.size, 4, none⟩) S1.out).trans (D.out 4)
      clear hlt ha
      have f0 : (k == 0) = false := by rw [beq_eq_false_iff_ne]; omega
      have f1 : (k == 1) = false := by rw [beq_eq_false_iff_ne]; omega
      have f2 : (k == 2) = false := by rw [beq_eq_false_iff_ne]; omega
      have f3 : (k == 3) = false := by rw [beq_eq_false_iff_ne]; omega
      have f4 : (k == 4) = false := by rw [beq_eq_false_iff_ne]; omega
      have f5 : (k == 5) = false := by rw [beq_eq_false_iff_ne]; omega
      have f6 : (k == 6) = false := by rw [beq_eq_false_iff_ne]; omega
      have key : okF (.mk k i t its ks) = false := by
        simp only [beq_eq_false_iff_ne] at f0 f1 f2 f3 f4 f5 f6
        simp [okF, VT.k, f0, f1, f2, f3, f4, f5, f6]
      have KEY := Lib.hid key
      clear key hk
      go_wp2
      go_ret
      exact ⟨ret_bool (by rw [VT.wf, VT.all_mk, KEY.out, HA.out]; rfl), below_next B0.out hb.out⟩

theorem refWf_all (m : Nat) : ∀ (x : VT) (w : World) (v : Value), x.size ≤ m → Lies w (Lo w) x v → Calls Tryz.prog 30 #[v] w (Gives (.bool x.wf) w) := by
  induction m with
  | zero => intro x _ _ h; have := size_pos x; omega
  | succ m ih =>
    intro x w v hsz hv
    have IH := Lib.hid ih
    obtain ⟨k, i, t, its, ks⟩ := x
    obtain ⟨A, c, A', c', rfl, _, _, _, h1, h2, hL, h3, h4, hS⟩ := hv.open
    rw [VT.size_mk] at hsz
    by_cases hk : 0 ≤ k ∧ k ≤ 6
    · obtain rfl | rfl | rfl | rfl | rfl | rfl | rfl : k = 0 ∨ k = 1 ∨ k = 2 ∨ k = 3 ∨ k = 4 ∨ k = 5 ∨ k = 6 := by omega
      · exact wfr_0 m IH i t its ks A c A' c' w hL hS h1 h2 h3 h4 (by omega)
      · exact wfr_1 m IH i t its ks A c A' c' w hL hS h1 h2 h3 h4 (by omega)
      · exact wfr_2 m IH i t its ks A c A' c' w hL hS h1 h2 h3 h4 (by omega)
      · exact wfr_3 m IH i t its ks A c A' c' w hL hS h1 h2 h3 h4 (by omega)
      · exact wfr_4 m IH i t its ks A c A' c' w hL hS h1 h2 h3 h4 (by omega)
      · exact wfr_5 m IH i t its ks A c A' c' w hL hS h1 h2 h3 h4 (by omega)
      · exact wfr_6 m IH i t its ks A c A' c' w hL hS h1 h2 h3 h4 (by omega)
    · exact wfr_o m IH k hk i t its ks A c A' c' w hL hS h1 h2 h3 h4 (by omega)
theorem refWf_any {x : VT} {v : Value} {w : World} (h : Lies w (Lo w) x v) : Calls Tryz.prog 30 #[v] w (Gives (.bool x.wf) w) := refWf_all x.size x w v (Nat.le_refl _) h
end Go.Proofs.YtjblchdfkcbodaaGreatDoor
