/-
  A test of every node: every of the code, with rightFields and with notFuture; wellFormed, isMap.
-/
import Derived.Test.YtlgmhhimbabkjaaGreatDoorVrf
namespace Go.Proofs.YtlgmhhimbabkjaaGreatDoor
open Go.RowKit

set_option maxHeartbeats 400000 in
theorem notFuture_any {x : VT} {v : Value} {w : World} (h : Lies w (Lo w) x v) : Calls Tryz.prog 36 #[v] w (Gives (.bool (noFut x)) w) := by
  obtain ⟨k, i, t, its, ks⟩ := x
  obtain ⟨A, c, A', c', rfl, _, _, _, _, _, _, _, _, _⟩ := h.open
  have e : noFut (.mk k i t its ks) = (k != 6) := by
    unfold noFut VT.k
    by_cases hk : k = 6 <;> simp [hk]
  rw [e]
  clear h e
  unfold vag
  go_enter Tryz.func36, Tryz.ntmps36
  go_wp2
  go_ret
  exact ⟨rfl, below_one _ _⟩

set_option maxHeartbeats 1000000 in
theorem everyRf_all (m : Nat) : ∀ (x : VT) (w : World) (v : Value), x.size ≤ m → Lies w (Lo w) x v → Calls Tryz.prog 35 #[v, .func (.func 63) #[] #[]] w (Gives (.bool (x.all okF)) w) := by
  induction m with
  | zero => intro x _ _ h; have := size_pos x; omega
  | succ m ih =>
    intro x w v hsz hv
    have hp := fun (w' : World) (hb : Below w.heap.size w w') => rf_any (hv.below hb)
    obtain ⟨k, i, t, its, ks⟩ := x
    obtain ⟨A, c, A', c', rfl, _, _, _, hlc, hcm, hL, _, _, _⟩ := hv.open
    rw [VT.size_mk] at hsz
    rw [VT.all_mk]
    generalize okF (.mk k i t its ks) = p0 at *
    have HL := Lib.hid hL
    have IH := Lib.hid ih
    have HP := Lib.hid hp
    clear hL ih hv hp
    obtain ⟨n, hn⟩ : ∃ n, n = its.length := ⟨_, rfl⟩
    rw [← hn] at hlc HP ⊢
    have HN := Lib.hid hn
    clear hn
    unfold vag at HP ⊢
    go_enter Tryz.func35, Tryz.ntmps35
    obtain ⟨w1, hw1⟩ : ∃ w1, w1 = w.alloc (.cells #[.int .i64 k, .int .i64 i, .string t, .slice A n c, .slice A' ks.length c'] 25) := ⟨_, rfl⟩
    have B0 : Hid (Below w.heap.size w w1) := Lib.hid (by rw [hw1]; exact below_one _ _)
    have HP1 := Lib.hid (HP.out w1 B0.out)
    have HW := Lib.hid hw1
    clear hw1 HP
    go_wp2_with fail
    rw [← HW.out]
    refine (HP1.out).mono ?_
    rintro e w2 ⟨rfl, hb⟩
    cases p0 with
    | false =>
      have HB := Lib.hid (below_next B0.out hb)
      clear hb
      go_wp2
      go_ret
      exact ⟨rfl, HB.out⟩
    | true =>
      have C3 : w2.cell? ⟨w.heap.size, 3, none⟩ = some (.slice A n c) := by
        rw [hb.cell (p := ⟨w.heap.size, 3, none⟩) (by rw [HW.out]; simp), HW.out, World.cell?_alloc_at _ _ _ _ rfl]; rfl
      have B2 := Lib.hid (below_next B0.out hb)
      clear hb
      go_wp2
      go_loopw [14, 6] (fun t _ wr => ∃ j : Nat, j ≤ n ∧ t = .int .i64 j ∧ Hid (alls okF (its.take j) = true) ∧ Hid (Below w2.heap.size w2 wr)) (fun t _ _ => n - (intOf t).toNat)
      case atStart => exact ⟨0, by omega, rfl, Lib.hid rfl, Lib.hid (Below.refl _ _)⟩
      case round =>
        obtain ⟨j, hjn, rfl, ha, hb⟩ := hrel
        by_cases hlt : j < n
        · obtain ⟨g, o, k', i', t', B, n', c1, B', n1, c2, rfl, hg, e0, e1, e2, e3, e4, hx⟩ := (HL.out).at_ (j := j) (x := its[j]'(by rw [← HN.out]; exact hlt)) (List.getElem?_eq_getElem _)
          have hj := alls_take (p := okF) (List.getElem?_eq_getElem (l := its) (i := j) (by rw [← HN.out]; exact hlt))
          have hle := size_at (List.getElem?_eq_getElem (l := its) (i := j) (by rw [← HN.out]; exact hlt))
          have hfl := fun h => alls_false (p := okF) (List.getElem?_eq_getElem (l := its) (i := j) (by rw [← HN.out]; exact hlt)) h
          have hb' : Below w.heap.size w wr := below_next B2.out hb.out
          have cc := fun (q : Nat) => hb'.cell (p := ⟨g, q, none⟩) hg
          rw [Nat.zero_add] at e0 e1 e2 e3 e4
          rw [← cc] at e0 e1 e2 e3 e4
          have hc := IH.out (its[j]'(by rw [← HN.out]; exact hlt)) (wr.alloc (.cells #[.int .i64 k', .int .i64 i', .string t', .slice B n' c1, .slice B' n1 c2] 25)) _ (by omega) (hx.below (hb'.alloc hb'.size _))
          generalize its[j]'(by rw [← HN.out]; exact hlt) = x at *
          have HC := Lib.hid hc
          rw [ha.out, Bool.true_and] at hj
          have HJ := Lib.hid hj
          have HF := Lib.hid hfl
          clear hc hx hb' cc C3 hj hfl
          unfold vag at HC
          go_wp2_with fail
          refine (HC.out).mono ?_
          rintro e w' ⟨rfl, hb2⟩
          have HB2 := Lib.hid (below_via hb.out hb2)
          clear hb2
          cases hxx : x.all okF with
          | true =>
            have HXX := Lib.hid hxx
            clear hxx
            go_wp2
            go_roundw
            case rel => exact ⟨j + 1, by omega, by go_num, Lib.hid (by rw [HJ.out, HXX.out]), HB2⟩
            case measure => simp [intOf]; omega
          | false =>
            have HXX := Lib.hid (HF.out hxx)
            clear hxx
            go_wp2
            go_ret
            exact ⟨ret_bool (by rw [Bool.true_and, HXX.out]), below_next B2.out HB2.out⟩
        · obtain rfl : j = n := by omega
          go_wp2
          go_ret
          refine ⟨ret_bool ?_, below_next B2.out hb.out⟩
          rw [Bool.true_and, ← ha.out, HN.out, List.take_length]
set_option maxHeartbeats 1000000 in
theorem everyNf_all (m : Nat) : ∀ (x : VT) (w : World) (v : Value), x.size ≤ m → Lies w (Lo w) x v → Calls Tryz.prog 35 #[v, .func (.func 36) #[] #[]] w (Gives (.bool (x.all noFut)) w) := by
  induction m with
  | zero => intro x _ _ h; have := size_pos x; omega
  | succ m ih =>
    intro x w v hsz hv
    have hp := fun (w' : World) (hb : Below w.heap.size w w') => notFuture_any (hv.below hb)
    obtain ⟨k, i, t, its, ks⟩ := x
    obtain ⟨A, c, A', c', rfl, _, _, _, hlc, hcm, hL, _, _, _⟩ := hv.open
    rw [VT.size_mk] at hsz
    rw [VT.all_mk]
    generalize noFut (.mk k i t its ks) = p0 at *
    have HL := Lib.hid hL
    have IH := Lib.hid ih
    have HP := Lib.hid hp
    clear hL ih hv hp
    obtain ⟨n, hn⟩ : ∃ n, n = its.length := ⟨_, rfl⟩
    rw [← hn] at hlc HP ⊢
    have HN := Lib.hid hn
    clear hn
    unfold vag at HP ⊢
    go_enter Tryz.func35, Tryz.ntmps35
    obtain ⟨w1, hw1⟩ : ∃ w1, w1 = w.alloc (.cells #[.int .i64 k, .int .i64 i, .string t, .slice A n c, .slice A' ks.length c'] 25) := ⟨_, rfl⟩
    have B0 : Hid (Below w.heap.size w w1) := Lib.hid (by rw [hw1]; exact below_one _ _)
    have HP1 := Lib.hid (HP.out w1 B0.out)
    have HW := Lib.hid hw1
    clear hw1 HP
    go_wp2_with fail
    rw [← HW.out]
    refine (HP1.out).mono ?_
    rintro e w2 ⟨rfl, hb⟩
    cases p0 with
    | false =>
      have HB := Lib.hid (below_next B0.out hb)
      clear hb
      go_wp2
      go_ret
      exact ⟨rfl, HB.out⟩
    | true =>
      have C3 : w2.cell? ⟨w.heap.size, 3, none⟩ = some (.slice A n c) := by
        rw [hb.cell (p := ⟨w.heap.size, 3, none⟩) (by rw [HW.out]; simp), HW.out, World.cell?_alloc_at _ _ _ _ rfl]; rfl
      have B2 := Lib.hid (below_next B0.out hb)
      clear hb
      go_wp2
      go_loopw [14, 6] (fun t _ wr => ∃ j : Nat, j ≤ n ∧ t = .int .i64 j ∧ Hid (alls noFut (its.take j) = true) ∧ Hid (Below w2.heap.size w2 wr)) (fun t _ _ => n - (intOf t).toNat)
      case atStart => exact ⟨0, by omega, rfl, Lib.hid rfl, Lib.hid (Below.refl _ _)⟩
      case round =>
        obtain ⟨j, hjn, rfl, ha, hb⟩ := hrel
        by_cases hlt : j < n
        · obtain ⟨g, o, k', i', t', B, n', c1, B', n1, c2, rfl, hg, e0, e1, e2, e3, e4, hx⟩ := (HL.out).at_ (j := j) (x := its[j]'(by rw [← HN.out]; exact hlt)) (List.getElem?_eq_getElem _)
          have hj := alls_take (p := noFut) (List.getElem?_eq_getElem (l := its) (i := j) (by rw [← HN.out]; exact hlt))
          have hle := size_at (List.getElem?_eq_getElem (l := its) (i := j) (by rw [← HN.out]; exact hlt))
          have hfl := fun h => alls_false (p := noFut) (List.getElem?_eq_getElem (l := its) (i := j) (by rw [← HN.out]; exact hlt)) h
          have hb' : Below w.heap.size w wr := below_next B2.out hb.out
          have cc := fun (q : Nat) => hb'.cell (p := ⟨g, q, none⟩) hg
          rw [Nat.zero_add] at e0 e1 e2 e3 e4
          rw [← cc] at e0 e1 e2 e3 e4
          have hc := IH.out (its[j]'(by rw [← HN.out]; exact hlt)) (wr.alloc (.cells #[.int .i64 k', .int .i64 i', .string t', .slice B n' c1, .slice B' n1 c2] 25)) _ (by omega) (hx.below (hb'.alloc hb'.size _))
          generalize its[j]'(by rw [← HN.out]; exact hlt) = x at *
          have HC := Lib.hid hc
          rw [ha.out, Bool.true_and] at hj
          have HJ := Lib.hid hj
          have HF := Lib.hid hfl
          clear hc hx hb' cc C3 hj hfl
          unfold vag at HC
          go_wp2_with fail
          refine (HC.out).mono ?_
          rintro e w' ⟨rfl, hb2⟩
          have HB2 := Lib.hid (below_via hb.out hb2)
          clear hb2
          cases hxx : x.all noFut with
          | true =>
            have HXX := Lib.hid hxx
            clear hxx
            go_wp2
            go_roundw
            case rel => exact ⟨j + 1, by omega, by go_num, Lib.hid (by rw [HJ.out, HXX.out]), HB2⟩
            case measure => simp [intOf]; omega
          | false =>
            have HXX := Lib.hid (HF.out hxx)
            clear hxx
            go_wp2
            go_ret
            exact ⟨ret_bool (by rw [Bool.true_and, HXX.out]), below_next B2.out HB2.out⟩
        · obtain rfl : j = n := by omega
          go_wp2
          go_ret
          refine ⟨ret_bool ?_, below_next B2.out hb.out⟩
          rw [Bool.true_and, ← ha.out, HN.out, List.take_length]
set_option maxHeartbeats 400000 in
theorem wf_any {x : VT} {v : Value} {w : World} (h : Lies w (Lo w) x v) : Calls Tryz.prog 34 #[v] w (Gives (.bool x.wf) w) := by
  have hc := everyRf_all x.size x (w.alloc (.cells v.cells 25)) v (Nat.le_refl _) (h.below (below_one _ _))
  unfold VT.wf
  obtain ⟨k, i, t, its, ks⟩ := x
  obtain ⟨A, c, A', c', rfl, _, _, _, _, _, _, _, _, _⟩ := h.open
  generalize (VT.mk k i t its ks).all okF = b at *
  unfold vag Value.cells at hc
  unfold vag
  have HC := Lib.hid hc
  clear hc h
  go_enter Tryz.func34, Tryz.ntmps34
  go_wp2_with fail
  refine (HC.out).mono ?_
  rintro e w' ⟨rfl, hb⟩
  have HB := Lib.hid (below_via (Below.refl _ _) hb)
  clear hb
  go_wp2
  go_ret
  exact ⟨rfl, HB.out⟩
end Go.Proofs.YtlgmhhimbabkjaaGreatDoor
