/-
  Within and Right of the reference; Right of the code.
-/
import Derived.Test.YtjblchdfkcbodaaGreatDoorVss
namespace Go.Proofs.YtjblchdfkcbodaaGreatDoor
open Go.RowKit

set_option maxHeartbeats 1000000 in
theorem refWithin_any {x : VT} {v : Value} {w : World} (hsz : x.size < 4611686018427387904) (h : Lies w (Lo w) x v) : Calls Tryz.prog 31 #[v] w (Gives (.bool x.within) w) := by
  obtain ⟨r, hr⟩ : ∃ r, r = x.within := ⟨_, rfl⟩
  rw [← hr]
  unfold VT.within at hr
  have HA := Lib.hid (fun (w' : World) (hb : Below w.heap.size w w') => refShort_any (h.below hb))
  have HB := Lib.hid (fun (w' : World) (hb : Below w.heap.size w w') => refDepth_all x.size x w' v (Nat.le_refl _) hsz (h.below hb))
  have HC := Lib.hid (fun (w' : World) (hb : Below w.heap.size w w') => refSize_all x.size x w' v (Nat.le_refl _) hsz (h.below hb))
  have hdz := depth_le_size _ x (Nat.le_refl _)
  obtain ⟨k, i, t, its, ks⟩ := x
  obtain ⟨A, c, A', c', rfl, _, _, _, h1, h2, hL, h3, h4, hS⟩ := h.open
  obtain ⟨w2, hw2⟩ : ∃ w2, w2 = w.alloc (.cells #[.int .i64 k, .int .i64 i, .string t, .slice A its.length c, .slice A' ks.length c'] 25) := ⟨_, rfl⟩
  have B2 : Hid (Below w.heap.size w w2) := Lib.hid (by rw [hw2]; exact below_one _ _)
  have S2 : Hid (w.heap.size < w2.heap.size) := Lib.hid (by rw [hw2]; simp)
  have X1 : Hid (∀ j, w2.cell? ⟨w.heap.size, j, none⟩ = (#[.int .i64 k, .int .i64 i, .string t, .slice A its.length c, .slice A' ks.length c'] : Array Value)[j]?) := Lib.hid (fun j => by
    rw [hw2, World.cell?_alloc_at _ _ _ _ rfl])
  have HW := Lib.hid hw2
  clear h hL hS hw2
  have H1 := Lib.hid (HA.out w2 B2.out)
  unfold vag at H1 HA HB HC ⊢
  generalize (VT.mk k i t its ks).all shortF = p at *
  generalize (VT.mk k i t its ks).depth = d at *
  generalize (VT.mk k i t its ks).size = z at *
  have O1 : Hid (p = false → r = false) := Lib.hid (fun h => by rw [hr, h]; rfl)
  have O2 : Hid (¬ d ≤ 16 → r = false) := Lib.hid (fun h => by rw [hr, decide_eq_false h, Bool.false_and, Bool.and_false])
  have O3 : Hid (¬ z ≤ 1000 → r = false) := Lib.hid (fun h => by rw [hr, decide_eq_false h, Bool.and_false, Bool.and_false])
  have O4 : Hid (p = true → d ≤ 16 → z ≤ 1000 → r = true) := Lib.hid (fun h h' h'' => by rw [hr, h, decide_eq_true h', decide_eq_true h'']; rfl)
  clear hr
  go_enter Tryz.func31, Tryz.ntmps31
  go_wp2_with fail
  rw [← HW.out]
  refine (H1.out).mono ?_
  rintro e3 w3 ⟨rfl, hb⟩
  have HB3 := Lib.hid (below_next B2.out hb)
  have S3 : Hid (w.heap.size < w3.heap.size) := Lib.hid (by have := S2.out; have := hb.size; omega)
  have a30 := (hb.cell (p := ⟨w.heap.size, 0, none⟩) S2.out).trans (X1.out 0)
  have a31 := (hb.cell (p := ⟨w.heap.size, 1, none⟩) S2.out).trans (X1.out 1)
  have a32 := (hb.cell (p := ⟨w.heap.size, 2, none⟩) S2.out).trans (X1.out 2)
  have a33 := (hb.cell (p := ⟨w.heap.size, 3, none⟩) S2.out).trans (X1.out 3)
  have a34 := (hb.cell (p := ⟨w.heap.size, 4, none⟩) S2.out).trans (X1.out 4)
  change _ = some (Value.int .i64 k) at a30
  change _ = some (Value.int .i64 i) at a31
  change _ = some (Value.string t) at a32
  change _ = some (Value.slice A its.length c) at a33
  change _ = some (Value.slice A' ks.length c') at a34
  clear hb
  cases p with
  | false =>
    have HR := Lib.hid (O1.out rfl)
    go_wp2
    go_ret
    exact ⟨ret_bool HR.out.symm, HB3.out⟩
  | true =>
    go_wp2_with fail
    refine (HB.out w3 HB3.out).mono ?_
    rintro e4 w4 ⟨rfl, hb⟩
    have HB4 := Lib.hid (below_next HB3.out hb)
    have S4 : Hid (w.heap.size < w4.heap.size) := Lib.hid (by have := S3.out; have := hb.size; omega)
    have a40 := (hb.cell (p := ⟨w.heap.size, 0, none⟩) S3.out).trans a30
    have a41 := (hb.cell (p := ⟨w.heap.size, 1, none⟩) S3.out).trans a31
    have a42 := (hb.cell (p := ⟨w.heap.size, 2, none⟩) S3.out).trans a32
    have a43 := (hb.cell (p := ⟨w.heap.size, 3, none⟩) S3.out).trans a33
    have a44 := (hb.cell (p := ⟨w.heap.size, 4, none⟩) S3.out).trans a34
    change _ = some (Value.int .i64 k) at a40
    change _ = some (Value.int .i64 i) at a41
    change _ = some (Value.string t) at a42
    change _ = some (Value.slice A its.length c) at a43
    change _ = some (Value.slice A' ks.length c') at a44
    clear a30 a31 a32 a33 a34
    clear hb
    by_cases hd : d ≤ 16
    · have f1 : decide ((d : Int) ≤ 16) = true := decide_eq_true (by omega)
      have HD := Lib.hid hd
      clear hd
      go_wp2_with fail
      refine (HC.out w4 HB4.out).mono ?_
      rintro e5 w5 ⟨rfl, hb⟩
      have HB5 := Lib.hid (below_next HB4.out hb)
      have S5 : Hid (w.heap.size < w5.heap.size) := Lib.hid (by have := S4.out; have := hb.size; omega)
      have a50 := (hb.cell (p := ⟨w.heap.size, 0, none⟩) S4.out).trans a40
      have a51 := (hb.cell (p := ⟨w.heap.size, 1, none⟩) S4.out).trans a41
      have a52 := (hb.cell (p := ⟨w.heap.size, 2, none⟩) S4.out).trans a42
      have a53 := (hb.cell (p := ⟨w.heap.size, 3, none⟩) S4.out).trans a43
      have a54 := (hb.cell (p := ⟨w.heap.size, 4, none⟩) S4.out).trans a44
      change _ = some (Value.int .i64 k) at a50
      change _ = some (Value.int .i64 i) at a51
      change _ = some (Value.string t) at a52
      change _ = some (Value.slice A its.length c) at a53
      change _ = some (Value.slice A' ks.length c') at a54
      clear a40 a41 a42 a43 a44
      clear hb
      by_cases hz : z ≤ 1000
      · have f2 : decide ((z : Int) ≤ 1000) = true := decide_eq_true (by omega)
        have HR := Lib.hid (O4.out (by trivial) HD.out hz)
        clear hz
        go_wp2
        go_ret
        exact ⟨ret_bool HR.out.symm, HB5.out⟩
      · have f2 : decide ((z : Int) ≤ 1000) = false := decide_eq_false (by omega)
        have HR := Lib.hid (O3.out hz)
        clear hz
        go_wp2
        go_ret
        exact ⟨ret_bool HR.out.symm, HB5.out⟩
    · have f1 : decide ((d : Int) ≤ 16) = false := decide_eq_false (by omega)
      have HR := Lib.hid (O2.out hd)
      clear hd
      go_wp2
      go_ret
      exact ⟨ret_bool HR.out.symm, HB4.out⟩

set_option maxHeartbeats 1000000 in
theorem refRight_any {x : VT} {v : Value} {w : World} (hsz : x.size < 4611686018427387904) (h : Lies w (Lo w) x v) : Calls Tryz.prog 16 #[v] w (Gives (.bool x.right) w) := by
  obtain ⟨r, hr⟩ : ∃ r, r = x.right := ⟨_, rfl⟩
  rw [← hr]
  unfold VT.right at hr
  have HA := Lib.hid (fun (w' : World) (hb : Below w.heap.size w w') => refWf_any (h.below hb))
  have HB := Lib.hid (fun (w' : World) (hb : Below w.heap.size w w') => refWithin_any hsz (h.below hb))
  have HC := Lib.hid (fun (w' : World) (hb : Below w.heap.size w w') => refFuture_any (h.below hb))
  obtain ⟨k, i, t, its, ks⟩ := x
  obtain ⟨A, c, A', c', rfl, _, _, _, h1, h2, hL, h3, h4, hS⟩ := h.open
  obtain ⟨w2, hw2⟩ : ∃ w2, w2 = w.alloc (.cells #[.int .i64 k, .int .i64 i, .string t, .slice A its.length c, .slice A' ks.length c'] 25) := ⟨_, rfl⟩
  have B2 : Hid (Below w.heap.size w w2) := Lib.hid (by rw [hw2]; exact below_one _ _)
  have S2 : Hid (w.heap.size < w2.heap.size) := Lib.hid (by rw [hw2]; simp)
  have X1 : Hid (∀ j, w2.cell? ⟨w.heap.size, j, none⟩ = (#[.int .i64 k, .int .i64 i, .string t, .slice A its.length c, .slice A' ks.length c'] : Array Value)[j]?) := Lib.hid (fun j => by
    rw [hw2, World.cell?_alloc_at _ _ _ _ rfl])
  have HW := Lib.hid hw2
  clear h hL hS hw2
  have H1 := Lib.hid (HA.out w2 B2.out)
  unfold vag at H1 HA HB HC ⊢
  generalize (VT.mk k i t its ks).wf = p at *
  generalize (VT.mk k i t its ks).within = q at *
  generalize (VT.mk k i t its ks).all noFut = z at *
  have O1 : Hid (p = false → r = false) := Lib.hid (fun h => by rw [hr, h]; rfl)
  have O2 : Hid (q = false → r = false) := Lib.hid (fun h => by rw [hr, h, Bool.false_and, Bool.and_false])
  have O3 : Hid (p = true → q = true → r = z) := Lib.hid (fun h h' => by rw [hr, h, h']; rfl)
  clear hr
  go_enter Tryz.func16, Tryz.ntmps16
  go_wp2_with fail
  rw [← HW.out]
  refine (H1.out).mono ?_
  rintro e3 w3 ⟨rfl, hb⟩
  have HB3 := Lib.hid (below_next B2.out hb)
  have S3 : Hid (w.heap.size < w3.heap.size) := Lib.hid (by have := S2.out; have := hb.size; omega)
  have a30 := (hb.cell (p := ⟨w.heap.size, 0, none⟩) S2.out).trans (X1.out 0)
  have a31 := (hb.cell (p := ⟨w.heap.size, 1, none⟩) S2.out).trans (X1.out 1)
  have a32 := (hb.cell (p := ⟨w.heap.size, 2, none⟩) S2.out).trans (X1.out 2)
  have a33 := (hb.cell (p := ⟨w.heap.size, 3, none⟩) S2.out).trans (X1.out 3)
  have a34 := (hb.cell (p := ⟨w.heap.size, 4, none⟩) S2.out).trans (X1.out 4)
  change _ = some (Value.int .i64 k) at a30
  change _ = some (Value.int .i64 i) at a31
  change _ = some (Value.string t) at a32
  change _ = some (Value.slice A its.length c) at a33
  change _ = some (Value.slice A' ks.length c') at a34
  clear hb
  cases p with
  | false =>
    have HR := Lib.hid (O1.out rfl)
    go_wp2
    go_ret
    exact ⟨ret_bool HR.out.symm, HB3.out⟩
  | true =>
    go_wp2_with fail
    refine (HB.out w3 HB3.out).mono ?_
    rintro e4 w4 ⟨rfl, hb⟩
    have HB4 := Lib.hid (below_next HB3.out hb)
    have S4 : Hid (w.heap.size < w4.heap.size) := Lib.hid (by have := S3.out; have := hb.size; omega)
    have a40 := (hb.cell (p := ⟨w.heap.size, 0, none⟩) S3.out).trans a30
    have a41 := (hb.cell (p := ⟨w.heap.size, 1, none⟩) S3.out).trans a31
    have a42 := (hb.cell (p := ⟨w.heap.size, 2, none⟩) S3.out).trans a32
    have a43 := (hb.cell (p := ⟨w.heap.size, 3, none⟩) S3.out).trans a33
    have a44 := (hb.cell (p := ⟨w.heap.size, 4, none⟩) S3.out).trans a34
    change _ = some (Value.int .i64 k) at a40
    change _ = some (Value.int .i64 i) at a41
    change _ = some (Value.string t) at a42
    change _ = some (Value.slice A its.length c) at a43
    change _ = some (Value.slice A' ks.length c') at a44
    clear a30 a31 a32 a33 a34
    clear hb
    cases q with
    | false =>
      have HR := Lib.hid (O2.out rfl)
      go_wp2
      go_ret
      exact ⟨ret_bool HR.out.symm, HB4.out⟩
    | true =>
      have HR := Lib.hid (O3.out (by trivial) (by trivial))
      go_wp2_with fail
      refine (HC.out w4 HB4.out).mono ?_
      rintro e5 w5 ⟨rfl, hb⟩
      have HB5 := Lib.hid (below_next HB4.out hb)
      have S5 : Hid (w.heap.size < w5.heap.size) := Lib.hid (by have := S4.out; have := hb.size; omega)
      have a50 := (hb.cell (p := ⟨w.heap.size, 0, none⟩) S4.out).trans a40
      have a51 := (hb.cell (p := ⟨w.heap.size, 1, none⟩) S4.out).trans a41
      have a52 := (hb.cell (p := ⟨w.heap.size, 2, none⟩) S4.out).trans a42
      have a53 := (hb.cell (p := ⟨w.heap.size, 3, none⟩) S4.out).trans a43
      have a54 := (hb.cell (p := ⟨w.heap.size, 4, none⟩) S4.out).trans a44
      change _ = some (Value.int .i64 k) at a50
      change _ = some (Value.int .i64 i) at a51
      change _ = some (Value.string t) at a52
      change _ = some (Value.slice A its.length c) at a53
      change _ = some (Value.slice A' ks.length c') at a54
      clear a40 a41 a42 a43 a44
      clear hb
      cases z with
      | false =>
        go_wp2
        go_ret
        exact ⟨ret_bool HR.out.symm, HB5.out⟩
      | true =>
        go_wp2
        go_ret
        exact ⟨ret_bool HR.out.symm, HB5.out⟩

set_option maxHeartbeats 1000000 in
theorem valRight_any {x : VT} {v : Value} {w : World} (h : Lies w (Lo w) x v) : Calls Tryz.prog 17 #[v] w (Gives (.bool x.right) w) := by
  obtain ⟨r, hr⟩ : ∃ r, r = x.right := ⟨_, rfl⟩
  rw [← hr]
  unfold VT.right at hr
  have HA := Lib.hid (fun (w' : World) (hb : Below w.heap.size w w') => within_any (h.below hb))
  have HB := Lib.hid (fun (w' : World) (hb : Below w.heap.size w w') => wf_any (h.below hb))
  have HC := Lib.hid (fun (w' : World) (hb : Below w.heap.size w w') => everyNf_all x.size x w' v (Nat.le_refl _) (h.below hb))
  obtain ⟨k, i, t, its, ks⟩ := x
  obtain ⟨A, c, A', c', rfl, _, _, _, h1, h2, hL, h3, h4, hS⟩ := h.open
  obtain ⟨w2, hw2⟩ : ∃ w2, w2 = w.alloc (.cells #[.int .i64 k, .int .i64 i, .string t, .slice A its.length c, .slice A' ks.length c'] 25) := ⟨_, rfl⟩
  have B2 : Hid (Below w.heap.size w w2) := Lib.hid (by rw [hw2]; exact below_one _ _)
  have S2 : Hid (w.heap.size < w2.heap.size) := Lib.hid (by rw [hw2]; simp)
  have X1 : Hid (∀ j, w2.cell? ⟨w.heap.size, j, none⟩ = (#[.int .i64 k, .int .i64 i, .string t, .slice A its.length c, .slice A' ks.length c'] : Array Value)[j]?) := Lib.hid (fun j => by
    rw [hw2, World.cell?_alloc_at _ _ _ _ rfl])
  have HW := Lib.hid hw2
  clear h hL hS hw2
  have H1 := Lib.hid (HA.out w2 B2.out)
  unfold vag at H1 HA HB HC ⊢
  generalize (VT.mk k i t its ks).within = p at *
  generalize (VT.mk k i t its ks).wf = q at *
  generalize (VT.mk k i t its ks).all noFut = z at *
  have O2 : Hid (q = false → r = false) := Lib.hid (fun h => by rw [hr, h]; rfl)
  have O1 : Hid (p = false → r = false) := Lib.hid (fun h => by rw [hr, h, Bool.false_and, Bool.and_false])
  have O3 : Hid (p = true → q = true → r = z) := Lib.hid (fun h h' => by rw [hr, h', h]; rfl)
  clear hr
  go_enter Tryz.func17, Tryz.ntmps17
  go_wp2_with fail
  rw [← HW.out]
  refine (H1.out).mono ?_
  rintro e3 w3 ⟨rfl, hb⟩
  have HB3 := Lib.hid (below_next B2.out hb)
  have S3 : Hid (w.heap.size < w3.heap.size) := Lib.hid (by have := S2.out; have := hb.size; omega)
  have a30 := (hb.cell (p := ⟨w.heap.size, 0, none⟩) S2.out).trans (X1.out 0)
  have a31 := (hb.cell (p := ⟨w.heap.size, 1, none⟩) S2.out).trans (X1.out 1)
  have a32 := (hb.cell (p := ⟨w.heap.size, 2, none⟩) S2.out).trans (X1.out 2)
  have a33 := (hb.cell (p := ⟨w.heap.size, 3, none⟩) S2.out).trans (X1.out 3)
  have a34 := (hb.cell (p := ⟨w.heap.size, 4, none⟩) S2.out).trans (X1.out 4)
  change _ = some (Value.int .i64 k) at a30
  change _ = some (Value.int .i64 i) at a31
  change _ = some (Value.string t) at a32
  change _ = some (Value.slice A its.length c) at a33
  change _ = some (Value.slice A' ks.length c') at a34
  clear hb
  cases p with
  | false =>
    have HR := Lib.hid (O1.out rfl)
    go_wp2
    go_ret
    exact ⟨ret_bool HR.out.symm, HB3.out⟩
  | true =>
    go_wp2_with fail
    refine (HB.out w3 HB3.out).mono ?_
    rintro e4 w4 ⟨rfl, hb⟩
    have HB4 := Lib.hid (below_next HB3.out hb)
    have S4 : Hid (w.heap.size < w4.heap.size) := Lib.hid (by have := S3.out; have := hb.size; omega)
    have a40 := (hb.cell (p := ⟨w.heap.size, 0, none⟩) S3.out).trans a30
    have a41 := (hb.cell (p := ⟨w.heap.size, 1, none⟩) S3.out).trans a31
    have a42 := (hb.cell (p := ⟨w.heap.size, 2, none⟩) S3.out).trans a32
    have a43 := (hb.cell (p := ⟨w.heap.size, 3, none⟩) S3.out).trans a33
    have a44 := (hb.cell (p := ⟨w.heap.size, 4, none⟩) S3.out).trans a34
    change _ = some (Value.int .i64 k) at a40
    change _ = some (Value.int .i64 i) at a41
    change _ = some (Value.string t) at a42
    change _ = some (Value.slice A its.length c) at a43
    change _ = some (Value.slice A' ks.length c') at a44
    clear a30 a31 a32 a33 a34
    clear hb
    cases q with
    | false =>
      have HR := Lib.hid (O2.out rfl)
      go_wp2
      go_ret
      exact ⟨ret_bool HR.out.symm, HB4.out⟩
    | true =>
      have HR := Lib.hid (O3.out (by trivial) (by trivial))
      go_wp2_with fail
      refine (HC.out w4 HB4.out).mono ?_
      rintro e5 w5 ⟨rfl, hb⟩
      have HB5 := Lib.hid (below_next HB4.out hb)
      have S5 : Hid (w.heap.size < w5.heap.size) := Lib.hid (by have := S4.out; have := hb.size; omega)
      have a50 := (hb.cell (p := ⟨w.heap.size, 0, none⟩) S4.out).trans a40
      have a51 := (hb.cell (p := ⟨w.heap.size, 1, none⟩) S4.out).trans a41
      have a52 := (hb.cell (p := ⟨w.heap.size, 2, none⟩) S4.out).trans a42
      have a53 := (hb.cell (p := ⟨w.heap.size, 3, none⟩) S4.out).trans a43
      have a54 := (hb.cell (p := ⟨w.heap.size, 4, none⟩) S4.out).trans a44
      change _ = some (Value.int .i64 k) at a50
      change _ = some (Value.int .i64 i) at a51
      change _ = some (Value.string t) at a52
      change _ = some (Value.slice A its.length c) at a53
      change _ = some (Value.slice A' ks.length c') at a54
      clear a40 a41 a42 a43 a44
      clear hb
      cases z with
      | false =>
        go_wp2
        go_ret
        exact ⟨ret_bool HR.out.symm, HB5.out⟩
      | true =>
        go_wp2
        go_ret
        exact ⟨ret_bool HR.out.symm, HB5.out⟩
end Go.Proofs.YtjblchdfkcbodaaGreatDoor
