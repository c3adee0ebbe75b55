/-
  Short, Future, Within and Right of the reference; Right of the code.
-/
import Derived.Test.YtjblchdfkcbodaaGreatDoorVwf
import Derived.Test.YtjblchdfkcbodaaGreatDoorVfit
import Derived.Test.YtjblchdfkcbodaaGreatDoorVdp
namespace Go.Proofs.YtjblchdfkcbodaaGreatDoor
open Go.RowKit

set_option maxHeartbeats 1000000 in
theorem refFuture_all (m : Nat) : ∀ (x : VT) (w : World) (v : Value), x.size ≤ m → Lies w (Lo w) x v → Calls Tryz.prog 32 #[v] w (Gives (.bool (!x.all noFut)) w) := by
  induction m with
  | zero => intro x _ _ h; have := size_pos x; omega
  | succ m ih =>
    intro x w v hsz hv
    obtain ⟨k, i, t, its, ks⟩ := x
    obtain ⟨A, c, A', c', rfl, _, _, _, hlc, hcm, hL, _, _, _⟩ := hv.open
    rw [VT.size_mk] at hsz
    obtain ⟨r, hr⟩ : ∃ r, r = !(VT.mk k i t its ks).all noFut := ⟨_, rfl⟩
    rw [← hr]
    rw [VT.all_mk] at hr
    have hno : ∀ (j : Nat) (y : VT), its[j]? = some y → y.all noFut = false → r = true := fun j y h h' => by rw [hr, alls_false h h', Bool.and_false]; rfl
    have hyes : alls noFut its = true → r = (k == 6) := fun h => by
      rw [hr, h, Bool.and_true]
      unfold noFut VT.k
      by_cases hk : k = 6 <;> simp [hk]
    have HNO := Lib.hid hno
    have HYES := Lib.hid hyes
    have HL := Lib.hid hL
    have IH := Lib.hid ih
    clear hL ih hv hr hno hyes
    obtain ⟨n, hn⟩ : ∃ n, n = its.length := ⟨_, rfl⟩
    rw [← hn] at hlc ⊢
    have HN := Lib.hid hn
    clear hn
    unfold vag
    go_enter Tryz.func32, Tryz.ntmps32
    go_wp2
    obtain ⟨w1, hw1⟩ : ∃ w1, w1 = w.alloc (.cells #[.int .i64 k, .int .i64 i, .string t, .slice A n c, .slice A' ks.length c'] 25) := ⟨_, rfl⟩
    have B0 : Hid (Below w.heap.size w w1) := Lib.hid (by rw [hw1]; exact below_one _ _)
    have S1 : Hid (w.heap.size < w1.heap.size) := Lib.hid (by rw [hw1]; simp)
    have X1 : Hid (∀ q, w1.cell? ⟨w.heap.size, q, none⟩ = (#[.int .i64 k, .int .i64 i, .string t, .slice A n c, .slice A' ks.length c'] : Array Value)[q]?) := Lib.hid (fun q => by rw [hw1, World.cell?_alloc_at _ _ _ _ rfl])
    rw [← hw1]
    have HW := Lib.hid hw1
    clear hw1
    go_loopw [3] (fun s wr => ∃ j : Nat, j ≤ n ∧ s = .int .i64 j ∧ Hid (alls noFut (its.take j) = true) ∧ Hid (Below w1.heap.size w1 wr)) (fun s _ => n - (intOf s).toNat)
    case atStart => exact ⟨0, by omega, rfl, Lib.hid (by simp [alls]), Lib.hid (Below.refl _ _)⟩
    case round =>
      obtain ⟨j, hjn, rfl, ha, hb⟩ := hrel
      have b0 := (hb.out.cell (p := ⟨w.heap.size, 0, none⟩) S1.out).trans (X1.out 0)
      have b3 := (hb.out.cell (p := ⟨w.heap.size, 3, none⟩) S1.out).trans (X1.out 3)
      change _ = some (Value.int .i64 k) at b0
      change _ = some (Value.slice A n c) at b3
      by_cases hlt : j < n
      · have g1 := List.getElem?_eq_getElem (l := its) (i := j) (by rw [← HN.out]; exact hlt)
        obtain ⟨g, o, k', i', t', B, n', c1, B', n1, c2, rfl, hg, e0, e1, e2, e3, e4, hx⟩ := (HL.out).at_ g1
        have hle := size_at g1
        have htk := alls_take (p := noFut) g1
        have HN2 := Lib.hid (HNO.out j _ g1)
        have HB := Lib.hid (below_next B0.out hb.out)
        generalize its[j]'(by rw [← HN.out]; exact hlt) = x at *
        have cc := fun (q : Nat) => HB.out.cell (p := ⟨g, q, none⟩) hg
        rw [Nat.zero_add] at e0 e1 e2 e3 e4
        rw [← cc] at e0 e1 e2 e3 e4
        have hc := IH.out x wr _ (by omega) (hx.below HB.out)
        generalize x.all noFut = p at *
        have HC := Lib.hid hc
        have HTK := Lib.hid htk
        clear hc hx cc g1 htk b0
        unfold vag at HC
        go_wp2_with fail
        refine (HC.out).mono ?_
        rintro e w' ⟨rfl, hb2⟩
        have HB2 := Lib.hid (below_next hb.out hb2)
        clear hb2
        cases p with
        | true =>
          go_wp2
          go_roundw
          case rel => exact ⟨j + 1, by omega, by go_num, Lib.hid (by rw [HTK.out, ha.out]; rfl), HB2⟩
          case measure => simp [intOf]; omega
        | false =>
          have HR := Lib.hid (HN2.out rfl)
          go_wp2
          go_ret
          exact ⟨ret_bool HR.out.symm, below_next B0.out HB2.out⟩
      · have HR := Lib.hid (HYES.out (by
          have := ha.out
          rwa [show j = n by omega, HN.out, List.take_length] at this))
        go_wp2
        go_ret
        exact ⟨ret_bool HR.out.symm, below_next B0.out hb.out⟩
theorem refFuture_any {x : VT} {v : Value} {w : World} (h : Lies w (Lo w) x v) : Calls Tryz.prog 32 #[v] w (Gives (.bool (!x.all noFut)) w) := refFuture_all x.size x w v (Nat.le_refl _) h

set_option maxHeartbeats 1000000 in
theorem refShort_all (m : Nat) : ∀ (x : VT) (w : World) (v : Value), x.size ≤ m → Lies w (Lo w) x v → Calls Tryz.prog 59 #[v] w (Gives (.bool (x.all shortF)) w) := by
  induction m with
  | zero => intro x _ _ h; have := size_pos x; omega
  | succ m ih =>
    intro x w v hsz hv
    obtain ⟨k, i, t, its, ks⟩ := x
    obtain ⟨A, c, A', c', rfl, _, _, htm, hlc, hcm, hL, hkc, hcm', hS⟩ := hv.open
    rw [VT.size_mk] at hsz
    obtain ⟨r, hr⟩ : ∃ r, r = (VT.mk k i t its ks).all shortF := ⟨_, rfl⟩
    rw [← hr]
    rw [VT.all_mk] at hr
    have hno : ∀ (j : Nat) (y : VT), its[j]? = some y → y.all shortF = false → r = false := fun j y h h' => by rw [hr, alls_false h h', Bool.and_false]
    have hnk : (ks.all fun s => decide (s.size ≤ 4096)) = false → r = false := fun h => by rw [hr]; unfold shortF VT.ks; rw [h, Bool.and_false, Bool.false_and]
    have hyes : t.size ≤ 4096 → (ks.all fun s => decide (s.size ≤ 4096)) = true → alls shortF its = true → r = true := fun h1 h2 h3 => by
      rw [hr, h3]; unfold shortF VT.ks VT.t; rw [h2, decide_eq_true h1]; rfl
    have hnt : ¬ t.size ≤ 4096 → r = false := fun h => by rw [hr]; unfold shortF VT.t; rw [decide_eq_false h, Bool.false_and, Bool.false_and]
    have HNO := Lib.hid hno
    have HNK := Lib.hid hnk
    have HYES := Lib.hid hyes
    have HNT := Lib.hid hnt
    have HL := Lib.hid hL
    have HS := Lib.hid hS
    have IH := Lib.hid ih
    clear hL hS ih hv hr hno hyes hnk hnt
    obtain ⟨n, hn⟩ : ∃ n, n = its.length := ⟨_, rfl⟩
    rw [← hn] at hlc ⊢
    have HN := Lib.hid hn
    clear hn
    unfold vag
    by_cases ht : t.size ≤ 4096
    · have g2 : decide (4096 < (t.size : Int)) = false := decide_eq_false (by omega)
      have HT := Lib.hid ht
      clear ht HNT
      go_enter Tryz.func59, Tryz.ntmps59
      go_wp2
      obtain ⟨w1, hw1⟩ : ∃ w1, w1 = w.alloc (.cells #[.int .i64 k, .int .i64 i, .string t, .slice A n c, .slice A' ks.length c'] 25) := ⟨_, rfl⟩
      have B0 : Hid (Below w.heap.size w w1) := Lib.hid (by rw [hw1]; exact below_one _ _)
      have S1 : Hid (w.heap.size < w1.heap.size) := Lib.hid (by rw [hw1]; simp)
      have X1 : Hid (∀ q, w1.cell? ⟨w.heap.size, q, none⟩ = (#[.int .i64 k, .int .i64 i, .string t, .slice A n c, .slice A' ks.length c'] : Array Value)[q]?) := Lib.hid (fun q => by rw [hw1, World.cell?_alloc_at _ _ _ _ rfl])
      rw [← hw1]
      have x4 := X1.out 4
      change _ = some (Value.slice A' ks.length c') at x4
      have HW := Lib.hid hw1
      clear hw1
      go_loopw [3] (fun s wr => ∃ j : Nat, j ≤ ks.length ∧ s = .int .i64 j ∧ w1 = wr ∧ Hid ((ks.take j).all (fun s => decide (s.size ≤ 4096)) = true)) (fun s _ => ks.length - (intOf s).toNat)
      case atStart => exact ⟨0, by omega, rfl, rfl, Lib.hid rfl⟩
      case round =>
        obtain ⟨j, hjn, rfl, rfl, ha⟩ := hrel
        by_cases hlt : j < ks.length
        · have hkj : ks[j]? = some (ks.getD j ByteArray.empty) := by rw [List.getD_eq_getElem?_getD, List.getElem?_eq_getElem hlt]; rfl
          obtain ⟨hsz2, g, o, rfl, hg, e0⟩ := HS.out j _ hkj
          rw [← B0.out.cell (p := ⟨g, o + j, none⟩) hg] at e0
          have hst := fun h => short_take hkj ha.out h
          have hno := fun h => short_no hkj h
          generalize ks.getD j ByteArray.empty = s at *
          have HST := Lib.hid hst
          have HNO2 := Lib.hid hno
          clear hst hno hkj
          by_cases hs : s.size ≤ 4096
          · have g3 : decide (4096 < (s.size : Int)) = false := decide_eq_false (by omega)
            go_wp2
            go_roundw
            case rel => exact ⟨j + 1, by omega, by go_num, trivial, Lib.hid (HST.out hs)⟩
            case measure => simp [intOf]; omega
          · have g3 : decide (4096 < (s.size : Int)) = true := decide_eq_true (by omega)
            have HR := Lib.hid (HNK.out (HNO2.out hs))
            go_wp2
            go_ret
            exact ⟨ret_bool HR.out.symm, B0.out⟩
        · have HK : Hid ((ks.all fun s => decide (s.size ≤ 4096)) = true) := Lib.hid (by
            have := ha.out
            rwa [show j = ks.length by omega, List.take_length] at this)
          clear ha
          go_wp2
          obtain ⟨w6, hw6⟩ : ∃ w6, w6 = w1 := ⟨_, rfl⟩
          go_loopw [4] (fun s wr => ∃ j : Nat, j ≤ n ∧ s = .int .i64 j ∧ Hid (alls shortF (its.take j) = true) ∧ Hid (Below w1.heap.size w1 wr)) (fun s _ => n - (intOf s).toNat)
          case atStart => exact ⟨0, by omega, rfl, Lib.hid (by simp [alls]), Lib.hid (Below.refl _ _)⟩
          case round =>
            obtain ⟨j, hjn, rfl, ha, hb⟩ := hrel
            have b3 := (hb.out.cell (p := ⟨w.heap.size, 3, none⟩) S1.out).trans (X1.out 3)
            change _ = some (Value.slice A n c) at b3
            by_cases hlt : j < n
            · have g1 := List.getElem?_eq_getElem (l := its) (i := j) (by rw [← HN.out]; exact hlt)
              obtain ⟨g, o, k', i', t', B, n', c1, B', n1, c2, rfl, hg, e0, e1, e2, e3, e4, hx⟩ := (HL.out).at_ g1
              have hle := size_at g1
              have htk := alls_take (p := shortF) g1
              have HN2 := Lib.hid (HNO.out j _ g1)
              have HB := Lib.hid (below_next B0.out hb.out)
              generalize its[j]'(by rw [← HN.out]; exact hlt) = x at *
              have cc := fun (q : Nat) => HB.out.cell (p := ⟨g, q, none⟩) hg
              rw [Nat.zero_add] at e0 e1 e2 e3 e4
              rw [← cc] at e0 e1 e2 e3 e4
              have hc := IH.out x wr _ (by omega) (hx.below HB.out)
              generalize x.all shortF = p at *
              have HC := Lib.hid hc
              have HTK := Lib.hid htk
              clear hc hx cc g1 htk
              unfold vag at HC
              go_wp2_with fail
              refine (HC.out).mono ?_
              rintro e w' ⟨rfl, hb2⟩
              have HB2 := Lib.hid (below_next hb.out hb2)
              clear hb2
              cases p with
              | true =>
                go_wp2
                go_roundw
                case rel => exact ⟨j + 1, by omega, by go_num, Lib.hid (by rw [HTK.out, ha.out]; rfl), HB2⟩
                case measure => simp [intOf]; omega
              | false =>
                have HR := Lib.hid (HN2.out rfl)
                go_wp2
                go_ret
                exact ⟨ret_bool HR.out.symm, below_next B0.out HB2.out⟩
            · have HR := Lib.hid (HYES.out HT.out HK.out (by
                have := ha.out
                rwa [show j = n by omega, HN.out, List.take_length] at this))
              go_wp2
              go_ret
              exact ⟨ret_bool HR.out.symm, below_next B0.out hb.out⟩
    · have g2 : decide (4096 < (t.size : Int)) = true := decide_eq_true (by omega)
      have HR := Lib.hid (HNT.out ht)
      clear ht
      go_enter Tryz.func59, Tryz.ntmps59
      go_wp2
      go_ret
      exact ⟨ret_bool HR.out.symm, below_one _ _⟩
theorem refShort_any {x : VT} {v : Value} {w : World} (h : Lies w (Lo w) x v) : Calls Tryz.prog 59 #[v] w (Gives (.bool (x.all shortF)) w) := refShort_all x.size x w v (Nat.le_refl _) h
end Go.Proofs.YtjblchdfkcbodaaGreatDoor
