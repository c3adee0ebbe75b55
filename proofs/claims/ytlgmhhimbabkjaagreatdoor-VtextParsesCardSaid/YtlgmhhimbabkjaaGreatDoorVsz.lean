/-
  The number of nodes and the depth of a value, in both packages.
-/
import Derived.Test.YtlgmhhimbabkjaaGreatDoorLies
import Derived.Test.YtlgmhhimbabkjaaGreatDoorChecked
import Derived.Lib.Hide
import Derived.LoopTactic
import Derived.Deep.LoopGhost
namespace Go.Proofs.YtlgmhhimbabkjaaGreatDoor
open Go.RowKit

/-- what a function that only lays blocks of its own hands back -/
def Gives (x : Value) (w : World) (e : Ending) (w' : World) : Prop := e = .returned x ∧ Below w.heap.size w w'

set_option maxHeartbeats 400000 in
theorem refSize_all (m : Nat) : ∀ (x : VT) (w : World) (v : Value), x.size ≤ m → m < 4611686018427387904 → Lies w (Lo w) x v → Calls Tryz.prog 61 #[v] w (Gives (.int .i64 (x.size : Nat)) w) := by
  induction m with
  | zero => intro x _ _ h; have := size_pos x; omega
  | succ m ih =>
    intro x w v hsz hm hv
    obtain ⟨k, i, t, its, ks⟩ := x
    obtain ⟨A, c, A', c', rfl, hk, hi, ht, hlc, hcm, hL, hkc, hcm', hS⟩ := hv.open
    rw [VT.size_mk] at hsz
    have HL := Lib.hid hL
    have IH := Lib.hid ih
    have hlen : its.length ≤ sizes its := by have := sizes_room its 0; simp [sizes] at this; omega
    clear hS hL ih hv
    obtain ⟨n, hn⟩ : ∃ n, n = its.length := ⟨_, rfl⟩
    rw [← hn] at hlc hlen ⊢
    have HN := Lib.hid hn
    clear hn
    unfold vag
    go_enter Tryz.func61, Tryz.ntmps61
    go_wp2
    obtain ⟨w1, hw1⟩ : ∃ w1, w1 = w.alloc (.cells #[.int .i64 k, .int .i64 i, .string t, .slice A n c, .slice A' ks.length c'] 25) := ⟨_, rfl⟩
    have B0 : Hid (Below w.heap.size w w1) := Lib.hid (by rw [hw1]; exact below_one _ _)
    have S1 : Hid (w.heap.size < w1.heap.size) := Lib.hid (by rw [hw1]; simp)
    have C3 : w1.cell? ⟨w.heap.size, 3, none⟩ = some (.slice A n c) := by rw [hw1, World.cell?_alloc_at _ _ _ _ rfl]; rfl
    rw [← hw1]
    have HW := Lib.hid hw1
    clear hw1
    go_loopw [3, 4] (fun r t wr => ∃ j : Nat, j ≤ n ∧ t = .int .i64 j ∧ r = .int .i64 ((1 + sizes (its.take j) : Nat) : Int) ∧ Hid (Below w1.heap.size w1 wr)) (fun _ t _ => n - (intOf t).toNat)
    case atStart => exact ⟨0, by omega, rfl, by simp [sizes], Lib.hid (Below.refl _ _)⟩
    case round =>
      obtain ⟨j, hjn, rfl, rfl, hb⟩ := hrel
      by_cases hlt : j < n
      · obtain ⟨g, o, k', i', t', B, n', c1, B', n1, c2, rfl, hg, e0, e1, e2, e3, e4, hx⟩ := (HL.out).at_ (j := j) (x := its[j]'(by rw [← HN.out]; exact hlt)) (List.getElem?_eq_getElem _)
        have hj := sizes_take (List.getElem?_eq_getElem (l := its) (i := j) (by rw [← HN.out]; exact hlt))
        have hle := sizes_take_le its (j + 1)
        have hb' : Below w.heap.size w wr := B0.out.trans (hb.out.mono (by have := S1.out; omega))
        have cc := fun (q : Nat) => hb'.cell (p := ⟨g, q, none⟩) hg
        rw [Nat.zero_add] at e0 e1 e2 e3 e4
        rw [← cc] at e0 e1 e2 e3 e4
        have C3' := (hb.out.cell (p := ⟨w.heap.size, 3, none⟩) S1.out).trans C3
        have hc := IH.out (its[j]'(by rw [← HN.out]; exact hlt)) wr _ (by omega) (by omega) (hx.below hb')
        generalize its[j]'(by rw [← HN.out]; exact hlt) = x at *
        have HC := Lib.hid hc
        have HB := Lib.hid hb'
        clear hc hx hb' cc C3
        unfold vag at HC
        go_wp2_with fail
        refine (HC.out).mono ?_
        rintro e w' ⟨rfl, hb2⟩
        have HB2 := Lib.hid (hb.out.trans (hb2.mono hb.out.size))
        clear hb2
        go_wp2
        go_roundw
        case rel => exact ⟨j + 1, by omega, by go_num, by rw [hj]; go_num, HB2⟩
        case measure => simp [intOf]; omega
      · have C3' := (hb.out.cell (p := ⟨w.heap.size, 3, none⟩) S1.out).trans C3
        obtain rfl : j = n := by omega
        go_wp2
        go_ret
        refine ⟨?_, B0.out.trans (hb.out.mono (by have := S1.out; omega))⟩
        rw [VT.size_mk, HN.out, List.take_length]
        rfl
end Go.Proofs.YtlgmhhimbabkjaaGreatDoor
