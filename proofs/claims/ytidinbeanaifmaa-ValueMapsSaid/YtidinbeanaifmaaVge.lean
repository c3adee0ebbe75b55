/-
  get of the reference.
-/
import Derived.Test.YtidinbeanaifmaaVwo
import Derived.Deep.LoopGhost
namespace Go.Proofs.Ytidinbeanaifmaa
open Go.RowKit

/-- the item of a key -/
def findK (ps : List (ByteArray × VT)) (key : ByteArray) : Option VT := (ps.find? fun p => decide (p.1 = key)).map (·.2)
theorem findK_none {ps : List (ByteArray × VT)} {key : ByteArray} (h : ∀ p ∈ ps, p.1 ≠ key) : findK ps key = none := by
  unfold findK
  rw [List.find?_eq_none.2 (fun p hp => by simpa using h p hp)]
  rfl
theorem findK_at {ps : List (ByteArray × VT)} {key : ByteArray} {j : Nat} {p : ByteArray × VT} (h : ∀ q ∈ ps.take j, q.1 ≠ key) (hj : ps[j]? = some p) (hp : p.1 = key) : findK ps key = some p.2 := by
  unfold findK
  have e : ps = ps.take j ++ p :: ps.drop (j + 1) := by
    have h1 := List.take_append_drop j ps
    have h2 := (List.getElem?_eq_some_iff.1 hj)
    obtain ⟨hl, rfl⟩ := h2
    rw [List.drop_eq_getElem_cons hl] at h1
    exact h1.symm
  rw [e, List.find?_append, List.find?_eq_none.2 (fun q hq => by simpa using h q hq)]
  rw [List.find?_cons_of_pos (by simpa using hp)]
  rfl
/-- a value that only reads through what is below the heap's end, and a bool -/
def MakesLB (y : VT) (b : Bool) (w : World) (e : Ending) (w' : World) : Prop := ∃ v, e = .returned (.tuple #[v, .bool b]) ∧ Lies w' (Lo w') y v ∧ Below w.heap.size w w'

set_option maxRecDepth 100000 in
set_option maxHeartbeats 4000000 in
theorem refget_any (k i : Int) (t : ByteArray) (its : List VT) (ks : List ByteArray) (A : Option Addr) (c : Nat) (A' : Option Addr) (c' : Nat) (key : ByteArray) (w : World)
    (hL : LiesL w (Lo w) A 0 its) (hS : LiesS w (Lo w) A' ks) (h1 : its.length ≤ c) (h2 : c ≤ 9223372036854775807) (_ : ks.length ≤ c') (_ : c' ≤ 9223372036854775807) :
    Calls Try.prog 62 #[vag k i t A its.length c A' ks.length c', .string key] w (MakesLB ((findK (ks.zip its) key).getD nullT) (findK (ks.zip its) key).isSome w) := by
  obtain ⟨w2, hw2⟩ : ∃ w2, w2 = (w.alloc (.cells #[.int .i64 k, .int .i64 i, .string t, .slice A its.length c, .slice A' ks.length c'] 26)).alloc (.cells #[.int .i64 0, .int .i64 0, .string ⟨#[]⟩, .slice none 0 0, .slice none 0 0] 26) := ⟨_, rfl⟩
  have B2 : Hid (Below w.heap.size w w2) := Lib.hid (by rw [hw2]; exact (below_one _ _).trans (Below.alloc (Below.refl _ _) (by simp) _))
  have P2 : Hid (Bk w2 w.heap.size 26 #[.int .i64 k, .int .i64 i, .string t, .slice A its.length c, .slice A' ks.length c']) := Lib.hid (by rw [hw2]; exact (Bk.new _ _ _).alloc _)
  have Q2 : Hid (Bk w2 (w.heap.size + 1) 26 #[.int .i64 0, .int .i64 0, .string ⟨#[]⟩, .slice none 0 0, .slice none 0 0]) := Lib.hid (by rw [hw2]; have := Bk.new (w.alloc (.cells #[.int .i64 k, .int .i64 i, .string t, .slice A its.length c, .slice A' ks.length c'] 26)) 26 #[.int .i64 0, .int .i64 0, .string ⟨#[]⟩, .slice none 0 0, .slice none 0 0]; simpa using this)
  have HL := Lib.hid hL
  have HS := Lib.hid hS
  have HW := Lib.hid hw2
  obtain ⟨r, hr⟩ : ∃ r, r = findK (ks.zip its) key := ⟨_, rfl⟩
  have HR := Lib.hid hr
  rw [← hr]
  clear hw2 hL hS hr
  have p3 := P2.out.cell 3
  have p4 := P2.out.cell 4
  change _ = some (Value.slice A its.length c) at p3
  change _ = some (Value.slice A' ks.length c') at p4
  unfold vag
  go_enter Try.func62, Try.ntmps62
  go_wp2_with fail
  rw [← HW.out]
  go_loopg [6] ks.length (fun gh iv wr => w2 = wr ∧ ∃ (j : Nat), j ≤ ks.length ∧ gh = ks.length - j ∧ iv = .int .i64 j ∧ Hid (∀ p ∈ (ks.zip its).take j, p.1 ≠ key))
  case atStart => exact ⟨rfl, 0, by omega, rfl, rfl, Lib.hid (fun p hp => by simp at hp)⟩
  case round =>
    obtain ⟨rfl, j, hjn, rfl, rfl, HN⟩ := hrel
    by_cases hin : j < ks.length ∧ j < its.length
    · obtain ⟨hlt, hji⟩ := hin
      have g1 := List.getElem?_eq_getElem (l := ks) (i := j) hlt
      have g2 := List.getElem?_eq_getElem (l := its) (i := j) hji
      obtain ⟨hkz, gk, ok, rfl, hgk, ek⟩ := HS.out j _ g1
      obtain ⟨gi, oi, k', i', t', E, n1, c1, E', n2, c2, rfl, hgi, e0, e1, e2, e3, e4, hy⟩ := (HL.out).at_ g2
      have hz := (List.getElem?_zip_eq_some (z := (ks[j]'hlt, its[j]'hji))).2 ⟨g1, g2⟩
      have htk : (ks.zip its).take (j + 1) = (ks.zip its).take j ++ [(ks[j]'hlt, its[j]'hji)] := by
        rw [List.take_add_one, hz]
        rfl
      generalize ks[j]'hlt = kj at *
      generalize its[j]'hji = y at *
      have HY := Lib.hid hy
      have HZ := Lib.hid hz
      have HTK := Lib.hid htk
      have HJ : Hid (j + 1 ≤ ks.length) := Lib.hid hlt
      rw [Nat.zero_add] at e0 e1 e2 e3 e4
      rw [← B2.out.cell (p := ⟨gk, ok + j, none⟩) hgk] at ek
      have cc := fun (q : Nat) => B2.out.cell (p := ⟨gi, q, none⟩) hgi
      rw [← cc] at e0 e1 e2 e3 e4
      clear cc htk hz hy g1 g2 hkz hgi hgk
      by_cases hk : kj = key
      · have t1 : (kj.toList == key.toList) = true := by rw [hk]; simp
        have RS : Hid (r = some y) := Lib.hid (HR.out.trans (findK_at (p := (kj, y)) HN.out HZ.out hk))
        have q0 := Q2.out.cell 0
        have q1 := Q2.out.cell 1
        have q2 := Q2.out.cell 2
        have q3 := Q2.out.cell 3
        have q4 := Q2.out.cell 4
        have f0 := Q2.out.frozen 0
        have f1 := Q2.out.frozen 1
        have f2 := Q2.out.frozen 2
        have f3 := Q2.out.frozen 3
        have f4 := Q2.out.frozen 4
        have LT : Hid (w.heap.size + 1 < w2.heap.size) := Lib.hid Q2.out.lt
        clear hk
        go_wp2
        obtain ⟨wf, hwf⟩ : ∃ wf, wf = ((((w2.setCell ⟨w.heap.size + 1, 0, none⟩ (.int .i64 k')).setCell ⟨w.heap.size + 1, 1, none⟩ (.int .i64 i')).setCell ⟨w.heap.size + 1, 2, none⟩ (.string t')).setCell ⟨w.heap.size + 1, 3, none⟩ (.slice E n1 c1)).setCell ⟨w.heap.size + 1, 4, none⟩ (.slice E' n2 c2) := ⟨_, rfl⟩
        have QF : Hid (Bk wf (w.heap.size + 1) 26 #[.int .i64 k', .int .i64 i', .string t', .slice E n1 c1, .slice E' n2 c2]) := Lib.hid (by rw [hwf]; exact ((((Q2.out.put 0 _).put 1 _).put 2 _).put 3 _).put 4 _)
        have BF : Hid (Below w.heap.size w wf) := Lib.hid (by
          rw [hwf]
          exact ((((B2.out.setCell (p := ⟨w.heap.size + 1, 0, none⟩) (by show w.heap.size ≤ w.heap.size + 1; omega) _).setCell (p := ⟨w.heap.size + 1, 1, none⟩) (by show w.heap.size ≤ w.heap.size + 1; omega) _).setCell (p := ⟨w.heap.size + 1, 2, none⟩) (by show w.heap.size ≤ w.heap.size + 1; omega) _).setCell (p := ⟨w.heap.size + 1, 3, none⟩) (by show w.heap.size ≤ w.heap.size + 1; omega) _).setCell (p := ⟨w.heap.size + 1, 4, none⟩) (by show w.heap.size ≤ w.heap.size + 1; omega) _)
        rw [← hwf]
        refine bodyPost_ret (results_row2 rfl _ _ (w.heap.size + 1) 26 _ (0, 0) _ rfl QF.out Try.underlying26 rfl (by kernel_rfl)) rfl ?_
        rw [RS.out]
        exact ⟨_, rfl, HY.out.below BF.out, BF.out⟩
      · have t1 : (kj.toList == key.toList) = false := by rw [beq_eq_false_iff_ne]; exact fun e => hk (str_inj e)
        have HN2 : Hid (∀ p ∈ (ks.zip its).take (j + 1), p.1 ≠ key) := Lib.hid (fun p hp => by
          rw [HTK.out] at hp
          rcases List.mem_append.1 hp with hp | hp
          · exact HN.out p hp
          · rw [List.mem_singleton.1 hp]; exact hk)
        clear hk
        go_wp2_with fail
        go_roundg (ks.length - (j + 1))
        case measure => have := HJ.out; omega
        case rel => exact ⟨rfl, j + 1, HJ.out, rfl, by go_num, HN2⟩
    · have RS : Hid (r = none) := Lib.hid (HR.out.trans (findK_none (fun p hp => HN.out p (by
        rw [List.take_of_length_le (by rw [List.length_zip]; omega)]
        exact hp))))
      have TT : Hid ((¬ j < ks.length) ∨ (j < ks.length ∧ ¬ j < its.length)) := Lib.hid (by omega)
      have q0 := Q2.out.cell 0
      have q1 := Q2.out.cell 1
      have q2 := Q2.out.cell 2
      have q3 := Q2.out.cell 3
      have q4 := Q2.out.cell 4
      have f0 := Q2.out.frozen 0
      have f1 := Q2.out.frozen 1
      have f2 := Q2.out.frozen 2
      have f3 := Q2.out.frozen 3
      have f4 := Q2.out.frozen 4
      clear hin
      rcases TT.out with u1 | ⟨u1, u2⟩
      all_goals (
        go_wp2
        obtain ⟨wf, hwf⟩ : ∃ wf, wf = ((((w2.setCell ⟨w.heap.size + 1, 0, none⟩ (.int .i64 0)).setCell ⟨w.heap.size + 1, 1, none⟩ (.int .i64 0)).setCell ⟨w.heap.size + 1, 2, none⟩ (.string ⟨#[]⟩)).setCell ⟨w.heap.size + 1, 3, none⟩ (.slice none 0 0)).setCell ⟨w.heap.size + 1, 4, none⟩ (.slice none 0 0) := ⟨_, rfl⟩
        have QF : Hid (Bk wf (w.heap.size + 1) 26 #[.int .i64 0, .int .i64 0, .string ⟨#[]⟩, .slice none 0 0, .slice none 0 0]) := Lib.hid (by rw [hwf]; exact ((((Q2.out.put 0 _).put 1 _).put 2 _).put 3 _).put 4 _)
        have BF : Hid (Below w.heap.size w wf) := Lib.hid (by
          rw [hwf]
          exact ((((B2.out.setCell (p := ⟨w.heap.size + 1, 0, none⟩) (by show w.heap.size ≤ w.heap.size + 1; omega) _).setCell (p := ⟨w.heap.size + 1, 1, none⟩) (by show w.heap.size ≤ w.heap.size + 1; omega) _).setCell (p := ⟨w.heap.size + 1, 2, none⟩) (by show w.heap.size ≤ w.heap.size + 1; omega) _).setCell (p := ⟨w.heap.size + 1, 3, none⟩) (by show w.heap.size ≤ w.heap.size + 1; omega) _).setCell (p := ⟨w.heap.size + 1, 4, none⟩) (by show w.heap.size ≤ w.heap.size + 1; omega) _)
        rw [← hwf]
        refine bodyPost_ret (results_row2 rfl _ _ (w.heap.size + 1) 26 _ (0, 0) _ rfl QF.out Try.underlying26 rfl (by kernel_rfl)) rfl ?_
        rw [RS.out]
        exact ⟨_, rfl, zero_lies _ _, BF.out⟩)
end Go.Proofs.Ytidinbeanaifmaa
