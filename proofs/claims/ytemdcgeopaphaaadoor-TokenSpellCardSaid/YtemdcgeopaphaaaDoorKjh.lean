/-
  The argument []api.Token, opened; the walk of TokenSpell.
-/
import Derived.Test.YtemdcgeopaphaaaDoorKjg
import Derived.Test.YtemdcgeopaphaaaDoorKq
import Derived.Test.YtemdcgeopaphaaaDoorChecked
import Derived.Test.YtemdcgeopaphaaaDoorFrame
import Derived.ProofKit
import Derived.Deep.Slices
import Derived.Deep.Strs
namespace Go.Proofs.YtemdcgeopaphaaaDoor.opens
open Go.ChangeShapes Go.WideShapes Go.ChangeAt Go.RowKit Go.Deep

theorem Tryd.tcells : Tryd.prog.cellsOf 30 = 4 := by kernel_rfl
theorem Tryd.icells : Tryd.prog.cellsOf 3 = 1 := by kernel_rfl
theorem Tryd.scells : Tryd.prog.cellsOf 9 = 1 := by kernel_rfl
theorem ints64 {a : Int} (h : (Lit.int .i64 a).wf = true) : -9223372036854775808 ≤ a ∧ a ≤ 9223372036854775807 := by
  simpa [Lit.wf, IntKind.min, IntKind.max, IntKind.signed, IntKind.bits] using h
section
variable {H : Type} {enc : TypeId × Value → H} {W : World} {base : Nat} {spare : Nat → Bool} {held : Bool}
set_option maxRecDepth 100000 in
theorem token_cells {n : Nat} {cs : List Value} {y : DataW H × List MemPlace} (h : DataW.trod enc Tryd.prog W base spare held n 30 cs = some y) :
    ∃ (a b : Int) (s : ByteArray) (c : Int), cs = [.int .i64 a, .int .i64 b, .string s, .int .i64 c] ∧ -9223372036854775808 ≤ c ∧ c ≤ 9223372036854775807 ∧ s.size ≤ maxLen := by
  obtain ⟨xs, n, rfl, _, hl, hx, hf⟩ := DataW.trod_struct Tryd.underlying30 h
  rw [Tryd.tcells] at hl
  match cs, hl with
  | [a, b, s, p], _ =>
    match xs, hx with
    | [x0, x1, x2, x3], _ =>
      have f0 := hf 0 _ rfl
      have f1 := hf 1 _ rfl
      have f2 := hf 2 _ rfl
      have f3 := hf 3 _ rfl
      change DataW.trod enc Tryd.prog W base spare held n 3 (([a, b, s, p].drop 0).take (Tryd.prog.cellsOf 3)) = some x0 at f0
      rw [Tryd.icells] at f0
      change DataW.trod enc Tryd.prog W base spare held n 3 (([a, b, s, p].drop 1).take (Tryd.prog.cellsOf 3)) = some x1 at f1
      rw [Tryd.icells] at f1
      change DataW.trod enc Tryd.prog W base spare held n 9 (([a, b, s, p].drop 2).take (Tryd.prog.cellsOf 9)) = some x2 at f2
      rw [Tryd.scells] at f2
      change DataW.trod enc Tryd.prog W base spare held n 3 (([a, b, s, p].drop 3).take (Tryd.prog.cellsOf 3)) = some x3 at f3
      rw [Tryd.icells] at f3
      change DataW.trod enc Tryd.prog W base spare held n 3 [a] = some x0 at f0
      change DataW.trod enc Tryd.prog W base spare held n 3 [b] = some x1 at f1
      change DataW.trod enc Tryd.prog W base spare held n 9 [s] = some x2 at f2
      change DataW.trod enc Tryd.prog W base spare held n 3 [p] = some x3 at f3
      obtain ⟨k, hk, _, _⟩ := DataW.trod_int Tryd.underlying3 f0
      obtain ⟨i, hi, _, _⟩ := DataW.trod_int Tryd.underlying3 f1
      obtain ⟨t, ht, _, wt⟩ := DataW.trod_string Tryd.underlying9 f2
      obtain ⟨q, hq, _, wq⟩ := DataW.trod_int Tryd.underlying3 f3
      simp only [List.cons.injEq, and_true] at hk hi ht hq
      subst hk hi ht hq
      exact ⟨k, i, t, q, rfl, (ints64 wq).1, (ints64 wq).2, wt⟩
theorem tokens {r : Reach} {b0 : Nat} {v : Value} {d : DataW H} {ps : List MemPlace}
    (hval : Value.okWide Tryd.prog W r b0 23 v) (hd : DataW.Trod enc Tryd.prog W base spare held 23 v d ps) :
    ∃ (A : Option Addr) (c : Nat) (l : List Tok), v = .slice A l.length c ∧ URow W A l ∧ (∀ k ∈ l, -9223372036854775808 ≤ k.int ∧ k.int ≤ 9223372036854775807) ∧ l.length ≤ maxLen := by
  obtain ⟨A, m, c, rfl⟩ := okWide_slice Tryd.underlying23 hval
  obtain ⟨fuel, hf⟩ := hd
  rcases open_slice Tryd.underlying23 hf with ⟨hcs, _⟩ | ⟨x, len, cap, k, n, D, Pl, hcs, _, hl, hmx, hk, _, hel⟩
  · simp [Value.cells] at hcs
    obtain ⟨rfl, rfl, rfl⟩ := hcs
    exact ⟨none, 0, [], rfl, (fun j k h => by cases h), (fun k h => by cases h), Nat.zero_le _⟩
  · simp [Value.cells] at hcs
    obtain ⟨rfl, rfl, rfl⟩ := hcs
    rw [Tryd.tcells] at hel
    have hmk : m ≤ k := by rw [hk]; split <;> omega
    have each : ∀ j, ∃ (t : Tok), j < m → ∃ z, W.cell? (x.add (j * 4)) = some (.int .i64 t.kind) ∧ W.cell? ((x.add (j * 4)).add 1) = some (.int .i64 z) ∧ W.cell? ((x.add (j * 4)).add 2) = some (strV t.text) ∧ W.cell? ((x.add (j * 4)).add 3) = some (.int .i64 t.int) ∧
        -9223372036854775808 ≤ t.int ∧ t.int ≤ 9223372036854775807 := by
      intro j
      by_cases hj : j < m
      · obtain ⟨cs', h1, h2⟩ := hel j (by omega)
        obtain ⟨a, b, s, q, rfl, hq1, hq2, _⟩ := token_cells h2
        obtain ⟨_, _, h3⟩ := World.cells?_some h1
        have e0 := h3 0 (by omega)
        have e1 := h3 1 (by omega)
        have e2 := h3 2 (by omega)
        have e3 := h3 3 (by omega)
        have ez : (x.add (j * 4)).add 0 = x.add (j * 4) := by simp [Addr.add]
        rw [ez] at e0
        exact ⟨⟨a, 0, s.data.toList, q⟩, fun _ => ⟨b, e0, e1, e2, e3, hq1, hq2⟩⟩
      · exact ⟨⟨0, 0, [], 0⟩, fun h => absurd h hj⟩
    obtain ⟨f, hF⟩ := Classical.axiomOfChoice each
    have hget : ∀ j t, ((List.range m).map f)[j]? = some t → j < m ∧ t = f j := by
      intro j t h
      obtain ⟨hj, hv⟩ := List.getElem?_eq_some_iff.1 h
      simp at hj hv
      exact ⟨hj, hv.symm⟩
    refine ⟨some x, _, (List.range m).map f, by rw [List.length_map, List.length_range], ?_, ?_, by simpa using Nat.le_trans hl hmx⟩
    · intro j t h
      obtain ⟨hj, rfl⟩ := hget j t h
      obtain ⟨_, h0, _⟩ := hF 0 (by omega)
      obtain ⟨z, h1, h2, h3, h4, _, _⟩ := hF j hj
      obtain ⟨g, o, spot⟩ := x
      have hspot : spot = none := by simpa [Addr.add] using World.cell?_spot h0
      subst hspot
      rw [Addr.add_lit] at h1 h2 h3 h4
      rw [Addr.add_lit] at h2 h3 h4
      exact ⟨g, o, z, rfl, World.block_lt_of_cell? W _ h1, h1, h2, h3, h4⟩
    · intro t ht
      obtain ⟨j, hj0⟩ := List.mem_iff_getElem?.1 ht
      obtain ⟨hj, rfl⟩ := hget j t hj0
      obtain ⟨z, _, _, _, _, h5, h6⟩ := hF j hj
      exact ⟨h5, h6⟩
end
end Go.Proofs.YtemdcgeopaphaaaDoor.opens
namespace Go.Proofs.YtemdcgeopaphaaaDoor
open Go.RowKit
set_option maxRecDepth 100000 in
set_option maxHeartbeats 16000000 in
theorem TokenSpell_walk (A : Option Addr) (c : Nat) (l : List Tok) (s : ByteArray) (w : World) (hU : URow w A l) (hI : ∀ k ∈ l, -9223372036854775808 ≤ k.int ∧ k.int ≤ 9223372036854775807) (hm : l.length ≤ maxLen) (hs : s.size ≤ maxLen) (hE : NStd w) :
    Calls Tryd.prog 5 #[.slice A l.length c, .string s] w fun e w' => e = .returned (.bool true) ∧ Below w.heap.size w w' := by
  have HE := Lib.hid hE
  have HU := Lib.hid hU
  have HI := Lib.hid hI
  have hm9 : l.length ≤ 9223372036854775807 := by unfold maxLen at hm; omega
  have hs9 : s.size ≤ 9223372036854775807 := by unfold maxLen at hs; omega
  obtain ⟨n, hn⟩ : ∃ n, n = l.length := ⟨_, rfl⟩
  rw [← hn] at hm9 ⊢
  have HN := Lib.hid hn
  clear hE hU hI hm hs hn
  by_cases h100 : 100 < n
  · have g1 : (100 : Int) < (n : Int) := by omega
    have HW := Lib.hid (works_any HE.out)
    go_enter Tryd.func5, Tryd.ntmps5
    go_wp2_with fail
    refine (HW.out).mono ?_
    rintro _ w1 ⟨rfl, hb1⟩
    go_wp2
    go_ret
    exact ⟨rfl, hb1⟩
  have g1 : ¬ (100 : Int) < (n : Int) := by omega
  by_cases h500 : 500 < s.size
  · have g2 : (500 : Int) < (s.size : Int) := by omega
    have HW := Lib.hid (works_any HE.out)
    go_enter Tryd.func5, Tryd.ntmps5
    go_wp2_with fail
    refine (HW.out).mono ?_
    rintro _ w1 ⟨rfl, hb1⟩
    go_wp2
    go_ret
    exact ⟨rfl, hb1⟩
  have g2 : ¬ (500 : Int) < (s.size : Int) := by omega
  go_enter Tryd.func5, Tryd.ntmps5
  go_wp2_with fail
  go_loopw [18] (fun iv wr => ∃ j : Nat, j ≤ n ∧ iv = .int .i64 j ∧ Hid (∀ i k, i < j → l[i]? = some k → k.text.length ≤ 200) ∧ Hid (Below w.heap.size w wr)) (fun iv _ => n - (intOf iv).toNat)
  case atStart => exact ⟨0, Nat.zero_le _, rfl, Lib.hid (fun i k h => absurd h (Nat.not_lt_zero _)), Lib.hid (Below.refl _ _)⟩
  case round =>
    obtain ⟨j, hj, rfl, HT, HB⟩ := hrel
    by_cases hlt : j < n
    · obtain ⟨x, hx⟩ : ∃ x, l[j]? = some x := ⟨_, List.getElem?_eq_getElem (by rw [← HN.out]; exact hlt)⟩
      have HX := Lib.hid hx
      obtain ⟨g, q, z, rfl, _, a0, a1, a2, a3⟩ := (HU.out.below HB.out) j x hx
      obtain ⟨st, hst⟩ : ∃ st : ByteArray, strV x.text = .string st := ⟨_, rfl⟩
      have HST : Hid (x.text.length = st.size) := Lib.hid (by
        unfold strV at hst
        injection hst with hst
        rw [← hst]; simp [ByteArray.size])
      rw [hst] at a2
      clear hx hst
      go_upto_region 6 with (fail)
      obtain ⟨w4, hw4⟩ : ∃ w4, w4 = wr.alloc (.cells #[.int .i64 x.kind, .int .i64 z, .string st, .int .i64 x.int] 30) := ⟨_, rfl⟩
      have hb4 : Below wr.heap.size wr w4 := by rw [hw4]; exact (Below.refl _ _).alloc (Nat.le_refl _) _
      have K4 : Hid (Bk w4 wr.heap.size 30 #[.int .i64 x.kind, .int .i64 z, .string st, .int .i64 x.int]) := Lib.hid (by rw [hw4]; exact Bk.new _ _ _)
      have B4 := Lib.hid (lnk HB.out hb4)
      change Code.wp _ _ _ _ (wr.alloc (.cells #[.int .i64 x.kind, .int .i64 z, .string st, .int .i64 x.int] 30))
      rw [← hw4]
      clear hw4 hb4 a0 a1 a2 a3
      have q2 := K4.out.cell 2
      by_cases h200 : 200 < st.size
      · have g3 : (200 : Int) < (st.size : Int) := by omega
        clear h200
        have HW := Lib.hid (works_any (HE.out.on B4.out))
        go_wp2_with fail
        refine (HW.out).mono ?_
        rintro _ w5 ⟨rfl, hb5⟩
        have B5 := Lib.hid (lnk B4.out hb5)
        clear hb5
        go_wp2
        go_ret
        exact ⟨rfl, B5.out⟩
      · have g3 : ¬ (200 : Int) < (st.size : Int) := by omega
        have HT2 : Hid (∀ i k, i < j + 1 → l[i]? = some k → k.text.length ≤ 200) := Lib.hid (fun i k hi hk => by
          by_cases e : i < j
          · exact HT.out i k e hk
          · obtain rfl : i = j := by omega
            rw [HX.out] at hk
            injection hk with hk
            rw [← hk, HST.out]; omega)
        clear h200
        go_wp2_with fail
        go_roundw
        case rel => exact ⟨j + 1, hlt, by go_num, HT2, B4⟩
        case measure => simp [intOf]; omega
    · have hM : Mod l := ⟨by rw [← HN.out]; omega, fun k hk => by
        obtain ⟨i, hi⟩ := List.mem_iff_getElem?.1 hk
        have h1 := HT.out i k (by have := (List.getElem?_eq_some_iff.1 hi).1; rw [← HN.out] at this; omega) hi
        exact ⟨by omega, HI.out k hk⟩⟩
      have HM := Lib.hid hM
      have SP := Lib.hid (fun (V : World) (hU : URow V A l) (hE : NStd V) => Spell_any (c0 := c) hU HM.out hE)
      have RS := Lib.hid (fun (V : World) (hU : URow V A l) => rSpell_any (c0 := c) hU HM.out)
      have QU := Lib.hid (fun (V : World) => Quote_any s V (by omega))
      have RQ := Lib.hid (fun (V : World) => rQuote_any s V (by omega))
      rw [← HN.out] at SP RS
      obtain ⟨r1, hr1⟩ : ∃ r : ByteArray, r = ⟨(spL l).toArray⟩ := ⟨_, rfl⟩
      obtain ⟨r2, hr2⟩ : ∃ r : ByteArray, r = ⟨(quoL s.data.toList).toArray⟩ := ⟨_, rfl⟩
      rw [← hr1] at SP RS
      rw [← hr2] at QU RQ
      have t1 : (r1.toList == r1.toList) = true := by simp
      have t2 : (r2.toList == r2.toList) = true := by simp
      clear hM hr1 hr2
      go_wp2_with fail
      refine (SP.out _ (HU.out.below HB.out) (HE.out.on HB.out)).mono ?_
      rintro _ w5 ⟨rfl, hb5⟩
      have B5 := Lib.hid (lnk HB.out hb5)
      clear hb5
      go_wp2_with fail
      refine (RS.out _ (HU.out.below B5.out)).mono ?_
      rintro _ w6 ⟨rfl, hb6⟩
      have B6 := Lib.hid (lnk B5.out hb6)
      clear hb6
      go_wp2_with fail
      refine (QU.out _).mono ?_
      rintro _ w7 ⟨rfl, hb7⟩
      have B7 := Lib.hid (lnk B6.out hb7)
      clear hb7
      go_wp2_with fail
      refine (RQ.out _).mono ?_
      rintro _ w8 ⟨rfl, hd8⟩
      have B8 := Lib.hid (lnk B7.out (Dr.below hd8))
      clear hd8
      go_wp2_with fail
      refine (works_any (HE.out.on B8.out)).mono ?_
      rintro _ w9 ⟨rfl, hb9⟩
      have B9 := Lib.hid (lnk B8.out hb9)
      clear hb9
      go_wp2
      go_ret
      exact ⟨rfl, B9.out⟩
end Go.Proofs.YtemdcgeopaphaaaDoor
