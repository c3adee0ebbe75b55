/-
  Contracts of the code's and of the reference's functions, part AK, and what they lean on.
-/
import Derived.Test.YtidinbeanaifmaaCAA
import Derived.Test.YtidinbeanaifmaaChecked
import Derived.ProofKit
import Derived.OpenShut
import Derived.ChangeOld
import Derived.Below
namespace Go.Proofs.Ytidinbeanaifmaa.opens
open Go.ChangeShapes Go.WideShapes Go.ChangeAt Go.RowKit Go.Deep

theorem Try.vcells : Try.prog.cellsOf 26 = 5 := by kernel_rfl
theorem Try.icells : Try.prog.cellsOf 3 = 1 := by kernel_rfl
theorem Try.scells : Try.prog.cellsOf 9 = 1 := by kernel_rfl
theorem Try.lcells : Try.prog.cellsOf 23 = 1 := by kernel_rfl
theorem Try.kcells : Try.prog.cellsOf 22 = 1 := by kernel_rfl

theorem ints64 {a : Int} (h : (Lit.int .i64 a).wf = true) : -9223372036854775808 ≤ a ∧ a ≤ 9223372036854775807 := by
  simpa [Lit.wf, IntKind.min, IntKind.max, IntKind.signed, IntKind.bits] using h

theorem spot_zero {w : World} {a : Addr} {v : Value} (h : w.cell? (a.add 0) = some v) : a.spot = none := by
  have h1 := World.cell?_spot h
  simpa [Addr.add] using h1
section
variable {H : Type} {enc : TypeId × Value → H} {W : World} {base : Nat} {spare : Nat → Bool} {held : Bool}
theorem strs_lie {n : Nat} {cs : List Value} {y : DataW H × List MemPlace} (h : DataW.trod enc Try.prog W base spare held n 22 cs = some y) :
    ∃ A m c ks, cs = [.slice A m c] ∧ ks.length = m ∧ m ≤ c ∧ c ≤ 9223372036854775807 ∧ LiesS W (Lo W) A ks := by
  rcases open_strings Try.underlying22 Try.underlying9 Try.scells h with ⟨rfl, _⟩ | ⟨a, len, cap, ss, rfl, _, hl, hm, hss, _, hc, hsz⟩
  · exact ⟨none, 0, 0, [], rfl, rfl, Nat.le_refl _, by omega, LiesS.none_⟩
  · unfold maxLen at hm hsz
    have hle : len ≤ ss.length := by rw [hss]; split <;> omega
    refine ⟨some a, len, cap, ss.take len, rfl, by rw [List.length_take]; omega, hl, hm, fun j s hj => ?_⟩
    have hj' : ss[j]? = some s := by
      rw [List.getElem?_take] at hj
      split at hj
      · exact hj
      · cases hj
    have hlt := (List.getElem?_eq_some_iff.1 hj').1
    have h1 := hc j hlt
    rw [List.getD_eq_getElem?_getD, hj'] at h1
    have hspot := spot_zero (hc 0 (by omega))
    obtain ⟨g, o, spot⟩ := a
    have hspot : spot = none := hspot
    subst hspot
    rw [Addr.add_lit] at h1
    exact ⟨hsz s (List.mem_of_getElem? hj'), g, o, rfl, World.block_lt_of_cell? W _ h1, h1⟩

set_option maxRecDepth 100000 in
theorem value_lies : ∀ (fuel : Nat) (cs : List Value) (y : DataW H × List MemPlace), DataW.trod enc Try.prog W base spare held fuel 26 cs = some y →
    ∃ (x : VT) (a b s p q : Value), cs = [a, b, s, p, q] ∧ Lies W (Lo W) x (.agg #[a, b, s, p, q]) := by
  intro fuel
  induction fuel using Nat.strongRecOn with
  | ind fuel ih =>
    intro cs y h
    obtain ⟨xs, n, rfl, _, hl, hx, hf⟩ := DataW.trod_struct Try.underlying26 h
    rw [Try.vcells] at hl
    match cs, hl with
    | [a, b, s, p, q], _ =>
      match xs, hx with
      | [x0, x1, x2, x3, x4], _ =>
        have f0 := hf 0 _ rfl
        have f1 := hf 1 _ rfl
        have f2 := hf 2 _ rfl
        have f3 := hf 3 _ rfl
        have f4 := hf 4 _ rfl
        change DataW.trod enc Try.prog W base spare held n 3 (([a, b, s, p, q].drop 0).take (Try.prog.cellsOf 3)) = some x0 at f0
        rw [Try.icells] at f0
        change DataW.trod enc Try.prog W base spare held n 3 (([a, b, s, p, q].drop 1).take (Try.prog.cellsOf 3)) = some x1 at f1
        rw [Try.icells] at f1
        change DataW.trod enc Try.prog W base spare held n 9 (([a, b, s, p, q].drop 2).take (Try.prog.cellsOf 9)) = some x2 at f2
        rw [Try.scells] at f2
        change DataW.trod enc Try.prog W base spare held n 23 (([a, b, s, p, q].drop 3).take (Try.prog.cellsOf 23)) = some x3 at f3
        rw [Try.lcells] at f3
        change DataW.trod enc Try.prog W base spare held n 22 (([a, b, s, p, q].drop 4).take (Try.prog.cellsOf 22)) = some x4 at f4
        rw [Try.kcells] at f4
        change DataW.trod enc Try.prog W base spare held n 3 [a] = some x0 at f0
        change DataW.trod enc Try.prog W base spare held n 3 [b] = some x1 at f1
        change DataW.trod enc Try.prog W base spare held n 9 [s] = some x2 at f2
        change DataW.trod enc Try.prog W base spare held n 23 [p] = some x3 at f3
        change DataW.trod enc Try.prog W base spare held n 22 [q] = some x4 at f4
        obtain ⟨k, hk, _, wk⟩ := DataW.trod_int Try.underlying3 f0
        obtain ⟨i, hi, _, wi⟩ := DataW.trod_int Try.underlying3 f1
        obtain ⟨t, ht, _, wt⟩ := DataW.trod_string Try.underlying9 f2
        obtain ⟨Ak, mk, ck, ks, hks, hkl, hkc, hkm, hS⟩ := strs_lie f4
        simp only [List.cons.injEq, and_true] at hk hi ht hks
        subst hk hi ht hks hkl
        unfold maxLen at wt
        rcases DataW.trod_slice Try.underlying23 f3 with ⟨hp, _⟩ | ⟨ad, len, cap, elems, rest, n', rfl, hp, _, _, hlc, hcm, _, hel, _⟩
        · simp only [List.cons.injEq, and_true] at hp
          subst hp
          refine ⟨.mk k i t [] ks, _, _, _, _, _, rfl, ?_⟩
          rw [Lies]
          exact ⟨none, 0, Ak, ck, rfl, ints64 wk, ints64 wi, wt, Nat.le_refl _, by omega, LiesL.none_, hkc, hkm, hS⟩
        · simp only [List.cons.injEq, and_true] at hp
          subst hp
          unfold maxLen at hcm
          rename_i hlen
          have each : ∀ j, ∃ (x : VT), j < len → ∃ a b s p q, W.cell? (ad.add (j * 5)) = some a ∧ W.cell? ((ad.add (j * 5)).add 1) = some b ∧ W.cell? ((ad.add (j * 5)).add 2) = some s ∧ W.cell? ((ad.add (j * 5)).add 3) = some p ∧ W.cell? ((ad.add (j * 5)).add 4) = some q ∧
              Lies W (Lo W) x (.agg #[a, b, s, p, q]) := by
            intro j
            by_cases hj : j < len
            · have h1 := hel j hj
              rw [Try.vcells] at h1
              have h2 : elems[j]? = some (elems[j]'(by omega)) := List.getElem?_eq_getElem _
              rw [h2] at h1
              obtain ⟨cs', hc1, hc2⟩ := Option.bind_eq_some_iff.1 h1
              obtain ⟨x, a, b, s, p, q, rfl, hxl⟩ := ih n' (by omega) cs' _ hc2
              obtain ⟨_, _, h3⟩ := World.cells?_some hc1
              have e0 := h3 0 (by omega)
              have e1 := h3 1 (by omega)
              have e2 := h3 2 (by omega)
              have e3 := h3 3 (by omega)
              have e4 := h3 4 (by omega)
              have ez : (ad.add (j * 5)).add 0 = ad.add (j * 5) := by simp [Addr.add]
              rw [ez] at e0
              exact ⟨x, fun _ => ⟨a, b, s, p, q, e0, e1, e2, e3, e4, hxl⟩⟩
            · exact ⟨default, fun h => absurd h hj⟩
          obtain ⟨f, hf⟩ := Classical.axiomOfChoice each
          have hll : ((List.range len).map f).length = len := by simp
          refine ⟨.mk k i t ((List.range len).map f) ks, _, _, _, _, _, rfl, ?_⟩
          rw [Lies, hll]
          refine ⟨some ad, cap, Ak, ck, rfl, ints64 wk, ints64 wi, wt, hlc, hcm, LiesL.of_at (fun j x hj => ?_), hkc, hkm, hS⟩
          rw [List.getElem?_map] at hj
          have hjl : j < len := by
            rcases Nat.lt_or_ge j len with h | h
            · exact h
            · rw [List.getElem?_eq_none (by simpa using h)] at hj; cases hj
          rw [List.getElem?_range hjl] at hj
          simp at hj
          subst hj
          obtain ⟨a0, b0, s0, p0, q0, z0, _⟩ := hf 0 (by omega)
          have hspot := spot_zero (a := ad) (by simpa using z0)
          obtain ⟨a, b, s, p, q, e0, e1, e2, e3, e4, hxl⟩ := hf j hjl
          obtain ⟨g, o, spot⟩ := ad
          have hspot : spot = none := hspot
          subst hspot
          rw [Addr.add_lit] at e0 e1 e2 e3 e4
          rw [Addr.add_lit] at e1 e2 e3 e4
          rw [Nat.zero_add]
          exact ⟨g, o, a, b, s, p, q, rfl, World.block_lt_of_cell? W _ e0, e0, e1, e2, e3, e4, hxl⟩

set_option maxRecDepth 100000 in
theorem value {r : Reach} {b0 : Nat} {v : Value} {d : DataW H} {ps : List MemPlace} (hval : Value.okWide Try.prog W r b0 26 v) (hd : DataW.Trod enc Try.prog W base spare held 26 v d ps) :
    ∃ x : VT, Lies W (Lo W) x v := by
  obtain ⟨cs, rfl, _⟩ := okWide_struct Try.underlying26 hval
  obtain ⟨fuel, hf⟩ := hd
  obtain ⟨x, a, b, s, p, q, hcs, hx⟩ := value_lies fuel _ _ hf
  refine ⟨x, ?_⟩
  have : cs = #[a, b, s, p, q] := by
    apply Array.toList_inj.1
    simpa [Value.cells] using hcs
  rw [this]
  exact hx
end
end Go.Proofs.Ytidinbeanaifmaa.opens
