/-
  slices.Clone at strings and at values; rows of values by their cells.
-/
import Derived.Test.YtlgmhhimbabkjaaGreatDoorVasc
import Derived.WalkSpells
namespace Go.Proofs.YtlgmhhimbabkjaaGreatDoor
open Go.RowKit

/-- cells that read as values, five a value -/
def LiesC (w : World) (R : Nat → Prop) : List VT → List Value → Prop
  | [], cs => cs = []
  | x :: r, cs => ∃ a b s y z rest, cs = a :: b :: s :: y :: z :: rest ∧ Lies w R x (.agg #[a, b, s, y, z]) ∧ LiesC w R r rest
section
variable {w w' : World} {R R' : Nat → Prop}
theorem LiesC.len : ∀ {l : List VT} {cs : List Value}, LiesC w R l cs → cs.length = l.length * 5
  | [], cs, h => by
    have h : cs = [] := h
    rw [h]; rfl
  | x :: r, cs, h => by
    obtain ⟨a, b, s, y, z, rest, rfl, _, hr⟩ := h
    have := LiesC.len hr
    simp only [List.length_cons]
    omega
theorem LiesC.keep (hk : ∀ p : Addr, R p.block → w'.cell? p = w.cell? p) (hR : ∀ b, R b → R' b) : ∀ {l : List VT} {cs : List Value}, LiesC w R l cs → LiesC w' R' l cs
  | [], _, h => h
  | x :: r, cs, h => by
    obtain ⟨a, b, s, y, z, rest, rfl, hx, hr⟩ := h
    exact ⟨a, b, s, y, z, rest, rfl, hx.keep hk hR, hr.keep hk hR⟩
theorem LiesC.below {l : List VT} {cs : List Value} (h : LiesC w (Lo w) l cs) (hb : Below w.heap.size w w') : LiesC w' (Lo w') l cs :=
  h.keep (fun _ hp => hb.cell hp) (fun b (h : b < _) => show b < _ from Nat.lt_of_lt_of_le h hb.size)
theorem Lies.one {x : VT} {a b s y z : Value} (h : Lies w R x (.agg #[a, b, s, y, z])) : a.oneCell' = true ∧ b.oneCell' = true ∧ s.oneCell' = true ∧ y.oneCell' = true ∧ z.oneCell' = true := by
  obtain ⟨k, i, t, its, ks⟩ := x
  obtain ⟨A, c, A', c', e, _⟩ := h.open
  unfold vag at e
  simp only [Value.agg.injEq, Array.mk.injEq, List.cons.injEq, and_true] at e
  obtain ⟨rfl, rfl, rfl, rfl, rfl⟩ := e
  exact ⟨rfl, rfl, rfl, rfl, rfl⟩
theorem LiesC.one : ∀ {l : List VT} {cs : List Value}, LiesC w R l cs → ∀ u ∈ cs, u.oneCell' = true
  | [], cs, h, u, hu => by
    have h : cs = [] := h
    subst h
    cases hu
  | x :: r, cs, h, u, hu => by
    obtain ⟨a, b, s, y, z, rest, rfl, hx, hr⟩ := h
    obtain ⟨h1, h2, h3, h4, h5⟩ := hx.one
    simp only [List.mem_cons] at hu
    rcases hu with rfl | rfl | rfl | rfl | rfl | hu
    · exact h1
    · exact h2
    · exact h3
    · exact h4
    · exact h5
    · exact LiesC.one hr u hu
/-- a row's cells, as a list -/
theorem LiesL.cells {A : Option Addr} : ∀ {l : List VT} {m : Nat}, LiesL w R A m l → ∃ cs, LiesC w R l cs ∧ ∀ j u, cs[j]? = some u → ∃ g o, A = some ⟨g, o, none⟩ ∧ R g ∧ w.cell? ⟨g, o + (m * 5 + j), none⟩ = some u
  | [], m, _ => ⟨[], rfl, fun j u h => by simp at h⟩
  | x :: r, m, h => by
    obtain ⟨⟨g, o, a, b, s, y, z, hA, hg, h0, h1, h2, h3, h4, hx⟩, hr⟩ := h.cons
    obtain ⟨cs, hc, hcs⟩ := LiesL.cells hr
    refine ⟨a :: b :: s :: y :: z :: cs, ⟨a, b, s, y, z, cs, rfl, hx, hc⟩, fun j u hj => ?_⟩
    match j with
    | 0 => simp at hj; subst hj; exact ⟨g, o, hA, hg, by rw [← h0]; rfl⟩
    | 1 => simp at hj; subst hj; exact ⟨g, o, hA, hg, by rw [← h1]; rfl⟩
    | 2 => simp at hj; subst hj; exact ⟨g, o, hA, hg, by rw [← h2]; rfl⟩
    | 3 => simp at hj; subst hj; exact ⟨g, o, hA, hg, by rw [← h3]; rfl⟩
    | 4 => simp at hj; subst hj; exact ⟨g, o, hA, hg, by rw [← h4]; rfl⟩
    | j + 5 =>
      obtain ⟨g', o', e, hg', hc'⟩ := hcs j u (by simpa using hj)
      refine ⟨g', o', e, hg', ?_⟩
      rw [← hc']
      congr 2
      omega
/-- cells in a row read as the values -/
theorem LiesC.row {g o : Nat} (hg : R g) : ∀ {l : List VT} {cs : List Value} {m : Nat}, LiesC w R l cs → (∀ j u, cs[j]? = some u → w.cell? ⟨g, o + (m * 5 + j), none⟩ = some u) → LiesL w R (some ⟨g, o, none⟩) m l
  | [], _, m, _, _ => LiesL.none_
  | x :: r, cs, m, h, hc => by
    obtain ⟨a, b, s, y, z, rest, rfl, hx, hr⟩ := h
    rw [LiesL]
    refine ⟨⟨g, o, a, b, s, y, z, rfl, hg, hc 0 a rfl, hc 1 b rfl, hc 2 s rfl, hc 3 y rfl, hc 4 z rfl, hx⟩, LiesC.row hg hr (fun j u hj => ?_)⟩
    rw [← hc (j + 5) u (by simpa using hj)]
    congr 2
    omega
theorem LiesC.append : ∀ {l l' : List VT} {cs cs' : List Value}, LiesC w R l cs → LiesC w R l' cs' → LiesC w R (l ++ l') (cs ++ cs')
  | [], l', cs, cs', h, h' => by
    have h : cs = [] := h
    subst h
    exact h'
  | x :: r, l', cs, cs', h, h' => by
    obtain ⟨a, b, s, y, z, rest, rfl, hx, hr⟩ := h
    exact ⟨a, b, s, y, z, rest ++ cs', rfl, hx, LiesC.append hr h'⟩
/-- an owned row of values -/
theorem LiesC.own {base c : Nat} {A : Option Addr} {l : List VT} {cs : List Value} (h : LiesC w (Lo w) l cs) (ho : w.ownsRow base 25 5 (.slice A l.length c) l.length cs) : LiesL w (Lo w) A 0 l := by
  rcases ho.2 with ⟨_, h0⟩ | ⟨g, cap, cur, hv, _, hg, _⟩
  · rw [List.eq_nil_of_length_eq_zero h0]; exact LiesL.none_
  · have hA : A = some ⟨g, 0, none⟩ := by injection hv
    subst hA
    refine LiesC.row (R := Lo w) (show g < w.heap.size from (Array.getElem?_eq_some_iff.1 hg).1) h (fun j u hj => ?_)
    have := ho.cells (g := g) rfl j u hj
    simpa [Addr.add_lit] using this
theorem strs_own {base c : Nat} {A : Option Addr} {l : List ByteArray} (hs : ∀ s ∈ l, s.size ≤ 9223372036854775807) (ho : w.ownsRow base 9 1 (.slice A l.length c) l.length (l.map Value.string)) : LiesS w (Lo w) A l := by
  intro j s hj
  refine ⟨hs s (List.mem_of_getElem? hj), ?_⟩
  rcases ho.2 with ⟨_, h0⟩ | ⟨g, cap, cur, hv, _, hg, _⟩
  · rw [List.eq_nil_of_length_eq_zero h0] at hj; simp at hj
  · have hA : A = some ⟨g, 0, none⟩ := by injection hv
    subst hA
    refine ⟨g, 0, rfl, (Array.getElem?_eq_some_iff.1 hg).1, ?_⟩
    have := ho.cells (g := g) rfl j (.string s) (by rw [List.getElem?_map, hj]; rfl)
    simpa [Addr.add_lit] using this
theorem LiesS.sizes {A : Option Addr} {l : List ByteArray} (h : LiesS w R A l) : ∀ s ∈ l, s.size ≤ 9223372036854775807 := fun s hs => by
  obtain ⟨j, hj, e⟩ := List.mem_iff_getElem.1 hs
  exact (h j s (by rw [List.getElem?_eq_getElem hj, e])).1
end
theorem own_empty5 (w : World) (t : TypeId) (size : Nat) : (w.alloc (.cells #[] t)).ownsRow w.heap.size t size (.slice (some ⟨w.heap.size, 0, none⟩) 0 0) 0 [] :=
  ⟨by simp, Or.inr ⟨w.heap.size, 0, #[], rfl, Nat.le_refl _, heap_alloc_new w _, Nat.le_refl _, by unfold maxLen; omega, by simp, by simp⟩⟩

theorem Tryz.infoS : (Tryz.prog.info? 9).map (fun i => (i.zero, i.size, i.bytes)) = some (some (.string ByteArray.empty), 1, 16) := by kernel_rfl
theorem Tryz.infoV : (Tryz.prog.info? 25).map (fun i => (i.zero, i.size, i.bytes)) = some (some (.agg #[.int .i64 0, .int .i64 0, .string ByteArray.empty, .slice none 0 0, .slice none 0 0]), 5, 80) := by kernel_rfl

end Go.Proofs.YtlgmhhimbabkjaaGreatDoor
