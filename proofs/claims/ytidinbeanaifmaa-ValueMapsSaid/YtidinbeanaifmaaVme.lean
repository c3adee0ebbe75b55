/-
  The entries of a map as lists: what Map's walk leans on.
-/
import Derived.Test.YtidinbeanaifmaaVst
import Derived.Test.YtidinbeanaifmaaVnl
import Derived.OwnWalk
namespace Go.Proofs.Ytidinbeanaifmaa
open Go.RowKit Go.Sort Go.Shelf

theorem Try.infoE : (Try.prog.info? 66).map (fun i => (i.zero, i.size, i.bytes)) = some (some (.agg #[.string ByteArray.empty, .int .i64 0, .int .i64 0, .string ByteArray.empty, .slice none 0 0, .slice none 0 0]), 6, 96) := by kernel_rfl

/-- an entry's item, five cells -/
def itemC (x : En) : List Value := [.int .i64 x.k, .int .i64 x.i, .string x.t, .slice x.A x.n x.c, .slice x.A' x.n' x.c']
theorem flat_at : ∀ (l : List En) (j : Nat), j < l.length * 6 → (l.flatMap encE)[j]? = some (encE l[j / 6]!)[j % 6]!
  | [], j, h => by simp at h
  | x :: l, j, h => by
    rw [List.flatMap_cons]
    by_cases hj : j < 6
    · rw [List.getElem?_append_left (by simpa [encE] using hj), Nat.div_eq_of_lt hj, Nat.mod_eq_of_lt hj]
      have hl : j < (encE x).length := by simpa [encE] using hj
      rw [List.getElem?_eq_getElem hl]
      simp only [List.getElem!_cons_zero]
      rw [getElem!_pos (encE x) j hl]
    · have hl : (encE x).length = 6 := rfl
      rw [List.getElem?_append_right (by omega), hl, flat_at l (j - 6) (by simp at h; omega)]
      have e1 : j / 6 = (j - 6) / 6 + 1 := by omega
      have e2 : j % 6 = (j - 6) % 6 := by omega
      rw [e1, e2]
      rfl
theorem flat_len : ∀ (l : List En), (l.flatMap encE).length = l.length * 6
  | [] => rfl
  | x :: l => by
    rw [List.flatMap_cons, List.length_append, flat_len l]
    have : (encE x).length = 6 := rfl
    simp only [List.length_cons]
    omega
/-- a row whose cells are those of the entries -/
theorem holds_of_own {w : World} {base g n cap : Nat} {d : List En} (h : w.ownsRow base 66 6 (.slice (some ⟨g, 0, none⟩) n cap) n (d.flatMap encE)) (hn : d.length = n) : HoldsK encE 6 w g 0 d.toArray := by
  intro j hj
  have hj' : j < d.length * 6 := by simpa using hj
  have hc := h.cellAt j (by rw [← hn]; exact hj')
  rw [flat_at d j hj'] at hc
  refine ⟨?_, ?_⟩
  · rw [Nat.zero_add, hc, get_flatK encE 6 d.toArray j (by simpa using hj')]
    simp
  · rw [Nat.zero_add]; exact h.frozenAt j
/-- six cells put in the place of six -/
theorem set6 (a b c s y z : Value) : ∀ (l r : List Value) (m : Nat), l.length = m → 6 ≤ r.length →
    ((((((l ++ r).set m a).set (m + 1) b).set (m + 2) c).set (m + 3) s).set (m + 4) y).set (m + 5) z = (l ++ [a, b, c, s, y, z]) ++ r.drop 6
  | [], a' :: b' :: c' :: s' :: y' :: z' :: r, m, h, _ => by
    obtain rfl : m = 0 := h.symm
    simp
  | [], [], _, _, h => absurd h (by decide)
  | [], [_], _, _, h => absurd h (by simp)
  | [], [_, _], _, _, h => absurd h (by simp)
  | [], [_, _, _], _, _, h => absurd h (by simp)
  | [], [_, _, _, _], _, _, h => absurd h (by simp)
  | [], [_, _, _, _, _], _, _, h => absurd h (by simp)
  | x :: l, r, 0, h, _ => absurd h (by simp)
  | x :: l, r, m + 1, h, hr => by
    have := set6 a b c s y z l r m (by simpa using h) hr
    simp only [List.cons_append, List.set_cons_succ, show m + 1 + 1 = (m + 1) + 1 from rfl, show m + 1 + 2 = (m + 2) + 1 from rfl, show m + 1 + 3 = (m + 3) + 1 from rfl, show m + 1 + 4 = (m + 4) + 1 from rfl, show m + 1 + 5 = (m + 5) + 1 from rfl]
    rw [this]
theorem own_store6 {w : World} {base g n cap m : Nat} {e : TypeId} {l r : List Value} {a b c s y z : Value} (h : w.ownsRow base e 6 (.slice (some ⟨g, 0, none⟩) n cap) n (l ++ r)) (hl : l.length = m) (hr : 6 ≤ r.length) :
    ((((((w.setCell ⟨g, m, none⟩ a).setCell ⟨g, m + 1, none⟩ b).setCell ⟨g, m + 2, none⟩ c).setCell ⟨g, m + 3, none⟩ s).setCell ⟨g, m + 4, none⟩ y).setCell ⟨g, m + 5, none⟩ z).ownsRow base e 6 (.slice (some ⟨g, 0, none⟩) n cap) n ((l ++ [a, b, c, s, y, z]) ++ r.drop 6) ∧
    w.grownBy ((((((w.setCell ⟨g, m, none⟩ a).setCell ⟨g, m + 1, none⟩ b).setCell ⟨g, m + 2, none⟩ c).setCell ⟨g, m + 3, none⟩ s).setCell ⟨g, m + 4, none⟩ y).setCell ⟨g, m + 5, none⟩ z) (some g) := by
  obtain ⟨h1, g1⟩ := h.stored m a
  obtain ⟨h2, g2⟩ := h1.stored (m + 1) b
  obtain ⟨h3, g3⟩ := h2.stored (m + 2) c
  obtain ⟨h4, g4⟩ := h3.stored (m + 3) s
  obtain ⟨h5, g5⟩ := h4.stored (m + 4) y
  obtain ⟨h6, g6⟩ := h5.stored (m + 5) z
  rw [set6 a b c s y z l r m hl hr] at h6
  exact ⟨h6, grownBy_trans (grownBy_trans (grownBy_trans (grownBy_trans (grownBy_trans g1 g2) g3) g4) g5) g6⟩
/-- an entry read off its two rows -/
def EnAt (w : World) (A D : Option Addr) (j : Nat) (e : En) : Prop :=
  e.key.size ≤ 9223372036854775807 ∧ Lies w (Lo w) e.x e.val ∧ (∃ g o, A = some ⟨g, o, none⟩ ∧ Lo w g ∧ w.cell? ⟨g, o + j, none⟩ = some (.string e.key)) ∧
  ∃ g o, D = some ⟨g, o, none⟩ ∧ Lo w g ∧ w.cell? ⟨g, o + j * 5, none⟩ = some (.int .i64 e.k) ∧ w.cell? ⟨g, o + j * 5 + 1, none⟩ = some (.int .i64 e.i) ∧ w.cell? ⟨g, o + j * 5 + 2, none⟩ = some (.string e.t) ∧
    w.cell? ⟨g, o + j * 5 + 3, none⟩ = some (.slice e.A e.n e.c) ∧ w.cell? ⟨g, o + j * 5 + 4, none⟩ = some (.slice e.A' e.n' e.c')
theorem ens_exist {w : World} {A D : Option Addr} {keys : List ByteArray} {items : List VT} (hS : LiesS w (Lo w) A keys) (hL : LiesL w (Lo w) D 0 items) (hl : keys.length = items.length) :
    ∃ d : List En, d.length = keys.length ∧ d.map (fun e => (e.key, e.x)) = keys.zip items ∧ ∀ j e, d[j]? = some e → EnAt w A D j e := by
  have each : ∀ j, ∃ e : En, j < keys.length → keys[j]? = some e.key ∧ items[j]? = some e.x ∧ EnAt w A D j e := by
    intro j
    by_cases hj : j < keys.length
    · have h1 := List.getElem?_eq_getElem (l := keys) (i := j) hj
      have h2 := List.getElem?_eq_getElem (l := items) (i := j) (by omega)
      obtain ⟨hs, ga, oa, ea, hga, hca⟩ := hS j _ h1
      obtain ⟨g, o, k, i, t, B, n, c, B', n', c', hD, hg, e0, e1, e2, e3, e4, hx⟩ := hL.at_ h2
      rw [Nat.zero_add] at e0 e1 e2 e3 e4
      exact ⟨⟨keys[j], k, i, t, B, n, c, B', n', c', items[j]'(by omega)⟩, fun _ => ⟨h1, h2, hs, hx, ⟨ga, oa, ea, hga, hca⟩, g, o, hD, hg, e0, e1, e2, e3, e4⟩⟩
    · exact ⟨default, fun h => absurd h hj⟩
  obtain ⟨f, hf⟩ := Classical.axiomOfChoice each
  refine ⟨(List.range keys.length).map f, by simp, ?_, fun j e he => ?_⟩
  · apply List.ext_getElem?
    intro j
    rw [List.map_map, List.getElem?_map, List.zip_eq_zipWith, List.getElem?_zipWith]
    by_cases hj : j < keys.length
    · obtain ⟨h1, h2, _⟩ := hf j hj
      rw [List.getElem?_range hj, h1, h2]
      rfl
    · rw [List.getElem?_eq_none (by simpa using hj), List.getElem?_eq_none (l := keys) (by omega)]
      rfl
  · rw [List.getElem?_map] at he
    by_cases hj : j < keys.length
    · rw [List.getElem?_range hj] at he
      simp at he
      subst he
      exact (hf j hj).2.2
    · rw [List.getElem?_eq_none (by simpa using hj)] at he
      cases he
/-- two owned rows of different types lie in different blocks -/
theorem own_ne {w : World} {b b' : Nat} {e e' : TypeId} {s s' n n' : Nat} {v v' : Value} {xs xs' : List Value} (h : w.ownsRow b e s v n xs) (h' : w.ownsRow b' e' s' v' n' xs') (hne : e ≠ e') : v.ownBlock = none ∨ v.ownBlock ≠ v'.ownBlock := by
  rcases h.2 with ⟨rfl, _⟩ | ⟨g, cap, cur, rfl, _, hg, _⟩
  · exact Or.inl rfl
  · right
    rcases h'.2 with ⟨rfl, _⟩ | ⟨g', cap', cur', rfl, _, hg', _⟩
    · intro e; cases e
    · intro e
      injection e with e
      subst e
      rw [hg] at hg'
      injection hg' with hg'
      injection hg' with _ ht
      exact hne ht
end Go.Proofs.Ytidinbeanaifmaa
