/-
  A value all of whose memory is the call's own.
-/
import Derived.Test.YtlgmhhimbabkjaaGreatDoorVcl
namespace Go.Proofs.YtlgmhhimbabkjaaGreatDoor
open Go.RowKit

mutual
/-- the value reads as the tree, and all its rows are whole blocks from lo on, not frozen -/
def Ownd (w : World) (lo : Nat) : VT → Value → Prop
  | .mk k i t its ks, v => ∃ A c A' c' cs, v = vag k i t A its.length c A' ks.length c' ∧ (-9223372036854775808 ≤ k ∧ k ≤ 9223372036854775807) ∧ (-9223372036854775808 ≤ i ∧ i ≤ 9223372036854775807) ∧ t.size ≤ 9223372036854775807 ∧
      w.ownsRow lo 25 5 (.slice A its.length c) its.length cs ∧ OwnC w lo its cs ∧ w.ownsRow lo 9 1 (.slice A' ks.length c') ks.length (ks.map Value.string) ∧ (∀ s ∈ ks, s.size ≤ 9223372036854775807)
def OwnC (w : World) (lo : Nat) : List VT → List Value → Prop
  | [], cs => cs = []
  | x :: r, cs => ∃ a b s y z rest, cs = a :: b :: s :: y :: z :: rest ∧ Ownd w lo x (.agg #[a, b, s, y, z]) ∧ OwnC w lo r rest
end
/-- from lo on the blocks of w are as they were -/
def SameFrom (lo : Nat) (w w' : World) : Prop := ∀ b, lo ≤ b → b < w.heap.size → w'.heap[b]? = w.heap[b]?
theorem own_same {w w' : World} {lo : Nat} {e : TypeId} {size n : Nat} {v : Value} {xs : List Value} (h : w.ownsRow lo e size v n xs) (hs : SameFrom lo w w') : w'.ownsRow lo e size v n xs := by
  refine ⟨h.1, ?_⟩
  rcases h.2 with hn | ⟨g, cap, cur, rfl, hb, hg, rest⟩
  · exact Or.inl hn
  · exact Or.inr ⟨g, cap, cur, rfl, hb, (hs g hb (Array.getElem?_eq_some_iff.1 hg).1).trans hg, rest⟩
theorem own_mono {w : World} {lo lo' : Nat} {e : TypeId} {size n : Nat} {v : Value} {xs : List Value} (h : w.ownsRow lo e size v n xs) (hl : lo' ≤ lo) : w.ownsRow lo' e size v n xs := by
  refine ⟨h.1, ?_⟩
  rcases h.2 with hn | ⟨g, cap, cur, hv, hb, rest⟩
  · exact Or.inl hn
  · exact Or.inr ⟨g, cap, cur, hv, Nat.le_trans hl hb, rest⟩
theorem own_bounds {w : World} {lo : Nat} {e : TypeId} {size n m c : Nat} {A : Option Addr} {xs : List Value} (h : w.ownsRow lo e size (.slice A n c) m xs) : n ≤ c ∧ c ≤ 9223372036854775807 := by
  rcases h.2 with ⟨hv, _⟩ | ⟨g, cap, cur, hv, _, _, h1, h2, _⟩
  · injection hv with _ h1 h2; subst h1 h2; omega
  · injection hv with _ e1 e2; subst e1 e2; unfold maxLen at h2; exact ⟨h1, h2⟩
theorem own_formN {w : World} {base : Nat} {e : TypeId} {v : Value} {n size : Nat} {xs : List Value} (h : w.ownsRow base e size v n xs) : ∃ A c, v = .slice A n c ∧ n ≤ c ∧ c ≤ maxLen := by
  rcases h.2 with ⟨rfl, rfl⟩ | ⟨g, cap, cur, rfl, _, _, h1, h2, _⟩
  · exact ⟨none, 0, rfl, Nat.le_refl _, by unfold maxLen; omega⟩
  · exact ⟨_, cap, rfl, h1, h2⟩
mutual
theorem Ownd.keep {w w' : World} {lo : Nat} (hs : SameFrom lo w w') : ∀ {x : VT} {v : Value}, Ownd w lo x v → Ownd w' lo x v
  | .mk k i t its ks, v, h => by
    rw [Ownd] at h ⊢
    obtain ⟨A, c, A', c', cs, e, h1, h2, h3, h4, h5, h6, h7⟩ := h
    exact ⟨A, c, A', c', cs, e, h1, h2, h3, own_same h4 hs, OwnC.keep hs h5, own_same h6 hs, h7⟩
theorem OwnC.keep {w w' : World} {lo : Nat} (hs : SameFrom lo w w') : ∀ {l : List VT} {cs : List Value}, OwnC w lo l cs → OwnC w' lo l cs
  | [], _, h => by rw [OwnC] at h ⊢; exact h
  | x :: r, cs, h => by
    rw [OwnC] at h ⊢
    obtain ⟨a, b, s, y, z, rest, e, hx, hr⟩ := h
    exact ⟨a, b, s, y, z, rest, e, Ownd.keep hs hx, OwnC.keep hs hr⟩
end
mutual
theorem Ownd.mono {w : World} {lo lo' : Nat} (hl : lo' ≤ lo) : ∀ {x : VT} {v : Value}, Ownd w lo x v → Ownd w lo' x v
  | .mk k i t its ks, v, h => by
    rw [Ownd] at h ⊢
    obtain ⟨A, c, A', c', cs, e, h1, h2, h3, h4, h5, h6, h7⟩ := h
    exact ⟨A, c, A', c', cs, e, h1, h2, h3, own_mono h4 hl, OwnC.mono hl h5, own_mono h6 hl, h7⟩
theorem OwnC.mono {w : World} {lo lo' : Nat} (hl : lo' ≤ lo) : ∀ {l : List VT} {cs : List Value}, OwnC w lo l cs → OwnC w lo' l cs
  | [], _, h => by rw [OwnC] at h ⊢; exact h
  | x :: r, cs, h => by
    rw [OwnC] at h ⊢
    obtain ⟨a, b, s, y, z, rest, e, hx, hr⟩ := h
    exact ⟨a, b, s, y, z, rest, e, Ownd.mono hl hx, OwnC.mono hl hr⟩
end
mutual
theorem Ownd.lies {w : World} {lo : Nat} : ∀ {x : VT} {v : Value}, Ownd w lo x v → Lies w (Lo w) x v
  | .mk k i t its ks, v, h => by
    rw [Ownd] at h
    rw [Lies]
    obtain ⟨A, c, A', c', cs, e, h1, h2, h3, h4, h5, h6, h7⟩ := h
    exact ⟨A, c, A', c', e, h1, h2, h3, (own_bounds h4).1, (own_bounds h4).2, (OwnC.lies h5).own h4, (own_bounds h6).1, (own_bounds h6).2, strs_own h7 h6⟩
theorem OwnC.lies {w : World} {lo : Nat} : ∀ {l : List VT} {cs : List Value}, OwnC w lo l cs → LiesC w (Lo w) l cs
  | [], _, h => by rw [OwnC] at h; exact h
  | x :: r, cs, h => by
    rw [OwnC] at h
    obtain ⟨a, b, s, y, z, rest, e, hx, hr⟩ := h
    exact ⟨a, b, s, y, z, rest, e, Ownd.lies hx, OwnC.lies hr⟩
end
theorem OwnC.len {w : World} {lo : Nat} {l : List VT} {cs : List Value} (h : OwnC w lo l cs) : cs.length = l.length * 5 := (OwnC.lies h).len
theorem OwnC.snoc {w : World} {lo : Nat} {x : VT} {a b s y z : Value} (hx : Ownd w lo x (.agg #[a, b, s, y, z])) : ∀ {l : List VT} {cs : List Value}, OwnC w lo l cs → OwnC w lo (l ++ [x]) (cs ++ [a, b, s, y, z])
  | [], cs, h => by
    rw [OwnC] at h
    subst h
    rw [List.nil_append, List.nil_append, OwnC]
    exact ⟨a, b, s, y, z, [], rfl, hx, by rw [OwnC]⟩
  | x' :: r, cs, h => by
    rw [OwnC] at h
    obtain ⟨a', b', s', y', z', rest, rfl, hx', hr⟩ := h
    rw [List.cons_append, OwnC]
    exact ⟨a', b', s', y', z', rest ++ [a, b, s, y, z], rfl, hx', OwnC.snoc hx hr⟩
/-- five cells put in the place of five -/
theorem set5 (a b s y z : Value) : ∀ (l r : List Value) (m : Nat), l.length = m → 5 ≤ r.length →
    (((((l ++ r).set m a).set (m + 1) b).set (m + 2) s).set (m + 3) y).set (m + 4) z = (l ++ [a, b, s, y, z]) ++ r.drop 5
  | [], a' :: b' :: s' :: y' :: z' :: r, m, h, _ => by
    obtain rfl : m = 0 := h.symm
    simp
  | [], [], _, _, h => absurd h (by decide)
  | [], [_], _, _, h => absurd h (by simp)
  | [], [_, _], _, _, h => absurd h (by simp)
  | [], [_, _, _], _, _, h => absurd h (by simp)
  | [], [_, _, _, _], _, _, h => absurd h (by simp)
  | x :: l, r, 0, h, _ => absurd h (by simp)
  | x :: l, r, m + 1, h, hr => by
    have := set5 a b s y z l r m (by simpa using h) hr
    simp only [List.cons_append, List.set_cons_succ, show m + 1 + 1 = (m + 1) + 1 from rfl, show m + 1 + 2 = (m + 2) + 1 from rfl, show m + 1 + 3 = (m + 3) + 1 from rfl, show m + 1 + 4 = (m + 4) + 1 from rfl]
    rw [this]
/-- a row of values with one of them stored anew -/
theorem own_store5 {w : World} {base g n cap m : Nat} {e : TypeId} {l r : List Value} {a b s y z : Value} (h : w.ownsRow base e 5 (.slice (some ⟨g, 0, none⟩) n cap) n (l ++ r)) (hl : l.length = m) (hr : 5 ≤ r.length) :
    (((((w.setCell ⟨g, m, none⟩ a).setCell ⟨g, m + 1, none⟩ b).setCell ⟨g, m + 2, none⟩ s).setCell ⟨g, m + 3, none⟩ y).setCell ⟨g, m + 4, none⟩ z).ownsRow base e 5 (.slice (some ⟨g, 0, none⟩) n cap) n ((l ++ [a, b, s, y, z]) ++ r.drop 5) ∧
    w.grownBy (((((w.setCell ⟨g, m, none⟩ a).setCell ⟨g, m + 1, none⟩ b).setCell ⟨g, m + 2, none⟩ s).setCell ⟨g, m + 3, none⟩ y).setCell ⟨g, m + 4, none⟩ z) (some g) := by
  obtain ⟨h1, g1⟩ := h.stored m a
  obtain ⟨h2, g2⟩ := h1.stored (m + 1) b
  obtain ⟨h3, g3⟩ := h2.stored (m + 2) s
  obtain ⟨h4, g4⟩ := h3.stored (m + 3) y
  obtain ⟨h5, g5⟩ := h4.stored (m + 4) z
  rw [set5 a b s y z l r m hl hr] at h5
  exact ⟨h5, grownBy_trans (grownBy_trans (grownBy_trans (grownBy_trans g1 g2) g3) g4) g5⟩
end Go.Proofs.YtlgmhhimbabkjaaGreatDoor
