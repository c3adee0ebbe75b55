/-
  A key that is inserted into ascending keys.
-/
import Derived.Test.YtlgmhhimbabkjaaGreatDoorTm
import Derived.Test.YtlgmhhimbabkjaaGreatDoorVbs
import Derived.Test.YtlgmhhimbabkjaaGreatDoorVcl
import Derived.Test.YtlgmhhimbabkjaaGreatDoorVcq
namespace Go.Proofs.YtlgmhhimbabkjaaGreatDoor
open Go.RowKit

theorem LiesC.insert {w : World} {R : Nat → Prop} {x : VT} {a b s y z : Value} (hx : Lies w R x (.agg #[a, b, s, y, z])) : ∀ {l : List VT} {cs : List Value} (p : Nat), LiesC w R l cs → p ≤ l.length → LiesC w R (l.take p ++ [x] ++ l.drop p) (cs.take (p * 5) ++ [a, b, s, y, z] ++ cs.drop (p * 5))
  | l, cs, 0, h, _ => ⟨a, b, s, y, z, cs, rfl, hx, h⟩
  | [], cs, p + 1, h, hp => absurd hp (by simp)
  | v :: r, cs, p + 1, h, hp => by
    obtain ⟨a', b', s', y', z', rest, rfl, hv, hr⟩ := h
    have ih := LiesC.insert hx p hr (by simpa using hp)
    rw [show (p + 1) * 5 = p * 5 + 5 by omega]
    exact ⟨a', b', s', y', z', _, rfl, hv, ih⟩
theorem Lies.insertC {w : World} {R : Nat → Prop} {x : VT} {a b s y z : Value} (hx : Lies w R x (.agg #[a, b, s, y, z])) {l : List VT} {cs : List Value} (h : LiesC w R l cs) (p : Nat) (hp : p ≤ l.length) : LiesC w R (l.take p ++ [x] ++ l.drop p) (cs.take (p * 5) ++ [a, b, s, y, z] ++ cs.drop (p * 5)) := LiesC.insert hx p h hp

theorem takeWhile_len {α : Type} {p : α → Bool} {d : α} : ∀ (l : List α) (n : Nat), n ≤ l.length → (∀ q, q < n → p (l.getD q d) = true) → (n < l.length → p (l.getD n d) = false) → (l.takeWhile p).length = n
  | [], n, h, _, _ => by simp at h; subst h; rfl
  | a :: r, 0, _, _, h2 => by
    have := h2 (by simp)
    rw [List.getD_cons_zero] at this
    rw [List.takeWhile_cons, if_neg (by rw [this]; simp)]
    rfl
  | a :: r, n + 1, h, h1, h2 => by
    have := h1 0 (by omega)
    rw [List.getD_cons_zero] at this
    rw [List.takeWhile_cons, if_pos this, List.length_cons, takeWhile_len r n (by simpa using h) (fun q hq => by have := h1 (q + 1) (by omega); rwa [List.getD_cons_succ] at this) (fun hn => by have := h2 (by simpa using hn); rwa [List.getD_cons_succ] at this)]
theorem posOf_eq {ks : List ByteArray} {t : ByteArray} {p : Nat} (h : Pos ks t p) : posOf ks t = p :=
  takeWhile_len (d := ByteArray.empty) ks p h.1 (fun q hq => h.2.1 q hq) (fun hp => h.2.2 p (Nat.le_refl _) hp)
theorem less_irrefl (a : ByteArray) : less a a = false := bl_irrefl _
theorem less_tri {a b : ByteArray} (h : a ≠ b) : less a b = !less b a := bl_tri _ _ (fun e => h (str_inj e))
theorem found_eq {ks : List ByteArray} {t : ByteArray} {p : Nat} (hr : rising ks = true) (h : Pos ks t p) : (ks.any fun q => decide (q = t)) = isAt ks t p := by
  unfold isAt
  by_cases hat : p < ks.length ∧ ks.getD p ByteArray.empty = t
  · rw [decide_eq_true hat.1, decide_eq_true hat.2, Bool.and_true, List.any_eq_true]
    refine ⟨t, ?_, by simp⟩
    rw [← hat.2, List.getD_eq_getElem?_getD, List.getElem?_eq_getElem hat.1]
    exact List.getElem_mem _
  · have hf : (decide (p < ks.length) && decide (ks.getD p ByteArray.empty = t)) = false := by
      rw [Bool.and_eq_false_iff]
      by_cases h1 : p < ks.length
      · exact .inr (decide_eq_false (fun e => hat ⟨h1, e⟩))
      · exact .inl (decide_eq_false h1)
    rw [hf, List.any_eq_false]
    intro k hk
    obtain ⟨q, hq, rfl⟩ := List.getElem_of_mem hk
    have gq : ks.getD q ByteArray.empty = ks[q] := by rw [List.getD_eq_getElem?_getD, List.getElem?_eq_getElem hq]; rfl
    rw [decide_eq_true_eq]
    intro e
    rcases Nat.lt_trichotomy q p with h1 | h1 | h1
    · have := h.2.1 q h1
      rw [gq, e, less_irrefl] at this
      cases this
    · subst h1; exact hat ⟨hq, by rw [gq, e]⟩
    · have h2 := h.2.2 p (Nat.le_refl _) (by omega)
      have h3 := rising_lt hr h1 hq
      rw [gq, e, h2] at h3
      cases h3
theorem getD_ins {ks : List ByteArray} {t : ByteArray} {p : Nat} (hp : p ≤ ks.length) (i : Nat) :
    (insAt p t ks).getD i ByteArray.empty = if i < p then ks.getD i ByteArray.empty else if i = p then t else ks.getD (i - 1) ByteArray.empty := by
  unfold insAt
  have hl : (ks.take p).length = p := by rw [List.length_take]; omega
  rw [List.getD_eq_getElem?_getD]
  split
  · rename_i h
    rw [List.getElem?_append_left (by omega), List.getElem?_take_of_lt h, List.getD_eq_getElem?_getD]
  · rename_i h
    rw [List.getElem?_append_right (by omega), hl]
    split
    · rename_i h2; subst h2; simp
    · rename_i h2
      obtain ⟨j, hj⟩ : ∃ j, i - p = j + 1 := ⟨i - p - 1, by omega⟩
      rw [hj, List.getElem?_cons_succ, List.getElem?_drop, List.getD_eq_getElem?_getD, show p + j = i - 1 by omega]
theorem rising_of {ks : List ByteArray} (h : ∀ i, i + 1 < ks.length → less (ks.getD i ByteArray.empty) (ks.getD (i + 1) ByteArray.empty) = true) : rising ks = true := by
  unfold rising risingTo
  rw [List.all_eq_true]
  intro i hi
  exact h i (by have := List.mem_range.1 hi; omega)
theorem ins_len {α : Type} {p : Nat} {x : α} {l : List α} (hp : p ≤ l.length) : (insAt p x l).length = l.length + 1 := by
  unfold insAt
  rw [List.length_append, List.length_take, List.length_cons, List.length_drop]
  omega
theorem rising_ins {ks : List ByteArray} {t : ByteArray} {p : Nat} (hr : rising ks = true) (h : Pos ks t p) (hf : isAt ks t p = false) : rising (insAt p t ks) = true := by
  refine rising_of fun i hi => ?_
  rw [ins_len h.1] at hi
  rw [getD_ins h.1, getD_ins h.1]
  rcases Nat.lt_trichotomy (i + 1) p with h1 | h1 | h1
  · rw [if_pos (by omega), if_pos (by omega)]
    exact rising_lt hr (Nat.lt_succ_self i) (by have := h.1; omega)
  · rw [if_pos (by omega), if_neg (by omega), if_pos h1]
    exact h.2.1 i (by omega)
  · rw [if_neg (by omega : ¬ i < p), if_neg (by omega : ¬ i + 1 < p), if_neg (by omega : ¬ i + 1 = p)]
    by_cases h2 : i = p
    · rw [if_pos h2, h2]
      show less t (ks.getD p ByteArray.empty) = true
      have hp : p < ks.length := by omega
      have hne : t ≠ ks.getD p ByteArray.empty := fun e => by
        unfold isAt at hf
        rw [decide_eq_true hp, decide_eq_true e.symm] at hf
        cases hf
      rw [less_tri hne, h.2.2 p (Nat.le_refl _) hp]
      rfl
    · rw [if_neg h2]
      show less (ks.getD (i - 1) ByteArray.empty) (ks.getD i ByteArray.empty) = true
      have := rising_lt hr (show i - 1 < i by omega) (by omega)
      exact this
theorem search_at {w : World} {base m c : Nat} {A : Option Addr} {ks : List ByteArray} {t : ByteArray} (ho : w.ownsRow base 9 1 (.slice A m c) m (ks.map Value.string)) (hm : ks.length = m) (hz : ∀ s ∈ ks, s.size ≤ 9223372036854775807) (hr : rising ks = true) (hn : m ≤ 4611686018427387904) :
    Calls Tryz.prog 73 #[.slice A m c, .string t] w fun e w' => ∃ p, Pos ks t p ∧ e = .returned (.tuple #[.int .i64 (p : Nat), .bool (isAt ks t p)]) ∧ w = w' := by
  subst hm
  exact search_any A c ks t w (strs_ownR hz (fun g _ h2 => h2) rfl ho) hn hr
theorem own_ne {w : World} {b b' : Nat} {e e' : TypeId} {s s' n n' : Nat} {v v' : Value} {xs xs' : List Value} (h : w.ownsRow b e s v n xs) (h' : w.ownsRow b' e' s' v' n' xs') (hne : e ≠ e') : v.ownBlock = none ∨ v.ownBlock ≠ v'.ownBlock := by
  rcases h.2 with ⟨rfl, _⟩ | ⟨g, cap, cur, rfl, _, hg, _⟩
  · exact Or.inl rfl
  · right
    rcases h'.2 with ⟨rfl, _⟩ | ⟨g', cap', cur', rfl, _, hg', _⟩
    · intro e; cases e
    · intro e
      injection e with e
      subst e
      rw [hg] at hg'
      injection hg' with hg'
      injection hg' with _ ht
      exact hne ht
theorem turned (w : World) (p i : Nat) (u : Value) : w.grownBy (w.setCell ⟨p, i, none⟩ u) (some p) :=
  ⟨rfl, rfl, rfl, by simp [World.setCell], fun k _ hk => Below.heap_setCell _ _ _ _ (fun e => hk (by rw [e]))⟩
theorem litL_size (l : List UInt8) (a f : Nat) : ∀ (i : Nat) (o : List UInt8) (r : List UInt8) (j : Nat), litL l a f i o = .ok r j → r.length ≤ 4096 := by
  induction f with
  | zero => intro i o r j h; cases h
  | succ f ih =>
    intro i o r j h
    rw [litL] at h
    split at h
    · cases h
    · split at h
      · split at h
        · injection h with h _; subst h; assumption
        · cases h
      · cases hc : chrP l i with
        | err b c => rw [hc] at h; cases h
        | ok x j2 => rw [hc, PR.bind_ok] at h; exact ih _ _ _ _ h
theorem litP_size {l : List UInt8} {i j : Nat} {t : ByteArray} (h : litP l i = .ok t j) : t.size ≤ 4096 := by
  unfold litP at h
  cases hl : litL l (i - 1) (l.length + 1) i [] with
  | err b c => rw [hl] at h; cases h
  | ok o j2 =>
    rw [hl, PR.bind_ok] at h
    injection h with h _
    subst h
    have := litL_size _ _ _ _ _ _ _ hl
    show o.toArray.size ≤ 4096
    simpa using this
end Go.Proofs.YtlgmhhimbabkjaaGreatDoor
