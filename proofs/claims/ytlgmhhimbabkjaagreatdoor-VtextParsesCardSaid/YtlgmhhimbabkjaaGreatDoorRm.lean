/-
  What put of the reference has written so far; plain mathematics.
-/
import Derived.Test.YtlgmhhimbabkjaaGreatDoorTq
namespace Go.Proofs.YtlgmhhimbabkjaaGreatDoor

/-- j elements are copied, and y stands before that at P -/
def midP {α : Type} (P j : Nat) (y : α) (l : List α) : List α := if P < j then insAt P y (l.take j) else l.take j
section
variable {α : Type} {P j : Nat} {y a : α} {l : List α}
theorem take_snoc (h : l[j]? = some a) : l.take (j + 1) = l.take j ++ [a] := by rw [List.take_add_one, h]; rfl
theorem midP_low (hj : j < P) (h : l[j]? = some a) : midP P (j + 1) y l = midP P j y l ++ [a] := by
  unfold midP
  rw [if_neg (by omega), if_neg (by omega), take_snoc h]
theorem midP_at (h : l[P]? = some a) : midP P (P + 1) y l = midP P P y l ++ [y] ++ [a] := by
  have hl := (List.getElem?_eq_some_iff.1 h).1
  have e : (l.take P).length = P := by rw [List.length_take]; omega
  unfold midP insAt
  rw [if_pos (by omega), if_neg (by omega), take_snoc h]
  rw [List.take_append_of_le_length (by omega), List.drop_append_of_le_length (by omega), List.take_of_length_le (by omega), List.drop_of_length_le (by omega)]
  simp
theorem midP_high (hj : P < j) (h : l[j]? = some a) : midP P (j + 1) y l = midP P j y l ++ [a] := by
  have hl := (List.getElem?_eq_some_iff.1 h).1
  have e : (l.take j).length = j := by rw [List.length_take]; omega
  unfold midP insAt
  rw [if_pos (by omega), if_pos hj, take_snoc h]
  rw [List.take_append_of_le_length (by omega), List.drop_append_of_le_length (by omega)]
  simp
theorem midP_done (hj : P < j) (h : l.length ≤ j) : midP P j y l = insAt P y l := by
  unfold midP
  rw [if_pos hj, List.take_of_length_le h]
theorem midP_last (hj : ¬ P < j) (_ : P ≤ l.length) (h : l.length ≤ j) : midP P j y l ++ [y] = insAt P y l := by
  unfold midP insAt
  rw [if_neg hj, List.take_of_length_le h, List.take_of_length_le (by omega), List.drop_of_length_le (by omega)]
theorem midP_zero : midP P 0 y l = [] := by
  unfold midP
  rw [if_neg (by omega), List.take_zero]
theorem midP_len : (midP P j y l).length ≤ j + 1 := by
  unfold midP insAt
  split
  · rw [List.length_append, List.length_cons, List.length_take, List.length_drop, List.length_take]
    omega
  · rw [List.length_take]; omega
theorem midP_map {β : Type} (f : α → β) : (midP P j y l).map f = midP P j (f y) (l.map f) := by
  unfold midP insAt
  split <;> simp [List.map_take, List.map_drop]
end

theorem posOf_le (ks : List ByteArray) (t : ByteArray) : posOf ks t ≤ ks.length := by
  unfold posOf
  exact (List.takeWhile_sublist _).length_le
theorem posOf_lt : ∀ {ks : List ByteArray} {t : ByteArray} {j : Nat} {a : ByteArray}, j < posOf ks t → ks[j]? = some a → less a t = true
  | [], _, _, _, _, h => by cases h
  | c :: r, t, j, a, hj, h => by
    unfold posOf at hj
    rw [List.takeWhile_cons] at hj
    split at hj
    · rename_i hc
      cases j with
      | zero => injection h with h; rw [← h]; exact hc
      | succ j =>
        rw [List.length_cons] at hj
        exact posOf_lt (ks := r) (j := j) (by unfold posOf; omega) h
    · exact absurd hj (by simp)
theorem posOf_at : ∀ {ks : List ByteArray} {t : ByteArray} {a : ByteArray}, ks[posOf ks t]? = some a → less a t = false
  | [], _, _, h => by cases h
  | c :: r, t, a, h => by
    unfold posOf at h
    rw [List.takeWhile_cons] at h
    split at h
    · rw [List.length_cons, List.getElem?_cons_succ] at h
      exact posOf_at (ks := r) h
    · rename_i hc
      injection h with h
      rw [← h]
      exact Bool.eq_false_iff.2 hc
/-- the test of put at j, with a key that is none of them -/
theorem put_test {ks : List ByteArray} {t a : ByteArray} {j : Nat} (h : ks[j]? = some a) (hn : a ≠ t) (hj : ¬ posOf ks t < j) : less t a = decide (j = posOf ks t) := by
  have ht := less_tri hn
  rcases Nat.lt_or_ge j (posOf ks t) with h1 | h1
  · rw [decide_eq_false (by omega)]
    have := posOf_lt h1 h
    rw [ht] at this
    simpa using this
  · obtain rfl : j = posOf ks t := by omega
    rw [decide_eq_true rfl]
    have := posOf_at h
    rw [ht] at this
    simpa using this
end Go.Proofs.YtlgmhhimbabkjaaGreatDoor
