/-
  A map with an element added or replaced, and a map of pairs, as the reference builds them: plain lists of pairs.
-/
import Derived.Test.YtidinbeanaifmaaVnl
namespace Go.Proofs.Ytidinbeanaifmaa
open Go.RowKit

/-! ### one element added or replaced -/
def stepW (key : ByteArray) (x : VT) (s : Bool × List (ByteArray × VT)) (p : ByteArray × VT) : Bool × List (ByteArray × VT) :=
  if p.1 = key then (true, if s.1 = true then s.2 else s.2 ++ [(key, x)])
  else if less p.1 key = true ∨ s.1 = true then (s.1, s.2 ++ [p])
  else (true, (s.2 ++ [(key, x)]) ++ [p])
def foldW (key : ByteArray) (x : VT) (ps : List (ByteArray × VT)) : Bool × List (ByteArray × VT) := ps.foldl (stepW key x) (false, [])
def endW (key : ByteArray) (x : VT) (s : Bool × List (ByteArray × VT)) : List (ByteArray × VT) := if s.1 = true then s.2 else s.2 ++ [(key, x)]
def withL (key : ByteArray) (x : VT) (ps : List (ByteArray × VT)) : List (ByteArray × VT) := endW key x (foldW key x ps)

section
variable {key : ByteArray} {x : VT} {l : List (ByteArray × VT)} {p : ByteArray × VT}
theorem stepW_eq_done (h : p.1 = key) : stepW key x (true, l) p = (true, l) := by unfold stepW; rw [if_pos h, if_pos rfl]
theorem stepW_eq_new (h : p.1 = key) : stepW key x (false, l) p = (true, l ++ [(key, x)]) := by unfold stepW; rw [if_pos h]; rfl
theorem stepW_less (h : p.1 ≠ key) (hl : less p.1 key = true) (b : Bool) : stepW key x (b, l) p = (b, l ++ [p]) := by unfold stepW; rw [if_neg h, if_pos (Or.inl hl)]
theorem stepW_done (h : p.1 ≠ key) : stepW key x (true, l) p = (true, l ++ [p]) := by unfold stepW; rw [if_neg h, if_pos (Or.inr rfl)]
theorem stepW_new (h : p.1 ≠ key) (hl : less p.1 key = false) : stepW key x (false, l) p = (true, (l ++ [(key, x)]) ++ [p]) := by
  unfold stepW
  rw [if_neg h, if_neg (by rw [hl]; simp)]
end
theorem foldW_snoc (key : ByteArray) (x : VT) (l : List (ByteArray × VT)) (p : ByteArray × VT) : foldW key x (l ++ [p]) = stepW key x (foldW key x l) p := by
  unfold foldW
  rw [List.foldl_append]
  rfl
theorem stepW_len (key : ByteArray) (x : VT) (s : Bool × List (ByteArray × VT)) (p : ByteArray × VT) : (stepW key x s p).2.length ≤ s.2.length + 2 := by
  unfold stepW
  split
  · split <;> simp
  · split <;> simp
theorem foldW_len (key : ByteArray) (x : VT) (l : List (ByteArray × VT)) : (foldW key x l).2.length ≤ 2 * l.length := by
  have : ∀ (l : List (ByteArray × VT)) (s : Bool × List (ByteArray × VT)), (l.foldl (stepW key x) s).2.length ≤ s.2.length + 2 * l.length := fun l => by
    induction l with
    | nil => intro s; simp
    | cons p r ih =>
      intro s
      have h1 := ih (stepW key x s p)
      have h2 := stepW_len key x s p
      rw [List.foldl_cons, List.length_cons]
      omega
  have h := this l (false, [])
  simpa [foldW] using h

/-- the keys stay strings that there are -/
theorem withL_keys {key : ByteArray} {x : VT} {l : List (ByteArray × VT)} (hk : key.size ≤ 9223372036854775807) (h : ∀ p ∈ l, p.1.size ≤ 9223372036854775807) : ∀ p ∈ withL key x l, p.1.size ≤ 9223372036854775807 := by
  have step : ∀ (s : Bool × List (ByteArray × VT)) (p : ByteArray × VT), (∀ q ∈ s.2, q.1.size ≤ 9223372036854775807) → p.1.size ≤ 9223372036854775807 → ∀ q ∈ (stepW key x s p).2, q.1.size ≤ 9223372036854775807 := by
    intro s p h1 h2 q hq
    unfold stepW at hq
    split at hq
    · split at hq
      · exact h1 q hq
      · rcases List.mem_append.1 hq with hq | hq
        · exact h1 q hq
        · rw [List.mem_singleton.1 hq]; exact hk
    · split at hq
      · rcases List.mem_append.1 hq with hq | hq
        · exact h1 q hq
        · rw [List.mem_singleton.1 hq]; exact h2
      · rcases List.mem_append.1 hq with hq | hq
        · rcases List.mem_append.1 hq with hq | hq
          · exact h1 q hq
          · rw [List.mem_singleton.1 hq]; exact hk
        · rw [List.mem_singleton.1 hq]; exact h2
  have all : ∀ (l : List (ByteArray × VT)) (s : Bool × List (ByteArray × VT)), (∀ q ∈ s.2, q.1.size ≤ 9223372036854775807) → (∀ p ∈ l, p.1.size ≤ 9223372036854775807) → ∀ q ∈ (l.foldl (stepW key x) s).2, q.1.size ≤ 9223372036854775807 := by
    intro l
    induction l with
    | nil => intro s h1 _; exact h1
    | cons p r ih => intro s h1 h2; exact ih _ (step s p h1 (h2 p List.mem_cons_self)) (fun q hq => h2 q (List.mem_cons_of_mem _ hq))
  intro p hp
  unfold withL endW at hp
  split at hp
  · exact all l (false, []) (fun _ hq => by cases hq) h p hp
  · rcases List.mem_append.1 hp with hp | hp
    · exact all l (false, []) (fun _ hq => by cases hq) h p hp
    · rw [List.mem_singleton.1 hp]; exact hk

/-! ### the place of the element -/
theorem less_irrefl (a : ByteArray) : less a a = false := bl_irrefl _
theorem less_trans {a b c : ByteArray} (h : less a b = true) (k : less b c = true) : less a c = true := bl_trans _ _ _ h k
theorem less_asymm {a b : ByteArray} (h : less a b = true) : less b a = false := by
  cases k : less b a with
  | false => rfl
  | true => have := less_trans h k; rw [less_irrefl] at this; cases this
theorem less_ne {a b : ByteArray} (h : less a b = true) : a ≠ b := fun e => by rw [e, less_irrefl] at h; cases h
theorem less_tri {a b : ByteArray} (h : less a b = false) (hn : a ≠ b) : less b a = true := by
  rcases str_ways a b with ⟨h1, _⟩ | ⟨h1, _⟩ | ⟨_, _, _, h4, _⟩
  · rw [show less a b = true from h1] at h; cases h
  · exact absurd h1 hn
  · exact h4
/-- keys ascending, as a relation of neighbours and of all -/
def Asc (l : List (ByteArray × VT)) : Prop := l.Pairwise fun p q => less p.1 q.1 = true
theorem foldl_lower {key : ByteArray} {x : VT} : ∀ (A acc : List (ByteArray × VT)), (∀ p ∈ A, less p.1 key = true) → A.foldl (stepW key x) (false, acc) = (false, acc ++ A)
  | [], acc, _ => by simp
  | p :: A, acc, h => by
    have hp := h p List.mem_cons_self
    rw [List.foldl_cons, stepW_less (less_ne hp) hp, foldl_lower A _ (fun q hq => h q (List.mem_cons_of_mem _ hq))]
    simp
theorem foldl_upper {key : ByteArray} {x : VT} : ∀ (B acc : List (ByteArray × VT)), (∀ p ∈ B, less key p.1 = true) → B.foldl (stepW key x) (true, acc) = (true, acc ++ B)
  | [], acc, _ => by simp
  | p :: B, acc, h => by
    have hp := h p List.mem_cons_self
    rw [List.foldl_cons, stepW_done (Ne.symm (less_ne hp)), foldl_upper B _ (fun q hq => h q (List.mem_cons_of_mem _ hq))]
    simp
/-- where the key is not there -/
theorem withL_new {key : ByteArray} {x : VT} {A B : List (ByteArray × VT)} (hA : ∀ p ∈ A, less p.1 key = true) (hB : ∀ p ∈ B, less key p.1 = true) : withL key x (A ++ B) = A ++ (key, x) :: B := by
  unfold withL foldW
  rw [List.foldl_append, foldl_lower A [] hA, List.nil_append]
  cases B with
  | nil => simp [endW]
  | cons b B =>
    have hb := hB b List.mem_cons_self
    rw [List.foldl_cons, stepW_new (Ne.symm (less_ne hb)) (less_asymm hb), foldl_upper B _ (fun q hq => hB q (List.mem_cons_of_mem _ hq))]
    simp [endW]
/-- where it is -/
theorem withL_old {key : ByteArray} {x y : VT} {A B : List (ByteArray × VT)} (hA : ∀ p ∈ A, less p.1 key = true) (hB : ∀ p ∈ B, less key p.1 = true) : withL key x (A ++ (key, y) :: B) = A ++ (key, x) :: B := by
  unfold withL foldW
  rw [List.foldl_append, foldl_lower A [] hA, List.nil_append, List.foldl_cons, stepW_eq_new (p := (key, y)) rfl, foldl_upper B _ hB]
  simp [endW]
/-- ascending pairs part at a key that is not among them -/
theorem asc_part {key : ByteArray} : ∀ {l : List (ByteArray × VT)}, Asc l → (∀ p ∈ l, p.1 ≠ key) → ∃ A B, l = A ++ B ∧ (∀ p ∈ A, less p.1 key = true) ∧ (∀ p ∈ B, less key p.1 = true)
  | [], _, _ => ⟨[], [], rfl, (fun _ h => by cases h), (fun _ h => by cases h)⟩
  | p :: l, h, hn => by
    obtain ⟨h1, h2⟩ := List.pairwise_cons.1 h
    have hp := hn p List.mem_cons_self
    cases hl : less p.1 key with
    | true =>
      obtain ⟨A, B, rfl, hA, hB⟩ := asc_part h2 (fun q hq => hn q (List.mem_cons_of_mem _ hq))
      refine ⟨p :: A, B, rfl, fun q hq => ?_, hB⟩
      rcases List.mem_cons.1 hq with rfl | hq
      · exact hl
      · exact hA q hq
    | false =>
      have hk := less_tri hl hp
      refine ⟨[], p :: l, rfl, (fun _ h => by cases h), fun q hq => ?_⟩
      rcases List.mem_cons.1 hq with rfl | hq
      · exact hk
      · exact less_trans hk (h1 q hq)
theorem asc_join {key : ByteArray} {x : VT} {A B : List (ByteArray × VT)} (h : Asc (A ++ B)) (hA : ∀ p ∈ A, less p.1 key = true) (hB : ∀ p ∈ B, less key p.1 = true) : Asc (A ++ (key, x) :: B) := by
  unfold Asc at h ⊢
  rw [List.pairwise_append] at h ⊢
  obtain ⟨h1, h2, h3⟩ := h
  refine ⟨h1, List.pairwise_cons.2 ⟨hB, h2⟩, fun a ha b hb => ?_⟩
  rcases List.mem_cons.1 hb with rfl | hb
  · exact hA a ha
  · exact h3 a ha b hb

/-! ### a map of pairs -/
def hasK (acc : List (ByteArray × VT)) (key : ByteArray) : Bool := acc.any fun p => decide (p.1 = key)
def goM : List (ByteArray × VT) → List (ByteArray × VT) → Option (List (ByteArray × VT))
  | acc, [] => some acc
  | acc, p :: r => if hasK acc p.1 = true then none else goM (withL p.1 p.2 acc) r
theorem goM_snoc (p : ByteArray × VT) : ∀ (l acc : List (ByteArray × VT)), goM acc (l ++ [p]) = (goM acc l).bind fun a => if hasK a p.1 = true then none else some (withL p.1 p.2 a)
  | [], acc => by
    rw [List.nil_append]
    simp only [goM, Option.bind_some]
  | q :: l, acc => by
    rw [List.cons_append, goM, goM]
    split
    · rfl
    · exact goM_snoc p l _
theorem goM_none_append (r : List (ByteArray × VT)) : ∀ (l acc : List (ByteArray × VT)), goM acc l = none → goM acc (l ++ r) = none
  | [], acc, h => by simp [goM] at h
  | q :: l, acc, h => by
    rw [List.cons_append, goM]
    rw [goM] at h
    split
    · rfl
    · rename_i hh
      rw [if_neg hh] at h
      exact goM_none_append r l _ h
theorem hasK_iff {acc : List (ByteArray × VT)} {key : ByteArray} : hasK acc key = true ↔ ∃ p ∈ acc, p.1 = key := by
  unfold hasK
  rw [List.any_eq_true]
  simp
theorem hasK_no {acc : List (ByteArray × VT)} {key : ByteArray} (h : hasK acc key = false) : ∀ p ∈ acc, p.1 ≠ key := fun p hp e => by
  rw [hasK_iff.2 ⟨p, hp, e⟩] at h
  cases h
theorem goM_some : ∀ (l acc r : List (ByteArray × VT)), Asc acc → goM acc l = some r → Asc r ∧ r.Perm (acc ++ l)
  | [], acc, r, ha, h => by
    simp only [goM, Option.some.injEq] at h
    subst h
    simpa using ha
  | p :: l, acc, r, ha, h => by
    rw [goM] at h
    cases hk : hasK acc p.1 with
    | true => rw [hk] at h; simp at h
    | false =>
      rw [hk] at h
      obtain ⟨A, B, rfl, hA, hB⟩ := asc_part ha (hasK_no hk)
      have h := (if_neg (show ¬ (false = true) by decide)).symm.trans h
      rw [withL_new hA hB] at h
      obtain ⟨h1, h2⟩ := goM_some l _ r (asc_join ha hA hB) h
      refine ⟨h1, h2.trans ?_⟩
      simp only [List.append_assoc, List.cons_append]
      exact (List.perm_middle.symm.append_left A).trans (by
        have : A ++ (B ++ p :: l) = A ++ B ++ (p :: l) := by simp
        exact List.Perm.refl _) |>.trans (List.Perm.refl _)
theorem goM_none : ∀ (l acc : List (ByteArray × VT)), Asc acc → goM acc l = none → ¬ ((acc ++ l).map (·.1)).Nodup
  | [], acc, _, h => by simp [goM] at h
  | p :: l, acc, ha, h => by
    rw [goM] at h
    cases hk : hasK acc p.1 with
    | true =>
      intro hn
      obtain ⟨q, hq, e⟩ := hasK_iff.1 hk
      rw [List.map_append, List.nodup_append] at hn
      exact hn.2.2 q.1 (List.mem_map_of_mem hq) p.1 (by simp) e
    | false =>
      rw [hk] at h
      obtain ⟨A, B, rfl, hA, hB⟩ := asc_part ha (hasK_no hk)
      have h := (if_neg (show ¬ (false = true) by decide)).symm.trans h
      rw [withL_new hA hB] at h
      have h1 := goM_none l _ (asc_join ha hA hB) h
      intro hn
      apply h1
      have hp : ((A ++ (p.1, p.2) :: B ++ l).map (·.1)).Perm ((A ++ B ++ p :: l).map (·.1)) := by
        refine List.Perm.map _ ?_
        simp only [List.append_assoc, List.cons_append]
        exact List.Perm.append_left A List.perm_middle.symm
      exact hp.nodup_iff.2 hn

/-! ### ascending, in the code's words -/
theorem asc_nodup {l : List (ByteArray × VT)} (h : Asc l) : (l.map (·.1)).Nodup := by
  unfold List.Nodup
  rw [List.pairwise_map]
  exact h.imp fun hl => less_ne hl
theorem asc_eq : ∀ {l l' : List (ByteArray × VT)}, Asc l → Asc l' → l.Perm l' → l = l'
  | [], l', _, _, h => (List.nil_perm.1 h).symm
  | p :: l, [], _, _, h => absurd h.length_eq (by simp)
  | p :: l, q :: l', h1, h2, h => by
    obtain ⟨a1, a2⟩ := List.pairwise_cons.1 h1
    obtain ⟨b1, b2⟩ := List.pairwise_cons.1 h2
    have e : p = q := by
      rcases List.mem_cons.1 (h.mem_iff.1 List.mem_cons_self) with e | hp
      · exact e
      · rcases List.mem_cons.1 (h.mem_iff.2 (List.mem_cons_self (a := q) (l := l'))) with e | hq
        · exact e.symm
        · have := less_trans (a1 q hq) (b1 p hp)
          rw [less_irrefl] at this
          cases this
    subst e
    rw [asc_eq a2 b2 (List.Perm.cons_inv h)]
end Go.Proofs.Ytidinbeanaifmaa
