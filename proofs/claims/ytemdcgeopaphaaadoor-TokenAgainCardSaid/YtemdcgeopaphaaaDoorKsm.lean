/-
  Offsets of tokens: mathematics.
-/
import Derived.Test.YtemdcgeopaphaaaDoorKq
namespace Go.Proofs.YtemdcgeopaphaaaDoor
open Go.RowKit

theorem litG_kind {l : List UInt8} : ∀ {f i : Nat} {o t : List UInt8} {k v : Int} {n : Nat}, litG l f i o = .ok k t v n → k = 4
  | 0, _, _, _, _, _, _, h => by cases h
  | f + 1, i, o, t, k, v, n, h => by
    unfold litG at h
    cases hi : l[i]? with
    | none => rw [hi] at h; cases h
    | some c =>
      rw [hi] at h
      simp only at h
      split at h
      · split at h
        · cases h
        · injection h with h; exact h.symm
      · cases hc : chrC (l.drop i) with
        | err e => rw [hc] at h; cases h
        | ok x m => rw [hc] at h; exact litG_kind h
theorem oneT_kind {l t : List UInt8} {k v : Int} {n : Nat} (h : oneT l = .ok k t v n) : 1 ≤ k ∧ k ≤ 5 := by
  unfold oneT at h
  cases l with
  | nil => cases h
  | cons c r =>
    simp only at h
    split at h
    · unfold wordT at h
      split at h
      · cases h
      · injection h with h
        split at h <;> omega
    · split at h
      · unfold intT at h
        split at h
        · cases h
        · split at h
          · injection h with h; omega
          · cases h
      · split at h
        · have := litG_kind h; omega
        · unfold signT at h
          cases r with
          | nil =>
            simp only at h
            split at h
            · injection h with h; omega
            · cases h
          | cons b r2 =>
            simp only at h
            split at h
            · injection h with h; omega
            · split at h
              · injection h with h; omega
              · cases h
theorem skp_nb {l : List UInt8} {i : Nat} {c : UInt8} (h : l[skpT l i]? = some c) : blkT c = false := by
  refine spn_end (p := blkT) (l := l.drop i) ?_
  rw [List.getElem?_drop]
  exact h
/-- the tokens so far, before offset i -/
structure GoodO (l : List UInt8) (i : Nat) (o : List Tok) : Prop where
  low : ∀ x ∈ o, x.off < i ∧ x.kind ≠ 0 ∧ ∃ c, l[x.off]? = some c ∧ blkT c = false
  inc : ∀ (j : Nat) (x y : Tok), o[j]? = some x → o[j + 1]? = some y → x.off < y.off
theorem scanG_good {l : List UInt8} : ∀ {f i : Nat} {o L : List Tok}, GoodO l i o → (∀ c, l[i]? = some c → blkT c = false) → scanG l f i o = .ok L → ∃ O, L = O ++ [endT l.length] ∧ GoodO l l.length O
  | 0, _, _, _, _, _, h => by cases h
  | f + 1, i, o, L, hg, hn, h => by
    by_cases hi : l.length ≤ i
    · rw [scan_end hi] at h
      injection h with h
      refine ⟨o, h.symm, fun x hx => ?_, hg.inc⟩
      obtain ⟨_, h2, c, h3, h4⟩ := hg.low x hx
      exact ⟨(List.getElem?_eq_some_iff.1 h3).1, h2, c, h3, h4⟩
    · cases h1 : oneT (l.drop i) with
      | err e => rw [scan_err (by omega) h1] at h; cases h
      | ok k t v n =>
        rw [scan_ok (by omega) h1] at h
        have hk := oneT_kind h1
        have hnn := oneT_n h1
        have hge := skpT_ge l (i + n)
        refine scanG_good (f := f) ⟨fun x hx => ?_, fun j x y hx hy => ?_⟩ (fun c hc => skp_nb hc) h
        · rcases List.mem_append.1 hx with hx | hx
          · obtain ⟨h1, h2⟩ := hg.low x hx
            exact ⟨by omega, h2⟩
          · rw [List.mem_singleton] at hx
            subst hx
            have hc := List.getElem?_eq_getElem (l := l) (i := i) (by omega)
            exact ⟨by show i < _; omega, by show k ≠ 0; omega, _, hc, hn _ hc⟩
        · have hj := (List.getElem?_eq_some_iff.1 hy).1
          rw [List.length_append, List.length_singleton] at hj
          rw [List.getElem?_append_left (by omega)] at hx
          by_cases hj2 : j + 1 < o.length
          · rw [List.getElem?_append_left hj2] at hy
            exact hg.inc j x y hx hy
          · have e : j + 1 = o.length := by omega
            rw [e, List.getElem?_append_right (Nat.le_refl _), Nat.sub_self] at hy
            injection hy with hy
            subst hy
            exact (hg.low x (List.mem_of_getElem? hx)).1
theorem scanT_good {l : List UInt8} {L : List Tok} (h : scanT l = .ok L) : ∃ O, L = O ++ [endT l.length] ∧ GoodO l l.length O := by
  unfold scanT at h
  split at h
  · cases h
  · exact scanG_good ⟨fun x hx => (by cases hx), fun j x y hx => (by cases hx)⟩ (fun c hc => skp_nb hc) h
theorem scanG_ne {l : List UInt8} : ∀ {f i : Nat} {o : List Tok} {j : Nat} {e : Int}, scanG l f i o = .err j e → e ≠ 0
  | 0, _, _, _, _, h => by injection h with _ h; subst h; decide
  | f + 1, i, o, j, e, h => by
    by_cases hi : l.length ≤ i
    · rw [scan_end hi] at h; cases h
    · cases h1 : oneT (l.drop i) with
      | err x =>
        rw [scan_err (by omega) h1] at h
        injection h with _ h
        subst h
        exact oneT_ne h1
      | ok k t v n => rw [scan_ok (by omega) h1] at h; exact scanG_ne h
theorem scanT_ne {l : List UInt8} {j : Nat} {e : Int} (h : scanT l = .err j e) : e ≠ 0 := by
  unfold scanT at h
  split at h
  · injection h with _ h; subst h; decide
  · exact scanG_ne h
/-- what the law asks of the token at j -/
theorem good_at {l : List UInt8} {O : List Tok} (h : GoodO l l.length O) {j : Nat} {x : Tok} (hx : (O ++ [endT l.length])[j]? = some x) :
    (j < O.length ∧ x.kind ≠ 0 ∧ x.off < l.length ∧ (∃ c, l[x.off]? = some c ∧ blkT c = false) ∧ ∀ y, 0 < j → (O ++ [endT l.length])[j - 1]? = some y → y.off < x.off) ∨
    (j = O.length ∧ x = endT l.length ∧ ∀ y, 0 < j → (O ++ [endT l.length])[j - 1]? = some y → y.off < l.length) := by
  have hj := (List.getElem?_eq_some_iff.1 hx).1
  rw [List.length_append, List.length_singleton] at hj
  by_cases hlt : j < O.length
  · rw [List.getElem?_append_left hlt] at hx
    obtain ⟨h1, h2, h3⟩ := h.low x (List.mem_of_getElem? hx)
    refine .inl ⟨hlt, h2, h1, h3, fun y h0 hy => ?_⟩
    rw [List.getElem?_append_left (by omega)] at hy
    exact h.inc (j - 1) y x hy (by rw [Nat.sub_add_cancel h0]; exact hx)
  · have e : j = O.length := by omega
    subst e
    rw [List.getElem?_append_right (Nat.le_refl _), Nat.sub_self] at hx
    injection hx with hx
    refine .inr ⟨rfl, hx.symm, fun y h0 hy => ?_⟩
    rw [List.getElem?_append_left (by omega)] at hy
    exact (h.low y (List.mem_of_getElem? hy)).1

end Go.Proofs.YtemdcgeopaphaaaDoor
