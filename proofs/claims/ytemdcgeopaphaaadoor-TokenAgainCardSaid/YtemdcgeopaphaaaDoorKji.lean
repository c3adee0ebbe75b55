/-
  Spelled tokens are scanned again: mathematics.
-/
import Derived.Test.YtemdcgeopaphaaaDoorKjf
import Derived.Test.YtemdcgeopaphaaaDoorKr
namespace Go.Proofs.YtemdcgeopaphaaaDoor
open Go.RowKit

/-- what may follow a token in a spelled text: nothing, or a blank -/
def EndB (r : List UInt8) : Prop := r = [] ∨ ∃ s, r = 32 :: s
theorem spn_app {p : UInt8 → Bool} : ∀ {l r : List UInt8}, (∀ c ∈ l, p c = true) → (∀ c, r.head? = some c → p c = false) → spn p (l ++ r) = l.length
  | [], [], _, _ => rfl
  | [], c :: r, _, h => spn_no r (h c rfl)
  | a :: l, r, h, h2 => by
    rw [List.cons_append, spn_yes _ (h a List.mem_cons_self), spn_app (fun c hc => h c (List.mem_cons_of_mem _ hc)) h2, List.length_cons]
theorem EndB.head {r : List UInt8} (h : EndB r) {p : UInt8 → Bool} (hp : p 32 = false) : ∀ c, r.head? = some c → p c = false := by
  intro c hc
  rcases h with rfl | ⟨s, rfl⟩
  · cases hc
  · injection hc with hc; rw [← hc]; exact hp
theorem letF : ∀ c : UInt8, letT c = true → blkT c = false ∧ dgtT c = false ∧ c ≠ 34 := by
  intro c
  have h : ((List.range 256).all fun n => !letT (UInt8.ofNat n) || (!blkT (UInt8.ofNat n) && !dgtT (UInt8.ofNat n) && !(UInt8.ofNat n == 34))) = true := by decide +kernel
  have h2 := allN h c.toNat c.toNat_lt
  rw [UInt8.ofNat_toNat] at h2
  intro hl
  rw [hl] at h2
  simpa [and_assoc] using h2
theorem dgtF : ∀ c : UInt8, dgtT c = true → blkT c = false ∧ letT c = false ∧ c ≠ 34 := by
  intro c
  have h : ((List.range 256).all fun n => !dgtT (UInt8.ofNat n) || (!blkT (UInt8.ofNat n) && !letT (UInt8.ofNat n) && !(UInt8.ofNat n == 34))) = true := by decide +kernel
  have h2 := allN h c.toNat c.toNat_lt
  rw [UInt8.ofNat_toNat] at h2
  intro hl
  rw [hl] at h2
  simpa [and_assoc] using h2
theorem sgnF : ∀ c : UInt8, (sgnT c || befT c) = true → blkT c = false ∧ letT c = false ∧ dgtT c = false ∧ c ≠ 34 := by
  intro c
  have h : ((List.range 256).all fun n => !(sgnT (UInt8.ofNat n) || befT (UInt8.ofNat n)) || (!blkT (UInt8.ofNat n) && !letT (UInt8.ofNat n) && !dgtT (UInt8.ofNat n) && !(UInt8.ofNat n == 34))) = true := by decide +kernel
  have h2 := allN h c.toNat c.toNat_lt
  rw [UInt8.ofNat_toNat] at h2
  intro hl
  rw [hl] at h2
  simpa [and_assoc] using h2
/-- spelled p, a token is found again in front of whatever may follow -/
structure Again (k : Int) (t : List UInt8) (v : Int) (p : List UInt8) : Prop where
  sp : ∀ off, spO ⟨k, off, t, v⟩ = some p
  nb : ∃ c s, p = c :: s ∧ blkT c = false
  on : ∀ r, EndB r → oneT (p ++ r) = .ok k t v p.length
theorem one_cons {c : UInt8} {s : List UInt8} : oneT (c :: s) = if letT c then wordT (c :: s) else if dgtT c then intT (c :: s) else if c = 34 then litT (c :: s) else signT (c :: s) := rfl
theorem word_again {l t : List UInt8} {k v : Int} {n : Nat} {c : UInt8} {s : List UInt8} (hl : l = c :: s) (hc : letT c = true) (h : wordT l = .ok k t v n) : Again k t v t := by
  subst hl
  unfold wordT at h
  split at h
  · cases h
  · rename_i h64
    injection h with h1 h2 h3 h4
    obtain ⟨m, hm⟩ : ∃ m, m = spn wrdT (c :: s) := ⟨_, rfl⟩
    have hw : wrdT c = true := by unfold wrdT; rw [hc]; rfl
    have hm1 : 0 < m := by rw [hm, spn_yes _ hw]; omega
    have hml : m ≤ (c :: s).length := by rw [hm]; exact spn_le _ _
    rw [← hm] at h1 h2 h64
    obtain ⟨m', rfl⟩ : ∃ m', m = m' + 1 := ⟨m - 1, by omega⟩
    have ht : t = c :: s.take m' := by rw [← h2, List.take_succ_cons]
    have hall : ∀ x ∈ t, wrdT x = true := by
      intro x hx
      rw [← h2, hm] at hx
      exact spn_all wrdT _ x hx
    have hlen : t.length = m' + 1 := by rw [← h2, List.length_take]; omega
    subst h3
    refine ⟨fun off => ?_, ⟨c, _, ht, (letF c hc).1⟩, fun r hr => ?_⟩
    · unfold spO
      rw [← h1]
      show (if (if kwB ((c :: s).take (m' + 1)) = true then (2 : Int) else 1) = 1 ∨ _ then _ else _) = _
      refine if_pos ?_
      split
      · exact .inr (.inl rfl)
      · exact .inl rfl
    · have hsp : spn wrdT (t ++ r) = t.length := spn_app hall (hr.head (p := wrdT) (by decide))
      have e : oneT (t ++ r) = wordT (t ++ r) := by
        rw [ht, List.cons_append, one_cons, if_pos hc]
      rw [e]
      unfold wordT
      rw [hsp, if_neg (by omega), List.take_left, ← h1, h2]
theorem dec_head : ∀ u : Nat, 0 < u → (Lib.decDigits u).head? ≠ some 48 := by
  intro u
  induction u using Nat.strongRecOn with
  | ind u ih =>
    intro h0
    by_cases hs : u < 10
    · rw [Lib.decDigits, dif_pos hs]
      intro e
      injection e with e
      have := congrArg UInt8.toNat e
      rw [dig_nat u hs] at this
      have e48 : (48 : UInt8).toNat = 48 := rfl
      omega
    · rw [Lib.decDigits, dif_neg hs]
      have := ih (u / 10) (by omega) (by omega)
      obtain ⟨c, r, hc⟩ := dec_cons (u / 10)
      rw [hc] at this ⊢
      exact this
theorem dec_one (u : Nat) (h : (Lib.decDigits u).head? = some 48) : (Lib.decDigits u).length ≤ 1 := by
  by_cases hu : 0 < u
  · exact absurd h (dec_head u hu)
  · obtain rfl : u = 0 := by omega
    rw [Lib.decDigits, dif_pos (by decide)]
    exact Nat.le_refl _
theorem int_again {l t : List UInt8} {k v : Int} {n : Nat} (h0 : 0 < spn dgtT l) (h : intT l = .ok k t v n) : k = 3 ∧ t = [] ∧ -9223372036854775808 ≤ v ∧ v ≤ 9223372036854775807 ∧ Again k t v (Lib.itoa v) := by
  have hl := spn_le dgtT l
  unfold intT at h
  split at h
  · cases h
  · rename_i hb
    split at h
    · rename_i v' hv
      injection h with h1 h2 h3 h4
      subst h1 h2 h3
      have hall := spn_all dgtT l
      obtain ⟨c, r, hcr⟩ : ∃ c r, l.take (spn dgtT l) = c :: r := by
        cases hx : l.take (spn dgtT l) with
        | nil => have := congrArg List.length hx; rw [List.length_take, List.length_nil] at this; omega
        | cons c r => exact ⟨c, r, rfl⟩
      rw [hcr] at hv hall
      obtain ⟨hd, he⟩ := (atoi_digs hall v').1 hv
      generalize dval 0 (c :: r) = u at hd he
      subst he
      have hi : Lib.itoa (u : Int) = Lib.decDigits u := by unfold Lib.itoa; rw [if_neg (by omega)]; rfl
      obtain ⟨d, s, hds⟩ := dec_cons u
      have hda := dec_all u
      have hdg : ∀ x ∈ Lib.decDigits u, dgtT x = true := fun x hx => decide_eq_true (hda x hx)
      have hd1 : dgtT d = true := hdg d (by rw [hds]; exact List.mem_cons_self)
      refine ⟨rfl, rfl, by omega, by omega, fun off => by unfold spO; rfl, ⟨d, s, by rw [hi, hds], (dgtF d hd1).1⟩, fun r hr => ?_⟩
      rw [hi]
      have e : oneT (Lib.decDigits u ++ r) = intT (Lib.decDigits u ++ r) := by
        rw [hds, List.cons_append, one_cons, if_neg (by rw [(dgtF d hd1).2.1]; decide), if_pos hd1]
      rw [e]
      have hsp : spn dgtT (Lib.decDigits u ++ r) = (Lib.decDigits u).length := spn_app hdg (hr.head (p := dgtT) (by decide))
      have hbad : badT (Lib.decDigits u ++ r) = false := by
        unfold badT
        rw [hsp, Bool.or_eq_false_iff]
        constructor
        · rw [Bool.and_eq_false_iff]
          by_cases h1 : 1 < (Lib.decDigits u).length
          · refine .inr (beq_eq_false_iff_ne.2 fun e => ?_)
            have : (Lib.decDigits u).head? = some 48 := by rw [hds] at e ⊢; exact e
            have := dec_one u this
            omega
          · exact .inl (decide_eq_false h1)
        · rw [List.getElem?_append_right (Nat.le_refl _), Nat.sub_self]
          rcases hr with rfl | ⟨s, rfl⟩
          · rfl
          · rfl
      unfold intT
      rw [if_neg (by rw [hbad]; decide), hsp, List.take_left, atoi_dec hd]
    · cases h
theorem litG_len {l : List UInt8} : ∀ {f i : Nat} {o t : List UInt8} {k v : Int} {n : Nat}, litG l f i o = .ok k t v n → k = 4 ∧ v = 0 ∧ t.length ≤ 4096 ∧ t.length + i ≤ o.length + n
  | 0, _, _, _, _, _, _, h => by cases h
  | f + 1, i, o, t, k, v, n, h => by
    unfold litG at h
    cases hi : l[i]? with
    | none => rw [hi] at h; cases h
    | some c =>
      rw [hi] at h
      simp only at h
      split at h
      · split at h
        · cases h
        · injection h with h1 h2 h3 h4
          subst h1 h2 h3 h4
          exact ⟨rfl, rfl, by omega, by omega⟩
      · cases hc : chrC (l.drop i) with
        | err x => rw [hc] at h; cases h
        | ok x m =>
          rw [hc] at h
          have hm := (chrC_n hc).1
          obtain ⟨e1, e2, e3, e4⟩ := litG_len h
          rw [List.length_append, List.length_singleton] at e4
          exact ⟨e1, e2, e3, by omega⟩
theorem lit_again {l t : List UInt8} {k v : Int} {n : Nat} (h : litT l = .ok k t v n) : Again k t v (quoL t) := by
  obtain ⟨rfl, rfl, h1, _⟩ := litG_len h
  refine ⟨fun off => by unfold spO; rfl, ⟨34, _, rfl, by decide⟩, fun r hr => ?_⟩
  have h1' : oneT (quoL t ++ r) = litT (quoL t ++ r) := by
    show (if letT 34 = true then wordT (quoL t ++ r) else if dgtT 34 = true then intT (quoL t ++ r) else if (34 : UInt8) = 34 then litT (quoL t ++ r) else signT (quoL t ++ r)) = _
    rw [if_neg (by decide), if_neg (by decide), if_pos rfl]
  rw [h1']
  unfold litT
  have h2 := lit_quote r t [34] [] ((quoL t ++ r).length + 1) (by rw [List.length_append, quo_len]; have := esc_len_ge t; omega) (by simpa using h1)
  have h3 : quoL t ++ r = [34] ++ (t.flatMap escB ++ 34 :: r) := by unfold quoL; simp
  rw [← h3] at h2
  rw [show ([34] : List UInt8).length = 1 from rfl] at h2
  rw [h2, List.nil_append, quo_len]
  congr 1
  omega
theorem sign_again {l t : List UInt8} {k v : Int} {n : Nat} (h : signT l = .ok k t v n) : Again k t v t := by
  have one : ∀ a : UInt8, sgnT a = true → Again 5 [a] 0 [a] := fun a ha => by
    have hF := sgnF a (by rw [ha]; rfl)
    refine ⟨fun off => by unfold spO; rfl, ⟨a, [], rfl, hF.1⟩, fun r hr => ?_⟩
    have e : oneT ([a] ++ r) = signT (a :: r) := by
      show oneT (a :: r) = _
      rw [one_cons, if_neg (by rw [hF.2.1]; decide), if_neg (by rw [hF.2.2.1]; decide), if_neg hF.2.2.2]
    rw [e]
    rcases hr with rfl | ⟨s, rfl⟩
    · show (if sgnT a = true then _ else _) = _
      rw [if_pos ha]; rfl
    · show (if befT a = true ∧ (32 : UInt8) = 61 then _ else if sgnT a = true then _ else _) = _
      rw [if_neg (fun h => by have := h.2; revert this; decide), if_pos ha]; rfl
  match l, h with
  | [], h => cases h
  | [a], h =>
    change (if sgnT a = true then TR.ok 5 [a] 0 1 else .err 3) = _ at h
    split at h
    · rename_i ha
      injection h with h1 h2 h3 h4
      subst h1 h2 h3
      exact one a ha
    · cases h
  | a :: b :: s, h =>
    change (if befT a = true ∧ b = 61 then TR.ok 5 [a, b] 0 2 else if sgnT a = true then .ok 5 [a] 0 1 else .err 3) = _ at h
    split at h
    · rename_i ha
      injection h with h1 h2 h3 h4
      subst h1 h2 h3
      have hF := sgnF a (by rw [ha.1, Bool.or_true])
      refine ⟨fun off => by unfold spO; rfl, ⟨a, [b], rfl, hF.1⟩, fun r hr => ?_⟩
      have e : oneT ([a, b] ++ r) = signT (a :: b :: r) := by
        show oneT (a :: b :: r) = _
        rw [one_cons, if_neg (by rw [hF.2.1]; decide), if_neg (by rw [hF.2.2.1]; decide), if_neg hF.2.2.2]
      rw [e]
      show (if befT a = true ∧ b = 61 then _ else _) = _
      rw [if_pos ha]; rfl
    · split at h
      · rename_i ha
        injection h with h1 h2 h3 h4
        subst h1 h2 h3
        exact one a ha
      · cases h
theorem one_again {l t : List UInt8} {k v : Int} {n : Nat} (h : oneT l = .ok k t v n) : ∃ p, Again k t v p := by
  cases l with
  | nil => cases h
  | cons c s =>
    rw [one_cons] at h
    split at h
    · rename_i hc; exact ⟨_, word_again rfl hc h⟩
    · split at h
      · rename_i hd; exact ⟨_, (int_again (by rw [spn_yes _ hd]; omega) h).2.2.2.2⟩
      · split at h
        · exact ⟨_, lit_again h⟩
        · exact ⟨_, sign_again h⟩
/-- a token's text is no longer than what it was read from; its number is an int -/
theorem one_mod {l t : List UInt8} {k v : Int} {n : Nat} (h : oneT l = .ok k t v n) : t.length ≤ l.length ∧ -9223372036854775808 ≤ v ∧ v ≤ 9223372036854775807 := by
  have hn := oneT_n h
  cases l with
  | nil => cases h
  | cons c s =>
    rw [one_cons] at h
    split at h
    · unfold wordT at h
      split at h
      · cases h
      · injection h with h1 h2 h3 h4
        subst h3
        rw [← h2, List.length_take]
        exact ⟨Nat.min_le_right _ _, by decide, by decide⟩
    · split at h
      · rename_i hd
        obtain ⟨_, rfl, h1, h2, _⟩ := int_again (by rw [spn_yes _ hd]; omega) h
        exact ⟨Nat.zero_le _, h1, h2⟩
      · split at h
        · obtain ⟨_, rfl, _, h4⟩ := litG_len h
          rw [List.length_nil] at h4
          exact ⟨by omega, by decide, by decide⟩
        · have hs := sign_again h
          cases s with
          | nil =>
            change (if sgnT c = true then TR.ok 5 [c] 0 1 else .err 3) = _ at h
            split at h
            · injection h with h1 h2 h3 h4
              subst h2 h3
              exact ⟨Nat.le_refl _, by decide, by decide⟩
            · cases h
          | cons b s =>
            change (if befT c = true ∧ b = 61 then TR.ok 5 [c, b] 0 2 else if sgnT c = true then .ok 5 [c] 0 1 else .err 3) = _ at h
            split at h
            · injection h with h1 h2 h3 h4
              subst h2 h3
              exact ⟨by simp, by decide, by decide⟩
            · split at h
              · injection h with h1 h2 h3 h4
                subst h2 h3
                exact ⟨by simp, by decide, by decide⟩
              · cases h
end Go.Proofs.YtemdcgeopaphaaaDoor
