/-
  The encoding of layer 1 as plain functions on lists of bytes. No program is named here.
-/
namespace Go.Proofs.YtemdcgeopaphaaaDoor

/-- the unsigned number of an integer -/
def zig (n : Int) : Nat := if 0 ≤ n then (2 * n).toNat else (-2 * n - 1).toNat
/-- the integer of an unsigned number -/
def unz (u : Nat) : Int := if u % 2 = 1 then -((u / 2 : Nat) : Int) - 1 else ((u / 2 : Nat) : Int)
theorem zig_pos {n : Int} (h : 0 ≤ n) : zig n = (2 * n).toNat := by unfold zig; rw [if_pos h]
theorem zig_neg {n : Int} (h : n < 0) : zig n = (-2 * n - 1).toNat := by unfold zig; rw [if_neg (by omega)]
theorem unz_zig (n : Int) : unz (zig n) = n := by
  unfold unz zig
  split <;> split <;> omega
theorem zig_unz (u : Nat) : zig (unz u) = u := by
  unfold unz zig
  split <;> split <;> omega
theorem zig_lt {n : Int} (h1 : -9223372036854775808 ≤ n) (h2 : n ≤ 9223372036854775807) : zig n < 18446744073709551616 := by
  unfold zig
  split <;> omega
theorem unz_in {u : Nat} (h : u < 18446744073709551616) : -9223372036854775808 ≤ unz u ∧ unz u ≤ 9223372036854775807 := by
  unfold unz
  split <;> omega

/-- groups of seven bits, the lowest first -/
def grp : Nat → Nat → List UInt8
  | 0, _ => []
  | f + 1, u => if u < 128 then [UInt8.ofNat u] else UInt8.ofNat (u % 128 + 128) :: grp f (u / 128)
theorem grp_last {f u : Nat} (h : u < 128) : grp (f + 1) u = [UInt8.ofNat u] := by rw [grp, if_pos h]
theorem grp_more {f u : Nat} (h : 128 ≤ u) : grp (f + 1) u = UInt8.ofNat (u % 128 + 128) :: grp f (u / 128) := by rw [grp, if_neg (by omega)]
theorem grp_len (f u : Nat) : (grp f u).length ≤ f := by
  induction f generalizing u with
  | zero => simp [grp]
  | succ f ih =>
    rw [grp]
    split
    · simp
    · have := ih (u / 128); simp; omega
theorem grp_pos (f u : Nat) : grp (f + 1) u ≠ [] := by
  rw [grp]
  split <;> simp

/-- the encoding of an integer -/
def enc (n : Int) : List UInt8 := grp 10 (zig n)
theorem enc_len (n : Int) : (enc n).length ≤ 10 := grp_len _ _

/-- how many bytes the integer at the front takes, and the error; i bytes have been looked at -/
def szAt : Nat → List UInt8 → Nat × Int
  | i, [] => if 10 ≤ i then (0, 3) else (0, 4)
  | i, c :: r => if 10 ≤ i then (0, 3) else if 128 ≤ c.toNat then szAt (i + 1) r else if (0 < i ∧ c.toNat = 0) ∨ (i = 9 ∧ 1 < c.toNat) then (0, 3) else (i + 1, 0)
/-- the number whose groups these are -/
def val : List UInt8 → Nat
  | [] => 0
  | c :: r => c.toNat % 128 + 128 * val r

theorem szAt_end {i : Nat} {l : List UInt8} (h : 10 ≤ i) : szAt i l = (0, 3) := by
  cases l with
  | nil => rw [szAt, if_pos h]
  | cons c r => rw [szAt, if_pos h]
theorem szAt_nil {i : Nat} (h : i < 10) : szAt i [] = (0, 4) := by rw [szAt, if_neg (by omega)]
theorem szAt_on {i : Nat} {c : UInt8} {r : List UInt8} (h : i < 10) (hc : 128 ≤ c.toNat) : szAt i (c :: r) = szAt (i + 1) r := by rw [szAt, if_neg (by omega), if_pos hc]
theorem szAt_bad {i : Nat} {c : UInt8} {r : List UInt8} (h : i < 10) (hc : c.toNat < 128) (hb : (0 < i ∧ c.toNat = 0) ∨ (i = 9 ∧ 1 < c.toNat)) : szAt i (c :: r) = (0, 3) := by
  rw [szAt, if_neg (by omega), if_neg (by omega), if_pos hb]
theorem szAt_ok {i : Nat} {c : UInt8} {r : List UInt8} (h : i < 10) (hc : c.toNat < 128) (hb : ¬((0 < i ∧ c.toNat = 0) ∨ (i = 9 ∧ 1 < c.toNat))) : szAt i (c :: r) = (i + 1, 0) := by
  rw [szAt, if_neg (by omega), if_neg (by omega), if_neg hb]

/-- what szAt says, in one piece: the error is one of three; without an error the size is above i, within the list and at most ten -/
theorem szAt_facts (i : Nat) (l : List UInt8) : ((szAt i l).2 = 0 ∧ i < (szAt i l).1 ∧ (szAt i l).1 ≤ i + l.length ∧ (szAt i l).1 ≤ 10) ∨ ((szAt i l).1 = 0 ∧ ((szAt i l).2 = 3 ∨ (szAt i l).2 = 4)) := by
  induction l generalizing i with
  | nil =>
    by_cases h : 10 ≤ i
    · rw [szAt_end h]; simp
    · rw [szAt_nil (by omega)]; simp
  | cons c r ih =>
    by_cases h : 10 ≤ i
    · rw [szAt_end h]; simp
    by_cases hc : 128 ≤ c.toNat
    · rw [szAt_on (by omega) hc]
      rcases ih (i + 1) with ⟨h1, h2, h3, h4⟩ | h1
      · left
        refine ⟨h1, by omega, by simp; omega, h4⟩
      · right; exact h1
    · by_cases hb : (0 < i ∧ c.toNat = 0) ∨ (i = 9 ∧ 1 < c.toNat)
      · rw [szAt_bad (by omega) (by omega) hb]; simp
      · rw [szAt_ok (by omega) (by omega) hb]; left; refine ⟨rfl, by simp, by simp only [List.length_cons]; omega, by omega⟩

theorem u8_nat (n : Nat) (h : n < 256) : (UInt8.ofNat n).toNat = n := by simp; omega
theorem u8_eq {a b : UInt8} (h : a.toNat = b.toNat) : a = b := UInt8.toNat_inj.1 h

/-- what the groups encode is read back, whatever follows; the first group is at place i -/
theorem szAt_grp (f : Nat) : ∀ (i u : Nat) (r : List UInt8), i + f = 10 → u * 128 ^ i < 18446744073709551616 → (0 < i → 0 < u) →
    szAt i (grp f u ++ r) = (i + (grp f u).length, 0) ∧ val (grp f u) = u := by
  induction f with
  | zero =>
    intro i u r hi hu h0
    obtain rfl : i = 10 := by omega
    have : 0 < u := h0 (by omega)
    exfalso
    have h1 : 1 * 128 ^ 10 ≤ u * 128 ^ 10 := Nat.mul_le_mul_right _ this
    omega
  | succ f ih =>
    intro i u r hi hu h0
    by_cases hs : u < 128
    · rw [grp_last hs]
      have hn := u8_nat u (by omega)
      have hb : ¬((0 < i ∧ (UInt8.ofNat u).toNat = 0) ∨ (i = 9 ∧ 1 < (UInt8.ofNat u).toNat)) := by
        rw [hn]
        rintro (⟨h1, h2⟩ | ⟨h1, h2⟩)
        · have := h0 h1; omega
        · subst h1
          have h1 : 2 * 128 ^ 9 ≤ u * 128 ^ 9 := Nat.mul_le_mul_right _ (by omega)
          omega
      refine ⟨?_, by simp only [val]; rw [hn]; omega⟩
      rw [List.singleton_append, szAt_ok (by omega) (by rw [hn]; omega) hb]
      simp
    · have h1 : 128 ≤ u := by omega
      rw [grp_more h1]
      have hn := u8_nat (u % 128 + 128) (by omega)
      have hlt : i < 9 := by
        rcases Nat.lt_or_ge i 9 with h | h
        · exact h
        · exfalso
          obtain rfl : i = 9 := by omega
          have h2 : 128 * 128 ^ 9 ≤ u * 128 ^ 9 := Nat.mul_le_mul_right _ h1
          omega
      have hq : u / 128 * 128 ^ (i + 1) < 18446744073709551616 := by
        refine Nat.lt_of_le_of_lt ?_ hu
        rw [Nat.pow_succ, Nat.mul_comm (128 ^ i) 128, ← Nat.mul_assoc]
        exact Nat.mul_le_mul_right _ (Nat.div_mul_le_self _ _)
      obtain ⟨ha, hv⟩ := ih (i + 1) (u / 128) r (by omega) hq (fun _ => by omega)
      refine ⟨?_, by simp only [val]; rw [hn, hv]; omega⟩
      rw [List.cons_append, szAt_on (by omega) (by rw [hn]; omega), ha]
      simp; omega

/-- bytes that are read without an error are the groups of what they encode -/
theorem grp_szAt (l : List UInt8) : ∀ (i : Nat), i ≤ 10 → (szAt i l).2 = 0 →
    grp (10 - i) (val (l.take ((szAt i l).1 - i))) = l.take ((szAt i l).1 - i) ∧ val (l.take ((szAt i l).1 - i)) * 128 ^ i < 18446744073709551616 ∧ (0 < i → 0 < val (l.take ((szAt i l).1 - i))) := by
  induction l with
  | nil =>
    intro i hi h
    by_cases h10 : 10 ≤ i
    · rw [szAt_end h10] at h; simp at h
    · rw [szAt_nil (by omega)] at h; simp at h
  | cons c r ih =>
    intro i hi h
    by_cases h10 : 10 ≤ i
    · rw [szAt_end h10] at h; simp at h
    obtain ⟨f, hf⟩ : ∃ f, 10 - i = f + 1 := ⟨9 - i, by omega⟩
    by_cases hc : 128 ≤ c.toNat
    · rw [szAt_on (by omega) hc] at h ⊢
      obtain ⟨h1, h2, h3⟩ := ih (i + 1) (by omega) h
      have hf' : 10 - (i + 1) = f := by omega
      rw [hf'] at h1
      rcases szAt_facts (i + 1) r with ⟨_, h4, _⟩ | ⟨_, h4⟩
      · obtain ⟨k, hk⟩ : ∃ k, (szAt (i + 1) r).1 - i = k + 1 := ⟨(szAt (i + 1) r).1 - i - 1, by omega⟩
        have hk' : (szAt (i + 1) r).1 - (i + 1) = k := by omega
        rw [hk'] at h1 h2 h3
        rw [hk, hf, List.take_succ_cons]
        have hlt := c.toNat_lt
        have hv : val (c :: r.take k) = c.toNat % 128 + 128 * val (r.take k) := rfl
        have hp := h3 (by omega)
        refine ⟨?_, ?_, fun _ => by rw [hv]; omega⟩
        · rw [grp_more (by rw [hv]; omega), hv]
          have e1 : (c.toNat % 128 + 128 * val (r.take k)) / 128 = val (r.take k) := by omega
          have e2 : UInt8.ofNat ((c.toNat % 128 + 128 * val (r.take k)) % 128 + 128) = c := u8_eq (by rw [u8_nat _ (by omega)]; omega)
          rw [e1, e2, h1]
        · rw [hv]
          have h5 : (val (r.take k) + 1) * 128 ^ (i + 1) ≤ 18446744073709551616 := by
            have hi9 : i ≤ 8 ∨ i = 9 := by omega
            have e : (18446744073709551616 : Nat) = 2 ^ 64 := by decide
            have e2 : 128 ^ (i + 1) = 2 ^ (7 * (i + 1)) := by rw [show (128 : Nat) = 2 ^ 7 from rfl, ← Nat.pow_mul]
            rw [e, e2] at h2 ⊢
            rcases hi9 with h9 | h9
            · have e3 : (2 : Nat) ^ 64 = 2 ^ (64 - 7 * (i + 1)) * 2 ^ (7 * (i + 1)) := by rw [← Nat.pow_add]; congr 1; omega
              rw [e3] at h2 ⊢
              exact Nat.mul_le_mul_right _ (Nat.lt_of_mul_lt_mul_right h2)
            · subst h9
              omega
          have h6 : (c.toNat % 128 + 128 * val (r.take k)) * 128 ^ i < (val (r.take k) + 1) * 128 ^ (i + 1) := by
            rw [Nat.pow_succ, Nat.mul_comm (128 ^ i) 128, ← Nat.mul_assoc]
            exact Nat.mul_lt_mul_of_pos_right (by omega) (Nat.pow_pos (by decide))
          omega
      · omega
    · by_cases hb : (0 < i ∧ c.toNat = 0) ∨ (i = 9 ∧ 1 < c.toNat)
      · rw [szAt_bad (by omega) (by omega) hb] at h; simp at h
      · rw [szAt_ok (by omega) (by omega) hb]
        have e : i + 1 - i = 1 := by omega
        simp only [e, List.take_succ_cons, List.take_zero, hf]
        have hv : val [c] = c.toNat := by simp only [val]; omega
        rw [hv, grp_last (by omega)]
        refine ⟨by rw [UInt8.ofNat_toNat], ?_, fun h0 => by
          rcases Nat.eq_zero_or_pos c.toNat with hz | hz
          · exact absurd (Or.inl ⟨h0, hz⟩) hb
          · exact hz⟩
        rcases Nat.lt_or_ge i 9 with h9 | h9
        · have h1 : c.toNat * 128 ^ i ≤ 127 * 128 ^ 8 := Nat.mul_le_mul (by omega) (Nat.pow_le_pow_right (by decide) (by omega))
          omega
        · obtain rfl : i = 9 := by omega
          have : c.toNat ≤ 1 := by
            rcases Nat.lt_or_ge 1 c.toNat with hz | hz
            · exact absurd (Or.inr ⟨rfl, hz⟩) hb
            · exact hz
          have h1 : c.toNat * 128 ^ 9 ≤ 1 * 128 ^ 9 := Nat.mul_le_mul_right _ this
          omega

/-- the integer at the front: its size and its value are those of its encoding -/
theorem sz_enc {n : Int} (h1 : -9223372036854775808 ≤ n) (h2 : n ≤ 9223372036854775807) (r : List UInt8) : szAt 0 (enc n ++ r) = ((enc n).length, 0) ∧ val (enc n) = zig n := by
  have h := szAt_grp 10 0 (zig n) r (by decide) (by have := zig_lt h1 h2; simpa using this) (fun h => absurd h (by decide))
  unfold enc
  simpa using h
theorem enc_sz {l : List UInt8} (h : (szAt 0 l).2 = 0) : enc (unz (val (l.take (szAt 0 l).1))) = l.take (szAt 0 l).1 ∧ val (l.take (szAt 0 l).1) < 18446744073709551616 := by
  have := grp_szAt l 0 (by decide) h
  unfold enc
  rw [zig_unz]
  have h1 := this.1
  have h2 := this.2.1
  simp only [Nat.sub_zero, Nat.pow_zero, Nat.mul_one] at h1 h2
  exact ⟨h1, h2⟩

/-- what a reader does: the result, what is left, the error -/
def intR (l : List UInt8) (low high : Int) : Int × List UInt8 × Int :=
  if (szAt 0 l).2 ≠ 0 then (0, [], (szAt 0 l).2)
  else if unz (val (l.take (szAt 0 l).1)) < low ∨ high < unz (val (l.take (szAt 0 l).1)) then (0, [], 14)
  else (unz (val (l.take (szAt 0 l).1)), l.drop (szAt 0 l).1, 0)
def textR (l : List UInt8) (most : Int) : List UInt8 × List UInt8 × Int :=
  if (intR l 0 most).2.2 ≠ 0 then ([], [], (intR l 0 most).2.2)
  else if ((intR l 0 most).2.1.length : Int) < (intR l 0 most).1 then ([], [], 4)
  else ((intR l 0 most).2.1.take (intR l 0 most).1.toNat, (intR l 0 most).2.1.drop (intR l 0 most).1.toNat, 0)
def boolR (l : List UInt8) : Bool × List UInt8 × Int :=
  match l with
  | [] => (false, [], 4)
  | c :: r => if 1 < c.toNat then (false, [], 3) else (c.toNat == 1, r, 0)

theorem intR_err {l : List UInt8} {low high : Int} (h : (szAt 0 l).2 ≠ 0) : intR l low high = (0, [], (szAt 0 l).2) := by unfold intR; rw [if_pos h]
theorem intR_range {l : List UInt8} {low high : Int} (h : (szAt 0 l).2 = 0) (h1 : unz (val (l.take (szAt 0 l).1)) < low ∨ high < unz (val (l.take (szAt 0 l).1))) : intR l low high = (0, [], 14) := by
  unfold intR; rw [if_neg (by simpa using h), if_pos h1]
theorem intR_ok {l : List UInt8} {low high : Int} (h : (szAt 0 l).2 = 0) (h1 : ¬(unz (val (l.take (szAt 0 l).1)) < low ∨ high < unz (val (l.take (szAt 0 l).1)))) :
    intR l low high = (unz (val (l.take (szAt 0 l).1)), l.drop (szAt 0 l).1, 0) := by
  unfold intR; rw [if_neg (by simpa using h), if_neg h1]
/-- the three ways at once -/
theorem intR_ways (l : List UInt8) (low high : Int) : (intR l low high = (0, [], 3) ∨ intR l low high = (0, [], 4) ∨ intR l low high = (0, [], 14)) ∨
    ∃ k, k ≤ l.length ∧ k ≤ 10 ∧ szAt 0 l = (k, 0) ∧ intR l low high = (unz (val (l.take k)), l.drop k, 0) ∧ low ≤ unz (val (l.take k)) ∧ unz (val (l.take k)) ≤ high ∧ enc (unz (val (l.take k))) = l.take k ∧ val (l.take k) < 18446744073709551616 := by
  rcases szAt_facts 0 l with ⟨h, _, h2, h3⟩ | ⟨_, h⟩
  · by_cases h1 : unz (val (l.take (szAt 0 l).1)) < low ∨ high < unz (val (l.take (szAt 0 l).1))
    · left; right; right; exact intR_range h h1
    · right
      have he := enc_sz h
      exact ⟨(szAt 0 l).1, by omega, h3, by rw [← h], intR_ok h h1, by omega, by omega, he.1, he.2⟩
  · left
    rcases h with h | h
    · left; rw [intR_err (by omega), h]
    · right; left; rw [intR_err (by omega), h]
/-- an encoding is read back -/
theorem intR_enc {n low high : Int} (h1 : -9223372036854775808 ≤ n) (h2 : n ≤ 9223372036854775807) (r : List UInt8) :
    intR (enc n ++ r) low high = if n < low ∨ high < n then (0, [], 14) else (n, r, 0) := by
  obtain ⟨hs, hv⟩ := sz_enc h1 h2 r
  have ht : (enc n ++ r).take (enc n).length = enc n := List.take_left
  have hd : (enc n ++ r).drop (enc n).length = r := List.drop_left
  have hu : unz (val ((enc n ++ r).take (szAt 0 (enc n ++ r)).1)) = n := by rw [hs, ht, hv, unz_zig]
  split
  · exact intR_range (by rw [hs]) (by rw [hu]; assumption)
  · rw [intR_ok (by rw [hs]) (by rw [hu]; assumption), hu, hs, hd]
end Go.Proofs.YtemdcgeopaphaaaDoor
