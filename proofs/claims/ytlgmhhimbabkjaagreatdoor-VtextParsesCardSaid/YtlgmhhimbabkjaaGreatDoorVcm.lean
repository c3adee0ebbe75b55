/-
  The order of values as a plain function, and that it is a total order on well-formed values.
-/
import Derived.Test.YtlgmhhimbabkjaaGreatDoorTree
namespace Go.Proofs.YtlgmhhimbabkjaaGreatDoor

def thn (c d : Int) : Int := if c = 0 then d else c
def cmpI (a b : Int) : Int := if a < b then -1 else if b < a then 1 else 0
def cmpS (a b : ByteArray) : Int := if less a b = true then -1 else if less b a = true then 1 else 0
mutual
def VT.cmp : VT → VT → Int
  | .mk k i t its ks, y => thn (cmpI k y.k) (thn (cmpI i y.i) (thn (cmpS t y.t) (cmps (decide (k = 5)) its ks y.its y.ks)))
def cmps (m : Bool) : List VT → List ByteArray → List VT → List ByteArray → Int
  | [], _, ys, _ => if ys.length = 0 then 0 else -1
  | x :: xs, ks, ys, ls => match ys with
    | [] => 1
    | y :: ys' => thn (if m then cmpS (ks.headD ByteArray.empty) (ls.headD ByteArray.empty) else 0) (thn (x.cmp y) (cmps m xs ks.tail ys' ls.tail))
end
theorem VT.cmp_mk (k i : Int) (t : ByteArray) (its : List VT) (ks : List ByteArray) (y : VT) :
    (VT.mk k i t its ks).cmp y = thn (cmpI k y.k) (thn (cmpI i y.i) (thn (cmpS t y.t) (cmps (decide (k = 5)) its ks y.its y.ks))) := by rw [VT.cmp]
theorem cmps_nil (m : Bool) (ks : List ByteArray) (ys : List VT) (ls : List ByteArray) : cmps m [] ks ys ls = if ys.length = 0 then 0 else -1 := by rw [cmps]
theorem cmps_out (m : Bool) (x : VT) (xs : List VT) (ks : List ByteArray) (ls : List ByteArray) : cmps m (x :: xs) ks [] ls = 1 := by rw [cmps]
theorem cmps_cons (m : Bool) (x : VT) (xs : List VT) (ks : List ByteArray) (y : VT) (ys : List VT) (ls : List ByteArray) :
    cmps m (x :: xs) ks (y :: ys) ls = thn (if m then cmpS (ks.headD ByteArray.empty) (ls.headD ByteArray.empty) else 0) (thn (x.cmp y) (cmps m xs ks.tail ys ls.tail)) := by rw [cmps]

theorem thn_zero {c d : Int} : thn c d = 0 ↔ c = 0 ∧ d = 0 := by
  unfold thn
  split
  · rename_i h; simp [h]
  · rename_i h; simp [h]
theorem thn_neg (c d : Int) : thn (-c) (-d) = -thn c d := by
  unfold thn
  by_cases h : c = 0
  · rw [if_pos h, if_pos (by omega)]
  · rw [if_neg h, if_neg (by omega)]
theorem thn_le {c d : Int} : thn c d ≤ 0 ↔ c < 0 ∨ (c = 0 ∧ d ≤ 0) := by
  unfold thn
  split
  · rename_i h; omega
  · rename_i h; omega
theorem cmpI_neg (a b : Int) : cmpI a b = -cmpI b a := by unfold cmpI; repeat' split <;> omega
theorem cmpI_zero {a b : Int} : cmpI a b = 0 ↔ a = b := by unfold cmpI; repeat' split <;> omega
theorem cmpI_trans {a b c : Int} (h : cmpI a b ≤ 0) (k : cmpI b c ≤ 0) : cmpI a c ≤ 0 := by unfold cmpI at *; repeat' split <;> repeat' split at h <;> repeat' split at k <;> omega
theorem cmpS_ways (a b : ByteArray) : (less a b = true ∧ less b a = false ∧ a ≠ b ∧ cmpS a b = -1) ∨ (a = b ∧ cmpS a b = 0) ∨ (less b a = true ∧ less a b = false ∧ a ≠ b ∧ cmpS a b = 1) := by
  unfold cmpS less
  rcases str_ways a b with ⟨s1, _, _, s4, s5⟩ | ⟨he, s1, _, _, s4⟩ | ⟨s1, _, _, s4, s5⟩
  · exact Or.inl ⟨s1, s4, s5, by rw [if_pos s1]⟩
  · exact Or.inr (Or.inl ⟨he, by rw [if_neg (by rw [s1]; decide), if_neg (by rw [s4]; decide)]⟩)
  · exact Or.inr (Or.inr ⟨s4, s1, s5, by rw [if_neg (by rw [s1]; decide), if_pos s4]⟩)
theorem cmpS_self (a : ByteArray) : cmpS a a = 0 := by
  rcases cmpS_ways a a with ⟨_, _, h, _⟩ | ⟨_, h⟩ | ⟨_, _, h, _⟩
  · exact absurd rfl h
  · exact h
  · exact absurd rfl h
theorem cmpS_zero {a b : ByteArray} : cmpS a b = 0 ↔ a = b := by
  constructor
  · intro h
    rcases cmpS_ways a b with ⟨_, _, _, e⟩ | ⟨e, _⟩ | ⟨_, _, _, e⟩
    · rw [h] at e; exact absurd e (by decide)
    · exact e
    · rw [h] at e; exact absurd e (by decide)
  · rintro rfl; exact cmpS_self a
theorem cmpS_neg (a b : ByteArray) : cmpS a b = -cmpS b a := by
  rcases cmpS_ways a b with ⟨h1, h2, _, e⟩ | ⟨rfl, e⟩ | ⟨h1, h2, _, e⟩
  · rw [e]; unfold cmpS; rw [h1, h2]; decide
  · rw [cmpS_self]; rfl
  · rw [e]; unfold cmpS; rw [h1]; simp
theorem cmpS_trans {a b c : ByteArray} (h : cmpS a b ≤ 0) (k : cmpS b c ≤ 0) : cmpS a c ≤ 0 := by
  rcases cmpS_ways a b with ⟨h1, _, _, _⟩ | ⟨rfl, _⟩ | ⟨_, _, _, e⟩
  · rcases cmpS_ways b c with ⟨k1, _, _, _⟩ | ⟨rfl, _⟩ | ⟨_, _, _, e⟩
    · have : less a c = true := bl_trans _ _ _ h1 k1
      unfold cmpS
      rw [if_pos this]
      decide
    · exact h
    · rw [e] at k; exact absurd k (by decide)
  · exact k
  · rw [e] at h; exact absurd h (by decide)

/-- one step of a comparison pair by pair that is a total order -/
theorem thn_trans {c1 c2 c3 d1 d2 d3 : Int} (hc : c1 ≤ 0 → c2 ≤ 0 → c3 ≤ 0) (hz : c1 = 0 → c3 = c2) (hz' : c2 = 0 → c3 = c1) (hs : c1 < 0 → c2 < 0 → c3 ≠ 0) (hd : c1 = 0 → c2 = 0 → d1 ≤ 0 → d2 ≤ 0 → d3 ≤ 0)
    (h : thn c1 d1 ≤ 0) (k : thn c2 d2 ≤ 0) : thn c3 d3 ≤ 0 := by
  rw [thn_le] at *
  rcases h with h | ⟨h, h'⟩ <;> rcases k with k | ⟨k, k'⟩
  · left; have := hc (by omega) (by omega); have := hs h k; omega
  · left; have := hz' k; omega
  · left; have := hz h; omega
  · right; exact ⟨by have := hz h; omega, hd h k h' k'⟩

mutual
theorem VT.cmp_neg : ∀ x y : VT, x.cmp y = -(y.cmp x)
  | .mk k i t its ks, .mk k' i' t' jts ls => by
    rw [VT.cmp_mk, VT.cmp_mk]
    simp only [VT.k, VT.i, VT.t, VT.its, VT.ks]
    by_cases h : k = k'
    · subst h
      rw [cmpI_neg i i', cmpS_neg t t', cmps_neg (decide (k = 5)) its ks jts ls, show cmpI k k = 0 from cmpI_zero.2 rfl, ← thn_neg, ← thn_neg, ← thn_neg]
      rfl
    · have h1 : cmpI k k' ≠ 0 := fun e => h (cmpI_zero.1 e)
      have h2 : cmpI k' k ≠ 0 := fun e => h (cmpI_zero.1 e).symm
      unfold thn
      rw [if_neg h1, if_neg h2, cmpI_neg]
theorem cmps_neg (m : Bool) : ∀ (xs : List VT) (ks : List ByteArray) (ys : List VT) (ls : List ByteArray), cmps m xs ks ys ls = -(cmps m ys ls xs ks)
  | [], ks, [], ls => by rw [cmps_nil, cmps_nil]; rfl
  | [], ks, y :: ys, ls => by rw [cmps_nil, cmps_out]; simp
  | x :: xs, ks, [], ls => by rw [cmps_nil, cmps_out]; simp
  | x :: xs, ks, y :: ys, ls => by
    rw [cmps_cons, cmps_cons, VT.cmp_neg x y, cmps_neg m xs ks.tail ys ls.tail, ← thn_neg, ← thn_neg]
    cases m with
    | true => simp only [if_true]; rw [cmpS_neg]
    | false => rfl
end

mutual
theorem VT.cmp_self : ∀ x : VT, x.cmp x = 0
  | .mk k i t its ks => by
    rw [VT.cmp_mk]
    simp only [VT.k, VT.i, VT.t, VT.its, VT.ks]
    rw [cmpI_zero.2 rfl, cmpI_zero.2 rfl, cmpS_self, cmps_self]
    rfl
theorem cmps_self (m : Bool) : ∀ (xs : List VT) (ks : List ByteArray), cmps m xs ks xs ks = 0
  | [], ks => by rw [cmps_nil]; rfl
  | x :: xs, ks => by
    rw [cmps_cons, cmpS_self, VT.cmp_self x, cmps_self m xs]
    cases m <;> rfl
end

/-- what well formed says of the keys -/
theorem wf_keys {k i : Int} {t : ByteArray} {its : List VT} {ks : List ByteArray} (h : okF (.mk k i t its ks) = true) : (k = 5 → ks.length = its.length) ∧ (k ≠ 5 → ks = []) := by
  constructor
  · rintro rfl
    rw [okF_5] at h
    simp at h
    exact h.2.2.1
  · intro hk
    apply List.eq_nil_of_length_eq_zero
    by_cases hk' : 0 ≤ k ∧ k ≤ 6
    · obtain rfl | rfl | rfl | rfl | rfl | rfl | rfl : k = 0 ∨ k = 1 ∨ k = 2 ∨ k = 3 ∨ k = 4 ∨ k = 5 ∨ k = 6 := by omega
      · rw [okF_0] at h; simp only [Bool.and_eq_true, decide_eq_true_eq] at h; exact h.2.2.2
      · rw [okF_1] at h; simp only [Bool.and_eq_true, decide_eq_true_eq] at h; exact h.2.2.2
      · rw [okF_2] at h; simp only [Bool.and_eq_true, decide_eq_true_eq] at h; exact h.2.2
      · rw [okF_3] at h; simp only [Bool.and_eq_true, decide_eq_true_eq] at h; exact h.2.2
      · rw [okF_4] at h; simp only [Bool.and_eq_true, decide_eq_true_eq] at h; exact h.2.2
      · exact absurd rfl hk
      · rw [okF_6] at h; simp only [Bool.and_eq_true, decide_eq_true_eq] at h; exact h.2.2.2
    · unfold okF VT.k at h
      simp only [show ¬ k = 0 from by omega, show ¬ k = 1 from by omega, show ¬ k = 2 from by omega, show ¬ k = 3 from by omega, show ¬ k = 4 from by omega, show ¬ k = 5 from by omega, show ¬ k = 6 from by omega, if_false] at h
      cases h

mutual
theorem VT.cmp_eq : ∀ x y : VT, x.all okF = true → y.all okF = true → x.cmp y = 0 → x = y
  | .mk k i t its ks, .mk k' i' t' jts ls, hx, hy, h => by
    rw [VT.cmp_mk] at h
    simp only [VT.k, VT.i, VT.t, VT.its, VT.ks] at h
    rw [thn_zero, thn_zero, thn_zero] at h
    obtain ⟨h1, h2, h3, h4⟩ := h
    obtain rfl := cmpI_zero.1 h1
    obtain rfl := cmpI_zero.1 h2
    obtain rfl := cmpS_zero.1 h3
    rw [VT.all_mk, Bool.and_eq_true] at hx hy
    have kx := wf_keys hx.1
    have ky := wf_keys hy.1
    by_cases hk : k = 5
    · rw [decide_eq_true hk] at h4
      obtain ⟨e1, e2⟩ := cmps_eq true its ks jts ls hx.2 hy.2 (fun _ => ⟨kx.1 hk, ky.1 hk⟩) h4
      rw [e1, e2 rfl]
    · rw [decide_eq_false hk] at h4
      obtain ⟨e1, _⟩ := cmps_eq false its ks jts ls hx.2 hy.2 (fun e => by cases e) h4
      rw [e1, kx.2 hk, ky.2 hk]
theorem cmps_eq (m : Bool) : ∀ (xs : List VT) (ks : List ByteArray) (ys : List VT) (ls : List ByteArray), alls okF xs = true → alls okF ys = true → (m = true → ks.length = xs.length ∧ ls.length = ys.length) → cmps m xs ks ys ls = 0 → xs = ys ∧ (m = true → ks = ls)
  | [], ks, [], ls, _, _, hm, _ => ⟨rfl, fun e => by
      obtain ⟨h1, h2⟩ := hm e
      rw [List.eq_nil_of_length_eq_zero h1, List.eq_nil_of_length_eq_zero h2]⟩
  | [], ks, y :: ys, ls, _, _, _, h => by rw [cmps_nil] at h; simp at h
  | x :: xs, ks, [], ls, _, _, _, h => by rw [cmps_out] at h; exact absurd h (by decide)
  | x :: xs, ks, y :: ys, ls, hx, hy, hm, h => by
    rw [cmps_cons, thn_zero, thn_zero] at h
    obtain ⟨h1, h2, h3⟩ := h
    simp only [alls, Bool.and_eq_true] at hx hy
    obtain rfl := VT.cmp_eq x y hx.1 hy.1 h2
    have hl : m = true → ks.tail.length = xs.length ∧ ls.tail.length = ys.length := fun e => by
      obtain ⟨a, b⟩ := hm e
      simp at a b ⊢
      omega
    obtain ⟨rfl, e2⟩ := cmps_eq m xs ks.tail ys ls.tail hx.2 hy.2 hl h3
    refine ⟨rfl, fun e => ?_⟩
    have e3 := e2 e
    obtain ⟨a, b⟩ := hm e
    rw [e, if_pos rfl] at h1
    have e4 := cmpS_zero.1 h1
    cases ks with
    | nil => simp at a
    | cons k ks => cases ls with
      | nil => simp at b
      | cons l ls => simp at e3 e4; rw [e3, e4]
end

mutual
theorem VT.cmp_trans : ∀ x y z : VT, x.all okF = true → y.all okF = true → z.all okF = true → x.cmp y ≤ 0 → y.cmp z ≤ 0 → x.cmp z ≤ 0
  | .mk k i t its ks, .mk k1 i1 t1 its1 ks1, .mk k2 i2 t2 its2 ks2, hx, hy, hz, h, h' => by
    rw [VT.cmp_mk] at *
    simp only [VT.k, VT.i, VT.t, VT.its, VT.ks] at *
    rw [VT.all_mk, Bool.and_eq_true] at hx hy hz
    refine thn_trans (fun a b => cmpI_trans a b) (fun a => by rw [cmpI_zero.1 a]) (fun b => by rw [cmpI_zero.1 b]) (fun a b e => ?_) (fun a b => ?_) h h'
    · rw [cmpI_zero.1 e, cmpI_neg] at a; omega
    have ek := cmpI_zero.1 a
    refine thn_trans (fun a b => cmpI_trans a b) (fun a => by rw [cmpI_zero.1 a]) (fun b => by rw [cmpI_zero.1 b]) (fun a b e => ?_) (fun a b => ?_)
    · rw [cmpI_zero.1 e, cmpI_neg] at a; omega
    refine thn_trans (fun a b => cmpS_trans a b) (fun a => by rw [cmpS_zero.1 a]) (fun b => by rw [cmpS_zero.1 b]) (fun a b e => ?_) (fun a b => ?_)
    · rw [cmpS_zero.1 e, cmpS_neg] at a; omega
    rw [← ek]
    exact cmps_trans _ its ks its1 ks1 its2 ks2 hx.2 hy.2 hz.2
theorem cmps_trans (m : Bool) : ∀ (xs : List VT) (ks : List ByteArray) (ys : List VT) (ls : List ByteArray) (zs : List VT) (ms : List ByteArray), alls okF xs = true → alls okF ys = true → alls okF zs = true →
    cmps m xs ks ys ls ≤ 0 → cmps m ys ls zs ms ≤ 0 → cmps m xs ks zs ms ≤ 0
  | [], ks, ys, ls, zs, ms, _, _, _, _, _ => by rw [cmps_nil]; split <;> decide
  | x :: xs, ks, [], ls, zs, ms, _, _, _, h, _ => by rw [cmps_out] at h; exact absurd h (by decide)
  | x :: xs, ks, y :: ys, ls, [], ms, _, _, _, _, h => by rw [cmps_out] at h; exact absurd h (by decide)
  | x :: xs, ks, y :: ys, ls, z :: zs, ms, hx, hy, hz, h, h' => by
    rw [cmps_cons] at *
    simp only [alls, Bool.and_eq_true] at hx hy hz
    refine thn_trans (fun a b => ?_) (fun a => ?_) (fun b => ?_) (fun a b e => ?_) (fun _ _ => ?_) h h'
    · cases m with
      | true => exact cmpS_trans a b
      | false => exact Int.le_refl _
    · cases m with
      | true => simp only [if_true] at *; rw [cmpS_zero.1 a]
      | false => rfl
    · cases m with
      | true => simp only [if_true] at *; rw [cmpS_zero.1 b]
      | false => rfl
    · cases m with
      | true => simp only [if_true] at *; rw [cmpS_zero.1 e, cmpS_neg] at a; omega
      | false => simp at a
    refine thn_trans (fun a b => VT.cmp_trans x y z hx.1 hy.1 hz.1 a b) (fun a => ?_) (fun b => ?_) (fun a b e => ?_) (fun _ _ => cmps_trans m xs ks.tail ys ls.tail zs ms.tail hx.2 hy.2 hz.2)
    · rw [VT.cmp_eq x y hx.1 hy.1 a]
    · rw [VT.cmp_eq y z hy.1 hz.1 b]
    · rw [VT.cmp_eq x z hx.1 hz.1 e, VT.cmp_neg] at a; omega
end
end Go.Proofs.YtlgmhhimbabkjaaGreatDoor
