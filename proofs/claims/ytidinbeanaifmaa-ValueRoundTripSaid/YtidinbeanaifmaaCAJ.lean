/-
  Contracts of the code's and of the reference's functions, part AJ, and what they lean on.
-/
import Derived.Test.YtidinbeanaifmaaCAB
import Derived.Test.YtidinbeanaifmaaCAH
import Derived.Test.YtidinbeanaifmaaCAA
namespace Go.Proofs.Ytidinbeanaifmaa
open Go.RowKit

/-! ### integers and strings -/
/-- every integer of a value fits -/
def inF (x : VT) : Bool := decide (-9223372036854775808 ≤ x.i) && decide (x.i ≤ 9223372036854775807)
theorem intA_enc {a : Int} (h1 : -9223372036854775808 ≤ a) (h2 : a ≤ 9223372036854775807) (r : List UInt8) : intA (enc a ++ r) = (a, r, 0) := by
  unfold intA
  rw [intR_enc h1 h2, if_neg (by omega)]
theorem intA_out {l l1 : List UInt8} {a : Int} (h : intA l = (a, l1, 0)) : l = enc a ++ l1 ∧ -9223372036854775808 ≤ a ∧ a ≤ 9223372036854775807 := by
  unfold intA at h
  rcases intR_ways l (-9223372036854775808) 9223372036854775807 with (h1 | h1 | h1) | ⟨k, hk, _, _, h1, h2, h3, he, _⟩
  · rw [h1] at h; simp at h
  · rw [h1] at h; simp at h
  · rw [h1] at h; simp at h
  · rw [h1] at h
    injection h with ha hl
    injection hl with hl _
    subst ha hl
    rw [he, List.take_append_drop]
    exact ⟨rfl, h2, h3⟩
theorem textR_out {l : List UInt8} (h : (textR l 9223372036854775807).2.2 = 0) : l = encText (textR l 9223372036854775807).1 ++ (textR l 9223372036854775807).2.1 := by
  unfold textR at h ⊢
  split at h
  · rename_i h1; exact absurd h h1
  · split at h
    · cases h
    · rename_i h1 h2
      rw [if_neg h1, if_neg h2]
      rcases intR_ways l 0 9223372036854775807 with (h3 | h3 | h3) | ⟨k, hk, _, _, h3, h4, h5, he, _⟩
      · rw [h3] at h1; simp at h1
      · rw [h3] at h1; simp at h1
      · rw [h3] at h1; simp at h1
      · rw [h3] at h2 ⊢
        simp only at h2 ⊢
        generalize unz (val (l.take k)) = a at *
        obtain ⟨m, rfl⟩ : ∃ m : Nat, a = (m : Int) := ⟨a.toNat, by omega⟩
        unfold encText
        have hl : ((l.drop k).take m).length = m := by rw [List.length_take]; omega
        rw [Int.toNat_natCast, hl, he, List.append_assoc, List.take_append_drop, List.take_append_drop]
theorem ba_size (s : ByteArray) : s.data.toList.length = s.size := rfl
theorem decT_enc (s : ByteArray) (r : List UInt8) (n : Nat) (h : s.size ≤ 4096) : decT (encText s.data.toList ++ r) n = .ok s r n := by
  have h1 := textR_enc s.data.toList r 9223372036854775807 (by rw [ba_size]; omega) (by rw [ba_size]; omega)
  unfold decT
  rw [h1, if_neg (by simp), if_pos (by rw [ba_size]; exact h)]
theorem decT_out {l l1 : List UInt8} {n n1 : Nat} {s : ByteArray} (h : decT l n = .ok s l1 n1) : l = encText s.data.toList ++ l1 ∧ n1 = n ∧ s.size ≤ 4096 := by
  unfold decT at h
  split at h
  · cases h
  · rename_i h1
    split at h
    · rename_i h2
      injection h with h3 h4 h5
      subst h3 h4 h5
      have h6 := textR_out (l := l) (Decidable.not_not.1 h1)
      exact ⟨by simpa using h6, rfl, by simpa [ByteArray.size] using h2⟩
    · cases h

/-! ### keys -/
theorem rising_snoc {ks : List ByteArray} {key : ByteArray} (h : rising ks = true) (h2 : ks = [] ∨ less (ks.getLastD ByteArray.empty) key = true) : rising (ks ++ [key]) = true := by
  rcases List.eq_nil_or_concat ks with h0 | ⟨r, x, h0⟩
  · subst h0; rfl
  · rw [List.concat_eq_append] at h0
    subst h0
    have h3 : less x key = true := by
      rcases h2 with h2 | h2
      · simp at h2
      · simpa using h2
    unfold rising at h ⊢
    have e1 : (r ++ [x] ++ [key]).length - 1 = ((r ++ [x]).length - 1) + 1 := by simp
    rw [e1, risingTo_succ]
    have e2 : (r ++ [x]).length - 1 = r.length := by simp
    rw [e2] at h ⊢
    have e3 : (r ++ [x] ++ [key]).getD r.length ByteArray.empty = x := by simp [List.getD]
    have e4 : (r ++ [x] ++ [key]).getD (r.length + 1) ByteArray.empty = key := by simp [List.getD]
    rw [e3, e4, h3, Bool.and_true]
    unfold risingTo at h ⊢
    rw [List.all_eq_true] at h ⊢
    intro j hj
    have hj' := List.mem_range.1 hj
    have h5 := h j hj
    have e5 : (r ++ [x] ++ [key]).getD j ByteArray.empty = (r ++ [x]).getD j ByteArray.empty := by
      simp only [List.getD]
      rw [List.getElem?_append_left (by simp; omega)]
    have e6 : (r ++ [x] ++ [key]).getD (j + 1) ByteArray.empty = (r ++ [x]).getD (j + 1) ByteArray.empty := by
      simp only [List.getD]
      rw [List.getElem?_append_left (by simp; omega)]
    rw [e5, e6]
    exact h5
theorem rising_next {pks ks : List ByteArray} {key : ByteArray} (h : rising (pks ++ key :: ks) = true) : pks = [] ∨ less (pks.getLastD ByteArray.empty) key = true := by
  rcases List.eq_nil_or_concat pks with h0 | ⟨r, x, h0⟩
  · exact Or.inl h0
  · rw [List.concat_eq_append] at h0
    subst h0
    right
    unfold rising risingTo at h
    rw [List.all_eq_true] at h
    have h1 := h r.length (List.mem_range.2 (by simp))
    have e3 : (r ++ [x] ++ key :: ks).getD r.length ByteArray.empty = x := by simp [List.getD]
    have e4 : (r ++ [x] ++ key :: ks).getD (r.length + 1) ByteArray.empty = key := by
      simp only [List.getD]
      rw [List.getElem?_append_right (by simp)]
      simp
    rw [e3, e4] at h1
    simpa using h1

/-! ### what is encoded is read back -/
theorem decL_enc {dec : Nat → List UInt8 → DR VT} : ∀ (its : List VT) (n : Nat) (pre : List VT) (pks ks : List ByteArray) (r : List UInt8), (∀ x ∈ its, ∀ n r, n + x.size ≤ 1000 → dec n (x.enc ++ r) = .ok x r (n + x.size)) → n + sizes its ≤ 1000 →
    decL dec false its.length n (encs false its ks ++ r) pre pks = .ok (pre ++ its, pks) r (n + sizes its)
  | [], n, pre, pks, ks, r, _, _ => by simp [decL, encs, sizes]
  | x :: its, n, pre, pks, ks, r, h, hn => by
    rw [sizes] at hn
    have hx := h x List.mem_cons_self n (encs false its ks.tail ++ r) (by omega)
    rw [List.length_cons, decL, encs]
    simp only [Bool.false_eq_true, if_false, List.nil_append, decK]
    rw [List.append_assoc, hx]
    simp only
    rw [decL_enc its (n + x.size) (pre ++ [x]) pks ks.tail r (fun y hy => h y (List.mem_cons_of_mem _ hy)) (by omega)]
    simp [sizes, Nat.add_assoc]
theorem decL_encK {dec : Nat → List UInt8 → DR VT} : ∀ (its : List VT) (n : Nat) (pre : List VT) (pks ks : List ByteArray) (r : List UInt8), (∀ x ∈ its, ∀ n r, n + x.size ≤ 1000 → dec n (x.enc ++ r) = .ok x r (n + x.size)) → n + sizes its ≤ 1000 → ks.length = its.length → (∀ s ∈ ks, s.size ≤ 4096) → rising (pks ++ ks) = true →
    decL dec true its.length n (encs true its ks ++ r) pre pks = .ok (pre ++ its, pks ++ ks) r (n + sizes its)
  | [], n, pre, pks, ks, r, _, _, hk, _, _ => by
    obtain rfl : ks = [] := List.eq_nil_of_length_eq_zero (by simpa using hk)
    simp [decL, encs, sizes]
  | x :: its, n, pre, pks, [], r, _, _, hk, _, _ => by simp at hk
  | x :: its, n, pre, pks, key :: ks, r, h, hn, hk, hs, hr => by
    rw [sizes] at hn
    have hx := h x List.mem_cons_self n (encs true its ks ++ r) (by omega)
    have hkey := decT_enc key (x.enc ++ (encs true its ks ++ r)) n (hs key List.mem_cons_self)
    have hnx := rising_next hr
    rw [List.length_cons, decL, encs]
    simp only [if_true, List.headD_cons, List.tail_cons]
    rw [List.append_assoc, List.append_assoc]
    unfold decK
    rw [if_pos rfl, hkey]
    simp only [if_pos hnx]
    rw [hx]
    simp only
    rw [decL_encK its (n + x.size) (pre ++ [x]) (pks ++ [key]) ks r (fun y hy => h y (List.mem_cons_of_mem _ hy)) (by omega) (by simpa using hk) (fun s hs' => hs s (List.mem_cons_of_mem _ hs')) (by simpa using hr)]
    simp [sizes, Nat.add_assoc]
/-- all that a payload is, but its depth and its number of nodes -/
def goodF (x : VT) : Bool := okF x && (shortF x && (noFut x && inF x))
theorem alls_mem {p : VT → Bool} {l : List VT} {x : VT} (h : alls p l = true) (hx : x ∈ l) : x.all p = true := by
  obtain ⟨j, hj, rfl⟩ := List.getElem_of_mem hx
  exact all_at h (List.getElem?_eq_getElem hj)
theorem depths_mem {l : List VT} {x : VT} (hx : x ∈ l) : x.depth ≤ depths l := by
  obtain ⟨j, hj, rfl⟩ := List.getElem_of_mem hx
  exact depth_at (List.getElem?_eq_getElem hj)
theorem len_sizes (l : List VT) : l.length ≤ sizes l := by
  have := sizes_room l 0
  simp [sizes] at this
  exact this
theorem ba_nil {t : ByteArray} (h : t.size = 0) : t = ⟨#[]⟩ := by
  cases t with
  | mk d => cases d with | mk l => simp [ByteArray.size] at h; subst h; rfl

theorem decV_enc : ∀ (f : Nat) (x : VT) (n : Nat) (r : List UInt8), x.all goodF = true → x.depth ≤ f → n + x.size ≤ 1000 → decV f n (x.enc ++ r) = .ok x r (n + x.size)
  | 0, x, _, _, _, hd, _ => by have := depth_pos x; omega
  | f + 1, .mk k i t its ks, n, r, hg, hd, hn => by
    rw [VT.all_mk, Bool.and_eq_true] at hg
    obtain ⟨hg, hgs⟩ := hg
    rw [VT.depth_mk] at hd
    rw [VT.size_mk] at hn ⊢
    unfold goodF at hg
    simp only [Bool.and_eq_true] at hg
    obtain ⟨h1, h2, h3, h4⟩ := hg
    have ih : ∀ x ∈ its, ∀ n r, n + x.size ≤ 1000 → decV f n (x.enc ++ r) = .ok x r (n + x.size) := fun x hx n r hn =>
      decV_enc f x n r (alls_mem hgs hx) (by have := depths_mem hx; omega) hn
    unfold shortF at h2
    simp only [Bool.and_eq_true, decide_eq_true_eq, List.all_eq_true] at h2
    obtain ⟨h2, h2k⟩ := h2
    have h2 : t.size ≤ 4096 := h2
    have h2k : ∀ s ∈ ks, s.size ≤ 4096 := h2k
    unfold inF at h4
    simp only [Bool.and_eq_true, decide_eq_true_eq] at h4
    have h4a : -9223372036854775808 ≤ i := h4.1
    have h4b : i ≤ 9223372036854775807 := h4.2
    unfold noFut at h3
    have h3 : k ≠ 6 := of_decide_eq_true h3
    have hk : k = 0 ∨ k = 1 ∨ k = 2 ∨ k = 3 ∨ k = 4 ∨ k = 5 := by
      have h5 := h1
      unfold okF at h5
      have e : (VT.mk k i t its ks).k = k := rfl
      rw [e] at h5
      by_cases k0 : k = 0
      · exact Or.inl k0
      by_cases k1 : k = 1
      · exact Or.inr (Or.inl k1)
      by_cases k2 : k = 2
      · exact Or.inr (Or.inr (Or.inl k2))
      by_cases k3 : k = 3
      · exact Or.inr (Or.inr (Or.inr (Or.inl k3)))
      by_cases k4 : k = 4
      · exact Or.inr (Or.inr (Or.inr (Or.inr (Or.inl k4))))
      by_cases k5 : k = 5
      · exact Or.inr (Or.inr (Or.inr (Or.inr (Or.inr k5))))
      rw [if_neg k0, if_neg k1, if_neg k2, if_neg k3, if_neg k4, if_neg k5, if_neg h3] at h5
      cases h5
    rw [VT.enc_mk, List.append_assoc]
    have hint := intA_enc (a := k) (by omega) (by omega)
    rw [decV, if_neg (by omega), hint, if_neg (by simp)]
    show decB (decV f) k (n + 1) _ = _
    rcases hk with rfl | rfl | rfl | rfl | rfl | rfl
    · rw [okF_0] at h1
      simp only [Bool.and_eq_true, decide_eq_true_eq] at h1
      obtain ⟨rfl, ht, hi, hks⟩ := h1
      obtain rfl := ba_nil ht
      obtain rfl := List.eq_nil_of_length_eq_zero hi
      obtain rfl := List.eq_nil_of_length_eq_zero hks
      rw [if_neg (by omega), if_neg (by omega), if_neg (by omega), decB, if_neg (by omega), if_pos rfl]
      rfl
    · rw [okF_1] at h1
      simp only [Bool.and_eq_true, Bool.or_eq_true, decide_eq_true_eq] at h1
      obtain ⟨h01, ht, hi, hks⟩ := h1
      obtain rfl := ba_nil ht
      obtain rfl := List.eq_nil_of_length_eq_zero hi
      obtain rfl := List.eq_nil_of_length_eq_zero hks
      rw [if_pos (by omega), decB, if_neg (by omega), if_neg (by omega), if_pos rfl, intA_enc h4a h4b, if_neg (by simp), if_pos h01]
      rfl
    · rw [okF_2] at h1
      simp only [Bool.and_eq_true, decide_eq_true_eq] at h1
      obtain ⟨ht, hi, hks⟩ := h1
      obtain rfl := ba_nil ht
      obtain rfl := List.eq_nil_of_length_eq_zero hi
      obtain rfl := List.eq_nil_of_length_eq_zero hks
      rw [if_pos (by omega), decB, if_neg (by omega), if_neg (by omega), if_neg (by omega), if_pos rfl, intA_enc h4a h4b, if_neg (by simp)]
      rfl
    · rw [okF_3] at h1
      simp only [Bool.and_eq_true, decide_eq_true_eq] at h1
      obtain ⟨rfl, hi, hks⟩ := h1
      obtain rfl := List.eq_nil_of_length_eq_zero hi
      obtain rfl := List.eq_nil_of_length_eq_zero hks
      rw [if_neg (by omega), if_pos rfl, decB, if_neg (by omega), if_neg (by omega), if_neg (by omega), if_neg (by omega), if_pos rfl, decT_enc t r (n + 1) h2]
      rfl
    · rw [okF_4] at h1
      simp only [Bool.and_eq_true, decide_eq_true_eq] at h1
      obtain ⟨rfl, ht, hks⟩ := h1
      obtain rfl := ba_nil ht
      obtain rfl := List.eq_nil_of_length_eq_zero hks
      have hl := len_sizes its
      have hL := decL_enc its (n + 1) [] [] [] r ih (by omega)
      rw [if_neg (by omega), if_neg (by omega), if_pos (by omega), List.append_assoc, decB, if_neg (by omega), if_neg (by omega), if_neg (by omega), if_neg (by omega), if_neg (by omega)]
      unfold decI
      rw [intA_enc (by omega) (by omega), if_neg (by simp), if_neg (by simp only; omega)]
      simp only [Int.toNat_natCast]
      rw [show decide ((4 : Int) = 5) = false from rfl, hL]
      simp [Nat.add_assoc]
    · rw [okF_5] at h1
      simp only [Bool.and_eq_true, decide_eq_true_eq] at h1
      obtain ⟨rfl, ht, hkl, hris⟩ := h1
      obtain rfl := ba_nil ht
      have hl := len_sizes its
      have hL := decL_encK its (n + 1) [] [] ks r ih (by omega) hkl h2k hris
      rw [if_neg (by omega), if_neg (by omega), if_pos (by omega), List.append_assoc, decB, if_neg (by omega), if_neg (by omega), if_neg (by omega), if_neg (by omega), if_neg (by omega)]
      unfold decI
      rw [intA_enc (by omega) (by omega), if_neg (by simp), if_neg (by simp only; omega)]
      simp only [Int.toNat_natCast, decide_true]
      rw [hL]
      simp [Nat.add_assoc]

/-! ### what is read is an encoding -/
/-- what is known of a value that was read -/
def Back (f n : Nat) (l : List UInt8) (x : VT) (l' : List UInt8) (n' : Nat) : Prop :=
  l = x.enc ++ l' ∧ x.all goodF = true ∧ x.depth ≤ f ∧ n' = n + x.size ∧ n' ≤ 1000
theorem encs_any : ∀ (its : List VT) (ks ks' : List ByteArray), encs false its ks = encs false its ks'
  | [], _, _ => rfl
  | x :: r, ks, ks' => by
    rw [encs, encs, encs_any r ks.tail ks'.tail]
    simp
theorem decL_back {dec : Nat → List UInt8 → DR VT} {f : Nat} (hd : ∀ n l x l' n', n ≤ 1000 → dec n l = .ok x l' n' → Back f n l x l' n') : ∀ (r n : Nat) (l : List UInt8) (its : List VT) (ks : List ByteArray) (its' : List VT) (ks' : List ByteArray) (l' : List UInt8) (n' : Nat), n ≤ 1000 →
    decL dec false r n l its ks = .ok (its', ks') l' n' → ∃ its2, its' = its ++ its2 ∧ ks' = ks ∧ its2.length = r ∧ l = encs false its2 [] ++ l' ∧ alls goodF its2 = true ∧ depths its2 ≤ f ∧ n' = n + sizes its2 ∧ n' ≤ 1000
  | 0, n, l, its, ks, its', ks', l', n', hn, h => by
    rw [decL] at h
    injection h with h1 h2 h3
    injection h1 with h1 h4
    subst h1 h2 h3 h4
    exact ⟨[], by simp, rfl, rfl, by simp [encs], by simp [alls], by simp [depths], by simp [sizes], hn⟩
  | r + 1, n, l, its, ks, its', ks', l', n', hn, h => by
    rw [decL] at h
    unfold decK at h
    rw [if_neg (by decide)] at h
    simp only at h
    cases hv : dec n l with
    | err e => rw [hv] at h; cases h
    | ok x l2 n2 =>
      rw [hv] at h
      simp only at h
      obtain ⟨b1, b2, b3, b4, b5⟩ := hd n l x l2 n2 hn hv
      obtain ⟨its2, c1, c2, c3, c4, c5, c6, c7, c8⟩ := decL_back hd r n2 l2 (its ++ [x]) ks its' ks' l' n' b5 h
      refine ⟨x :: its2, by rw [c1]; simp, c2, by simp [c3], ?_, by simp [alls, b2, c5], by simp [depths]; omega, by simp [sizes]; omega, c8⟩
      rw [b1, c4, encs]
      simp
theorem decL_backK {dec : Nat → List UInt8 → DR VT} {f : Nat} (hd : ∀ n l x l' n', n ≤ 1000 → dec n l = .ok x l' n' → Back f n l x l' n') : ∀ (r n : Nat) (l : List UInt8) (its : List VT) (ks : List ByteArray) (its' : List VT) (ks' : List ByteArray) (l' : List UInt8) (n' : Nat), n ≤ 1000 → rising ks = true →
    decL dec true r n l its ks = .ok (its', ks') l' n' → ∃ its2 ks2, its' = its ++ its2 ∧ ks' = ks ++ ks2 ∧ its2.length = r ∧ ks2.length = r ∧ rising ks' = true ∧ (∀ s ∈ ks2, s.size ≤ 4096) ∧ l = encs true its2 ks2 ++ l' ∧ alls goodF its2 = true ∧ depths its2 ≤ f ∧ n' = n + sizes its2 ∧ n' ≤ 1000
  | 0, n, l, its, ks, its', ks', l', n', hn, hr, h => by
    rw [decL] at h
    injection h with h1 h2 h3
    injection h1 with h1 h4
    subst h1 h2 h3 h4
    exact ⟨[], [], by simp, by simp, rfl, rfl, hr, by simp, by simp [encs], by simp [alls], by simp [depths], by simp [sizes], hn⟩
  | r + 1, n, l, its, ks, its', ks', l', n', hn, hr, h => by
    rw [decL] at h
    unfold decK at h
    rw [if_pos rfl] at h
    cases ht : decT l n with
    | err e => rw [ht] at h; cases h
    | ok key l1 n1 =>
      rw [ht] at h
      simp only at h
      obtain ⟨t1, t2, t3⟩ := decT_out ht
      subst t2
      by_cases hk : ks = [] ∨ less (ks.getLastD ByteArray.empty) key = true
      · rw [if_pos hk] at h
        simp only at h
        cases hv : dec n1 l1 with
        | err e => rw [hv] at h; cases h
        | ok x l2 n2 =>
          rw [hv] at h
          simp only at h
          obtain ⟨b1, b2, b3, b4, b5⟩ := hd n1 l1 x l2 n2 hn hv
          obtain ⟨its2, ks2, c1, c2, c3, c3k, cr, cs, c4, c5, c6, c7, c8⟩ := decL_backK hd r n2 l2 (its ++ [x]) (ks ++ [key]) its' ks' l' n' b5 (rising_snoc hr hk) h
          refine ⟨x :: its2, key :: ks2, by rw [c1]; simp, by rw [c2]; simp, by simp [c3], by simp [c3k], cr, fun s hs => ?_, ?_, by simp [alls, b2, c5], by simp [depths]; omega, by simp [sizes]; omega, c8⟩
          · rcases List.mem_cons.1 hs with rfl | hs
            · exact t3
            · exact cs s hs
          · rw [t1, b1, c4, encs]
            simp
      · rw [if_neg hk] at h
        cases h
theorem good_mk {k i : Int} {t : ByteArray} {its : List VT} {ks : List ByteArray} (h1 : okF (.mk k i t its ks) = true) (h2 : t.size ≤ 4096) (h2k : ∀ s ∈ ks, s.size ≤ 4096) (h3 : k ≠ 6) (h4 : -9223372036854775808 ≤ i) (h5 : i ≤ 9223372036854775807) (h6 : alls goodF its = true) : (VT.mk k i t its ks).all goodF = true := by
  rw [VT.all_mk, h6, Bool.and_true]
  unfold goodF
  rw [h1, Bool.true_and]
  have e1 : shortF (.mk k i t its ks) = true := by
    unfold shortF
    simp only [Bool.and_eq_true, decide_eq_true_eq, List.all_eq_true]
    exact ⟨h2, h2k⟩
  have e2 : noFut (.mk k i t its ks) = true := by
    unfold noFut
    simp only [decide_eq_true_eq]
    exact h3
  have e3 : inF (.mk k i t its ks) = true := by
    unfold inF
    simp only [Bool.and_eq_true, decide_eq_true_eq]
    exact ⟨h4, h5⟩
  rw [e1, e2, e3]
  rfl

theorem decV_back : ∀ (f n : Nat) (l : List UInt8) (x : VT) (l' : List UInt8) (n' : Nat), n ≤ 1000 → decV f n l = .ok x l' n' → Back f n l x l' n'
  | 0, n, l, x, l', n', _, h => by rw [decV] at h; cases h
  | f + 1, n, l, x, l', n', hn, h => by
    rw [decV] at h
    split at h
    · cases h
    · rename_i hb
      split at h
      · cases h
      · rename_i he
        obtain ⟨k, l1, hi⟩ : ∃ k l1, intA l = (k, l1, 0) := ⟨(intA l).1, (intA l).2.1, by rw [← Decidable.not_not.1 he]⟩
        rw [hi] at h
        obtain ⟨e1, e2, e3⟩ := intA_out hi
        have ih := fun n l x l' n' (hn : n ≤ 1000) (h : decV f n l = .ok x l' n') => decV_back f n l x l' n' hn h
        replace h : decB (decV f) k (n + 1) l1 = .ok x l' n' := h
        subst e1
        unfold decB at h
        split at h
        · cases h
        · rename_i hk
          split at h
          · rename_i h0
            subst h0
            injection h with h1 h2 h3
            subst h1 h2 h3
            refine ⟨?_, by decide, by simp [nullT, VT.depth_mk, depths], by simp [nullT, VT.size_mk, sizes], by omega⟩
            rw [nullT, VT.enc_mk, if_neg (by omega), if_neg (by omega), if_neg (by omega), List.append_nil]
          · split at h
            · rename_i h1
              subst h1
              split at h
              · cases h
              · rename_i he2
                split at h
                · rename_i h01
                  obtain ⟨i, l2, hi2⟩ : ∃ i l2, intA l1 = (i, l2, 0) := ⟨(intA l1).1, (intA l1).2.1, by rw [← Decidable.not_not.1 he2]⟩
                  rw [hi2] at h h01
                  obtain ⟨d1, d2, d3⟩ := intA_out hi2
                  injection h with h1 h2 h3
                  subst h1 h2 h3
                  simp only at h01
                  refine ⟨?_, good_mk (by rcases h01 with rfl | rfl <;> rfl) (by decide) (by simp) (by omega) d2 d3 (by simp [alls]), by simp [VT.depth_mk, depths], by simp [VT.size_mk, sizes], by omega⟩
                  rw [VT.enc_mk, if_pos (by omega), d1, List.append_assoc]
                · cases h
            · split at h
              · rename_i h2
                subst h2
                split at h
                · cases h
                · rename_i he2
                  obtain ⟨i, l2, hi2⟩ : ∃ i l2, intA l1 = (i, l2, 0) := ⟨(intA l1).1, (intA l1).2.1, by rw [← Decidable.not_not.1 he2]⟩
                  rw [hi2] at h
                  obtain ⟨d1, d2, d3⟩ := intA_out hi2
                  injection h with h1 h2 h3
                  subst h1 h2 h3
                  refine ⟨?_, good_mk rfl (by decide) (by simp) (by omega) d2 d3 (by simp [alls]), by simp [VT.depth_mk, depths], by simp [VT.size_mk, sizes], by omega⟩
                  rw [VT.enc_mk, if_pos (by omega), d1, List.append_assoc]
              · split at h
                · rename_i h3
                  subst h3
                  cases ht : decT l1 (n + 1) with
                  | err e => rw [ht] at h; cases h
                  | ok s l2 n1 =>
                    rw [ht] at h
                    injection h with h1 h2 h3
                    subst h1 h2 h3
                    obtain ⟨t1, t2, t3⟩ := decT_out ht
                    subst t2
                    refine ⟨?_, good_mk rfl t3 (by simp) (by omega) (by omega) (by omega) (by simp [alls]), by simp [VT.depth_mk, depths], by simp [VT.size_mk, sizes], by omega⟩
                    rw [VT.enc_mk, if_neg (by omega), if_pos rfl, t1, List.append_assoc]
                · rename_i g0 g1 g2 g3
                  have hk45 : k = 4 ∨ k = 5 := by omega
                  cases hI : decI (decV f) (decide (k = 5)) (n + 1) l1 with
                  | err e => rw [hI] at h; cases h
                  | ok pr l2 n1 =>
                    rw [hI] at h
                    injection h with h1 h2 h3
                    subst h1 h2 h3
                    unfold decI at hI
                    split at hI
                    · cases hI
                    · rename_i he2
                      split at hI
                      · cases hI
                      · rename_i hc
                        obtain ⟨c, l3, hi2⟩ : ∃ c l3, intA l1 = (c, l3, 0) := ⟨(intA l1).1, (intA l1).2.1, by rw [← Decidable.not_not.1 he2]⟩
                        rw [hi2] at hI hc
                        simp only at hI hc
                        obtain ⟨d1, d2, d3⟩ := intA_out hi2
                        obtain ⟨cn, rfl⟩ : ∃ cn : Nat, c = (cn : Int) := ⟨c.toNat, by omega⟩
                        rw [Int.toNat_natCast] at hI
                        obtain ⟨pi, pk⟩ := pr
                        rcases hk45 with rfl | rfl
                        · rw [show decide ((4 : Int) = 5) = false from rfl] at hI
                          obtain ⟨its2, c1, c2, c3, c4, c5, c6, c7, c8⟩ := decL_back ih _ _ _ _ _ _ _ _ _ (by omega) hI
                          simp only [List.nil_append] at c1
                          subst c1 c2
                          refine ⟨?_, good_mk rfl (by decide) (by simp) (by omega) (by omega) (by omega) c5, by rw [VT.depth_mk]; simp only; omega, by rw [VT.size_mk]; simp only; omega, by omega⟩
                          rw [VT.enc_mk, if_neg (by omega), if_neg (by omega), if_pos (by omega), d1, c4, c3]
                          simp
                        · rw [show decide ((5 : Int) = 5) = true from rfl] at hI
                          obtain ⟨its2, ks2, c1, c2, c3, c3k, cr, cs, c4, c5, c6, c7, c8⟩ := decL_backK ih _ _ _ _ _ _ _ _ _ (by omega) rfl hI
                          simp only [List.nil_append] at c1 c2
                          subst c1 c2
                          refine ⟨?_, good_mk (by rw [okF_5]; have hkl : pk.length = pi.length := (by omega); simp only [hkl, cr]; rfl) (by decide) cs (by omega) (by omega) (by omega) c5, by rw [VT.depth_mk]; simp only; omega, by rw [VT.size_mk]; simp only; omega, by omega⟩
                          rw [VT.enc_mk, if_neg (by omega), if_neg (by omega), if_pos (by omega), d1, c4, c3]
                          simp
end Go.Proofs.Ytidinbeanaifmaa
namespace Go.Proofs.Ytidinbeanaifmaa
open Go.RowKit

theorem alls_of {p : VT → Bool} : ∀ {l : List VT}, (∀ x ∈ l, x.all p = true) → alls p l = true
  | [], _ => by simp [alls]
  | x :: r, h => by
    rw [alls, h x List.mem_cons_self, alls_of fun y hy => h y (List.mem_cons_of_mem _ hy)]
    rfl
theorem size_mem {l : List VT} {x : VT} (hx : x ∈ l) : x.size ≤ sizes l := by
  obtain ⟨j, hj, rfl⟩ := List.getElem_of_mem hx
  exact size_at (List.getElem?_eq_getElem hj)
theorem all_mono {p q : VT → Bool} (hpq : ∀ x, p x = true → q x = true) : ∀ (m : Nat) (x : VT), x.size ≤ m → x.all p = true → x.all q = true
  | 0, x, h, _ => by have := size_pos x; omega
  | m + 1, .mk k i t its ks, h, hp => by
    rw [VT.size_mk] at h
    rw [VT.all_mk, Bool.and_eq_true] at hp ⊢
    exact ⟨hpq _ hp.1, alls_of fun x hx => all_mono hpq m x (by have := size_mem hx; omega) (alls_mem hp.2 hx)⟩
theorem all_good : ∀ (m : Nat) (x : VT), x.size ≤ m → x.all okF = true → x.all shortF = true → x.all noFut = true → x.all inF = true → x.all goodF = true
  | 0, x, h, _, _, _, _ => by have := size_pos x; omega
  | m + 1, .mk k i t its ks, h, h1, h2, h3, h4 => by
    rw [VT.size_mk] at h
    rw [VT.all_mk, Bool.and_eq_true] at h1 h2 h3 h4 ⊢
    refine ⟨?_, alls_of fun x hx => all_good m x (by have := size_mem hx; omega) (alls_mem h1.2 hx) (alls_mem h2.2 hx) (alls_mem h3.2 hx) (alls_mem h4.2 hx)⟩
    unfold goodF
    rw [h1.1, h2.1, h3.1, h4.1]
    rfl
theorem lies_in {w : World} {R : Nat → Prop} : ∀ (m : Nat) (x : VT) (v : Value), x.size ≤ m → Lies w R x v → x.all inF = true
  | 0, x, _, h, _ => by have := size_pos x; omega
  | m + 1, .mk k i t its ks, v, h, hv => by
    rw [VT.size_mk] at h
    obtain ⟨A, c, A', c', _, _, hi, _, _, _, hl, _, _, _⟩ := hv.open
    rw [VT.all_mk, Bool.and_eq_true]
    refine ⟨?_, alls_of fun x hx => ?_⟩
    · unfold inF
      simp only [Bool.and_eq_true, decide_eq_true_eq]
      exact hi
    · obtain ⟨j, hj, rfl⟩ := List.getElem_of_mem hx
      obtain ⟨_, _, _, _, _, _, _, _, _, _, _, _, _, _, _, _, _, _, hxl⟩ := hl.at_ (List.getElem?_eq_getElem hj)
      exact lies_in m _ _ (by have := size_mem hx; omega) hxl
/-- a payload, by its parts -/
theorem right_parts {x : VT} (h : x.right = true) : x.all okF = true ∧ x.all shortF = true ∧ x.all noFut = true ∧ x.depth ≤ 16 ∧ x.size ≤ 1000 := by
  unfold VT.right VT.wf VT.within at h
  simp only [Bool.and_eq_true, decide_eq_true_eq] at h
  exact ⟨h.1, h.2.1.1, h.2.2, h.2.1.2.1, h.2.1.2.2⟩
theorem right_good {x : VT} (h : x.all goodF = true) (hd : x.depth ≤ 16) (hs : x.size ≤ 1000) : x.right = true := by
  have g1 : ∀ y, goodF y = true → okF y = true := fun y hy => by unfold goodF at hy; simp only [Bool.and_eq_true] at hy; exact hy.1
  have g2 : ∀ y, goodF y = true → shortF y = true := fun y hy => by unfold goodF at hy; simp only [Bool.and_eq_true] at hy; exact hy.2.1
  have g3 : ∀ y, goodF y = true → noFut y = true := fun y hy => by unfold goodF at hy; simp only [Bool.and_eq_true] at hy; exact hy.2.2.1
  have h1 := all_mono g1 _ x (Nat.le_refl _) h
  have h2 := all_mono g2 _ x (Nat.le_refl _) h
  have h3 := all_mono g3 _ x (Nat.le_refl _) h
  unfold VT.right VT.wf VT.within
  rw [h1, h2, h3, decide_eq_true hd, decide_eq_true hs]
  rfl
theorem short_keys {k i : Int} {t : ByteArray} {its : List VT} {ks : List ByteArray} (h : shortF (.mk k i t its ks) = true) : t.size ≤ 4096 ∧ ∀ s ∈ ks, s.size ≤ 4096 := by
  unfold shortF at h
  simp only [Bool.and_eq_true, decide_eq_true_eq, List.all_eq_true] at h
  exact h
theorem encText_le (s : List UInt8) : (encText s).length ≤ 10 + s.length := by
  unfold encText
  rw [List.length_append]
  have := enc_len (s.length : Nat)
  omega
theorem encs_len (m : Bool) : ∀ (its : List VT) (ks : List ByteArray), (∀ s ∈ ks, s.size ≤ 4096) → (∀ x ∈ its, x.enc.length + 4500 ≤ 9000 * x.size) → (encs m its ks).length ≤ 9000 * sizes its
  | [], ks, _, _ => by simp [encs, sizes]
  | x :: r, ks, hk, hx => by
    have h1 := hx x List.mem_cons_self
    have h2 := encs_len m r ks.tail (fun s hs => hk s (List.mem_of_mem_tail hs)) (fun y hy => hx y (List.mem_cons_of_mem _ hy))
    have h3 : ((if m then encText (ks.headD ByteArray.empty).data.toList else [])).length ≤ 4106 := by
      cases m with
      | false => simp
      | true =>
        have h4 := encText_le (ks.headD ByteArray.empty).data.toList
        have h5 : (ks.headD ByteArray.empty).size ≤ 4096 := by
          cases ks with
          | nil => decide
          | cons s r => exact hk s List.mem_cons_self
        rw [ba_size] at h4
        simp only [if_true]
        omega
    rw [encs, List.length_append, List.length_append, sizes]
    omega
theorem enc_bound : ∀ (m : Nat) (x : VT), x.size ≤ m → x.all shortF = true → x.enc.length + 4500 ≤ 9000 * x.size
  | 0, x, h, _ => by have := size_pos x; omega
  | m + 1, .mk k i t its ks, h, hs => by
    rw [VT.size_mk] at h ⊢
    rw [VT.all_mk, Bool.and_eq_true] at hs
    obtain ⟨h1, h2⟩ := short_keys hs.1
    have h3 := encs_len (decide (k = 5)) its ks h2 fun x hx => enc_bound m x (by have := size_mem hx; omega) (alls_mem hs.2 hx)
    have h4 := enc_len k
    have h5 := enc_len i
    have h6 := enc_len (its.length : Nat)
    have h7 := encText_le t.data.toList
    rw [ba_size] at h7
    rw [VT.enc_mk, List.length_append]
    split
    · omega
    · split
      · omega
      · split
        · rw [List.length_append]; omega
        · simp; omega

/-- what decoding says behind an encoding -/
theorem dec_again {x : VT} {w : World} {R : Nat → Prop} {v : Value} (hv : Lies w R x v) (h : x.right = true) (r : List UInt8) : decV 16 0 (x.enc ++ r) = .ok x r x.size ∧ x.enc.length ≤ 9000000 ∧ x.wf = true := by
  obtain ⟨h1, h2, h3, h4, h5⟩ := right_parts h
  have hg := all_good _ x (Nat.le_refl _) h1 h2 h3 (lies_in _ x v (Nat.le_refl _) hv)
  refine ⟨?_, ?_, h1⟩
  · rw [decV_enc 16 x 0 r hg h4 (by omega), Nat.zero_add]
  · have := enc_bound _ x (Nat.le_refl _) h2
    omega
theorem dec_back {l l' : List UInt8} {y : VT} {m : Nat} (h : decV 16 0 l = .ok y l' m) : l = y.enc ++ l' ∧ y.right = true ∧ y.wf = true ∧ y.size ≤ 1000 := by
  obtain ⟨h1, h2, h3, h4, h5⟩ := decV_back 16 0 l y l' m (by omega) h
  have hr := right_good h2 h3 (by omega)
  exact ⟨h1, hr, (right_parts hr).1, (right_parts hr).2.2.2.2⟩
end Go.Proofs.Ytidinbeanaifmaa
namespace Go.Proofs.Ytidinbeanaifmaa
open Go.RowKit

set_option maxRecDepth 100000 in
set_option maxHeartbeats 4000000 in
set_option linter.unusedVariables false in
theorem wfr_0 (m : Nat) (IH : Hid (∀ (x : VT) (w : World) (v : Value), x.size ≤ m → Lies w (Lo w) x v → Calls Try.prog 39 #[v] w (Gives (.bool x.wf) w))) (i : Int) (t : ByteArray) (its : List VT) (ks : List ByteArray) (A : Option Addr) (c : Nat) (A' : Option Addr) (c' : Nat) (w : World) (hL : LiesL w (Lo w) A 0 its) (hS : LiesS w (Lo w) A' ks)
    (hlc : its.length ≤ c) (hcm : c ≤ 9223372036854775807) (hkc : ks.length ≤ c') (hcm' : c' ≤ 9223372036854775807) (hsz : sizes its ≤ m) :
    Calls Try.prog 39 #[vag 0 i t A its.length c A' ks.length c'] w (Gives (.bool (VT.mk 0 i t its ks).wf) w) := by
  have HS := Lib.hid hS
  have HL := Lib.hid hL
  clear hS hL
  unfold vag
  go_enter Try.func39, Try.ntmps39
  go_wp2
  obtain ⟨w1, hw1⟩ : ∃ w1, w1 = w.alloc (.cells #[.int .i64 0, .int .i64 i, .string t, .slice A its.length c, .slice A' ks.length c'] 26) := ⟨_, rfl⟩
  have B0 : Hid (Below w.heap.size w w1) := Lib.hid (by rw [hw1]; exact below_one _ _)
  have S1 : Hid (w.heap.size < w1.heap.size) := Lib.hid (by rw [hw1]; simp)
  have D : Hid (∀ j, w1.cell? ⟨w.heap.size, j, none⟩ = (#[.int .i64 0, .int .i64 i, .string t, .slice A its.length c, .slice A' ks.length c'] : Array Value)[j]?) := Lib.hid (fun j => by rw [hw1, World.cell?_alloc_at _ _ _ _ rfl])
  rw [← hw1]
  have HW := Lib.hid hw1
  clear hw1
  go_loopw [3] (fun s wr => ∃ j : Nat, j ≤ its.length ∧ s = .int .i64 j ∧ Hid (alls okF (its.take j) = true) ∧ Hid (Below w1.heap.size w1 wr)) (fun s _ => its.length - (intOf s).toNat)
  case atStart => exact ⟨0, by omega, rfl, Lib.hid rfl, Lib.hid (Below.refl _ _)⟩
  case round =>
    obtain ⟨j, hjn, rfl, ha, hb⟩ := hrel
    have C3 := (hb.out.cell (p := ⟨w.heap.size, 3, none⟩) S1.out).trans (D.out 3)
    by_cases hlt : j < its.length
    · obtain ⟨g, o, k', i', t', B, n', c1, B', n1, c2, rfl, hg, e0, e1, e2, e3, e4, hx⟩ := (HL.out).at_ (j := j) (x := its[j]'hlt) (List.getElem?_eq_getElem _)
      have hj := alls_take (p := okF) (List.getElem?_eq_getElem (l := its) (i := j) hlt)
      have hle := size_at (List.getElem?_eq_getElem (l := its) (i := j) hlt)
      have hfl := fun h => alls_false (p := okF) (List.getElem?_eq_getElem (l := its) (i := j) hlt) h
      have hb' : Below w.heap.size w wr := below_next B0.out hb.out
      have cc := fun (q : Nat) => hb'.cell (p := ⟨g, q, none⟩) hg
      rw [Nat.zero_add] at e0 e1 e2 e3 e4
      rw [← cc] at e0 e1 e2 e3 e4
      have hc := IH.out (its[j]'hlt) wr _ (by omega) (hx.below hb')
      generalize its[j]'hlt = x at *
      unfold VT.wf at hc
      have HC := Lib.hid hc
      rw [ha.out, Bool.true_and] at hj
      have HJ := Lib.hid hj
      have HF := Lib.hid hfl
      clear hc hx hb' cc hj hfl
      unfold vag at HC
      go_wp2_with fail
      refine (HC.out).mono ?_
      rintro e w' ⟨rfl, hb2⟩
      have HB2 := Lib.hid (below_next hb.out hb2)
      clear hb2
      cases hxx : x.all okF with
      | true =>
        have HXX := Lib.hid hxx
        clear hxx
        go_wp2
        go_roundw
        case rel => exact ⟨j + 1, by omega, by go_num, Lib.hid (by rw [HJ.out, HXX.out]), HB2⟩
        case measure => simp [intOf]; omega
      | false =>
        have HXX := Lib.hid (HF.out hxx)
        clear hxx
        go_wp2
        go_ret
        exact ⟨ret_bool (by rw [VT.wf, VT.all_mk, HXX.out, Bool.and_false]), below_next B0.out HB2.out⟩
    · obtain rfl : j = its.length := by omega
      have HA : Hid (alls okF its = true) := Lib.hid (by rw [← ha.out, List.take_length])
      have C0 := (hb.out.cell (p := ⟨w.heap.size, 0, none⟩) S1.out).trans (D.out 0)
      have C1 := (hb.out.cell (p := ⟨w.heap.size, 1, none⟩) S1.out).trans (D.out 1)
      have C2 := (hb.out.cell (p := ⟨w.heap.size, 2, none⟩) S1.out).trans (D.out 2)
      have C4 := (hb.out.cell (p := ⟨w.heap.size, 4, none⟩) S1.out).trans (D.out 4)
      clear hlt ha
      by_cases hI0 : i = 0
      · have fhI0 : (i == 0) = true := by rw [beq_iff_eq]; omega
        by_cases hT : t.size = 0
        · have fhT : (t.toList == []) = true := by rw [tl_empty]; exact decide_eq_true hT
          by_cases hN : its.length = 0
          · have fhN : (((its.length : Nat) : Int) == 0) = true := by rw [beq_iff_eq]; omega
            by_cases hK : ks.length = 0
            · have fhK : (((ks.length : Nat) : Int) == 0) = true := by rw [beq_iff_eq]; omega
              have key : okF (.mk 0 i t its ks) = true := by rw [okF_0]; simp [*]
              have KEY := Lib.hid key
              clear hI0 hT hN hK key
              go_wp2
              go_ret
              exact ⟨ret_bool (by rw [VT.wf, VT.all_mk, KEY.out, HA.out]; rfl), below_next B0.out hb.out⟩
            · have fhK : (((ks.length : Nat) : Int) == 0) = false := by rw [beq_eq_false_iff_ne]; omega
              have key : okF (.mk 0 i t its ks) = false := by rw [okF_0]; simp [*]
              have KEY := Lib.hid key
              clear hI0 hT hN hK key
              go_wp2
              go_ret
              exact ⟨ret_bool (by rw [VT.wf, VT.all_mk, KEY.out, HA.out]; rfl), below_next B0.out hb.out⟩
          · have fhN : (((its.length : Nat) : Int) == 0) = false := by rw [beq_eq_false_iff_ne]; omega
            have key : okF (.mk 0 i t its ks) = false := by rw [okF_0]; simp [*]
            have KEY := Lib.hid key
            clear hI0 hT hN key
            go_wp2
            go_ret
            exact ⟨ret_bool (by rw [VT.wf, VT.all_mk, KEY.out, HA.out]; rfl), below_next B0.out hb.out⟩
        · have fhT : (t.toList == []) = false := by rw [tl_empty]; exact decide_eq_false hT
          have key : okF (.mk 0 i t its ks) = false := by rw [okF_0]; simp [*]
          have KEY := Lib.hid key
          clear hI0 hT key
          go_wp2
          go_ret
          exact ⟨ret_bool (by rw [VT.wf, VT.all_mk, KEY.out, HA.out]; rfl), below_next B0.out hb.out⟩
      · have fhI0 : (i == 0) = false := by rw [beq_eq_false_iff_ne]; omega
        have key : okF (.mk 0 i t its ks) = false := by rw [okF_0]; simp [*]
        have KEY := Lib.hid key
        clear hI0 key
        go_wp2
        go_ret
        exact ⟨ret_bool (by rw [VT.wf, VT.all_mk, KEY.out, HA.out]; rfl), below_next B0.out hb.out⟩

set_option maxRecDepth 100000 in
set_option maxHeartbeats 4000000 in
set_option linter.unusedVariables false in
theorem wfr_1 (m : Nat) (IH : Hid (∀ (x : VT) (w : World) (v : Value), x.size ≤ m → Lies w (Lo w) x v → Calls Try.prog 39 #[v] w (Gives (.bool x.wf) w))) (i : Int) (t : ByteArray) (its : List VT) (ks : List ByteArray) (A : Option Addr) (c : Nat) (A' : Option Addr) (c' : Nat) (w : World) (hL : LiesL w (Lo w) A 0 its) (hS : LiesS w (Lo w) A' ks)
    (hlc : its.length ≤ c) (hcm : c ≤ 9223372036854775807) (hkc : ks.length ≤ c') (hcm' : c' ≤ 9223372036854775807) (hsz : sizes its ≤ m) :
    Calls Try.prog 39 #[vag 1 i t A its.length c A' ks.length c'] w (Gives (.bool (VT.mk 1 i t its ks).wf) w) := by
  have HS := Lib.hid hS
  have HL := Lib.hid hL
  clear hS hL
  unfold vag
  go_enter Try.func39, Try.ntmps39
  go_wp2
  obtain ⟨w1, hw1⟩ : ∃ w1, w1 = w.alloc (.cells #[.int .i64 1, .int .i64 i, .string t, .slice A its.length c, .slice A' ks.length c'] 26) := ⟨_, rfl⟩
  have B0 : Hid (Below w.heap.size w w1) := Lib.hid (by rw [hw1]; exact below_one _ _)
  have S1 : Hid (w.heap.size < w1.heap.size) := Lib.hid (by rw [hw1]; simp)
  have D : Hid (∀ j, w1.cell? ⟨w.heap.size, j, none⟩ = (#[.int .i64 1, .int .i64 i, .string t, .slice A its.length c, .slice A' ks.length c'] : Array Value)[j]?) := Lib.hid (fun j => by rw [hw1, World.cell?_alloc_at _ _ _ _ rfl])
  rw [← hw1]
  have HW := Lib.hid hw1
  clear hw1
  go_loopw [3] (fun s wr => ∃ j : Nat, j ≤ its.length ∧ s = .int .i64 j ∧ Hid (alls okF (its.take j) = true) ∧ Hid (Below w1.heap.size w1 wr)) (fun s _ => its.length - (intOf s).toNat)
  case atStart => exact ⟨0, by omega, rfl, Lib.hid rfl, Lib.hid (Below.refl _ _)⟩
  case round =>
    obtain ⟨j, hjn, rfl, ha, hb⟩ := hrel
    have C3 := (hb.out.cell (p := ⟨w.heap.size, 3, none⟩) S1.out).trans (D.out 3)
    by_cases hlt : j < its.length
    · obtain ⟨g, o, k', i', t', B, n', c1, B', n1, c2, rfl, hg, e0, e1, e2, e3, e4, hx⟩ := (HL.out).at_ (j := j) (x := its[j]'hlt) (List.getElem?_eq_getElem _)
      have hj := alls_take (p := okF) (List.getElem?_eq_getElem (l := its) (i := j) hlt)
      have hle := size_at (List.getElem?_eq_getElem (l := its) (i := j) hlt)
      have hfl := fun h => alls_false (p := okF) (List.getElem?_eq_getElem (l := its) (i := j) hlt) h
      have hb' : Below w.heap.size w wr := below_next B0.out hb.out
      have cc := fun (q : Nat) => hb'.cell (p := ⟨g, q, none⟩) hg
      rw [Nat.zero_add] at e0 e1 e2 e3 e4
      rw [← cc] at e0 e1 e2 e3 e4
      have hc := IH.out (its[j]'hlt) wr _ (by omega) (hx.below hb')
      generalize its[j]'hlt = x at *
      unfold VT.wf at hc
      have HC := Lib.hid hc
      rw [ha.out, Bool.true_and] at hj
      have HJ := Lib.hid hj
      have HF := Lib.hid hfl
      clear hc hx hb' cc hj hfl
      unfold vag at HC
      go_wp2_with fail
      refine (HC.out).mono ?_
      rintro e w' ⟨rfl, hb2⟩
      have HB2 := Lib.hid (below_next hb.out hb2)
      clear hb2
      cases hxx : x.all okF with
      | true =>
        have HXX := Lib.hid hxx
        clear hxx
        go_wp2
        go_roundw
        case rel => exact ⟨j + 1, by omega, by go_num, Lib.hid (by rw [HJ.out, HXX.out]), HB2⟩
        case measure => simp [intOf]; omega
      | false =>
        have HXX := Lib.hid (HF.out hxx)
        clear hxx
        go_wp2
        go_ret
        exact ⟨ret_bool (by rw [VT.wf, VT.all_mk, HXX.out, Bool.and_false]), below_next B0.out HB2.out⟩
    · obtain rfl : j = its.length := by omega
      have HA : Hid (alls okF its = true) := Lib.hid (by rw [← ha.out, List.take_length])
      have C0 := (hb.out.cell (p := ⟨w.heap.size, 0, none⟩) S1.out).trans (D.out 0)
      have C1 := (hb.out.cell (p := ⟨w.heap.size, 1, none⟩) S1.out).trans (D.out 1)
      have C2 := (hb.out.cell (p := ⟨w.heap.size, 2, none⟩) S1.out).trans (D.out 2)
      have C4 := (hb.out.cell (p := ⟨w.heap.size, 4, none⟩) S1.out).trans (D.out 4)
      clear hlt ha
      by_cases hI0 : i = 0
      · have fhI0 : (i == 0) = true := by rw [beq_iff_eq]; omega
        by_cases hT : t.size = 0
        · have fhT : (t.toList == []) = true := by rw [tl_empty]; exact decide_eq_true hT
          by_cases hN : its.length = 0
          · have fhN : (((its.length : Nat) : Int) == 0) = true := by rw [beq_iff_eq]; omega
            by_cases hK : ks.length = 0
            · have fhK : (((ks.length : Nat) : Int) == 0) = true := by rw [beq_iff_eq]; omega
              have key : okF (.mk 1 i t its ks) = true := by rw [okF_1]; simp [*]
              have KEY := Lib.hid key
              clear hI0 hT hN hK key
              go_wp2
              go_ret
              exact ⟨ret_bool (by rw [VT.wf, VT.all_mk, KEY.out, HA.out]; rfl), below_next B0.out hb.out⟩
            · have fhK : (((ks.length : Nat) : Int) == 0) = false := by rw [beq_eq_false_iff_ne]; omega
              have key : okF (.mk 1 i t its ks) = false := by rw [okF_1]; simp [*]
              have KEY := Lib.hid key
              clear hI0 hT hN hK key
              go_wp2
              go_ret
              exact ⟨ret_bool (by rw [VT.wf, VT.all_mk, KEY.out, HA.out]; rfl), below_next B0.out hb.out⟩
          · have fhN : (((its.length : Nat) : Int) == 0) = false := by rw [beq_eq_false_iff_ne]; omega
            have key : okF (.mk 1 i t its ks) = false := by rw [okF_1]; simp [*]
            have KEY := Lib.hid key
            clear hI0 hT hN key
            go_wp2
            go_ret
            exact ⟨ret_bool (by rw [VT.wf, VT.all_mk, KEY.out, HA.out]; rfl), below_next B0.out hb.out⟩
        · have fhT : (t.toList == []) = false := by rw [tl_empty]; exact decide_eq_false hT
          have key : okF (.mk 1 i t its ks) = false := by rw [okF_1]; simp [*]
          have KEY := Lib.hid key
          clear hI0 hT key
          go_wp2
          go_ret
          exact ⟨ret_bool (by rw [VT.wf, VT.all_mk, KEY.out, HA.out]; rfl), below_next B0.out hb.out⟩
      · have fhI0 : (i == 0) = false := by rw [beq_eq_false_iff_ne]; omega
        by_cases hI1 : i = 1
        · have fhI1 : (i == 1) = true := by rw [beq_iff_eq]; omega
          by_cases hT : t.size = 0
          · have fhT : (t.toList == []) = true := by rw [tl_empty]; exact decide_eq_true hT
            by_cases hN : its.length = 0
            · have fhN : (((its.length : Nat) : Int) == 0) = true := by rw [beq_iff_eq]; omega
              by_cases hK : ks.length = 0
              · have fhK : (((ks.length : Nat) : Int) == 0) = true := by rw [beq_iff_eq]; omega
                have key : okF (.mk 1 i t its ks) = true := by rw [okF_1]; simp [*]
                have KEY := Lib.hid key
                clear hI0 hI1 hT hN hK key
                go_wp2
                go_ret
                exact ⟨ret_bool (by rw [VT.wf, VT.all_mk, KEY.out, HA.out]; rfl), below_next B0.out hb.out⟩
              · have fhK : (((ks.length : Nat) : Int) == 0) = false := by rw [beq_eq_false_iff_ne]; omega
                have key : okF (.mk 1 i t its ks) = false := by rw [okF_1]; simp [*]
                have KEY := Lib.hid key
                clear hI0 hI1 hT hN hK key
                go_wp2
                go_ret
                exact ⟨ret_bool (by rw [VT.wf, VT.all_mk, KEY.out, HA.out]; rfl), below_next B0.out hb.out⟩
            · have fhN : (((its.length : Nat) : Int) == 0) = false := by rw [beq_eq_false_iff_ne]; omega
              have key : okF (.mk 1 i t its ks) = false := by rw [okF_1]; simp [*]
              have KEY := Lib.hid key
              clear hI0 hI1 hT hN key
              go_wp2
              go_ret
              exact ⟨ret_bool (by rw [VT.wf, VT.all_mk, KEY.out, HA.out]; rfl), below_next B0.out hb.out⟩
          · have fhT : (t.toList == []) = false := by rw [tl_empty]; exact decide_eq_false hT
            have key : okF (.mk 1 i t its ks) = false := by rw [okF_1]; simp [*]
            have KEY := Lib.hid key
            clear hI0 hI1 hT key
            go_wp2
            go_ret
            exact ⟨ret_bool (by rw [VT.wf, VT.all_mk, KEY.out, HA.out]; rfl), below_next B0.out hb.out⟩
        · have fhI1 : (i == 1) = false := by rw [beq_eq_false_iff_ne]; omega
          have key : okF (.mk 1 i t its ks) = false := by rw [okF_1]; simp [*]
          have KEY := Lib.hid key
          clear hI0 hI1 key
          go_wp2
          go_ret
          exact ⟨ret_bool (by rw [VT.wf, VT.all_mk, KEY.out, HA.out]; rfl), below_next B0.out hb.out⟩

set_option maxRecDepth 100000 in
set_option maxHeartbeats 4000000 in
set_option linter.unusedVariables false in
theorem wfr_2 (m : Nat) (IH : Hid (∀ (x : VT) (w : World) (v : Value), x.size ≤ m → Lies w (Lo w) x v → Calls Try.prog 39 #[v] w (Gives (.bool x.wf) w))) (i : Int) (t : ByteArray) (its : List VT) (ks : List ByteArray) (A : Option Addr) (c : Nat) (A' : Option Addr) (c' : Nat) (w : World) (hL : LiesL w (Lo w) A 0 its) (hS : LiesS w (Lo w) A' ks)
    (hlc : its.length ≤ c) (hcm : c ≤ 9223372036854775807) (hkc : ks.length ≤ c') (hcm' : c' ≤ 9223372036854775807) (hsz : sizes its ≤ m) :
    Calls Try.prog 39 #[vag 2 i t A its.length c A' ks.length c'] w (Gives (.bool (VT.mk 2 i t its ks).wf) w) := by
  have HS := Lib.hid hS
  have HL := Lib.hid hL
  clear hS hL
  unfold vag
  go_enter Try.func39, Try.ntmps39
  go_wp2
  obtain ⟨w1, hw1⟩ : ∃ w1, w1 = w.alloc (.cells #[.int .i64 2, .int .i64 i, .string t, .slice A its.length c, .slice A' ks.length c'] 26) := ⟨_, rfl⟩
  have B0 : Hid (Below w.heap.size w w1) := Lib.hid (by rw [hw1]; exact below_one _ _)
  have S1 : Hid (w.heap.size < w1.heap.size) := Lib.hid (by rw [hw1]; simp)
  have D : Hid (∀ j, w1.cell? ⟨w.heap.size, j, none⟩ = (#[.int .i64 2, .int .i64 i, .string t, .slice A its.length c, .slice A' ks.length c'] : Array Value)[j]?) := Lib.hid (fun j => by rw [hw1, World.cell?_alloc_at _ _ _ _ rfl])
  rw [← hw1]
  have HW := Lib.hid hw1
  clear hw1
  go_loopw [3] (fun s wr => ∃ j : Nat, j ≤ its.length ∧ s = .int .i64 j ∧ Hid (alls okF (its.take j) = true) ∧ Hid (Below w1.heap.size w1 wr)) (fun s _ => its.length - (intOf s).toNat)
  case atStart => exact ⟨0, by omega, rfl, Lib.hid rfl, Lib.hid (Below.refl _ _)⟩
  case round =>
    obtain ⟨j, hjn, rfl, ha, hb⟩ := hrel
    have C3 := (hb.out.cell (p := ⟨w.heap.size, 3, none⟩) S1.out).trans (D.out 3)
    by_cases hlt : j < its.length
    · obtain ⟨g, o, k', i', t', B, n', c1, B', n1, c2, rfl, hg, e0, e1, e2, e3, e4, hx⟩ := (HL.out).at_ (j := j) (x := its[j]'hlt) (List.getElem?_eq_getElem _)
      have hj := alls_take (p := okF) (List.getElem?_eq_getElem (l := its) (i := j) hlt)
      have hle := size_at (List.getElem?_eq_getElem (l := its) (i := j) hlt)
      have hfl := fun h => alls_false (p := okF) (List.getElem?_eq_getElem (l := its) (i := j) hlt) h
      have hb' : Below w.heap.size w wr := below_next B0.out hb.out
      have cc := fun (q : Nat) => hb'.cell (p := ⟨g, q, none⟩) hg
      rw [Nat.zero_add] at e0 e1 e2 e3 e4
      rw [← cc] at e0 e1 e2 e3 e4
      have hc := IH.out (its[j]'hlt) wr _ (by omega) (hx.below hb')
      generalize its[j]'hlt = x at *
      unfold VT.wf at hc
      have HC := Lib.hid hc
      rw [ha.out, Bool.true_and] at hj
      have HJ := Lib.hid hj
      have HF := Lib.hid hfl
      clear hc hx hb' cc hj hfl
      unfold vag at HC
      go_wp2_with fail
      refine (HC.out).mono ?_
      rintro e w' ⟨rfl, hb2⟩
      have HB2 := Lib.hid (below_next hb.out hb2)
      clear hb2
      cases hxx : x.all okF with
      | true =>
        have HXX := Lib.hid hxx
        clear hxx
        go_wp2
        go_roundw
        case rel => exact ⟨j + 1, by omega, by go_num, Lib.hid (by rw [HJ.out, HXX.out]), HB2⟩
        case measure => simp [intOf]; omega
      | false =>
        have HXX := Lib.hid (HF.out hxx)
        clear hxx
        go_wp2
        go_ret
        exact ⟨ret_bool (by rw [VT.wf, VT.all_mk, HXX.out, Bool.and_false]), below_next B0.out HB2.out⟩
    · obtain rfl : j = its.length := by omega
      have HA : Hid (alls okF its = true) := Lib.hid (by rw [← ha.out, List.take_length])
      have C0 := (hb.out.cell (p := ⟨w.heap.size, 0, none⟩) S1.out).trans (D.out 0)
      have C1 := (hb.out.cell (p := ⟨w.heap.size, 1, none⟩) S1.out).trans (D.out 1)
      have C2 := (hb.out.cell (p := ⟨w.heap.size, 2, none⟩) S1.out).trans (D.out 2)
      have C4 := (hb.out.cell (p := ⟨w.heap.size, 4, none⟩) S1.out).trans (D.out 4)
      clear hlt ha
      by_cases hT : t.size = 0
      · have fhT : (t.toList == []) = true := by rw [tl_empty]; exact decide_eq_true hT
        by_cases hN : its.length = 0
        · have fhN : (((its.length : Nat) : Int) == 0) = true := by rw [beq_iff_eq]; omega
          by_cases hK : ks.length = 0
          · have fhK : (((ks.length : Nat) : Int) == 0) = true := by rw [beq_iff_eq]; omega
            have key : okF (.mk 2 i t its ks) = true := by rw [okF_2]; simp [*]
            have KEY := Lib.hid key
            clear hT hN hK key
            go_wp2
            go_ret
            exact ⟨ret_bool (by rw [VT.wf, VT.all_mk, KEY.out, HA.out]; rfl), below_next B0.out hb.out⟩
          · have fhK : (((ks.length : Nat) : Int) == 0) = false := by rw [beq_eq_false_iff_ne]; omega
            have key : okF (.mk 2 i t its ks) = false := by rw [okF_2]; simp [*]
            have KEY := Lib.hid key
            clear hT hN hK key
            go_wp2
            go_ret
            exact ⟨ret_bool (by rw [VT.wf, VT.all_mk, KEY.out, HA.out]; rfl), below_next B0.out hb.out⟩
        · have fhN : (((its.length : Nat) : Int) == 0) = false := by rw [beq_eq_false_iff_ne]; omega
          have key : okF (.mk 2 i t its ks) = false := by rw [okF_2]; simp [*]
          have KEY := Lib.hid key
          clear hT hN key
          go_wp2
          go_ret
          exact ⟨ret_bool (by rw [VT.wf, VT.all_mk, KEY.out, HA.out]; rfl), below_next B0.out hb.out⟩
      · have fhT : (t.toList == []) = false := by rw [tl_empty]; exact decide_eq_false hT
        have key : okF (.mk 2 i t its ks) = false := by rw [okF_2]; simp [*]
        have KEY := Lib.hid key
        clear hT key
        go_wp2
        go_ret
        exact ⟨ret_bool (by rw [VT.wf, VT.all_mk, KEY.out, HA.out]; rfl), below_next B0.out hb.out⟩

set_option maxRecDepth 100000 in
set_option maxHeartbeats 4000000 in
set_option linter.unusedVariables false in
theorem wfr_3 (m : Nat) (IH : Hid (∀ (x : VT) (w : World) (v : Value), x.size ≤ m → Lies w (Lo w) x v → Calls Try.prog 39 #[v] w (Gives (.bool x.wf) w))) (i : Int) (t : ByteArray) (its : List VT) (ks : List ByteArray) (A : Option Addr) (c : Nat) (A' : Option Addr) (c' : Nat) (w : World) (hL : LiesL w (Lo w) A 0 its) (hS : LiesS w (Lo w) A' ks)
    (hlc : its.length ≤ c) (hcm : c ≤ 9223372036854775807) (hkc : ks.length ≤ c') (hcm' : c' ≤ 9223372036854775807) (hsz : sizes its ≤ m) :
    Calls Try.prog 39 #[vag 3 i t A its.length c A' ks.length c'] w (Gives (.bool (VT.mk 3 i t its ks).wf) w) := by
  have HS := Lib.hid hS
  have HL := Lib.hid hL
  clear hS hL
  unfold vag
  go_enter Try.func39, Try.ntmps39
  go_wp2
  obtain ⟨w1, hw1⟩ : ∃ w1, w1 = w.alloc (.cells #[.int .i64 3, .int .i64 i, .string t, .slice A its.length c, .slice A' ks.length c'] 26) := ⟨_, rfl⟩
  have B0 : Hid (Below w.heap.size w w1) := Lib.hid (by rw [hw1]; exact below_one _ _)
  have S1 : Hid (w.heap.size < w1.heap.size) := Lib.hid (by rw [hw1]; simp)
  have D : Hid (∀ j, w1.cell? ⟨w.heap.size, j, none⟩ = (#[.int .i64 3, .int .i64 i, .string t, .slice A its.length c, .slice A' ks.length c'] : Array Value)[j]?) := Lib.hid (fun j => by rw [hw1, World.cell?_alloc_at _ _ _ _ rfl])
  rw [← hw1]
  have HW := Lib.hid hw1
  clear hw1
  go_loopw [3] (fun s wr => ∃ j : Nat, j ≤ its.length ∧ s = .int .i64 j ∧ Hid (alls okF (its.take j) = true) ∧ Hid (Below w1.heap.size w1 wr)) (fun s _ => its.length - (intOf s).toNat)
  case atStart => exact ⟨0, by omega, rfl, Lib.hid rfl, Lib.hid (Below.refl _ _)⟩
  case round =>
    obtain ⟨j, hjn, rfl, ha, hb⟩ := hrel
    have C3 := (hb.out.cell (p := ⟨w.heap.size, 3, none⟩) S1.out).trans (D.out 3)
    by_cases hlt : j < its.length
    · obtain ⟨g, o, k', i', t', B, n', c1, B', n1, c2, rfl, hg, e0, e1, e2, e3, e4, hx⟩ := (HL.out).at_ (j := j) (x := its[j]'hlt) (List.getElem?_eq_getElem _)
      have hj := alls_take (p := okF) (List.getElem?_eq_getElem (l := its) (i := j) hlt)
      have hle := size_at (List.getElem?_eq_getElem (l := its) (i := j) hlt)
      have hfl := fun h => alls_false (p := okF) (List.getElem?_eq_getElem (l := its) (i := j) hlt) h
      have hb' : Below w.heap.size w wr := below_next B0.out hb.out
      have cc := fun (q : Nat) => hb'.cell (p := ⟨g, q, none⟩) hg
      rw [Nat.zero_add] at e0 e1 e2 e3 e4
      rw [← cc] at e0 e1 e2 e3 e4
      have hc := IH.out (its[j]'hlt) wr _ (by omega) (hx.below hb')
      generalize its[j]'hlt = x at *
      unfold VT.wf at hc
      have HC := Lib.hid hc
      rw [ha.out, Bool.true_and] at hj
      have HJ := Lib.hid hj
      have HF := Lib.hid hfl
      clear hc hx hb' cc hj hfl
      unfold vag at HC
      go_wp2_with fail
      refine (HC.out).mono ?_
      rintro e w' ⟨rfl, hb2⟩
      have HB2 := Lib.hid (below_next hb.out hb2)
      clear hb2
      cases hxx : x.all okF with
      | true =>
        have HXX := Lib.hid hxx
        clear hxx
        go_wp2
        go_roundw
        case rel => exact ⟨j + 1, by omega, by go_num, Lib.hid (by rw [HJ.out, HXX.out]), HB2⟩
        case measure => simp [intOf]; omega
      | false =>
        have HXX := Lib.hid (HF.out hxx)
        clear hxx
        go_wp2
        go_ret
        exact ⟨ret_bool (by rw [VT.wf, VT.all_mk, HXX.out, Bool.and_false]), below_next B0.out HB2.out⟩
    · obtain rfl : j = its.length := by omega
      have HA : Hid (alls okF its = true) := Lib.hid (by rw [← ha.out, List.take_length])
      have C0 := (hb.out.cell (p := ⟨w.heap.size, 0, none⟩) S1.out).trans (D.out 0)
      have C1 := (hb.out.cell (p := ⟨w.heap.size, 1, none⟩) S1.out).trans (D.out 1)
      have C2 := (hb.out.cell (p := ⟨w.heap.size, 2, none⟩) S1.out).trans (D.out 2)
      have C4 := (hb.out.cell (p := ⟨w.heap.size, 4, none⟩) S1.out).trans (D.out 4)
      clear hlt ha
      by_cases hI0 : i = 0
      · have fhI0 : (i == 0) = true := by rw [beq_iff_eq]; omega
        by_cases hN : its.length = 0
        · have fhN : (((its.length : Nat) : Int) == 0) = true := by rw [beq_iff_eq]; omega
          by_cases hK : ks.length = 0
          · have fhK : (((ks.length : Nat) : Int) == 0) = true := by rw [beq_iff_eq]; omega
            have key : okF (.mk 3 i t its ks) = true := by rw [okF_3]; simp [*]
            have KEY := Lib.hid key
            clear hI0 hN hK key
            go_wp2
            go_ret
            exact ⟨ret_bool (by rw [VT.wf, VT.all_mk, KEY.out, HA.out]; rfl), below_next B0.out hb.out⟩
          · have fhK : (((ks.length : Nat) : Int) == 0) = false := by rw [beq_eq_false_iff_ne]; omega
            have key : okF (.mk 3 i t its ks) = false := by rw [okF_3]; simp [*]
            have KEY := Lib.hid key
            clear hI0 hN hK key
            go_wp2
            go_ret
            exact ⟨ret_bool (by rw [VT.wf, VT.all_mk, KEY.out, HA.out]; rfl), below_next B0.out hb.out⟩
        · have fhN : (((its.length : Nat) : Int) == 0) = false := by rw [beq_eq_false_iff_ne]; omega
          have key : okF (.mk 3 i t its ks) = false := by rw [okF_3]; simp [*]
          have KEY := Lib.hid key
          clear hI0 hN key
          go_wp2
          go_ret
          exact ⟨ret_bool (by rw [VT.wf, VT.all_mk, KEY.out, HA.out]; rfl), below_next B0.out hb.out⟩
      · have fhI0 : (i == 0) = false := by rw [beq_eq_false_iff_ne]; omega
        have key : okF (.mk 3 i t its ks) = false := by rw [okF_3]; simp [*]
        have KEY := Lib.hid key
        clear hI0 key
        go_wp2
        go_ret
        exact ⟨ret_bool (by rw [VT.wf, VT.all_mk, KEY.out, HA.out]; rfl), below_next B0.out hb.out⟩

set_option maxRecDepth 100000 in
set_option maxHeartbeats 4000000 in
set_option linter.unusedVariables false in
theorem wfr_4 (m : Nat) (IH : Hid (∀ (x : VT) (w : World) (v : Value), x.size ≤ m → Lies w (Lo w) x v → Calls Try.prog 39 #[v] w (Gives (.bool x.wf) w))) (i : Int) (t : ByteArray) (its : List VT) (ks : List ByteArray) (A : Option Addr) (c : Nat) (A' : Option Addr) (c' : Nat) (w : World) (hL : LiesL w (Lo w) A 0 its) (hS : LiesS w (Lo w) A' ks)
    (hlc : its.length ≤ c) (hcm : c ≤ 9223372036854775807) (hkc : ks.length ≤ c') (hcm' : c' ≤ 9223372036854775807) (hsz : sizes its ≤ m) :
    Calls Try.prog 39 #[vag 4 i t A its.length c A' ks.length c'] w (Gives (.bool (VT.mk 4 i t its ks).wf) w) := by
  have HS := Lib.hid hS
  have HL := Lib.hid hL
  clear hS hL
  unfold vag
  go_enter Try.func39, Try.ntmps39
  go_wp2
  obtain ⟨w1, hw1⟩ : ∃ w1, w1 = w.alloc (.cells #[.int .i64 4, .int .i64 i, .string t, .slice A its.length c, .slice A' ks.length c'] 26) := ⟨_, rfl⟩
  have B0 : Hid (Below w.heap.size w w1) := Lib.hid (by rw [hw1]; exact below_one _ _)
  have S1 : Hid (w.heap.size < w1.heap.size) := Lib.hid (by rw [hw1]; simp)
  have D : Hid (∀ j, w1.cell? ⟨w.heap.size, j, none⟩ = (#[.int .i64 4, .int .i64 i, .string t, .slice A its.length c, .slice A' ks.length c'] : Array Value)[j]?) := Lib.hid (fun j => by rw [hw1, World.cell?_alloc_at _ _ _ _ rfl])
  rw [← hw1]
  have HW := Lib.hid hw1
  clear hw1
  go_loopw [3] (fun s wr => ∃ j : Nat, j ≤ its.length ∧ s = .int .i64 j ∧ Hid (alls okF (its.take j) = true) ∧ Hid (Below w1.heap.size w1 wr)) (fun s _ => its.length - (intOf s).toNat)
  case atStart => exact ⟨0, by omega, rfl, Lib.hid rfl, Lib.hid (Below.refl _ _)⟩
  case round =>
    obtain ⟨j, hjn, rfl, ha, hb⟩ := hrel
    have C3 := (hb.out.cell (p := ⟨w.heap.size, 3, none⟩) S1.out).trans (D.out 3)
    by_cases hlt : j < its.length
    · obtain ⟨g, o, k', i', t', B, n', c1, B', n1, c2, rfl, hg, e0, e1, e2, e3, e4, hx⟩ := (HL.out).at_ (j := j) (x := its[j]'hlt) (List.getElem?_eq_getElem _)
      have hj := alls_take (p := okF) (List.getElem?_eq_getElem (l := its) (i := j) hlt)
      have hle := size_at (List.getElem?_eq_getElem (l := its) (i := j) hlt)
      have hfl := fun h => alls_false (p := okF) (List.getElem?_eq_getElem (l := its) (i := j) hlt) h
      have hb' : Below w.heap.size w wr := below_next B0.out hb.out
      have cc := fun (q : Nat) => hb'.cell (p := ⟨g, q, none⟩) hg
      rw [Nat.zero_add] at e0 e1 e2 e3 e4
      rw [← cc] at e0 e1 e2 e3 e4
      have hc := IH.out (its[j]'hlt) wr _ (by omega) (hx.below hb')
      generalize its[j]'hlt = x at *
      unfold VT.wf at hc
      have HC := Lib.hid hc
      rw [ha.out, Bool.true_and] at hj
      have HJ := Lib.hid hj
      have HF := Lib.hid hfl
      clear hc hx hb' cc hj hfl
      unfold vag at HC
      go_wp2_with fail
      refine (HC.out).mono ?_
      rintro e w' ⟨rfl, hb2⟩
      have HB2 := Lib.hid (below_next hb.out hb2)
      clear hb2
      cases hxx : x.all okF with
      | true =>
        have HXX := Lib.hid hxx
        clear hxx
        go_wp2
        go_roundw
        case rel => exact ⟨j + 1, by omega, by go_num, Lib.hid (by rw [HJ.out, HXX.out]), HB2⟩
        case measure => simp [intOf]; omega
      | false =>
        have HXX := Lib.hid (HF.out hxx)
        clear hxx
        go_wp2
        go_ret
        exact ⟨ret_bool (by rw [VT.wf, VT.all_mk, HXX.out, Bool.and_false]), below_next B0.out HB2.out⟩
    · obtain rfl : j = its.length := by omega
      have HA : Hid (alls okF its = true) := Lib.hid (by rw [← ha.out, List.take_length])
      have C0 := (hb.out.cell (p := ⟨w.heap.size, 0, none⟩) S1.out).trans (D.out 0)
      have C1 := (hb.out.cell (p := ⟨w.heap.size, 1, none⟩) S1.out).trans (D.out 1)
      have C2 := (hb.out.cell (p := ⟨w.heap.size, 2, none⟩) S1.out).trans (D.out 2)
      have C4 := (hb.out.cell (p := ⟨w.heap.size, 4, none⟩) S1.out).trans (D.out 4)
      clear hlt ha
      by_cases hI0 : i = 0
      · have fhI0 : (i == 0) = true := by rw [beq_iff_eq]; omega
        by_cases hT : t.size = 0
        · have fhT : (t.toList == []) = true := by rw [tl_empty]; exact decide_eq_true hT
          by_cases hK : ks.length = 0
          · have fhK : (((ks.length : Nat) : Int) == 0) = true := by rw [beq_iff_eq]; omega
            have key : okF (.mk 4 i t its ks) = true := by rw [okF_4]; simp [*]
            have KEY := Lib.hid key
            clear hI0 hT hK key
            go_wp2
            go_ret
            exact ⟨ret_bool (by rw [VT.wf, VT.all_mk, KEY.out, HA.out]; rfl), below_next B0.out hb.out⟩
          · have fhK : (((ks.length : Nat) : Int) == 0) = false := by rw [beq_eq_false_iff_ne]; omega
            have key : okF (.mk 4 i t its ks) = false := by rw [okF_4]; simp [*]
            have KEY := Lib.hid key
            clear hI0 hT hK key
            go_wp2
            go_ret
            exact ⟨ret_bool (by rw [VT.wf, VT.all_mk, KEY.out, HA.out]; rfl), below_next B0.out hb.out⟩
        · have fhT : (t.toList == []) = false := by rw [tl_empty]; exact decide_eq_false hT
          have key : okF (.mk 4 i t its ks) = false := by rw [okF_4]; simp [*]
          have KEY := Lib.hid key
          clear hI0 hT key
          go_wp2
          go_ret
          exact ⟨ret_bool (by rw [VT.wf, VT.all_mk, KEY.out, HA.out]; rfl), below_next B0.out hb.out⟩
      · have fhI0 : (i == 0) = false := by rw [beq_eq_false_iff_ne]; omega
        have key : okF (.mk 4 i t its ks) = false := by rw [okF_4]; simp [*]
        have KEY := Lib.hid key
        clear hI0 key
        go_wp2
        go_ret
        exact ⟨ret_bool (by rw [VT.wf, VT.all_mk, KEY.out, HA.out]; rfl), below_next B0.out hb.out⟩

set_option maxRecDepth 100000 in
set_option maxHeartbeats 4000000 in
set_option linter.unusedVariables false in
theorem wfr_5 (m : Nat) (IH : Hid (∀ (x : VT) (w : World) (v : Value), x.size ≤ m → Lies w (Lo w) x v → Calls Try.prog 39 #[v] w (Gives (.bool x.wf) w))) (i : Int) (t : ByteArray) (its : List VT) (ks : List ByteArray) (A : Option Addr) (c : Nat) (A' : Option Addr) (c' : Nat) (w : World) (hL : LiesL w (Lo w) A 0 its) (hS : LiesS w (Lo w) A' ks)
    (hlc : its.length ≤ c) (hcm : c ≤ 9223372036854775807) (hkc : ks.length ≤ c') (hcm' : c' ≤ 9223372036854775807) (hsz : sizes its ≤ m) :
    Calls Try.prog 39 #[vag 5 i t A its.length c A' ks.length c'] w (Gives (.bool (VT.mk 5 i t its ks).wf) w) := by
  have HS := Lib.hid hS
  have HL := Lib.hid hL
  clear hS hL
  unfold vag
  go_enter Try.func39, Try.ntmps39
  go_wp2
  obtain ⟨w1, hw1⟩ : ∃ w1, w1 = w.alloc (.cells #[.int .i64 5, .int .i64 i, .string t, .slice A its.length c, .slice A' ks.length c'] 26) := ⟨_, rfl⟩
  have B0 : Hid (Below w.heap.size w w1) := Lib.hid (by rw [hw1]; exact below_one _ _)
  have S1 : Hid (w.heap.size < w1.heap.size) := Lib.hid (by rw [hw1]; simp)
  have D : Hid (∀ j, w1.cell? ⟨w.heap.size, j, none⟩ = (#[.int .i64 5, .int .i64 i, .string t, .slice A its.length c, .slice A' ks.length c'] : Array Value)[j]?) := Lib.hid (fun j => by rw [hw1, World.cell?_alloc_at _ _ _ _ rfl])
  rw [← hw1]
  have HW := Lib.hid hw1
  clear hw1
  go_loopw [3] (fun s wr => ∃ j : Nat, j ≤ its.length ∧ s = .int .i64 j ∧ Hid (alls okF (its.take j) = true) ∧ Hid (Below w1.heap.size w1 wr)) (fun s _ => its.length - (intOf s).toNat)
  case atStart => exact ⟨0, by omega, rfl, Lib.hid rfl, Lib.hid (Below.refl _ _)⟩
  case round =>
    obtain ⟨j, hjn, rfl, ha, hb⟩ := hrel
    have C3 := (hb.out.cell (p := ⟨w.heap.size, 3, none⟩) S1.out).trans (D.out 3)
    by_cases hlt : j < its.length
    · obtain ⟨g, o, k', i', t', B, n', c1, B', n1, c2, rfl, hg, e0, e1, e2, e3, e4, hx⟩ := (HL.out).at_ (j := j) (x := its[j]'hlt) (List.getElem?_eq_getElem _)
      have hj := alls_take (p := okF) (List.getElem?_eq_getElem (l := its) (i := j) hlt)
      have hle := size_at (List.getElem?_eq_getElem (l := its) (i := j) hlt)
      have hfl := fun h => alls_false (p := okF) (List.getElem?_eq_getElem (l := its) (i := j) hlt) h
      have hb' : Below w.heap.size w wr := below_next B0.out hb.out
      have cc := fun (q : Nat) => hb'.cell (p := ⟨g, q, none⟩) hg
      rw [Nat.zero_add] at e0 e1 e2 e3 e4
      rw [← cc] at e0 e1 e2 e3 e4
      have hc := IH.out (its[j]'hlt) wr _ (by omega) (hx.below hb')
      generalize its[j]'hlt = x at *
      unfold VT.wf at hc
      have HC := Lib.hid hc
      rw [ha.out, Bool.true_and] at hj
      have HJ := Lib.hid hj
      have HF := Lib.hid hfl
      clear hc hx hb' cc hj hfl
      unfold vag at HC
      go_wp2_with fail
      refine (HC.out).mono ?_
      rintro e w' ⟨rfl, hb2⟩
      have HB2 := Lib.hid (below_next hb.out hb2)
      clear hb2
      cases hxx : x.all okF with
      | true =>
        have HXX := Lib.hid hxx
        clear hxx
        go_wp2
        go_roundw
        case rel => exact ⟨j + 1, by omega, by go_num, Lib.hid (by rw [HJ.out, HXX.out]), HB2⟩
        case measure => simp [intOf]; omega
      | false =>
        have HXX := Lib.hid (HF.out hxx)
        clear hxx
        go_wp2
        go_ret
        exact ⟨ret_bool (by rw [VT.wf, VT.all_mk, HXX.out, Bool.and_false]), below_next B0.out HB2.out⟩
    · obtain rfl : j = its.length := by omega
      have HA : Hid (alls okF its = true) := Lib.hid (by rw [← ha.out, List.take_length])
      have C0 := (hb.out.cell (p := ⟨w.heap.size, 0, none⟩) S1.out).trans (D.out 0)
      have C1 := (hb.out.cell (p := ⟨w.heap.size, 1, none⟩) S1.out).trans (D.out 1)
      have C2 := (hb.out.cell (p := ⟨w.heap.size, 2, none⟩) S1.out).trans (D.out 2)
      have C4 := (hb.out.cell (p := ⟨w.heap.size, 4, none⟩) S1.out).trans (D.out 4)
      clear hlt ha
      by_cases hI0 : i = 0
      · have fhI0 : (i == 0) = true := by rw [beq_iff_eq]; omega
        by_cases hT : t.size = 0
        · have fhT : (t.toList == []) = true := by rw [tl_empty]; exact decide_eq_true hT
          by_cases hL : ks.length = its.length
          · have fhL : (((ks.length : Nat) : Int) == ((its.length : Nat) : Int)) = true := by rw [beq_iff_eq]; omega
            by_cases hR : rising ks = true
            · have fhR : rising ks = true := by simpa using hR
              have key : okF (.mk 5 i t its ks) = true := by rw [okF_5]; simp [*]
              have KEY := Lib.hid key
              clear hI0 hT hL hR key
              go_wp2_with fail
              refine (rising_any _ _ _ _ (HS.out.below (below_next B0.out hb.out)) hkc hcm').mono ?_
              rintro e w' ⟨rfl, hb2⟩
              have HB2 := Lib.hid (below_next hb.out hb2)
              clear hb2
              rw [fhR]
              go_wp2
              go_ret
              exact ⟨ret_bool (by rw [VT.wf, VT.all_mk, KEY.out, HA.out]; rfl), below_next B0.out HB2.out⟩
            · have fhR : rising ks = false := by simpa using hR
              have key : okF (.mk 5 i t its ks) = false := by rw [okF_5]; simp [*]
              have KEY := Lib.hid key
              clear hI0 hT hL hR key
              go_wp2_with fail
              refine (rising_any _ _ _ _ (HS.out.below (below_next B0.out hb.out)) hkc hcm').mono ?_
              rintro e w' ⟨rfl, hb2⟩
              have HB2 := Lib.hid (below_next hb.out hb2)
              clear hb2
              rw [fhR]
              go_wp2
              go_ret
              exact ⟨ret_bool (by rw [VT.wf, VT.all_mk, KEY.out, HA.out]; rfl), below_next B0.out HB2.out⟩
          · have fhL : (((ks.length : Nat) : Int) == ((its.length : Nat) : Int)) = false := by rw [beq_eq_false_iff_ne]; omega
            have key : okF (.mk 5 i t its ks) = false := by rw [okF_5]; simp [*]
            have KEY := Lib.hid key
            clear hI0 hT hL key
            go_wp2
            go_ret
            exact ⟨ret_bool (by rw [VT.wf, VT.all_mk, KEY.out, HA.out]; rfl), below_next B0.out hb.out⟩
        · have fhT : (t.toList == []) = false := by rw [tl_empty]; exact decide_eq_false hT
          have key : okF (.mk 5 i t its ks) = false := by rw [okF_5]; simp [*]
          have KEY := Lib.hid key
          clear hI0 hT key
          go_wp2
          go_ret
          exact ⟨ret_bool (by rw [VT.wf, VT.all_mk, KEY.out, HA.out]; rfl), below_next B0.out hb.out⟩
      · have fhI0 : (i == 0) = false := by rw [beq_eq_false_iff_ne]; omega
        have key : okF (.mk 5 i t its ks) = false := by rw [okF_5]; simp [*]
        have KEY := Lib.hid key
        clear hI0 key
        go_wp2
        go_ret
        exact ⟨ret_bool (by rw [VT.wf, VT.all_mk, KEY.out, HA.out]; rfl), below_next B0.out hb.out⟩

set_option maxRecDepth 100000 in
set_option maxHeartbeats 4000000 in
set_option linter.unusedVariables false in
theorem wfr_6 (m : Nat) (IH : Hid (∀ (x : VT) (w : World) (v : Value), x.size ≤ m → Lies w (Lo w) x v → Calls Try.prog 39 #[v] w (Gives (.bool x.wf) w))) (i : Int) (t : ByteArray) (its : List VT) (ks : List ByteArray) (A : Option Addr) (c : Nat) (A' : Option Addr) (c' : Nat) (w : World) (hL : LiesL w (Lo w) A 0 its) (hS : LiesS w (Lo w) A' ks)
    (hlc : its.length ≤ c) (hcm : c ≤ 9223372036854775807) (hkc : ks.length ≤ c') (hcm' : c' ≤ 9223372036854775807) (hsz : sizes its ≤ m) :
    Calls Try.prog 39 #[vag 6 i t A its.length c A' ks.length c'] w (Gives (.bool (VT.mk 6 i t its ks).wf) w) := by
  have HS := Lib.hid hS
  have HL := Lib.hid hL
  clear hS hL
  unfold vag
  go_enter Try.func39, Try.ntmps39
  go_wp2
  obtain ⟨w1, hw1⟩ : ∃ w1, w1 = w.alloc (.cells #[.int .i64 6, .int .i64 i, .string t, .slice A its.length c, .slice A' ks.length c'] 26) := ⟨_, rfl⟩
  have B0 : Hid (Below w.heap.size w w1) := Lib.hid (by rw [hw1]; exact below_one _ _)
  have S1 : Hid (w.heap.size < w1.heap.size) := Lib.hid (by rw [hw1]; simp)
  have D : Hid (∀ j, w1.cell? ⟨w.heap.size, j, none⟩ = (#[.int .i64 6, .int .i64 i, .string t, .slice A its.length c, .slice A' ks.length c'] : Array Value)[j]?) := Lib.hid (fun j => by rw [hw1, World.cell?_alloc_at _ _ _ _ rfl])
  rw [← hw1]
  have HW := Lib.hid hw1
  clear hw1
  go_loopw [3] (fun s wr => ∃ j : Nat, j ≤ its.length ∧ s = .int .i64 j ∧ Hid (alls okF (its.take j) = true) ∧ Hid (Below w1.heap.size w1 wr)) (fun s _ => its.length - (intOf s).toNat)
  case atStart => exact ⟨0, by omega, rfl, Lib.hid rfl, Lib.hid (Below.refl _ _)⟩
  case round =>
    obtain ⟨j, hjn, rfl, ha, hb⟩ := hrel
    have C3 := (hb.out.cell (p := ⟨w.heap.size, 3, none⟩) S1.out).trans (D.out 3)
    by_cases hlt : j < its.length
    · obtain ⟨g, o, k', i', t', B, n', c1, B', n1, c2, rfl, hg, e0, e1, e2, e3, e4, hx⟩ := (HL.out).at_ (j := j) (x := its[j]'hlt) (List.getElem?_eq_getElem _)
      have hj := alls_take (p := okF) (List.getElem?_eq_getElem (l := its) (i := j) hlt)
      have hle := size_at (List.getElem?_eq_getElem (l := its) (i := j) hlt)
      have hfl := fun h => alls_false (p := okF) (List.getElem?_eq_getElem (l := its) (i := j) hlt) h
      have hb' : Below w.heap.size w wr := below_next B0.out hb.out
      have cc := fun (q : Nat) => hb'.cell (p := ⟨g, q, none⟩) hg
      rw [Nat.zero_add] at e0 e1 e2 e3 e4
      rw [← cc] at e0 e1 e2 e3 e4
      have hc := IH.out (its[j]'hlt) wr _ (by omega) (hx.below hb')
      generalize its[j]'hlt = x at *
      unfold VT.wf at hc
      have HC := Lib.hid hc
      rw [ha.out, Bool.true_and] at hj
      have HJ := Lib.hid hj
      have HF := Lib.hid hfl
      clear hc hx hb' cc hj hfl
      unfold vag at HC
      go_wp2_with fail
      refine (HC.out).mono ?_
      rintro e w' ⟨rfl, hb2⟩
      have HB2 := Lib.hid (below_next hb.out hb2)
      clear hb2
      cases hxx : x.all okF with
      | true =>
        have HXX := Lib.hid hxx
        clear hxx
        go_wp2
        go_roundw
        case rel => exact ⟨j + 1, by omega, by go_num, Lib.hid (by rw [HJ.out, HXX.out]), HB2⟩
        case measure => simp [intOf]; omega
      | false =>
        have HXX := Lib.hid (HF.out hxx)
        clear hxx
        go_wp2
        go_ret
        exact ⟨ret_bool (by rw [VT.wf, VT.all_mk, HXX.out, Bool.and_false]), below_next B0.out HB2.out⟩
    · obtain rfl : j = its.length := by omega
      have HA : Hid (alls okF its = true) := Lib.hid (by rw [← ha.out, List.take_length])
      have C0 := (hb.out.cell (p := ⟨w.heap.size, 0, none⟩) S1.out).trans (D.out 0)
      have C1 := (hb.out.cell (p := ⟨w.heap.size, 1, none⟩) S1.out).trans (D.out 1)
      have C2 := (hb.out.cell (p := ⟨w.heap.size, 2, none⟩) S1.out).trans (D.out 2)
      have C4 := (hb.out.cell (p := ⟨w.heap.size, 4, none⟩) S1.out).trans (D.out 4)
      clear hlt ha
      by_cases hP : 0 ≤ i
      · have fhP : decide ((0 : Int) ≤ i) = true := decide_eq_true hP
        by_cases hT : t.size = 0
        · have fhT : (t.toList == []) = true := by rw [tl_empty]; exact decide_eq_true hT
          by_cases hN : its.length = 0
          · have fhN : (((its.length : Nat) : Int) == 0) = true := by rw [beq_iff_eq]; omega
            by_cases hK : ks.length = 0
            · have fhK : (((ks.length : Nat) : Int) == 0) = true := by rw [beq_iff_eq]; omega
              have key : okF (.mk 6 i t its ks) = true := by rw [okF_6]; simp [*]
              have KEY := Lib.hid key
              clear hP hT hN hK key
              go_wp2
              go_ret
              exact ⟨ret_bool (by rw [VT.wf, VT.all_mk, KEY.out, HA.out]; rfl), below_next B0.out hb.out⟩
            · have fhK : (((ks.length : Nat) : Int) == 0) = false := by rw [beq_eq_false_iff_ne]; omega
              have key : okF (.mk 6 i t its ks) = false := by rw [okF_6]; simp [*]
              have KEY := Lib.hid key
              clear hP hT hN hK key
              go_wp2
              go_ret
              exact ⟨ret_bool (by rw [VT.wf, VT.all_mk, KEY.out, HA.out]; rfl), below_next B0.out hb.out⟩
          · have fhN : (((its.length : Nat) : Int) == 0) = false := by rw [beq_eq_false_iff_ne]; omega
            have key : okF (.mk 6 i t its ks) = false := by rw [okF_6]; simp [*]
            have KEY := Lib.hid key
            clear hP hT hN key
            go_wp2
            go_ret
            exact ⟨ret_bool (by rw [VT.wf, VT.all_mk, KEY.out, HA.out]; rfl), below_next B0.out hb.out⟩
        · have fhT : (t.toList == []) = false := by rw [tl_empty]; exact decide_eq_false hT
          have key : okF (.mk 6 i t its ks) = false := by rw [okF_6]; simp [*]
          have KEY := Lib.hid key
          clear hP hT key
          go_wp2
          go_ret
          exact ⟨ret_bool (by rw [VT.wf, VT.all_mk, KEY.out, HA.out]; rfl), below_next B0.out hb.out⟩
      · have fhP : decide ((0 : Int) ≤ i) = false := decide_eq_false hP
        have key : okF (.mk 6 i t its ks) = false := by rw [okF_6]; simp [*]
        have KEY := Lib.hid key
        clear hP key
        go_wp2
        go_ret
        exact ⟨ret_bool (by rw [VT.wf, VT.all_mk, KEY.out, HA.out]; rfl), below_next B0.out hb.out⟩

set_option maxRecDepth 100000 in
set_option maxHeartbeats 4000000 in
set_option linter.unusedVariables false in
theorem wfr_o (m : Nat) (IH : Hid (∀ (x : VT) (w : World) (v : Value), x.size ≤ m → Lies w (Lo w) x v → Calls Try.prog 39 #[v] w (Gives (.bool x.wf) w))) (k : Int) (hk : ¬ (0 ≤ k ∧ k ≤ 6)) (i : Int) (t : ByteArray) (its : List VT) (ks : List ByteArray) (A : Option Addr) (c : Nat) (A' : Option Addr) (c' : Nat) (w : World) (hL : LiesL w (Lo w) A 0 its) (hS : LiesS w (Lo w) A' ks)
    (hlc : its.length ≤ c) (hcm : c ≤ 9223372036854775807) (hkc : ks.length ≤ c') (hcm' : c' ≤ 9223372036854775807) (hsz : sizes its ≤ m) :
    Calls Try.prog 39 #[vag k i t A its.length c A' ks.length c'] w (Gives (.bool (VT.mk k i t its ks).wf) w) := by
  have HS := Lib.hid hS
  have HL := Lib.hid hL
  clear hS hL
  unfold vag
  go_enter Try.func39, Try.ntmps39
  go_wp2
  obtain ⟨w1, hw1⟩ : ∃ w1, w1 = w.alloc (.cells #[.int .i64 k, .int .i64 i, .string t, .slice A its.length c, .slice A' ks.length c'] 26) := ⟨_, rfl⟩
  have B0 : Hid (Below w.heap.size w w1) := Lib.hid (by rw [hw1]; exact below_one _ _)
  have S1 : Hid (w.heap.size < w1.heap.size) := Lib.hid (by rw [hw1]; simp)
  have D : Hid (∀ j, w1.cell? ⟨w.heap.size, j, none⟩ = (#[.int .i64 k, .int .i64 i, .string t, .slice A its.length c, .slice A' ks.length c'] : Array Value)[j]?) := Lib.hid (fun j => by rw [hw1, World.cell?_alloc_at _ _ _ _ rfl])
  rw [← hw1]
  have HW := Lib.hid hw1
  clear hw1
  go_loopw [3] (fun s wr => ∃ j : Nat, j ≤ its.length ∧ s = .int .i64 j ∧ Hid (alls okF (its.take j) = true) ∧ Hid (Below w1.heap.size w1 wr)) (fun s _ => its.length - (intOf s).toNat)
  case atStart => exact ⟨0, by omega, rfl, Lib.hid rfl, Lib.hid (Below.refl _ _)⟩
  case round =>
    obtain ⟨j, hjn, rfl, ha, hb⟩ := hrel
    have C3 := (hb.out.cell (p := ⟨w.heap.size, 3, none⟩) S1.out).trans (D.out 3)
    by_cases hlt : j < its.length
    · obtain ⟨g, o, k', i', t', B, n', c1, B', n1, c2, rfl, hg, e0, e1, e2, e3, e4, hx⟩ := (HL.out).at_ (j := j) (x := its[j]'hlt) (List.getElem?_eq_getElem _)
      have hj := alls_take (p := okF) (List.getElem?_eq_getElem (l := its) (i := j) hlt)
      have hle := size_at (List.getElem?_eq_getElem (l := its) (i := j) hlt)
      have hfl := fun h => alls_false (p := okF) (List.getElem?_eq_getElem (l := its) (i := j) hlt) h
      have hb' : Below w.heap.size w wr := below_next B0.out hb.out
      have cc := fun (q : Nat) => hb'.cell (p := ⟨g, q, none⟩) hg
      rw [Nat.zero_add] at e0 e1 e2 e3 e4
      rw [← cc] at e0 e1 e2 e3 e4
      have hc := IH.out (its[j]'hlt) wr _ (by omega) (hx.below hb')
      generalize its[j]'hlt = x at *
      unfold VT.wf at hc
      have HC := Lib.hid hc
      rw [ha.out, Bool.true_and] at hj
      have HJ := Lib.hid hj
      have HF := Lib.hid hfl
      clear hc hx hb' cc hj hfl
      unfold vag at HC
      go_wp2_with fail
      refine (HC.out).mono ?_
      rintro e w' ⟨rfl, hb2⟩
      have HB2 := Lib.hid (below_next hb.out hb2)
      clear hb2
      cases hxx : x.all okF with
      | true =>
        have HXX := Lib.hid hxx
        clear hxx
        go_wp2
        go_roundw
        case rel => exact ⟨j + 1, by omega, by go_num, Lib.hid (by rw [HJ.out, HXX.out]), HB2⟩
        case measure => simp [intOf]; omega
      | false =>
        have HXX := Lib.hid (HF.out hxx)
        clear hxx
        go_wp2
        go_ret
        exact ⟨ret_bool (by rw [VT.wf, VT.all_mk, HXX.out, Bool.and_false]), below_next B0.out HB2.out⟩
    · obtain rfl : j = its.length := by omega
      have HA : Hid (alls okF its = true) := Lib.hid (by rw [← ha.out, List.take_length])
      have C0 := (hb.out.cell (p := ⟨w.heap.size, 0, none⟩) S1.out).trans (D.out 0)
      have C1 := (hb.out.cell (p := ⟨w.heap.size, 1, none⟩) S1.out).trans (D.out 1)
      have C2 := (hb.out.cell (p := ⟨w.heap.size, 2, none⟩) S1.out).trans (D.out 2)
      have C4 := (hb.out.cell (p := ⟨w.heap.size, 4, none⟩) S1.out).trans (D.out 4)
      clear hlt ha
      have f0 : (k == 0) = false := by rw [beq_eq_false_iff_ne]; omega
      have f1 : (k == 1) = false := by rw [beq_eq_false_iff_ne]; omega
      have f2 : (k == 2) = false := by rw [beq_eq_false_iff_ne]; omega
      have f3 : (k == 3) = false := by rw [beq_eq_false_iff_ne]; omega
      have f4 : (k == 4) = false := by rw [beq_eq_false_iff_ne]; omega
      have f5 : (k == 5) = false := by rw [beq_eq_false_iff_ne]; omega
      have f6 : (k == 6) = false := by rw [beq_eq_false_iff_ne]; omega
      have key : okF (.mk k i t its ks) = false := by
        simp only [beq_eq_false_iff_ne] at f0 f1 f2 f3 f4 f5 f6
        simp [okF, VT.k, f0, f1, f2, f3, f4, f5, f6]
      have KEY := Lib.hid key
      clear key hk
      go_wp2
      go_ret
      exact ⟨ret_bool (by rw [VT.wf, VT.all_mk, KEY.out, HA.out]; rfl), below_next B0.out hb.out⟩

theorem refWf_all (m : Nat) : ∀ (x : VT) (w : World) (v : Value), x.size ≤ m → Lies w (Lo w) x v → Calls Try.prog 39 #[v] w (Gives (.bool x.wf) w) := by
  induction m with
  | zero => intro x _ _ h; have := size_pos x; omega
  | succ m ih =>
    intro x w v hsz hv
    have IH := Lib.hid ih
    obtain ⟨k, i, t, its, ks⟩ := x
    obtain ⟨A, c, A', c', rfl, _, _, _, h1, h2, hL, h3, h4, hS⟩ := hv.open
    rw [VT.size_mk] at hsz
    by_cases hk : 0 ≤ k ∧ k ≤ 6
    · obtain rfl | rfl | rfl | rfl | rfl | rfl | rfl : k = 0 ∨ k = 1 ∨ k = 2 ∨ k = 3 ∨ k = 4 ∨ k = 5 ∨ k = 6 := by omega
      · exact wfr_0 m IH i t its ks A c A' c' w hL hS h1 h2 h3 h4 (by omega)
      · exact wfr_1 m IH i t its ks A c A' c' w hL hS h1 h2 h3 h4 (by omega)
      · exact wfr_2 m IH i t its ks A c A' c' w hL hS h1 h2 h3 h4 (by omega)
      · exact wfr_3 m IH i t its ks A c A' c' w hL hS h1 h2 h3 h4 (by omega)
      · exact wfr_4 m IH i t its ks A c A' c' w hL hS h1 h2 h3 h4 (by omega)
      · exact wfr_5 m IH i t its ks A c A' c' w hL hS h1 h2 h3 h4 (by omega)
      · exact wfr_6 m IH i t its ks A c A' c' w hL hS h1 h2 h3 h4 (by omega)
    · exact wfr_o m IH k hk i t its ks A c A' c' w hL hS h1 h2 h3 h4 (by omega)
theorem refWf_any {x : VT} {v : Value} {w : World} (h : Lies w (Lo w) x v) : Calls Try.prog 39 #[v] w (Gives (.bool x.wf) w) := refWf_all x.size x w v (Nat.le_refl _) h
end Go.Proofs.Ytidinbeanaifmaa
namespace Go.Proofs.Ytidinbeanaifmaa
open Go.RowKit

set_option maxHeartbeats 400000 in
theorem refDepth_all (m : Nat) : ∀ (x : VT) (w : World) (v : Value), x.size ≤ m → m < 4611686018427387904 → Lies w (Lo w) x v → Calls Try.prog 34 #[v] w (Gives (.int .i64 (x.depth : Nat)) w) := by
  induction m with
  | zero => intro x _ _ h; have := size_pos x; omega
  | succ m ih =>
    intro x w v hsz hm hv
    obtain ⟨k, i, t, its, ks⟩ := x
    obtain ⟨A, c, A', c', rfl, hk, hi, ht, hlc, hcm, hL, hkc, hcm', hS⟩ := hv.open
    rw [VT.size_mk] at hsz
    have hdz := depth_le_size _ (VT.mk k i t its ks) (Nat.le_refl _)
    rw [VT.size_mk, VT.depth_mk] at hdz
    have HL := Lib.hid hL
    have IH := Lib.hid ih
    have hlen : its.length ≤ sizes its := by have := sizes_room its 0; simp [sizes] at this; omega
    clear hS hL ih hv
    obtain ⟨n, hn⟩ : ∃ n, n = its.length := ⟨_, rfl⟩
    rw [← hn] at hlc hlen ⊢
    have HN := Lib.hid hn
    clear hn
    unfold vag
    go_enter Try.func34, Try.ntmps34
    go_wp2
    obtain ⟨w1, hw1⟩ : ∃ w1, w1 = w.alloc (.cells #[.int .i64 k, .int .i64 i, .string t, .slice A n c, .slice A' ks.length c'] 26) := ⟨_, rfl⟩
    have B0 : Hid (Below w.heap.size w w1) := Lib.hid (by rw [hw1]; exact below_one _ _)
    have S1 : Hid (w.heap.size < w1.heap.size) := Lib.hid (by rw [hw1]; simp)
    have C3 : w1.cell? ⟨w.heap.size, 3, none⟩ = some (.slice A n c) := by rw [hw1, World.cell?_alloc_at _ _ _ _ rfl]; rfl
    rw [← hw1]
    have HW := Lib.hid hw1
    clear hw1
    go_loopw [3, 4, 5] (fun r t _ wr => ∃ j : Nat, j ≤ n ∧ t = .int .i64 j ∧ r = .int .i64 ((depths (its.take j) : Nat) : Int) ∧ Hid (Below w1.heap.size w1 wr)) (fun _ t _ _ => n - (intOf t).toNat)
    case atStart => exact ⟨0, by omega, rfl, by simp [depths], Lib.hid (Below.refl _ _)⟩
    case round =>
      obtain ⟨j, hjn, rfl, rfl, hb⟩ := hrel
      by_cases hlt : j < n
      · obtain ⟨g, o, k', i', t', B, n', c1, B', n1, c2, rfl, hg, e0, e1, e2, e3, e4, hx⟩ := (HL.out).at_ (j := j) (x := its[j]'(by rw [← HN.out]; exact hlt)) (List.getElem?_eq_getElem _)
        have hj := sizes_take (List.getElem?_eq_getElem (l := its) (i := j) (by rw [← HN.out]; exact hlt))
        have hle := sizes_take_le its (j + 1)
        have hdj := depths_take (List.getElem?_eq_getElem (l := its) (i := j) (by rw [← HN.out]; exact hlt))
        have hdl := depths_take_le its (j + 1)
        have hdj0 := depths_take_le its j
        have hb' : Below w.heap.size w wr := B0.out.trans (hb.out.mono (by have := S1.out; omega))
        have cc := fun (q : Nat) => hb'.cell (p := ⟨g, q, none⟩) hg
        rw [Nat.zero_add] at e0 e1 e2 e3 e4
        rw [← cc] at e0 e1 e2 e3 e4
        have C3' := (hb.out.cell (p := ⟨w.heap.size, 3, none⟩) S1.out).trans C3
        have hc := IH.out (its[j]'(by rw [← HN.out]; exact hlt)) wr _ (by omega) (by omega) (hx.below hb')
        generalize its[j]'(by rw [← HN.out]; exact hlt) = x at *
        have HC := Lib.hid hc
        have HB := Lib.hid hb'
        clear hc hx hb' cc C3
        unfold vag at HC
        go_wp2_with fail
        refine (HC.out).mono ?_
        rintro e w' ⟨rfl, hb2⟩
        have HB2 := Lib.hid (hb.out.trans (hb2.mono hb.out.size))
        clear hb2
        by_cases hmx : depths (its.take j) < x.depth
        · go_wp2
          go_roundw
          case rel => exact ⟨j + 1, by omega, by go_num, by rw [hdj]; go_num, HB2⟩
          case measure => simp [intOf]; omega
        · go_wp2
          go_roundw
          case rel => exact ⟨j + 1, by omega, by go_num, by rw [hdj]; go_num, HB2⟩
          case measure => simp [intOf]; omega
      · have C3' := (hb.out.cell (p := ⟨w.heap.size, 3, none⟩) S1.out).trans C3
        obtain rfl : j = n := by omega
        have hdl := depths_take_le its j
        go_wp2
        go_ret
        refine ⟨?_, B0.out.trans (hb.out.mono (by have := S1.out; omega))⟩
        rw [VT.depth_mk, HN.out, List.take_length]
        rfl
end Go.Proofs.Ytidinbeanaifmaa
namespace Go.Proofs.Ytidinbeanaifmaa
open Go.RowKit

set_option maxHeartbeats 1000000 in
theorem refFuture_all (m : Nat) : ∀ (x : VT) (w : World) (v : Value), x.size ≤ m → Lies w (Lo w) x v → Calls Try.prog 71 #[v] w (Gives (.bool (!x.all noFut)) w) := by
  induction m with
  | zero => intro x _ _ h; have := size_pos x; omega
  | succ m ih =>
    intro x w v hsz hv
    obtain ⟨k, i, t, its, ks⟩ := x
    obtain ⟨A, c, A', c', rfl, _, _, _, hlc, hcm, hL, _, _, _⟩ := hv.open
    rw [VT.size_mk] at hsz
    obtain ⟨r, hr⟩ : ∃ r, r = !(VT.mk k i t its ks).all noFut := ⟨_, rfl⟩
    rw [← hr]
    rw [VT.all_mk] at hr
    have hno : ∀ (j : Nat) (y : VT), its[j]? = some y → y.all noFut = false → r = true := fun j y h h' => by rw [hr, alls_false h h', Bool.and_false]; rfl
    have hyes : alls noFut its = true → r = (k == 6) := fun h => by
      rw [hr, h, Bool.and_true]
      unfold noFut VT.k
      by_cases hk : k = 6 <;> simp [hk]
    have HNO := Lib.hid hno
    have HYES := Lib.hid hyes
    have HL := Lib.hid hL
    have IH := Lib.hid ih
    clear hL ih hv hr hno hyes
    obtain ⟨n, hn⟩ : ∃ n, n = its.length := ⟨_, rfl⟩
    rw [← hn] at hlc ⊢
    have HN := Lib.hid hn
    clear hn
    unfold vag
    go_enter Try.func71, Try.ntmps71
    go_wp2
    obtain ⟨w1, hw1⟩ : ∃ w1, w1 = w.alloc (.cells #[.int .i64 k, .int .i64 i, .string t, .slice A n c, .slice A' ks.length c'] 26) := ⟨_, rfl⟩
    have B0 : Hid (Below w.heap.size w w1) := Lib.hid (by rw [hw1]; exact below_one _ _)
    have S1 : Hid (w.heap.size < w1.heap.size) := Lib.hid (by rw [hw1]; simp)
    have X1 : Hid (∀ q, w1.cell? ⟨w.heap.size, q, none⟩ = (#[.int .i64 k, .int .i64 i, .string t, .slice A n c, .slice A' ks.length c'] : Array Value)[q]?) := Lib.hid (fun q => by rw [hw1, World.cell?_alloc_at _ _ _ _ rfl])
    rw [← hw1]
    have HW := Lib.hid hw1
    clear hw1
    go_loopw [3] (fun s wr => ∃ j : Nat, j ≤ n ∧ s = .int .i64 j ∧ Hid (alls noFut (its.take j) = true) ∧ Hid (Below w1.heap.size w1 wr)) (fun s _ => n - (intOf s).toNat)
    case atStart => exact ⟨0, by omega, rfl, Lib.hid (by simp [alls]), Lib.hid (Below.refl _ _)⟩
    case round =>
      obtain ⟨j, hjn, rfl, ha, hb⟩ := hrel
      have b0 := (hb.out.cell (p := ⟨w.heap.size, 0, none⟩) S1.out).trans (X1.out 0)
      have b3 := (hb.out.cell (p := ⟨w.heap.size, 3, none⟩) S1.out).trans (X1.out 3)
      change _ = some (Value.int .i64 k) at b0
      change _ = some (Value.slice A n c) at b3
      by_cases hlt : j < n
      · have g1 := List.getElem?_eq_getElem (l := its) (i := j) (by rw [← HN.out]; exact hlt)
        obtain ⟨g, o, k', i', t', B, n', c1, B', n1, c2, rfl, hg, e0, e1, e2, e3, e4, hx⟩ := (HL.out).at_ g1
        have hle := size_at g1
        have htk := alls_take (p := noFut) g1
        have HN2 := Lib.hid (HNO.out j _ g1)
        have HB := Lib.hid (below_next B0.out hb.out)
        generalize its[j]'(by rw [← HN.out]; exact hlt) = x at *
        have cc := fun (q : Nat) => HB.out.cell (p := ⟨g, q, none⟩) hg
        rw [Nat.zero_add] at e0 e1 e2 e3 e4
        rw [← cc] at e0 e1 e2 e3 e4
        have hc := IH.out x wr _ (by omega) (hx.below HB.out)
        generalize x.all noFut = p at *
        have HC := Lib.hid hc
        have HTK := Lib.hid htk
        clear hc hx cc g1 htk b0
        unfold vag at HC
        go_wp2_with fail
        refine (HC.out).mono ?_
        rintro e w' ⟨rfl, hb2⟩
        have HB2 := Lib.hid (below_next hb.out hb2)
        clear hb2
        cases p with
        | true =>
          go_wp2
          go_roundw
          case rel => exact ⟨j + 1, by omega, by go_num, Lib.hid (by rw [HTK.out, ha.out]; rfl), HB2⟩
          case measure => simp [intOf]; omega
        | false =>
          have HR := Lib.hid (HN2.out rfl)
          go_wp2
          go_ret
          exact ⟨ret_bool HR.out.symm, below_next B0.out HB2.out⟩
      · have HR := Lib.hid (HYES.out (by
          have := ha.out
          rwa [show j = n by omega, HN.out, List.take_length] at this))
        go_wp2
        go_ret
        exact ⟨ret_bool HR.out.symm, below_next B0.out hb.out⟩
theorem refFuture_any {x : VT} {v : Value} {w : World} (h : Lies w (Lo w) x v) : Calls Try.prog 71 #[v] w (Gives (.bool (!x.all noFut)) w) := refFuture_all x.size x w v (Nat.le_refl _) h

set_option maxHeartbeats 1000000 in
theorem refShort_all (m : Nat) : ∀ (x : VT) (w : World) (v : Value), x.size ≤ m → Lies w (Lo w) x v → Calls Try.prog 93 #[v] w (Gives (.bool (x.all shortF)) w) := by
  induction m with
  | zero => intro x _ _ h; have := size_pos x; omega
  | succ m ih =>
    intro x w v hsz hv
    obtain ⟨k, i, t, its, ks⟩ := x
    obtain ⟨A, c, A', c', rfl, _, _, htm, hlc, hcm, hL, hkc, hcm', hS⟩ := hv.open
    rw [VT.size_mk] at hsz
    obtain ⟨r, hr⟩ : ∃ r, r = (VT.mk k i t its ks).all shortF := ⟨_, rfl⟩
    rw [← hr]
    rw [VT.all_mk] at hr
    have hno : ∀ (j : Nat) (y : VT), its[j]? = some y → y.all shortF = false → r = false := fun j y h h' => by rw [hr, alls_false h h', Bool.and_false]
    have hnk : (ks.all fun s => decide (s.size ≤ 4096)) = false → r = false := fun h => by rw [hr]; unfold shortF VT.ks; rw [h, Bool.and_false, Bool.false_and]
    have hyes : t.size ≤ 4096 → (ks.all fun s => decide (s.size ≤ 4096)) = true → alls shortF its = true → r = true := fun h1 h2 h3 => by
      rw [hr, h3]; unfold shortF VT.ks VT.t; rw [h2, decide_eq_true h1]; rfl
    have hnt : ¬ t.size ≤ 4096 → r = false := fun h => by rw [hr]; unfold shortF VT.t; rw [decide_eq_false h, Bool.false_and, Bool.false_and]
    have HNO := Lib.hid hno
    have HNK := Lib.hid hnk
    have HYES := Lib.hid hyes
    have HNT := Lib.hid hnt
    have HL := Lib.hid hL
    have HS := Lib.hid hS
    have IH := Lib.hid ih
    clear hL hS ih hv hr hno hyes hnk hnt
    obtain ⟨n, hn⟩ : ∃ n, n = its.length := ⟨_, rfl⟩
    rw [← hn] at hlc ⊢
    have HN := Lib.hid hn
    clear hn
    unfold vag
    by_cases ht : t.size ≤ 4096
    · have g2 : decide (4096 < (t.size : Int)) = false := decide_eq_false (by omega)
      have HT := Lib.hid ht
      clear ht HNT
      go_enter Try.func93, Try.ntmps93
      go_wp2
      obtain ⟨w1, hw1⟩ : ∃ w1, w1 = w.alloc (.cells #[.int .i64 k, .int .i64 i, .string t, .slice A n c, .slice A' ks.length c'] 26) := ⟨_, rfl⟩
      have B0 : Hid (Below w.heap.size w w1) := Lib.hid (by rw [hw1]; exact below_one _ _)
      have S1 : Hid (w.heap.size < w1.heap.size) := Lib.hid (by rw [hw1]; simp)
      have X1 : Hid (∀ q, w1.cell? ⟨w.heap.size, q, none⟩ = (#[.int .i64 k, .int .i64 i, .string t, .slice A n c, .slice A' ks.length c'] : Array Value)[q]?) := Lib.hid (fun q => by rw [hw1, World.cell?_alloc_at _ _ _ _ rfl])
      rw [← hw1]
      have x4 := X1.out 4
      change _ = some (Value.slice A' ks.length c') at x4
      have HW := Lib.hid hw1
      clear hw1
      go_loopw [3] (fun s wr => ∃ j : Nat, j ≤ ks.length ∧ s = .int .i64 j ∧ w1 = wr ∧ Hid ((ks.take j).all (fun s => decide (s.size ≤ 4096)) = true)) (fun s _ => ks.length - (intOf s).toNat)
      case atStart => exact ⟨0, by omega, rfl, rfl, Lib.hid rfl⟩
      case round =>
        obtain ⟨j, hjn, rfl, rfl, ha⟩ := hrel
        by_cases hlt : j < ks.length
        · have hkj : ks[j]? = some (ks.getD j ByteArray.empty) := by rw [List.getD_eq_getElem?_getD, List.getElem?_eq_getElem hlt]; rfl
          obtain ⟨hsz2, g, o, rfl, hg, e0⟩ := HS.out j _ hkj
          rw [← B0.out.cell (p := ⟨g, o + j, none⟩) hg] at e0
          have hst := fun h => short_take hkj ha.out h
          have hno := fun h => short_no hkj h
          generalize ks.getD j ByteArray.empty = s at *
          have HST := Lib.hid hst
          have HNO2 := Lib.hid hno
          clear hst hno hkj
          by_cases hs : s.size ≤ 4096
          · have g3 : decide (4096 < (s.size : Int)) = false := decide_eq_false (by omega)
            go_wp2
            go_roundw
            case rel => exact ⟨j + 1, by omega, by go_num, trivial, Lib.hid (HST.out hs)⟩
            case measure => simp [intOf]; omega
          · have g3 : decide (4096 < (s.size : Int)) = true := decide_eq_true (by omega)
            have HR := Lib.hid (HNK.out (HNO2.out hs))
            go_wp2
            go_ret
            exact ⟨ret_bool HR.out.symm, B0.out⟩
        · have HK : Hid ((ks.all fun s => decide (s.size ≤ 4096)) = true) := Lib.hid (by
            have := ha.out
            rwa [show j = ks.length by omega, List.take_length] at this)
          clear ha
          go_wp2
          obtain ⟨w6, hw6⟩ : ∃ w6, w6 = w1 := ⟨_, rfl⟩
          go_loopw [4] (fun s wr => ∃ j : Nat, j ≤ n ∧ s = .int .i64 j ∧ Hid (alls shortF (its.take j) = true) ∧ Hid (Below w1.heap.size w1 wr)) (fun s _ => n - (intOf s).toNat)
          case atStart => exact ⟨0, by omega, rfl, Lib.hid (by simp [alls]), Lib.hid (Below.refl _ _)⟩
          case round =>
            obtain ⟨j, hjn, rfl, ha, hb⟩ := hrel
            have b3 := (hb.out.cell (p := ⟨w.heap.size, 3, none⟩) S1.out).trans (X1.out 3)
            change _ = some (Value.slice A n c) at b3
            by_cases hlt : j < n
            · have g1 := List.getElem?_eq_getElem (l := its) (i := j) (by rw [← HN.out]; exact hlt)
              obtain ⟨g, o, k', i', t', B, n', c1, B', n1, c2, rfl, hg, e0, e1, e2, e3, e4, hx⟩ := (HL.out).at_ g1
              have hle := size_at g1
              have htk := alls_take (p := shortF) g1
              have HN2 := Lib.hid (HNO.out j _ g1)
              have HB := Lib.hid (below_next B0.out hb.out)
              generalize its[j]'(by rw [← HN.out]; exact hlt) = x at *
              have cc := fun (q : Nat) => HB.out.cell (p := ⟨g, q, none⟩) hg
              rw [Nat.zero_add] at e0 e1 e2 e3 e4
              rw [← cc] at e0 e1 e2 e3 e4
              have hc := IH.out x wr _ (by omega) (hx.below HB.out)
              generalize x.all shortF = p at *
              have HC := Lib.hid hc
              have HTK := Lib.hid htk
              clear hc hx cc g1 htk
              unfold vag at HC
              go_wp2_with fail
              refine (HC.out).mono ?_
              rintro e w' ⟨rfl, hb2⟩
              have HB2 := Lib.hid (below_next hb.out hb2)
              clear hb2
              cases p with
              | true =>
                go_wp2
                go_roundw
                case rel => exact ⟨j + 1, by omega, by go_num, Lib.hid (by rw [HTK.out, ha.out]; rfl), HB2⟩
                case measure => simp [intOf]; omega
              | false =>
                have HR := Lib.hid (HN2.out rfl)
                go_wp2
                go_ret
                exact ⟨ret_bool HR.out.symm, below_next B0.out HB2.out⟩
            · have HR := Lib.hid (HYES.out HT.out HK.out (by
                have := ha.out
                rwa [show j = n by omega, HN.out, List.take_length] at this))
              go_wp2
              go_ret
              exact ⟨ret_bool HR.out.symm, below_next B0.out hb.out⟩
    · have g2 : decide (4096 < (t.size : Int)) = true := decide_eq_true (by omega)
      have HR := Lib.hid (HNT.out ht)
      clear ht
      go_enter Try.func93, Try.ntmps93
      go_wp2
      go_ret
      exact ⟨ret_bool HR.out.symm, below_one _ _⟩
theorem refShort_any {x : VT} {v : Value} {w : World} (h : Lies w (Lo w) x v) : Calls Try.prog 93 #[v] w (Gives (.bool (x.all shortF)) w) := refShort_all x.size x w v (Nat.le_refl _) h
end Go.Proofs.Ytidinbeanaifmaa
namespace Go.Proofs.Ytidinbeanaifmaa
open Go.RowKit

set_option maxHeartbeats 1000000 in
theorem refWithin_any {x : VT} {v : Value} {w : World} (hsz : x.size < 4611686018427387904) (h : Lies w (Lo w) x v) : Calls Try.prog 64 #[v] w (Gives (.bool x.within) w) := by
  obtain ⟨r, hr⟩ : ∃ r, r = x.within := ⟨_, rfl⟩
  rw [← hr]
  unfold VT.within at hr
  have HA := Lib.hid (fun (w' : World) (hb : Below w.heap.size w w') => refShort_any (h.below hb))
  have HB := Lib.hid (fun (w' : World) (hb : Below w.heap.size w w') => refDepth_all x.size x w' v (Nat.le_refl _) hsz (h.below hb))
  have HC := Lib.hid (fun (w' : World) (hb : Below w.heap.size w w') => refSize_all x.size x w' v (Nat.le_refl _) hsz (h.below hb))
  have hdz := depth_le_size _ x (Nat.le_refl _)
  obtain ⟨k, i, t, its, ks⟩ := x
  obtain ⟨A, c, A', c', rfl, _, _, _, h1, h2, hL, h3, h4, hS⟩ := h.open
  obtain ⟨w2, hw2⟩ : ∃ w2, w2 = w.alloc (.cells #[.int .i64 k, .int .i64 i, .string t, .slice A its.length c, .slice A' ks.length c'] 26) := ⟨_, rfl⟩
  have B2 : Hid (Below w.heap.size w w2) := Lib.hid (by rw [hw2]; exact below_one _ _)
  have S2 : Hid (w.heap.size < w2.heap.size) := Lib.hid (by rw [hw2]; simp)
  have X1 : Hid (∀ j, w2.cell? ⟨w.heap.size, j, none⟩ = (#[.int .i64 k, .int .i64 i, .string t, .slice A its.length c, .slice A' ks.length c'] : Array Value)[j]?) := Lib.hid (fun j => by
    rw [hw2, World.cell?_alloc_at _ _ _ _ rfl])
  have HW := Lib.hid hw2
  clear h hL hS hw2
  have H1 := Lib.hid (HA.out w2 B2.out)
  unfold vag at H1 HA HB HC ⊢
  generalize (VT.mk k i t its ks).all shortF = p at *
  generalize (VT.mk k i t its ks).depth = d at *
  generalize (VT.mk k i t its ks).size = z at *
  have O1 : Hid (p = false → r = false) := Lib.hid (fun h => by rw [hr, h]; rfl)
  have O2 : Hid (¬ d ≤ 16 → r = false) := Lib.hid (fun h => by rw [hr, decide_eq_false h, Bool.false_and, Bool.and_false])
  have O3 : Hid (¬ z ≤ 1000 → r = false) := Lib.hid (fun h => by rw [hr, decide_eq_false h, Bool.and_false, Bool.and_false])
  have O4 : Hid (p = true → d ≤ 16 → z ≤ 1000 → r = true) := Lib.hid (fun h h' h'' => by rw [hr, h, decide_eq_true h', decide_eq_true h'']; rfl)
  clear hr
  go_enter Try.func64, Try.ntmps64
  go_wp2_with fail
  rw [← HW.out]
  refine (H1.out).mono ?_
  rintro e3 w3 ⟨rfl, hb⟩
  have HB3 := Lib.hid (below_next B2.out hb)
  have S3 : Hid (w.heap.size < w3.heap.size) := Lib.hid (by have := S2.out; have := hb.size; omega)
  have a30 := (hb.cell (p := ⟨w.heap.size, 0, none⟩) S2.out).trans (X1.out 0)
  have a31 := (hb.cell (p := ⟨w.heap.size, 1, none⟩) S2.out).trans (X1.out 1)
  have a32 := (hb.cell (p := ⟨w.heap.size, 2, none⟩) S2.out).trans (X1.out 2)
  have a33 := (hb.cell (p := ⟨w.heap.size, 3, none⟩) S2.out).trans (X1.out 3)
  have a34 := (hb.cell (p := ⟨w.heap.size, 4, none⟩) S2.out).trans (X1.out 4)
  change _ = some (Value.int .i64 k) at a30
  change _ = some (Value.int .i64 i) at a31
  change _ = some (Value.string t) at a32
  change _ = some (Value.slice A its.length c) at a33
  change _ = some (Value.slice A' ks.length c') at a34
  clear hb
  cases p with
  | false =>
    have HR := Lib.hid (O1.out rfl)
    go_wp2
    go_ret
    exact ⟨ret_bool HR.out.symm, HB3.out⟩
  | true =>
    go_wp2_with fail
    refine (HB.out w3 HB3.out).mono ?_
    rintro e4 w4 ⟨rfl, hb⟩
    have HB4 := Lib.hid (below_next HB3.out hb)
    have S4 : Hid (w.heap.size < w4.heap.size) := Lib.hid (by have := S3.out; have := hb.size; omega)
    have a40 := (hb.cell (p := ⟨w.heap.size, 0, none⟩) S3.out).trans a30
    have a41 := (hb.cell (p := ⟨w.heap.size, 1, none⟩) S3.out).trans a31
    have a42 := (hb.cell (p := ⟨w.heap.size, 2, none⟩) S3.out).trans a32
    have a43 := (hb.cell (p := ⟨w.heap.size, 3, none⟩) S3.out).trans a33
    have a44 := (hb.cell (p := ⟨w.heap.size, 4, none⟩) S3.out).trans a34
    change _ = some (Value.int .i64 k) at a40
    change _ = some (Value.int .i64 i) at a41
    change _ = some (Value.string t) at a42
    change _ = some (Value.slice A its.length c) at a43
    change _ = some (Value.slice A' ks.length c') at a44
    clear a30 a31 a32 a33 a34
    clear hb
    by_cases hd : d ≤ 16
    · have f1 : decide ((d : Int) ≤ 16) = true := decide_eq_true (by omega)
      have HD := Lib.hid hd
      clear hd
      go_wp2_with fail
      refine (HC.out w4 HB4.out).mono ?_
      rintro e5 w5 ⟨rfl, hb⟩
      have HB5 := Lib.hid (below_next HB4.out hb)
      have S5 : Hid (w.heap.size < w5.heap.size) := Lib.hid (by have := S4.out; have := hb.size; omega)
      have a50 := (hb.cell (p := ⟨w.heap.size, 0, none⟩) S4.out).trans a40
      have a51 := (hb.cell (p := ⟨w.heap.size, 1, none⟩) S4.out).trans a41
      have a52 := (hb.cell (p := ⟨w.heap.size, 2, none⟩) S4.out).trans a42
      have a53 := (hb.cell (p := ⟨w.heap.size, 3, none⟩) S4.out).trans a43
      have a54 := (hb.cell (p := ⟨w.heap.size, 4, none⟩) S4.out).trans a44
      change _ = some (Value.int .i64 k) at a50
      change _ = some (Value.int .i64 i) at a51
      change _ = some (Value.string t) at a52
      change _ = some (Value.slice A its.length c) at a53
      change _ = some (Value.slice A' ks.length c') at a54
      clear a40 a41 a42 a43 a44
      clear hb
      by_cases hz : z ≤ 1000
      · have f2 : decide ((z : Int) ≤ 1000) = true := decide_eq_true (by omega)
        have HR := Lib.hid (O4.out (by trivial) HD.out hz)
        clear hz
        go_wp2
        go_ret
        exact ⟨ret_bool HR.out.symm, HB5.out⟩
      · have f2 : decide ((z : Int) ≤ 1000) = false := decide_eq_false (by omega)
        have HR := Lib.hid (O3.out hz)
        clear hz
        go_wp2
        go_ret
        exact ⟨ret_bool HR.out.symm, HB5.out⟩
    · have f1 : decide ((d : Int) ≤ 16) = false := decide_eq_false (by omega)
      have HR := Lib.hid (O2.out hd)
      clear hd
      go_wp2
      go_ret
      exact ⟨ret_bool HR.out.symm, HB4.out⟩

set_option maxHeartbeats 1000000 in
theorem refRight_any {x : VT} {v : Value} {w : World} (hsz : x.size < 4611686018427387904) (h : Lies w (Lo w) x v) : Calls Try.prog 31 #[v] w (Gives (.bool x.right) w) := by
  obtain ⟨r, hr⟩ : ∃ r, r = x.right := ⟨_, rfl⟩
  rw [← hr]
  unfold VT.right at hr
  have HA := Lib.hid (fun (w' : World) (hb : Below w.heap.size w w') => refWf_any (h.below hb))
  have HB := Lib.hid (fun (w' : World) (hb : Below w.heap.size w w') => refWithin_any hsz (h.below hb))
  have HC := Lib.hid (fun (w' : World) (hb : Below w.heap.size w w') => refFuture_any (h.below hb))
  obtain ⟨k, i, t, its, ks⟩ := x
  obtain ⟨A, c, A', c', rfl, _, _, _, h1, h2, hL, h3, h4, hS⟩ := h.open
  obtain ⟨w2, hw2⟩ : ∃ w2, w2 = w.alloc (.cells #[.int .i64 k, .int .i64 i, .string t, .slice A its.length c, .slice A' ks.length c'] 26) := ⟨_, rfl⟩
  have B2 : Hid (Below w.heap.size w w2) := Lib.hid (by rw [hw2]; exact below_one _ _)
  have S2 : Hid (w.heap.size < w2.heap.size) := Lib.hid (by rw [hw2]; simp)
  have X1 : Hid (∀ j, w2.cell? ⟨w.heap.size, j, none⟩ = (#[.int .i64 k, .int .i64 i, .string t, .slice A its.length c, .slice A' ks.length c'] : Array Value)[j]?) := Lib.hid (fun j => by
    rw [hw2, World.cell?_alloc_at _ _ _ _ rfl])
  have HW := Lib.hid hw2
  clear h hL hS hw2
  have H1 := Lib.hid (HA.out w2 B2.out)
  unfold vag at H1 HA HB HC ⊢
  generalize (VT.mk k i t its ks).wf = p at *
  generalize (VT.mk k i t its ks).within = q at *
  generalize (VT.mk k i t its ks).all noFut = z at *
  have O1 : Hid (p = false → r = false) := Lib.hid (fun h => by rw [hr, h]; rfl)
  have O2 : Hid (q = false → r = false) := Lib.hid (fun h => by rw [hr, h, Bool.false_and, Bool.and_false])
  have O3 : Hid (p = true → q = true → r = z) := Lib.hid (fun h h' => by rw [hr, h, h']; rfl)
  clear hr
  go_enter Try.func31, Try.ntmps31
  go_wp2_with fail
  rw [← HW.out]
  refine (H1.out).mono ?_
  rintro e3 w3 ⟨rfl, hb⟩
  have HB3 := Lib.hid (below_next B2.out hb)
  have S3 : Hid (w.heap.size < w3.heap.size) := Lib.hid (by have := S2.out; have := hb.size; omega)
  have a30 := (hb.cell (p := ⟨w.heap.size, 0, none⟩) S2.out).trans (X1.out 0)
  have a31 := (hb.cell (p := ⟨w.heap.size, 1, none⟩) S2.out).trans (X1.out 1)
  have a32 := (hb.cell (p := ⟨w.heap.size, 2, none⟩) S2.out).trans (X1.out 2)
  have a33 := (hb.cell (p := ⟨w.heap.size, 3, none⟩) S2.out).trans (X1.out 3)
  have a34 := (hb.cell (p := ⟨w.heap.size, 4, none⟩) S2.out).trans (X1.out 4)
  change _ = some (Value.int .i64 k) at a30
  change _ = some (Value.int .i64 i) at a31
  change _ = some (Value.string t) at a32
  change _ = some (Value.slice A its.length c) at a33
  change _ = some (Value.slice A' ks.length c') at a34
  clear hb
  cases p with
  | false =>
    have HR := Lib.hid (O1.out rfl)
    go_wp2
    go_ret
    exact ⟨ret_bool HR.out.symm, HB3.out⟩
  | true =>
    go_wp2_with fail
    refine (HB.out w3 HB3.out).mono ?_
    rintro e4 w4 ⟨rfl, hb⟩
    have HB4 := Lib.hid (below_next HB3.out hb)
    have S4 : Hid (w.heap.size < w4.heap.size) := Lib.hid (by have := S3.out; have := hb.size; omega)
    have a40 := (hb.cell (p := ⟨w.heap.size, 0, none⟩) S3.out).trans a30
    have a41 := (hb.cell (p := ⟨w.heap.size, 1, none⟩) S3.out).trans a31
    have a42 := (hb.cell (p := ⟨w.heap.size, 2, none⟩) S3.out).trans a32
    have a43 := (hb.cell (p := ⟨w.heap.size, 3, none⟩) S3.out).trans a33
    have a44 := (hb.cell (p := ⟨w.heap.size, 4, none⟩) S3.out).trans a34
    change _ = some (Value.int .i64 k) at a40
    change _ = some (Value.int .i64 i) at a41
    change _ = some (Value.string t) at a42
    change _ = some (Value.slice A its.length c) at a43
    change _ = some (Value.slice A' ks.length c') at a44
    clear a30 a31 a32 a33 a34
    clear hb
    cases q with
    | false =>
      have HR := Lib.hid (O2.out rfl)
      go_wp2
      go_ret
      exact ⟨ret_bool HR.out.symm, HB4.out⟩
    | true =>
      have HR := Lib.hid (O3.out (by trivial) (by trivial))
      go_wp2_with fail
      refine (HC.out w4 HB4.out).mono ?_
      rintro e5 w5 ⟨rfl, hb⟩
      have HB5 := Lib.hid (below_next HB4.out hb)
      have S5 : Hid (w.heap.size < w5.heap.size) := Lib.hid (by have := S4.out; have := hb.size; omega)
      have a50 := (hb.cell (p := ⟨w.heap.size, 0, none⟩) S4.out).trans a40
      have a51 := (hb.cell (p := ⟨w.heap.size, 1, none⟩) S4.out).trans a41
      have a52 := (hb.cell (p := ⟨w.heap.size, 2, none⟩) S4.out).trans a42
      have a53 := (hb.cell (p := ⟨w.heap.size, 3, none⟩) S4.out).trans a43
      have a54 := (hb.cell (p := ⟨w.heap.size, 4, none⟩) S4.out).trans a44
      change _ = some (Value.int .i64 k) at a50
      change _ = some (Value.int .i64 i) at a51
      change _ = some (Value.string t) at a52
      change _ = some (Value.slice A its.length c) at a53
      change _ = some (Value.slice A' ks.length c') at a54
      clear a40 a41 a42 a43 a44
      clear hb
      cases z with
      | false =>
        go_wp2
        go_ret
        exact ⟨ret_bool HR.out.symm, HB5.out⟩
      | true =>
        go_wp2
        go_ret
        exact ⟨ret_bool HR.out.symm, HB5.out⟩

set_option maxHeartbeats 1000000 in
theorem valRight_any {x : VT} {v : Value} {w : World} (h : Lies w (Lo w) x v) : Calls Try.prog 30 #[v] w (Gives (.bool x.right) w) := by
  obtain ⟨r, hr⟩ : ∃ r, r = x.right := ⟨_, rfl⟩
  rw [← hr]
  unfold VT.right at hr
  have HA := Lib.hid (fun (w' : World) (hb : Below w.heap.size w w') => within_any (h.below hb))
  have HB := Lib.hid (fun (w' : World) (hb : Below w.heap.size w w') => wf_any (h.below hb))
  have HC := Lib.hid (fun (w' : World) (hb : Below w.heap.size w w') => everyNf_all x.size x w' v (Nat.le_refl _) (h.below hb))
  obtain ⟨k, i, t, its, ks⟩ := x
  obtain ⟨A, c, A', c', rfl, _, _, _, h1, h2, hL, h3, h4, hS⟩ := h.open
  obtain ⟨w2, hw2⟩ : ∃ w2, w2 = w.alloc (.cells #[.int .i64 k, .int .i64 i, .string t, .slice A its.length c, .slice A' ks.length c'] 26) := ⟨_, rfl⟩
  have B2 : Hid (Below w.heap.size w w2) := Lib.hid (by rw [hw2]; exact below_one _ _)
  have S2 : Hid (w.heap.size < w2.heap.size) := Lib.hid (by rw [hw2]; simp)
  have X1 : Hid (∀ j, w2.cell? ⟨w.heap.size, j, none⟩ = (#[.int .i64 k, .int .i64 i, .string t, .slice A its.length c, .slice A' ks.length c'] : Array Value)[j]?) := Lib.hid (fun j => by
    rw [hw2, World.cell?_alloc_at _ _ _ _ rfl])
  have HW := Lib.hid hw2
  clear h hL hS hw2
  have H1 := Lib.hid (HA.out w2 B2.out)
  unfold vag at H1 HA HB HC ⊢
  generalize (VT.mk k i t its ks).within = p at *
  generalize (VT.mk k i t its ks).wf = q at *
  generalize (VT.mk k i t its ks).all noFut = z at *
  have O2 : Hid (q = false → r = false) := Lib.hid (fun h => by rw [hr, h]; rfl)
  have O1 : Hid (p = false → r = false) := Lib.hid (fun h => by rw [hr, h, Bool.false_and, Bool.and_false])
  have O3 : Hid (p = true → q = true → r = z) := Lib.hid (fun h h' => by rw [hr, h', h]; rfl)
  clear hr
  go_enter Try.func30, Try.ntmps30
  go_wp2_with fail
  rw [← HW.out]
  refine (H1.out).mono ?_
  rintro e3 w3 ⟨rfl, hb⟩
  have HB3 := Lib.hid (below_next B2.out hb)
  have S3 : Hid (w.heap.size < w3.heap.size) := Lib.hid (by have := S2.out; have := hb.size; omega)
  have a30 := (hb.cell (p := ⟨w.heap.size, 0, none⟩) S2.out).trans (X1.out 0)
  have a31 := (hb.cell (p := ⟨w.heap.size, 1, none⟩) S2.out).trans (X1.out 1)
  have a32 := (hb.cell (p := ⟨w.heap.size, 2, none⟩) S2.out).trans (X1.out 2)
  have a33 := (hb.cell (p := ⟨w.heap.size, 3, none⟩) S2.out).trans (X1.out 3)
  have a34 := (hb.cell (p := ⟨w.heap.size, 4, none⟩) S2.out).trans (X1.out 4)
  change _ = some (Value.int .i64 k) at a30
  change _ = some (Value.int .i64 i) at a31
  change _ = some (Value.string t) at a32
  change _ = some (Value.slice A its.length c) at a33
  change _ = some (Value.slice A' ks.length c') at a34
  clear hb
  cases p with
  | false =>
    have HR := Lib.hid (O1.out rfl)
    go_wp2
    go_ret
    exact ⟨ret_bool HR.out.symm, HB3.out⟩
  | true =>
    go_wp2_with fail
    refine (HB.out w3 HB3.out).mono ?_
    rintro e4 w4 ⟨rfl, hb⟩
    have HB4 := Lib.hid (below_next HB3.out hb)
    have S4 : Hid (w.heap.size < w4.heap.size) := Lib.hid (by have := S3.out; have := hb.size; omega)
    have a40 := (hb.cell (p := ⟨w.heap.size, 0, none⟩) S3.out).trans a30
    have a41 := (hb.cell (p := ⟨w.heap.size, 1, none⟩) S3.out).trans a31
    have a42 := (hb.cell (p := ⟨w.heap.size, 2, none⟩) S3.out).trans a32
    have a43 := (hb.cell (p := ⟨w.heap.size, 3, none⟩) S3.out).trans a33
    have a44 := (hb.cell (p := ⟨w.heap.size, 4, none⟩) S3.out).trans a34
    change _ = some (Value.int .i64 k) at a40
    change _ = some (Value.int .i64 i) at a41
    change _ = some (Value.string t) at a42
    change _ = some (Value.slice A its.length c) at a43
    change _ = some (Value.slice A' ks.length c') at a44
    clear a30 a31 a32 a33 a34
    clear hb
    cases q with
    | false =>
      have HR := Lib.hid (O2.out rfl)
      go_wp2
      go_ret
      exact ⟨ret_bool HR.out.symm, HB4.out⟩
    | true =>
      have HR := Lib.hid (O3.out (by trivial) (by trivial))
      go_wp2_with fail
      refine (HC.out w4 HB4.out).mono ?_
      rintro e5 w5 ⟨rfl, hb⟩
      have HB5 := Lib.hid (below_next HB4.out hb)
      have S5 : Hid (w.heap.size < w5.heap.size) := Lib.hid (by have := S4.out; have := hb.size; omega)
      have a50 := (hb.cell (p := ⟨w.heap.size, 0, none⟩) S4.out).trans a40
      have a51 := (hb.cell (p := ⟨w.heap.size, 1, none⟩) S4.out).trans a41
      have a52 := (hb.cell (p := ⟨w.heap.size, 2, none⟩) S4.out).trans a42
      have a53 := (hb.cell (p := ⟨w.heap.size, 3, none⟩) S4.out).trans a43
      have a54 := (hb.cell (p := ⟨w.heap.size, 4, none⟩) S4.out).trans a44
      change _ = some (Value.int .i64 k) at a50
      change _ = some (Value.int .i64 i) at a51
      change _ = some (Value.string t) at a52
      change _ = some (Value.slice A its.length c) at a53
      change _ = some (Value.slice A' ks.length c') at a54
      clear a40 a41 a42 a43 a44
      clear hb
      cases z with
      | false =>
        go_wp2
        go_ret
        exact ⟨ret_bool HR.out.symm, HB5.out⟩
      | true =>
        go_wp2
        go_ret
        exact ⟨ret_bool HR.out.symm, HB5.out⟩
end Go.Proofs.Ytidinbeanaifmaa
namespace Go.Proofs.Ytidinbeanaifmaa
open Go.RowKit

set_option maxHeartbeats 1000000 in
theorem few_all (m : Nat) : ∀ (x : VT) (w : World) (v : Value) (n : Int), x.size ≤ m → 0 ≤ n → n ≤ 4611686018427387904 → Lies w (Lo w) x v → Calls Try.prog 56 #[v, .int .i64 n] w (Gives (.int .i64 (x.few n)) w) := by
  induction m with
  | zero => intro x _ _ _ h; have := size_pos x; omega
  | succ m ih =>
    intro x w v n hsz hn0 hn1 hv
    obtain ⟨k, i, t, its, ks⟩ := x
    obtain ⟨A, c, A', c', rfl, _, _, _, hlc, hcm, hL, _, _, _⟩ := hv.open
    rw [VT.size_mk] at hsz
    rw [VT.few_mk]
    have HL := Lib.hid hL
    have IH := Lib.hid ih
    clear hL ih hv
    unfold vag
    go_enter Try.func56, Try.ntmps56
    go_wp2
    obtain ⟨w1, hw1⟩ : ∃ w1, w1 = w.alloc (.cells #[.int .i64 k, .int .i64 i, .string t, .slice A its.length c, .slice A' ks.length c'] 26) := ⟨_, rfl⟩
    have B0 : Hid (Below w.heap.size w w1) := Lib.hid (by rw [hw1]; exact below_one _ _)
    have S1 : Hid (w.heap.size < w1.heap.size) := Lib.hid (by rw [hw1]; simp)
    have C3 : w1.cell? ⟨w.heap.size, 3, none⟩ = some (.slice A its.length c) := by rw [hw1, World.cell?_alloc_at _ _ _ _ rfl]; rfl
    rw [← hw1]
    have HW := Lib.hid hw1
    clear hw1
    go_loopw [1, 5] (fun r s wr => ∃ (j : Nat) (q : Int), j ≤ its.length ∧ s = .int .i64 j ∧ r = .int .i64 q ∧ -1 ≤ q ∧ q ≤ 4611686018427387904 ∧ Hid (q = fews (its.take j) (n - 1)) ∧ Hid (Below w1.heap.size w1 wr)) (fun _ s _ => its.length - (intOf s).toNat)
    case atStart => exact ⟨0, n - 1, by omega, rfl, rfl, by omega, by omega, Lib.hid (by simp [fews]), Lib.hid (Below.refl _ _)⟩
    case round =>
      obtain ⟨j, q, hjn, rfl, rfl, hq0, hq1, hq, hb⟩ := hrel
      have C3' := (hb.out.cell (p := ⟨w.heap.size, 3, none⟩) S1.out).trans C3
      by_cases hlt : j < its.length
      · by_cases hqp : 0 ≤ q
        · have h1 := List.getElem?_eq_getElem (l := its) (i := j) hlt
          obtain ⟨g, o, k', i', t', B, n', c1, B', n1, c2, rfl, hg, e0, e1, e2, e3, e4, hx⟩ := (HL.out).at_ h1
          have hj := fews_take (n := n - 1) h1 (by rw [← hq.out]; exact hqp)
          have hle := size_at h1
          have hb' : Below w.heap.size w wr := below_next B0.out hb.out
          have cc := fun (q : Nat) => hb'.cell (p := ⟨g, q, none⟩) hg
          rw [Nat.zero_add] at e0 e1 e2 e3 e4
          rw [← cc] at e0 e1 e2 e3 e4
          have hc := IH.out (its[j]'hlt) wr _ q (by omega) hqp (by omega) (hx.below hb')
          have hge := VT.few_ge (its[j]'hlt) q hqp
          have hfl := VT.few_le (its[j]'hlt) q
          rw [← hq.out] at hj
          generalize its[j]'hlt = x at *
          generalize x.few q = q' at *
          have HC := Lib.hid hc
          have HJ := Lib.hid hj
          have g1 : decide (0 ≤ q) = true := decide_eq_true hqp
          clear hc hx hb' cc C3 hj h1
          unfold vag at HC
          go_wp2_with fail
          refine (HC.out).mono ?_
          rintro e w' ⟨rfl, hb2⟩
          have HB2 := Lib.hid (below_next hb.out hb2)
          clear hb2
          go_wp2
          go_roundw
          case rel => exact ⟨j + 1, q', by omega, by go_num, rfl, by omega, by omega, Lib.hid HJ.out.symm, HB2⟩
          case measure => simp [intOf]; omega
        · have g1 : decide (0 ≤ q) = false := decide_eq_false hqp
          have HR := Lib.hid (fews_stop (l := its) (j := j) (n := n - 1) (by rw [← hq.out]; omega))
          clear C3
          go_wp2
          go_ret
          exact ⟨by rw [HR.out, ← hq.out]; rfl, below_next B0.out hb.out⟩
      · obtain rfl : j = its.length := by omega
        clear C3
        go_wp2
        go_ret
        exact ⟨by rw [hq.out, List.take_length]; rfl, below_next B0.out hb.out⟩

set_option maxHeartbeats 400000 in
theorem Few_any {x : VT} {v : Value} {w : World} (n : Int) (h0 : 0 ≤ n) (h1 : n ≤ 4611686018427387904) (h : Lies w (Lo w) x v) : Calls Try.prog 11 #[v, .int .i64 n] w (Gives (.bool (decide (0 ≤ x.few n))) w) := by
  have hc := few_all x.size x (w.alloc (.cells v.cells 26)) v n (Nat.le_refl _) h0 h1 (h.below (below_one _ _))
  obtain ⟨k, i, t, its, ks⟩ := x
  obtain ⟨A, c, A', c', rfl, _, _, _, _, _, _, _, _, _⟩ := h.open
  generalize (VT.mk k i t its ks).few n = b at *
  unfold vag Value.cells at hc
  unfold vag
  have HC := Lib.hid hc
  clear hc h
  go_enter Try.func11, Try.ntmps11
  go_wp2_with fail
  refine (HC.out).mono ?_
  rintro e w' ⟨rfl, hb⟩
  have HB := Lib.hid (below_via (Below.refl _ _) hb)
  clear hb
  go_wp2
  go_ret
  exact ⟨rfl, HB.out⟩
end Go.Proofs.Ytidinbeanaifmaa
