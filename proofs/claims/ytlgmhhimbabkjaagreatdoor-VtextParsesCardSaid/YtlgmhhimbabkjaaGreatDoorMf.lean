/-
  Mathematics of VtextFirst: what is read of a text depends on no byte behind it.
-/
import Derived.Test.YtlgmhhimbabkjaaGreatDoorTn
import Derived.Test.YtlgmhhimbabkjaaGreatDoorTc
namespace Go.Proofs.YtlgmhhimbabkjaaGreatDoor

/-- two texts that agree below n -/
def Agr (n : Nat) (l l' : List UInt8) : Prop := ∀ i, i < n → l[i]? = l'[i]? ∧ i < l.length
theorem Agr.tk {n i : Nat} {l l' : List UInt8} (h : Agr n l l') (hi : i < n) (p : UInt8 → Bool) : tkP p l i = tkP p l' i := by
  unfold tkP
  rw [(h i hi).1]
theorem Agr.runEq {n : Nat} {l l' : List UInt8} (h : Agr n l l') (p : UInt8 → Bool) : ∀ (d i : Nat), run p l i = i + d → i + d < n → run p l' i = i + d
  | 0, i, hr, hn => by
    obtain ⟨he, hl⟩ := h i (by omega)
    obtain ⟨c, hc⟩ : ∃ c, l[i]? = some c := ⟨_, List.getElem?_eq_getElem hl⟩
    cases hp : p c with
    | true =>
      rw [run_on hc hp] at hr
      have := run_ge p l (i + 1)
      omega
    | false => exact run_off (he ▸ hc) hp
  | d + 1, i, hr, hn => by
    obtain ⟨he, hl⟩ := h i (by omega)
    obtain ⟨c, hc⟩ : ∃ c, l[i]? = some c := ⟨_, List.getElem?_eq_getElem hl⟩
    cases hp : p c with
    | true =>
      rw [run_on hc hp] at hr
      rw [run_on (he ▸ hc) hp]
      have := h.runEq p d (i + 1) (by omega) (by omega)
      omega
    | false =>
      rw [run_off hc hp] at hr
      omega
/-- what one text gives below n the other gives, from offset i on -/
structure Kp {α : Type} (n i : Nat) (r r' : PR α) : Prop where
  ok : ∀ a k, r = .ok a k → i ≤ k ∧ (k < n → r' = .ok a k)
  er : ∀ j, r = .err j 3 → i ≤ j ∧ (j < n → r' = .err j 3)
theorem Kp.same {α : Type} {n i : Nat} {r r' : PR α} (h1 : ∀ a k, r = .ok a k → i ≤ k) (h2 : ∀ j, r = .err j 3 → i ≤ j) (h : i < n → r' = r) : Kp n i r r' :=
  ⟨fun a k e => ⟨h1 a k e, fun hk => by rw [h (Nat.lt_of_le_of_lt (h1 a k e) hk), e]⟩, fun j e => ⟨h2 j e, fun hj => by rw [h (Nat.lt_of_le_of_lt (h2 j e) hj), e]⟩⟩
theorem Kp.okk {α : Type} {n i k : Nat} {a : α} (h : i ≤ k) : Kp n i (.ok a k) (.ok a k) := Kp.same (fun _ _ e => by injection e with _ e; omega) (fun _ e => by cases e) (fun _ => rfl)
theorem Kp.erk {α : Type} {n i k : Nat} {c : Int} (h : i ≤ k) : Kp n i (.err k c : PR α) (.err k c) := Kp.same (fun _ _ e => by cases e) (fun _ e => by injection e with e _; omega) (fun _ => rfl)
theorem Kp.no {α : Type} {n i k : Nat} {c : Int} {r' : PR α} (h : c ≠ 3) : Kp n i (.err k c : PR α) r' := ⟨fun _ _ e => (by cases e), fun _ e => (by injection e with _ e; exact absurd e h)⟩
theorem Kp.far {α : Type} {n i : Nat} {r r1 r' : PR α} (hn : n ≤ i) (h : Kp n i r r1) : Kp n i r r' :=
  ⟨fun a k e => ⟨(h.ok a k e).1, fun hk => absurd (h.ok a k e).1 (by omega)⟩, fun j e => ⟨(h.er j e).1, fun hj => absurd (h.er j e).1 (by omega)⟩⟩
theorem Kp.le {α : Type} {n i k : Nat} {r r' : PR α} (h : Kp n k r r') (hi : i ≤ k) : Kp n i r r' :=
  ⟨fun a m e => ⟨Nat.le_trans hi (h.ok a m e).1, (h.ok a m e).2⟩, fun j e => ⟨Nat.le_trans hi (h.er j e).1, (h.er j e).2⟩⟩
theorem Kp.bind {α β : Type} {n i : Nat} {r r' : PR α} {f f' : α → Nat → PR β} (h : Kp n i r r') (hf : ∀ a k, r = .ok a k → i ≤ k → Kp n k (f a k) (f' a k)) : Kp n i (r.bind f) (r'.bind f') := by
  cases hr : r with
  | ok a k =>
    have h1 := h.ok a k hr
    have h2 := hf a k hr h1.1
    rw [PR.bind_ok]
    refine ⟨fun b m e => ⟨Nat.le_trans h1.1 (h2.ok b m e).1, fun hm => ?_⟩, fun j e => ⟨Nat.le_trans h1.1 (h2.er j e).1, fun hj => ?_⟩⟩
    · rw [h1.2 (Nat.lt_of_le_of_lt (h2.ok b m e).1 hm), PR.bind_ok]; exact (h2.ok b m e).2 hm
    · rw [h1.2 (Nat.lt_of_le_of_lt (h2.er j e).1 hj), PR.bind_ok]; exact (h2.er j e).2 hj
  | err k c =>
    rw [PR.bind_err]
    refine ⟨fun b m e => (by cases e), fun j e => ?_⟩
    injection e with e1 e2
    subst e1 e2
    have h1 := h.er k hr
    exact ⟨h1.1, fun hj => by rw [h1.2 hj, PR.bind_err]⟩
section
variable {n : Nat} {l l' : List UInt8}
theorem Agr.tkK (h : Agr n l l') (p : UInt8 → Bool) (i : Nat) : Kp n i (tkP p l i) (tkP p l' i) := by
  refine Kp.same (fun a k e => Nat.le_of_succ_le (tkP_mono p l i a k e)) (fun j e => ?_) (fun hi => (h.tk hi p).symm)
  unfold tkP at e
  split at e
  · injection e with e _; omega
  · split at e
    · cases e
    · injection e with e _; omega
theorem Agr.escK (h : Agr n l l') (i : Nat) : Kp n i (escP l i) (escP l' i) := by
  unfold escP
  refine (h.tkK esq i).bind fun c k _ hk => ?_
  repeat' split
  · exact Kp.okk (Nat.le_refl _)
  · exact Kp.okk (Nat.le_refl _)
  · exact (h.tkK hxd k).bind fun a k2 _ hk2 => (h.tkK hxd k2).bind fun d k3 _ hk3 => Kp.okk (Nat.le_refl _)
  · exact Kp.okk (Nat.le_refl _)
theorem Agr.chrK (h : Agr n l l') (i : Nat) : Kp n i (chrP l i) (chrP l' i) := by
  unfold chrP
  refine (h.tkK pln i).bind fun c k _ hk => ?_
  split
  · exact h.escK k
  · exact Kp.okk (Nat.le_refl _)
theorem Agr.lt (h : Agr n l l') {i : Nat} (hi : i < n) : i < l'.length := by
  obtain ⟨e, hl⟩ := h i hi
  rw [List.getElem?_eq_getElem hl] at e
  exact (List.getElem?_eq_some_iff.1 e.symm).1
theorem Agr.litLK (h : Agr n l l') (a : Nat) : ∀ (f f' i : Nat) (o : List UInt8), l'.length + 1 ≤ f' + i → Kp n i (litL l a f i o) (litL l' a f' i o)
  | 0, f', i, o, _ => Kp.no (by decide)
  | f + 1, f', i, o, hf => by
    rcases Nat.lt_or_ge i n with hi | hi
    · obtain ⟨e, hl⟩ := h i hi
      have hl' := h.lt hi
      obtain ⟨g, rfl⟩ : ∃ g, f' = g + 1 := ⟨f' - 1, by omega⟩
      obtain ⟨c, hc⟩ : ∃ c, l[i]? = some c := ⟨_, List.getElem?_eq_getElem hl⟩
      have hc' : l'[i]? = some c := e ▸ hc
      by_cases hq : c = 34
      · subst hq
        rw [litL_quote hc, litL_quote hc']
        split
        · exact Kp.okk (by omega)
        · exact Kp.no (by decide)
      · rw [litL_char hc hq, litL_char hc' hq]
        exact (h.chrK i).bind fun x k hx hk => h.litLK a f g k _ (by have := (chrP_to hx).1; omega)
    · cases hc : l[i]? with
      | none => rw [litL_none (List.getElem?_eq_none_iff.1 hc)]; exact Kp.no (by decide)
      | some c =>
        by_cases hq : c = 34
        · subst hq
          rw [litL_quote hc]
          split
          · exact Kp.far hi (Kp.okk (n := n) (by omega))
          · exact Kp.no (by decide)
        · rw [litL_char hc hq]
          exact Kp.far hi ((h.chrK i).bind fun x k hx hk => h.litLK a f (l'.length + 1) k (o ++ [x]) (by omega))
theorem Agr.litK (h : Agr n l l') (i : Nat) : Kp n i (litP l i) (litP l' i) :=
  (h.litLK (i - 1) _ _ i [] (by omega)).bind fun _ _ _ _ => Kp.okk (Nat.le_refl _)
theorem Agr.wrdK (h : Agr n l l') : ∀ (w : List UInt8) (i : Nat), Kp n i (wrdP l w i) (wrdP l' w i)
  | [], _ => Kp.okk (Nat.le_refl _)
  | _ :: r, i => (h.tkK _ i).bind fun _ k _ _ => h.wrdK r k
theorem Agr.slice (h : Agr n l l') {a k : Nat} (hk : k ≤ n) : (l.drop a).take (k - a) = (l'.drop a).take (k - a) := by
  apply List.ext_getElem?
  intro q
  rw [List.getElem?_take, List.getElem?_take]
  split
  · rw [List.getElem?_drop, List.getElem?_drop]
    exact (h (a + q) (by omega)).1
  · rfl
theorem numE_er {a j k : Nat} : numE l a j ≠ .err k 3 := by
  unfold numE
  split
  · intro e; cases e
  · intro e; injection e with _ e; exact absurd e (by decide)
theorem numE_ok_at {a j k : Nat} {v : Int} (h : numE l a j = .ok v k) : k = j := by
  unfold numE at h
  split at h
  · injection h with _ h; exact h.symm
  · cases h
theorem Agr.numK (h : Agr n l l') (a j : Nat) : Kp n j (numE l a (run dig l j)) (numE l' a (run dig l' j)) := by
  refine ⟨fun v k e => ?_, fun k e => absurd e numE_er⟩
  have hk := numE_ok_at e
  have hg := run_ge dig l j
  refine ⟨by omega, fun hn => ?_⟩
  have hr : run dig l' j = run dig l j := by
    have := h.runEq dig (run dig l j - j) j (by omega) (by omega)
    omega
  rw [hr, ← e]
  unfold numE
  rw [h.slice (a := a) (k := run dig l j) (by omega)]
theorem Agr.intK (h : Agr n l l') (c : UInt8) (i : Nat) : Kp n i (intP l c i) (intP l' c i) := by
  unfold intP
  split
  · exact (h.tkK dig1 i).bind fun _ k _ _ => h.numK (i - 1) k
  · rcases Nat.lt_or_ge i n with hi | hi
    · rw [← (h i hi).1]
      split
      · exact Kp.erk (Nat.le_refl _)
      · exact h.numK (i - 1) i
    · split
      · exact Kp.far hi (Kp.erk (n := n) (Nat.le_refl _))
      · exact Kp.far hi (h.numK (i - 1) i)
theorem Agr.skipK {α : Type} (h : Agr n l l') {G G' : Nat → PR α} (hG : ∀ k, Kp n k (G k) (G' k)) (i : Nat) : Kp n i (G (skip l i)) (G' (skip l' i)) := by
  have hg := skip_ge l i
  rcases Nat.lt_or_ge (skip l i) n with hs | hs
  · have hr : skip l' i = skip l i := by
      have := h.runEq blk (skip l i - i) i (by show skip l i = _; omega) (by omega)
      show run blk l' i = _
      omega
    rw [hr]
    exact (hG _).le hg
  · exact (Kp.far hs (hG (skip l i))).le hg
theorem Agr.moreK {σ : Type} {el el' : σ → Nat → PR σ} (h : Agr n l l') (hel : ∀ s i, Kp n i (el s i) (el' s i)) (e : UInt8) : ∀ (f f' i : Nat) (s : σ), l'.length + 1 ≤ f' + i → Kp n i (moreP el e l f i s) (moreP el' e l' f' i s)
  | 0, _, _, _, _ => Kp.no (by decide)
  | f + 1, f', i, s, hf => by
    have main : ∀ g, l'.length ≤ g + i → Kp n i (moreP el e l (f + 1) i s) (moreP el' e l' (g + 1) i s) := fun g hg => by
      rw [moreP, moreP]
      have hE : ∀ k, Kp n k (el s k) (el' s k) := hel s
      refine (h.skipK hE i).bind fun s2 j hj hij => ?_
      have hT : ∀ k, Kp n k (tkP (fun x => x == 44 || x == e) l k) (tkP (fun x => x == 44 || x == e) l' k) := h.tkK _
      refine (h.skipK hT j).bind fun c j2 hj2 hjk => ?_
      have h3 := tkP_mono _ _ _ _ _ hj2
      have h4 := skip_ge l j
      split
      · exact h.moreK hel e f g j2 s2 (by omega)
      · exact Kp.okk (Nat.le_refl _)
    cases f' with
    | succ g => exact main g (by omega)
    | zero =>
      rcases Nat.lt_or_ge i n with hi | hi
      · have := h.lt hi; omega
      · exact Kp.far hi (main l'.length (by omega))
theorem Agr.elemsK {σ : Type} {el el' : σ → Nat → PR σ} (h : Agr n l l') (hel : ∀ s i, Kp n i (el s i) (el' s i)) (e : UInt8) (i : Nat) (s : σ) : Kp n i (elemsP el e l i s) (elemsP el' e l' i s) := by
  have H : ∀ k, Kp n k (match l[k]? with | none => .err k 4 | some c => if c = e then .ok s (k + 1) else moreP el e l (l.length + 1) k s) (match l'[k]? with | none => .err k 4 | some c => if c = e then .ok s (k + 1) else moreP el' e l' (l'.length + 1) k s) := fun k => by
    have M := h.moreK hel e (l.length + 1) (l'.length + 1) k s (by omega)
    rcases Nat.lt_or_ge k n with hk | hk
    · rw [← (h k hk).1]
      cases l[k]? with
      | none => exact Kp.no (by decide)
      | some c =>
        show Kp n k (if c = e then _ else _) (if c = e then _ else _)
        split
        · exact Kp.okk (by omega)
        · exact M
    · cases l[k]? with
      | none => exact Kp.no (by decide)
      | some c =>
        show Kp n k (if c = e then _ else _) _
        split
        · exact Kp.far hk (Kp.okk (n := n) (k := k + 1) (by omega))
        · exact Kp.far hk M
  exact h.skipK H i
theorem Agr.elLK {val val' : Nat → Nat → PR (VT × Nat)} (hv : ∀ i m, Kp n i (val i m) (val' i m)) (s : List VT × Nat) (i : Nat) : Kp n i (elL val s i) (elL val' s i) :=
  (hv i s.2).bind fun _ _ _ _ => Kp.okk (Nat.le_refl _)
theorem Agr.elMK (h : Agr n l l') {val val' : Nat → Nat → PR (VT × Nat)} (hv : ∀ i m, Kp n i (val i m) (val' i m)) (s : List ByteArray × List VT × Nat) (i : Nat) : Kp n i (elM l val s i) (elM l' val' s i) := by
  unfold elM
  refine (h.tkK _ i).bind fun _ j _ _ => (h.litK j).bind fun key j2 _ _ => ?_
  split
  · exact Kp.no (by decide)
  · have hT : ∀ k, Kp n k (tkP (fun x => x == 58) l k) (tkP (fun x => x == 58) l' k) := h.tkK _
    exact (h.skipK hT j2).bind fun _ j3 _ _ => (hv j3 s.2.2).bind fun _ _ _ _ => Kp.okk (Nat.le_refl _)
theorem Agr.bodK (h : Agr n l l') {val val' : Nat → Nat → PR (VT × Nat)} (hv : ∀ i m, Kp n i (val i m) (val' i m)) (c : UInt8) (i m : Nat) : Kp n i (bodP val l c i m) (bodP val' l' c i m) := by
  unfold bodP
  split
  · exact (h.wrdK _ i).bind fun _ _ _ _ => Kp.okk (Nat.le_refl _)
  · split
    · exact (h.wrdK _ i).bind fun _ _ _ _ => Kp.okk (Nat.le_refl _)
    · split
      · exact (h.wrdK _ i).bind fun _ _ _ _ => Kp.okk (Nat.le_refl _)
      · split
        · exact (h.litK i).bind fun _ _ _ _ => Kp.okk (Nat.le_refl _)
        · split
          · exact (h.elemsK (Agr.elLK hv) 93 i _).bind fun _ _ _ _ => Kp.okk (Nat.le_refl _)
          · split
            · exact (h.elemsK (h.elMK hv) 125 i _).bind fun _ _ _ _ => Kp.okk (Nat.le_refl _)
            · exact (h.intK c i).bind fun _ _ _ _ => Kp.okk (Nat.le_refl _)
theorem Agr.valK (h : Agr n l l') : ∀ (k i m : Nat), Kp n i (valP l k i m) (valP l' k i m)
  | 0, i, m => by
    rw [valP, valP]
    have H : ∀ q, Kp n q ((tkP sta l q).bind fun _ _ => (.err q 7 : PR (VT × Nat))) ((tkP sta l' q).bind fun _ _ => .err q 7) := fun q => (h.tkK sta q).bind fun _ _ _ _ => Kp.no (by decide)
    exact h.skipK H i
  | k + 1, i, m => by
    rw [valP, valP]
    have H : ∀ q, Kp n q ((tkP sta l q).bind fun c j => if 1000 ≤ m then .err q 6 else bodP (valP l k) l c j (m + 1)) ((tkP sta l' q).bind fun c j => if 1000 ≤ m then .err q 6 else bodP (valP l' k) l' c j (m + 1)) := fun q => (h.tkK sta q).bind fun c j _ _ => by
      split
      · exact Kp.no (by decide)
      · exact h.bodK (h.valK k) c j (m + 1)
    exact h.skipK H i
end
end Go.Proofs.YtlgmhhimbabkjaaGreatDoor
