/-
  Texts of layers 1 and 2, part P: contracts of the code's functions and what they lean on.
-/
import Derived.Test.YtjbjoalinfhahaaBI
import Derived.Test.YtjbjoalinfhahaaBJ
import Derived.Test.YtjbjoalinfhahaaBO
import Derived.Deep.AppendLies
import Derived.Deep.LoopGhost
import Derived.Deep.Cut
import Derived.Deep.RegionLaw
import Derived.Test.YtjbjoalinfhahaaBN
namespace Go.Proofs.Ytjbjoalinfhahaa
open Go.RowKit

/-! ### one element added or replaced -/
def stepW (key : ByteArray) (x : VT) (s : Bool × List (ByteArray × VT)) (p : ByteArray × VT) : Bool × List (ByteArray × VT) :=
  if p.1 = key then (true, if s.1 = true then s.2 else s.2 ++ [(key, x)])
  else if less p.1 key = true ∨ s.1 = true then (s.1, s.2 ++ [p])
  else (true, (s.2 ++ [(key, x)]) ++ [p])
def foldW (key : ByteArray) (x : VT) (ps : List (ByteArray × VT)) : Bool × List (ByteArray × VT) := ps.foldl (stepW key x) (false, [])
def endW (key : ByteArray) (x : VT) (s : Bool × List (ByteArray × VT)) : List (ByteArray × VT) := if s.1 = true then s.2 else s.2 ++ [(key, x)]
def withL (key : ByteArray) (x : VT) (ps : List (ByteArray × VT)) : List (ByteArray × VT) := endW key x (foldW key x ps)

section
variable {key : ByteArray} {x : VT} {l : List (ByteArray × VT)} {p : ByteArray × VT}
theorem stepW_eq_done (h : p.1 = key) : stepW key x (true, l) p = (true, l) := by unfold stepW; rw [if_pos h, if_pos rfl]
theorem stepW_eq_new (h : p.1 = key) : stepW key x (false, l) p = (true, l ++ [(key, x)]) := by unfold stepW; rw [if_pos h]; rfl
theorem stepW_less (h : p.1 ≠ key) (hl : less p.1 key = true) (b : Bool) : stepW key x (b, l) p = (b, l ++ [p]) := by unfold stepW; rw [if_neg h, if_pos (Or.inl hl)]
theorem stepW_done (h : p.1 ≠ key) : stepW key x (true, l) p = (true, l ++ [p]) := by unfold stepW; rw [if_neg h, if_pos (Or.inr rfl)]
theorem stepW_new (h : p.1 ≠ key) (hl : less p.1 key = false) : stepW key x (false, l) p = (true, (l ++ [(key, x)]) ++ [p]) := by
  unfold stepW
  rw [if_neg h, if_neg (by rw [hl]; simp)]
end
theorem foldW_snoc (key : ByteArray) (x : VT) (l : List (ByteArray × VT)) (p : ByteArray × VT) : foldW key x (l ++ [p]) = stepW key x (foldW key x l) p := by
  unfold foldW
  rw [List.foldl_append]
  rfl
theorem stepW_len (key : ByteArray) (x : VT) (s : Bool × List (ByteArray × VT)) (p : ByteArray × VT) : (stepW key x s p).2.length ≤ s.2.length + 2 := by
  unfold stepW
  split
  · split <;> simp
  · split <;> simp
theorem foldW_len (key : ByteArray) (x : VT) (l : List (ByteArray × VT)) : (foldW key x l).2.length ≤ 2 * l.length := by
  have : ∀ (l : List (ByteArray × VT)) (s : Bool × List (ByteArray × VT)), (l.foldl (stepW key x) s).2.length ≤ s.2.length + 2 * l.length := fun l => by
    induction l with
    | nil => intro s; simp
    | cons p r ih =>
      intro s
      have h1 := ih (stepW key x s p)
      have h2 := stepW_len key x s p
      rw [List.foldl_cons, List.length_cons]
      omega
  have h := this l (false, [])
  simpa [foldW] using h

/-- the keys stay strings that there are -/
theorem withL_keys {key : ByteArray} {x : VT} {l : List (ByteArray × VT)} (hk : key.size ≤ 9223372036854775807) (h : ∀ p ∈ l, p.1.size ≤ 9223372036854775807) : ∀ p ∈ withL key x l, p.1.size ≤ 9223372036854775807 := by
  have step : ∀ (s : Bool × List (ByteArray × VT)) (p : ByteArray × VT), (∀ q ∈ s.2, q.1.size ≤ 9223372036854775807) → p.1.size ≤ 9223372036854775807 → ∀ q ∈ (stepW key x s p).2, q.1.size ≤ 9223372036854775807 := by
    intro s p h1 h2 q hq
    unfold stepW at hq
    split at hq
    · split at hq
      · exact h1 q hq
      · rcases List.mem_append.1 hq with hq | hq
        · exact h1 q hq
        · rw [List.mem_singleton.1 hq]; exact hk
    · split at hq
      · rcases List.mem_append.1 hq with hq | hq
        · exact h1 q hq
        · rw [List.mem_singleton.1 hq]; exact h2
      · rcases List.mem_append.1 hq with hq | hq
        · rcases List.mem_append.1 hq with hq | hq
          · exact h1 q hq
          · rw [List.mem_singleton.1 hq]; exact hk
        · rw [List.mem_singleton.1 hq]; exact h2
  have all : ∀ (l : List (ByteArray × VT)) (s : Bool × List (ByteArray × VT)), (∀ q ∈ s.2, q.1.size ≤ 9223372036854775807) → (∀ p ∈ l, p.1.size ≤ 9223372036854775807) → ∀ q ∈ (l.foldl (stepW key x) s).2, q.1.size ≤ 9223372036854775807 := by
    intro l
    induction l with
    | nil => intro s h1 _; exact h1
    | cons p r ih => intro s h1 h2; exact ih _ (step s p h1 (h2 p List.mem_cons_self)) (fun q hq => h2 q (List.mem_cons_of_mem _ hq))
  intro p hp
  unfold withL endW at hp
  split at hp
  · exact all l (false, []) (fun _ hq => by cases hq) h p hp
  · rcases List.mem_append.1 hp with hp | hp
    · exact all l (false, []) (fun _ hq => by cases hq) h p hp
    · rw [List.mem_singleton.1 hp]; exact hk

/-! ### the place of the element -/
theorem less_irrefl (a : ByteArray) : less a a = false := bl_irrefl _
theorem less_trans {a b c : ByteArray} (h : less a b = true) (k : less b c = true) : less a c = true := bl_trans _ _ _ h k
theorem less_asymm {a b : ByteArray} (h : less a b = true) : less b a = false := by
  cases k : less b a with
  | false => rfl
  | true => have := less_trans h k; rw [less_irrefl] at this; cases this
theorem less_ne {a b : ByteArray} (h : less a b = true) : a ≠ b := fun e => by rw [e, less_irrefl] at h; cases h
theorem less_tri {a b : ByteArray} (h : less a b = false) (hn : a ≠ b) : less b a = true := by
  rcases str_ways a b with ⟨h1, _⟩ | ⟨h1, _⟩ | ⟨_, _, _, h4, _⟩
  · rw [show less a b = true from h1] at h; cases h
  · exact absurd h1 hn
  · exact h4
/-- keys ascending, as a relation of neighbours and of all -/
def Asc (l : List (ByteArray × VT)) : Prop := l.Pairwise fun p q => less p.1 q.1 = true
theorem foldl_lower {key : ByteArray} {x : VT} : ∀ (A acc : List (ByteArray × VT)), (∀ p ∈ A, less p.1 key = true) → A.foldl (stepW key x) (false, acc) = (false, acc ++ A)
  | [], acc, _ => by simp
  | p :: A, acc, h => by
    have hp := h p List.mem_cons_self
    rw [List.foldl_cons, stepW_less (less_ne hp) hp, foldl_lower A _ (fun q hq => h q (List.mem_cons_of_mem _ hq))]
    simp
theorem foldl_upper {key : ByteArray} {x : VT} : ∀ (B acc : List (ByteArray × VT)), (∀ p ∈ B, less key p.1 = true) → B.foldl (stepW key x) (true, acc) = (true, acc ++ B)
  | [], acc, _ => by simp
  | p :: B, acc, h => by
    have hp := h p List.mem_cons_self
    rw [List.foldl_cons, stepW_done (Ne.symm (less_ne hp)), foldl_upper B _ (fun q hq => h q (List.mem_cons_of_mem _ hq))]
    simp
/-- where the key is not there -/
theorem withL_new {key : ByteArray} {x : VT} {A B : List (ByteArray × VT)} (hA : ∀ p ∈ A, less p.1 key = true) (hB : ∀ p ∈ B, less key p.1 = true) : withL key x (A ++ B) = A ++ (key, x) :: B := by
  unfold withL foldW
  rw [List.foldl_append, foldl_lower A [] hA, List.nil_append]
  cases B with
  | nil => simp [endW]
  | cons b B =>
    have hb := hB b List.mem_cons_self
    rw [List.foldl_cons, stepW_new (Ne.symm (less_ne hb)) (less_asymm hb), foldl_upper B _ (fun q hq => hB q (List.mem_cons_of_mem _ hq))]
    simp [endW]
/-- where it is -/
theorem withL_old {key : ByteArray} {x y : VT} {A B : List (ByteArray × VT)} (hA : ∀ p ∈ A, less p.1 key = true) (hB : ∀ p ∈ B, less key p.1 = true) : withL key x (A ++ (key, y) :: B) = A ++ (key, x) :: B := by
  unfold withL foldW
  rw [List.foldl_append, foldl_lower A [] hA, List.nil_append, List.foldl_cons, stepW_eq_new (p := (key, y)) rfl, foldl_upper B _ hB]
  simp [endW]
/-- ascending pairs part at a key that is not among them -/
theorem asc_part {key : ByteArray} : ∀ {l : List (ByteArray × VT)}, Asc l → (∀ p ∈ l, p.1 ≠ key) → ∃ A B, l = A ++ B ∧ (∀ p ∈ A, less p.1 key = true) ∧ (∀ p ∈ B, less key p.1 = true)
  | [], _, _ => ⟨[], [], rfl, (fun _ h => by cases h), (fun _ h => by cases h)⟩
  | p :: l, h, hn => by
    obtain ⟨h1, h2⟩ := List.pairwise_cons.1 h
    have hp := hn p List.mem_cons_self
    cases hl : less p.1 key with
    | true =>
      obtain ⟨A, B, rfl, hA, hB⟩ := asc_part h2 (fun q hq => hn q (List.mem_cons_of_mem _ hq))
      refine ⟨p :: A, B, rfl, fun q hq => ?_, hB⟩
      rcases List.mem_cons.1 hq with rfl | hq
      · exact hl
      · exact hA q hq
    | false =>
      have hk := less_tri hl hp
      refine ⟨[], p :: l, rfl, (fun _ h => by cases h), fun q hq => ?_⟩
      rcases List.mem_cons.1 hq with rfl | hq
      · exact hk
      · exact less_trans hk (h1 q hq)
theorem asc_join {key : ByteArray} {x : VT} {A B : List (ByteArray × VT)} (h : Asc (A ++ B)) (hA : ∀ p ∈ A, less p.1 key = true) (hB : ∀ p ∈ B, less key p.1 = true) : Asc (A ++ (key, x) :: B) := by
  unfold Asc at h ⊢
  rw [List.pairwise_append] at h ⊢
  obtain ⟨h1, h2, h3⟩ := h
  refine ⟨h1, List.pairwise_cons.2 ⟨hB, h2⟩, fun a ha b hb => ?_⟩
  rcases List.mem_cons.1 hb with rfl | hb
  · exact hA a ha
  · exact h3 a ha b hb

/-! ### a map of pairs -/
def hasK (acc : List (ByteArray × VT)) (key : ByteArray) : Bool := acc.any fun p => decide (p.1 = key)
def goM : List (ByteArray × VT) → List (ByteArray × VT) → Option (List (ByteArray × VT))
  | acc, [] => some acc
  | acc, p :: r => if hasK acc p.1 = true then none else goM (withL p.1 p.2 acc) r
theorem goM_snoc (p : ByteArray × VT) : ∀ (l acc : List (ByteArray × VT)), goM acc (l ++ [p]) = (goM acc l).bind fun a => if hasK a p.1 = true then none else some (withL p.1 p.2 a)
  | [], acc => by
    rw [List.nil_append]
    simp only [goM, Option.bind_some]
  | q :: l, acc => by
    rw [List.cons_append, goM, goM]
    split
    · rfl
    · exact goM_snoc p l _
theorem goM_none_append (r : List (ByteArray × VT)) : ∀ (l acc : List (ByteArray × VT)), goM acc l = none → goM acc (l ++ r) = none
  | [], acc, h => by simp [goM] at h
  | q :: l, acc, h => by
    rw [List.cons_append, goM]
    rw [goM] at h
    split
    · rfl
    · rename_i hh
      rw [if_neg hh] at h
      exact goM_none_append r l _ h
theorem hasK_iff {acc : List (ByteArray × VT)} {key : ByteArray} : hasK acc key = true ↔ ∃ p ∈ acc, p.1 = key := by
  unfold hasK
  rw [List.any_eq_true]
  simp
theorem hasK_no {acc : List (ByteArray × VT)} {key : ByteArray} (h : hasK acc key = false) : ∀ p ∈ acc, p.1 ≠ key := fun p hp e => by
  rw [hasK_iff.2 ⟨p, hp, e⟩] at h
  cases h
theorem goM_some : ∀ (l acc r : List (ByteArray × VT)), Asc acc → goM acc l = some r → Asc r ∧ r.Perm (acc ++ l)
  | [], acc, r, ha, h => by
    simp only [goM, Option.some.injEq] at h
    subst h
    simpa using ha
  | p :: l, acc, r, ha, h => by
    rw [goM] at h
    cases hk : hasK acc p.1 with
    | true => rw [hk] at h; simp at h
    | false =>
      rw [hk] at h
      obtain ⟨A, B, rfl, hA, hB⟩ := asc_part ha (hasK_no hk)
      have h := (if_neg (show ¬ (false = true) by decide)).symm.trans h
      rw [withL_new hA hB] at h
      obtain ⟨h1, h2⟩ := goM_some l _ r (asc_join ha hA hB) h
      refine ⟨h1, h2.trans ?_⟩
      simp only [List.append_assoc, List.cons_append]
      exact (List.perm_middle.symm.append_left A).trans (by
        have : A ++ (B ++ p :: l) = A ++ B ++ (p :: l) := by simp
        exact List.Perm.refl _) |>.trans (List.Perm.refl _)
theorem goM_none : ∀ (l acc : List (ByteArray × VT)), Asc acc → goM acc l = none → ¬ ((acc ++ l).map (·.1)).Nodup
  | [], acc, _, h => by simp [goM] at h
  | p :: l, acc, ha, h => by
    rw [goM] at h
    cases hk : hasK acc p.1 with
    | true =>
      intro hn
      obtain ⟨q, hq, e⟩ := hasK_iff.1 hk
      rw [List.map_append, List.nodup_append] at hn
      exact hn.2.2 q.1 (List.mem_map_of_mem hq) p.1 (by simp) e
    | false =>
      rw [hk] at h
      obtain ⟨A, B, rfl, hA, hB⟩ := asc_part ha (hasK_no hk)
      have h := (if_neg (show ¬ (false = true) by decide)).symm.trans h
      rw [withL_new hA hB] at h
      have h1 := goM_none l _ (asc_join ha hA hB) h
      intro hn
      apply h1
      have hp : ((A ++ (p.1, p.2) :: B ++ l).map (·.1)).Perm ((A ++ B ++ p :: l).map (·.1)) := by
        refine List.Perm.map _ ?_
        simp only [List.append_assoc, List.cons_append]
        exact List.Perm.append_left A List.perm_middle.symm
      exact hp.nodup_iff.2 hn

/-! ### ascending, in the code's words -/
theorem asc_nodup {l : List (ByteArray × VT)} (h : Asc l) : (l.map (·.1)).Nodup := by
  unfold List.Nodup
  rw [List.pairwise_map]
  exact h.imp fun hl => less_ne hl
theorem asc_eq : ∀ {l l' : List (ByteArray × VT)}, Asc l → Asc l' → l.Perm l' → l = l'
  | [], l', _, _, h => (List.nil_perm.1 h).symm
  | p :: l, [], _, _, h => absurd h.length_eq (by simp)
  | p :: l, q :: l', h1, h2, h => by
    obtain ⟨a1, a2⟩ := List.pairwise_cons.1 h1
    obtain ⟨b1, b2⟩ := List.pairwise_cons.1 h2
    have e : p = q := by
      rcases List.mem_cons.1 (h.mem_iff.1 List.mem_cons_self) with e | hp
      · exact e
      · rcases List.mem_cons.1 (h.mem_iff.2 (List.mem_cons_self (a := q) (l := l'))) with e | hq
        · exact e.symm
        · have := less_trans (a1 q hq) (b1 p hp)
          rw [less_irrefl] at this
          cases this
    subst e
    rw [asc_eq a2 b2 (List.Perm.cons_inv h)]
end Go.Proofs.Ytjbjoalinfhahaa
namespace Go.Proofs.Ytjbjoalinfhahaa
open Go.RowKit

/-- a value that reads through blocks of R and new ones -/
def MakesR (R : Nat → Prop) (y : VT) (w : World) (e : Ending) (w' : World) : Prop := ∃ v, e = .returned v ∧ Lies w' (fun b => R b ∨ (w.heap.size ≤ b ∧ b < w'.heap.size)) y v ∧ Below w.heap.size w w'

/-- the cells of the block that was made last -/
theorem news_alloc {w : World} {cs : Array Value} {t : TypeId} {H : Nat} (h : w.heap.size = H) : ∀ (j : Nat) (u : Value), cs.toList[j]? = some u → (w.alloc (.cells cs t)).cell? ((⟨H, 0, none⟩ : Addr).add j) = some u := by
  subst h
  exact World.news_of_block (heap_alloc_new w _)
/-- a map under way: g its struct, B where its own rows begin; what the items hold lies in w -/
structure OutR (w : World) (R : Nat → Prop) (B g : Nat) (ps : List (ByteArray × VT)) (n : Nat) (AI : Option Addr) (cI : Nat) (AK : Option Addr) (cK : Nat) (wr : World) : Prop where
  len : ps.length = n
  blk : Bk wr g 26 #[.int .i64 5, .int .i64 0, .string ⟨#[]⟩, .slice AI n cI, .slice AK n cK]
  its : ∃ cs, LiesC w R (ps.map (·.2)) cs ∧ wr.ownsRow B 26 5 (.slice AI n cI) n cs
  kys : wr.ownsRow B 9 1 (.slice AK n cK) n (ps.map fun p => Value.string p.1)
/-- the same, with a key more -/
structure MidR (w : World) (R : Nat → Prop) (B g : Nat) (ps : List (ByteArray × VT)) (p : ByteArray × VT) (n : Nat) (AI : Option Addr) (cI : Nat) (AK : Option Addr) (cK : Nat) (wr : World) : Prop where
  len : ps.length = n
  blk : Bk wr g 26 #[.int .i64 5, .int .i64 0, .string ⟨#[]⟩, .slice AI n cI, .slice AK (n + 1) cK]
  its : ∃ cs, LiesC w R (ps.map (·.2)) cs ∧ wr.ownsRow B 26 5 (.slice AI n cI) n cs
  kys : wr.ownsRow B 9 1 (.slice AK (n + 1) cK) (n + 1) ((ps ++ [p]).map fun p => Value.string p.1)
section
variable {R : Nat → Prop} {w w5 wr w4 : World} {B g n : Nat} {ps : List (ByteArray × VT)} {p : ByteArray × VT} {AI AK AK2 AI2 : Option Addr} {cI cK cK2 cI2 : Nat}
theorem below_row {e : TypeId} {size m : Nat} {v : Value} {xs : List Value} (h : wr.ownsRow B e size v m xs) (hg : g < B) : some g ≠ v.ownBlock := fun e' => by
  have := (h.lt g e'.symm).1
  omega
theorem OutR.key (h : OutR w R B g ps n AI cI AK cK wr) (hg : wr.grownBy w5 (Value.slice AK n cK).ownBlock)
    (hown : w5.ownsRow B 9 1 (.slice AK2 (n + 1) cK2) (n + 1) ((ps.map fun p => Value.string p.1) ++ [.string p.1])) (hB : g < B) :
    MidR w R B g ps p n AI cI AK2 cK2 (w5.setCell ⟨g, 4, none⟩ (.slice AK2 (n + 1) cK2)) := by
  obtain ⟨cs, hcs, hi⟩ := h.its
  refine ⟨h.len, (h.blk.grown hg (below_row h.kys hB)).put 4 _, ⟨cs, hcs, ?_⟩, ?_⟩
  · exact own_same (hi.kept hg (own_ne hi h.kys (by decide))) (fun b h1 _ => Below.heap_setCell _ _ _ _ (by show b ≠ g; omega))
  · rw [List.map_append]
    exact own_same hown (fun b h1 _ => Below.heap_setCell _ _ _ _ (by show b ≠ g; omega))
theorem MidR.item {a b s y z : Value} {cs : List Value} (h : MidR w R B g ps p n AI cI AK cK wr) (hcs : LiesC w R (ps.map (·.2)) cs) (hi : wr.ownsRow B 26 5 (.slice AI n cI) n cs)
    (hx : Lies w R p.2 (.agg #[a, b, s, y, z])) (hg : wr.grownBy w5 (Value.slice AI n cI).ownBlock)
    (hown : w5.ownsRow B 26 5 (.slice AI2 (n + 1) cI2) (n + 1) (cs ++ [a, b, s, y, z])) (hB : g < B) :
    OutR w R B g (ps ++ [p]) (n + 1) AI2 cI2 AK cK (w5.setCell ⟨g, 3, none⟩ (.slice AI2 (n + 1) cI2)) := by
  refine ⟨by rw [List.length_append, h.len]; rfl, (h.blk.grown hg (below_row hi hB)).put 3 _, ⟨cs ++ [a, b, s, y, z], ?_, ?_⟩, ?_⟩
  · rw [List.map_append]
    exact LiesC.append hcs ⟨a, b, s, y, z, [], rfl, hx, rfl⟩
  · exact own_same hown (fun b h1 _ => Below.heap_setCell _ _ _ _ (by show b ≠ g; omega))
  · exact own_same (h.kys.kept hg (own_ne h.kys hi (by decide))) (fun b h1 _ => Below.heap_setCell _ _ _ _ (by show b ≠ g; omega))
/-- what has grown -/
theorem out_grown {e : TypeId} {size m i : Nat} {v u : Value} {xs : List Value} (h : w4.grownBy wr (some g)) (hr : wr.ownsRow w4.heap.size e size v m xs) (hg : wr.grownBy w5 v.ownBlock) : w4.grownBy (w5.setCell ⟨g, i, none⟩ u) (some g) :=
  grownBy_trans (grown_low h hg (fun q hq => (hr.lt q hq).1)) (turned w5 g i u)
theorem OutR.lies (h : OutR w R B g ps n AI cI AK cK wr) (hR : ∀ b, R b → b < w.heap.size) (hB : w.heap.size ≤ B) (hb : Below w.heap.size w wr) (hs : ∀ p ∈ ps, p.1.size ≤ 9223372036854775807) :
    Lies wr (fun b => R b ∨ (w.heap.size ≤ b ∧ b < wr.heap.size)) (mapT ps) (.agg #[.int .i64 5, .int .i64 0, .string ⟨#[]⟩, .slice AI n cI, .slice AK n cK]) := by
  obtain ⟨cs, hcs, hi⟩ := h.its
  have hl := h.len
  subst hl
  unfold mapT
  rw [Lies, List.length_map, List.length_map]
  have hk := own_bounds h.kys
  have hi' := own_bounds hi
  refine ⟨AI, cI, AK, cK, rfl, by omega, by omega, by decide, hi'.1, hi'.2, ?_, hk.1, hk.2, ?_⟩
  · exact (hcs.keep (R' := fun b => R b ∨ (w.heap.size ≤ b ∧ b < wr.heap.size)) (fun p hp => hb.cell (hR _ hp)) (fun b h => Or.inl h)).ownR (fun g h1 h2 => Or.inr ⟨by omega, h2⟩) (List.length_map _).symm hi
  · refine strs_ownR (base := B) (fun s hs' => ?_) (fun g h1 h2 => Or.inr ⟨by omega, h2⟩) (List.length_map _).symm (by rw [List.map_map]; exact h.kys)
    obtain ⟨q, hq, rfl⟩ := List.mem_map.1 hs'
    exact hs q hq
end
end Go.Proofs.Ytjbjoalinfhahaa
namespace Go.Proofs.Ytjbjoalinfhahaa
open Go.RowKit

/-- the item of a key -/
def findK (ps : List (ByteArray × VT)) (key : ByteArray) : Option VT := (ps.find? fun p => decide (p.1 = key)).map (·.2)
theorem findK_none {ps : List (ByteArray × VT)} {key : ByteArray} (h : ∀ p ∈ ps, p.1 ≠ key) : findK ps key = none := by
  unfold findK
  rw [List.find?_eq_none.2 (fun p hp => by simpa using h p hp)]
  rfl
theorem findK_at {ps : List (ByteArray × VT)} {key : ByteArray} {j : Nat} {p : ByteArray × VT} (h : ∀ q ∈ ps.take j, q.1 ≠ key) (hj : ps[j]? = some p) (hp : p.1 = key) : findK ps key = some p.2 := by
  unfold findK
  have e : ps = ps.take j ++ p :: ps.drop (j + 1) := by
    have h1 := List.take_append_drop j ps
    have h2 := (List.getElem?_eq_some_iff.1 hj)
    obtain ⟨hl, rfl⟩ := h2
    rw [List.drop_eq_getElem_cons hl] at h1
    exact h1.symm
  rw [e, List.find?_append, List.find?_eq_none.2 (fun q hq => by simpa using h q hq)]
  rw [List.find?_cons_of_pos (by simpa using hp)]
  rfl
/-- a value that only reads through what is below the heap's end, and a bool -/
def MakesLB (y : VT) (b : Bool) (w : World) (e : Ending) (w' : World) : Prop := ∃ v, e = .returned (.tuple #[v, .bool b]) ∧ Lies w' (Lo w') y v ∧ Below w.heap.size w w'

set_option maxRecDepth 100000 in
set_option maxHeartbeats 4000000 in
theorem refget_any (k i : Int) (t : ByteArray) (its : List VT) (ks : List ByteArray) (A : Option Addr) (c : Nat) (A' : Option Addr) (c' : Nat) (key : ByteArray) (w : World)
    (hL : LiesL w (Lo w) A 0 its) (hS : LiesS w (Lo w) A' ks) (h1 : its.length ≤ c) (h2 : c ≤ 9223372036854775807) (_ : ks.length ≤ c') (_ : c' ≤ 9223372036854775807) :
    Calls Try.prog 62 #[vag k i t A its.length c A' ks.length c', .string key] w (MakesLB ((findK (ks.zip its) key).getD nullT) (findK (ks.zip its) key).isSome w) := by
  obtain ⟨w2, hw2⟩ : ∃ w2, w2 = (w.alloc (.cells #[.int .i64 k, .int .i64 i, .string t, .slice A its.length c, .slice A' ks.length c'] 26)).alloc (.cells #[.int .i64 0, .int .i64 0, .string ⟨#[]⟩, .slice none 0 0, .slice none 0 0] 26) := ⟨_, rfl⟩
  have B2 : Hid (Below w.heap.size w w2) := Lib.hid (by rw [hw2]; exact (below_one _ _).trans (Below.alloc (Below.refl _ _) (by simp) _))
  have P2 : Hid (Bk w2 w.heap.size 26 #[.int .i64 k, .int .i64 i, .string t, .slice A its.length c, .slice A' ks.length c']) := Lib.hid (by rw [hw2]; exact (Bk.new _ _ _).alloc _)
  have Q2 : Hid (Bk w2 (w.heap.size + 1) 26 #[.int .i64 0, .int .i64 0, .string ⟨#[]⟩, .slice none 0 0, .slice none 0 0]) := Lib.hid (by rw [hw2]; have := Bk.new (w.alloc (.cells #[.int .i64 k, .int .i64 i, .string t, .slice A its.length c, .slice A' ks.length c'] 26)) 26 #[.int .i64 0, .int .i64 0, .string ⟨#[]⟩, .slice none 0 0, .slice none 0 0]; simpa using this)
  have HL := Lib.hid hL
  have HS := Lib.hid hS
  have HW := Lib.hid hw2
  obtain ⟨r, hr⟩ : ∃ r, r = findK (ks.zip its) key := ⟨_, rfl⟩
  have HR := Lib.hid hr
  rw [← hr]
  clear hw2 hL hS hr
  have p3 := P2.out.cell 3
  have p4 := P2.out.cell 4
  change _ = some (Value.slice A its.length c) at p3
  change _ = some (Value.slice A' ks.length c') at p4
  unfold vag
  go_enter Try.func62, Try.ntmps62
  go_wp2_with fail
  rw [← HW.out]
  go_loopg [6] ks.length (fun gh iv wr => w2 = wr ∧ ∃ (j : Nat), j ≤ ks.length ∧ gh = ks.length - j ∧ iv = .int .i64 j ∧ Hid (∀ p ∈ (ks.zip its).take j, p.1 ≠ key))
  case atStart => exact ⟨rfl, 0, by omega, rfl, rfl, Lib.hid (fun p hp => by simp at hp)⟩
  case round =>
    obtain ⟨rfl, j, hjn, rfl, rfl, HN⟩ := hrel
    by_cases hin : j < ks.length ∧ j < its.length
    · obtain ⟨hlt, hji⟩ := hin
      have g1 := List.getElem?_eq_getElem (l := ks) (i := j) hlt
      have g2 := List.getElem?_eq_getElem (l := its) (i := j) hji
      obtain ⟨hkz, gk, ok, rfl, hgk, ek⟩ := HS.out j _ g1
      obtain ⟨gi, oi, k', i', t', E, n1, c1, E', n2, c2, rfl, hgi, e0, e1, e2, e3, e4, hy⟩ := (HL.out).at_ g2
      have hz := (List.getElem?_zip_eq_some (z := (ks[j]'hlt, its[j]'hji))).2 ⟨g1, g2⟩
      have htk : (ks.zip its).take (j + 1) = (ks.zip its).take j ++ [(ks[j]'hlt, its[j]'hji)] := by
        rw [List.take_add_one, hz]
        rfl
      generalize ks[j]'hlt = kj at *
      generalize its[j]'hji = y at *
      have HY := Lib.hid hy
      have HZ := Lib.hid hz
      have HTK := Lib.hid htk
      have HJ : Hid (j + 1 ≤ ks.length) := Lib.hid hlt
      rw [Nat.zero_add] at e0 e1 e2 e3 e4
      rw [← B2.out.cell (p := ⟨gk, ok + j, none⟩) hgk] at ek
      have cc := fun (q : Nat) => B2.out.cell (p := ⟨gi, q, none⟩) hgi
      rw [← cc] at e0 e1 e2 e3 e4
      clear cc htk hz hy g1 g2 hkz hgi hgk
      by_cases hk : kj = key
      · have t1 : (kj.toList == key.toList) = true := by rw [hk]; simp
        have RS : Hid (r = some y) := Lib.hid (HR.out.trans (findK_at (p := (kj, y)) HN.out HZ.out hk))
        have q0 := Q2.out.cell 0
        have q1 := Q2.out.cell 1
        have q2 := Q2.out.cell 2
        have q3 := Q2.out.cell 3
        have q4 := Q2.out.cell 4
        have f0 := Q2.out.frozen 0
        have f1 := Q2.out.frozen 1
        have f2 := Q2.out.frozen 2
        have f3 := Q2.out.frozen 3
        have f4 := Q2.out.frozen 4
        have LT : Hid (w.heap.size + 1 < w2.heap.size) := Lib.hid Q2.out.lt
        clear hk
        go_wp2
        obtain ⟨wf, hwf⟩ : ∃ wf, wf = ((((w2.setCell ⟨w.heap.size + 1, 0, none⟩ (.int .i64 k')).setCell ⟨w.heap.size + 1, 1, none⟩ (.int .i64 i')).setCell ⟨w.heap.size + 1, 2, none⟩ (.string t')).setCell ⟨w.heap.size + 1, 3, none⟩ (.slice E n1 c1)).setCell ⟨w.heap.size + 1, 4, none⟩ (.slice E' n2 c2) := ⟨_, rfl⟩
        have QF : Hid (Bk wf (w.heap.size + 1) 26 #[.int .i64 k', .int .i64 i', .string t', .slice E n1 c1, .slice E' n2 c2]) := Lib.hid (by rw [hwf]; exact ((((Q2.out.put 0 _).put 1 _).put 2 _).put 3 _).put 4 _)
        have BF : Hid (Below w.heap.size w wf) := Lib.hid (by
          rw [hwf]
          exact ((((B2.out.setCell (p := ⟨w.heap.size + 1, 0, none⟩) (by show w.heap.size ≤ w.heap.size + 1; omega) _).setCell (p := ⟨w.heap.size + 1, 1, none⟩) (by show w.heap.size ≤ w.heap.size + 1; omega) _).setCell (p := ⟨w.heap.size + 1, 2, none⟩) (by show w.heap.size ≤ w.heap.size + 1; omega) _).setCell (p := ⟨w.heap.size + 1, 3, none⟩) (by show w.heap.size ≤ w.heap.size + 1; omega) _).setCell (p := ⟨w.heap.size + 1, 4, none⟩) (by show w.heap.size ≤ w.heap.size + 1; omega) _)
        rw [← hwf]
        refine bodyPost_ret (results_row2 rfl _ _ (w.heap.size + 1) 26 _ (0, 0) _ rfl QF.out Try.underlying26 rfl (by kernel_rfl)) rfl ?_
        rw [RS.out]
        exact ⟨_, rfl, HY.out.below BF.out, BF.out⟩
      · have t1 : (kj.toList == key.toList) = false := by rw [beq_eq_false_iff_ne]; exact fun e => hk (str_inj e)
        have HN2 : Hid (∀ p ∈ (ks.zip its).take (j + 1), p.1 ≠ key) := Lib.hid (fun p hp => by
          rw [HTK.out] at hp
          rcases List.mem_append.1 hp with hp | hp
          · exact HN.out p hp
          · rw [List.mem_singleton.1 hp]; exact hk)
        clear hk
        go_wp2_with fail
        go_roundg (ks.length - (j + 1))
        case measure => have := HJ.out; omega
        case rel => exact ⟨rfl, j + 1, HJ.out, rfl, by go_num, HN2⟩
    · have RS : Hid (r = none) := Lib.hid (HR.out.trans (findK_none (fun p hp => HN.out p (by
        rw [List.take_of_length_le (by rw [List.length_zip]; omega)]
        exact hp))))
      have TT : Hid ((¬ j < ks.length) ∨ (j < ks.length ∧ ¬ j < its.length)) := Lib.hid (by omega)
      have q0 := Q2.out.cell 0
      have q1 := Q2.out.cell 1
      have q2 := Q2.out.cell 2
      have q3 := Q2.out.cell 3
      have q4 := Q2.out.cell 4
      have f0 := Q2.out.frozen 0
      have f1 := Q2.out.frozen 1
      have f2 := Q2.out.frozen 2
      have f3 := Q2.out.frozen 3
      have f4 := Q2.out.frozen 4
      clear hin
      rcases TT.out with u1 | ⟨u1, u2⟩
      all_goals (
        go_wp2
        obtain ⟨wf, hwf⟩ : ∃ wf, wf = ((((w2.setCell ⟨w.heap.size + 1, 0, none⟩ (.int .i64 0)).setCell ⟨w.heap.size + 1, 1, none⟩ (.int .i64 0)).setCell ⟨w.heap.size + 1, 2, none⟩ (.string ⟨#[]⟩)).setCell ⟨w.heap.size + 1, 3, none⟩ (.slice none 0 0)).setCell ⟨w.heap.size + 1, 4, none⟩ (.slice none 0 0) := ⟨_, rfl⟩
        have QF : Hid (Bk wf (w.heap.size + 1) 26 #[.int .i64 0, .int .i64 0, .string ⟨#[]⟩, .slice none 0 0, .slice none 0 0]) := Lib.hid (by rw [hwf]; exact ((((Q2.out.put 0 _).put 1 _).put 2 _).put 3 _).put 4 _)
        have BF : Hid (Below w.heap.size w wf) := Lib.hid (by
          rw [hwf]
          exact ((((B2.out.setCell (p := ⟨w.heap.size + 1, 0, none⟩) (by show w.heap.size ≤ w.heap.size + 1; omega) _).setCell (p := ⟨w.heap.size + 1, 1, none⟩) (by show w.heap.size ≤ w.heap.size + 1; omega) _).setCell (p := ⟨w.heap.size + 1, 2, none⟩) (by show w.heap.size ≤ w.heap.size + 1; omega) _).setCell (p := ⟨w.heap.size + 1, 3, none⟩) (by show w.heap.size ≤ w.heap.size + 1; omega) _).setCell (p := ⟨w.heap.size + 1, 4, none⟩) (by show w.heap.size ≤ w.heap.size + 1; omega) _)
        rw [← hwf]
        refine bodyPost_ret (results_row2 rfl _ _ (w.heap.size + 1) 26 _ (0, 0) _ rfl QF.out Try.underlying26 rfl (by kernel_rfl)) rfl ?_
        rw [RS.out]
        exact ⟨_, rfl, zero_lies _ _, BF.out⟩)
end Go.Proofs.Ytjbjoalinfhahaa
namespace Go.Proofs.Ytjbjoalinfhahaa
open Go.RowKit

set_option maxHeartbeats 400000 in
theorem refInt_any (n : Int) (w : World) : Calls Try.prog 23 #[.int .i64 n] w (Gives (.agg #[.int .i64 2, .int .i64 n, .string ⟨#[]⟩, .slice none 0 0, .slice none 0 0]) w) := by
  go_enter Try.func23, Try.ntmps23
  go_wp2
  obtain ⟨wf, hwf⟩ : ∃ wf, wf = w.alloc (.cells #[.int .i64 2, .int .i64 n, .string ⟨#[]⟩, .slice none 0 0, .slice none 0 0] 26) := ⟨_, rfl⟩
  have QF : Hid (Bk wf w.heap.size 26 #[.int .i64 2, .int .i64 n, .string ⟨#[]⟩, .slice none 0 0, .slice none 0 0]) := Lib.hid (by rw [hwf]; exact Bk.new _ _ _)
  rw [← hwf]
  refine bodyPost_ret (results_cell_row rfl _ _ w.heap.size 26 _ (0, 0) _ rfl QF.out Try.underlying26 rfl (by kernel_rfl)) rfl ?_
  exact ⟨rfl, by rw [hwf]; exact below_one _ _⟩
set_option maxHeartbeats 400000 in
theorem refText_any (s : ByteArray) (w : World) : Calls Try.prog 19 #[.string s] w (Gives (.agg #[.int .i64 3, .int .i64 0, .string s, .slice none 0 0, .slice none 0 0]) w) := by
  go_enter Try.func19, Try.ntmps19
  go_wp2
  obtain ⟨wf, hwf⟩ : ∃ wf, wf = w.alloc (.cells #[.int .i64 3, .int .i64 0, .string s, .slice none 0 0, .slice none 0 0] 26) := ⟨_, rfl⟩
  have QF : Hid (Bk wf w.heap.size 26 #[.int .i64 3, .int .i64 0, .string s, .slice none 0 0, .slice none 0 0]) := Lib.hid (by rw [hwf]; exact Bk.new _ _ _)
  rw [← hwf]
  refine bodyPost_ret (results_cell_row rfl _ _ w.heap.size 26 _ (0, 0) _ rfl QF.out Try.underlying26 rfl (by kernel_rfl)) rfl ?_
  exact ⟨rfl, by rw [hwf]; exact below_one _ _⟩
def boolV (b : Bool) : Value := .agg #[.int .i64 1, .int .i64 (if b = true then 1 else 0), .string ⟨#[]⟩, .slice none 0 0, .slice none 0 0]
set_option maxHeartbeats 400000 in
theorem refBool_any (b : Bool) (w : World) : Calls Try.prog 25 #[.bool b] w (Gives (boolV b) w) := by
  cases b with
  | true =>
    go_enter Try.func25, Try.ntmps25
    go_wp2
    obtain ⟨wf, hwf⟩ : ∃ wf, wf = w.alloc (.cells #[.int .i64 1, .int .i64 1, .string ⟨#[]⟩, .slice none 0 0, .slice none 0 0] 26) := ⟨_, rfl⟩
    have QF : Hid (Bk wf w.heap.size 26 #[.int .i64 1, .int .i64 1, .string ⟨#[]⟩, .slice none 0 0, .slice none 0 0]) := Lib.hid (by rw [hwf]; exact Bk.new _ _ _)
    rw [← hwf]
    refine bodyPost_ret (results_cell_row rfl _ _ w.heap.size 26 _ (0, 0) _ rfl QF.out Try.underlying26 rfl (by kernel_rfl)) rfl ?_
    exact ⟨rfl, by rw [hwf]; exact below_one _ _⟩
  | false =>
    go_enter Try.func25, Try.ntmps25
    go_wp2
    obtain ⟨wf, hwf⟩ : ∃ wf, wf = w.alloc (.cells #[.int .i64 1, .int .i64 0, .string ⟨#[]⟩, .slice none 0 0, .slice none 0 0] 26) := ⟨_, rfl⟩
    have QF : Hid (Bk wf w.heap.size 26 #[.int .i64 1, .int .i64 0, .string ⟨#[]⟩, .slice none 0 0, .slice none 0 0]) := Lib.hid (by rw [hwf]; exact Bk.new _ _ _)
    rw [← hwf]
    refine bodyPost_ret (results_cell_row rfl _ _ w.heap.size 26 _ (0, 0) _ rfl QF.out Try.underlying26 rfl (by kernel_rfl)) rfl ?_
    exact ⟨rfl, by rw [hwf]; exact below_one _ _⟩
set_option maxHeartbeats 400000 in
theorem Bool_any (b : Bool) (w : World) : Calls Try.prog 24 #[.bool b] w (Gives (boolV b) w) := by
  cases b with
  | true =>
    go_enter Try.func24, Try.ntmps24
    go_wp2
    obtain ⟨wf, hwf⟩ : ∃ wf, wf = w.alloc (.cells #[.int .i64 1, .int .i64 1, .string ⟨#[]⟩, .slice none 0 0, .slice none 0 0] 26) := ⟨_, rfl⟩
    have QF : Hid (Bk wf w.heap.size 26 #[.int .i64 1, .int .i64 1, .string ⟨#[]⟩, .slice none 0 0, .slice none 0 0]) := Lib.hid (by rw [hwf]; exact Bk.new _ _ _)
    rw [← hwf]
    refine bodyPost_ret (results_cell_row rfl _ _ w.heap.size 26 _ (0, 0) _ rfl QF.out Try.underlying26 rfl (by kernel_rfl)) rfl ?_
    exact ⟨rfl, by rw [hwf]; exact below_one _ _⟩
  | false =>
    go_enter Try.func24, Try.ntmps24
    go_wp2
    obtain ⟨wf, hwf⟩ : ∃ wf, wf = w.alloc (.cells #[.int .i64 1, .int .i64 0, .string ⟨#[]⟩, .slice none 0 0, .slice none 0 0] 26) := ⟨_, rfl⟩
    have QF : Hid (Bk wf w.heap.size 26 #[.int .i64 1, .int .i64 0, .string ⟨#[]⟩, .slice none 0 0, .slice none 0 0]) := Lib.hid (by rw [hwf]; exact Bk.new _ _ _)
    rw [← hwf]
    refine bodyPost_ret (results_cell_row rfl _ _ w.heap.size 26 _ (0, 0) _ rfl QF.out Try.underlying26 rfl (by kernel_rfl)) rfl ?_
    exact ⟨rfl, by rw [hwf]; exact below_one _ _⟩

/-- a value that only reads through what is below the heap's end -/
def MakesL (y : VT) (w : World) (e : Ending) (w' : World) : Prop := ∃ v, e = .returned v ∧ Lies w' (Lo w') y v ∧ Below w.heap.size w w'
set_option maxRecDepth 100000 in
set_option maxHeartbeats 2000000 in
theorem refList_any {A : Option Addr} {c : Nat} {its : List VT} {w : World} (hL : LiesL w (Lo w) A 0 its) (hr : its.length * 80 ≤ 140737488355328) :
    Calls Try.prog 17 #[.slice A its.length c] w (MakesL (.mk 4 0 ⟨#[]⟩ its []) w) := by
  obtain ⟨iV, hiV, hzV, hsV, hbV⟩ := info_parts Try.infoV
  obtain ⟨cs, hC, hcs⟩ := hL.cells
  obtain ⟨w1, hw1⟩ : ∃ w1, w1 = w.alloc (.cells #[.int .i64 0, .int .i64 0, .string ⟨#[]⟩, .slice none 0 0, .slice none 0 0] 26) := ⟨_, rfl⟩
  have B1 : Hid (Below w.heap.size w w1) := Lib.hid (by rw [hw1]; exact below_one _ _)
  have Q1 : Hid (Bk w1 w.heap.size 26 #[.int .i64 0, .int .i64 0, .string ⟨#[]⟩, .slice none 0 0, .slice none 0 0]) := Lib.hid (by rw [hw1]; exact Bk.new _ _ _)
  have HW1 := Lib.hid hw1
  have HC := Lib.hid hC
  have HR := Lib.hid hr
  have hcl := hC.len
  have HCL := Lib.hid hcl
  have HO := Lib.hid hC.one
  have HL := Lib.hid hL
  have FIN : Hid (∀ (wq : World) (AI : Option Addr) (cI : Nat) (base : Nat), w.heap.size < base → wq.ownsRow base 26 5 (.slice AI its.length cI) its.length cs → Below w.heap.size w wq → ∀ wf : World, (∀ b, b ≠ w.heap.size → wf.heap[b]? = wq.heap[b]?) → wf.heap.size = wq.heap.size →
      Lies wf (Lo wf) (.mk 4 0 ⟨#[]⟩ its []) (.agg #[.int .i64 4, .int .i64 0, .string ⟨#[]⟩, .slice AI its.length cI, .slice none 0 0])) := Lib.hid (fun wq AI cI base hb ho hbl wf hs hz => by
    have hb' := own_bounds ho
    rw [Lies]
    refine ⟨AI, cI, none, 0, rfl, by omega, by omega, by decide, hb'.1, hb'.2, ?_, Nat.le_refl _, by omega, LiesS.none_⟩
    have ho2 : wf.ownsRow base 26 5 (.slice AI its.length cI) its.length cs := own_same ho (fun b h1 _ => hs b (by omega))
    refine (hC.keep (R' := Lo wf) (fun p hp => ?_) (fun b hp => ?_)).ownR (fun g _ hg => hg) rfl ho2
    · have hp' : p.block < w.heap.size := hp
      exact (World.cell?_of_block (hs _ (by omega))).trans (hbl.cell hp)
    · have hp' : b < w.heap.size := hp
      have := hbl.size
      show b < wf.heap.size
      omega)
  clear hw1 hC hr hcl hL
  cases A with
  | none =>
    have hk : its = [] := by
      cases its with
      | nil => rfl
      | cons x r => obtain ⟨⟨g, o, _, _, _, _, _, e, _⟩, _⟩ := HL.out.cons; cases e
    subst hk
    obtain rfl : cs = [] := List.eq_nil_of_length_eq_zero (by simpa using HCL.out)
    have Q2 := Q1
    have B2 := B1
    have LQ := Lib.hid Q1.out.lt
    clear hcs
    go_enter Try.func17, Try.ntmps17
    go_upto_region 3 with fail
    rw [← HW1.out]
    have r0 := Q2.out.cell 0
    have r1 := Q2.out.cell 1
    have r2 := Q2.out.cell 2
    have r3 := Q2.out.cell 3
    have r4 := Q2.out.cell 4
    have f0 := Q2.out.frozen 0
    have f1 := Q2.out.frozen 1
    have f2 := Q2.out.frozen 2
    have f3 := Q2.out.frozen 3
    have f4 := Q2.out.frozen 4
    go_wp2
    obtain ⟨wf, hwf⟩ : ∃ wf, wf = ((((w1.setCell ⟨w.heap.size, 0, none⟩ (.int .i64 4)).setCell ⟨w.heap.size, 1, none⟩ (.int .i64 0)).setCell ⟨w.heap.size, 2, none⟩ (.string ⟨#[]⟩)).setCell ⟨w.heap.size, 3, none⟩ (.slice none 0 0)).setCell ⟨w.heap.size, 4, none⟩ (.slice none 0 0) := ⟨_, rfl⟩
    have QF : Hid (Bk wf w.heap.size 26 #[.int .i64 4, .int .i64 0, .string ⟨#[]⟩, .slice none 0 0, .slice none 0 0]) := Lib.hid (by rw [hwf]; exact ((((Q2.out.put 0 _).put 1 _).put 2 _).put 3 _).put 4 _)
    have SF : Hid (∀ b, b ≠ w.heap.size → wf.heap[b]? = w1.heap[b]?) := Lib.hid (fun b hb => by
      rw [hwf]; exact ((((Below.heap_setCell _ _ _ _ hb).trans (Below.heap_setCell _ _ _ _ hb)).trans (Below.heap_setCell _ _ _ _ hb)).trans (Below.heap_setCell _ _ _ _ hb)).trans (Below.heap_setCell _ _ _ _ hb))
    have ZF : Hid (wf.heap.size = w1.heap.size) := Lib.hid (by rw [hwf]; simp [World.setCell])
    have BF : Hid (Below w.heap.size w wf) := Lib.hid (by
      rw [hwf]
      exact ((((B2.out.setCell (p := ⟨w.heap.size, 0, none⟩) (Nat.le_refl _) _).setCell (p := ⟨w.heap.size, 1, none⟩) (Nat.le_refl _) _).setCell (p := ⟨w.heap.size, 2, none⟩) (Nat.le_refl _) _).setCell (p := ⟨w.heap.size, 3, none⟩) (Nat.le_refl _) _).setCell (p := ⟨w.heap.size, 4, none⟩) (Nat.le_refl _) _)
    rw [← hwf]
    refine bodyPost_ret (results_cell_row rfl _ _ w.heap.size 26 _ (0, 0) _ rfl QF.out Try.underlying26 rfl (by kernel_rfl)) rfl ?_
    exact ⟨_, rfl, FIN.out w1 none 0 w1.heap.size LQ.out (World.ownsRow_nil _ _ _ _) B2.out wf SF.out ZF.out, BF.out⟩
  | some ad =>
    have hnews : ∀ (j : Nat) (u : Value), cs[j]? = some u → w1.cell? (ad.add j) = some u := fun j u hj => by
      obtain ⟨g, o, e, hg, hc⟩ := hcs j u hj
      injection e with e
      subst e
      rw [Addr.add_lit, B1.out.cell (p := ⟨g, o + j, none⟩) hg, ← hc]
      congr 2
      omega
    have HN := Lib.hid hnews
    clear hnews hcs
    go_enter Try.func17, Try.ntmps17
    go_wp2_with (at_builtin; rw [← HW1.out]; refine wpList_append_own _ rfl _ _ 23 rfl w1.heap.size 26 iV (.agg #[.int .i64 0, .int .i64 0, .string ByteArray.empty, .slice none 0 0, .slice none 0 0]) 5 80 Try.underlying23 hiV hzV hsV hbV rfl (by decide) _ 0 [] rfl (World.ownsRow_nil _ _ _ _) ad its.length c cs rfl HCL.out HN.out HO.out (by have := HR.out; unfold maxLen; omega) (by have := HR.out; omega) (Nat.le_refl _) ?_)
    intro v w' hown hg _
    obtain ⟨AI, cI, rfl, _, _⟩ := own_formN hown
    have h1 : w'.ownsRow w1.heap.size 26 5 (.slice AI its.length cI) its.length cs := by simpa using hown
    have b1 : Below w1.heap.size w1 w' := (Below.refl _ _).grown hg (Nat.le_refl _) (fun k hk => by cases hk)
    have Q2 := Lib.hid (Q1.out.below b1 Q1.out.lt)
    have B2 := Lib.hid (below_next B1.out b1)
    have O2 := Lib.hid h1
    have LQ := Lib.hid Q1.out.lt
    clear hown hg h1 b1
    have r0 := Q2.out.cell 0
    have r1 := Q2.out.cell 1
    have r2 := Q2.out.cell 2
    have r3 := Q2.out.cell 3
    have r4 := Q2.out.cell 4
    have f0 := Q2.out.frozen 0
    have f1 := Q2.out.frozen 1
    have f2 := Q2.out.frozen 2
    have f3 := Q2.out.frozen 3
    have f4 := Q2.out.frozen 4
    go_wp2
    obtain ⟨wf, hwf⟩ : ∃ wf, wf = ((((w'.setCell ⟨w.heap.size, 0, none⟩ (.int .i64 4)).setCell ⟨w.heap.size, 1, none⟩ (.int .i64 0)).setCell ⟨w.heap.size, 2, none⟩ (.string ⟨#[]⟩)).setCell ⟨w.heap.size, 3, none⟩ (.slice AI its.length cI)).setCell ⟨w.heap.size, 4, none⟩ (.slice none 0 0) := ⟨_, rfl⟩
    have QF : Hid (Bk wf w.heap.size 26 #[.int .i64 4, .int .i64 0, .string ⟨#[]⟩, .slice AI its.length cI, .slice none 0 0]) := Lib.hid (by rw [hwf]; exact ((((Q2.out.put 0 _).put 1 _).put 2 _).put 3 _).put 4 _)
    have SF : Hid (∀ b, b ≠ w.heap.size → wf.heap[b]? = w'.heap[b]?) := Lib.hid (fun b hb => by
      rw [hwf]; exact ((((Below.heap_setCell _ _ _ _ hb).trans (Below.heap_setCell _ _ _ _ hb)).trans (Below.heap_setCell _ _ _ _ hb)).trans (Below.heap_setCell _ _ _ _ hb)).trans (Below.heap_setCell _ _ _ _ hb))
    have ZF : Hid (wf.heap.size = w'.heap.size) := Lib.hid (by rw [hwf]; simp [World.setCell])
    have BF : Hid (Below w.heap.size w wf) := Lib.hid (by
      rw [hwf]
      exact ((((B2.out.setCell (p := ⟨w.heap.size, 0, none⟩) (Nat.le_refl _) _).setCell (p := ⟨w.heap.size, 1, none⟩) (Nat.le_refl _) _).setCell (p := ⟨w.heap.size, 2, none⟩) (Nat.le_refl _) _).setCell (p := ⟨w.heap.size, 3, none⟩) (Nat.le_refl _) _).setCell (p := ⟨w.heap.size, 4, none⟩) (Nat.le_refl _) _)
    rw [← hwf]
    refine bodyPost_ret (results_cell_row rfl _ _ w.heap.size 26 _ (0, 0) _ rfl QF.out Try.underlying26 rfl (by kernel_rfl)) rfl ?_
    exact ⟨_, rfl, FIN.out w' AI cI w1.heap.size LQ.out O2.out B2.out wf SF.out ZF.out, BF.out⟩
end Go.Proofs.Ytjbjoalinfhahaa
namespace Go.Proofs.Ytjbjoalinfhahaa
open Go.RowKit

/-- the exception of a failed operation -/
def failT (kind : ByteArray) (x : VT) : VT := .mk 5 0 ⟨#[]⟩ [x, .mk 3 0 kind [] []] [⟨#[100, 97, 116, 97]⟩, ⟨#[116, 121, 112, 101]⟩]
theorem fail_lies {W : World} {R : Nat → Prop} {gK gI : Nat} {kind : ByteArray} {x : VT} {k i : Int} {t : ByteArray} {A : Option Addr} {n c : Nat} {A' : Option Addr} {n' c' : Nat} (hk : kind.size ≤ 9223372036854775807) (rK : R gK) (rI : R gI) (hK : Bk W gK 9 #[.string ⟨#[100, 97, 116, 97]⟩, .string ⟨#[116, 121, 112, 101]⟩]) (hI : Bk W gI 26 #[.int .i64 k, .int .i64 i, .string t, .slice A n c, .slice A' n' c', .int .i64 3, .int .i64 0, .string kind, .slice none 0 0, .slice none 0 0])
    (hx : Lies W R x (.agg #[.int .i64 k, .int .i64 i, .string t, .slice A n c, .slice A' n' c'])) : Lies W R (failT kind x) (.agg #[.int .i64 5, .int .i64 0, .string ⟨#[]⟩, .slice (some ⟨gI, 0, none⟩) 2 2, .slice (some ⟨gK, 0, none⟩) 2 2]) := by
  unfold failT
  rw [Lies]
  refine ⟨some ⟨gI, 0, none⟩, 2, some ⟨gK, 0, none⟩, 2, rfl, by omega, by omega, by decide, Nat.le_refl _, by omega, ?_, Nat.le_refl _, by omega, ?_⟩
  · rw [LiesL, LiesL, LiesL]
    refine ⟨⟨gI, 0, _, _, _, _, _, rfl, rI, hI.cell 0, hI.cell 1, hI.cell 2, hI.cell 3, hI.cell 4, hx⟩, ⟨gI, 0, _, _, _, _, _, rfl, rI, hI.cell 5, hI.cell 6, hI.cell 7, hI.cell 8, hI.cell 9, ?_⟩, trivial⟩
    rw [Lies]
    exact ⟨none, 0, none, 0, rfl, by omega, by omega, hk, Nat.le_refl _, by omega, LiesL.none_, Nat.le_refl _, by omega, LiesS.none_⟩
  · intro j s hj
    match j with
    | 0 => simp at hj; subst hj; exact ⟨by decide, gK, 0, rfl, rK, hK.cell 0⟩
    | 1 => simp at hj; subst hj; exact ⟨by decide, gK, 0, rfl, rK, hK.cell 1⟩
    | j + 2 => simp at hj

set_option maxRecDepth 100000 in
set_option maxHeartbeats 8000000 in
theorem refFailure_any {kind : ByteArray} {x : VT} {v : Value} {w : World} (hk : kind.size ≤ 9223372036854775807) (hv : Lies w (Lo w) x v) :
    Calls Try.prog 21 #[.string kind, v] w (MakesL (failT kind x) w) := by
  obtain ⟨k, i, t, A, n, c, A', n', c', rfl⟩ := hv.formV
  obtain ⟨w2, hw2⟩ : ∃ w2, w2 = (w.alloc (.cells #[.int .i64 k, .int .i64 i, .string t, .slice A n c, .slice A' n' c'] 26)).alloc (.cells #[.int .i64 0, .int .i64 0, .string ⟨#[]⟩, .slice none 0 0, .slice none 0 0] 26) := ⟨_, rfl⟩
  have B2 : Hid (Below w.heap.size w w2) := Lib.hid (by rw [hw2]; exact (below_one _ _).trans (Below.alloc (Below.refl _ _) (by simp) _))
  have P2 : Hid (Bk w2 w.heap.size 26 #[.int .i64 k, .int .i64 i, .string t, .slice A n c, .slice A' n' c']) := Lib.hid (by rw [hw2]; exact (Bk.new _ _ _).alloc _)
  have Q2 : Hid (Bk w2 (w.heap.size + 1) 26 #[.int .i64 0, .int .i64 0, .string ⟨#[]⟩, .slice none 0 0, .slice none 0 0]) := Lib.hid (by rw [hw2]; have := Bk.new (w.alloc (.cells #[.int .i64 k, .int .i64 i, .string t, .slice A n c, .slice A' n' c'] 26)) 26 #[.int .i64 0, .int .i64 0, .string ⟨#[]⟩, .slice none 0 0, .slice none 0 0]; simpa using this)
  have HV := Lib.hid hv
  have HK := Lib.hid hk
  have HW := Lib.hid hw2
  have MV : Hid (∀ W, Below w2.heap.size w2 W → W.cell? ⟨w.heap.size, 0, none⟩ = some (.int .i64 k) ∧ W.cell? ⟨w.heap.size, 1, none⟩ = some (.int .i64 i) ∧ W.cell? ⟨w.heap.size, 2, none⟩ = some (.string t) ∧ W.cell? ⟨w.heap.size, 3, none⟩ = some (.slice A n c) ∧ W.cell? ⟨w.heap.size, 4, none⟩ = some (.slice A' n' c')) := Lib.hid (fun W hb => by
    have P := P2.out.below hb P2.out.lt
    exact ⟨P.cell 0, P.cell 1, P.cell 2, P.cell 3, P.cell 4⟩)
  have LT2 := Lib.hid Q2.out.lt
  clear hw2 hv hk
  obtain ⟨c0, c1, c2, c3, c4⟩ := MV.out w2 (Below.refl _ _)
  have lt0 : w.heap.size < w2.heap.size := by have := LT2.out; omega
  have lt1 : w.heap.size + 1 < w2.heap.size := LT2.out
  have q0 := Q2.out.cell 0
  have q1 := Q2.out.cell 1
  have q2 := Q2.out.cell 2
  have q3 := Q2.out.cell 3
  have q4 := Q2.out.cell 4
  have f0 := Q2.out.frozen 0
  have f1 := Q2.out.frozen 1
  have f2 := Q2.out.frozen 2
  have f3 := Q2.out.frozen 3
  have f4 := Q2.out.frozen 4
  go_enter Try.func21, Try.ntmps21
  go_wp2_with fail
  rw [← HW.out]
  go_region_law (first
      | (go_simp; go_at_call 19; refine (refText_any kind _).mono ?_; rintro _ wB ⟨rfl, hbB⟩; have HB : Hid (Below w2.heap.size w2 wB) := Lib.hid (by first | exact Below.trans (b := (w2.alloc (.cells #[.string ⟨#[100, 97, 116, 97]⟩, .string ⟨#[116, 121, 112, 101]⟩] 9)).drew) ⟨rfl, rfl, rfl, by simp, fun b hb => Below.heap_alloc _ _ b hb⟩ (show Below w2.heap.size _ wB from hbB.mono (by simp)) | exact Below.trans (b := w2.drew) ⟨rfl, rfl, rfl, by simp, fun b hb => rfl⟩ (show Below w2.heap.size _ wB from hbB.mono (by simp))); obtain ⟨d0, d1, d2, d3, d4⟩ := MV.out wB HB.out; have QB := Lib.hid (Q2.out.below HB.out LT2.out); have ltb1 : w.heap.size < wB.heap.size := Nat.lt_of_lt_of_le lt0 HB.out.size; have ltb2 : w.heap.size + 1 < wB.heap.size := Nat.lt_of_lt_of_le lt1 HB.out.size; have q0 := QB.out.cell 0; have q1 := QB.out.cell 1; have q2 := QB.out.cell 2; have q3 := QB.out.cell 3; have q4 := QB.out.cell 4; have f0 := QB.out.frozen 0; have f1 := QB.out.frozen 1; have f2 := QB.out.frozen 2; have f3 := QB.out.frozen 3; have f4 := QB.out.frozen 4))
  all_goals (
    have BW := B2.out.trans (HB.out.mono B2.out.size)
    go_wp2
    first
      | (obtain ⟨wP, hwP⟩ : ∃ wP, wP = ((((wB.setCell ⟨w.heap.size + 1, 0, none⟩ (.int .i64 5)).setCell ⟨w.heap.size + 1, 1, none⟩ (.int .i64 0)).setCell ⟨w.heap.size + 1, 2, none⟩ (.string ⟨#[]⟩)).setCell ⟨w.heap.size + 1, 3, none⟩ (.slice (some ⟨wB.heap.size, 0, none⟩) 2 2)).setCell ⟨w.heap.size + 1, 4, none⟩ (.slice (some ⟨w2.heap.size, 0, none⟩) 2 2) := ⟨_, rfl⟩
         rw [← hwP]
         have QP : Bk wP (w.heap.size + 1) 26 #[.int .i64 5, .int .i64 0, .string ⟨#[]⟩, .slice (some ⟨wB.heap.size, 0, none⟩) 2 2, .slice (some ⟨w2.heap.size, 0, none⟩) 2 2] := by rw [hwP]; exact ((((QB.out.put 0 _).put 1 _).put 2 _).put 3 _).put 4 _
         have ZP : wP.heap.size = wB.heap.size := by rw [hwP]; simp [World.setCell]
         have SP : ∀ b, b ≠ w.heap.size + 1 → wP.heap[b]? = wB.heap[b]? := fun b hb => by
           rw [hwP]; exact ((((Below.heap_setCell _ _ _ _ hb).trans (Below.heap_setCell _ _ _ _ hb)).trans (Below.heap_setCell _ _ _ _ hb)).trans (Below.heap_setCell _ _ _ _ hb)).trans (Below.heap_setCell _ _ _ _ hb)
         have BP : Below w.heap.size w wP := by
           rw [hwP]
           exact ((((BW.setCell (p := ⟨w.heap.size + 1, 0, none⟩) (by show w.heap.size ≤ w.heap.size + 1; omega) _).setCell (p := ⟨w.heap.size + 1, 1, none⟩) (by show w.heap.size ≤ w.heap.size + 1; omega) _).setCell (p := ⟨w.heap.size + 1, 2, none⟩) (by show w.heap.size ≤ w.heap.size + 1; omega) _).setCell (p := ⟨w.heap.size + 1, 3, none⟩) (by show w.heap.size ≤ w.heap.size + 1; omega) _).setCell (p := ⟨w.heap.size + 1, 4, none⟩) (by show w.heap.size ≤ w.heap.size + 1; omega) _
         have BZ : Below w.heap.size w (wP.alloc (.cells #[.int .i64 k, .int .i64 i, .string t, .slice A n c, .slice A' n' c', .int .i64 3, .int .i64 0, .string kind, .slice none 0 0, .slice none 0 0] 26)) := BP.trans (((below_one wP _) : Below wP.heap.size wP (wP.alloc (.cells #[.int .i64 k, .int .i64 i, .string t, .slice A n c, .slice A' n' c', .int .i64 3, .int .i64 0, .string kind, .slice none 0 0, .slice none 0 0] 26))).mono BP.size)
         have QZ : Bk (wP.alloc (.cells #[.int .i64 k, .int .i64 i, .string t, .slice A n c, .slice A' n' c', .int .i64 3, .int .i64 0, .string kind, .slice none 0 0, .slice none 0 0] 26)) (w.heap.size + 1) 26 _ := (QP.alloc _)
         have KZ : Bk (wP.alloc (.cells #[.int .i64 k, .int .i64 i, .string t, .slice A n c, .slice A' n' c', .int .i64 3, .int .i64 0, .string kind, .slice none 0 0, .slice none 0 0] 26)) (w2.heap.size) 9 #[.string ⟨#[100, 97, 116, 97]⟩, .string ⟨#[116, 121, 112, 101]⟩] := (Bk.alloc ((SP _ (by have := LT2.out; omega)).trans (Bk.below (w := (w2.alloc (.cells #[.string ⟨#[100, 97, 116, 97]⟩, .string ⟨#[116, 121, 112, 101]⟩] 9)).drew) (Bk.new w2 9 #[.string ⟨#[100, 97, 116, 97]⟩, .string ⟨#[116, 121, 112, 101]⟩]) hbB (by simp)) : Bk wP w2.heap.size 9 #[.string ⟨#[100, 97, 116, 97]⟩, .string ⟨#[116, 121, 112, 101]⟩]) _)
         have IZ : Bk (wP.alloc (.cells #[.int .i64 k, .int .i64 i, .string t, .slice A n c, .slice A' n' c', .int .i64 3, .int .i64 0, .string kind, .slice none 0 0, .slice none 0 0] 26)) (wB.heap.size) 26 #[.int .i64 k, .int .i64 i, .string t, .slice A n c, .slice A' n' c', .int .i64 3, .int .i64 0, .string kind, .slice none 0 0, .slice none 0 0] := (by have := Bk.new wP 26 #[.int .i64 k, .int .i64 i, .string t, .slice A n c, .slice A' n' c', .int .i64 3, .int .i64 0, .string kind, .slice none 0 0, .slice none 0 0]; rwa [ZP] at this)
         refine bodyPost_ret (results_cell_row rfl _ _ (w.heap.size + 1) 26 _ (0, 0) _ rfl QZ Try.underlying26 rfl (by kernel_rfl)) rfl ?_
         exact ⟨_, rfl, fail_lies HK.out KZ.lt IZ.lt KZ IZ (HV.out.below BZ), BZ⟩)
      | (obtain ⟨wP, hwP⟩ : ∃ wP, wP = ((((wB.setCell ⟨w.heap.size + 1, 0, none⟩ (.int .i64 5)).setCell ⟨w.heap.size + 1, 1, none⟩ (.int .i64 0)).setCell ⟨w.heap.size + 1, 2, none⟩ (.string ⟨#[]⟩)).setCell ⟨w.heap.size + 1, 3, none⟩ (.slice (some ⟨wB.heap.size + 1, 0, none⟩) 2 2)).setCell ⟨w.heap.size + 1, 4, none⟩ (.slice (some ⟨wB.heap.size, 0, none⟩) 2 2) := ⟨_, rfl⟩
         rw [← hwP]
         have QP : Bk wP (w.heap.size + 1) 26 #[.int .i64 5, .int .i64 0, .string ⟨#[]⟩, .slice (some ⟨wB.heap.size + 1, 0, none⟩) 2 2, .slice (some ⟨wB.heap.size, 0, none⟩) 2 2] := by rw [hwP]; exact ((((QB.out.put 0 _).put 1 _).put 2 _).put 3 _).put 4 _
         have ZP : wP.heap.size = wB.heap.size := by rw [hwP]; simp [World.setCell]
         have SP : ∀ b, b ≠ w.heap.size + 1 → wP.heap[b]? = wB.heap[b]? := fun b hb => by
           rw [hwP]; exact ((((Below.heap_setCell _ _ _ _ hb).trans (Below.heap_setCell _ _ _ _ hb)).trans (Below.heap_setCell _ _ _ _ hb)).trans (Below.heap_setCell _ _ _ _ hb)).trans (Below.heap_setCell _ _ _ _ hb)
         have BP : Below w.heap.size w wP := by
           rw [hwP]
           exact ((((BW.setCell (p := ⟨w.heap.size + 1, 0, none⟩) (by show w.heap.size ≤ w.heap.size + 1; omega) _).setCell (p := ⟨w.heap.size + 1, 1, none⟩) (by show w.heap.size ≤ w.heap.size + 1; omega) _).setCell (p := ⟨w.heap.size + 1, 2, none⟩) (by show w.heap.size ≤ w.heap.size + 1; omega) _).setCell (p := ⟨w.heap.size + 1, 3, none⟩) (by show w.heap.size ≤ w.heap.size + 1; omega) _).setCell (p := ⟨w.heap.size + 1, 4, none⟩) (by show w.heap.size ≤ w.heap.size + 1; omega) _
         have BZ : Below w.heap.size w ((wP.alloc (.cells #[.string ⟨#[100, 97, 116, 97]⟩, .string ⟨#[116, 121, 112, 101]⟩] 9)).alloc (.cells #[.int .i64 k, .int .i64 i, .string t, .slice A n c, .slice A' n' c', .int .i64 3, .int .i64 0, .string kind, .slice none 0 0, .slice none 0 0] 26)) := BP.trans ((((below_one wP _).alloc (by simp) _) : Below wP.heap.size wP ((wP.alloc (.cells #[.string ⟨#[100, 97, 116, 97]⟩, .string ⟨#[116, 121, 112, 101]⟩] 9)).alloc (.cells #[.int .i64 k, .int .i64 i, .string t, .slice A n c, .slice A' n' c', .int .i64 3, .int .i64 0, .string kind, .slice none 0 0, .slice none 0 0] 26))).mono BP.size)
         have QZ : Bk ((wP.alloc (.cells #[.string ⟨#[100, 97, 116, 97]⟩, .string ⟨#[116, 121, 112, 101]⟩] 9)).alloc (.cells #[.int .i64 k, .int .i64 i, .string t, .slice A n c, .slice A' n' c', .int .i64 3, .int .i64 0, .string kind, .slice none 0 0, .slice none 0 0] 26)) (w.heap.size + 1) 26 _ := ((QP.alloc _).alloc _)
         have KZ : Bk ((wP.alloc (.cells #[.string ⟨#[100, 97, 116, 97]⟩, .string ⟨#[116, 121, 112, 101]⟩] 9)).alloc (.cells #[.int .i64 k, .int .i64 i, .string t, .slice A n c, .slice A' n' c', .int .i64 3, .int .i64 0, .string kind, .slice none 0 0, .slice none 0 0] 26)) (wB.heap.size) 9 #[.string ⟨#[100, 97, 116, 97]⟩, .string ⟨#[116, 121, 112, 101]⟩] := (Bk.alloc (by have := Bk.new wP 9 #[.string ⟨#[100, 97, 116, 97]⟩, .string ⟨#[116, 121, 112, 101]⟩]; rwa [ZP] at this) _)
         have IZ : Bk ((wP.alloc (.cells #[.string ⟨#[100, 97, 116, 97]⟩, .string ⟨#[116, 121, 112, 101]⟩] 9)).alloc (.cells #[.int .i64 k, .int .i64 i, .string t, .slice A n c, .slice A' n' c', .int .i64 3, .int .i64 0, .string kind, .slice none 0 0, .slice none 0 0] 26)) (wB.heap.size + 1) 26 #[.int .i64 k, .int .i64 i, .string t, .slice A n c, .slice A' n' c', .int .i64 3, .int .i64 0, .string kind, .slice none 0 0, .slice none 0 0] := (by have := Bk.new (wP.alloc (.cells #[.string ⟨#[100, 97, 116, 97]⟩, .string ⟨#[116, 121, 112, 101]⟩] 9)) 26 #[.int .i64 k, .int .i64 i, .string t, .slice A n c, .slice A' n' c', .int .i64 3, .int .i64 0, .string kind, .slice none 0 0, .slice none 0 0]; simpa [ZP] using this)
         refine bodyPost_ret (results_cell_row rfl _ _ (w.heap.size + 1) 26 _ (0, 0) _ rfl QZ Try.underlying26 rfl (by kernel_rfl)) rfl ?_
         exact ⟨_, rfl, fail_lies HK.out KZ.lt IZ.lt KZ IZ (HV.out.below BZ), BZ⟩)
      | (obtain ⟨wP, hwP⟩ : ∃ wP, wP = ((((wB.setCell ⟨w.heap.size + 1, 0, none⟩ (.int .i64 5)).setCell ⟨w.heap.size + 1, 1, none⟩ (.int .i64 0)).setCell ⟨w.heap.size + 1, 2, none⟩ (.string ⟨#[]⟩)).setCell ⟨w.heap.size + 1, 3, none⟩ (.slice (some ⟨wB.heap.size, 0, none⟩) 2 2)).setCell ⟨w.heap.size + 1, 4, none⟩ (.slice (some ⟨wB.heap.size + 1, 0, none⟩) 2 2) := ⟨_, rfl⟩
         rw [← hwP]
         have QP : Bk wP (w.heap.size + 1) 26 #[.int .i64 5, .int .i64 0, .string ⟨#[]⟩, .slice (some ⟨wB.heap.size, 0, none⟩) 2 2, .slice (some ⟨wB.heap.size + 1, 0, none⟩) 2 2] := by rw [hwP]; exact ((((QB.out.put 0 _).put 1 _).put 2 _).put 3 _).put 4 _
         have ZP : wP.heap.size = wB.heap.size := by rw [hwP]; simp [World.setCell]
         have SP : ∀ b, b ≠ w.heap.size + 1 → wP.heap[b]? = wB.heap[b]? := fun b hb => by
           rw [hwP]; exact ((((Below.heap_setCell _ _ _ _ hb).trans (Below.heap_setCell _ _ _ _ hb)).trans (Below.heap_setCell _ _ _ _ hb)).trans (Below.heap_setCell _ _ _ _ hb)).trans (Below.heap_setCell _ _ _ _ hb)
         have BP : Below w.heap.size w wP := by
           rw [hwP]
           exact ((((BW.setCell (p := ⟨w.heap.size + 1, 0, none⟩) (by show w.heap.size ≤ w.heap.size + 1; omega) _).setCell (p := ⟨w.heap.size + 1, 1, none⟩) (by show w.heap.size ≤ w.heap.size + 1; omega) _).setCell (p := ⟨w.heap.size + 1, 2, none⟩) (by show w.heap.size ≤ w.heap.size + 1; omega) _).setCell (p := ⟨w.heap.size + 1, 3, none⟩) (by show w.heap.size ≤ w.heap.size + 1; omega) _).setCell (p := ⟨w.heap.size + 1, 4, none⟩) (by show w.heap.size ≤ w.heap.size + 1; omega) _
         have BZ : Below w.heap.size w ((wP.alloc (.cells #[.int .i64 k, .int .i64 i, .string t, .slice A n c, .slice A' n' c', .int .i64 3, .int .i64 0, .string kind, .slice none 0 0, .slice none 0 0] 26)).alloc (.cells #[.string ⟨#[100, 97, 116, 97]⟩, .string ⟨#[116, 121, 112, 101]⟩] 9)) := BP.trans ((((below_one wP _).alloc (by simp) _) : Below wP.heap.size wP ((wP.alloc (.cells #[.int .i64 k, .int .i64 i, .string t, .slice A n c, .slice A' n' c', .int .i64 3, .int .i64 0, .string kind, .slice none 0 0, .slice none 0 0] 26)).alloc (.cells #[.string ⟨#[100, 97, 116, 97]⟩, .string ⟨#[116, 121, 112, 101]⟩] 9))).mono BP.size)
         have QZ : Bk ((wP.alloc (.cells #[.int .i64 k, .int .i64 i, .string t, .slice A n c, .slice A' n' c', .int .i64 3, .int .i64 0, .string kind, .slice none 0 0, .slice none 0 0] 26)).alloc (.cells #[.string ⟨#[100, 97, 116, 97]⟩, .string ⟨#[116, 121, 112, 101]⟩] 9)) (w.heap.size + 1) 26 _ := ((QP.alloc _).alloc _)
         have KZ : Bk ((wP.alloc (.cells #[.int .i64 k, .int .i64 i, .string t, .slice A n c, .slice A' n' c', .int .i64 3, .int .i64 0, .string kind, .slice none 0 0, .slice none 0 0] 26)).alloc (.cells #[.string ⟨#[100, 97, 116, 97]⟩, .string ⟨#[116, 121, 112, 101]⟩] 9)) (wB.heap.size + 1) 9 #[.string ⟨#[100, 97, 116, 97]⟩, .string ⟨#[116, 121, 112, 101]⟩] := (by have := Bk.new (wP.alloc (.cells #[.int .i64 k, .int .i64 i, .string t, .slice A n c, .slice A' n' c', .int .i64 3, .int .i64 0, .string kind, .slice none 0 0, .slice none 0 0] 26)) 9 #[.string ⟨#[100, 97, 116, 97]⟩, .string ⟨#[116, 121, 112, 101]⟩]; simpa [ZP] using this)
         have IZ : Bk ((wP.alloc (.cells #[.int .i64 k, .int .i64 i, .string t, .slice A n c, .slice A' n' c', .int .i64 3, .int .i64 0, .string kind, .slice none 0 0, .slice none 0 0] 26)).alloc (.cells #[.string ⟨#[100, 97, 116, 97]⟩, .string ⟨#[116, 121, 112, 101]⟩] 9)) (wB.heap.size) 26 #[.int .i64 k, .int .i64 i, .string t, .slice A n c, .slice A' n' c', .int .i64 3, .int .i64 0, .string kind, .slice none 0 0, .slice none 0 0] := (Bk.alloc (by have := Bk.new wP 26 #[.int .i64 k, .int .i64 i, .string t, .slice A n c, .slice A' n' c', .int .i64 3, .int .i64 0, .string kind, .slice none 0 0, .slice none 0 0]; rwa [ZP] at this) _)
         refine bodyPost_ret (results_cell_row rfl _ _ (w.heap.size + 1) 26 _ (0, 0) _ rfl QZ Try.underlying26 rfl (by kernel_rfl)) rfl ?_
         exact ⟨_, rfl, fail_lies HK.out KZ.lt IZ.lt KZ IZ (HV.out.below BZ), BZ⟩))

set_option maxRecDepth 100000 in
set_option maxHeartbeats 8000000 in
theorem Failure_any {kind : ByteArray} {x : VT} {v : Value} {w : World} (hk : kind.size ≤ 9223372036854775807) (hv : Lies w (Lo w) x v) (hr : x.all reachF = true) :
    Calls Try.prog 20 #[.string kind, v] w (Copies (failT kind x) w) := by
  obtain ⟨k, i, t, A, n, c, A', n', c', rfl⟩ := hv.formV
  obtain ⟨w2, hw2⟩ : ∃ w2, w2 = (w.alloc (.cells #[.int .i64 k, .int .i64 i, .string t, .slice A n c, .slice A' n' c'] 26)).alloc (.cells #[.int .i64 0, .int .i64 0, .string ⟨#[]⟩, .slice none 0 0, .slice none 0 0] 26) := ⟨_, rfl⟩
  have B2 : Hid (Below w.heap.size w w2) := Lib.hid (by rw [hw2]; exact (below_one _ _).trans (Below.alloc (Below.refl _ _) (by simp) _))
  have P2 : Hid (Bk w2 w.heap.size 26 #[.int .i64 k, .int .i64 i, .string t, .slice A n c, .slice A' n' c']) := Lib.hid (by rw [hw2]; exact (Bk.new _ _ _).alloc _)
  have Q2 : Hid (Bk w2 (w.heap.size + 1) 26 #[.int .i64 0, .int .i64 0, .string ⟨#[]⟩, .slice none 0 0, .slice none 0 0]) := Lib.hid (by rw [hw2]; have := Bk.new (w.alloc (.cells #[.int .i64 k, .int .i64 i, .string t, .slice A n c, .slice A' n' c'] 26)) 26 #[.int .i64 0, .int .i64 0, .string ⟨#[]⟩, .slice none 0 0, .slice none 0 0]; simpa using this)
  have HV := Lib.hid hv
  have HK := Lib.hid hk
  have HW := Lib.hid hw2
  have MV : Hid (∀ W, Below w2.heap.size w2 W → W.cell? ⟨w.heap.size, 0, none⟩ = some (.int .i64 k) ∧ W.cell? ⟨w.heap.size, 1, none⟩ = some (.int .i64 i) ∧ W.cell? ⟨w.heap.size, 2, none⟩ = some (.string t) ∧ W.cell? ⟨w.heap.size, 3, none⟩ = some (.slice A n c) ∧ W.cell? ⟨w.heap.size, 4, none⟩ = some (.slice A' n' c')) := Lib.hid (fun W hb => by
    have P := P2.out.below hb P2.out.lt
    exact ⟨P.cell 0, P.cell 1, P.cell 2, P.cell 3, P.cell 4⟩)
  have LT2 := Lib.hid Q2.out.lt
  have HR := Lib.hid hr
  clear hr
  clear hw2 hv hk
  obtain ⟨c0, c1, c2, c3, c4⟩ := MV.out w2 (Below.refl _ _)
  have lt0 : w.heap.size < w2.heap.size := by have := LT2.out; omega
  have lt1 : w.heap.size + 1 < w2.heap.size := LT2.out
  have q0 := Q2.out.cell 0
  have q1 := Q2.out.cell 1
  have q2 := Q2.out.cell 2
  have q3 := Q2.out.cell 3
  have q4 := Q2.out.cell 4
  have f0 := Q2.out.frozen 0
  have f1 := Q2.out.frozen 1
  have f2 := Q2.out.frozen 2
  have f3 := Q2.out.frozen 3
  have f4 := Q2.out.frozen 4
  have RF : Hid ((failT kind x).all reachF = true) := Lib.hid (by
    unfold failT
    rw [VT.all_mk]
    simp only [alls, HR.out, VT.all_mk]
    rfl)
  have HG : Hid (∀ (wB : World) (HB : Hid (Below w2.heap.size w2 wB)) (W : World) (gI gK : Nat), Bk W gK 9 #[.string ⟨#[100, 97, 116, 97]⟩, .string ⟨#[116, 121, 112, 101]⟩] → Bk W gI 26 #[.int .i64 k, .int .i64 i, .string t, .slice A n c, .slice A' n' c', .int .i64 3, .int .i64 0, .string kind, .slice none 0 0, .slice none 0 0] → Below wB.heap.size wB W → Calls Try.prog 28 #[.agg #[.int .i64 5, .int .i64 0, .string ⟨#[]⟩, .slice (some ⟨gI, 0, none⟩) 2 2, .slice (some ⟨gK, 0, none⟩) 2 2]] W (Copies (failT kind x) W)) := Lib.hid (fun wB HB W gI gK kz iz hb => by
    have hW : Below w.heap.size w W := (B2.out.trans (HB.out.mono B2.out.size)).trans (hb.mono (B2.out.trans (HB.out.mono B2.out.size)).size)
    exact Copy_any (fail_lies HK.out kz.lt iz.lt kz iz (HV.out.below hW)) RF.out)
  go_enter Try.func20, Try.ntmps20
  go_wp2_with fail
  rw [← HW.out]
  go_region_law (first
      | (go_simp; go_at_call 18; refine (Text_any kind _).mono ?_; rintro _ wB ⟨rfl, hbB⟩; have HB : Hid (Below w2.heap.size w2 wB) := Lib.hid (by first | exact Below.trans (b := (w2.alloc (.cells #[.string ⟨#[100, 97, 116, 97]⟩, .string ⟨#[116, 121, 112, 101]⟩] 9)).drew) ⟨rfl, rfl, rfl, by simp, fun b hb => Below.heap_alloc _ _ b hb⟩ (show Below w2.heap.size _ wB from hbB.mono (by simp)) | exact Below.trans (b := w2.drew) ⟨rfl, rfl, rfl, by simp, fun b hb => rfl⟩ (show Below w2.heap.size _ wB from hbB.mono (by simp))); (first | (have tokA : Hid (Bk wB w2.heap.size 9 #[.string ⟨#[100, 97, 116, 97]⟩, .string ⟨#[116, 121, 112, 101]⟩]) := Lib.hid (Bk.below (w := (w2.alloc (.cells #[.string ⟨#[100, 97, 116, 97]⟩, .string ⟨#[116, 121, 112, 101]⟩] 9)).drew) (Bk.new w2 9 #[.string ⟨#[100, 97, 116, 97]⟩, .string ⟨#[116, 121, 112, 101]⟩]) hbB (by simp))) | (have tokB : True := trivial)); obtain ⟨d0, d1, d2, d3, d4⟩ := MV.out wB HB.out; have QB := Lib.hid (Q2.out.below HB.out LT2.out); have ltb1 : w.heap.size < wB.heap.size := Nat.lt_of_lt_of_le lt0 HB.out.size; have ltb2 : w.heap.size + 1 < wB.heap.size := Nat.lt_of_lt_of_le lt1 HB.out.size; have q0 := QB.out.cell 0; have q1 := QB.out.cell 1; have q2 := QB.out.cell 2; have q3 := QB.out.cell 3; have q4 := QB.out.cell 4; have f0 := QB.out.frozen 0; have f1 := QB.out.frozen 1; have f2 := QB.out.frozen 2; have f3 := QB.out.frozen 3; have f4 := QB.out.frozen 4)
      | (have _tk := tokA; go_simp; go_at_call 28; refine (HG.out wB HB _ _ _ (tokA.out.alloc _) (Bk.new wB _ _) (below_one wB _)).mono ?_; rintro _ wC ⟨vC, rfl, hoC, hbC⟩; obtain ⟨k2, i2, t2, D, n3, c3, D', n4, c4, rfl⟩ := hoC.form; have OC := Lib.hid hoC; clear hoC; have HC : Hid (Below wB.heap.size wB wC) := Lib.hid (Below.trans (below_one wB _) (show Below wB.heap.size _ wC from hbC.mono (by simp <;> omega))); have HLC : Hid (wB.heap.size ≤ wC.heap.size) := Lib.hid HC.out.size; have QC := Lib.hid (QB.out.below HC.out ltb2); have OD : Hid (Ownd wC wB.heap.size (failT kind x) (.agg #[.int .i64 k2, .int .i64 i2, .string t2, .slice D n3 c3, .slice D' n4 c4])) := Lib.hid (OC.out.mono (by simp <;> omega)); have ltc2 : w.heap.size + 1 < wC.heap.size := Nat.lt_of_lt_of_le ltb2 HC.out.size; have q0 := QC.out.cell 0; have q1 := QC.out.cell 1; have q2 := QC.out.cell 2; have q3 := QC.out.cell 3; have q4 := QC.out.cell 4; have f0 := QC.out.frozen 0; have f1 := QC.out.frozen 1; have f2 := QC.out.frozen 2; have f3 := QC.out.frozen 3; have f4 := QC.out.frozen 4)
      | (have _tk := tokB; go_simp; go_at_call 28; refine (HG.out wB HB _ _ _ (by first | exact (Bk.new wB _ _).alloc _ | (have := Bk.new (wB.alloc (.cells #[.int .i64 k, .int .i64 i, .string t, .slice A n c, .slice A' n' c', .int .i64 3, .int .i64 0, .string kind, .slice none 0 0, .slice none 0 0] 26)) 9 #[.string ⟨#[100, 97, 116, 97]⟩, .string ⟨#[116, 121, 112, 101]⟩]; simpa using this)) (by first | exact (Bk.new wB _ _).alloc _ | (have := Bk.new (wB.alloc (.cells #[.string ⟨#[100, 97, 116, 97]⟩, .string ⟨#[116, 121, 112, 101]⟩] 9)) 26 #[.int .i64 k, .int .i64 i, .string t, .slice A n c, .slice A' n' c', .int .i64 3, .int .i64 0, .string kind, .slice none 0 0, .slice none 0 0]; simpa using this)) ((below_one wB _).alloc (by simp) _)).mono ?_; rintro _ wC ⟨vC, rfl, hoC, hbC⟩; obtain ⟨k2, i2, t2, D, n3, c3, D', n4, c4, rfl⟩ := hoC.form; have OC := Lib.hid hoC; clear hoC; have HC : Hid (Below wB.heap.size wB wC) := Lib.hid (Below.trans ((below_one wB _).alloc (by simp) _) (show Below wB.heap.size _ wC from hbC.mono (by simp <;> omega))); have HLC : Hid (wB.heap.size ≤ wC.heap.size) := Lib.hid HC.out.size; have QC := Lib.hid (QB.out.below HC.out ltb2); have OD : Hid (Ownd wC wB.heap.size (failT kind x) (.agg #[.int .i64 k2, .int .i64 i2, .string t2, .slice D n3 c3, .slice D' n4 c4])) := Lib.hid (OC.out.mono (by simp <;> omega)); have ltc2 : w.heap.size + 1 < wC.heap.size := Nat.lt_of_lt_of_le ltb2 HC.out.size; have q0 := QC.out.cell 0; have q1 := QC.out.cell 1; have q2 := QC.out.cell 2; have q3 := QC.out.cell 3; have q4 := QC.out.cell 4; have f0 := QC.out.frozen 0; have f1 := QC.out.frozen 1; have f2 := QC.out.frozen 2; have f3 := QC.out.frozen 3; have f4 := QC.out.frozen 4))
  all_goals (
    have BC : Hid (Below w.heap.size w wC) := Lib.hid ((B2.out.trans (HB.out.mono B2.out.size)).trans (HC.out.mono (B2.out.trans (HB.out.mono B2.out.size)).size))
    go_wp2
    obtain ⟨wf, hwf⟩ : ∃ wf, wf = ((((wC.setCell ⟨w.heap.size + 1, 0, none⟩ (.int .i64 k2)).setCell ⟨w.heap.size + 1, 1, none⟩ (.int .i64 i2)).setCell ⟨w.heap.size + 1, 2, none⟩ (.string t2)).setCell ⟨w.heap.size + 1, 3, none⟩ (.slice D n3 c3)).setCell ⟨w.heap.size + 1, 4, none⟩ (.slice D' n4 c4) := ⟨_, rfl⟩
    have QF : Hid (Bk wf (w.heap.size + 1) 26 #[.int .i64 k2, .int .i64 i2, .string t2, .slice D n3 c3, .slice D' n4 c4]) := Lib.hid (by rw [hwf]; exact ((((QC.out.put 0 _).put 1 _).put 2 _).put 3 _).put 4 _)
    have SF : Hid (∀ b, b ≠ w.heap.size + 1 → wf.heap[b]? = wC.heap[b]?) := Lib.hid (fun b hb => by
      rw [hwf]; exact ((((Below.heap_setCell _ _ _ _ hb).trans (Below.heap_setCell _ _ _ _ hb)).trans (Below.heap_setCell _ _ _ _ hb)).trans (Below.heap_setCell _ _ _ _ hb)).trans (Below.heap_setCell _ _ _ _ hb))
    have BF : Hid (Below w.heap.size w wf) := Lib.hid (by
      rw [hwf]
      exact ((((BC.out.setCell (p := ⟨w.heap.size + 1, 0, none⟩) (by show w.heap.size ≤ w.heap.size + 1; omega) _).setCell (p := ⟨w.heap.size + 1, 1, none⟩) (by show w.heap.size ≤ w.heap.size + 1; omega) _).setCell (p := ⟨w.heap.size + 1, 2, none⟩) (by show w.heap.size ≤ w.heap.size + 1; omega) _).setCell (p := ⟨w.heap.size + 1, 3, none⟩) (by show w.heap.size ≤ w.heap.size + 1; omega) _).setCell (p := ⟨w.heap.size + 1, 4, none⟩) (by show w.heap.size ≤ w.heap.size + 1; omega) _)
    rw [← hwf]
    refine bodyPost_ret (results_cell_row rfl _ _ (w.heap.size + 1) 26 _ (0, 0) _ rfl QF.out Try.underlying26 rfl (by kernel_rfl)) rfl ?_
    exact ⟨_, rfl, (OD.out.keep (fun b h1 _ => SF.out b (by omega))).mono (by omega), BF.out⟩)
end Go.Proofs.Ytjbjoalinfhahaa
namespace Go.Proofs.Ytjbjoalinfhahaa.opens
open Go.ChangeShapes Go.WideShapes Go.ChangeAt Go.RowKit

section
variable {H : Type} {enc : TypeId × Value → H} {W : World} {base : Nat} {spare : Nat → Bool} {held : Bool}
set_option maxRecDepth 100000 in
theorem strs {r : Reach} {b0 : Nat} {v : Value} {d : DataW H} {ps : List MemPlace} (hval : Value.okWide Try.prog W r b0 22 v) (hd : DataW.Trod enc Try.prog W base spare held 22 v d ps) :
    ∃ A c ks, v = .slice A ks.length c ∧ LiesS W (Lo W) A ks ∧ ks.length ≤ c ∧ c ≤ 9223372036854775807 := by
  obtain ⟨A, n, c, rfl⟩ := okWide_slice Try.underlying22 hval
  obtain ⟨fuel, hf⟩ := hd
  obtain ⟨A', m, c', ks, hcs, hl, h1, h2, hS⟩ := strs_lie hf
  simp [Value.cells] at hcs
  obtain ⟨rfl, rfl, rfl⟩ := hcs
  subst hl
  exact ⟨A, c, ks, rfl, hS, h1, h2⟩
set_option maxRecDepth 100000 in
theorem values_reach {r : Reach} {b0 : Nat} {v : Value} {d : DataW H} {ps : List MemPlace} (hval : Value.okWide Try.prog W r b0 23 v) (hd : DataW.Trod enc Try.prog W base spare held 23 v d ps) (hw : ∀ n ∈ d.weights Try.prog 23, n ≤ reachBytes) :
    ∃ A c its, v = .slice A its.length c ∧ LiesL W (Lo W) A 0 its ∧ its.length ≤ c ∧ c ≤ 9223372036854775807 ∧ its.length * 80 ≤ 140737488355328 ∧ alls reachF its = true := by
  obtain ⟨A, n, c, rfl⟩ := okWide_slice Try.underlying23 hval
  obtain ⟨fuel, hf⟩ := hd
  have hf' : DataW.trod enc Try.prog W base spare held fuel 23 [.slice A n c] = some (d, ps) := by simpa [Value.cells] using hf
  have hrow := row_reach Try.underlying23 Try.vbytes hf' hw
  rcases DataW.trod_slice Try.underlying23 hf' with ⟨hp, _⟩ | ⟨ad, len, cap, elems, rest, n', rfl, hp, hy, _, hlc, hcm, hlen, hel, _⟩
  · simp only [List.cons.injEq, and_true, Value.slice.injEq] at hp
    obtain ⟨rfl, rfl, rfl⟩ := hp
    exact ⟨none, 0, [], rfl, LiesL.none_, Nat.le_refl _, by omega, by simp, rfl⟩
  · simp only [List.cons.injEq, and_true, Value.slice.injEq] at hp
    obtain ⟨rfl, rfl, rfl⟩ := hp
    obtain ⟨rfl, _⟩ := Prod.mk.inj hy
    unfold maxLen at hcm
    have each : ∀ j, ∃ (x : VT), j < n → (∃ a b s p q, W.cell? (ad.add (j * 5)) = some a ∧ W.cell? ((ad.add (j * 5)).add 1) = some b ∧ W.cell? ((ad.add (j * 5)).add 2) = some s ∧ W.cell? ((ad.add (j * 5)).add 3) = some p ∧ W.cell? ((ad.add (j * 5)).add 4) = some q ∧
        Lies W (Lo W) x (.agg #[a, b, s, p, q])) ∧ x.all reachF = true := by
      intro j
      by_cases hj : j < n
      · have h1 := hel j hj
        rw [Try.vcells] at h1
        have h2 : elems[j]? = some (elems[j]'(by omega)) := List.getElem?_eq_getElem _
        rw [h2] at h1
        obtain ⟨cs', hc1, hc2⟩ := Option.bind_eq_some_iff.1 h1
        obtain ⟨x, a, b, s, p, q, rfl, hxl⟩ := value_lies n' cs' _ hc2
        obtain ⟨_, _, h3⟩ := World.cells?_some hc1
        have e0 := h3 0 (by omega)
        have e1 := h3 1 (by omega)
        have e2 := h3 2 (by omega)
        have e3 := h3 3 (by omega)
        have e4 := h3 4 (by omega)
        have ez : (ad.add (j * 5)).add 0 = ad.add (j * 5) := by simp [Addr.add]
        rw [ez] at e0
        have wz : ∀ n ∈ (elems[j]'(by omega)).1.weights Try.prog 26, n ≤ reachBytes := fun m hm => hw m (by
          show m ∈ DataW.weights _ _ (.slice _ _)
          rw [DataW.weights, Try.underlying23]
          exact List.mem_cons_of_mem _ (List.mem_append_left _ (weightsAll_in (List.mem_map_of_mem (List.getElem_mem _)) m hm)))
        exact ⟨x, fun _ => ⟨⟨a, b, s, p, q, e0, e1, e2, e3, e4, hxl⟩, reach_lies n' a b s p q _ hc2 wz x hxl⟩⟩
      · exact ⟨default, fun h => absurd h hj⟩
    obtain ⟨f, hf⟩ := Classical.axiomOfChoice each
    have hll : ((List.range n).map f).length = n := by simp
    have at_ : ∀ (j : Nat) (x : VT), ((List.range n).map f)[j]? = some x → j < n ∧ x = f j := fun j x hj => by
      rw [List.getElem?_map] at hj
      have hjl : j < n := by
        rcases Nat.lt_or_ge j n with h | h
        · exact h
        · rw [List.getElem?_eq_none (by simpa using h)] at hj; cases hj
      rw [List.getElem?_range hjl] at hj
      simp at hj
      exact ⟨hjl, hj.symm⟩
    refine ⟨some ad, c, (List.range n).map f, by rw [hll], LiesL.of_at (fun j x hj => ?_), by rw [hll]; exact hlc, hcm, by rw [hll]; exact hrow, alls_of (fun j x hj => ?_)⟩
    · obtain ⟨hjl, rfl⟩ := at_ j x hj
      obtain ⟨⟨a0, b0, s0, p0, q0, z0, _⟩, _⟩ := hf 0 (by omega)
      have hspot := spot_zero (a := ad) (by simpa using z0)
      obtain ⟨⟨a, b, s, p, q, e0, e1, e2, e3, e4, hxl⟩, _⟩ := hf j hjl
      obtain ⟨g, o, spot⟩ := ad
      have hspot : spot = none := hspot
      subst hspot
      rw [Addr.add_lit] at e0 e1 e2 e3 e4
      rw [Addr.add_lit] at e1 e2 e3 e4
      rw [Nat.zero_add]
      exact ⟨g, o, a, b, s, p, q, rfl, World.block_lt_of_cell? W _ e0, e0, e1, e2, e3, e4, hxl⟩
    · obtain ⟨hjl, rfl⟩ := at_ j x hj
      exact (hf j hjl).2
end
end Go.Proofs.Ytjbjoalinfhahaa.opens
