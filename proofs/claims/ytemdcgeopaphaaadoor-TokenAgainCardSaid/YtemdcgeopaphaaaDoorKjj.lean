/-
  The tokens of a text, spelled and scanned again: mathematics.
-/
import Derived.Test.YtemdcgeopaphaaaDoorKji
import Derived.Test.YtemdcgeopaphaaaDoorKjb
namespace Go.Proofs.YtemdcgeopaphaaaDoor
open Go.RowKit

def AgK (k : Tok) : Prop := (∃ p, Again k.kind k.text k.int p) ∧ -9223372036854775808 ≤ k.int ∧ k.int ≤ 9223372036854775807
/-- a token without its offset -/
def tkey (k : Tok) : Tok := { k with off := 0 }
theorem spO_key (k : Tok) : spO (tkey k) = spO k := rfl
theorem spP_key (l : List Tok) : spP (l.map tkey) = spP l := by
  unfold spP
  rw [List.filterMap_map]
  rfl
theorem spL_key {l m : List Tok} (h : m.map tkey = l.map tkey) : spL m = spL l := by
  unfold spL
  rw [← spP_key m, h, spP_key]
theorem key_len {l m : List Tok} (h : m.map tkey = l.map tkey) : m.length = l.length := by
  have := congrArg List.length h
  simpa using this
theorem URow.same {w : World} {A : Option Addr} {l m : List Tok} (h : m.map tkey = l.map tkey) (hm : URow w A m) : URow w A l := fun j k hj => by
  have h1 : (m.map tkey)[j]? = some (tkey k) := by rw [h, List.getElem?_map, hj]; rfl
  rw [List.getElem?_map] at h1
  cases hmj : m[j]? with
  | none => rw [hmj] at h1; cases h1
  | some k' =>
    rw [hmj] at h1
    injection h1 with h1
    have e1 : k'.kind = k.kind := show (tkey k').kind = (tkey k).kind by rw [h1]
    have e2 : k'.text = k.text := show (tkey k').text = (tkey k).text by rw [h1]
    have e3 : k'.int = k.int := show (tkey k').int = (tkey k).int by rw [h1]
    have := hm j k' hmj
    rw [e1, e2, e3] at this
    exact this
theorem Mod.same {l m : List Tok} (h : m.map tkey = l.map tkey) (hl : Mod l) : Mod m := by
  refine ⟨by rw [key_len h]; exact hl.len, fun k hk => ?_⟩
  obtain ⟨k', hk', e⟩ := List.mem_map.1 (by rw [← h]; exact List.mem_map_of_mem hk : tkey k ∈ l.map tkey)
  have e2 : k'.text = k.text := show (tkey k').text = (tkey k).text by rw [e]
  have e3 : k'.int = k.int := show (tkey k').int = (tkey k).int by rw [e]
  have := hl.each k' hk'
  rw [e2, e3] at this
  exact this
theorem tail_join (y : List UInt8) (ys : List (List UInt8)) : Lib.joinTail [32] (y :: ys) = 32 :: Lib.join (y :: ys) [32] := by
  rw [Lib.join_cons]
  simp [Lib.joinTail]
theorem spP_cons {k : Tok} {p : List UInt8} (h : spO k = some p) (T : List Tok) : spP (k :: T) = p :: spP T := by
  unfold spP
  rw [List.filterMap_cons, h]
theorem agK_sp {k : Tok} (h : AgK k) : ∃ p, spO k = some p ∧ Again k.kind k.text k.int p := by
  obtain ⟨⟨p, hp⟩, _⟩ := h
  exact ⟨p, hp.sp k.off, hp⟩
/-- a spelled text begins with no blank -/
theorem join_nb {T : List Tok} (hT : ∀ k ∈ T, AgK k) : spn blkT (Lib.join (spP T) [32]) = 0 := by
  cases T with
  | nil => rfl
  | cons k T =>
    obtain ⟨p, h1, h2⟩ := agK_sp (hT k List.mem_cons_self)
    obtain ⟨c, s, hc, hb⟩ := h2.nb
    rw [spP_cons h1, Lib.join_cons, hc]
    exact spn_no _ hb
theorem scan_again {l : List UInt8} : ∀ (T : List Tok) (f i : Nat) (o : List Tok), (∀ k ∈ T, AgK k) → l.drop i = Lib.join (spP T) [32] → T.length + 1 ≤ f →
    ∃ M, scanG l f i o = .ok (o ++ (M ++ [endT l.length])) ∧ M.map tkey = T.map tkey
  | [], 0, _, _, _, _, hf => by cases hf
  | [], f + 1, i, o, _, hd, _ => by
    have : l.length ≤ i := List.drop_eq_nil_iff.1 hd
    exact ⟨[], scan_end this, rfl⟩
  | k :: T, 0, _, _, _, _, hf => by cases hf
  | k :: T, f + 1, i, o, hT, hd, hf => by
    obtain ⟨p, h1, h2⟩ := agK_sp (hT k List.mem_cons_self)
    have hT' : ∀ k ∈ T, AgK k := fun x hx => hT x (List.mem_cons_of_mem _ hx)
    rw [spP_cons h1, Lib.join_cons] at hd
    obtain ⟨c, s, hc, hb⟩ := h2.nb
    have hi : i < l.length := by
      rcases Nat.lt_or_ge i l.length with h | h
      · exact h
      · rw [List.drop_of_length_le h, hc] at hd; cases hd
    have hdn : l.drop (i + p.length) = Lib.joinTail [32] (spP T) := by
      rw [← List.drop_drop, hd, List.drop_left]
    have key : EndB (Lib.joinTail [32] (spP T)) ∧ l.drop (skpT l (i + p.length)) = Lib.join (spP T) [32] := by
      have hj := join_nb hT'
      unfold skpT
      cases hs : spP T with
      | nil =>
        rw [hs] at hdn
        refine ⟨.inl rfl, ?_⟩
        rw [hdn]
        exact hdn
      | cons y ys =>
        rw [hs, tail_join] at hdn
        rw [hs] at hj
        refine ⟨.inr ⟨_, tail_join y ys⟩, ?_⟩
        rw [hdn, spn_yes _ (by decide), hj, ← List.drop_drop, hdn]
        rfl
    have ho : oneT (l.drop i) = .ok k.kind k.text k.int p.length := by rw [hd]; exact h2.on _ key.1
    obtain ⟨M, e1, e2⟩ := scan_again T f (skpT l (i + p.length)) (o ++ [⟨k.kind, i, k.text, k.int⟩]) hT' key.2 (by rw [List.length_cons] at hf; omega)
    refine ⟨⟨k.kind, i, k.text, k.int⟩ :: M, ?_, by rw [List.map_cons, List.map_cons, e2]; rfl⟩
    rw [scan_ok hi ho, e1]
    simp
theorem scanG_ag {l : List UInt8} : ∀ {f i : Nat} {o L : List Tok}, scanG l f i o = .ok L → (∀ k ∈ o, AgK k ∧ k.text.length ≤ l.length) → ∃ T, L = T ++ [endT l.length] ∧ ∀ k ∈ T, AgK k ∧ k.text.length ≤ l.length
  | 0, _, _, _, h, _ => by cases h
  | f + 1, i, o, L, h, ho => by
    by_cases hi : l.length ≤ i
    · rw [scan_end hi] at h
      injection h with h
      exact ⟨o, h.symm, ho⟩
    · cases h1 : oneT (l.drop i) with
      | err e => rw [scan_err (by omega) h1] at h; cases h
      | ok k t v n =>
        rw [scan_ok (by omega) h1] at h
        refine scanG_ag h fun x hx => ?_
        rcases List.mem_append.1 hx with h | h
        · exact ho x h
        · rw [List.mem_singleton.1 h]
          have hm := one_mod h1
          rw [List.length_drop] at hm
          exact ⟨⟨one_again h1, hm.2⟩, by show t.length ≤ _; omega⟩
theorem join_ge : ∀ (xs : List (List UInt8)), (∀ x ∈ xs, x ≠ []) → xs.length ≤ (Lib.join xs [32]).length
  | [], _ => Nat.zero_le _
  | [x], h => by
    rw [Lib.join_one]
    have := List.length_pos_iff.2 (h x List.mem_cons_self)
    exact this
  | x :: y :: r, h => by
    have ih := join_ge (y :: r) (fun z hz => h z (List.mem_cons_of_mem _ hz))
    have := List.length_pos_iff.2 (h x List.mem_cons_self)
    rw [Lib.join_cons, tail_join, List.length_append, List.length_cons (a := (32 : UInt8)), List.length_cons (a := x)]
    omega
theorem sp_all {T : List Tok} (hT : ∀ k ∈ T, AgK k) : T.length = (spP T).length ∧ ∀ x ∈ spP T, x ≠ [] := by
  induction T with
  | nil => exact ⟨rfl, fun x h => by cases h⟩
  | cons k T ih =>
    obtain ⟨p, h1, h2⟩ := agK_sp (hT k List.mem_cons_self)
    obtain ⟨c, s, hc, _⟩ := h2.nb
    have ih := ih (fun x hx => hT x (List.mem_cons_of_mem _ hx))
    rw [spP_cons h1]
    refine ⟨by rw [List.length_cons, List.length_cons, ih.1], fun x hx => ?_⟩
    rcases List.mem_cons.1 hx with rfl | hx
    · rw [hc]; exact List.cons_ne_nil _ _
    · exact ih.2 x hx
/-- the tokens of a text of at most 400 bytes are of moderate size; spelled, they are scanned again -/
theorem scanT_again {l : List UInt8} {L : List Tok} (hl : l.length ≤ 400) (h : scanT l = .ok L) :
    Mod L ∧ ((spL L).length ≤ 16384 → ∃ M, scanT (spL L) = .ok M ∧ M.map tkey = L.map tkey) := by
  have hlen := scanT_len h
  have h' := h
  unfold scanT at h'
  rw [if_neg (by omega)] at h'
  obtain ⟨T, rfl, hT⟩ := scanG_ag h' (fun k hk => by cases hk)
  have hA : ∀ k ∈ T, AgK k := fun k hk => (hT k hk).1
  refine ⟨⟨by omega, fun k hk => ?_⟩, fun hs => ?_⟩
  · rcases List.mem_append.1 hk with hk | hk
    · have := hT k hk
      exact ⟨by omega, this.1.2⟩
    · rw [List.mem_singleton.1 hk]
      exact ⟨Nat.zero_le _, show (-9223372036854775808 : Int) ≤ 0 by decide, show (0 : Int) ≤ 9223372036854775807 by decide⟩
  · have e : spL (T ++ [endT l.length]) = Lib.join (spP T) [32] := by
      unfold spL spP
      rw [List.filterMap_append]
      show Lib.join (T.filterMap spO ++ []) [32] = _
      rw [List.append_nil]
    rw [e] at hs ⊢
    have hall := sp_all hA
    have hge := join_ge (spP T) hall.2
    have h0 : skpT (Lib.join (spP T) [32]) 0 = 0 := by
      unfold skpT
      rw [List.drop_zero, join_nb hA]
    unfold scanT
    rw [if_neg (by omega), h0]
    obtain ⟨M, h1, h2⟩ := scan_again (l := Lib.join (spP T) [32]) T ((Lib.join (spP T) [32]).length + 1) 0 [] hA (by rw [List.drop_zero]) (by rw [hall.1]; omega)
    refine ⟨_, h1, ?_⟩
    rw [List.nil_append, List.map_append, List.map_append, h2]
    rfl
end Go.Proofs.YtemdcgeopaphaaaDoor
