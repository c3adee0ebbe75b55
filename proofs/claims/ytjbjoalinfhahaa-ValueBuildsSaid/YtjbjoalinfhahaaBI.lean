/-
  Texts of layers 1 and 2, part I: contracts of the code's functions and what they lean on.
-/
import Derived.Test.YtjbjoalinfhahaaBE
import Derived.WalkSpells
import Derived.Deep.RegionHeld3
import Derived.Test.YtjbjoalinfhahaaBF
import Derived.Laws.ResultCell
namespace Go.Proofs.Ytjbjoalinfhahaa
open Go.RowKit

/-- cells that read as values, five a value -/
def LiesC (w : World) (R : Nat → Prop) : List VT → List Value → Prop
  | [], cs => cs = []
  | x :: r, cs => ∃ a b s y z rest, cs = a :: b :: s :: y :: z :: rest ∧ Lies w R x (.agg #[a, b, s, y, z]) ∧ LiesC w R r rest
section
variable {w w' : World} {R R' : Nat → Prop}
theorem LiesC.len : ∀ {l : List VT} {cs : List Value}, LiesC w R l cs → cs.length = l.length * 5
  | [], cs, h => by
    have h : cs = [] := h
    rw [h]; rfl
  | x :: r, cs, h => by
    obtain ⟨a, b, s, y, z, rest, rfl, _, hr⟩ := h
    have := LiesC.len hr
    simp only [List.length_cons]
    omega
theorem LiesC.keep (hk : ∀ p : Addr, R p.block → w'.cell? p = w.cell? p) (hR : ∀ b, R b → R' b) : ∀ {l : List VT} {cs : List Value}, LiesC w R l cs → LiesC w' R' l cs
  | [], _, h => h
  | x :: r, cs, h => by
    obtain ⟨a, b, s, y, z, rest, rfl, hx, hr⟩ := h
    exact ⟨a, b, s, y, z, rest, rfl, hx.keep hk hR, hr.keep hk hR⟩
theorem LiesC.below {l : List VT} {cs : List Value} (h : LiesC w (Lo w) l cs) (hb : Below w.heap.size w w') : LiesC w' (Lo w') l cs :=
  h.keep (fun _ hp => hb.cell hp) (fun b (h : b < _) => show b < _ from Nat.lt_of_lt_of_le h hb.size)
theorem Lies.one {x : VT} {a b s y z : Value} (h : Lies w R x (.agg #[a, b, s, y, z])) : a.oneCell' = true ∧ b.oneCell' = true ∧ s.oneCell' = true ∧ y.oneCell' = true ∧ z.oneCell' = true := by
  obtain ⟨k, i, t, its, ks⟩ := x
  obtain ⟨A, c, A', c', e, _⟩ := h.open
  unfold vag at e
  simp only [Value.agg.injEq, Array.mk.injEq, List.cons.injEq, and_true] at e
  obtain ⟨rfl, rfl, rfl, rfl, rfl⟩ := e
  exact ⟨rfl, rfl, rfl, rfl, rfl⟩
theorem LiesC.one : ∀ {l : List VT} {cs : List Value}, LiesC w R l cs → ∀ u ∈ cs, u.oneCell' = true
  | [], cs, h, u, hu => by
    have h : cs = [] := h
    subst h
    cases hu
  | x :: r, cs, h, u, hu => by
    obtain ⟨a, b, s, y, z, rest, rfl, hx, hr⟩ := h
    obtain ⟨h1, h2, h3, h4, h5⟩ := hx.one
    simp only [List.mem_cons] at hu
    rcases hu with rfl | rfl | rfl | rfl | rfl | hu
    · exact h1
    · exact h2
    · exact h3
    · exact h4
    · exact h5
    · exact LiesC.one hr u hu
/-- a row's cells, as a list -/
theorem LiesL.cells {A : Option Addr} : ∀ {l : List VT} {m : Nat}, LiesL w R A m l → ∃ cs, LiesC w R l cs ∧ ∀ j u, cs[j]? = some u → ∃ g o, A = some ⟨g, o, none⟩ ∧ R g ∧ w.cell? ⟨g, o + (m * 5 + j), none⟩ = some u
  | [], m, _ => ⟨[], rfl, fun j u h => by simp at h⟩
  | x :: r, m, h => by
    obtain ⟨⟨g, o, a, b, s, y, z, hA, hg, h0, h1, h2, h3, h4, hx⟩, hr⟩ := h.cons
    obtain ⟨cs, hc, hcs⟩ := LiesL.cells hr
    refine ⟨a :: b :: s :: y :: z :: cs, ⟨a, b, s, y, z, cs, rfl, hx, hc⟩, fun j u hj => ?_⟩
    match j with
    | 0 => simp at hj; subst hj; exact ⟨g, o, hA, hg, by rw [← h0]; rfl⟩
    | 1 => simp at hj; subst hj; exact ⟨g, o, hA, hg, by rw [← h1]; rfl⟩
    | 2 => simp at hj; subst hj; exact ⟨g, o, hA, hg, by rw [← h2]; rfl⟩
    | 3 => simp at hj; subst hj; exact ⟨g, o, hA, hg, by rw [← h3]; rfl⟩
    | 4 => simp at hj; subst hj; exact ⟨g, o, hA, hg, by rw [← h4]; rfl⟩
    | j + 5 =>
      obtain ⟨g', o', e, hg', hc'⟩ := hcs j u (by simpa using hj)
      refine ⟨g', o', e, hg', ?_⟩
      rw [← hc']
      congr 2
      omega
/-- cells in a row read as the values -/
theorem LiesC.row {g o : Nat} (hg : R g) : ∀ {l : List VT} {cs : List Value} {m : Nat}, LiesC w R l cs → (∀ j u, cs[j]? = some u → w.cell? ⟨g, o + (m * 5 + j), none⟩ = some u) → LiesL w R (some ⟨g, o, none⟩) m l
  | [], _, m, _, _ => LiesL.none_
  | x :: r, cs, m, h, hc => by
    obtain ⟨a, b, s, y, z, rest, rfl, hx, hr⟩ := h
    rw [LiesL]
    refine ⟨⟨g, o, a, b, s, y, z, rfl, hg, hc 0 a rfl, hc 1 b rfl, hc 2 s rfl, hc 3 y rfl, hc 4 z rfl, hx⟩, LiesC.row hg hr (fun j u hj => ?_)⟩
    rw [← hc (j + 5) u (by simpa using hj)]
    congr 2
    omega
theorem LiesC.append : ∀ {l l' : List VT} {cs cs' : List Value}, LiesC w R l cs → LiesC w R l' cs' → LiesC w R (l ++ l') (cs ++ cs')
  | [], l', cs, cs', h, h' => by
    have h : cs = [] := h
    subst h
    exact h'
  | x :: r, l', cs, cs', h, h' => by
    obtain ⟨a, b, s, y, z, rest, rfl, hx, hr⟩ := h
    exact ⟨a, b, s, y, z, rest ++ cs', rfl, hx, LiesC.append hr h'⟩
/-- an owned row of values -/
theorem LiesC.own {base c : Nat} {A : Option Addr} {l : List VT} {cs : List Value} (h : LiesC w (Lo w) l cs) (ho : w.ownsRow base 26 5 (.slice A l.length c) l.length cs) : LiesL w (Lo w) A 0 l := by
  rcases ho.2 with ⟨_, h0⟩ | ⟨g, cap, cur, hv, _, hg, _⟩
  · rw [List.eq_nil_of_length_eq_zero h0]; exact LiesL.none_
  · have hA : A = some ⟨g, 0, none⟩ := by injection hv
    subst hA
    refine LiesC.row (R := Lo w) (show g < w.heap.size from (Array.getElem?_eq_some_iff.1 hg).1) h (fun j u hj => ?_)
    have := ho.cells (g := g) rfl j u hj
    simpa [Addr.add_lit] using this
theorem strs_own {base c : Nat} {A : Option Addr} {l : List ByteArray} (hs : ∀ s ∈ l, s.size ≤ 9223372036854775807) (ho : w.ownsRow base 9 1 (.slice A l.length c) l.length (l.map Value.string)) : LiesS w (Lo w) A l := by
  intro j s hj
  refine ⟨hs s (List.mem_of_getElem? hj), ?_⟩
  rcases ho.2 with ⟨_, h0⟩ | ⟨g, cap, cur, hv, _, hg, _⟩
  · rw [List.eq_nil_of_length_eq_zero h0] at hj; simp at hj
  · have hA : A = some ⟨g, 0, none⟩ := by injection hv
    subst hA
    refine ⟨g, 0, rfl, (Array.getElem?_eq_some_iff.1 hg).1, ?_⟩
    have := ho.cells (g := g) rfl j (.string s) (by rw [List.getElem?_map, hj]; rfl)
    simpa [Addr.add_lit] using this
theorem LiesS.sizes {A : Option Addr} {l : List ByteArray} (h : LiesS w R A l) : ∀ s ∈ l, s.size ≤ 9223372036854775807 := fun s hs => by
  obtain ⟨j, hj, e⟩ := List.mem_iff_getElem.1 hs
  exact (h j s (by rw [List.getElem?_eq_getElem hj, e])).1
end
theorem own_empty5 (w : World) (t : TypeId) (size : Nat) : (w.alloc (.cells #[] t)).ownsRow w.heap.size t size (.slice (some ⟨w.heap.size, 0, none⟩) 0 0) 0 [] :=
  ⟨by simp, Or.inr ⟨w.heap.size, 0, #[], rfl, Nat.le_refl _, heap_alloc_new w _, Nat.le_refl _, by unfold maxLen; omega, by simp, by simp⟩⟩

theorem Try.infoS : (Try.prog.info? 9).map (fun i => (i.zero, i.size, i.bytes)) = some (some (.string ByteArray.empty), 1, 16) := by kernel_rfl
theorem Try.infoV : (Try.prog.info? 26).map (fun i => (i.zero, i.size, i.bytes)) = some (some (.agg #[.int .i64 0, .int .i64 0, .string ByteArray.empty, .slice none 0 0, .slice none 0 0]), 5, 80) := by kernel_rfl

set_option maxRecDepth 100000 in
set_option maxHeartbeats 1000000 in
theorem cloneS_any (A : Option Addr) (c : Nat) (ks : List ByteArray) (w : World) (hS : LiesS w (Lo w) A ks) (hn : ks.length * 16 ≤ 140737488355328) :
    Calls Try.prog 65 #[.slice A ks.length c] w fun e w' => ∃ v, e = .returned v ∧ w'.ownsRow w.heap.size 9 1 v ks.length (ks.map Value.string) ∧ Below w.heap.size w w' := by
  obtain ⟨i, hi, hz, hs, hb⟩ := info_parts Try.infoS
  have HS := Lib.hid hS
  have HB := Lib.hid hn
  clear hS hn
  cases A with
  | none =>
    have hk : ks = [] := by
      cases ks with
      | nil => rfl
      | cons s r => obtain ⟨_, g, o, e, _⟩ := HS.out 0 s rfl; cases e
    subst hk
    have heq := fun (a : Option Addr) (n c : Nat) (w : World) => Lib.run_eql_slice_nil (P := Try.prog) w 22 _ a n c 0 0 Try.underlying22
    go_enter Try.func65, Try.ntmps65
    go_wp2
    go_ret
    exact ⟨_, rfl, ⟨rfl, Or.inl ⟨rfl, rfl⟩⟩, Below.refl _ _⟩
  | some ad =>
    have hnews : ∀ (j : Nat) (u : Value), (ks.map Value.string)[j]? = some u → (w.alloc (.cells #[] 9)).cell? (ad.add j) = some u := fun j u hj => by
      rw [List.getElem?_map] at hj
      cases hk : ks[j]? with
      | none => rw [hk] at hj; cases hj
      | some s =>
        rw [hk] at hj
        simp at hj
        subst hj
        obtain ⟨_, g, o, e, hg, hc⟩ := HS.out j s hk
        injection e with e
        subst e
        rw [Addr.add_lit, World.cell?_alloc_lt w _ _ (show g < w.heap.size from hg)]
        exact hc
    have HN := Lib.hid hnews
    clear hnews
    have heq := fun (a : Option Addr) (n c : Nat) (w : World) => Lib.run_eql_slice_nil (P := Try.prog) w 22 _ a n c 0 0 Try.underlying22
    go_enter Try.func65, Try.ntmps65
    go_wp2_with (at_builtin; refine wpList_append_own _ rfl _ _ 22 rfl w.heap.size 9 i (.string ByteArray.empty) 1 16 Try.underlying22 hi hz hs hb rfl (by decide) _ 0 [] rfl (own_empty5 w 9 1) ad ks.length c (ks.map Value.string) rfl ?_ ?_ ?_ ?_ ?_ ?_ ?_)
    · simp
    · exact HN.out
    · intro u hu; obtain ⟨s, _, rfl⟩ := List.mem_map.1 hu; rfl
    · have := HB.out; unfold maxLen; omega
    · have := HB.out; omega
    · simp
    · intro v w' hown hg _
      have h1 : w'.ownsRow w.heap.size 9 1 v ks.length (ks.map Value.string) := by simpa using hown
      have h2 : Below w.heap.size w w' := (below_one w _).grown hg (by simp) (fun k hk => by simp [Value.ownBlock] at hk; omega)
      have H1 := Lib.hid h1
      have H2 := Lib.hid h2
      clear hown hg h1 h2
      go_wp2
      go_ret
      exact ⟨v, rfl, H1.out, H2.out⟩

set_option maxRecDepth 100000 in
set_option maxHeartbeats 1000000 in
theorem cloneV_any (R : Nat → Prop) (A : Option Addr) (c : Nat) (its : List VT) (w : World) (hR : ∀ b, R b → b < w.heap.size) (hL : LiesL w R A 0 its) (hn : its.length * 80 ≤ 140737488355328) :
    Calls Try.prog 66 #[.slice A its.length c] w fun e w' => ∃ v cs, e = .returned v ∧ LiesC w R its cs ∧ w'.ownsRow w.heap.size 26 5 v its.length cs ∧ Below w.heap.size w w' := by
  obtain ⟨i, hi, hz, hs, hb⟩ := info_parts Try.infoV
  have HL := Lib.hid hL
  obtain ⟨cs, hC, hcs⟩ := hL.cells
  have HC := Lib.hid hC
  have HB := Lib.hid hn
  have hcl := hC.len
  have ho := hC.one
  clear hL hC hn
  cases A with
  | none =>
    have hk : its = [] := by
      cases its with
      | nil => rfl
      | cons x r => obtain ⟨⟨g, o, _, _, _, _, _, e, _⟩, _⟩ := HL.out.cons; cases e
    subst hk
    obtain rfl : cs = [] := List.eq_nil_of_length_eq_zero (by simpa using hcl)
    have heq := fun (a : Option Addr) (n c : Nat) (w : World) => Lib.run_eql_slice_nil (P := Try.prog) w 23 _ a n c 0 0 Try.underlying23
    go_enter Try.func66, Try.ntmps66
    go_wp2
    go_ret
    exact ⟨_, [], rfl, HC.out, ⟨rfl, Or.inl ⟨rfl, rfl⟩⟩, Below.refl _ _⟩
  | some ad =>
    have hnews : ∀ (j : Nat) (u : Value), cs[j]? = some u → (w.alloc (.cells #[] 26)).cell? (ad.add j) = some u := fun j u hj => by
      obtain ⟨g, o, e, hg, hc⟩ := hcs j u hj
      injection e with e
      subst e
      rw [Addr.add_lit, World.cell?_alloc_lt w _ _ (show g < w.heap.size from hR _ hg), ← hc]
      congr 2
      omega
    have HN := Lib.hid hnews
    have HO := Lib.hid ho
    have HCL := Lib.hid hcl
    clear hnews ho hcs hcl
    have heq := fun (a : Option Addr) (n c : Nat) (w : World) => Lib.run_eql_slice_nil (P := Try.prog) w 23 _ a n c 0 0 Try.underlying23
    go_enter Try.func66, Try.ntmps66
    go_wp2_with (at_builtin; refine wpList_append_own _ rfl _ _ 23 rfl w.heap.size 26 i (.agg #[.int .i64 0, .int .i64 0, .string ByteArray.empty, .slice none 0 0, .slice none 0 0]) 5 80 Try.underlying23 hi hz hs hb rfl (by decide) _ 0 [] rfl (own_empty5 w 26 5) ad its.length c cs rfl ?_ ?_ ?_ ?_ ?_ ?_ ?_)
    · exact HCL.out
    · exact HN.out
    · exact HO.out
    · have := HB.out; unfold maxLen; omega
    · have := HB.out; omega
    · simp
    · intro v w' hown hg _
      have h1 : w'.ownsRow w.heap.size 26 5 v its.length cs := by simpa using hown
      have h2 : Below w.heap.size w w' := (below_one w _).grown hg (by simp) (fun k hk => by simp [Value.ownBlock] at hk; omega)
      have H1 := Lib.hid h1
      have H2 := Lib.hid h2
      clear hown hg h1 h2
      go_wp2
      go_ret
      exact ⟨v, cs, rfl, HC.out, H1.out, H2.out⟩
end Go.Proofs.Ytjbjoalinfhahaa
namespace Go.Proofs.Ytjbjoalinfhahaa
open Go.RowKit

mutual
/-- the value reads as the tree, and all its rows are whole blocks from lo on, not frozen -/
def Ownd (w : World) (lo : Nat) : VT → Value → Prop
  | .mk k i t its ks, v => ∃ A c A' c' cs, v = vag k i t A its.length c A' ks.length c' ∧ (-9223372036854775808 ≤ k ∧ k ≤ 9223372036854775807) ∧ (-9223372036854775808 ≤ i ∧ i ≤ 9223372036854775807) ∧ t.size ≤ 9223372036854775807 ∧
      w.ownsRow lo 26 5 (.slice A its.length c) its.length cs ∧ OwnC w lo its cs ∧ w.ownsRow lo 9 1 (.slice A' ks.length c') ks.length (ks.map Value.string) ∧ (∀ s ∈ ks, s.size ≤ 9223372036854775807)
def OwnC (w : World) (lo : Nat) : List VT → List Value → Prop
  | [], cs => cs = []
  | x :: r, cs => ∃ a b s y z rest, cs = a :: b :: s :: y :: z :: rest ∧ Ownd w lo x (.agg #[a, b, s, y, z]) ∧ OwnC w lo r rest
end
/-- from lo on the blocks of w are as they were -/
def SameFrom (lo : Nat) (w w' : World) : Prop := ∀ b, lo ≤ b → b < w.heap.size → w'.heap[b]? = w.heap[b]?
theorem own_same {w w' : World} {lo : Nat} {e : TypeId} {size n : Nat} {v : Value} {xs : List Value} (h : w.ownsRow lo e size v n xs) (hs : SameFrom lo w w') : w'.ownsRow lo e size v n xs := by
  refine ⟨h.1, ?_⟩
  rcases h.2 with hn | ⟨g, cap, cur, rfl, hb, hg, rest⟩
  · exact Or.inl hn
  · exact Or.inr ⟨g, cap, cur, rfl, hb, (hs g hb (Array.getElem?_eq_some_iff.1 hg).1).trans hg, rest⟩
theorem own_mono {w : World} {lo lo' : Nat} {e : TypeId} {size n : Nat} {v : Value} {xs : List Value} (h : w.ownsRow lo e size v n xs) (hl : lo' ≤ lo) : w.ownsRow lo' e size v n xs := by
  refine ⟨h.1, ?_⟩
  rcases h.2 with hn | ⟨g, cap, cur, hv, hb, rest⟩
  · exact Or.inl hn
  · exact Or.inr ⟨g, cap, cur, hv, Nat.le_trans hl hb, rest⟩
theorem own_bounds {w : World} {lo : Nat} {e : TypeId} {size n m c : Nat} {A : Option Addr} {xs : List Value} (h : w.ownsRow lo e size (.slice A n c) m xs) : n ≤ c ∧ c ≤ 9223372036854775807 := by
  rcases h.2 with ⟨hv, _⟩ | ⟨g, cap, cur, hv, _, _, h1, h2, _⟩
  · injection hv with _ h1 h2; subst h1 h2; omega
  · injection hv with _ e1 e2; subst e1 e2; unfold maxLen at h2; exact ⟨h1, h2⟩
theorem own_formN {w : World} {base : Nat} {e : TypeId} {v : Value} {n size : Nat} {xs : List Value} (h : w.ownsRow base e size v n xs) : ∃ A c, v = .slice A n c ∧ n ≤ c ∧ c ≤ maxLen := by
  rcases h.2 with ⟨rfl, rfl⟩ | ⟨g, cap, cur, rfl, _, _, h1, h2, _⟩
  · exact ⟨none, 0, rfl, Nat.le_refl _, by unfold maxLen; omega⟩
  · exact ⟨_, cap, rfl, h1, h2⟩
mutual
theorem Ownd.keep {w w' : World} {lo : Nat} (hs : SameFrom lo w w') : ∀ {x : VT} {v : Value}, Ownd w lo x v → Ownd w' lo x v
  | .mk k i t its ks, v, h => by
    rw [Ownd] at h ⊢
    obtain ⟨A, c, A', c', cs, e, h1, h2, h3, h4, h5, h6, h7⟩ := h
    exact ⟨A, c, A', c', cs, e, h1, h2, h3, own_same h4 hs, OwnC.keep hs h5, own_same h6 hs, h7⟩
theorem OwnC.keep {w w' : World} {lo : Nat} (hs : SameFrom lo w w') : ∀ {l : List VT} {cs : List Value}, OwnC w lo l cs → OwnC w' lo l cs
  | [], _, h => by rw [OwnC] at h ⊢; exact h
  | x :: r, cs, h => by
    rw [OwnC] at h ⊢
    obtain ⟨a, b, s, y, z, rest, e, hx, hr⟩ := h
    exact ⟨a, b, s, y, z, rest, e, Ownd.keep hs hx, OwnC.keep hs hr⟩
end
mutual
theorem Ownd.mono {w : World} {lo lo' : Nat} (hl : lo' ≤ lo) : ∀ {x : VT} {v : Value}, Ownd w lo x v → Ownd w lo' x v
  | .mk k i t its ks, v, h => by
    rw [Ownd] at h ⊢
    obtain ⟨A, c, A', c', cs, e, h1, h2, h3, h4, h5, h6, h7⟩ := h
    exact ⟨A, c, A', c', cs, e, h1, h2, h3, own_mono h4 hl, OwnC.mono hl h5, own_mono h6 hl, h7⟩
theorem OwnC.mono {w : World} {lo lo' : Nat} (hl : lo' ≤ lo) : ∀ {l : List VT} {cs : List Value}, OwnC w lo l cs → OwnC w lo' l cs
  | [], _, h => by rw [OwnC] at h ⊢; exact h
  | x :: r, cs, h => by
    rw [OwnC] at h ⊢
    obtain ⟨a, b, s, y, z, rest, e, hx, hr⟩ := h
    exact ⟨a, b, s, y, z, rest, e, Ownd.mono hl hx, OwnC.mono hl hr⟩
end
mutual
theorem Ownd.lies {w : World} {lo : Nat} : ∀ {x : VT} {v : Value}, Ownd w lo x v → Lies w (Lo w) x v
  | .mk k i t its ks, v, h => by
    rw [Ownd] at h
    rw [Lies]
    obtain ⟨A, c, A', c', cs, e, h1, h2, h3, h4, h5, h6, h7⟩ := h
    exact ⟨A, c, A', c', e, h1, h2, h3, (own_bounds h4).1, (own_bounds h4).2, (OwnC.lies h5).own h4, (own_bounds h6).1, (own_bounds h6).2, strs_own h7 h6⟩
theorem OwnC.lies {w : World} {lo : Nat} : ∀ {l : List VT} {cs : List Value}, OwnC w lo l cs → LiesC w (Lo w) l cs
  | [], _, h => by rw [OwnC] at h; exact h
  | x :: r, cs, h => by
    rw [OwnC] at h
    obtain ⟨a, b, s, y, z, rest, e, hx, hr⟩ := h
    exact ⟨a, b, s, y, z, rest, e, Ownd.lies hx, OwnC.lies hr⟩
end
theorem OwnC.len {w : World} {lo : Nat} {l : List VT} {cs : List Value} (h : OwnC w lo l cs) : cs.length = l.length * 5 := (OwnC.lies h).len
theorem OwnC.snoc {w : World} {lo : Nat} {x : VT} {a b s y z : Value} (hx : Ownd w lo x (.agg #[a, b, s, y, z])) : ∀ {l : List VT} {cs : List Value}, OwnC w lo l cs → OwnC w lo (l ++ [x]) (cs ++ [a, b, s, y, z])
  | [], cs, h => by
    rw [OwnC] at h
    subst h
    rw [List.nil_append, List.nil_append, OwnC]
    exact ⟨a, b, s, y, z, [], rfl, hx, by rw [OwnC]⟩
  | x' :: r, cs, h => by
    rw [OwnC] at h
    obtain ⟨a', b', s', y', z', rest, rfl, hx', hr⟩ := h
    rw [List.cons_append, OwnC]
    exact ⟨a', b', s', y', z', rest ++ [a, b, s, y, z], rfl, hx', OwnC.snoc hx hr⟩
/-- five cells put in the place of five -/
theorem set5 (a b s y z : Value) : ∀ (l r : List Value) (m : Nat), l.length = m → 5 ≤ r.length →
    (((((l ++ r).set m a).set (m + 1) b).set (m + 2) s).set (m + 3) y).set (m + 4) z = (l ++ [a, b, s, y, z]) ++ r.drop 5
  | [], a' :: b' :: s' :: y' :: z' :: r, m, h, _ => by
    obtain rfl : m = 0 := h.symm
    simp
  | [], [], _, _, h => absurd h (by decide)
  | [], [_], _, _, h => absurd h (by simp)
  | [], [_, _], _, _, h => absurd h (by simp)
  | [], [_, _, _], _, _, h => absurd h (by simp)
  | [], [_, _, _, _], _, _, h => absurd h (by simp)
  | x :: l, r, 0, h, _ => absurd h (by simp)
  | x :: l, r, m + 1, h, hr => by
    have := set5 a b s y z l r m (by simpa using h) hr
    simp only [List.cons_append, List.set_cons_succ, show m + 1 + 1 = (m + 1) + 1 from rfl, show m + 1 + 2 = (m + 2) + 1 from rfl, show m + 1 + 3 = (m + 3) + 1 from rfl, show m + 1 + 4 = (m + 4) + 1 from rfl]
    rw [this]
/-- a row of values with one of them stored anew -/
theorem own_store5 {w : World} {base g n cap m : Nat} {e : TypeId} {l r : List Value} {a b s y z : Value} (h : w.ownsRow base e 5 (.slice (some ⟨g, 0, none⟩) n cap) n (l ++ r)) (hl : l.length = m) (hr : 5 ≤ r.length) :
    (((((w.setCell ⟨g, m, none⟩ a).setCell ⟨g, m + 1, none⟩ b).setCell ⟨g, m + 2, none⟩ s).setCell ⟨g, m + 3, none⟩ y).setCell ⟨g, m + 4, none⟩ z).ownsRow base e 5 (.slice (some ⟨g, 0, none⟩) n cap) n ((l ++ [a, b, s, y, z]) ++ r.drop 5) ∧
    w.grownBy (((((w.setCell ⟨g, m, none⟩ a).setCell ⟨g, m + 1, none⟩ b).setCell ⟨g, m + 2, none⟩ s).setCell ⟨g, m + 3, none⟩ y).setCell ⟨g, m + 4, none⟩ z) (some g) := by
  obtain ⟨h1, g1⟩ := h.stored m a
  obtain ⟨h2, g2⟩ := h1.stored (m + 1) b
  obtain ⟨h3, g3⟩ := h2.stored (m + 2) s
  obtain ⟨h4, g4⟩ := h3.stored (m + 3) y
  obtain ⟨h5, g5⟩ := h4.stored (m + 4) z
  rw [set5 a b s y z l r m hl hr] at h5
  exact ⟨h5, grownBy_trans (grownBy_trans (grownBy_trans (grownBy_trans g1 g2) g3) g4) g5⟩
end Go.Proofs.Ytjbjoalinfhahaa
namespace Go.Proofs.Ytjbjoalinfhahaa
open Go.RowKit

/-- no row needs more memory than there is -/
def reachF (x : VT) : Bool := decide (x.its.length * 80 ≤ 140737488355328) && decide (x.ks.length * 16 ≤ 140737488355328)
theorem reach_mk {k i : Int} {t : ByteArray} {its : List VT} {ks : List ByteArray} (h : (VT.mk k i t its ks).all reachF = true) : its.length * 80 ≤ 140737488355328 ∧ ks.length * 16 ≤ 140737488355328 ∧ alls reachF its = true := by
  rw [VT.all_mk, Bool.and_eq_true] at h
  obtain ⟨h1, h2⟩ := h
  unfold reachF at h1
  rw [Bool.and_eq_true, decide_eq_true_eq, decide_eq_true_eq] at h1
  exact ⟨h1.1, h1.2, h2⟩
/-- what Copy hands back -/
def Copies (x : VT) (w : World) (e : Ending) (w' : World) : Prop := ∃ v, e = .returned v ∧ Ownd w' w.heap.size x v ∧ Below w.heap.size w w'

theorem grown_of_below {r : Option Nat} {w w' : World} (h : Below w.heap.size w w') : w.grownBy w' r := ⟨h.os, h.tape, h.output, h.size, fun k hk _ => h.block k hk⟩
theorem same_trans {lo : Nat} {a b c : World} (h : SameFrom lo a b) (k : SameFrom lo b c) (hs : a.heap.size ≤ b.heap.size) : SameFrom lo a c := fun i h1 h2 => (k i h1 (by omega)).trans (h i h1 h2)
theorem same_of_below {lo B : Nat} {w w' : World} (h : Below B w w') (hB : w.heap.size ≤ B) : SameFrom lo w w' := fun b _ hb => h.block b (by omega)
theorem same_grown {lo g : Nat} {w w' : World} (h : w.grownBy w' (some g)) (hg : g < lo) : SameFrom lo w w' := fun b h1 h2 => h.block b h2 (by intro e; injection e with e; omega)

theorem Lies.form {w : World} {R : Nat → Prop} {x : VT} {a b s y z : Value} (h : Lies w R x (.agg #[a, b, s, y, z])) : ∃ k i t A n c A' n' c', a = .int .i64 k ∧ b = .int .i64 i ∧ s = .string t ∧ y = .slice A n c ∧ z = .slice A' n' c' := by
  obtain ⟨k, i, t, its, ks⟩ := x
  obtain ⟨A, c, A', c', e, _⟩ := h.open
  unfold vag at e
  simp only [Value.agg.injEq, Array.mk.injEq, List.cons.injEq, and_true] at e
  obtain ⟨rfl, rfl, rfl, rfl, rfl⟩ := e
  exact ⟨_, _, _, _, _, _, _, _, _, rfl, rfl, rfl, rfl, rfl⟩
theorem Ownd.form {w : World} {lo : Nat} {x : VT} {v : Value} (h : Ownd w lo x v) : ∃ k i t A n c A' n' c', v = .agg #[.int .i64 k, .int .i64 i, .string t, .slice A n c, .slice A' n' c'] := by
  obtain ⟨k, i, t, its, ks⟩ := x
  rw [Ownd] at h
  obtain ⟨A, c, A', c', cs, rfl, _⟩ := h
  exact ⟨_, _, _, _, _, _, _, _, _, rfl⟩
theorem own_at {w : World} {lo n c size : Nat} {e : TypeId} {A : Option Addr} {xs : List Value} (h : w.ownsRow lo e size (.slice A n c) n xs) (hn : 0 < n) : ∃ g, A = some ⟨g, 0, none⟩ ∧ lo ≤ g ∧ g < w.heap.size := by
  rcases h.2 with ⟨_, h0⟩ | ⟨g, cap, cur, hv, hb, hg, _⟩
  · omega
  · injection hv with hv
    exact ⟨g, hv, hb, (Array.getElem?_eq_some_iff.1 hg).1⟩
theorem mid_at {new rest : List Value} {a b s y z : Value} {m : Nat} (h : new.length = m) :
    (new ++ a :: b :: s :: y :: z :: rest)[m]? = some a ∧ (new ++ a :: b :: s :: y :: z :: rest)[m + 1]? = some b ∧ (new ++ a :: b :: s :: y :: z :: rest)[m + 2]? = some s ∧
    (new ++ a :: b :: s :: y :: z :: rest)[m + 3]? = some y ∧ (new ++ a :: b :: s :: y :: z :: rest)[m + 4]? = some z := by
  subst h
  refine ⟨?_, ?_, ?_, ?_, ?_⟩ <;> rw [List.getElem?_append_right (by omega)] <;> simp

set_option maxRecDepth 100000 in
set_option maxHeartbeats 4000000 in
theorem copy_all (m : Nat) : ∀ (x : VT) (w : World) (v : Value), x.size ≤ m → x.all reachF = true → Lies w (Lo w) x v → Calls Try.prog 28 #[v] w (Copies x w) := by
  induction m with
  | zero => intro x _ _ h; have := size_pos x; omega
  | succ m ih =>
    intro x w v hsz hre hv
    have IH := Lib.hid ih
    clear ih
    obtain ⟨k, i, t, its, ks⟩ := x
    obtain ⟨A, c, A', c', rfl, hki, hii, htm, hlc, hcm, hL, hkc, hcm', hS⟩ := hv.open
    rw [VT.size_mk] at hsz
    obtain ⟨r1, r2, r3⟩ := reach_mk hre
    have HK0 := Lib.hid (And.intro hki (And.intro hii htm))
    have HRE := Lib.hid r3
    obtain ⟨w2, hw2⟩ : ∃ w2, w2 = (w.alloc (.cells #[.int .i64 k, .int .i64 i, .string t, .slice A its.length c, .slice A' ks.length c'] 26)).alloc (.cells #[.int .i64 0, .int .i64 0, .string ⟨#[]⟩, .slice none 0 0, .slice none 0 0] 26) := ⟨_, rfl⟩
    have B2 : Hid (Below w.heap.size w w2) := Lib.hid (by rw [hw2]; exact (below_one _ _).trans (Below.alloc (Below.refl _ _) (by simp) _))
    have P2 : Hid (Bk w2 w.heap.size 26 #[.int .i64 k, .int .i64 i, .string t, .slice A its.length c, .slice A' ks.length c']) := Lib.hid (by rw [hw2]; exact (Bk.new _ _ _).alloc _)
    have Q2 : Hid (Bk w2 (w.heap.size + 1) 26 #[.int .i64 0, .int .i64 0, .string ⟨#[]⟩, .slice none 0 0, .slice none 0 0]) := Lib.hid (by rw [hw2]; have := Bk.new (w.alloc (.cells #[.int .i64 k, .int .i64 i, .string t, .slice A its.length c, .slice A' ks.length c'] 26)) 26 #[.int .i64 0, .int .i64 0, .string ⟨#[]⟩, .slice none 0 0, .slice none 0 0]; simpa using this)
    have HL := Lib.hid hL
    have K2 := Lib.hid (cloneS_any A' c' ks w2 (hS.below B2.out) r2)
    have R1 := Lib.hid r1
    have SS0 := Lib.hid hS.sizes
    have HW := Lib.hid hw2
    clear hw2 hv hL hS hre r1 r2 r3 hki hii htm
    unfold vag
    go_enter Try.func28, Try.ntmps28
    go_wp2_with fail
    rw [← HW.out]
    refine (K2.out).mono ?_
    rintro e w3 ⟨vk, rfl, hok, hb⟩
    obtain ⟨Ak, ck, rfl, _, _⟩ := own_form hok
    have p3 := P2.out.below hb P2.out.lt
    have q3 := Q2.out.below hb Q2.out.lt
    have hlt : w.heap.size + 1 < w2.heap.size := Q2.out.lt
    have f3 := p3.frozen 4
    have B3 := Lib.hid (below_next B2.out hb)
    have S3 : Hid (w2.heap.size ≤ w3.heap.size) := Lib.hid hb.size
    have OK3 := Lib.hid hok
    have PP := Lib.hid p3
    have QQ := Lib.hid q3
    have HLT := Lib.hid hlt
    have d4 := p3.cell 4
    have d3 := p3.cell 3
    clear hb hok p3 q3 hlt
    have B4 : Hid (Below w.heap.size w (w3.setCell ⟨w.heap.size, 4, none⟩ (.slice Ak ks.length ck))) := Lib.hid (B3.out.setCell (p := ⟨w.heap.size, 4, none⟩) (Nat.le_refl _) _)
    have K4 := Lib.hid (cloneV_any (fun b => b < w.heap.size) A c its _ (fun b hb => Nat.lt_of_lt_of_le hb B4.out.size) (HL.out.keep (fun q hq => B4.out.cell hq) (fun _ h => h)) R1.out)
    go_wp2_with fail
    obtain ⟨w4, hw4⟩ : ∃ w4, w4 = w3.setCell ⟨w.heap.size, 4, none⟩ (.slice Ak ks.length ck) := ⟨_, rfl⟩
    have P4 : Hid (Bk w4 w.heap.size 26 #[.int .i64 k, .int .i64 i, .string t, .slice A its.length c, .slice Ak ks.length ck]) := Lib.hid (by rw [hw4]; exact PP.out.put 4 _)
    have Q4 : Hid (Bk w4 (w.heap.size + 1) 26 #[.int .i64 0, .int .i64 0, .string ⟨#[]⟩, .slice none 0 0, .slice none 0 0]) := Lib.hid (by rw [hw4]; exact QQ.out.far (by show w.heap.size + 1 ≠ w.heap.size; omega) _)
    have Z4 : Hid (w3.heap.size = w4.heap.size) := Lib.hid (by rw [hw4]; simp [World.setCell])
    have OK4 : Hid (w4.ownsRow w2.heap.size 9 1 (.slice Ak ks.length ck) ks.length (ks.map Value.string)) := Lib.hid (by
      rw [hw4]; exact own_same OK3.out (fun b h1 _ => Below.heap_setCell _ _ _ _ (by have := HLT.out; show b ≠ w.heap.size; omega)))
    have OKB : Hid (∀ g, (Value.slice Ak ks.length ck).ownBlock = some g → g < w4.heap.size) := Lib.hid (fun g hg => (OK4.out.lt g hg).2)
    rw [← hw4] at K4 B4 ⊢
    have HW4 := Lib.hid hw4
    clear hw4 K2 d3 d4 f3
    refine (K4.out).mono ?_
    rintro e w5 ⟨vi, cs, rfl, hcs, hoi, hb⟩
    obtain ⟨Ai, ci, rfl, hnc, _⟩ := own_formN hoi
    have P5 := Lib.hid (P4.out.below hb P4.out.lt)
    have Q5 := Lib.hid (Q4.out.below hb Q4.out.lt)
    have OK5 := Lib.hid (own_same (lo := w2.heap.size) OK4.out (same_of_below hb (Nat.le_refl _)))
    have OI5 := Lib.hid hoi
    have B5 := Lib.hid (below_next B4.out hb)
    have CS := Lib.hid (hcs.keep (w' := w) (fun q hq => (B4.out.cell hq).symm) (fun _ h => h))
    have Z5 : Hid (w4.heap.size ≤ w5.heap.size) := Lib.hid hb.size
    have e3 := P5.out.cell 3
    have f3 := P5.out.frozen 3
    clear hb hcs hoi
    go_wp2_with fail
    obtain ⟨w6, hw6⟩ : ∃ w6, w6 = w5.setCell ⟨w.heap.size, 3, none⟩ (.slice Ai its.length ci) := ⟨_, rfl⟩
    have P6 : Hid (Bk w6 w.heap.size 26 #[.int .i64 k, .int .i64 i, .string t, .slice Ai its.length ci, .slice Ak ks.length ck]) := Lib.hid (by rw [hw6]; exact P5.out.put 3 _)
    have Q6 : Hid (Bk w6 (w.heap.size + 1) 26 #[.int .i64 0, .int .i64 0, .string ⟨#[]⟩, .slice none 0 0, .slice none 0 0]) := Lib.hid (by rw [hw6]; exact Q5.out.far (by show w.heap.size + 1 ≠ w.heap.size; omega) _)
    have Z6 : Hid (w6.heap.size = w5.heap.size) := Lib.hid (by rw [hw6]; simp [World.setCell])
    have OK6 : Hid (w6.ownsRow w2.heap.size 9 1 (.slice Ak ks.length ck) ks.length (ks.map Value.string)) := Lib.hid (by
      rw [hw6]; exact own_same OK5.out (fun b h1 _ => Below.heap_setCell _ _ _ _ (by have := HLT.out; show b ≠ w.heap.size; omega)))
    have OI6 : Hid (w6.ownsRow w4.heap.size 26 5 (.slice Ai its.length ci) its.length cs) := Lib.hid (by
      rw [hw6]; exact own_same OI5.out (fun b h1 _ => Below.heap_setCell _ _ _ _ (by have := HLT.out; have := S3.out; have := Z4.out; show b ≠ w.heap.size; omega)))
    have B6 : Hid (Below w.heap.size w w6) := Lib.hid (by rw [hw6]; exact B5.out.setCell (p := ⟨w.heap.size, 3, none⟩) (Nat.le_refl _) _)
    have g3 := P6.out.cell 3
    rw [← hw6]
    have HW6 := Lib.hid hw6
    have HLT6 : Hid (w.heap.size + 1 < w4.heap.size) := Lib.hid (by have := HLT.out; have := S3.out; have := Z4.out; omega)
    clear hw6 e3 f3 K4 R1 PP QQ OK3 P4 Q4 OK4 P5 Q5 OK5 OI5
    go_wp2_with fail
    go_loopw [16, 3, 4] (fun s _ _ wr => ∃ (j : Nat) (new old : List Value), j ≤ its.length ∧ s = .int .i64 j ∧ Hid (wr.ownsRow w4.heap.size 26 5 (.slice Ai its.length ci) its.length (new ++ old)) ∧
      Hid (OwnC wr w6.heap.size (its.take j) new) ∧ Hid (LiesC w (fun b => b < w.heap.size) (its.drop j) old) ∧ Hid (w6.grownBy wr (Value.slice Ai its.length ci).ownBlock)) (fun s _ _ _ => its.length - (intOf s).toNat)
    case atStart => exact ⟨0, [], cs, by omega, rfl, OI6, Lib.hid (by rw [List.take_zero, OwnC]), CS, Lib.hid (World.grownBy.refl _ _)⟩
    case round =>
      obtain ⟨j, new, old, hjn, rfl, HO, HN, HD, HG⟩ := hrel
      have HLO := Lib.hid (HO.out.lt)
      have pz : w.heap.size < w6.heap.size := P6.out.lt
      have BR : Hid (Below w4.heap.size w6 wr) := Lib.hid ((Below.refl _ _).grown HG.out (by have := Z6.out; have := Z5.out; omega) (fun k hk => (HLO.out k hk).1))
      have PR := Lib.hid (P6.out.below BR.out (by have := HLT6.out; omega))
      have g3' := PR.out.cell 3
      by_cases hlt : j < its.length
      · have h1 := List.getElem?_eq_getElem (l := its) (i := j) hlt
        have hre := all_at HRE.out h1
        have hle := size_at h1
        have hdr := HD.out
        have htk : its.take (j + 1) = its.take j ++ [its[j]'hlt] := by rw [List.take_add_one, h1]; rfl
        rw [List.drop_eq_getElem_cons hlt] at hdr
        generalize its[j]'hlt = x at *
        obtain ⟨a, b, s, y, z, rest, rfl, hx, hr⟩ := hdr
        obtain ⟨k', i', t', E, n1, c1, E', n2, c2, rfl, rfl, rfl, rfl, rfl⟩ := hx.form
        obtain ⟨g, rfl, hg1, hg2⟩ := own_at HO.out (by omega)
        have hnl : new.length = j * 5 := by rw [HN.out.len, List.length_take]; congr 1; omega
        obtain ⟨m0, m1, m2, m3, m4⟩ := mid_at (rest := rest) (a := .int .i64 k') (b := .int .i64 i') (s := .string t') (y := .slice E n1 c1) (z := .slice E' n2 c2) hnl
        have e0 := (HO.out.cellAt (j * 5) (by omega)).trans m0
        have e1 := (HO.out.cellAt (j * 5 + 1) (by omega)).trans m1
        have e2 := (HO.out.cellAt (j * 5 + 2) (by omega)).trans m2
        have e3 := (HO.out.cellAt (j * 5 + 3) (by omega)).trans m3
        have e4 := (HO.out.cellAt (j * 5 + 4) (by omega)).trans m4
        have HX := Lib.hid hx
        have HRR := Lib.hid hr
        have HTK := Lib.hid htk
        have HNL := Lib.hid hnl
        have HRX := Lib.hid hre
        clear m0 m1 m2 m3 m4 hx hr htk hnl hre h1
        go_wp2_with fail
        obtain ⟨wa, hwa⟩ : ∃ wa, wa = wr.alloc (.cells #[.int .i64 k', .int .i64 i', .string t', .slice E n1 c1, .slice E' n2 c2] 26) := ⟨_, rfl⟩
        have BA : Hid (Below w.heap.size w wa) := Lib.hid (by rw [hwa]; exact ((B6.out.trans (BR.out.mono (by have := HLT6.out; omega))).alloc (by have := (B6.out.trans (BR.out.mono (by have := HLT6.out; omega))).size; omega) _))
        have qa := hwa ▸ (Bk.new wr 26 #[.int .i64 k', .int .i64 i', .string t', .slice E n1 c1, .slice E' n2 c2])
        have pa := hwa ▸ (PR.out.alloc (.cells #[.int .i64 k', .int .i64 i', .string t', .slice E n1 c1, .slice E' n2 c2] 26))
        rw [← hwa]
        have HWA := Lib.hid hwa
        have u0 := qa.cell 0
        have u1 := qa.cell 1
        have u2 := qa.cell 2
        have u3 := qa.cell 3
        have u4 := qa.cell 4
        have v3 := pa.cell 3
        change _ = some (Value.int .i64 k') at u0
        change _ = some (Value.int .i64 i') at u1
        change _ = some (Value.string t') at u2
        change _ = some (Value.slice E n1 c1) at u3
        change _ = some (Value.slice E' n2 c2) at u4
        change _ = some (Value.slice (some ⟨g, 0, none⟩) its.length ci) at v3
        have QA := Lib.hid qa.lt
        have BWA : Hid (Below wr.heap.size wr wa) := Lib.hid (by rw [hwa]; exact below_one _ _)
        have MID := Lib.hid (mid_at (rest := rest) (a := .int .i64 k') (b := .int .i64 i') (s := .string t') (y := .slice E n1 c1) (z := .slice E' n2 c2) HNL.out)
        have HJN := Lib.hid hlt
        have PA := Lib.hid pa.lt
        have ne1 : g ≠ w.heap.size := by have := HLT6.out; omega
        have ne2 : g ≠ wr.heap.size := by omega
        have kA := And.intro v3 (And.intro u0 (And.intro u1 (And.intro u2 (And.intro u3 u4))))
        have HCW : Hid (∀ W, Below w.heap.size w W → Calls Try.prog 28 #[.agg #[.int .i64 k', .int .i64 i', .string t', .slice E n1 c1, .slice E' n2 c2]] W (Copies x W)) := Lib.hid (fun W hb => IH.out x W _ (by omega) HRX.out (HX.out.keep (fun q hq => hb.cell hq) (fun b hq => Nat.lt_of_lt_of_le hq hb.size)))
        clear hwa qa pa g3' e0 e1 e2 e3 e4
        go_region_held3 (fun w' => w'.cell? ⟨w.heap.size, 3, none⟩ = some (.slice (some ⟨g, 0, none⟩) its.length ci) ∧ w'.cell? ⟨wr.heap.size, 0, none⟩ = some (.int .i64 k') ∧ w'.cell? ⟨wr.heap.size, 1, none⟩ = some (.int .i64 i') ∧
            w'.cell? ⟨wr.heap.size, 2, none⟩ = some (.string t') ∧ w'.cell? ⟨wr.heap.size, 3, none⟩ = some (.slice E n1 c1) ∧ w'.cell? ⟨wr.heap.size, 4, none⟩ = some (.slice E' n2 c2))
          (first
            | go_keep
            | exact kA
            | exact kB)
          (first
            | (go_at_call 28; refine (HCW.out _ (by first | exact BA.out | exact BA.out.drew)).mono ?_; rintro _ wB ⟨vx, rfl, hox, hbx⟩; obtain ⟨k2, i2, t2, D, n3, c3, D', n4, c4, rfl⟩ := hox.form; have HOX := Lib.hid hox; clear hox; have hB2 : Below wr.heap.size wr wB := BWA.out.trans (Below.mono ⟨hbx.os, hbx.tape, hbx.output, hbx.size, hbx.block⟩ (Nat.le_of_lt QA.out)); have HOB := Lib.hid (own_same (lo := w4.heap.size) HO.out (same_of_below hB2 (Nat.le_refl _))); have e0 := (HOB.out.cellAt (j * 5) (by have := HJN.out; omega)).trans MID.out.1; have e1 := (HOB.out.cellAt (j * 5 + 1) (by have := HJN.out; omega)).trans MID.out.2.1; have e2 := (HOB.out.cellAt (j * 5 + 2) (by have := HJN.out; omega)).trans MID.out.2.2.1; have e3 := (HOB.out.cellAt (j * 5 + 3) (by have := HJN.out; omega)).trans MID.out.2.2.2.1; have e4 := (HOB.out.cellAt (j * 5 + 4) (by have := HJN.out; omega)).trans MID.out.2.2.2.2; have f0 := HOB.out.frozenAt (j * 5); have f1 := HOB.out.frozenAt (j * 5 + 1); have f2 := HOB.out.frozenAt (j * 5 + 2); have f3 := HOB.out.frozenAt (j * 5 + 3); have f4 := HOB.out.frozenAt (j * 5 + 4); have HB2 := Lib.hid hB2; clear hB2; have kB := And.intro ((hbx.cell (p := ⟨w.heap.size, 3, none⟩) PA.out).trans kA.1) (And.intro ((hbx.cell (p := ⟨wr.heap.size, 0, none⟩) QA.out).trans kA.2.1) (And.intro ((hbx.cell (p := ⟨wr.heap.size, 1, none⟩) QA.out).trans kA.2.2.1) (And.intro ((hbx.cell (p := ⟨wr.heap.size, 2, none⟩) QA.out).trans kA.2.2.2.1) (And.intro ((hbx.cell (p := ⟨wr.heap.size, 3, none⟩) QA.out).trans kA.2.2.2.2.1) ((hbx.cell (p := ⟨wr.heap.size, 4, none⟩) QA.out).trans kA.2.2.2.2.2)))))))
        have hgl : g < w6.heap.size := (OI6.out.lt g rfl).2
        obtain ⟨hst, hgr⟩ := own_store5 (a := .int .i64 k2) (b := .int .i64 i2) (s := .string t2) (y := .slice D n3 c3) (z := .slice D' n4 c4) HOB.out HNL.out (by simp)
        have S1 : SameFrom w6.heap.size wr wB := same_of_below HB2.out (Nat.le_refl _)
        have S2 := same_grown (lo := w6.heap.size) hgr hgl
        have ho2 := OwnC.snoc ((HOX.out.mono (lo' := w6.heap.size) (by have h1 := BWA.out.size; have h2 := HG.out.size; show w6.heap.size ≤ wa.heap.size; omega)).keep S2) (HN.out.keep (same_trans S1 S2 HB2.out.size))
        rw [← HTK.out] at ho2
        have hg2 := grownBy_trans HG.out (grownBy_trans (grown_of_below HB2.out) hgr)
        have FO := Lib.hid hst
        have FN := Lib.hid ho2
        have FG := Lib.hid hg2
        clear hst hgr S1 S2 ho2 hg2 e0 e1 e2 e3 e4 f0 f1 f2 f3 f4 kA kB hbx u0 u1 u2 u3 u4 v3
        go_wp2
        go_roundw
        case rel => exact ⟨j + 1, _, rest, by have := HJN.out; omega, by go_num, FO, FN, HRR, FG⟩
        case measure => have := HJN.out; simp [intOf]; omega
      · obtain rfl : j = its.length := by omega
        have hold : old = [] := by have := HD.out; rw [List.drop_length] at this; exact this
        subst hold
        have QR := Lib.hid (Q6.out.below BR.out HLT6.out)
        have b0 := PR.out.cell 0
        have b1 := PR.out.cell 1
        have b2 := PR.out.cell 2
        have b4 := PR.out.cell 4
        have r0 := QR.out.frozen 0
        have r1 := QR.out.frozen 1
        have r2 := QR.out.frozen 2
        have r3 := QR.out.frozen 3
        have r4 := QR.out.frozen 4
        have z0 := QR.out.cell 0
        have z1 := QR.out.cell 1
        have z2 := QR.out.cell 2
        have z3 := QR.out.cell 3
        have z4 := QR.out.cell 4
        go_wp2
        obtain ⟨wf, hwf⟩ : ∃ wf, wf = ((((wr.setCell ⟨w.heap.size + 1, 0, none⟩ (.int .i64 k)).setCell ⟨w.heap.size + 1, 1, none⟩ (.int .i64 i)).setCell ⟨w.heap.size + 1, 2, none⟩ (.string t)).setCell ⟨w.heap.size + 1, 3, none⟩ (.slice Ai its.length ci)).setCell ⟨w.heap.size + 1, 4, none⟩ (.slice Ak ks.length ck) := ⟨_, rfl⟩
        have QF : Hid (Bk wf (w.heap.size + 1) 26 #[.int .i64 k, .int .i64 i, .string t, .slice Ai its.length ci, .slice Ak ks.length ck]) := Lib.hid (by rw [hwf]; exact ((((QR.out.put 0 _).put 1 _).put 2 _).put 3 _).put 4 _)
        have SF : Hid (∀ b, b ≠ w.heap.size + 1 → wf.heap[b]? = wr.heap[b]?) := Lib.hid (fun b hb => by
          rw [hwf]; exact ((((Below.heap_setCell _ _ _ _ hb).trans (Below.heap_setCell _ _ _ _ hb)).trans (Below.heap_setCell _ _ _ _ hb)).trans (Below.heap_setCell _ _ _ _ hb)).trans (Below.heap_setCell _ _ _ _ hb))
        have BF : Hid (Below w.heap.size w wf) := Lib.hid (by
          rw [hwf]
          have h0 := B6.out.trans (BR.out.mono (by have := HLT6.out; omega : w.heap.size ≤ w4.heap.size))
          exact ((((h0.setCell (p := ⟨w.heap.size + 1, 0, none⟩) (by show w.heap.size ≤ w.heap.size + 1; omega) _).setCell (p := ⟨w.heap.size + 1, 1, none⟩) (by show w.heap.size ≤ w.heap.size + 1; omega) _).setCell (p := ⟨w.heap.size + 1, 2, none⟩) (by show w.heap.size ≤ w.heap.size + 1; omega) _).setCell (p := ⟨w.heap.size + 1, 3, none⟩) (by show w.heap.size ≤ w.heap.size + 1; omega) _).setCell (p := ⟨w.heap.size + 1, 4, none⟩) (by show w.heap.size ≤ w.heap.size + 1; omega) _)
        rw [← hwf]
        refine bodyPost_ret (results_cell_row rfl _ _ (w.heap.size + 1) 26 #[.int .i64 k, .int .i64 i, .string t, .slice Ai its.length ci, .slice Ak ks.length ck] (0, 0) _ rfl QF.out Try.underlying26 rfl (by kernel_rfl)) rfl ?_
        have hsz := BR.out.size
        have l4 := HLT6.out
        have l2 := HLT.out
        refine ⟨_, rfl, ?_, BF.out⟩
        rw [Ownd]
        have hnew : OwnC wr w6.heap.size its new := by have := HN.out; rwa [List.take_length] at this
        have hrow : wr.ownsRow w4.heap.size 26 5 (.slice Ai its.length ci) its.length new := by have := HO.out; rwa [List.append_nil] at this
        have hks : wr.ownsRow w2.heap.size 9 1 (.slice Ak ks.length ck) ks.length (ks.map Value.string) := by
          refine OK6.out.kept HG.out ?_
          cases hb : (Value.slice Ak ks.length ck).ownBlock with
          | none => exact Or.inl rfl
          | some gk => exact Or.inr (fun e => by have h1 := (HLO.out gk e.symm).1; have h2 := OKB.out gk hb; omega)
        exact ⟨Ai, ci, Ak, ck, new, rfl, HK0.out.1, HK0.out.2.1, HK0.out.2.2, own_mono (own_same hrow (fun b h1 _ => SF.out b (by omega))) (by omega),
          (hnew.keep (fun b h1 _ => SF.out b (by have := Z6.out; have := Z5.out; omega))).mono (by have := Z6.out; have := Z5.out; omega), own_mono (own_same hks (fun b h1 _ => SF.out b (by omega))) (by omega), SS0.out⟩
theorem Copy_any {x : VT} {v : Value} {w : World} (h : Lies w (Lo w) x v) (hr : x.all reachF = true) : Calls Try.prog 28 #[v] w (Copies x w) := copy_all x.size x w v (Nat.le_refl _) hr h
end Go.Proofs.Ytjbjoalinfhahaa
namespace Go.Proofs.Ytjbjoalinfhahaa
open Go.RowKit

theorem results_row2 {P : Program} {fn : Func} {p u : Tmp} {ty : TypeId} (h : fn.results = #[.cell p ty, .tmp u]) (tmps : Array Value) (w : World) (g : Nat) (t : TypeId) (cs : Array Value) (fr : Nat × Nat) (d : TypeDesc)
    (hp : tmps.getD p undef = .pointer (some ⟨g, 0, none⟩)) (hg : w.heap[g]? = some (.cells cs t fr))
    (hu : P.underlying ty = some d) (hd : (match d with | .struct _ | .array _ _ => true | _ => false) = true) (hi : (P.info? ty).map (·.size) = some cs.size) :
    (results fn tmps).run P w = .ok (.tuple #[.agg cs, tmps.getD u undef]) w := by
  rw [results_cell_tmp h, hp]
  simp [asAddr, run_loadVar_row w g t ty cs fr d hg hu hd hi]

/-- the zero value -/
def zeroV : Value := .agg #[.int .i64 0, .int .i64 0, .string ⟨#[]⟩, .slice none 0 0, .slice none 0 0]
theorem zero_lies (w : World) (R : Nat → Prop) : Lies w R nullT zeroV := by
  unfold nullT
  rw [Lies]
  exact ⟨none, 0, none, 0, rfl, by omega, by omega, by decide, Nat.le_refl _, by omega, LiesL.none_, Nat.le_refl _, by omega, LiesS.none_⟩

set_option maxHeartbeats 400000 in
theorem Null_any (w : World) : Calls Try.prog 26 #[] w (Gives zeroV w) := by
  go_enter Try.func26, Try.ntmps26
  go_wp2
  obtain ⟨wf, hwf⟩ : ∃ wf, wf = w.alloc (.cells #[.int .i64 0, .int .i64 0, .string ⟨#[]⟩, .slice none 0 0, .slice none 0 0] 26) := ⟨_, rfl⟩
  have QF : Hid (Bk wf w.heap.size 26 #[.int .i64 0, .int .i64 0, .string ⟨#[]⟩, .slice none 0 0, .slice none 0 0]) := Lib.hid (by rw [hwf]; exact Bk.new _ _ _)
  rw [← hwf]
  refine bodyPost_ret (results_cell_row rfl _ _ w.heap.size 26 _ (0, 0) _ rfl QF.out Try.underlying26 rfl (by kernel_rfl)) rfl ?_
  exact ⟨rfl, by rw [hwf]; exact below_one _ _⟩
set_option maxHeartbeats 400000 in
theorem Int_any (n : Int) (w : World) : Calls Try.prog 22 #[.int .i64 n] w (Gives (.agg #[.int .i64 2, .int .i64 n, .string ⟨#[]⟩, .slice none 0 0, .slice none 0 0]) w) := by
  go_enter Try.func22, Try.ntmps22
  go_wp2
  obtain ⟨wf, hwf⟩ : ∃ wf, wf = w.alloc (.cells #[.int .i64 2, .int .i64 n, .string ⟨#[]⟩, .slice none 0 0, .slice none 0 0] 26) := ⟨_, rfl⟩
  have QF : Hid (Bk wf w.heap.size 26 #[.int .i64 2, .int .i64 n, .string ⟨#[]⟩, .slice none 0 0, .slice none 0 0]) := Lib.hid (by rw [hwf]; exact Bk.new _ _ _)
  rw [← hwf]
  refine bodyPost_ret (results_cell_row rfl _ _ w.heap.size 26 _ (0, 0) _ rfl QF.out Try.underlying26 rfl (by kernel_rfl)) rfl ?_
  exact ⟨rfl, by rw [hwf]; exact below_one _ _⟩
set_option maxHeartbeats 400000 in
theorem Text_any (s : ByteArray) (w : World) : Calls Try.prog 18 #[.string s] w (Gives (.agg #[.int .i64 3, .int .i64 0, .string s, .slice none 0 0, .slice none 0 0]) w) := by
  go_enter Try.func18, Try.ntmps18
  go_wp2
  obtain ⟨wf, hwf⟩ : ∃ wf, wf = w.alloc (.cells #[.int .i64 3, .int .i64 0, .string s, .slice none 0 0, .slice none 0 0] 26) := ⟨_, rfl⟩
  have QF : Hid (Bk wf w.heap.size 26 #[.int .i64 3, .int .i64 0, .string s, .slice none 0 0, .slice none 0 0]) := Lib.hid (by rw [hwf]; exact Bk.new _ _ _)
  rw [← hwf]
  refine bodyPost_ret (results_cell_row rfl _ _ w.heap.size 26 _ (0, 0) _ rfl QF.out Try.underlying26 rfl (by kernel_rfl)) rfl ?_
  exact ⟨rfl, by rw [hwf]; exact below_one _ _⟩

/-- a value and an error -/
def MakesE (x : VT) (r : Int) (w : World) (e : Ending) (w' : World) : Prop := ∃ v, e = .returned (.tuple #[v, .int .i64 r]) ∧ Ownd w' w.heap.size x v ∧ Below w.heap.size w w'
theorem zero_ownd (w : World) (lo : Nat) : Ownd w lo nullT zeroV := by
  unfold nullT
  rw [Ownd]
  exact ⟨none, 0, none, 0, [], rfl, by omega, by omega, by decide, World.ownsRow_nil _ _ _ _, by rw [OwnC], World.ownsRow_nil _ _ _ _, fun s h => by cases h⟩

/-- limited's answer and its error -/
def limT (x : VT) : VT := if x.within = true then x else nullT
def limE (x : VT) : Int := if x.within = true then 0 else 6
theorem limT_yes {x : VT} (h : x.within = true) : limT x = x ∧ limE x = 0 := by unfold limT limE; rw [if_pos h, if_pos h]; exact ⟨rfl, rfl⟩
theorem limT_no {x : VT} (h : x.within = false) : limT x = nullT ∧ limE x = 6 := by unfold limT limE; rw [h]; exact ⟨rfl, rfl⟩

set_option maxRecDepth 100000 in
set_option maxHeartbeats 1000000 in
theorem limited_any {x : VT} {v : Value} {w : World} (h : Lies w (Lo w) x v) (hr : x.all reachF = true) :
    Calls Try.prog 61 #[v] w (MakesE (limT x) (limE x) w) := by
  have HC := Lib.hid (fun (w' : World) (hb : Below w.heap.size w w') => Copy_any (h.below hb) hr)
  have HT := Lib.hid (fun (w' : World) (hb : Below w.heap.size w w') => within_any (h.below hb))
  obtain ⟨k, i, t, its, ks⟩ := x
  obtain ⟨A, c, A', c', rfl, _, _, _, _, _, _, _, _, _⟩ := h.open
  obtain ⟨w2, hw2⟩ : ∃ w2, w2 = (w.alloc (.cells #[.int .i64 k, .int .i64 i, .string t, .slice A its.length c, .slice A' ks.length c'] 26)).alloc (.cells #[.int .i64 0, .int .i64 0, .string ⟨#[]⟩, .slice none 0 0, .slice none 0 0] 26) := ⟨_, rfl⟩
  have B2 : Hid (Below w.heap.size w w2) := Lib.hid (by rw [hw2]; exact (below_one _ _).trans (Below.alloc (Below.refl _ _) (by simp) _))
  have P2 : Hid (Bk w2 w.heap.size 26 #[.int .i64 k, .int .i64 i, .string t, .slice A its.length c, .slice A' ks.length c']) := Lib.hid (by rw [hw2]; exact (Bk.new _ _ _).alloc _)
  have Q2 : Hid (Bk w2 (w.heap.size + 1) 26 #[.int .i64 0, .int .i64 0, .string ⟨#[]⟩, .slice none 0 0, .slice none 0 0]) := Lib.hid (by rw [hw2]; have := Bk.new (w.alloc (.cells #[.int .i64 k, .int .i64 i, .string t, .slice A its.length c, .slice A' ks.length c'] 26)) 26 #[.int .i64 0, .int .i64 0, .string ⟨#[]⟩, .slice none 0 0, .slice none 0 0]; simpa using this)
  have HW := Lib.hid hw2
  have H1 := Lib.hid (HT.out w2 B2.out)
  have LY := Lib.hid (limT_yes (x := VT.mk k i t its ks))
  have LN := Lib.hid (limT_no (x := VT.mk k i t its ks))
  clear h hw2 hr
  generalize hx : VT.mk k i t its ks = x at *
  have HX := Lib.hid hx
  clear hx
  generalize x.within = b at *
  unfold vag at *
  go_enter Try.func61, Try.ntmps61
  go_wp2_with fail
  rw [← HW.out]
  refine (H1.out).mono ?_
  rintro e w3 ⟨rfl, hb⟩
  have P3 := Lib.hid (P2.out.below hb P2.out.lt)
  have Q3 := Lib.hid (Q2.out.below hb Q2.out.lt)
  have B3 := Lib.hid (below_next B2.out hb)
  clear hb
  cases b with
  | true =>
    have L := Lib.hid (LY.out rfl)
    clear LY LN
    have H2 := Lib.hid (HC.out w3 B3.out)
    have a0 := P3.out.cell 0
    have a1 := P3.out.cell 1
    have a2 := P3.out.cell 2
    have a3 := P3.out.cell 3
    have a4 := P3.out.cell 4
    go_wp2_with fail
    refine (H2.out).mono ?_
    rintro e w4 ⟨v, rfl, hov, hb⟩
    have Q4 := Lib.hid (Q3.out.below hb Q3.out.lt)
    have B4 := Lib.hid (below_next B3.out hb)
    obtain ⟨k2, i2, t2, D, n3, c3, D', n4, c4, rfl⟩ := hov.form
    have OV := Lib.hid hov
    have LT3 := Lib.hid Q3.out.lt
    have q0 := Q4.out.cell 0
    have q1 := Q4.out.cell 1
    have q2 := Q4.out.cell 2
    have q3 := Q4.out.cell 3
    have q4 := Q4.out.cell 4
    have f0 := Q4.out.frozen 0
    have f1 := Q4.out.frozen 1
    have f2 := Q4.out.frozen 2
    have f3 := Q4.out.frozen 3
    have f4 := Q4.out.frozen 4
    clear hb hov a0 a1 a2 a3 a4
    go_wp2
    obtain ⟨wf, hwf⟩ : ∃ wf, wf = ((((w4.setCell ⟨w.heap.size + 1, 0, none⟩ (.int .i64 k2)).setCell ⟨w.heap.size + 1, 1, none⟩ (.int .i64 i2)).setCell ⟨w.heap.size + 1, 2, none⟩ (.string t2)).setCell ⟨w.heap.size + 1, 3, none⟩ (.slice D n3 c3)).setCell ⟨w.heap.size + 1, 4, none⟩ (.slice D' n4 c4) := ⟨_, rfl⟩
    have QF : Hid (Bk wf (w.heap.size + 1) 26 #[.int .i64 k2, .int .i64 i2, .string t2, .slice D n3 c3, .slice D' n4 c4]) := Lib.hid (by rw [hwf]; exact ((((Q4.out.put 0 _).put 1 _).put 2 _).put 3 _).put 4 _)
    have SF : Hid (∀ b, b ≠ w.heap.size + 1 → wf.heap[b]? = w4.heap[b]?) := Lib.hid (fun b hb => by
      rw [hwf]; exact ((((Below.heap_setCell _ _ _ _ hb).trans (Below.heap_setCell _ _ _ _ hb)).trans (Below.heap_setCell _ _ _ _ hb)).trans (Below.heap_setCell _ _ _ _ hb)).trans (Below.heap_setCell _ _ _ _ hb))
    have BF : Hid (Below w.heap.size w wf) := Lib.hid (by
      rw [hwf]
      exact ((((B4.out.setCell (p := ⟨w.heap.size + 1, 0, none⟩) (by show w.heap.size ≤ w.heap.size + 1; omega) _).setCell (p := ⟨w.heap.size + 1, 1, none⟩) (by show w.heap.size ≤ w.heap.size + 1; omega) _).setCell (p := ⟨w.heap.size + 1, 2, none⟩) (by show w.heap.size ≤ w.heap.size + 1; omega) _).setCell (p := ⟨w.heap.size + 1, 3, none⟩) (by show w.heap.size ≤ w.heap.size + 1; omega) _).setCell (p := ⟨w.heap.size + 1, 4, none⟩) (by show w.heap.size ≤ w.heap.size + 1; omega) _)
    rw [← hwf]
    refine bodyPost_ret (results_row2 rfl _ _ (w.heap.size + 1) 26 _ (0, 0) _ rfl QF.out Try.underlying26 rfl (by kernel_rfl)) rfl ?_
    rw [L.out.1, L.out.2]
    exact ⟨_, rfl, (OV.out.keep (fun b h1 _ => SF.out b (by have := LT3.out; omega))).mono (by have := LT3.out; omega), BF.out⟩
  | false =>
    have L := Lib.hid (LN.out rfl)
    clear LY LN
    go_wp2_with fail
    refine (Null_any w3).mono ?_
    unfold zeroV
    rintro e w4 ⟨rfl, hb⟩
    have Q4 := Lib.hid (Q3.out.below hb Q3.out.lt)
    have B4 := Lib.hid (below_next B3.out hb)
    have q0 := Q4.out.cell 0
    have q1 := Q4.out.cell 1
    have q2 := Q4.out.cell 2
    have q3 := Q4.out.cell 3
    have q4 := Q4.out.cell 4
    have f0 := Q4.out.frozen 0
    have f1 := Q4.out.frozen 1
    have f2 := Q4.out.frozen 2
    have f3 := Q4.out.frozen 3
    have f4 := Q4.out.frozen 4
    clear hb
    go_wp2
    obtain ⟨wf, hwf⟩ : ∃ wf, wf = ((((w4.setCell ⟨w.heap.size + 1, 0, none⟩ (.int .i64 0)).setCell ⟨w.heap.size + 1, 1, none⟩ (.int .i64 0)).setCell ⟨w.heap.size + 1, 2, none⟩ (.string ⟨#[]⟩)).setCell ⟨w.heap.size + 1, 3, none⟩ (.slice none 0 0)).setCell ⟨w.heap.size + 1, 4, none⟩ (.slice none 0 0) := ⟨_, rfl⟩
    have QF : Hid (Bk wf (w.heap.size + 1) 26 #[.int .i64 0, .int .i64 0, .string ⟨#[]⟩, .slice none 0 0, .slice none 0 0]) := Lib.hid (by rw [hwf]; exact ((((Q4.out.put 0 _).put 1 _).put 2 _).put 3 _).put 4 _)
    have BF : Hid (Below w.heap.size w wf) := Lib.hid (by
      rw [hwf]
      exact ((((B4.out.setCell (p := ⟨w.heap.size + 1, 0, none⟩) (by show w.heap.size ≤ w.heap.size + 1; omega) _).setCell (p := ⟨w.heap.size + 1, 1, none⟩) (by show w.heap.size ≤ w.heap.size + 1; omega) _).setCell (p := ⟨w.heap.size + 1, 2, none⟩) (by show w.heap.size ≤ w.heap.size + 1; omega) _).setCell (p := ⟨w.heap.size + 1, 3, none⟩) (by show w.heap.size ≤ w.heap.size + 1; omega) _).setCell (p := ⟨w.heap.size + 1, 4, none⟩) (by show w.heap.size ≤ w.heap.size + 1; omega) _)
    rw [← hwf]
    refine bodyPost_ret (results_row2 rfl _ _ (w.heap.size + 1) 26 _ (0, 0) _ rfl QF.out Try.underlying26 rfl (by kernel_rfl)) rfl ?_
    rw [L.out.1, L.out.2]
    exact ⟨_, rfl, zero_ownd _ _, BF.out⟩
end Go.Proofs.Ytjbjoalinfhahaa
