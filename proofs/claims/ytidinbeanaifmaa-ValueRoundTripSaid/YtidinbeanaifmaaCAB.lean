/-
  Contracts of the code's and of the reference's functions, part AB, and what they lean on.
-/
import Derived.Test.YtidinbeanaifmaaCAA
import Derived.WalkSpells
import Derived.Deep.RegionHeld3
import Derived.Outline
import Derived.Laws.ResultCell
import Derived.Deep.AppendLies
import Derived.Deep.RegionLaw
namespace Go.Proofs.Ytidinbeanaifmaa
open Go.RowKit

/-- cells that read as values, five a value -/
def LiesC (w : World) (R : Nat → Prop) : List VT → List Value → Prop
  | [], cs => cs = []
  | x :: r, cs => ∃ a b s y z rest, cs = a :: b :: s :: y :: z :: rest ∧ Lies w R x (.agg #[a, b, s, y, z]) ∧ LiesC w R r rest
section
variable {w w' : World} {R R' : Nat → Prop}
theorem LiesC.len : ∀ {l : List VT} {cs : List Value}, LiesC w R l cs → cs.length = l.length * 5
  | [], cs, h => by
    have h : cs = [] := h
    rw [h]; rfl
  | x :: r, cs, h => by
    obtain ⟨a, b, s, y, z, rest, rfl, _, hr⟩ := h
    have := LiesC.len hr
    simp only [List.length_cons]
    omega
theorem LiesC.keep (hk : ∀ p : Addr, R p.block → w'.cell? p = w.cell? p) (hR : ∀ b, R b → R' b) : ∀ {l : List VT} {cs : List Value}, LiesC w R l cs → LiesC w' R' l cs
  | [], _, h => h
  | x :: r, cs, h => by
    obtain ⟨a, b, s, y, z, rest, rfl, hx, hr⟩ := h
    exact ⟨a, b, s, y, z, rest, rfl, hx.keep hk hR, hr.keep hk hR⟩
theorem LiesC.below {l : List VT} {cs : List Value} (h : LiesC w (Lo w) l cs) (hb : Below w.heap.size w w') : LiesC w' (Lo w') l cs :=
  h.keep (fun _ hp => hb.cell hp) (fun b (h : b < _) => show b < _ from Nat.lt_of_lt_of_le h hb.size)
theorem Lies.one {x : VT} {a b s y z : Value} (h : Lies w R x (.agg #[a, b, s, y, z])) : a.oneCell' = true ∧ b.oneCell' = true ∧ s.oneCell' = true ∧ y.oneCell' = true ∧ z.oneCell' = true := by
  obtain ⟨k, i, t, its, ks⟩ := x
  obtain ⟨A, c, A', c', e, _⟩ := h.open
  unfold vag at e
  simp only [Value.agg.injEq, Array.mk.injEq, List.cons.injEq, and_true] at e
  obtain ⟨rfl, rfl, rfl, rfl, rfl⟩ := e
  exact ⟨rfl, rfl, rfl, rfl, rfl⟩
theorem LiesC.one : ∀ {l : List VT} {cs : List Value}, LiesC w R l cs → ∀ u ∈ cs, u.oneCell' = true
  | [], cs, h, u, hu => by
    have h : cs = [] := h
    subst h
    cases hu
  | x :: r, cs, h, u, hu => by
    obtain ⟨a, b, s, y, z, rest, rfl, hx, hr⟩ := h
    obtain ⟨h1, h2, h3, h4, h5⟩ := hx.one
    simp only [List.mem_cons] at hu
    rcases hu with rfl | rfl | rfl | rfl | rfl | hu
    · exact h1
    · exact h2
    · exact h3
    · exact h4
    · exact h5
    · exact LiesC.one hr u hu
/-- a row's cells, as a list -/
theorem LiesL.cells {A : Option Addr} : ∀ {l : List VT} {m : Nat}, LiesL w R A m l → ∃ cs, LiesC w R l cs ∧ ∀ j u, cs[j]? = some u → ∃ g o, A = some ⟨g, o, none⟩ ∧ R g ∧ w.cell? ⟨g, o + (m * 5 + j), none⟩ = some u
  | [], m, _ => ⟨[], rfl, fun j u h => by simp at h⟩
  | x :: r, m, h => by
    obtain ⟨⟨g, o, a, b, s, y, z, hA, hg, h0, h1, h2, h3, h4, hx⟩, hr⟩ := h.cons
    obtain ⟨cs, hc, hcs⟩ := LiesL.cells hr
    refine ⟨a :: b :: s :: y :: z :: cs, ⟨a, b, s, y, z, cs, rfl, hx, hc⟩, fun j u hj => ?_⟩
    match j with
    | 0 => simp at hj; subst hj; exact ⟨g, o, hA, hg, by rw [← h0]; rfl⟩
    | 1 => simp at hj; subst hj; exact ⟨g, o, hA, hg, by rw [← h1]; rfl⟩
    | 2 => simp at hj; subst hj; exact ⟨g, o, hA, hg, by rw [← h2]; rfl⟩
    | 3 => simp at hj; subst hj; exact ⟨g, o, hA, hg, by rw [← h3]; rfl⟩
    | 4 => simp at hj; subst hj; exact ⟨g, o, hA, hg, by rw [← h4]; rfl⟩
    | j + 5 =>
      obtain ⟨g', o', e, hg', hc'⟩ := hcs j u (by simpa using hj)
      refine ⟨g', o', e, hg', ?_⟩
      rw [← hc']
      congr 2
      omega
/-- cells in a row read as the values -/
theorem LiesC.row {g o : Nat} (hg : R g) : ∀ {l : List VT} {cs : List Value} {m : Nat}, LiesC w R l cs → (∀ j u, cs[j]? = some u → w.cell? ⟨g, o + (m * 5 + j), none⟩ = some u) → LiesL w R (some ⟨g, o, none⟩) m l
  | [], _, m, _, _ => LiesL.none_
  | x :: r, cs, m, h, hc => by
    obtain ⟨a, b, s, y, z, rest, rfl, hx, hr⟩ := h
    rw [LiesL]
    refine ⟨⟨g, o, a, b, s, y, z, rfl, hg, hc 0 a rfl, hc 1 b rfl, hc 2 s rfl, hc 3 y rfl, hc 4 z rfl, hx⟩, LiesC.row hg hr (fun j u hj => ?_)⟩
    rw [← hc (j + 5) u (by simpa using hj)]
    congr 2
    omega
theorem LiesC.append : ∀ {l l' : List VT} {cs cs' : List Value}, LiesC w R l cs → LiesC w R l' cs' → LiesC w R (l ++ l') (cs ++ cs')
  | [], l', cs, cs', h, h' => by
    have h : cs = [] := h
    subst h
    exact h'
  | x :: r, l', cs, cs', h, h' => by
    obtain ⟨a, b, s, y, z, rest, rfl, hx, hr⟩ := h
    exact ⟨a, b, s, y, z, rest ++ cs', rfl, hx, LiesC.append hr h'⟩
/-- an owned row of values -/
theorem LiesC.own {base c : Nat} {A : Option Addr} {l : List VT} {cs : List Value} (h : LiesC w (Lo w) l cs) (ho : w.ownsRow base 26 5 (.slice A l.length c) l.length cs) : LiesL w (Lo w) A 0 l := by
  rcases ho.2 with ⟨_, h0⟩ | ⟨g, cap, cur, hv, _, hg, _⟩
  · rw [List.eq_nil_of_length_eq_zero h0]; exact LiesL.none_
  · have hA : A = some ⟨g, 0, none⟩ := by injection hv
    subst hA
    refine LiesC.row (R := Lo w) (show g < w.heap.size from (Array.getElem?_eq_some_iff.1 hg).1) h (fun j u hj => ?_)
    have := ho.cells (g := g) rfl j u hj
    simpa [Addr.add_lit] using this
theorem strs_own {base c : Nat} {A : Option Addr} {l : List ByteArray} (hs : ∀ s ∈ l, s.size ≤ 9223372036854775807) (ho : w.ownsRow base 9 1 (.slice A l.length c) l.length (l.map Value.string)) : LiesS w (Lo w) A l := by
  intro j s hj
  refine ⟨hs s (List.mem_of_getElem? hj), ?_⟩
  rcases ho.2 with ⟨_, h0⟩ | ⟨g, cap, cur, hv, _, hg, _⟩
  · rw [List.eq_nil_of_length_eq_zero h0] at hj; simp at hj
  · have hA : A = some ⟨g, 0, none⟩ := by injection hv
    subst hA
    refine ⟨g, 0, rfl, (Array.getElem?_eq_some_iff.1 hg).1, ?_⟩
    have := ho.cells (g := g) rfl j (.string s) (by rw [List.getElem?_map, hj]; rfl)
    simpa [Addr.add_lit] using this
theorem LiesS.sizes {A : Option Addr} {l : List ByteArray} (h : LiesS w R A l) : ∀ s ∈ l, s.size ≤ 9223372036854775807 := fun s hs => by
  obtain ⟨j, hj, e⟩ := List.mem_iff_getElem.1 hs
  exact (h j s (by rw [List.getElem?_eq_getElem hj, e])).1
end
theorem own_empty5 (w : World) (t : TypeId) (size : Nat) : (w.alloc (.cells #[] t)).ownsRow w.heap.size t size (.slice (some ⟨w.heap.size, 0, none⟩) 0 0) 0 [] :=
  ⟨by simp, Or.inr ⟨w.heap.size, 0, #[], rfl, Nat.le_refl _, heap_alloc_new w _, Nat.le_refl _, by unfold maxLen; omega, by simp, by simp⟩⟩

theorem Try.infoS : (Try.prog.info? 9).map (fun i => (i.zero, i.size, i.bytes)) = some (some (.string ByteArray.empty), 1, 16) := by kernel_rfl
theorem Try.infoV : (Try.prog.info? 26).map (fun i => (i.zero, i.size, i.bytes)) = some (some (.agg #[.int .i64 0, .int .i64 0, .string ByteArray.empty, .slice none 0 0, .slice none 0 0]), 5, 80) := by kernel_rfl

set_option maxRecDepth 100000 in
set_option maxHeartbeats 1000000 in
theorem cloneS_any (A : Option Addr) (c : Nat) (ks : List ByteArray) (w : World) (hS : LiesS w (Lo w) A ks) (hn : ks.length * 16 ≤ 140737488355328) :
    Calls Try.prog 65 #[.slice A ks.length c] w fun e w' => ∃ v, e = .returned v ∧ w'.ownsRow w.heap.size 9 1 v ks.length (ks.map Value.string) ∧ Below w.heap.size w w' := by
  obtain ⟨i, hi, hz, hs, hb⟩ := info_parts Try.infoS
  have HS := Lib.hid hS
  have HB := Lib.hid hn
  clear hS hn
  cases A with
  | none =>
    have hk : ks = [] := by
      cases ks with
      | nil => rfl
      | cons s r => obtain ⟨_, g, o, e, _⟩ := HS.out 0 s rfl; cases e
    subst hk
    have heq := fun (a : Option Addr) (n c : Nat) (w : World) => Lib.run_eql_slice_nil (P := Try.prog) w 22 _ a n c 0 0 Try.underlying22
    go_enter Try.func65, Try.ntmps65
    go_wp2
    go_ret
    exact ⟨_, rfl, ⟨rfl, Or.inl ⟨rfl, rfl⟩⟩, Below.refl _ _⟩
  | some ad =>
    have hnews : ∀ (j : Nat) (u : Value), (ks.map Value.string)[j]? = some u → (w.alloc (.cells #[] 9)).cell? (ad.add j) = some u := fun j u hj => by
      rw [List.getElem?_map] at hj
      cases hk : ks[j]? with
      | none => rw [hk] at hj; cases hj
      | some s =>
        rw [hk] at hj
        simp at hj
        subst hj
        obtain ⟨_, g, o, e, hg, hc⟩ := HS.out j s hk
        injection e with e
        subst e
        rw [Addr.add_lit, World.cell?_alloc_lt w _ _ (show g < w.heap.size from hg)]
        exact hc
    have HN := Lib.hid hnews
    clear hnews
    have heq := fun (a : Option Addr) (n c : Nat) (w : World) => Lib.run_eql_slice_nil (P := Try.prog) w 22 _ a n c 0 0 Try.underlying22
    go_enter Try.func65, Try.ntmps65
    go_wp2_with (at_builtin; refine wpList_append_own _ rfl _ _ 22 rfl w.heap.size 9 i (.string ByteArray.empty) 1 16 Try.underlying22 hi hz hs hb rfl (by decide) _ 0 [] rfl (own_empty5 w 9 1) ad ks.length c (ks.map Value.string) rfl ?_ ?_ ?_ ?_ ?_ ?_ ?_)
    · simp
    · exact HN.out
    · intro u hu; obtain ⟨s, _, rfl⟩ := List.mem_map.1 hu; rfl
    · have := HB.out; unfold maxLen; omega
    · have := HB.out; omega
    · simp
    · intro v w' hown hg _
      have h1 : w'.ownsRow w.heap.size 9 1 v ks.length (ks.map Value.string) := by simpa using hown
      have h2 : Below w.heap.size w w' := (below_one w _).grown hg (by simp) (fun k hk => by simp [Value.ownBlock] at hk; omega)
      have H1 := Lib.hid h1
      have H2 := Lib.hid h2
      clear hown hg h1 h2
      go_wp2
      go_ret
      exact ⟨v, rfl, H1.out, H2.out⟩

set_option maxRecDepth 100000 in
set_option maxHeartbeats 1000000 in
theorem cloneV_any (R : Nat → Prop) (A : Option Addr) (c : Nat) (its : List VT) (w : World) (hR : ∀ b, R b → b < w.heap.size) (hL : LiesL w R A 0 its) (hn : its.length * 80 ≤ 140737488355328) :
    Calls Try.prog 66 #[.slice A its.length c] w fun e w' => ∃ v cs, e = .returned v ∧ LiesC w R its cs ∧ w'.ownsRow w.heap.size 26 5 v its.length cs ∧ Below w.heap.size w w' := by
  obtain ⟨i, hi, hz, hs, hb⟩ := info_parts Try.infoV
  have HL := Lib.hid hL
  obtain ⟨cs, hC, hcs⟩ := hL.cells
  have HC := Lib.hid hC
  have HB := Lib.hid hn
  have hcl := hC.len
  have ho := hC.one
  clear hL hC hn
  cases A with
  | none =>
    have hk : its = [] := by
      cases its with
      | nil => rfl
      | cons x r => obtain ⟨⟨g, o, _, _, _, _, _, e, _⟩, _⟩ := HL.out.cons; cases e
    subst hk
    obtain rfl : cs = [] := List.eq_nil_of_length_eq_zero (by simpa using hcl)
    have heq := fun (a : Option Addr) (n c : Nat) (w : World) => Lib.run_eql_slice_nil (P := Try.prog) w 23 _ a n c 0 0 Try.underlying23
    go_enter Try.func66, Try.ntmps66
    go_wp2
    go_ret
    exact ⟨_, [], rfl, HC.out, ⟨rfl, Or.inl ⟨rfl, rfl⟩⟩, Below.refl _ _⟩
  | some ad =>
    have hnews : ∀ (j : Nat) (u : Value), cs[j]? = some u → (w.alloc (.cells #[] 26)).cell? (ad.add j) = some u := fun j u hj => by
      obtain ⟨g, o, e, hg, hc⟩ := hcs j u hj
      injection e with e
      subst e
      rw [Addr.add_lit, World.cell?_alloc_lt w _ _ (show g < w.heap.size from hR _ hg), ← hc]
      congr 2
      omega
    have HN := Lib.hid hnews
    have HO := Lib.hid ho
    have HCL := Lib.hid hcl
    clear hnews ho hcs hcl
    have heq := fun (a : Option Addr) (n c : Nat) (w : World) => Lib.run_eql_slice_nil (P := Try.prog) w 23 _ a n c 0 0 Try.underlying23
    go_enter Try.func66, Try.ntmps66
    go_wp2_with (at_builtin; refine wpList_append_own _ rfl _ _ 23 rfl w.heap.size 26 i (.agg #[.int .i64 0, .int .i64 0, .string ByteArray.empty, .slice none 0 0, .slice none 0 0]) 5 80 Try.underlying23 hi hz hs hb rfl (by decide) _ 0 [] rfl (own_empty5 w 26 5) ad its.length c cs rfl ?_ ?_ ?_ ?_ ?_ ?_ ?_)
    · exact HCL.out
    · exact HN.out
    · exact HO.out
    · have := HB.out; unfold maxLen; omega
    · have := HB.out; omega
    · simp
    · intro v w' hown hg _
      have h1 : w'.ownsRow w.heap.size 26 5 v its.length cs := by simpa using hown
      have h2 : Below w.heap.size w w' := (below_one w _).grown hg (by simp) (fun k hk => by simp [Value.ownBlock] at hk; omega)
      have H1 := Lib.hid h1
      have H2 := Lib.hid h2
      clear hown hg h1 h2
      go_wp2
      go_ret
      exact ⟨v, cs, rfl, HC.out, H1.out, H2.out⟩
end Go.Proofs.Ytidinbeanaifmaa
namespace Go.Proofs.Ytidinbeanaifmaa
open Go.RowKit

mutual
/-- the value reads as the tree, and all its rows are whole blocks from lo on, not frozen -/
def Ownd (w : World) (lo : Nat) : VT → Value → Prop
  | .mk k i t its ks, v => ∃ A c A' c' cs, v = vag k i t A its.length c A' ks.length c' ∧ (-9223372036854775808 ≤ k ∧ k ≤ 9223372036854775807) ∧ (-9223372036854775808 ≤ i ∧ i ≤ 9223372036854775807) ∧ t.size ≤ 9223372036854775807 ∧
      w.ownsRow lo 26 5 (.slice A its.length c) its.length cs ∧ OwnC w lo its cs ∧ w.ownsRow lo 9 1 (.slice A' ks.length c') ks.length (ks.map Value.string) ∧ (∀ s ∈ ks, s.size ≤ 9223372036854775807)
def OwnC (w : World) (lo : Nat) : List VT → List Value → Prop
  | [], cs => cs = []
  | x :: r, cs => ∃ a b s y z rest, cs = a :: b :: s :: y :: z :: rest ∧ Ownd w lo x (.agg #[a, b, s, y, z]) ∧ OwnC w lo r rest
end
/-- from lo on the blocks of w are as they were -/
def SameFrom (lo : Nat) (w w' : World) : Prop := ∀ b, lo ≤ b → b < w.heap.size → w'.heap[b]? = w.heap[b]?
theorem own_same {w w' : World} {lo : Nat} {e : TypeId} {size n : Nat} {v : Value} {xs : List Value} (h : w.ownsRow lo e size v n xs) (hs : SameFrom lo w w') : w'.ownsRow lo e size v n xs := by
  refine ⟨h.1, ?_⟩
  rcases h.2 with hn | ⟨g, cap, cur, rfl, hb, hg, rest⟩
  · exact Or.inl hn
  · exact Or.inr ⟨g, cap, cur, rfl, hb, (hs g hb (Array.getElem?_eq_some_iff.1 hg).1).trans hg, rest⟩
theorem own_mono {w : World} {lo lo' : Nat} {e : TypeId} {size n : Nat} {v : Value} {xs : List Value} (h : w.ownsRow lo e size v n xs) (hl : lo' ≤ lo) : w.ownsRow lo' e size v n xs := by
  refine ⟨h.1, ?_⟩
  rcases h.2 with hn | ⟨g, cap, cur, hv, hb, rest⟩
  · exact Or.inl hn
  · exact Or.inr ⟨g, cap, cur, hv, Nat.le_trans hl hb, rest⟩
theorem own_bounds {w : World} {lo : Nat} {e : TypeId} {size n m c : Nat} {A : Option Addr} {xs : List Value} (h : w.ownsRow lo e size (.slice A n c) m xs) : n ≤ c ∧ c ≤ 9223372036854775807 := by
  rcases h.2 with ⟨hv, _⟩ | ⟨g, cap, cur, hv, _, _, h1, h2, _⟩
  · injection hv with _ h1 h2; subst h1 h2; omega
  · injection hv with _ e1 e2; subst e1 e2; unfold maxLen at h2; exact ⟨h1, h2⟩
theorem own_formN {w : World} {base : Nat} {e : TypeId} {v : Value} {n size : Nat} {xs : List Value} (h : w.ownsRow base e size v n xs) : ∃ A c, v = .slice A n c ∧ n ≤ c ∧ c ≤ maxLen := by
  rcases h.2 with ⟨rfl, rfl⟩ | ⟨g, cap, cur, rfl, _, _, h1, h2, _⟩
  · exact ⟨none, 0, rfl, Nat.le_refl _, by unfold maxLen; omega⟩
  · exact ⟨_, cap, rfl, h1, h2⟩
mutual
theorem Ownd.keep {w w' : World} {lo : Nat} (hs : SameFrom lo w w') : ∀ {x : VT} {v : Value}, Ownd w lo x v → Ownd w' lo x v
  | .mk k i t its ks, v, h => by
    rw [Ownd] at h ⊢
    obtain ⟨A, c, A', c', cs, e, h1, h2, h3, h4, h5, h6, h7⟩ := h
    exact ⟨A, c, A', c', cs, e, h1, h2, h3, own_same h4 hs, OwnC.keep hs h5, own_same h6 hs, h7⟩
theorem OwnC.keep {w w' : World} {lo : Nat} (hs : SameFrom lo w w') : ∀ {l : List VT} {cs : List Value}, OwnC w lo l cs → OwnC w' lo l cs
  | [], _, h => by rw [OwnC] at h ⊢; exact h
  | x :: r, cs, h => by
    rw [OwnC] at h ⊢
    obtain ⟨a, b, s, y, z, rest, e, hx, hr⟩ := h
    exact ⟨a, b, s, y, z, rest, e, Ownd.keep hs hx, OwnC.keep hs hr⟩
end
mutual
theorem Ownd.mono {w : World} {lo lo' : Nat} (hl : lo' ≤ lo) : ∀ {x : VT} {v : Value}, Ownd w lo x v → Ownd w lo' x v
  | .mk k i t its ks, v, h => by
    rw [Ownd] at h ⊢
    obtain ⟨A, c, A', c', cs, e, h1, h2, h3, h4, h5, h6, h7⟩ := h
    exact ⟨A, c, A', c', cs, e, h1, h2, h3, own_mono h4 hl, OwnC.mono hl h5, own_mono h6 hl, h7⟩
theorem OwnC.mono {w : World} {lo lo' : Nat} (hl : lo' ≤ lo) : ∀ {l : List VT} {cs : List Value}, OwnC w lo l cs → OwnC w lo' l cs
  | [], _, h => by rw [OwnC] at h ⊢; exact h
  | x :: r, cs, h => by
    rw [OwnC] at h ⊢
    obtain ⟨a, b, s, y, z, rest, e, hx, hr⟩ := h
    exact ⟨a, b, s, y, z, rest, e, Ownd.mono hl hx, OwnC.mono hl hr⟩
end
mutual
theorem Ownd.lies {w : World} {lo : Nat} : ∀ {x : VT} {v : Value}, Ownd w lo x v → Lies w (Lo w) x v
  | .mk k i t its ks, v, h => by
    rw [Ownd] at h
    rw [Lies]
    obtain ⟨A, c, A', c', cs, e, h1, h2, h3, h4, h5, h6, h7⟩ := h
    exact ⟨A, c, A', c', e, h1, h2, h3, (own_bounds h4).1, (own_bounds h4).2, (OwnC.lies h5).own h4, (own_bounds h6).1, (own_bounds h6).2, strs_own h7 h6⟩
theorem OwnC.lies {w : World} {lo : Nat} : ∀ {l : List VT} {cs : List Value}, OwnC w lo l cs → LiesC w (Lo w) l cs
  | [], _, h => by rw [OwnC] at h; exact h
  | x :: r, cs, h => by
    rw [OwnC] at h
    obtain ⟨a, b, s, y, z, rest, e, hx, hr⟩ := h
    exact ⟨a, b, s, y, z, rest, e, Ownd.lies hx, OwnC.lies hr⟩
end
theorem OwnC.len {w : World} {lo : Nat} {l : List VT} {cs : List Value} (h : OwnC w lo l cs) : cs.length = l.length * 5 := (OwnC.lies h).len
theorem OwnC.snoc {w : World} {lo : Nat} {x : VT} {a b s y z : Value} (hx : Ownd w lo x (.agg #[a, b, s, y, z])) : ∀ {l : List VT} {cs : List Value}, OwnC w lo l cs → OwnC w lo (l ++ [x]) (cs ++ [a, b, s, y, z])
  | [], cs, h => by
    rw [OwnC] at h
    subst h
    rw [List.nil_append, List.nil_append, OwnC]
    exact ⟨a, b, s, y, z, [], rfl, hx, by rw [OwnC]⟩
  | x' :: r, cs, h => by
    rw [OwnC] at h
    obtain ⟨a', b', s', y', z', rest, rfl, hx', hr⟩ := h
    rw [List.cons_append, OwnC]
    exact ⟨a', b', s', y', z', rest ++ [a, b, s, y, z], rfl, hx', OwnC.snoc hx hr⟩
/-- five cells put in the place of five -/
theorem set5 (a b s y z : Value) : ∀ (l r : List Value) (m : Nat), l.length = m → 5 ≤ r.length →
    (((((l ++ r).set m a).set (m + 1) b).set (m + 2) s).set (m + 3) y).set (m + 4) z = (l ++ [a, b, s, y, z]) ++ r.drop 5
  | [], a' :: b' :: s' :: y' :: z' :: r, m, h, _ => by
    obtain rfl : m = 0 := h.symm
    simp
  | [], [], _, _, h => absurd h (by decide)
  | [], [_], _, _, h => absurd h (by simp)
  | [], [_, _], _, _, h => absurd h (by simp)
  | [], [_, _, _], _, _, h => absurd h (by simp)
  | [], [_, _, _, _], _, _, h => absurd h (by simp)
  | x :: l, r, 0, h, _ => absurd h (by simp)
  | x :: l, r, m + 1, h, hr => by
    have := set5 a b s y z l r m (by simpa using h) hr
    simp only [List.cons_append, List.set_cons_succ, show m + 1 + 1 = (m + 1) + 1 from rfl, show m + 1 + 2 = (m + 2) + 1 from rfl, show m + 1 + 3 = (m + 3) + 1 from rfl, show m + 1 + 4 = (m + 4) + 1 from rfl]
    rw [this]
/-- a row of values with one of them stored anew -/
theorem own_store5 {w : World} {base g n cap m : Nat} {e : TypeId} {l r : List Value} {a b s y z : Value} (h : w.ownsRow base e 5 (.slice (some ⟨g, 0, none⟩) n cap) n (l ++ r)) (hl : l.length = m) (hr : 5 ≤ r.length) :
    (((((w.setCell ⟨g, m, none⟩ a).setCell ⟨g, m + 1, none⟩ b).setCell ⟨g, m + 2, none⟩ s).setCell ⟨g, m + 3, none⟩ y).setCell ⟨g, m + 4, none⟩ z).ownsRow base e 5 (.slice (some ⟨g, 0, none⟩) n cap) n ((l ++ [a, b, s, y, z]) ++ r.drop 5) ∧
    w.grownBy (((((w.setCell ⟨g, m, none⟩ a).setCell ⟨g, m + 1, none⟩ b).setCell ⟨g, m + 2, none⟩ s).setCell ⟨g, m + 3, none⟩ y).setCell ⟨g, m + 4, none⟩ z) (some g) := by
  obtain ⟨h1, g1⟩ := h.stored m a
  obtain ⟨h2, g2⟩ := h1.stored (m + 1) b
  obtain ⟨h3, g3⟩ := h2.stored (m + 2) s
  obtain ⟨h4, g4⟩ := h3.stored (m + 3) y
  obtain ⟨h5, g5⟩ := h4.stored (m + 4) z
  rw [set5 a b s y z l r m hl hr] at h5
  exact ⟨h5, grownBy_trans (grownBy_trans (grownBy_trans (grownBy_trans g1 g2) g3) g4) g5⟩
end Go.Proofs.Ytidinbeanaifmaa
namespace Go.Proofs.Ytidinbeanaifmaa
open Go.RowKit

/-- no row needs more memory than there is -/
def reachF (x : VT) : Bool := decide (x.its.length * 80 ≤ 140737488355328) && decide (x.ks.length * 16 ≤ 140737488355328)
theorem reach_mk {k i : Int} {t : ByteArray} {its : List VT} {ks : List ByteArray} (h : (VT.mk k i t its ks).all reachF = true) : its.length * 80 ≤ 140737488355328 ∧ ks.length * 16 ≤ 140737488355328 ∧ alls reachF its = true := by
  rw [VT.all_mk, Bool.and_eq_true] at h
  obtain ⟨h1, h2⟩ := h
  unfold reachF at h1
  rw [Bool.and_eq_true, decide_eq_true_eq, decide_eq_true_eq] at h1
  exact ⟨h1.1, h1.2, h2⟩
/-- what Copy hands back -/
def Copies (x : VT) (w : World) (e : Ending) (w' : World) : Prop := ∃ v, e = .returned v ∧ Ownd w' w.heap.size x v ∧ Below w.heap.size w w'

theorem grown_of_below {r : Option Nat} {w w' : World} (h : Below w.heap.size w w') : w.grownBy w' r := ⟨h.os, h.tape, h.output, h.size, fun k hk _ => h.block k hk⟩
theorem same_trans {lo : Nat} {a b c : World} (h : SameFrom lo a b) (k : SameFrom lo b c) (hs : a.heap.size ≤ b.heap.size) : SameFrom lo a c := fun i h1 h2 => (k i h1 (by omega)).trans (h i h1 h2)
theorem same_of_below {lo B : Nat} {w w' : World} (h : Below B w w') (hB : w.heap.size ≤ B) : SameFrom lo w w' := fun b _ hb => h.block b (by omega)
theorem same_grown {lo g : Nat} {w w' : World} (h : w.grownBy w' (some g)) (hg : g < lo) : SameFrom lo w w' := fun b h1 h2 => h.block b h2 (by intro e; injection e with e; omega)

theorem Lies.form {w : World} {R : Nat → Prop} {x : VT} {a b s y z : Value} (h : Lies w R x (.agg #[a, b, s, y, z])) : ∃ k i t A n c A' n' c', a = .int .i64 k ∧ b = .int .i64 i ∧ s = .string t ∧ y = .slice A n c ∧ z = .slice A' n' c' := by
  obtain ⟨k, i, t, its, ks⟩ := x
  obtain ⟨A, c, A', c', e, _⟩ := h.open
  unfold vag at e
  simp only [Value.agg.injEq, Array.mk.injEq, List.cons.injEq, and_true] at e
  obtain ⟨rfl, rfl, rfl, rfl, rfl⟩ := e
  exact ⟨_, _, _, _, _, _, _, _, _, rfl, rfl, rfl, rfl, rfl⟩
theorem Ownd.form {w : World} {lo : Nat} {x : VT} {v : Value} (h : Ownd w lo x v) : ∃ k i t A n c A' n' c', v = .agg #[.int .i64 k, .int .i64 i, .string t, .slice A n c, .slice A' n' c'] := by
  obtain ⟨k, i, t, its, ks⟩ := x
  rw [Ownd] at h
  obtain ⟨A, c, A', c', cs, rfl, _⟩ := h
  exact ⟨_, _, _, _, _, _, _, _, _, rfl⟩
theorem own_at {w : World} {lo n c size : Nat} {e : TypeId} {A : Option Addr} {xs : List Value} (h : w.ownsRow lo e size (.slice A n c) n xs) (hn : 0 < n) : ∃ g, A = some ⟨g, 0, none⟩ ∧ lo ≤ g ∧ g < w.heap.size := by
  rcases h.2 with ⟨_, h0⟩ | ⟨g, cap, cur, hv, hb, hg, _⟩
  · omega
  · injection hv with hv
    exact ⟨g, hv, hb, (Array.getElem?_eq_some_iff.1 hg).1⟩
theorem mid_at {new rest : List Value} {a b s y z : Value} {m : Nat} (h : new.length = m) :
    (new ++ a :: b :: s :: y :: z :: rest)[m]? = some a ∧ (new ++ a :: b :: s :: y :: z :: rest)[m + 1]? = some b ∧ (new ++ a :: b :: s :: y :: z :: rest)[m + 2]? = some s ∧
    (new ++ a :: b :: s :: y :: z :: rest)[m + 3]? = some y ∧ (new ++ a :: b :: s :: y :: z :: rest)[m + 4]? = some z := by
  subst h
  refine ⟨?_, ?_, ?_, ?_, ?_⟩ <;> rw [List.getElem?_append_right (by omega)] <;> simp

set_option maxRecDepth 100000 in
set_option maxHeartbeats 4000000 in
theorem copy_all (m : Nat) : ∀ (x : VT) (w : World) (v : Value), x.size ≤ m → x.all reachF = true → Lies w (Lo w) x v → Calls Try.prog 28 #[v] w (Copies x w) := by
  induction m with
  | zero => intro x _ _ h; have := size_pos x; omega
  | succ m ih =>
    intro x w v hsz hre hv
    have IH := Lib.hid ih
    clear ih
    obtain ⟨k, i, t, its, ks⟩ := x
    obtain ⟨A, c, A', c', rfl, hki, hii, htm, hlc, hcm, hL, hkc, hcm', hS⟩ := hv.open
    rw [VT.size_mk] at hsz
    obtain ⟨r1, r2, r3⟩ := reach_mk hre
    have HK0 := Lib.hid (And.intro hki (And.intro hii htm))
    have HRE := Lib.hid r3
    obtain ⟨w2, hw2⟩ : ∃ w2, w2 = (w.alloc (.cells #[.int .i64 k, .int .i64 i, .string t, .slice A its.length c, .slice A' ks.length c'] 26)).alloc (.cells #[.int .i64 0, .int .i64 0, .string ⟨#[]⟩, .slice none 0 0, .slice none 0 0] 26) := ⟨_, rfl⟩
    have B2 : Hid (Below w.heap.size w w2) := Lib.hid (by rw [hw2]; exact (below_one _ _).trans (Below.alloc (Below.refl _ _) (by simp) _))
    have P2 : Hid (Bk w2 w.heap.size 26 #[.int .i64 k, .int .i64 i, .string t, .slice A its.length c, .slice A' ks.length c']) := Lib.hid (by rw [hw2]; exact (Bk.new _ _ _).alloc _)
    have Q2 : Hid (Bk w2 (w.heap.size + 1) 26 #[.int .i64 0, .int .i64 0, .string ⟨#[]⟩, .slice none 0 0, .slice none 0 0]) := Lib.hid (by rw [hw2]; have := Bk.new (w.alloc (.cells #[.int .i64 k, .int .i64 i, .string t, .slice A its.length c, .slice A' ks.length c'] 26)) 26 #[.int .i64 0, .int .i64 0, .string ⟨#[]⟩, .slice none 0 0, .slice none 0 0]; simpa using this)
    have HL := Lib.hid hL
    have K2 := Lib.hid (cloneS_any A' c' ks w2 (hS.below B2.out) r2)
    have R1 := Lib.hid r1
    have SS0 := Lib.hid hS.sizes
    have HW := Lib.hid hw2
    clear hw2 hv hL hS hre r1 r2 r3 hki hii htm
    unfold vag
    go_enter Try.func28, Try.ntmps28
    go_wp2_with fail
    rw [← HW.out]
    refine (K2.out).mono ?_
    rintro e w3 ⟨vk, rfl, hok, hb⟩
    obtain ⟨Ak, ck, rfl, _, _⟩ := own_form hok
    have p3 := P2.out.below hb P2.out.lt
    have q3 := Q2.out.below hb Q2.out.lt
    have hlt : w.heap.size + 1 < w2.heap.size := Q2.out.lt
    have f3 := p3.frozen 4
    have B3 := Lib.hid (below_next B2.out hb)
    have S3 : Hid (w2.heap.size ≤ w3.heap.size) := Lib.hid hb.size
    have OK3 := Lib.hid hok
    have PP := Lib.hid p3
    have QQ := Lib.hid q3
    have HLT := Lib.hid hlt
    have d4 := p3.cell 4
    have d3 := p3.cell 3
    clear hb hok p3 q3 hlt
    have B4 : Hid (Below w.heap.size w (w3.setCell ⟨w.heap.size, 4, none⟩ (.slice Ak ks.length ck))) := Lib.hid (B3.out.setCell (p := ⟨w.heap.size, 4, none⟩) (Nat.le_refl _) _)
    have K4 := Lib.hid (cloneV_any (fun b => b < w.heap.size) A c its _ (fun b hb => Nat.lt_of_lt_of_le hb B4.out.size) (HL.out.keep (fun q hq => B4.out.cell hq) (fun _ h => h)) R1.out)
    go_wp2_with fail
    obtain ⟨w4, hw4⟩ : ∃ w4, w4 = w3.setCell ⟨w.heap.size, 4, none⟩ (.slice Ak ks.length ck) := ⟨_, rfl⟩
    have P4 : Hid (Bk w4 w.heap.size 26 #[.int .i64 k, .int .i64 i, .string t, .slice A its.length c, .slice Ak ks.length ck]) := Lib.hid (by rw [hw4]; exact PP.out.put 4 _)
    have Q4 : Hid (Bk w4 (w.heap.size + 1) 26 #[.int .i64 0, .int .i64 0, .string ⟨#[]⟩, .slice none 0 0, .slice none 0 0]) := Lib.hid (by rw [hw4]; exact QQ.out.far (by show w.heap.size + 1 ≠ w.heap.size; omega) _)
    have Z4 : Hid (w3.heap.size = w4.heap.size) := Lib.hid (by rw [hw4]; simp [World.setCell])
    have OK4 : Hid (w4.ownsRow w2.heap.size 9 1 (.slice Ak ks.length ck) ks.length (ks.map Value.string)) := Lib.hid (by
      rw [hw4]; exact own_same OK3.out (fun b h1 _ => Below.heap_setCell _ _ _ _ (by have := HLT.out; show b ≠ w.heap.size; omega)))
    have OKB : Hid (∀ g, (Value.slice Ak ks.length ck).ownBlock = some g → g < w4.heap.size) := Lib.hid (fun g hg => (OK4.out.lt g hg).2)
    rw [← hw4] at K4 B4 ⊢
    have HW4 := Lib.hid hw4
    clear hw4 K2 d3 d4 f3
    refine (K4.out).mono ?_
    rintro e w5 ⟨vi, cs, rfl, hcs, hoi, hb⟩
    obtain ⟨Ai, ci, rfl, hnc, _⟩ := own_formN hoi
    have P5 := Lib.hid (P4.out.below hb P4.out.lt)
    have Q5 := Lib.hid (Q4.out.below hb Q4.out.lt)
    have OK5 := Lib.hid (own_same (lo := w2.heap.size) OK4.out (same_of_below hb (Nat.le_refl _)))
    have OI5 := Lib.hid hoi
    have B5 := Lib.hid (below_next B4.out hb)
    have CS := Lib.hid (hcs.keep (w' := w) (fun q hq => (B4.out.cell hq).symm) (fun _ h => h))
    have Z5 : Hid (w4.heap.size ≤ w5.heap.size) := Lib.hid hb.size
    have e3 := P5.out.cell 3
    have f3 := P5.out.frozen 3
    clear hb hcs hoi
    go_wp2_with fail
    obtain ⟨w6, hw6⟩ : ∃ w6, w6 = w5.setCell ⟨w.heap.size, 3, none⟩ (.slice Ai its.length ci) := ⟨_, rfl⟩
    have P6 : Hid (Bk w6 w.heap.size 26 #[.int .i64 k, .int .i64 i, .string t, .slice Ai its.length ci, .slice Ak ks.length ck]) := Lib.hid (by rw [hw6]; exact P5.out.put 3 _)
    have Q6 : Hid (Bk w6 (w.heap.size + 1) 26 #[.int .i64 0, .int .i64 0, .string ⟨#[]⟩, .slice none 0 0, .slice none 0 0]) := Lib.hid (by rw [hw6]; exact Q5.out.far (by show w.heap.size + 1 ≠ w.heap.size; omega) _)
    have Z6 : Hid (w6.heap.size = w5.heap.size) := Lib.hid (by rw [hw6]; simp [World.setCell])
    have OK6 : Hid (w6.ownsRow w2.heap.size 9 1 (.slice Ak ks.length ck) ks.length (ks.map Value.string)) := Lib.hid (by
      rw [hw6]; exact own_same OK5.out (fun b h1 _ => Below.heap_setCell _ _ _ _ (by have := HLT.out; show b ≠ w.heap.size; omega)))
    have OI6 : Hid (w6.ownsRow w4.heap.size 26 5 (.slice Ai its.length ci) its.length cs) := Lib.hid (by
      rw [hw6]; exact own_same OI5.out (fun b h1 _ => Below.heap_setCell _ _ _ _ (by have := HLT.out; have := S3.out; have := Z4.out; show b ≠ w.heap.size; omega)))
    have B6 : Hid (Below w.heap.size w w6) := Lib.hid (by rw [hw6]; exact B5.out.setCell (p := ⟨w.heap.size, 3, none⟩) (Nat.le_refl _) _)
    have g3 := P6.out.cell 3
    rw [← hw6]
    have HW6 := Lib.hid hw6
    have HLT6 : Hid (w.heap.size + 1 < w4.heap.size) := Lib.hid (by have := HLT.out; have := S3.out; have := Z4.out; omega)
    clear hw6 e3 f3 K4 R1 PP QQ OK3 P4 Q4 OK4 P5 Q5 OK5 OI5
    go_wp2_with fail
    go_loopw [16, 3, 4] (fun s _ _ wr => ∃ (j : Nat) (new old : List Value), j ≤ its.length ∧ s = .int .i64 j ∧ Hid (wr.ownsRow w4.heap.size 26 5 (.slice Ai its.length ci) its.length (new ++ old)) ∧
      Hid (OwnC wr w6.heap.size (its.take j) new) ∧ Hid (LiesC w (fun b => b < w.heap.size) (its.drop j) old) ∧ Hid (w6.grownBy wr (Value.slice Ai its.length ci).ownBlock)) (fun s _ _ _ => its.length - (intOf s).toNat)
    case atStart => exact ⟨0, [], cs, by omega, rfl, OI6, Lib.hid (by rw [List.take_zero, OwnC]), CS, Lib.hid (World.grownBy.refl _ _)⟩
    case round =>
      obtain ⟨j, new, old, hjn, rfl, HO, HN, HD, HG⟩ := hrel
      have HLO := Lib.hid (HO.out.lt)
      have pz : w.heap.size < w6.heap.size := P6.out.lt
      have BR : Hid (Below w4.heap.size w6 wr) := Lib.hid ((Below.refl _ _).grown HG.out (by have := Z6.out; have := Z5.out; omega) (fun k hk => (HLO.out k hk).1))
      have PR := Lib.hid (P6.out.below BR.out (by have := HLT6.out; omega))
      have g3' := PR.out.cell 3
      by_cases hlt : j < its.length
      · have h1 := List.getElem?_eq_getElem (l := its) (i := j) hlt
        have hre := all_at HRE.out h1
        have hle := size_at h1
        have hdr := HD.out
        have htk : its.take (j + 1) = its.take j ++ [its[j]'hlt] := by rw [List.take_add_one, h1]; rfl
        rw [List.drop_eq_getElem_cons hlt] at hdr
        generalize its[j]'hlt = x at *
        obtain ⟨a, b, s, y, z, rest, rfl, hx, hr⟩ := hdr
        obtain ⟨k', i', t', E, n1, c1, E', n2, c2, rfl, rfl, rfl, rfl, rfl⟩ := hx.form
        obtain ⟨g, rfl, hg1, hg2⟩ := own_at HO.out (by omega)
        have hnl : new.length = j * 5 := by rw [HN.out.len, List.length_take]; congr 1; omega
        obtain ⟨m0, m1, m2, m3, m4⟩ := mid_at (rest := rest) (a := .int .i64 k') (b := .int .i64 i') (s := .string t') (y := .slice E n1 c1) (z := .slice E' n2 c2) hnl
        have e0 := (HO.out.cellAt (j * 5) (by omega)).trans m0
        have e1 := (HO.out.cellAt (j * 5 + 1) (by omega)).trans m1
        have e2 := (HO.out.cellAt (j * 5 + 2) (by omega)).trans m2
        have e3 := (HO.out.cellAt (j * 5 + 3) (by omega)).trans m3
        have e4 := (HO.out.cellAt (j * 5 + 4) (by omega)).trans m4
        have HX := Lib.hid hx
        have HRR := Lib.hid hr
        have HTK := Lib.hid htk
        have HNL := Lib.hid hnl
        have HRX := Lib.hid hre
        clear m0 m1 m2 m3 m4 hx hr htk hnl hre h1
        go_wp2_with fail
        obtain ⟨wa, hwa⟩ : ∃ wa, wa = wr.alloc (.cells #[.int .i64 k', .int .i64 i', .string t', .slice E n1 c1, .slice E' n2 c2] 26) := ⟨_, rfl⟩
        have BA : Hid (Below w.heap.size w wa) := Lib.hid (by rw [hwa]; exact ((B6.out.trans (BR.out.mono (by have := HLT6.out; omega))).alloc (by have := (B6.out.trans (BR.out.mono (by have := HLT6.out; omega))).size; omega) _))
        have qa := hwa ▸ (Bk.new wr 26 #[.int .i64 k', .int .i64 i', .string t', .slice E n1 c1, .slice E' n2 c2])
        have pa := hwa ▸ (PR.out.alloc (.cells #[.int .i64 k', .int .i64 i', .string t', .slice E n1 c1, .slice E' n2 c2] 26))
        rw [← hwa]
        have HWA := Lib.hid hwa
        have u0 := qa.cell 0
        have u1 := qa.cell 1
        have u2 := qa.cell 2
        have u3 := qa.cell 3
        have u4 := qa.cell 4
        have v3 := pa.cell 3
        change _ = some (Value.int .i64 k') at u0
        change _ = some (Value.int .i64 i') at u1
        change _ = some (Value.string t') at u2
        change _ = some (Value.slice E n1 c1) at u3
        change _ = some (Value.slice E' n2 c2) at u4
        change _ = some (Value.slice (some ⟨g, 0, none⟩) its.length ci) at v3
        have QA := Lib.hid qa.lt
        have BWA : Hid (Below wr.heap.size wr wa) := Lib.hid (by rw [hwa]; exact below_one _ _)
        have MID := Lib.hid (mid_at (rest := rest) (a := .int .i64 k') (b := .int .i64 i') (s := .string t') (y := .slice E n1 c1) (z := .slice E' n2 c2) HNL.out)
        have HJN := Lib.hid hlt
        have PA := Lib.hid pa.lt
        have ne1 : g ≠ w.heap.size := by have := HLT6.out; omega
        have ne2 : g ≠ wr.heap.size := by omega
        have kA := And.intro v3 (And.intro u0 (And.intro u1 (And.intro u2 (And.intro u3 u4))))
        have HCW : Hid (∀ W, Below w.heap.size w W → Calls Try.prog 28 #[.agg #[.int .i64 k', .int .i64 i', .string t', .slice E n1 c1, .slice E' n2 c2]] W (Copies x W)) := Lib.hid (fun W hb => IH.out x W _ (by omega) HRX.out (HX.out.keep (fun q hq => hb.cell hq) (fun b hq => Nat.lt_of_lt_of_le hq hb.size)))
        clear hwa qa pa g3' e0 e1 e2 e3 e4
        go_region_held3 (fun w' => w'.cell? ⟨w.heap.size, 3, none⟩ = some (.slice (some ⟨g, 0, none⟩) its.length ci) ∧ w'.cell? ⟨wr.heap.size, 0, none⟩ = some (.int .i64 k') ∧ w'.cell? ⟨wr.heap.size, 1, none⟩ = some (.int .i64 i') ∧
            w'.cell? ⟨wr.heap.size, 2, none⟩ = some (.string t') ∧ w'.cell? ⟨wr.heap.size, 3, none⟩ = some (.slice E n1 c1) ∧ w'.cell? ⟨wr.heap.size, 4, none⟩ = some (.slice E' n2 c2))
          (first
            | go_keep
            | exact kA
            | exact kB)
          (first
            | (go_at_call 28; refine (HCW.out _ (by first | exact BA.out | exact BA.out.drew)).mono ?_; rintro _ wB ⟨vx, rfl, hox, hbx⟩; obtain ⟨k2, i2, t2, D, n3, c3, D', n4, c4, rfl⟩ := hox.form; have HOX := Lib.hid hox; clear hox; have hB2 : Below wr.heap.size wr wB := BWA.out.trans (Below.mono ⟨hbx.os, hbx.tape, hbx.output, hbx.size, hbx.block⟩ (Nat.le_of_lt QA.out)); have HOB := Lib.hid (own_same (lo := w4.heap.size) HO.out (same_of_below hB2 (Nat.le_refl _))); have e0 := (HOB.out.cellAt (j * 5) (by have := HJN.out; omega)).trans MID.out.1; have e1 := (HOB.out.cellAt (j * 5 + 1) (by have := HJN.out; omega)).trans MID.out.2.1; have e2 := (HOB.out.cellAt (j * 5 + 2) (by have := HJN.out; omega)).trans MID.out.2.2.1; have e3 := (HOB.out.cellAt (j * 5 + 3) (by have := HJN.out; omega)).trans MID.out.2.2.2.1; have e4 := (HOB.out.cellAt (j * 5 + 4) (by have := HJN.out; omega)).trans MID.out.2.2.2.2; have f0 := HOB.out.frozenAt (j * 5); have f1 := HOB.out.frozenAt (j * 5 + 1); have f2 := HOB.out.frozenAt (j * 5 + 2); have f3 := HOB.out.frozenAt (j * 5 + 3); have f4 := HOB.out.frozenAt (j * 5 + 4); have HB2 := Lib.hid hB2; clear hB2; have kB := And.intro ((hbx.cell (p := ⟨w.heap.size, 3, none⟩) PA.out).trans kA.1) (And.intro ((hbx.cell (p := ⟨wr.heap.size, 0, none⟩) QA.out).trans kA.2.1) (And.intro ((hbx.cell (p := ⟨wr.heap.size, 1, none⟩) QA.out).trans kA.2.2.1) (And.intro ((hbx.cell (p := ⟨wr.heap.size, 2, none⟩) QA.out).trans kA.2.2.2.1) (And.intro ((hbx.cell (p := ⟨wr.heap.size, 3, none⟩) QA.out).trans kA.2.2.2.2.1) ((hbx.cell (p := ⟨wr.heap.size, 4, none⟩) QA.out).trans kA.2.2.2.2.2)))))))
        have hgl : g < w6.heap.size := (OI6.out.lt g rfl).2
        obtain ⟨hst, hgr⟩ := own_store5 (a := .int .i64 k2) (b := .int .i64 i2) (s := .string t2) (y := .slice D n3 c3) (z := .slice D' n4 c4) HOB.out HNL.out (by simp)
        have S1 : SameFrom w6.heap.size wr wB := same_of_below HB2.out (Nat.le_refl _)
        have S2 := same_grown (lo := w6.heap.size) hgr hgl
        have ho2 := OwnC.snoc ((HOX.out.mono (lo' := w6.heap.size) (by have h1 := BWA.out.size; have h2 := HG.out.size; show w6.heap.size ≤ wa.heap.size; omega)).keep S2) (HN.out.keep (same_trans S1 S2 HB2.out.size))
        rw [← HTK.out] at ho2
        have hg2 := grownBy_trans HG.out (grownBy_trans (grown_of_below HB2.out) hgr)
        have FO := Lib.hid hst
        have FN := Lib.hid ho2
        have FG := Lib.hid hg2
        clear hst hgr S1 S2 ho2 hg2 e0 e1 e2 e3 e4 f0 f1 f2 f3 f4 kA kB hbx u0 u1 u2 u3 u4 v3
        go_wp2
        go_roundw
        case rel => exact ⟨j + 1, _, rest, by have := HJN.out; omega, by go_num, FO, FN, HRR, FG⟩
        case measure => have := HJN.out; simp [intOf]; omega
      · obtain rfl : j = its.length := by omega
        have hold : old = [] := by have := HD.out; rw [List.drop_length] at this; exact this
        subst hold
        have QR := Lib.hid (Q6.out.below BR.out HLT6.out)
        have b0 := PR.out.cell 0
        have b1 := PR.out.cell 1
        have b2 := PR.out.cell 2
        have b4 := PR.out.cell 4
        have r0 := QR.out.frozen 0
        have r1 := QR.out.frozen 1
        have r2 := QR.out.frozen 2
        have r3 := QR.out.frozen 3
        have r4 := QR.out.frozen 4
        have z0 := QR.out.cell 0
        have z1 := QR.out.cell 1
        have z2 := QR.out.cell 2
        have z3 := QR.out.cell 3
        have z4 := QR.out.cell 4
        go_wp2
        obtain ⟨wf, hwf⟩ : ∃ wf, wf = ((((wr.setCell ⟨w.heap.size + 1, 0, none⟩ (.int .i64 k)).setCell ⟨w.heap.size + 1, 1, none⟩ (.int .i64 i)).setCell ⟨w.heap.size + 1, 2, none⟩ (.string t)).setCell ⟨w.heap.size + 1, 3, none⟩ (.slice Ai its.length ci)).setCell ⟨w.heap.size + 1, 4, none⟩ (.slice Ak ks.length ck) := ⟨_, rfl⟩
        have QF : Hid (Bk wf (w.heap.size + 1) 26 #[.int .i64 k, .int .i64 i, .string t, .slice Ai its.length ci, .slice Ak ks.length ck]) := Lib.hid (by rw [hwf]; exact ((((QR.out.put 0 _).put 1 _).put 2 _).put 3 _).put 4 _)
        have SF : Hid (∀ b, b ≠ w.heap.size + 1 → wf.heap[b]? = wr.heap[b]?) := Lib.hid (fun b hb => by
          rw [hwf]; exact ((((Below.heap_setCell _ _ _ _ hb).trans (Below.heap_setCell _ _ _ _ hb)).trans (Below.heap_setCell _ _ _ _ hb)).trans (Below.heap_setCell _ _ _ _ hb)).trans (Below.heap_setCell _ _ _ _ hb))
        have BF : Hid (Below w.heap.size w wf) := Lib.hid (by
          rw [hwf]
          have h0 := B6.out.trans (BR.out.mono (by have := HLT6.out; omega : w.heap.size ≤ w4.heap.size))
          exact ((((h0.setCell (p := ⟨w.heap.size + 1, 0, none⟩) (by show w.heap.size ≤ w.heap.size + 1; omega) _).setCell (p := ⟨w.heap.size + 1, 1, none⟩) (by show w.heap.size ≤ w.heap.size + 1; omega) _).setCell (p := ⟨w.heap.size + 1, 2, none⟩) (by show w.heap.size ≤ w.heap.size + 1; omega) _).setCell (p := ⟨w.heap.size + 1, 3, none⟩) (by show w.heap.size ≤ w.heap.size + 1; omega) _).setCell (p := ⟨w.heap.size + 1, 4, none⟩) (by show w.heap.size ≤ w.heap.size + 1; omega) _)
        rw [← hwf]
        refine bodyPost_ret (results_cell_row rfl _ _ (w.heap.size + 1) 26 #[.int .i64 k, .int .i64 i, .string t, .slice Ai its.length ci, .slice Ak ks.length ck] (0, 0) _ rfl QF.out Try.underlying26 rfl (by kernel_rfl)) rfl ?_
        have hsz := BR.out.size
        have l4 := HLT6.out
        have l2 := HLT.out
        refine ⟨_, rfl, ?_, BF.out⟩
        rw [Ownd]
        have hnew : OwnC wr w6.heap.size its new := by have := HN.out; rwa [List.take_length] at this
        have hrow : wr.ownsRow w4.heap.size 26 5 (.slice Ai its.length ci) its.length new := by have := HO.out; rwa [List.append_nil] at this
        have hks : wr.ownsRow w2.heap.size 9 1 (.slice Ak ks.length ck) ks.length (ks.map Value.string) := by
          refine OK6.out.kept HG.out ?_
          cases hb : (Value.slice Ak ks.length ck).ownBlock with
          | none => exact Or.inl rfl
          | some gk => exact Or.inr (fun e => by have h1 := (HLO.out gk e.symm).1; have h2 := OKB.out gk hb; omega)
        exact ⟨Ai, ci, Ak, ck, new, rfl, HK0.out.1, HK0.out.2.1, HK0.out.2.2, own_mono (own_same hrow (fun b h1 _ => SF.out b (by omega))) (by omega),
          (hnew.keep (fun b h1 _ => SF.out b (by have := Z6.out; have := Z5.out; omega))).mono (by have := Z6.out; have := Z5.out; omega), own_mono (own_same hks (fun b h1 _ => SF.out b (by omega))) (by omega), SS0.out⟩
theorem Copy_any {x : VT} {v : Value} {w : World} (h : Lies w (Lo w) x v) (hr : x.all reachF = true) : Calls Try.prog 28 #[v] w (Copies x w) := copy_all x.size x w v (Nat.le_refl _) hr h
end Go.Proofs.Ytidinbeanaifmaa
namespace Go.Proofs.Ytidinbeanaifmaa
open Go.RowKit

theorem tl_empty (t : ByteArray) : (t.toList == []) = decide (t.size = 0) := by
  rw [ByteArray.toList_eq]
  cases t with | mk a =>
  by_cases h : a.size = 0
  · have : a = #[] := Array.eq_empty_of_size_eq_zero h
    subst this
    rfl
  · rw [decide_eq_false (by simpa [ByteArray.size] using h), beq_eq_false_iff_ne]
    intro e
    exact h (by have := congrArg List.length e; simpa using this)

set_option maxHeartbeats 2000000 in
set_option linter.unusedVariables false in
theorem rf_0 (i : Int) (t : ByteArray) (its : List VT) (ks : List ByteArray) (A : Option Addr) (c : Nat) (A' : Option Addr) (c' : Nat) (w : World) (hS : LiesS w (Lo w) A' ks) (hkc : ks.length ≤ c') (hcm' : c' ≤ 9223372036854775807) :
    Calls Try.prog 95 #[vag 0 i t A its.length c A' ks.length c'] w (Gives (.bool (okF (.mk 0 i t its ks))) w) := by
  unfold vag
  have HS := Lib.hid hS
  clear hS
  by_cases hI0 : i = 0
  · have fhI0 : (i == 0) = true := by rw [beq_iff_eq]; omega
    by_cases hT : t.size = 0
    · have fhT : (t.toList == []) = true := by rw [tl_empty]; exact decide_eq_true hT
      by_cases hN : its.length = 0
      · have fhN : (((its.length : Nat) : Int) == 0) = true := by rw [beq_iff_eq]; omega
        by_cases hK : ks.length = 0
        · have fhK : (((ks.length : Nat) : Int) == 0) = true := by rw [beq_iff_eq]; omega
          have key : okF (.mk 0 i t its ks) = true := by rw [okF_0]; simp [*]
          rw [key]
          clear hI0 hT hN hK key
          go_enter Try.func95, Try.ntmps95
          go_wp2
          go_quiet (fail)
          go_wp2
          go_quiet (fail)
          go_wp2
          go_ret
          exact ⟨rfl, below_drew (below_one _ _) _⟩
        · have fhK : (((ks.length : Nat) : Int) == 0) = false := by rw [beq_eq_false_iff_ne]; omega
          have key : okF (.mk 0 i t its ks) = false := by rw [okF_0]; simp [*]
          rw [key]
          clear hI0 hT hN hK key
          go_enter Try.func95, Try.ntmps95
          go_wp2
          go_quiet (fail)
          go_wp2
          go_quiet (fail)
          go_wp2
          go_ret
          exact ⟨rfl, below_drew (below_one _ _) _⟩
      · have fhN : (((its.length : Nat) : Int) == 0) = false := by rw [beq_eq_false_iff_ne]; omega
        have key : okF (.mk 0 i t its ks) = false := by rw [okF_0]; simp [*]
        rw [key]
        clear hI0 hT hN key
        go_enter Try.func95, Try.ntmps95
        go_wp2
        go_quiet (fail)
        go_wp2
        go_quiet (fail)
        go_wp2
        go_ret
        exact ⟨rfl, below_drew (below_one _ _) _⟩
    · have fhT : (t.toList == []) = false := by rw [tl_empty]; exact decide_eq_false hT
      have key : okF (.mk 0 i t its ks) = false := by rw [okF_0]; simp [*]
      rw [key]
      clear hI0 hT key
      go_enter Try.func95, Try.ntmps95
      go_wp2
      go_quiet (fail)
      go_wp2
      go_quiet (fail)
      go_wp2
      go_ret
      exact ⟨rfl, below_drew (below_one _ _) _⟩
  · have fhI0 : (i == 0) = false := by rw [beq_eq_false_iff_ne]; omega
    have key : okF (.mk 0 i t its ks) = false := by rw [okF_0]; simp [*]
    rw [key]
    clear hI0 key
    go_enter Try.func95, Try.ntmps95
    go_wp2
    go_quiet (fail)
    go_wp2
    go_quiet (fail)
    go_wp2
    go_ret
    exact ⟨rfl, below_drew (below_one _ _) _⟩

set_option maxHeartbeats 2000000 in
set_option linter.unusedVariables false in
theorem rf_1 (i : Int) (t : ByteArray) (its : List VT) (ks : List ByteArray) (A : Option Addr) (c : Nat) (A' : Option Addr) (c' : Nat) (w : World) (hS : LiesS w (Lo w) A' ks) (hkc : ks.length ≤ c') (hcm' : c' ≤ 9223372036854775807) :
    Calls Try.prog 95 #[vag 1 i t A its.length c A' ks.length c'] w (Gives (.bool (okF (.mk 1 i t its ks))) w) := by
  unfold vag
  have HS := Lib.hid hS
  clear hS
  by_cases hI0 : i = 0
  · have fhI0 : (i == 0) = true := by rw [beq_iff_eq]; omega
    by_cases hT : t.size = 0
    · have fhT : (t.toList == []) = true := by rw [tl_empty]; exact decide_eq_true hT
      by_cases hN : its.length = 0
      · have fhN : (((its.length : Nat) : Int) == 0) = true := by rw [beq_iff_eq]; omega
        by_cases hK : ks.length = 0
        · have fhK : (((ks.length : Nat) : Int) == 0) = true := by rw [beq_iff_eq]; omega
          have key : okF (.mk 1 i t its ks) = true := by rw [okF_1]; simp [*]
          rw [key]
          clear hI0 hT hN hK key
          go_enter Try.func95, Try.ntmps95
          go_wp2
          go_quiet (fail)
          go_wp2
          go_quiet (fail)
          go_wp2
          go_ret
          exact ⟨rfl, below_drew (below_one _ _) _⟩
        · have fhK : (((ks.length : Nat) : Int) == 0) = false := by rw [beq_eq_false_iff_ne]; omega
          have key : okF (.mk 1 i t its ks) = false := by rw [okF_1]; simp [*]
          rw [key]
          clear hI0 hT hN hK key
          go_enter Try.func95, Try.ntmps95
          go_wp2
          go_quiet (fail)
          go_wp2
          go_quiet (fail)
          go_wp2
          go_ret
          exact ⟨rfl, below_drew (below_one _ _) _⟩
      · have fhN : (((its.length : Nat) : Int) == 0) = false := by rw [beq_eq_false_iff_ne]; omega
        have key : okF (.mk 1 i t its ks) = false := by rw [okF_1]; simp [*]
        rw [key]
        clear hI0 hT hN key
        go_enter Try.func95, Try.ntmps95
        go_wp2
        go_quiet (fail)
        go_wp2
        go_quiet (fail)
        go_wp2
        go_ret
        exact ⟨rfl, below_drew (below_one _ _) _⟩
    · have fhT : (t.toList == []) = false := by rw [tl_empty]; exact decide_eq_false hT
      have key : okF (.mk 1 i t its ks) = false := by rw [okF_1]; simp [*]
      rw [key]
      clear hI0 hT key
      go_enter Try.func95, Try.ntmps95
      go_wp2
      go_quiet (fail)
      go_wp2
      go_quiet (fail)
      go_wp2
      go_ret
      exact ⟨rfl, below_drew (below_one _ _) _⟩
  · have fhI0 : (i == 0) = false := by rw [beq_eq_false_iff_ne]; omega
    by_cases hI1 : i = 1
    · have fhI1 : (i == 1) = true := by rw [beq_iff_eq]; omega
      by_cases hT : t.size = 0
      · have fhT : (t.toList == []) = true := by rw [tl_empty]; exact decide_eq_true hT
        by_cases hN : its.length = 0
        · have fhN : (((its.length : Nat) : Int) == 0) = true := by rw [beq_iff_eq]; omega
          by_cases hK : ks.length = 0
          · have fhK : (((ks.length : Nat) : Int) == 0) = true := by rw [beq_iff_eq]; omega
            have key : okF (.mk 1 i t its ks) = true := by rw [okF_1]; simp [*]
            rw [key]
            clear hI0 hI1 hT hN hK key
            go_enter Try.func95, Try.ntmps95
            go_wp2
            go_quiet (fail)
            go_wp2
            go_quiet (fail)
            go_wp2
            go_ret
            exact ⟨rfl, below_drew (below_one _ _) _⟩
          · have fhK : (((ks.length : Nat) : Int) == 0) = false := by rw [beq_eq_false_iff_ne]; omega
            have key : okF (.mk 1 i t its ks) = false := by rw [okF_1]; simp [*]
            rw [key]
            clear hI0 hI1 hT hN hK key
            go_enter Try.func95, Try.ntmps95
            go_wp2
            go_quiet (fail)
            go_wp2
            go_quiet (fail)
            go_wp2
            go_ret
            exact ⟨rfl, below_drew (below_one _ _) _⟩
        · have fhN : (((its.length : Nat) : Int) == 0) = false := by rw [beq_eq_false_iff_ne]; omega
          have key : okF (.mk 1 i t its ks) = false := by rw [okF_1]; simp [*]
          rw [key]
          clear hI0 hI1 hT hN key
          go_enter Try.func95, Try.ntmps95
          go_wp2
          go_quiet (fail)
          go_wp2
          go_quiet (fail)
          go_wp2
          go_ret
          exact ⟨rfl, below_drew (below_one _ _) _⟩
      · have fhT : (t.toList == []) = false := by rw [tl_empty]; exact decide_eq_false hT
        have key : okF (.mk 1 i t its ks) = false := by rw [okF_1]; simp [*]
        rw [key]
        clear hI0 hI1 hT key
        go_enter Try.func95, Try.ntmps95
        go_wp2
        go_quiet (fail)
        go_wp2
        go_quiet (fail)
        go_wp2
        go_ret
        exact ⟨rfl, below_drew (below_one _ _) _⟩
    · have fhI1 : (i == 1) = false := by rw [beq_eq_false_iff_ne]; omega
      have key : okF (.mk 1 i t its ks) = false := by rw [okF_1]; simp [*]
      rw [key]
      clear hI0 hI1 key
      go_enter Try.func95, Try.ntmps95
      go_wp2
      go_quiet (fail)
      go_wp2
      go_quiet (fail)
      go_wp2
      go_ret
      exact ⟨rfl, below_drew (below_one _ _) _⟩

set_option maxHeartbeats 2000000 in
set_option linter.unusedVariables false in
theorem rf_2 (i : Int) (t : ByteArray) (its : List VT) (ks : List ByteArray) (A : Option Addr) (c : Nat) (A' : Option Addr) (c' : Nat) (w : World) (hS : LiesS w (Lo w) A' ks) (hkc : ks.length ≤ c') (hcm' : c' ≤ 9223372036854775807) :
    Calls Try.prog 95 #[vag 2 i t A its.length c A' ks.length c'] w (Gives (.bool (okF (.mk 2 i t its ks))) w) := by
  unfold vag
  have HS := Lib.hid hS
  clear hS
  by_cases hT : t.size = 0
  · have fhT : (t.toList == []) = true := by rw [tl_empty]; exact decide_eq_true hT
    by_cases hN : its.length = 0
    · have fhN : (((its.length : Nat) : Int) == 0) = true := by rw [beq_iff_eq]; omega
      by_cases hK : ks.length = 0
      · have fhK : (((ks.length : Nat) : Int) == 0) = true := by rw [beq_iff_eq]; omega
        have key : okF (.mk 2 i t its ks) = true := by rw [okF_2]; simp [*]
        rw [key]
        clear hT hN hK key
        go_enter Try.func95, Try.ntmps95
        go_wp2
        go_quiet (fail)
        go_wp2
        go_quiet (fail)
        go_wp2
        go_ret
        exact ⟨rfl, below_drew (below_one _ _) _⟩
      · have fhK : (((ks.length : Nat) : Int) == 0) = false := by rw [beq_eq_false_iff_ne]; omega
        have key : okF (.mk 2 i t its ks) = false := by rw [okF_2]; simp [*]
        rw [key]
        clear hT hN hK key
        go_enter Try.func95, Try.ntmps95
        go_wp2
        go_quiet (fail)
        go_wp2
        go_quiet (fail)
        go_wp2
        go_ret
        exact ⟨rfl, below_drew (below_one _ _) _⟩
    · have fhN : (((its.length : Nat) : Int) == 0) = false := by rw [beq_eq_false_iff_ne]; omega
      have key : okF (.mk 2 i t its ks) = false := by rw [okF_2]; simp [*]
      rw [key]
      clear hT hN key
      go_enter Try.func95, Try.ntmps95
      go_wp2
      go_quiet (fail)
      go_wp2
      go_quiet (fail)
      go_wp2
      go_ret
      exact ⟨rfl, below_drew (below_one _ _) _⟩
  · have fhT : (t.toList == []) = false := by rw [tl_empty]; exact decide_eq_false hT
    have key : okF (.mk 2 i t its ks) = false := by rw [okF_2]; simp [*]
    rw [key]
    clear hT key
    go_enter Try.func95, Try.ntmps95
    go_wp2
    go_quiet (fail)
    go_wp2
    go_quiet (fail)
    go_wp2
    go_ret
    exact ⟨rfl, below_drew (below_one _ _) _⟩

set_option maxHeartbeats 2000000 in
set_option linter.unusedVariables false in
theorem rf_3 (i : Int) (t : ByteArray) (its : List VT) (ks : List ByteArray) (A : Option Addr) (c : Nat) (A' : Option Addr) (c' : Nat) (w : World) (hS : LiesS w (Lo w) A' ks) (hkc : ks.length ≤ c') (hcm' : c' ≤ 9223372036854775807) :
    Calls Try.prog 95 #[vag 3 i t A its.length c A' ks.length c'] w (Gives (.bool (okF (.mk 3 i t its ks))) w) := by
  unfold vag
  have HS := Lib.hid hS
  clear hS
  by_cases hI0 : i = 0
  · have fhI0 : (i == 0) = true := by rw [beq_iff_eq]; omega
    by_cases hN : its.length = 0
    · have fhN : (((its.length : Nat) : Int) == 0) = true := by rw [beq_iff_eq]; omega
      by_cases hK : ks.length = 0
      · have fhK : (((ks.length : Nat) : Int) == 0) = true := by rw [beq_iff_eq]; omega
        have key : okF (.mk 3 i t its ks) = true := by rw [okF_3]; simp [*]
        rw [key]
        clear hI0 hN hK key
        go_enter Try.func95, Try.ntmps95
        go_wp2
        go_quiet (fail)
        go_wp2
        go_quiet (fail)
        go_wp2
        go_ret
        exact ⟨rfl, below_drew (below_one _ _) _⟩
      · have fhK : (((ks.length : Nat) : Int) == 0) = false := by rw [beq_eq_false_iff_ne]; omega
        have key : okF (.mk 3 i t its ks) = false := by rw [okF_3]; simp [*]
        rw [key]
        clear hI0 hN hK key
        go_enter Try.func95, Try.ntmps95
        go_wp2
        go_quiet (fail)
        go_wp2
        go_quiet (fail)
        go_wp2
        go_ret
        exact ⟨rfl, below_drew (below_one _ _) _⟩
    · have fhN : (((its.length : Nat) : Int) == 0) = false := by rw [beq_eq_false_iff_ne]; omega
      have key : okF (.mk 3 i t its ks) = false := by rw [okF_3]; simp [*]
      rw [key]
      clear hI0 hN key
      go_enter Try.func95, Try.ntmps95
      go_wp2
      go_quiet (fail)
      go_wp2
      go_quiet (fail)
      go_wp2
      go_ret
      exact ⟨rfl, below_drew (below_one _ _) _⟩
  · have fhI0 : (i == 0) = false := by rw [beq_eq_false_iff_ne]; omega
    have key : okF (.mk 3 i t its ks) = false := by rw [okF_3]; simp [*]
    rw [key]
    clear hI0 key
    go_enter Try.func95, Try.ntmps95
    go_wp2
    go_quiet (fail)
    go_wp2
    go_quiet (fail)
    go_wp2
    go_ret
    exact ⟨rfl, below_drew (below_one _ _) _⟩

set_option maxHeartbeats 2000000 in
set_option linter.unusedVariables false in
theorem rf_4 (i : Int) (t : ByteArray) (its : List VT) (ks : List ByteArray) (A : Option Addr) (c : Nat) (A' : Option Addr) (c' : Nat) (w : World) (hS : LiesS w (Lo w) A' ks) (hkc : ks.length ≤ c') (hcm' : c' ≤ 9223372036854775807) :
    Calls Try.prog 95 #[vag 4 i t A its.length c A' ks.length c'] w (Gives (.bool (okF (.mk 4 i t its ks))) w) := by
  unfold vag
  have HS := Lib.hid hS
  clear hS
  by_cases hI0 : i = 0
  · have fhI0 : (i == 0) = true := by rw [beq_iff_eq]; omega
    by_cases hT : t.size = 0
    · have fhT : (t.toList == []) = true := by rw [tl_empty]; exact decide_eq_true hT
      by_cases hK : ks.length = 0
      · have fhK : (((ks.length : Nat) : Int) == 0) = true := by rw [beq_iff_eq]; omega
        have key : okF (.mk 4 i t its ks) = true := by rw [okF_4]; simp [*]
        rw [key]
        clear hI0 hT hK key
        go_enter Try.func95, Try.ntmps95
        go_wp2
        go_quiet (fail)
        go_wp2
        go_quiet (fail)
        go_wp2
        go_ret
        exact ⟨rfl, below_drew (below_one _ _) _⟩
      · have fhK : (((ks.length : Nat) : Int) == 0) = false := by rw [beq_eq_false_iff_ne]; omega
        have key : okF (.mk 4 i t its ks) = false := by rw [okF_4]; simp [*]
        rw [key]
        clear hI0 hT hK key
        go_enter Try.func95, Try.ntmps95
        go_wp2
        go_quiet (fail)
        go_wp2
        go_quiet (fail)
        go_wp2
        go_ret
        exact ⟨rfl, below_drew (below_one _ _) _⟩
    · have fhT : (t.toList == []) = false := by rw [tl_empty]; exact decide_eq_false hT
      have key : okF (.mk 4 i t its ks) = false := by rw [okF_4]; simp [*]
      rw [key]
      clear hI0 hT key
      go_enter Try.func95, Try.ntmps95
      go_wp2
      go_quiet (fail)
      go_wp2
      go_quiet (fail)
      go_wp2
      go_ret
      exact ⟨rfl, below_drew (below_one _ _) _⟩
  · have fhI0 : (i == 0) = false := by rw [beq_eq_false_iff_ne]; omega
    have key : okF (.mk 4 i t its ks) = false := by rw [okF_4]; simp [*]
    rw [key]
    clear hI0 key
    go_enter Try.func95, Try.ntmps95
    go_wp2
    go_quiet (fail)
    go_wp2
    go_quiet (fail)
    go_wp2
    go_ret
    exact ⟨rfl, below_drew (below_one _ _) _⟩

set_option maxHeartbeats 2000000 in
set_option linter.unusedVariables false in
theorem rf_5 (i : Int) (t : ByteArray) (its : List VT) (ks : List ByteArray) (A : Option Addr) (c : Nat) (A' : Option Addr) (c' : Nat) (w : World) (hS : LiesS w (Lo w) A' ks) (hkc : ks.length ≤ c') (hcm' : c' ≤ 9223372036854775807) :
    Calls Try.prog 95 #[vag 5 i t A its.length c A' ks.length c'] w (Gives (.bool (okF (.mk 5 i t its ks))) w) := by
  unfold vag
  have HS := Lib.hid hS
  clear hS
  by_cases hI0 : i = 0
  · have fhI0 : (i == 0) = true := by rw [beq_iff_eq]; omega
    by_cases hT : t.size = 0
    · have fhT : (t.toList == []) = true := by rw [tl_empty]; exact decide_eq_true hT
      by_cases hL : ks.length = its.length
      · have fhL : (((ks.length : Nat) : Int) == ((its.length : Nat) : Int)) = true := by rw [beq_iff_eq]; omega
        by_cases hR : rising ks = true
        · have fhR : rising ks = true := by simpa using hR
          have key : okF (.mk 5 i t its ks) = true := by rw [okF_5]; simp [*]
          rw [key]
          clear hI0 hT hL hR key
          go_enter Try.func95, Try.ntmps95
          go_wp2
          go_quiet (fail)
          go_wp2
          go_quiet (fail)
          go_wp2_with fail
          refine (ascending_any _ _ _ _ (HS.out.below (below_drew (below_one _ _) _)) hkc hcm').mono ?_
          rintro e w' ⟨rfl, hb⟩
          have HB := Lib.hid ((below_drew (below_one _ _) _).trans (hb.mono (by simp)))
          clear hb
          rw [fhR]
          go_wp2
          go_ret
          exact ⟨rfl, HB.out⟩
        · have fhR : rising ks = false := by simpa using hR
          have key : okF (.mk 5 i t its ks) = false := by rw [okF_5]; simp [*]
          rw [key]
          clear hI0 hT hL hR key
          go_enter Try.func95, Try.ntmps95
          go_wp2
          go_quiet (fail)
          go_wp2
          go_quiet (fail)
          go_wp2_with fail
          refine (ascending_any _ _ _ _ (HS.out.below (below_drew (below_one _ _) _)) hkc hcm').mono ?_
          rintro e w' ⟨rfl, hb⟩
          have HB := Lib.hid ((below_drew (below_one _ _) _).trans (hb.mono (by simp)))
          clear hb
          rw [fhR]
          go_wp2
          go_ret
          exact ⟨rfl, HB.out⟩
      · have fhL : (((ks.length : Nat) : Int) == ((its.length : Nat) : Int)) = false := by rw [beq_eq_false_iff_ne]; omega
        have key : okF (.mk 5 i t its ks) = false := by rw [okF_5]; simp [*]
        rw [key]
        clear hI0 hT hL key
        go_enter Try.func95, Try.ntmps95
        go_wp2
        go_quiet (fail)
        go_wp2
        go_quiet (fail)
        go_wp2
        go_ret
        exact ⟨rfl, below_drew (below_one _ _) _⟩
    · have fhT : (t.toList == []) = false := by rw [tl_empty]; exact decide_eq_false hT
      have key : okF (.mk 5 i t its ks) = false := by rw [okF_5]; simp [*]
      rw [key]
      clear hI0 hT key
      go_enter Try.func95, Try.ntmps95
      go_wp2
      go_quiet (fail)
      go_wp2
      go_quiet (fail)
      go_wp2
      go_ret
      exact ⟨rfl, below_drew (below_one _ _) _⟩
  · have fhI0 : (i == 0) = false := by rw [beq_eq_false_iff_ne]; omega
    have key : okF (.mk 5 i t its ks) = false := by rw [okF_5]; simp [*]
    rw [key]
    clear hI0 key
    go_enter Try.func95, Try.ntmps95
    go_wp2
    go_quiet (fail)
    go_wp2
    go_quiet (fail)
    go_wp2
    go_ret
    exact ⟨rfl, below_drew (below_one _ _) _⟩

set_option maxHeartbeats 2000000 in
set_option linter.unusedVariables false in
theorem rf_6 (i : Int) (t : ByteArray) (its : List VT) (ks : List ByteArray) (A : Option Addr) (c : Nat) (A' : Option Addr) (c' : Nat) (w : World) (hS : LiesS w (Lo w) A' ks) (hkc : ks.length ≤ c') (hcm' : c' ≤ 9223372036854775807) :
    Calls Try.prog 95 #[vag 6 i t A its.length c A' ks.length c'] w (Gives (.bool (okF (.mk 6 i t its ks))) w) := by
  unfold vag
  have HS := Lib.hid hS
  clear hS
  by_cases hP : 0 ≤ i
  · have fhP : decide ((0 : Int) ≤ i) = true := decide_eq_true hP
    by_cases hT : t.size = 0
    · have fhT : (t.toList == []) = true := by rw [tl_empty]; exact decide_eq_true hT
      by_cases hN : its.length = 0
      · have fhN : (((its.length : Nat) : Int) == 0) = true := by rw [beq_iff_eq]; omega
        by_cases hK : ks.length = 0
        · have fhK : (((ks.length : Nat) : Int) == 0) = true := by rw [beq_iff_eq]; omega
          have key : okF (.mk 6 i t its ks) = true := by rw [okF_6]; simp [*]
          rw [key]
          clear hP hT hN hK key
          go_enter Try.func95, Try.ntmps95
          go_wp2
          go_quiet (fail)
          go_wp2
          go_quiet (fail)
          go_wp2
          go_ret
          exact ⟨rfl, below_drew (below_one _ _) _⟩
        · have fhK : (((ks.length : Nat) : Int) == 0) = false := by rw [beq_eq_false_iff_ne]; omega
          have key : okF (.mk 6 i t its ks) = false := by rw [okF_6]; simp [*]
          rw [key]
          clear hP hT hN hK key
          go_enter Try.func95, Try.ntmps95
          go_wp2
          go_quiet (fail)
          go_wp2
          go_quiet (fail)
          go_wp2
          go_ret
          exact ⟨rfl, below_drew (below_one _ _) _⟩
      · have fhN : (((its.length : Nat) : Int) == 0) = false := by rw [beq_eq_false_iff_ne]; omega
        have key : okF (.mk 6 i t its ks) = false := by rw [okF_6]; simp [*]
        rw [key]
        clear hP hT hN key
        go_enter Try.func95, Try.ntmps95
        go_wp2
        go_quiet (fail)
        go_wp2
        go_quiet (fail)
        go_wp2
        go_ret
        exact ⟨rfl, below_drew (below_one _ _) _⟩
    · have fhT : (t.toList == []) = false := by rw [tl_empty]; exact decide_eq_false hT
      have key : okF (.mk 6 i t its ks) = false := by rw [okF_6]; simp [*]
      rw [key]
      clear hP hT key
      go_enter Try.func95, Try.ntmps95
      go_wp2
      go_quiet (fail)
      go_wp2
      go_quiet (fail)
      go_wp2
      go_ret
      exact ⟨rfl, below_drew (below_one _ _) _⟩
  · have fhP : decide ((0 : Int) ≤ i) = false := decide_eq_false hP
    have key : okF (.mk 6 i t its ks) = false := by rw [okF_6]; simp [*]
    rw [key]
    clear hP key
    go_enter Try.func95, Try.ntmps95
    go_wp2
    go_quiet (fail)
    go_wp2
    go_quiet (fail)
    go_wp2
    go_ret
    exact ⟨rfl, below_drew (below_one _ _) _⟩

set_option maxHeartbeats 2000000 in
theorem rf_o (k i : Int) (t : ByteArray) (its : List VT) (ks : List ByteArray) (A : Option Addr) (c : Nat) (A' : Option Addr) (c' : Nat) (w : World) (hk : ¬ (0 ≤ k ∧ k ≤ 6)) :
    Calls Try.prog 95 #[vag k i t A its.length c A' ks.length c'] w (Gives (.bool (okF (.mk k i t its ks))) w) := by
  unfold vag
  have f0 : (k == 0) = false := by rw [beq_eq_false_iff_ne]; omega
  have f1 : (k == 1) = false := by rw [beq_eq_false_iff_ne]; omega
  have f2 : (k == 2) = false := by rw [beq_eq_false_iff_ne]; omega
  have f3 : (k == 3) = false := by rw [beq_eq_false_iff_ne]; omega
  have f4 : (k == 4) = false := by rw [beq_eq_false_iff_ne]; omega
  have f5 : (k == 5) = false := by rw [beq_eq_false_iff_ne]; omega
  have f6 : (k == 6) = false := by rw [beq_eq_false_iff_ne]; omega
  have key : okF (.mk k i t its ks) = false := by
    simp only [beq_eq_false_iff_ne] at f0 f1 f2 f3 f4 f5 f6
    simp [okF, VT.k, f0, f1, f2, f3, f4, f5, f6]
  rw [key]
  clear key hk
  go_enter Try.func95, Try.ntmps95
  go_wp2
  go_quiet (fail)
  go_wp2
  go_quiet (fail)
  go_wp2
  go_ret
  exact ⟨rfl, below_drew (below_one _ _) _⟩

theorem rf_any {x : VT} {v : Value} {w : World} (h : Lies w (Lo w) x v) : Calls Try.prog 95 #[v] w (Gives (.bool (okF x)) w) := by
  obtain ⟨k, i, t, its, ks⟩ := x
  obtain ⟨A, c, A', c', rfl, _, _, _, _, _, _, h1, h2, hS⟩ := h.open
  by_cases hk : 0 ≤ k ∧ k ≤ 6
  · obtain rfl | rfl | rfl | rfl | rfl | rfl | rfl : k = 0 ∨ k = 1 ∨ k = 2 ∨ k = 3 ∨ k = 4 ∨ k = 5 ∨ k = 6 := by omega
    · exact rf_0 i t its ks A c A' c' w hS h1 h2
    · exact rf_1 i t its ks A c A' c' w hS h1 h2
    · exact rf_2 i t its ks A c A' c' w hS h1 h2
    · exact rf_3 i t its ks A c A' c' w hS h1 h2
    · exact rf_4 i t its ks A c A' c' w hS h1 h2
    · exact rf_5 i t its ks A c A' c' w hS h1 h2
    · exact rf_6 i t its ks A c A' c' w hS h1 h2
  · exact rf_o k i t its ks A c A' c' w hk
end Go.Proofs.Ytidinbeanaifmaa
namespace Go.Proofs.Ytidinbeanaifmaa
open Go.RowKit

set_option maxHeartbeats 400000 in
theorem notFuture_any {x : VT} {v : Value} {w : World} (h : Lies w (Lo w) x v) : Calls Try.prog 70 #[v] w (Gives (.bool (noFut x)) w) := by
  obtain ⟨k, i, t, its, ks⟩ := x
  obtain ⟨A, c, A', c', rfl, _, _, _, _, _, _, _, _, _⟩ := h.open
  have e : noFut (.mk k i t its ks) = (k != 6) := by
    unfold noFut VT.k
    by_cases hk : k = 6 <;> simp [hk]
  rw [e]
  clear h e
  unfold vag
  go_enter Try.func70, Try.ntmps70
  go_wp2
  go_ret
  exact ⟨rfl, below_one _ _⟩

set_option maxHeartbeats 1000000 in
theorem everyRf_all (m : Nat) : ∀ (x : VT) (w : World) (v : Value), x.size ≤ m → Lies w (Lo w) x v → Calls Try.prog 69 #[v, .func (.func 95) #[] #[]] w (Gives (.bool (x.all okF)) w) := by
  induction m with
  | zero => intro x _ _ h; have := size_pos x; omega
  | succ m ih =>
    intro x w v hsz hv
    have hp := fun (w' : World) (hb : Below w.heap.size w w') => rf_any (hv.below hb)
    obtain ⟨k, i, t, its, ks⟩ := x
    obtain ⟨A, c, A', c', rfl, _, _, _, hlc, hcm, hL, _, _, _⟩ := hv.open
    rw [VT.size_mk] at hsz
    rw [VT.all_mk]
    generalize okF (.mk k i t its ks) = p0 at *
    have HL := Lib.hid hL
    have IH := Lib.hid ih
    have HP := Lib.hid hp
    clear hL ih hv hp
    obtain ⟨n, hn⟩ : ∃ n, n = its.length := ⟨_, rfl⟩
    rw [← hn] at hlc HP ⊢
    have HN := Lib.hid hn
    clear hn
    unfold vag at HP ⊢
    go_enter Try.func69, Try.ntmps69
    obtain ⟨w1, hw1⟩ : ∃ w1, w1 = w.alloc (.cells #[.int .i64 k, .int .i64 i, .string t, .slice A n c, .slice A' ks.length c'] 26) := ⟨_, rfl⟩
    have B0 : Hid (Below w.heap.size w w1) := Lib.hid (by rw [hw1]; exact below_one _ _)
    have HP1 := Lib.hid (HP.out w1 B0.out)
    have HW := Lib.hid hw1
    clear hw1 HP
    go_wp2_with fail
    rw [← HW.out]
    refine (HP1.out).mono ?_
    rintro e w2 ⟨rfl, hb⟩
    cases p0 with
    | false =>
      have HB := Lib.hid (below_next B0.out hb)
      clear hb
      go_wp2
      go_ret
      exact ⟨rfl, HB.out⟩
    | true =>
      have C3 : w2.cell? ⟨w.heap.size, 3, none⟩ = some (.slice A n c) := by
        rw [hb.cell (p := ⟨w.heap.size, 3, none⟩) (by rw [HW.out]; simp), HW.out, World.cell?_alloc_at _ _ _ _ rfl]; rfl
      have B2 := Lib.hid (below_next B0.out hb)
      clear hb
      go_wp2
      go_loopw [14, 6] (fun t _ wr => ∃ j : Nat, j ≤ n ∧ t = .int .i64 j ∧ Hid (alls okF (its.take j) = true) ∧ Hid (Below w2.heap.size w2 wr)) (fun t _ _ => n - (intOf t).toNat)
      case atStart => exact ⟨0, by omega, rfl, Lib.hid rfl, Lib.hid (Below.refl _ _)⟩
      case round =>
        obtain ⟨j, hjn, rfl, ha, hb⟩ := hrel
        by_cases hlt : j < n
        · obtain ⟨g, o, k', i', t', B, n', c1, B', n1, c2, rfl, hg, e0, e1, e2, e3, e4, hx⟩ := (HL.out).at_ (j := j) (x := its[j]'(by rw [← HN.out]; exact hlt)) (List.getElem?_eq_getElem _)
          have hj := alls_take (p := okF) (List.getElem?_eq_getElem (l := its) (i := j) (by rw [← HN.out]; exact hlt))
          have hle := size_at (List.getElem?_eq_getElem (l := its) (i := j) (by rw [← HN.out]; exact hlt))
          have hfl := fun h => alls_false (p := okF) (List.getElem?_eq_getElem (l := its) (i := j) (by rw [← HN.out]; exact hlt)) h
          have hb' : Below w.heap.size w wr := below_next B2.out hb.out
          have cc := fun (q : Nat) => hb'.cell (p := ⟨g, q, none⟩) hg
          rw [Nat.zero_add] at e0 e1 e2 e3 e4
          rw [← cc] at e0 e1 e2 e3 e4
          have hc := IH.out (its[j]'(by rw [← HN.out]; exact hlt)) (wr.alloc (.cells #[.int .i64 k', .int .i64 i', .string t', .slice B n' c1, .slice B' n1 c2] 26)) _ (by omega) (hx.below (hb'.alloc hb'.size _))
          generalize its[j]'(by rw [← HN.out]; exact hlt) = x at *
          have HC := Lib.hid hc
          rw [ha.out, Bool.true_and] at hj
          have HJ := Lib.hid hj
          have HF := Lib.hid hfl
          clear hc hx hb' cc C3 hj hfl
          unfold vag at HC
          go_wp2_with fail
          refine (HC.out).mono ?_
          rintro e w' ⟨rfl, hb2⟩
          have HB2 := Lib.hid (below_via hb.out hb2)
          clear hb2
          cases hxx : x.all okF with
          | true =>
            have HXX := Lib.hid hxx
            clear hxx
            go_wp2
            go_roundw
            case rel => exact ⟨j + 1, by omega, by go_num, Lib.hid (by rw [HJ.out, HXX.out]), HB2⟩
            case measure => simp [intOf]; omega
          | false =>
            have HXX := Lib.hid (HF.out hxx)
            clear hxx
            go_wp2
            go_ret
            exact ⟨ret_bool (by rw [Bool.true_and, HXX.out]), below_next B2.out HB2.out⟩
        · obtain rfl : j = n := by omega
          go_wp2
          go_ret
          refine ⟨ret_bool ?_, below_next B2.out hb.out⟩
          rw [Bool.true_and, ← ha.out, HN.out, List.take_length]
set_option maxHeartbeats 1000000 in
theorem everyNf_all (m : Nat) : ∀ (x : VT) (w : World) (v : Value), x.size ≤ m → Lies w (Lo w) x v → Calls Try.prog 69 #[v, .func (.func 70) #[] #[]] w (Gives (.bool (x.all noFut)) w) := by
  induction m with
  | zero => intro x _ _ h; have := size_pos x; omega
  | succ m ih =>
    intro x w v hsz hv
    have hp := fun (w' : World) (hb : Below w.heap.size w w') => notFuture_any (hv.below hb)
    obtain ⟨k, i, t, its, ks⟩ := x
    obtain ⟨A, c, A', c', rfl, _, _, _, hlc, hcm, hL, _, _, _⟩ := hv.open
    rw [VT.size_mk] at hsz
    rw [VT.all_mk]
    generalize noFut (.mk k i t its ks) = p0 at *
    have HL := Lib.hid hL
    have IH := Lib.hid ih
    have HP := Lib.hid hp
    clear hL ih hv hp
    obtain ⟨n, hn⟩ : ∃ n, n = its.length := ⟨_, rfl⟩
    rw [← hn] at hlc HP ⊢
    have HN := Lib.hid hn
    clear hn
    unfold vag at HP ⊢
    go_enter Try.func69, Try.ntmps69
    obtain ⟨w1, hw1⟩ : ∃ w1, w1 = w.alloc (.cells #[.int .i64 k, .int .i64 i, .string t, .slice A n c, .slice A' ks.length c'] 26) := ⟨_, rfl⟩
    have B0 : Hid (Below w.heap.size w w1) := Lib.hid (by rw [hw1]; exact below_one _ _)
    have HP1 := Lib.hid (HP.out w1 B0.out)
    have HW := Lib.hid hw1
    clear hw1 HP
    go_wp2_with fail
    rw [← HW.out]
    refine (HP1.out).mono ?_
    rintro e w2 ⟨rfl, hb⟩
    cases p0 with
    | false =>
      have HB := Lib.hid (below_next B0.out hb)
      clear hb
      go_wp2
      go_ret
      exact ⟨rfl, HB.out⟩
    | true =>
      have C3 : w2.cell? ⟨w.heap.size, 3, none⟩ = some (.slice A n c) := by
        rw [hb.cell (p := ⟨w.heap.size, 3, none⟩) (by rw [HW.out]; simp), HW.out, World.cell?_alloc_at _ _ _ _ rfl]; rfl
      have B2 := Lib.hid (below_next B0.out hb)
      clear hb
      go_wp2
      go_loopw [14, 6] (fun t _ wr => ∃ j : Nat, j ≤ n ∧ t = .int .i64 j ∧ Hid (alls noFut (its.take j) = true) ∧ Hid (Below w2.heap.size w2 wr)) (fun t _ _ => n - (intOf t).toNat)
      case atStart => exact ⟨0, by omega, rfl, Lib.hid rfl, Lib.hid (Below.refl _ _)⟩
      case round =>
        obtain ⟨j, hjn, rfl, ha, hb⟩ := hrel
        by_cases hlt : j < n
        · obtain ⟨g, o, k', i', t', B, n', c1, B', n1, c2, rfl, hg, e0, e1, e2, e3, e4, hx⟩ := (HL.out).at_ (j := j) (x := its[j]'(by rw [← HN.out]; exact hlt)) (List.getElem?_eq_getElem _)
          have hj := alls_take (p := noFut) (List.getElem?_eq_getElem (l := its) (i := j) (by rw [← HN.out]; exact hlt))
          have hle := size_at (List.getElem?_eq_getElem (l := its) (i := j) (by rw [← HN.out]; exact hlt))
          have hfl := fun h => alls_false (p := noFut) (List.getElem?_eq_getElem (l := its) (i := j) (by rw [← HN.out]; exact hlt)) h
          have hb' : Below w.heap.size w wr := below_next B2.out hb.out
          have cc := fun (q : Nat) => hb'.cell (p := ⟨g, q, none⟩) hg
          rw [Nat.zero_add] at e0 e1 e2 e3 e4
          rw [← cc] at e0 e1 e2 e3 e4
          have hc := IH.out (its[j]'(by rw [← HN.out]; exact hlt)) (wr.alloc (.cells #[.int .i64 k', .int .i64 i', .string t', .slice B n' c1, .slice B' n1 c2] 26)) _ (by omega) (hx.below (hb'.alloc hb'.size _))
          generalize its[j]'(by rw [← HN.out]; exact hlt) = x at *
          have HC := Lib.hid hc
          rw [ha.out, Bool.true_and] at hj
          have HJ := Lib.hid hj
          have HF := Lib.hid hfl
          clear hc hx hb' cc C3 hj hfl
          unfold vag at HC
          go_wp2_with fail
          refine (HC.out).mono ?_
          rintro e w' ⟨rfl, hb2⟩
          have HB2 := Lib.hid (below_via hb.out hb2)
          clear hb2
          cases hxx : x.all noFut with
          | true =>
            have HXX := Lib.hid hxx
            clear hxx
            go_wp2
            go_roundw
            case rel => exact ⟨j + 1, by omega, by go_num, Lib.hid (by rw [HJ.out, HXX.out]), HB2⟩
            case measure => simp [intOf]; omega
          | false =>
            have HXX := Lib.hid (HF.out hxx)
            clear hxx
            go_wp2
            go_ret
            exact ⟨ret_bool (by rw [Bool.true_and, HXX.out]), below_next B2.out HB2.out⟩
        · obtain rfl : j = n := by omega
          go_wp2
          go_ret
          refine ⟨ret_bool ?_, below_next B2.out hb.out⟩
          rw [Bool.true_and, ← ha.out, HN.out, List.take_length]
set_option maxHeartbeats 400000 in
theorem wf_any {x : VT} {v : Value} {w : World} (h : Lies w (Lo w) x v) : Calls Try.prog 68 #[v] w (Gives (.bool x.wf) w) := by
  have hc := everyRf_all x.size x (w.alloc (.cells v.cells 26)) v (Nat.le_refl _) (h.below (below_one _ _))
  unfold VT.wf
  obtain ⟨k, i, t, its, ks⟩ := x
  obtain ⟨A, c, A', c', rfl, _, _, _, _, _, _, _, _, _⟩ := h.open
  generalize (VT.mk k i t its ks).all okF = b at *
  unfold vag Value.cells at hc
  unfold vag
  have HC := Lib.hid hc
  clear hc h
  go_enter Try.func68, Try.ntmps68
  go_wp2_with fail
  refine (HC.out).mono ?_
  rintro e w' ⟨rfl, hb⟩
  have HB := Lib.hid (below_via (Below.refl _ _) hb)
  clear hb
  go_wp2
  go_ret
  exact ⟨rfl, HB.out⟩
end Go.Proofs.Ytidinbeanaifmaa
namespace Go.Proofs.Ytidinbeanaifmaa
open Go.RowKit

/-- fits's answer at depth d with room for r more nodes -/
def fitsS (x : VT) (d r : Nat) : Bool := x.all shortF && (decide (x.depth + d ≤ 17) && decide (x.size ≤ r))
/-- .. of a row, whose list or map lies at depth d -/
def fitsL (l : List VT) (d r : Nat) : Bool := alls shortF l && (decide (depths l + d ≤ 16) && decide (sizes l ≤ r))
theorem fitsS_mk {k i : Int} {t : ByteArray} {its : List VT} {ks : List ByteArray} {d r : Nat} (hr : r ≠ 0) (hs : shortF (.mk k i t its ks) = true) : fitsS (.mk k i t its ks) d r = fitsL its d (r - 1) := by
  unfold fitsS fitsL
  rw [VT.all_mk, hs, Bool.true_and, VT.depth_mk, VT.size_mk]
  congr 1
  by_cases h1 : depths its + d ≤ 16 <;> by_cases h2 : sizes its ≤ r - 1
  · rw [decide_eq_true h1, decide_eq_true h2, decide_eq_true (show depths its + 1 + d ≤ 17 by omega), decide_eq_true (show 1 + sizes its ≤ r by omega)]
  · rw [decide_eq_true h1, decide_eq_false h2, decide_eq_false (show ¬ 1 + sizes its ≤ r by omega), Bool.and_false, Bool.and_false]
  · rw [decide_eq_false h1, decide_eq_false (show ¬ depths its + 1 + d ≤ 17 by omega), Bool.false_and, Bool.false_and]
  · rw [decide_eq_false h1, decide_eq_false (show ¬ depths its + 1 + d ≤ 17 by omega), Bool.false_and, Bool.false_and]
theorem fitsL_next {l : List VT} {j : Nat} {x : VT} {d r : Nat} (h : l[j]? = some x) (hp : fitsL (l.take j) d r = true) (hx : fitsS x (d + 1) (r - sizes (l.take j)) = true) : fitsL (l.take (j + 1)) d r = true := by
  unfold fitsL fitsS at *
  simp only [Bool.and_eq_true, decide_eq_true_eq] at *
  rw [alls_take h, depths_take h, sizes_take h, hp.1, hx.1]
  refine ⟨rfl, ?_, ?_⟩
  · have := hx.2.1; have := hp.2.1; omega
  · have := hx.2.2; have := hp.2.2; omega
theorem fitsL_no {l : List VT} {j : Nat} {x : VT} {d r : Nat} (h : l[j]? = some x) (hx : fitsS x (d + 1) (r - sizes (l.take j)) = false) : fitsL l d r = false := by
  cases hl : fitsL l d r with
  | false => rfl
  | true =>
    rw [← hx]
    unfold fitsL at hl
    unfold fitsS
    simp only [Bool.and_eq_true, decide_eq_true_eq] at hl ⊢
    have h1 := all_at hl.1 h
    have h2 := depth_at h
    have h3 := sizes_take h
    have h4 := sizes_take_le l (j + 1)
    rw [h1, decide_eq_true (show x.depth + (d + 1) ≤ 17 by have := hl.2.1; omega), decide_eq_true (show x.size ≤ r - sizes (l.take j) by have := hl.2.2; omega)]
    rfl
/-- the keys up to one are short -/
theorem short_take {ks : List ByteArray} {j : Nat} {s : ByteArray} (h : ks[j]? = some s) (hp : (ks.take j).all (fun s => decide (s.size ≤ 4096)) = true) (hs : s.size ≤ 4096) : (ks.take (j + 1)).all (fun s => decide (s.size ≤ 4096)) = true := by
  rw [List.take_add_one, h, List.all_append, hp]
  simp [hs]
theorem short_no {ks : List ByteArray} {j : Nat} {s : ByteArray} (h : ks[j]? = some s) (hs : ¬ s.size ≤ 4096) : ks.all (fun s => decide (s.size ≤ 4096)) = false := by
  rw [List.all_eq_false]
  exact ⟨s, List.mem_of_getElem? h, by simpa using hs⟩

/-- what fits leaves: the answer, and how many nodes there is room for -/
def Fits (b : Bool) (r : Nat) (sz : Nat) (p : Nat) (w : World) (e : Ending) (w' : World) : Prop :=
  e = .returned (.bool b) ∧ Below p w w' ∧ ∃ r' : Int, Bk w' p 3 #[.int .i64 r'] ∧ (b = true → r' = ((r - sz : Nat) : Int))

/-- the world behind the first statement -/
def fitW (w : World) (p : Nat) (q : Int) (cs : Array Value) : World := (w.setCell ⟨p, 0, none⟩ (.int .i64 q)).alloc (.cells cs 26)
section
variable {w : World} {p r : Nat} {q : Int} {cs : Array Value}
theorem fitW_bk (hp : Bk w p 3 #[.int .i64 (r : Int)]) : Bk (fitW w p q cs) p 3 #[.int .i64 q] := (hp.put 0 (.int .i64 q)).alloc _
theorem fitW_box (j : Nat) : (fitW w p q cs).cell? ⟨w.heap.size, j, none⟩ = cs[j]? := by
  unfold fitW
  rw [World.cell?_alloc_at _ _ _ _ (by simp [World.setCell])]
theorem fitW_size : (fitW w p q cs).heap.size = w.heap.size + 1 := by simp [fitW, World.setCell]
theorem fitW_below (h : p < w.heap.size) : Below p w (fitW w p q cs) :=
  Below.alloc (Below.setCell (Below.refl _ _) (p := ⟨p, 0, none⟩) (Nat.le_refl _) _) (by simp [World.setCell]; omega) _
end
set_option maxHeartbeats 4000000 in
theorem fits_all (m : Nat) : ∀ (x : VT) (w : World) (v : Value) (d r p : Nat), x.size ≤ m → 1 ≤ d → d ≤ 17 → r ≤ 1000 → Lies w (fun b => b < p) x v → Bk w p 3 #[.int .i64 (r : Int)] →
    Calls Try.prog 94 #[v, .int .i64 (d : Int), .pointer (some ⟨p, 0, none⟩)] w (Fits (fitsS x d r) r x.size p w) := by
  induction m with
  | zero => intro x _ _ _ _ _ h; have := size_pos x; omega
  | succ m ih =>
    intro x w v d r p hsz hd1 hd hr hv hp
    obtain ⟨k, i, t, its, ks⟩ := x
    obtain ⟨A, c, A', c', rfl, _, _, htm, hlc, hcm, hL, hkc, hcm', hS⟩ := hv.open
    rw [VT.size_mk] at hsz
    have HL := Lib.hid hL
    have HS := Lib.hid hS
    have IH := Lib.hid ih
    have hpl := hp.lt
    have P0 := Lib.hid (fitW_bk (q := (r : Int) - 1) (cs := #[.int .i64 k, .int .i64 i, .string t, .slice A its.length c, .slice A' ks.length c']) hp)
    have X0 := Lib.hid (fitW_box (w := w) (p := p) (q := (r : Int) - 1) (cs := #[.int .i64 k, .int .i64 i, .string t, .slice A its.length c, .slice A' ks.length c']))
    have B0 := Lib.hid (fitW_below (w := w) (p := p) (q := (r : Int) - 1) (cs := #[.int .i64 k, .int .i64 i, .string t, .slice A its.length c, .slice A' ks.length c']) hpl)
    have p0 := hp.cell 0
    have p1 := hp.frozen 0
    have p2 := P0.out.cell 0
    have x2 := X0.out 2
    have x3 := X0.out 3
    have x4 := X0.out 4
    clear hL hS ih hv hp
    unfold fitW at p2 x2 x3 x4
    unfold vag
    go_enter Try.func94, Try.ntmps94
    by_cases hr0 : r = 0
    · have g0 : decide ((r : Int) - 1 < 0) = true := decide_eq_true (by omega)
      have hf : fitsS (.mk k i t its ks) d r = false := by
        unfold fitsS
        rw [VT.size_mk, decide_eq_false (show ¬ 1 + sizes its ≤ r by omega), Bool.and_false, Bool.and_false]
      have HF := Lib.hid hf
      have HR0 := Lib.hid hr0
      clear x2 x3 x4 hf hr0
      go_wp2
      go_ret
      exact ⟨ret_bool HF.out.symm, B0.out, _, P0.out, fun h => absurd (HF.out.symm.trans h) (by decide)⟩
    · have g0 : decide ((r : Int) - 1 < 0) = false := decide_eq_false (by omega)
      by_cases hd16 : d = 17
      · have g1 : decide (16 < (d : Int)) = true := decide_eq_true (by omega)
        have hf : fitsS (.mk k i t its ks) d r = false := by
          unfold fitsS
          rw [VT.depth_mk, decide_eq_false (show ¬ depths its + 1 + d ≤ 17 by omega), Bool.false_and, Bool.and_false]
        have HF := Lib.hid hf
        clear x2 x3 x4 hf
        go_wp2
        go_ret
        exact ⟨ret_bool HF.out.symm, B0.out, _, P0.out, fun h => absurd (HF.out.symm.trans h) (by decide)⟩
      · have g1 : decide (16 < (d : Int)) = false := decide_eq_false (by omega)
        by_cases ht : t.size ≤ 4096
        · have g2 : decide (4096 < (t.size : Int)) = false := decide_eq_false (by omega)
          have HT := Lib.hid ht
          clear x3 ht
          go_wp2
          obtain ⟨W, hW⟩ : ∃ W, W = (w.setCell ⟨p, 0, none⟩ (.int .i64 ((r : Int) - 1))).alloc (.cells #[.int .i64 k, .int .i64 i, .string t, .slice A its.length c, .slice A' ks.length c'] 26) := ⟨_, rfl⟩
          have P1 : Hid (Bk W p 3 #[.int .i64 ((r : Int) - 1)]) := Lib.hid (by rw [hW]; exact P0.out)
          have B1 : Hid (Below p w W) := Lib.hid (by rw [hW]; exact B0.out)
          have Y3 : W.cell? ⟨w.heap.size, 3, none⟩ = some (.slice A its.length c) := by rw [hW]; exact X0.out 3
          rw [← hW]
          have HW := Lib.hid hW
          clear hW p0 p1 p2 x2 x4 P0 X0 B0
          go_loopw [33, 8] (fun s _ wr => ∃ j : Nat, j ≤ ks.length ∧ s = .int .i64 j ∧ W = wr ∧ Hid ((ks.take j).all (fun s => decide (s.size ≤ 4096)) = true)) (fun s _ _ => ks.length - (intOf s).toNat)
          case atStart => exact ⟨0, by omega, rfl, rfl, Lib.hid rfl⟩
          case round =>
            obtain ⟨j, hjn, rfl, rfl, ha⟩ := hrel
            by_cases hlt : j < ks.length
            · have hkj : ks[j]? = some (ks.getD j ByteArray.empty) := by rw [List.getD_eq_getElem?_getD, List.getElem?_eq_getElem hlt]; rfl
              obtain ⟨hsz2, g, o, rfl, hg, e0⟩ := HS.out j _ hkj
              rw [← B1.out.cell (p := ⟨g, o + j, none⟩) hg] at e0
              have hst := fun h => short_take hkj ha.out h
              have hno := fun h => short_no hkj h
              generalize ks.getD j ByteArray.empty = s at *
              have HST := Lib.hid hst
              have HNO := Lib.hid hno
              clear hst hno hkj
              by_cases hs : s.size ≤ 4096
              · have g3 : decide (4096 < (s.size : Int)) = false := decide_eq_false (by omega)
                go_wp2
                go_roundw
                case rel => exact ⟨j + 1, by omega, by go_num, trivial, Lib.hid (HST.out hs)⟩
                case measure => simp [intOf]; omega
              · have g3 : decide (4096 < (s.size : Int)) = true := decide_eq_true (by omega)
                have hf : fitsS (.mk k i t its ks) d r = false := by
                  unfold fitsS
                  rw [VT.all_mk, show shortF (.mk k i t its ks) = false from by unfold shortF VT.ks; rw [HNO.out hs, Bool.and_false], Bool.false_and, Bool.false_and]
                have HF := Lib.hid hf
                clear hf
                go_wp2
                go_ret
                exact ⟨ret_bool HF.out.symm, B1.out, _, P1.out, fun h => absurd (HF.out.symm.trans h) (by decide)⟩
            · obtain rfl : j = ks.length := by omega
              have hsh : shortF (.mk k i t its ks) = true := by
                unfold shortF VT.t VT.ks
                rw [decide_eq_true HT.out, Bool.true_and, ← ha.out, List.take_length]
              have HF := Lib.hid (fitsS_mk (k := k) (i := i) hr0 (d := d) hsh)
              clear hsh ha
              go_wp2
              go_loopw [44, 10] (fun s _ wr => ∃ j : Nat, j ≤ its.length ∧ s = .int .i64 j ∧ Hid (fitsL (its.take j) d (r - 1) = true) ∧ Hid (Bk wr p 3 #[.int .i64 ((r - 1 - sizes (its.take j) : Nat) : Int)]) ∧ Hid (Below p W wr)) (fun s _ _ => its.length - (intOf s).toNat)
              case atStart => exact ⟨0, by omega, rfl, Lib.hid (by simp [fitsL, alls, depths, sizes]; omega), Lib.hid (by simpa [sizes, show ((r - 1 : Nat) : Int) = (r : Int) - 1 by omega] using P1.out), Lib.hid (Below.refl _ _)⟩
              case round =>
                obtain ⟨j, hjn, rfl, ha, hq, hb⟩ := hrel
                by_cases hlt : j < its.length
                · obtain ⟨g, o, k', i', t', B, n', c1, B', n1, c2, rfl, hg, e0, e1, e2, e3, e4, hx⟩ := (HL.out).at_ (j := j) (x := its[j]'hlt) (List.getElem?_eq_getElem _)
                  have hj := fun h => fitsL_next (d := d) (r := r - 1) (List.getElem?_eq_getElem (l := its) (i := j) hlt) ha.out h
                  have hno := fun h => fitsL_no (d := d) (r := r - 1) (List.getElem?_eq_getElem (l := its) (i := j) hlt) h
                  have hst := sizes_take (List.getElem?_eq_getElem (l := its) (i := j) hlt)
                  have hle := size_at (List.getElem?_eq_getElem (l := its) (i := j) hlt)
                  have hb' : Below p w wr := B1.out.trans hb.out
                  have hlp := hq.out.lt
                  have cc := fun (q : Nat) => hb'.cell (p := ⟨g, q, none⟩) hg
                  rw [Nat.zero_add] at e0 e1 e2 e3 e4
                  rw [← cc] at e0 e1 e2 e3 e4
                  have hb2 : Below p w (wr.alloc (.cells #[.int .i64 k', .int .i64 i', .string t', .slice B n' c1, .slice B' n1 c2] 26)) := hb'.alloc (by omega) _
                  have hc := IH.out (its[j]'hlt) (wr.alloc (.cells #[.int .i64 k', .int .i64 i', .string t', .slice B n' c1, .slice B' n1 c2] 26)) _ (d + 1) (r - 1 - sizes (its.take j)) p (by omega) (by omega) (by omega) (by omega)
                    (hx.keep (fun q hq => hb2.cell hq) (fun _ h => h)) (hq.out.alloc _)
                  generalize its[j]'hlt = x at *
                  unfold vag at hc
                  rw [show ((d + 1 : Nat) : Int) = (d : Int) + 1 by omega] at hc
                  have HC := Lib.hid hc
                  have HJ := Lib.hid hj
                  have HNO := Lib.hid hno
                  have HB := Lib.hid (hb.out.alloc (by omega : p ≤ wr.heap.size) (.cells #[.int .i64 k', .int .i64 i', .string t', .slice B n' c1, .slice B' n1 c2] 26))
                  have HST := Lib.hid hst
                  clear hc hx hb' cc hj hno hb2 hb hst
                  go_wp2_with fail
                  refine (HC.out).mono ?_
                  rintro e w' ⟨rfl, hb2, r', hq', hr'⟩
                  have HB2 := Lib.hid (HB.out.trans hb2)
                  clear hb2
                  cases hxx : fitsS x (d + 1) (r - 1 - sizes (its.take j)) with
                  | true =>
                    obtain rfl := hr' hxx
                    have HXX := Lib.hid hxx
                    have HQ := Lib.hid hq'
                    clear hxx hq' hr'
                    go_wp2
                    go_roundw
                    case rel => exact ⟨j + 1, by omega, by go_num, Lib.hid (HJ.out HXX.out), Lib.hid (by rw [HST.out, ← Nat.sub_sub]; exact HQ.out), HB2⟩
                    case measure => simp [intOf]; omega
                  | false =>
                    have HXX := Lib.hid (HNO.out hxx)
                    have HQ := Lib.hid hq'
                    clear hxx hq' hr'
                    go_wp2
                    go_ret
                    exact ⟨ret_bool (by rw [HF.out, HXX.out]), B1.out.trans HB2.out, _, HQ.out, fun h => by rw [HF.out, HXX.out] at h; cases h⟩
                · obtain rfl : j = its.length := by omega
                  have HA : Hid (fitsL its d (r - 1) = true) := Lib.hid (by rw [← ha.out, List.take_length])
                  go_wp2
                  go_ret
                  refine ⟨ret_bool (by rw [HF.out, HA.out]), B1.out.trans hb.out, _, hq.out, fun _ => ?_⟩
                  rw [VT.size_mk, List.take_length, Nat.sub_sub]
        · have g2 : decide (4096 < (t.size : Int)) = true := decide_eq_true (by omega)
          have hf : fitsS (.mk k i t its ks) d r = false := by
            unfold fitsS
            rw [VT.all_mk, show shortF (.mk k i t its ks) = false from by unfold shortF VT.t; rw [decide_eq_false ht, Bool.false_and], Bool.false_and, Bool.false_and]
          have HF := Lib.hid hf
          clear hf
          go_wp2
          go_ret
          exact ⟨ret_bool HF.out.symm, B0.out, _, P0.out, fun h => absurd (HF.out.symm.trans h) (by decide)⟩

/-- a value that lies in the world lies below what comes next -/
theorem within_eq (x : VT) : fitsS x 1 1000 = x.within := by
  unfold fitsS VT.within
  by_cases h : x.depth ≤ 16
  · rw [decide_eq_true h, decide_eq_true (show x.depth + 1 ≤ 17 by omega)]
  · rw [decide_eq_false h, decide_eq_false (show ¬ x.depth + 1 ≤ 17 by omega)]

set_option maxHeartbeats 400000 in
theorem within_any {x : VT} {v : Value} {w : World} (h : Lies w (Lo w) x v) : Calls Try.prog 67 #[v] w (Gives (.bool x.within) w) := by
  have hc := fits_all x.size x ((w.alloc (.cells v.cells 26)).alloc (.cells #[.int .i64 (1000 : Nat)] 3)) v 1 1000 (w.heap.size + 1) (Nat.le_refl _) (Nat.le_refl _) (by omega) (Nat.le_refl _)
    (h.keep (fun q hq => ((below_one w _).trans (Below.alloc (Below.refl _ _) (by simp) _)).cell hq) (fun b (hb : b < w.heap.size) => show b < w.heap.size + 1 by omega)) (by have := Bk.new (w.alloc (.cells v.cells 26)) 3 #[.int .i64 (1000 : Nat)]; simpa using this)
  rw [within_eq] at hc
  obtain ⟨k, i, t, its, ks⟩ := x
  obtain ⟨A, c, A', c', rfl, _, _, _, _, _, _, _, _, _⟩ := h.open
  generalize (VT.mk k i t its ks).within = b at *
  generalize (VT.mk k i t its ks).size = sz at *
  unfold vag Value.cells at hc
  unfold vag
  have HC := Lib.hid hc
  clear hc h
  go_enter Try.func67, Try.ntmps67
  go_wp2_with fail
  refine (HC.out).mono ?_
  rintro e w' ⟨rfl, hb, _⟩
  have HB := Lib.hid hb
  clear hb
  go_wp2
  go_ret
  exact ⟨rfl, ((below_one _ _).trans (Below.alloc (Below.refl _ _) (by simp) _)).trans (HB.out.mono (by omega))⟩
end Go.Proofs.Ytidinbeanaifmaa
namespace Go.Proofs.Ytidinbeanaifmaa
open Go.RowKit

theorem results_row2 {P : Program} {fn : Func} {p u : Tmp} {ty : TypeId} (h : fn.results = #[.cell p ty, .tmp u]) (tmps : Array Value) (w : World) (g : Nat) (t : TypeId) (cs : Array Value) (fr : Nat × Nat) (d : TypeDesc)
    (hp : tmps.getD p undef = .pointer (some ⟨g, 0, none⟩)) (hg : w.heap[g]? = some (.cells cs t fr))
    (hu : P.underlying ty = some d) (hd : (match d with | .struct _ | .array _ _ => true | _ => false) = true) (hi : (P.info? ty).map (·.size) = some cs.size) :
    (results fn tmps).run P w = .ok (.tuple #[.agg cs, tmps.getD u undef]) w := by
  rw [results_cell_tmp h, hp]
  simp [asAddr, run_loadVar_row w g t ty cs fr d hg hu hd hi]

/-- the zero value -/
def zeroV : Value := .agg #[.int .i64 0, .int .i64 0, .string ⟨#[]⟩, .slice none 0 0, .slice none 0 0]
theorem zero_lies (w : World) (R : Nat → Prop) : Lies w R nullT zeroV := by
  unfold nullT
  rw [Lies]
  exact ⟨none, 0, none, 0, rfl, by omega, by omega, by decide, Nat.le_refl _, by omega, LiesL.none_, Nat.le_refl _, by omega, LiesS.none_⟩

set_option maxHeartbeats 400000 in
theorem Null_any (w : World) : Calls Try.prog 26 #[] w (Gives zeroV w) := by
  go_enter Try.func26, Try.ntmps26
  go_wp2
  obtain ⟨wf, hwf⟩ : ∃ wf, wf = w.alloc (.cells #[.int .i64 0, .int .i64 0, .string ⟨#[]⟩, .slice none 0 0, .slice none 0 0] 26) := ⟨_, rfl⟩
  have QF : Hid (Bk wf w.heap.size 26 #[.int .i64 0, .int .i64 0, .string ⟨#[]⟩, .slice none 0 0, .slice none 0 0]) := Lib.hid (by rw [hwf]; exact Bk.new _ _ _)
  rw [← hwf]
  refine bodyPost_ret (results_cell_row rfl _ _ w.heap.size 26 _ (0, 0) _ rfl QF.out Try.underlying26 rfl (by kernel_rfl)) rfl ?_
  exact ⟨rfl, by rw [hwf]; exact below_one _ _⟩
set_option maxHeartbeats 400000 in
theorem Int_any (n : Int) (w : World) : Calls Try.prog 22 #[.int .i64 n] w (Gives (.agg #[.int .i64 2, .int .i64 n, .string ⟨#[]⟩, .slice none 0 0, .slice none 0 0]) w) := by
  go_enter Try.func22, Try.ntmps22
  go_wp2
  obtain ⟨wf, hwf⟩ : ∃ wf, wf = w.alloc (.cells #[.int .i64 2, .int .i64 n, .string ⟨#[]⟩, .slice none 0 0, .slice none 0 0] 26) := ⟨_, rfl⟩
  have QF : Hid (Bk wf w.heap.size 26 #[.int .i64 2, .int .i64 n, .string ⟨#[]⟩, .slice none 0 0, .slice none 0 0]) := Lib.hid (by rw [hwf]; exact Bk.new _ _ _)
  rw [← hwf]
  refine bodyPost_ret (results_cell_row rfl _ _ w.heap.size 26 _ (0, 0) _ rfl QF.out Try.underlying26 rfl (by kernel_rfl)) rfl ?_
  exact ⟨rfl, by rw [hwf]; exact below_one _ _⟩
set_option maxHeartbeats 400000 in
theorem Text_any (s : ByteArray) (w : World) : Calls Try.prog 18 #[.string s] w (Gives (.agg #[.int .i64 3, .int .i64 0, .string s, .slice none 0 0, .slice none 0 0]) w) := by
  go_enter Try.func18, Try.ntmps18
  go_wp2
  obtain ⟨wf, hwf⟩ : ∃ wf, wf = w.alloc (.cells #[.int .i64 3, .int .i64 0, .string s, .slice none 0 0, .slice none 0 0] 26) := ⟨_, rfl⟩
  have QF : Hid (Bk wf w.heap.size 26 #[.int .i64 3, .int .i64 0, .string s, .slice none 0 0, .slice none 0 0]) := Lib.hid (by rw [hwf]; exact Bk.new _ _ _)
  rw [← hwf]
  refine bodyPost_ret (results_cell_row rfl _ _ w.heap.size 26 _ (0, 0) _ rfl QF.out Try.underlying26 rfl (by kernel_rfl)) rfl ?_
  exact ⟨rfl, by rw [hwf]; exact below_one _ _⟩

/-- a value and an error -/
def MakesE (x : VT) (r : Int) (w : World) (e : Ending) (w' : World) : Prop := ∃ v, e = .returned (.tuple #[v, .int .i64 r]) ∧ Ownd w' w.heap.size x v ∧ Below w.heap.size w w'
theorem zero_ownd (w : World) (lo : Nat) : Ownd w lo nullT zeroV := by
  unfold nullT
  rw [Ownd]
  exact ⟨none, 0, none, 0, [], rfl, by omega, by omega, by decide, World.ownsRow_nil _ _ _ _, by rw [OwnC], World.ownsRow_nil _ _ _ _, fun s h => by cases h⟩

/-- limited's answer and its error -/
def limT (x : VT) : VT := if x.within = true then x else nullT
def limE (x : VT) : Int := if x.within = true then 0 else 6
theorem limT_yes {x : VT} (h : x.within = true) : limT x = x ∧ limE x = 0 := by unfold limT limE; rw [if_pos h, if_pos h]; exact ⟨rfl, rfl⟩
theorem limT_no {x : VT} (h : x.within = false) : limT x = nullT ∧ limE x = 6 := by unfold limT limE; rw [h]; exact ⟨rfl, rfl⟩

set_option maxRecDepth 100000 in
set_option maxHeartbeats 1000000 in
theorem limited_any {x : VT} {v : Value} {w : World} (h : Lies w (Lo w) x v) (hr : x.all reachF = true) :
    Calls Try.prog 61 #[v] w (MakesE (limT x) (limE x) w) := by
  have HC := Lib.hid (fun (w' : World) (hb : Below w.heap.size w w') => Copy_any (h.below hb) hr)
  have HT := Lib.hid (fun (w' : World) (hb : Below w.heap.size w w') => within_any (h.below hb))
  obtain ⟨k, i, t, its, ks⟩ := x
  obtain ⟨A, c, A', c', rfl, _, _, _, _, _, _, _, _, _⟩ := h.open
  obtain ⟨w2, hw2⟩ : ∃ w2, w2 = (w.alloc (.cells #[.int .i64 k, .int .i64 i, .string t, .slice A its.length c, .slice A' ks.length c'] 26)).alloc (.cells #[.int .i64 0, .int .i64 0, .string ⟨#[]⟩, .slice none 0 0, .slice none 0 0] 26) := ⟨_, rfl⟩
  have B2 : Hid (Below w.heap.size w w2) := Lib.hid (by rw [hw2]; exact (below_one _ _).trans (Below.alloc (Below.refl _ _) (by simp) _))
  have P2 : Hid (Bk w2 w.heap.size 26 #[.int .i64 k, .int .i64 i, .string t, .slice A its.length c, .slice A' ks.length c']) := Lib.hid (by rw [hw2]; exact (Bk.new _ _ _).alloc _)
  have Q2 : Hid (Bk w2 (w.heap.size + 1) 26 #[.int .i64 0, .int .i64 0, .string ⟨#[]⟩, .slice none 0 0, .slice none 0 0]) := Lib.hid (by rw [hw2]; have := Bk.new (w.alloc (.cells #[.int .i64 k, .int .i64 i, .string t, .slice A its.length c, .slice A' ks.length c'] 26)) 26 #[.int .i64 0, .int .i64 0, .string ⟨#[]⟩, .slice none 0 0, .slice none 0 0]; simpa using this)
  have HW := Lib.hid hw2
  have H1 := Lib.hid (HT.out w2 B2.out)
  have LY := Lib.hid (limT_yes (x := VT.mk k i t its ks))
  have LN := Lib.hid (limT_no (x := VT.mk k i t its ks))
  clear h hw2 hr
  generalize hx : VT.mk k i t its ks = x at *
  have HX := Lib.hid hx
  clear hx
  generalize x.within = b at *
  unfold vag at *
  go_enter Try.func61, Try.ntmps61
  go_wp2_with fail
  rw [← HW.out]
  refine (H1.out).mono ?_
  rintro e w3 ⟨rfl, hb⟩
  have P3 := Lib.hid (P2.out.below hb P2.out.lt)
  have Q3 := Lib.hid (Q2.out.below hb Q2.out.lt)
  have B3 := Lib.hid (below_next B2.out hb)
  clear hb
  cases b with
  | true =>
    have L := Lib.hid (LY.out rfl)
    clear LY LN
    have H2 := Lib.hid (HC.out w3 B3.out)
    have a0 := P3.out.cell 0
    have a1 := P3.out.cell 1
    have a2 := P3.out.cell 2
    have a3 := P3.out.cell 3
    have a4 := P3.out.cell 4
    go_wp2_with fail
    refine (H2.out).mono ?_
    rintro e w4 ⟨v, rfl, hov, hb⟩
    have Q4 := Lib.hid (Q3.out.below hb Q3.out.lt)
    have B4 := Lib.hid (below_next B3.out hb)
    obtain ⟨k2, i2, t2, D, n3, c3, D', n4, c4, rfl⟩ := hov.form
    have OV := Lib.hid hov
    have LT3 := Lib.hid Q3.out.lt
    have q0 := Q4.out.cell 0
    have q1 := Q4.out.cell 1
    have q2 := Q4.out.cell 2
    have q3 := Q4.out.cell 3
    have q4 := Q4.out.cell 4
    have f0 := Q4.out.frozen 0
    have f1 := Q4.out.frozen 1
    have f2 := Q4.out.frozen 2
    have f3 := Q4.out.frozen 3
    have f4 := Q4.out.frozen 4
    clear hb hov a0 a1 a2 a3 a4
    go_wp2
    obtain ⟨wf, hwf⟩ : ∃ wf, wf = ((((w4.setCell ⟨w.heap.size + 1, 0, none⟩ (.int .i64 k2)).setCell ⟨w.heap.size + 1, 1, none⟩ (.int .i64 i2)).setCell ⟨w.heap.size + 1, 2, none⟩ (.string t2)).setCell ⟨w.heap.size + 1, 3, none⟩ (.slice D n3 c3)).setCell ⟨w.heap.size + 1, 4, none⟩ (.slice D' n4 c4) := ⟨_, rfl⟩
    have QF : Hid (Bk wf (w.heap.size + 1) 26 #[.int .i64 k2, .int .i64 i2, .string t2, .slice D n3 c3, .slice D' n4 c4]) := Lib.hid (by rw [hwf]; exact ((((Q4.out.put 0 _).put 1 _).put 2 _).put 3 _).put 4 _)
    have SF : Hid (∀ b, b ≠ w.heap.size + 1 → wf.heap[b]? = w4.heap[b]?) := Lib.hid (fun b hb => by
      rw [hwf]; exact ((((Below.heap_setCell _ _ _ _ hb).trans (Below.heap_setCell _ _ _ _ hb)).trans (Below.heap_setCell _ _ _ _ hb)).trans (Below.heap_setCell _ _ _ _ hb)).trans (Below.heap_setCell _ _ _ _ hb))
    have BF : Hid (Below w.heap.size w wf) := Lib.hid (by
      rw [hwf]
      exact ((((B4.out.setCell (p := ⟨w.heap.size + 1, 0, none⟩) (by show w.heap.size ≤ w.heap.size + 1; omega) _).setCell (p := ⟨w.heap.size + 1, 1, none⟩) (by show w.heap.size ≤ w.heap.size + 1; omega) _).setCell (p := ⟨w.heap.size + 1, 2, none⟩) (by show w.heap.size ≤ w.heap.size + 1; omega) _).setCell (p := ⟨w.heap.size + 1, 3, none⟩) (by show w.heap.size ≤ w.heap.size + 1; omega) _).setCell (p := ⟨w.heap.size + 1, 4, none⟩) (by show w.heap.size ≤ w.heap.size + 1; omega) _)
    rw [← hwf]
    refine bodyPost_ret (results_row2 rfl _ _ (w.heap.size + 1) 26 _ (0, 0) _ rfl QF.out Try.underlying26 rfl (by kernel_rfl)) rfl ?_
    rw [L.out.1, L.out.2]
    exact ⟨_, rfl, (OV.out.keep (fun b h1 _ => SF.out b (by have := LT3.out; omega))).mono (by have := LT3.out; omega), BF.out⟩
  | false =>
    have L := Lib.hid (LN.out rfl)
    clear LY LN
    go_wp2_with fail
    refine (Null_any w3).mono ?_
    unfold zeroV
    rintro e w4 ⟨rfl, hb⟩
    have Q4 := Lib.hid (Q3.out.below hb Q3.out.lt)
    have B4 := Lib.hid (below_next B3.out hb)
    have q0 := Q4.out.cell 0
    have q1 := Q4.out.cell 1
    have q2 := Q4.out.cell 2
    have q3 := Q4.out.cell 3
    have q4 := Q4.out.cell 4
    have f0 := Q4.out.frozen 0
    have f1 := Q4.out.frozen 1
    have f2 := Q4.out.frozen 2
    have f3 := Q4.out.frozen 3
    have f4 := Q4.out.frozen 4
    clear hb
    go_wp2
    obtain ⟨wf, hwf⟩ : ∃ wf, wf = ((((w4.setCell ⟨w.heap.size + 1, 0, none⟩ (.int .i64 0)).setCell ⟨w.heap.size + 1, 1, none⟩ (.int .i64 0)).setCell ⟨w.heap.size + 1, 2, none⟩ (.string ⟨#[]⟩)).setCell ⟨w.heap.size + 1, 3, none⟩ (.slice none 0 0)).setCell ⟨w.heap.size + 1, 4, none⟩ (.slice none 0 0) := ⟨_, rfl⟩
    have QF : Hid (Bk wf (w.heap.size + 1) 26 #[.int .i64 0, .int .i64 0, .string ⟨#[]⟩, .slice none 0 0, .slice none 0 0]) := Lib.hid (by rw [hwf]; exact ((((Q4.out.put 0 _).put 1 _).put 2 _).put 3 _).put 4 _)
    have BF : Hid (Below w.heap.size w wf) := Lib.hid (by
      rw [hwf]
      exact ((((B4.out.setCell (p := ⟨w.heap.size + 1, 0, none⟩) (by show w.heap.size ≤ w.heap.size + 1; omega) _).setCell (p := ⟨w.heap.size + 1, 1, none⟩) (by show w.heap.size ≤ w.heap.size + 1; omega) _).setCell (p := ⟨w.heap.size + 1, 2, none⟩) (by show w.heap.size ≤ w.heap.size + 1; omega) _).setCell (p := ⟨w.heap.size + 1, 3, none⟩) (by show w.heap.size ≤ w.heap.size + 1; omega) _).setCell (p := ⟨w.heap.size + 1, 4, none⟩) (by show w.heap.size ≤ w.heap.size + 1; omega) _)
    rw [← hwf]
    refine bodyPost_ret (results_row2 rfl _ _ (w.heap.size + 1) 26 _ (0, 0) _ rfl QF.out Try.underlying26 rfl (by kernel_rfl)) rfl ?_
    rw [L.out.1, L.out.2]
    exact ⟨_, rfl, zero_ownd _ _, BF.out⟩
end Go.Proofs.Ytidinbeanaifmaa
namespace Go.Proofs.Ytidinbeanaifmaa
open Go.RowKit

/-- what a read of an integer leaves: an error, or exactly an encoding -/
theorem int_out (l : List UInt8) (low high : Int) : ∃ a r e, intR l low high = (a, r, e) ∧ (e ≠ 0 ∨ (e = 0 ∧ ∃ k m, k ≤ l.length ∧ m + k = l.length ∧ r.length = m ∧ enc a = l.take k ∧ -9223372036854775808 ≤ a ∧ a ≤ 9223372036854775807)) := by
  rcases intR_ways l low high with (h | h | h) | ⟨k, hk, _, _, h, _, _, he, hv⟩
  · exact ⟨_, _, _, h, .inl (by decide)⟩
  · exact ⟨_, _, _, h, .inl (by decide)⟩
  · exact ⟨_, _, _, h, .inl (by decide)⟩
  · exact ⟨_, _, _, h, .inr ⟨rfl, k, l.length - k, hk, by omega, by rw [List.length_drop], he, (unz_in hv).1, (unz_in hv).2⟩⟩
theorem text_out (l : List UInt8) (most : Int) : ∃ s r e, textR l most = (s, r, e) ∧ (e ≠ 0 ∨ (e = 0 ∧ ∃ k m, k ≤ l.length ∧ m + k = l.length ∧ r.length = m ∧ encText s = l.take k ∧ s.length ≤ l.length)) := by
  rcases intR_ways l 0 most with h | ⟨k, hk, _, _, h, h0, _, he, _⟩
  · have hT : textR l most = ([], [], (intR l 0 most).2.2) ∧ (intR l 0 most).2.2 ≠ 0 := by
      rcases h with h | h | h <;> simp [textR, h]
    exact ⟨_, _, _, hT.1, .inl hT.2⟩
  · obtain ⟨x, hx⟩ : ∃ x : Nat, unz (val (l.take k)) = (x : Int) := ⟨(unz (val (l.take k))).toNat, by omega⟩
    rw [hx] at h he
    by_cases hlen : (l.drop k).length < x
    · have hT : textR l most = ([], [], 4) := by
        unfold textR
        rw [h]
        simp only [ne_eq, not_true_eq_false, ↓reduceIte]
        rw [if_pos (by omega)]
      exact ⟨_, _, _, hT, .inl (by decide)⟩
    · have hT : textR l most = ((l.drop k).take x, (l.drop k).drop x, 0) := by
        unfold textR
        rw [h]
        simp only [ne_eq, not_true_eq_false, ↓reduceIte]
        rw [if_neg (by omega)]
        simp
      have hle : x ≤ l.length - k := by rw [List.length_drop] at hlen; omega
      refine ⟨_, _, _, hT, .inr ⟨rfl, k + x, l.length - (k + x), by omega, by omega, by rw [List.length_drop, List.length_drop]; omega, ?_, by rw [List.length_take, List.length_drop]; omega⟩⟩
      unfold encText
      have hl : ((l.drop k).take x).length = x := by rw [List.length_take, List.length_drop]; omega
      rw [hl, he, List.take_add]
theorem bool_out (l : List UInt8) : ∃ y r e, boolR l = (y, r, e) ∧ (e ≠ 0 ∨ (e = 0 ∧ ∃ k m, k ≤ l.length ∧ m + k = l.length ∧ r.length = m ∧ boolBytes y = l.take k)) := by
  cases l with
  | nil => exact ⟨_, _, _, rfl, .inl (by decide)⟩
  | cons x r =>
    by_cases hx : 1 < x.toNat
    · exact ⟨false, [], 3, show (if 1 < x.toNat then (false, [], 3) else (x.toNat == 1, r, 0)) = _ by rw [if_pos hx], .inl (by decide)⟩
    · refine ⟨x.toNat == 1, r, 0, show (if 1 < x.toNat then (false, [], 3) else (x.toNat == 1, r, 0)) = _ by rw [if_neg hx], .inr ⟨rfl, 1, r.length, by simp, by simp, rfl, ?_⟩⟩
      have h01 : x.toNat = 0 ∨ x.toNat = 1 := by omega
      rcases h01 with h | h
      · obtain rfl : x = 0 := u8_eq (by simpa using h)
        rfl
      · obtain rfl : x = 1 := u8_eq (by simpa using h)
        rfl
theorem PutText_nil (s : List UInt8) (w : World) (hs : s.length ≤ 30368744177000) : Calls Try.prog 132 #[.slice none 0 0, .string ⟨s.toArray⟩] w (OwnRes w (encText s)) := by
  have h := PutText_any none 0 0 [] 0 w ⟨s.toArray⟩ (Rb.nil0 _ _) (Nat.zero_le _) (by omega) (by show s.toArray.size ≤ _; simpa using hs)
  simpa using h
end Go.Proofs.Ytidinbeanaifmaa
namespace Go.Proofs.Ytidinbeanaifmaa
open Go.RowKit

/-- what is read, what is left, how many values have begun; or the error -/
inductive DR (α : Type) where
  | ok (a : α) (l : List UInt8) (n : Nat)
  | err (e : Int)
/-- any integer -/
def intA (l : List UInt8) : Int × List UInt8 × Int := intR l (-9223372036854775808) 9223372036854775807
/-- a string of at most 4096 bytes -/
def decT (l : List UInt8) (n : Nat) : DR ByteArray :=
  if (textR l 9223372036854775807).2.2 ≠ 0 then .err (textR l 9223372036854775807).2.2
  else if (textR l 9223372036854775807).1.length ≤ 4096 then .ok ⟨(textR l 9223372036854775807).1.toArray⟩ (textR l 9223372036854775807).2.1 n else .err 3
/-- the next key, behind the keys that there are -/
def decK (m : Bool) (l : List UInt8) (n : Nat) (ks : List ByteArray) : DR (List ByteArray) :=
  if m = true then
    match decT l n with
    | .err e => .err e
    | .ok key l1 n1 => if ks = [] ∨ less (ks.getLastD ByteArray.empty) key = true then .ok (ks ++ [key]) l1 n1 else .err 3
  else .ok ks l n
def decL (dec : Nat → List UInt8 → DR VT) (m : Bool) : Nat → Nat → List UInt8 → List VT → List ByteArray → DR (List VT × List ByteArray)
  | 0, n, l, its, ks => .ok (its, ks) l n
  | r + 1, n, l, its, ks =>
    match decK m l n ks with
    | .err e => .err e
    | .ok ks1 l1 n1 =>
      match dec n1 l1 with
      | .err e => .err e
      | .ok x l2 n2 => decL dec m r n2 l2 (its ++ [x]) ks1
def decI (dec : Nat → List UInt8 → DR VT) (m : Bool) (n : Nat) (l : List UInt8) : DR (List VT × List ByteArray) :=
  if (intA l).2.2 ≠ 0 then .err (intA l).2.2
  else if (intA l).1 < 0 ∨ 1000 < (intA l).1 then .err 3
  else decL dec m (intA l).1.toNat n (intA l).2.1 [] []
/-- behind the kind -/
def decB (dec : Nat → List UInt8 → DR VT) (k : Int) (n : Nat) (l : List UInt8) : DR VT :=
  if k < 0 ∨ 5 < k then .err 3
  else if k = 0 then .ok nullT l n
  else if k = 1 then
    if (intA l).2.2 ≠ 0 then .err (intA l).2.2
    else if (intA l).1 = 0 ∨ (intA l).1 = 1 then .ok (.mk 1 (intA l).1 ⟨#[]⟩ [] []) (intA l).2.1 n else .err 3
  else if k = 2 then
    if (intA l).2.2 ≠ 0 then .err (intA l).2.2 else .ok (.mk 2 (intA l).1 ⟨#[]⟩ [] []) (intA l).2.1 n
  else if k = 3 then
    match decT l n with
    | .err e => .err e
    | .ok s l1 n1 => .ok (.mk 3 0 s [] []) l1 n1
  else
    match decI dec (decide (k = 5)) n l with
    | .err e => .err e
    | .ok p l1 n1 => .ok (.mk k 0 ⟨#[]⟩ p.1 p.2) l1 n1
/-- a value; so many levels below it are allowed -/
def decV : Nat → Nat → List UInt8 → DR VT
  | 0, _, _ => .err 3
  | f + 1, n, l =>
    if 1000 ≤ n then .err 3
    else if (intA l).2.2 ≠ 0 then .err (intA l).2.2
    else decB (decV f) (intA l).1 (n + 1) (intA l).2.1

/-! ### bounds -/
theorem intA_in (l : List UInt8) : -9223372036854775808 ≤ (intA l).1 ∧ (intA l).1 ≤ 9223372036854775807 := by
  unfold intA
  rcases intR_ways l (-9223372036854775808) 9223372036854775807 with (h | h | h) | ⟨k, _, _, _, h, h1, h2, _⟩
  · rw [h]; omega
  · rw [h]; omega
  · rw [h]; omega
  · rw [h]; exact ⟨h1, h2⟩
theorem intA_err {l : List UInt8} (h : (intA l).2.2 ≠ 0) : intA l = (0, [], (intA l).2.2) := by
  unfold intA at h ⊢
  rcases intR_ways l (-9223372036854775808) 9223372036854775807 with (h1 | h1 | h1) | ⟨k, _, _, _, h1, _⟩
  · rw [h1]
  · rw [h1]
  · rw [h1]
  · rw [h1] at h; exact absurd rfl h
theorem intA_len (l : List UInt8) : (intA l).2.1.length ≤ l.length := by
  unfold intA
  rcases intR_ways l (-9223372036854775808) 9223372036854775807 with (h | h | h) | ⟨k, _, _, _, h, _⟩
  · rw [h]; simp
  · rw [h]; simp
  · rw [h]; simp
  · rw [h]; simp
theorem textA_err {l : List UInt8} (h : (textR l 9223372036854775807).2.2 ≠ 0) : textR l 9223372036854775807 = ([], [], (textR l 9223372036854775807).2.2) := by
  unfold textR at h ⊢
  split
  · rfl
  · split
    · rfl
    · rename_i h1 h2
      rw [if_neg h1, if_neg h2] at h
      exact absurd rfl h
theorem textA_len (l : List UInt8) : (textR l 9223372036854775807).1.length ≤ l.length := by
  obtain ⟨s, r, e, h, h1⟩ := text_out l 9223372036854775807
  rw [h]
  rcases h1 with h1 | ⟨_, _, _, _, _, _, _, h1⟩
  · have := textA_err (l := l) (by rw [h]; exact h1)
    rw [h] at this
    injection this with this
    rw [this]; simp
  · exact h1
theorem textA_rest (l : List UInt8) : (textR l 9223372036854775807).2.1.length ≤ l.length := by
  obtain ⟨s, r, e, h, h1⟩ := text_out l 9223372036854775807
  rw [h]
  rcases h1 with h1 | ⟨_, k, m, hk, hm, hr, _, _⟩
  · have := textA_err (l := l) (by rw [h]; exact h1)
    rw [h] at this
    have h2 := congrArg (fun x => x.2.1) this
    simp only at h2
    rw [h2]; simp
  · show r.length ≤ l.length
    omega

/-! ### what is left is no more than there was; the count goes up -/
def DR.Fits {α : Type} (r : DR α) (l : List UInt8) (n : Nat) : Prop := ∀ a l' n', r = .ok a l' n' → l'.length ≤ l.length ∧ n ≤ n' ∧ (n ≤ 1000 → n' ≤ 1000)
theorem decT_fits (l : List UInt8) (n : Nat) : (decT l n).Fits l n := by
  intro a l' n' h
  unfold decT at h
  split at h
  · cases h
  · split at h
    · injection h with _ h1 h2
      subst h1 h2
      exact ⟨textA_rest l, Nat.le_refl _, id⟩
    · cases h
theorem decK_fits (m : Bool) (l : List UInt8) (n : Nat) (ks : List ByteArray) : (decK m l n ks).Fits l n := by
  intro a l' n' h
  unfold decK at h
  split at h
  · have hf := decT_fits l n
    cases hd : decT l n with
    | err e => rw [hd] at h; cases h
    | ok key l1 n1 =>
      rw [hd] at h
      simp only at h
      split at h
      · injection h with _ h1 h2
        subst h1 h2
        exact hf _ _ _ hd
      · cases h
  · injection h with _ h1 h2
    subst h1 h2
    exact ⟨Nat.le_refl _, Nat.le_refl _, id⟩
theorem decL_fits {dec : Nat → List UInt8 → DR VT} (hd : ∀ n l, (dec n l).Fits l n) (m : Bool) : ∀ (r n : Nat) (l : List UInt8) (its : List VT) (ks : List ByteArray), (decL dec m r n l its ks).Fits l n
  | 0, n, l, its, ks => by
    intro a l' n' h
    rw [decL] at h
    injection h with _ h1 h2
    subst h1 h2
    exact ⟨Nat.le_refl _, Nat.le_refl _, id⟩
  | r + 1, n, l, its, ks => by
    intro a l' n' h
    rw [decL] at h
    have hf := decK_fits m l n ks
    cases hk : decK m l n ks with
    | err e => rw [hk] at h; cases h
    | ok ks1 l1 n1 =>
      rw [hk] at h
      simp only at h
      have h1 := hf _ _ _ hk
      cases hv : dec n1 l1 with
      | err e => rw [hv] at h; cases h
      | ok x l2 n2 =>
        rw [hv] at h
        simp only at h
        have h2 := hd _ _ _ _ _ hv
        have h3 := decL_fits hd m r n2 l2 (its ++ [x]) ks1 _ _ _ h
        exact ⟨by omega, by omega, fun hn => h3.2.2 (h2.2.2 (h1.2.2 hn))⟩
theorem decI_fits {dec : Nat → List UInt8 → DR VT} (hd : ∀ n l, (dec n l).Fits l n) (m : Bool) (n : Nat) (l : List UInt8) : (decI dec m n l).Fits l n := by
  intro a l' n' h
  unfold decI at h
  split at h
  · cases h
  · split at h
    · cases h
    · have h1 := decL_fits hd m _ _ _ _ _ _ _ _ h
      exact ⟨Nat.le_trans h1.1 (intA_len l), h1.2⟩
theorem decB_fits {dec : Nat → List UInt8 → DR VT} (hd : ∀ n l, (dec n l).Fits l n) (k : Int) (n : Nat) (l : List UInt8) : (decB dec k n l).Fits l n := by
  intro a l' n' h
  unfold decB at h
  split at h
  · cases h
  · split at h
    · injection h with _ h1 h2
      subst h1 h2
      exact ⟨Nat.le_refl _, Nat.le_refl _, id⟩
    · split at h
      · split at h
        · cases h
        · split at h
          · injection h with _ h1 h2
            subst h1 h2
            exact ⟨intA_len l, Nat.le_refl _, id⟩
          · cases h
      · split at h
        · split at h
          · cases h
          · injection h with _ h1 h2
            subst h1 h2
            exact ⟨intA_len l, Nat.le_refl _, id⟩
        · split at h
          · have hf := decT_fits l n
            cases hk : decT l n with
            | err e => rw [hk] at h; cases h
            | ok s l1 n1 =>
              rw [hk] at h
              injection h with _ h1 h2
              subst h1 h2
              exact hf _ _ _ hk
          · have hf := decI_fits hd (decide (k = 5)) n l
            cases hk : decI dec (decide (k = 5)) n l with
            | err e => rw [hk] at h; cases h
            | ok s l1 n1 =>
              rw [hk] at h
              injection h with _ h1 h2
              subst h1 h2
              exact hf _ _ _ hk
theorem decV_fits : ∀ (f n : Nat) (l : List UInt8), (decV f n l).Fits l n
  | 0, n, l => by intro a l' n' h; rw [decV] at h; cases h
  | f + 1, n, l => by
    intro a l' n' h
    rw [decV] at h
    split at h
    · cases h
    · rename_i hn
      split at h
      · cases h
      · have h1 := decB_fits (decV_fits f) _ _ _ _ _ _ h
        exact ⟨Nat.le_trans h1.1 (intA_len l), by omega, fun _ => h1.2.2 (by omega)⟩
end Go.Proofs.Ytidinbeanaifmaa
namespace Go.Proofs.Ytidinbeanaifmaa
open Go.RowKit

/-- the error behind a test -/
def reqE (ok : Bool) (e : Int) : Int := if ok = true then e else failS e 3
theorem reqE_yes (e : Int) : reqE true e = e := rfl
theorem reqE_no0 : reqE false 0 = 3 := rfl
theorem reqE_ne {ok : Bool} {e : Int} (h : e ≠ 0) : reqE ok e = e := by
  unfold reqE failS
  cases ok
  · rw [if_neg (by decide), if_neg h]
  · rfl

section
variable {w : World} {p q : Nat} {l : List UInt8} {e b : Int}
set_option maxHeartbeats 400000 in
theorem wreq_any (ok : Bool) (h : WRd w p l e) (hq : Bk w q 90 #[.pointer (some ⟨p, 0, none⟩), .int .i64 b]) : Calls Try.prog 110 #[.pointer (some ⟨q, 0, none⟩), .bool ok] w (Turns (.tuple #[]) w p fun w' => WRd w' p l (reqE ok e)) := by
  have HW := Lib.hid h
  have q0 := hq.cell 0
  change _ = some (Value.pointer (some ⟨p, 0, none⟩)) at q0
  clear h hq
  cases ok with
  | true =>
    go_enter Try.func110, Try.ntmps110
    go_wp2
    go_end0
    exact ⟨rfl, World.grownBy.refl _ _, HW.out⟩
  | false =>
    go_enter Try.func110, Try.ntmps110
    go_wp2_with fail
    refine (wFail_any 3 HW.out).mono ?_
    rintro e1 w' ⟨rfl, hg, hr⟩
    have HG := Lib.hid hg
    have HR := Lib.hid hr
    clear hg hr
    go_wp2
    go_end0
    exact ⟨rfl, HG.out, HR.out⟩
set_option maxHeartbeats 400000 in
theorem wint_any (h : WRd w p l e) (hq : Bk w q 90 #[.pointer (some ⟨p, 0, none⟩), .int .i64 b]) : Calls Try.prog 111 #[.pointer (some ⟨q, 0, none⟩)] w
    (Turns (.int .i64 (intS l e (-9223372036854775808) 9223372036854775807).1) w p fun w' => WRd w' p (intS l e (-9223372036854775808) 9223372036854775807).2.1 (intS l e (-9223372036854775808) 9223372036854775807).2.2) := by
  have HI := Lib.hid (wInt_any (-9223372036854775808) 9223372036854775807 h)
  have q0 := hq.cell 0
  change _ = some (Value.pointer (some ⟨p, 0, none⟩)) at q0
  clear h hq
  generalize intS l e (-9223372036854775808) 9223372036854775807 = r at *
  go_enter Try.func111, Try.ntmps111
  go_wp2_with fail
  refine (HI.out).mono ?_
  rintro e1 w' ⟨rfl, hg, hr⟩
  have HG := Lib.hid hg
  have HR := Lib.hid hr
  clear hg hr
  go_wp2
  go_ret
  exact ⟨rfl, HG.out, HR.out⟩
set_option maxHeartbeats 800000 in
theorem wtext_any (hl : (textS l e 9223372036854775807).1.length ≤ 9223372036854775807) (h : WRd w p l e) (hq : Bk w q 90 #[.pointer (some ⟨p, 0, none⟩), .int .i64 b]) (hqp : q ≠ p) : Calls Try.prog 112 #[.pointer (some ⟨q, 0, none⟩)] w
    (Turns (.string ⟨(textS l e 9223372036854775807).1.toArray⟩) w p fun w' => WRd w' p (textS l e 9223372036854775807).2.1 (reqE (decide ((textS l e 9223372036854775807).1.length ≤ 4096)) (textS l e 9223372036854775807).2.2)) := by
  have HI := Lib.hid (wText_any 9223372036854775807 h)
  have HQ := Lib.hid hq
  have q0 := hq.cell 0
  change _ = some (Value.pointer (some ⟨p, 0, none⟩)) at q0
  clear h hq
  generalize textS l e 9223372036854775807 = r at *
  obtain ⟨s, hs⟩ : ∃ s : ByteArray, s = ⟨r.1.toArray⟩ := ⟨_, rfl⟩
  have hsz : r.1.length = s.size := by rw [hs]; simp [ByteArray.size]
  rw [hsz] at hl ⊢
  rw [← hs] at HI ⊢
  have HSZ := Lib.hid hl
  clear hs hsz hl
  by_cases hle : s.size ≤ 4096
  · have t1 : decide ((s.size : Int) ≤ 4096) = true := by rw [decide_eq_true_eq]; omega
    have e1 : decide (s.size ≤ 4096) = true := decide_eq_true hle
    rw [e1]
    clear hle e1
    have hsb : s.size ≤ 9223372036854775807 := HSZ.out
    go_enter Try.func112, Try.ntmps112
    go_wp2_with fail
    refine (HI.out).mono ?_
    rintro e1 w' ⟨rfl, hg, hr⟩
    have HG := Lib.hid hg
    have HR := Lib.hid hr
    have HQ1 := Lib.hid (HQ.out.grown hg (by intro e; injection e with e; exact hqp e))
    clear hg hr
    go_wp2_with fail
    refine (wreq_any true HR.out HQ1.out).mono ?_
    rintro e1 w2 ⟨rfl, hg, hr⟩
    have HG2 := Lib.hid (grownBy_trans HG.out hg)
    have HR2 := Lib.hid hr
    clear hg hr
    go_wp2
    go_ret
    exact ⟨rfl, HG2.out, HR2.out⟩
  · have t1 : decide ((s.size : Int) ≤ 4096) = false := by rw [decide_eq_false_iff_not]; omega
    have e1 : decide (s.size ≤ 4096) = false := decide_eq_false hle
    rw [e1]
    clear hle e1
    have hsb : s.size ≤ 9223372036854775807 := HSZ.out
    go_enter Try.func112, Try.ntmps112
    go_wp2_with fail
    refine (HI.out).mono ?_
    rintro e1 w' ⟨rfl, hg, hr⟩
    have HG := Lib.hid hg
    have HR := Lib.hid hr
    have HQ1 := Lib.hid (HQ.out.grown hg (by intro e; injection e with e; exact hqp e))
    clear hg hr
    go_wp2_with fail
    refine (wreq_any false HR.out HQ1.out).mono ?_
    rintro e1 w2 ⟨rfl, hg, hr⟩
    have HG2 := Lib.hid (grownBy_trans HG.out hg)
    have HR2 := Lib.hid hr
    clear hg hr
    go_wp2
    go_ret
    exact ⟨rfl, HG2.out, HR2.out⟩
end

section
variable {w : World} {p q : Nat} {l : List UInt8} {e b : Int}
set_option maxHeartbeats 400000 in
theorem rreq_any (ok : Bool) (h : RRd w p l e) (hq : Bk w q 93 #[.pointer (some ⟨p, 0, none⟩), .int .i64 b]) : Calls Try.prog 114 #[.pointer (some ⟨q, 0, none⟩), .bool ok] w (Turns (.tuple #[]) w p fun w' => RRd w' p l (reqE ok e)) := by
  have HW := Lib.hid h
  have q0 := hq.cell 0
  change _ = some (Value.pointer (some ⟨p, 0, none⟩)) at q0
  clear h hq
  cases ok with
  | true =>
    go_enter Try.func114, Try.ntmps114
    go_wp2
    go_end0
    exact ⟨rfl, World.grownBy.refl _ _, HW.out⟩
  | false =>
    go_enter Try.func114, Try.ntmps114
    go_wp2_with fail
    refine (rFail_named 3 HW.out).mono ?_
    rintro e1 w' ⟨rfl, hg, hr⟩
    have HG := Lib.hid hg
    have HR := Lib.hid hr
    clear hg hr
    go_wp2
    go_end0
    exact ⟨rfl, HG.out, HR.out⟩
set_option maxHeartbeats 400000 in
theorem rint_any (h : RRd w p l e) (hq : Bk w q 93 #[.pointer (some ⟨p, 0, none⟩), .int .i64 b]) : Calls Try.prog 115 #[.pointer (some ⟨q, 0, none⟩)] w
    (Turns (.int .i64 (intS l e (-9223372036854775808) 9223372036854775807).1) w p fun w' => RRd w' p (intS l e (-9223372036854775808) 9223372036854775807).2.1 (intS l e (-9223372036854775808) 9223372036854775807).2.2) := by
  have HI := Lib.hid (rInt_any (-9223372036854775808) 9223372036854775807 h)
  have q0 := hq.cell 0
  change _ = some (Value.pointer (some ⟨p, 0, none⟩)) at q0
  clear h hq
  generalize intS l e (-9223372036854775808) 9223372036854775807 = r at *
  go_enter Try.func115, Try.ntmps115
  go_wp2_with fail
  refine (HI.out).mono ?_
  rintro e1 w' ⟨rfl, hg, hr⟩
  have HG := Lib.hid hg
  have HR := Lib.hid hr
  clear hg hr
  go_wp2
  go_ret
  exact ⟨rfl, HG.out, HR.out⟩
set_option maxHeartbeats 800000 in
theorem rtext_any (hl : (textS l e 9223372036854775807).1.length ≤ 9223372036854775807) (h : RRd w p l e) (hq : Bk w q 93 #[.pointer (some ⟨p, 0, none⟩), .int .i64 b]) (hqp : q ≠ p) : Calls Try.prog 116 #[.pointer (some ⟨q, 0, none⟩)] w
    (Turns (.string ⟨(textS l e 9223372036854775807).1.toArray⟩) w p fun w' => RRd w' p (textS l e 9223372036854775807).2.1 (reqE (decide ((textS l e 9223372036854775807).1.length ≤ 4096)) (textS l e 9223372036854775807).2.2)) := by
  have HI := Lib.hid (rText_any 9223372036854775807 h)
  have HQ := Lib.hid hq
  have q0 := hq.cell 0
  change _ = some (Value.pointer (some ⟨p, 0, none⟩)) at q0
  clear h hq
  generalize textS l e 9223372036854775807 = r at *
  obtain ⟨s, hs⟩ : ∃ s : ByteArray, s = ⟨r.1.toArray⟩ := ⟨_, rfl⟩
  have hsz : r.1.length = s.size := by rw [hs]; simp [ByteArray.size]
  rw [hsz] at hl ⊢
  rw [← hs] at HI ⊢
  have HSZ := Lib.hid hl
  clear hs hsz hl
  by_cases hle : s.size ≤ 4096
  · have t1 : decide ((s.size : Int) ≤ 4096) = true := by rw [decide_eq_true_eq]; omega
    have e1 : decide (s.size ≤ 4096) = true := decide_eq_true hle
    rw [e1]
    clear hle e1
    have hsb : s.size ≤ 9223372036854775807 := HSZ.out
    go_enter Try.func116, Try.ntmps116
    go_wp2_with fail
    refine (HI.out).mono ?_
    rintro e1 w' ⟨rfl, hg, hr⟩
    have HG := Lib.hid hg
    have HR := Lib.hid hr
    have HQ1 := Lib.hid (HQ.out.grown hg (by intro e; injection e with e; exact hqp e))
    clear hg hr
    go_wp2_with fail
    refine (rreq_any true HR.out HQ1.out).mono ?_
    rintro e1 w2 ⟨rfl, hg, hr⟩
    have HG2 := Lib.hid (grownBy_trans HG.out hg)
    have HR2 := Lib.hid hr
    clear hg hr
    go_wp2
    go_ret
    exact ⟨rfl, HG2.out, HR2.out⟩
  · have t1 : decide ((s.size : Int) ≤ 4096) = false := by rw [decide_eq_false_iff_not]; omega
    have e1 : decide (s.size ≤ 4096) = false := decide_eq_false hle
    rw [e1]
    clear hle e1
    have hsb : s.size ≤ 9223372036854775807 := HSZ.out
    go_enter Try.func116, Try.ntmps116
    go_wp2_with fail
    refine (HI.out).mono ?_
    rintro e1 w' ⟨rfl, hg, hr⟩
    have HG := Lib.hid hg
    have HR := Lib.hid hr
    have HQ1 := Lib.hid (HQ.out.grown hg (by intro e; injection e with e; exact hqp e))
    clear hg hr
    go_wp2_with fail
    refine (rreq_any false HR.out HQ1.out).mono ?_
    rintro e1 w2 ⟨rfl, hg, hr⟩
    have HG2 := Lib.hid (grownBy_trans HG.out hg)
    have HR2 := Lib.hid hr
    clear hg hr
    go_wp2
    go_ret
    exact ⟨rfl, HG2.out, HR2.out⟩
end

set_option maxHeartbeats 400000 in
theorem good_any {w : World} {p q : Nat} {l : List UInt8} {e b : Int} (g : Bool) (hg : (e == 0) = g) (h : RRd w p l e) (hq : Bk w q 93 #[.pointer (some ⟨p, 0, none⟩), .int .i64 b]) : Calls Try.prog 88 #[.pointer (some ⟨q, 0, none⟩)] w (Says (.bool g) w) := by
  have HW := Lib.hid h
  have q0 := hq.cell 0
  change _ = some (Value.pointer (some ⟨p, 0, none⟩)) at q0
  clear h hq
  go_enter Try.func88, Try.ntmps88
  go_wp2_with fail
  refine (rErr_any HW.out).mono ?_
  rintro e1 w' ⟨rfl, rfl⟩
  go_wp2
  go_ret
  exact ⟨rfl, rfl⟩
end Go.Proofs.Ytidinbeanaifmaa
namespace Go.Proofs.Ytidinbeanaifmaa
open Go.RowKit

/-- append of strings that may be nil onto an owned row of strings -/
theorem run_append_strs {P : Program} (w : World) (base t ty e : Nat) (i : TypeInfo) (z : Value) (ht : P.underlying t = some (.slice e)) (hi : P.info? e = some i) (hz : i.zero = some z)
    (hsize : i.size = 1) (hby : i.bytes = 16) (hzs : z.cells.size = 1)
    (v : Value) (n : Nat) (xs : List Value) (hown : w.ownsRow base e 1 v n xs)
    (R : Nat → Prop) (A : Option Addr) (c : Nat) (l : List ByteArray) (hr : LiesS w R A l)
    (hbytes : (n + l.length) * 16 ≤ 140737488355328) (hbase : base ≤ w.heap.size) :
    ∃ v' w', (Builtin.append_ #[t, t] ty #[v, .slice A l.length c]).run P w = .ok v' w' ∧ w'.ownsRow base e 1 v' (n + l.length) (xs ++ l.map Value.string) ∧ w.grownBy w' v.ownBlock := by
  cases A with
  | none =>
    have hl : l = [] := by
      cases l with
      | nil => rfl
      | cons s r => obtain ⟨_, g, o, e, _⟩ := hr 0 s rfl; cases e
    subst hl
    refine ⟨v, w, ?_, by simpa using hown, World.grownBy.refl w _⟩
    rcases hown.2 with ⟨rfl, rfl⟩ | ⟨g, cap, cur, rfl, _, _, hnc, _⟩
    · simp [Builtin.append_, run_underlying ht, sizeOf, typeInfo, hi, Builtin.lenOf, Builtin.firstCells]
    · simp [Builtin.append_, run_underlying ht, sizeOf, typeInfo, hi, Builtin.lenOf, Builtin.firstCells, hnc, storeCells]
  | some ad =>
    obtain ⟨v', w', h1, h2, h3, _⟩ := run_append_own (P := P) w base t ty e i z 1 16 ht hi hz hsize hby hzs (by decide) v n xs hown ad l.length c (l.map Value.string) (by simp)
      (fun j u hj => by
        rw [List.getElem?_map] at hj
        cases hk : l[j]? with
        | none => rw [hk] at hj; cases hj
        | some s =>
          rw [hk] at hj
          simp at hj
          subst hj
          obtain ⟨_, g, o, e, hg, hc⟩ := hr j s hk
          injection e with e
          subst e
          rw [Addr.add_lit]
          exact hc) (by intro u hu; obtain ⟨s, _, rfl⟩ := List.mem_map.1 hu; rfl) (by unfold maxLen; omega) hbytes hbase
    exact ⟨v', w', h1, h2, h3⟩
theorem wpList_append_strs {P : Program} {w : World} {ops : Array Oper} {rest : List Oper} {o : Oper} {a : Act} {Q : Exit → Act → World → Prop} (hgd : o.guard = none) (s x : Operand) (t : TypeId)
    (ho : o.op = .call { callee := .builtin .append, args := #[s, x], argTypes := #[t, t] })
    (base e : Nat) (i : TypeInfo) (z : Value) (ht : P.underlying t = some (.slice e)) (hi : P.info? e = some i) (hz : i.zero = some z)
    (hsize : i.size = 1) (hby : i.bytes = 16) (hzs : z.cells.size = 1)
    (v : Value) (n : Nat) (xs : List Value) (hs : a.eval s = v) (hown : w.ownsRow base e 1 v n xs)
    (R : Nat → Prop) (A : Option Addr) (c : Nat) (l : List ByteArray) (hx : a.eval x = .slice A l.length c) (hr : LiesS w R A l)
    (hbytes : (n + l.length) * 16 ≤ 140737488355328) (hbase : base ≤ w.heap.size)
    (h : ∀ v' w', w'.ownsRow base e 1 v' (n + l.length) (xs ++ l.map Value.string) → w.grownBy w' v.ownBlock → wpList P ops Q rest (a.put o.dst v') w') : wpList P ops Q (o :: rest) a w := by
  refine wpList_plain hgd fun K hK => ?_
  obtain ⟨v', w', hrun, h2, h3⟩ := run_append_strs (P := P) w base t o.type e i z ht hi hz hsize hby hzs v n xs hown R A c l hr hbytes hbase
  unfold Oper.wp execOp
  simp only [ho, resolve, invoke, builtin, Sem.run_bind, Sem.run_pure, Result.andThen_ok, List.map_toArray, List.map_cons, List.map_nil, hs, hx, hrun]
  exact hK _ _ (h v' w' h2 h3)

theorem Lies.formV {w : World} {R : Nat → Prop} {x : VT} {v : Value} (h : Lies w R x v) : ∃ k i t A n c A' n' c', v = .agg #[.int .i64 k, .int .i64 i, .string t, .slice A n c, .slice A' n' c'] := by
  obtain ⟨k, i, t, its, ks⟩ := x
  obtain ⟨A, c, A', c', rfl, _⟩ := h.open
  exact ⟨k, i, t, A, its.length, c, A', ks.length, c', rfl⟩
/-- an equal value, all of it in new blocks -/
def Fresh (x : VT) (w : World) (e : Ending) (w' : World) : Prop := ∃ v, e = .returned v ∧ Lies w' (fun b => w.heap.size ≤ b ∧ b < w'.heap.size) x v ∧ Below w.heap.size w w'
section
variable {w : World} {R : Nat → Prop}
theorem LiesC.ownR {base c n : Nat} {A : Option Addr} {l : List VT} {cs : List Value} (h : LiesC w R l cs) (hR : ∀ g, base ≤ g → g < w.heap.size → R g) (hn : n = l.length) (ho : w.ownsRow base 26 5 (.slice A n c) n cs) : LiesL w R A 0 l := by
  subst hn
  rcases ho.2 with ⟨_, h0⟩ | ⟨g, cap, cur, hv, hb, hg, _⟩
  · rw [List.eq_nil_of_length_eq_zero h0]; exact LiesL.none_
  · have hA : A = some ⟨g, 0, none⟩ := by injection hv
    subst hA
    refine LiesC.row (hR g hb (Array.getElem?_eq_some_iff.1 hg).1) h (fun j u hj => ?_)
    have := ho.cells (g := g) rfl j u hj
    simpa [Addr.add_lit] using this
theorem strs_ownR {base c n : Nat} {A : Option Addr} {l : List ByteArray} (hs : ∀ s ∈ l, s.size ≤ 9223372036854775807) (hR : ∀ g, base ≤ g → g < w.heap.size → R g) (hn : n = l.length) (ho : w.ownsRow base 9 1 (.slice A n c) n (l.map Value.string)) : LiesS w R A l := by
  subst hn
  intro j s hj
  refine ⟨hs s (List.mem_of_getElem? hj), ?_⟩
  rcases ho.2 with ⟨_, h0⟩ | ⟨g, cap, cur, hv, hb, hg, _⟩
  · rw [List.eq_nil_of_length_eq_zero h0] at hj; simp at hj
  · have hA : A = some ⟨g, 0, none⟩ := by injection hv
    subst hA
    refine ⟨g, 0, rfl, hR g hb (Array.getElem?_eq_some_iff.1 hg).1, ?_⟩
    have := ho.cells (g := g) rfl j (.string s) (by rw [List.getElem?_map, hj]; rfl)
    simpa [Addr.add_lit] using this
end
/-- blocks from B on that are not the row's -/
def Off (B : Nat) (w : World) (v : Value) : Nat → Prop := fun b => B ≤ b ∧ b < w.heap.size ∧ v.ownBlock ≠ some b

set_option maxRecDepth 100000 in
set_option maxHeartbeats 4000000 in
theorem refCopy_all (m : Nat) : ∀ (x : VT) (w : World) (v : Value), x.size ≤ m → x.all reachF = true → Lies w (Lo w) x v → Calls Try.prog 27 #[v] w (Fresh x w) := by
  induction m with
  | zero => intro x _ _ h; have := size_pos x; omega
  | succ m ih =>
    intro x w v hsz hre hv
    obtain ⟨i1, hi1, hz1, hs1, hb1⟩ := info_parts Try.infoS
    obtain ⟨i2, hi2, hz2, hs2, hb2⟩ := info_parts Try.infoV
    have IH := Lib.hid ih
    clear ih
    obtain ⟨k, i, t, its, ks⟩ := x
    obtain ⟨A, c, A', c', rfl, hki, hii, htm, hlc, hcm, hL, hkc, hcm', hS⟩ := hv.open
    rw [VT.size_mk] at hsz
    obtain ⟨r1, r2, r3⟩ := reach_mk hre
    have HK0 := Lib.hid (And.intro hki (And.intro hii htm))
    have HRE := Lib.hid r3
    have R1 := Lib.hid r1
    have HL := Lib.hid hL
    have SS0 := Lib.hid hS.sizes
    have I2 := Lib.hid (And.intro hi2 (And.intro hz2 (And.intro hs2 hb2)))
    have NIL : Hid (∀ (W : World) (b : Nat) (e : TypeId) (s : Nat), W.ownsRow b e s (.slice none 0 0) 0 []) := Lib.hid (fun W b e s => ⟨by simp, Or.inl ⟨rfl, rfl⟩⟩)
    have B3 : Hid (Below w.heap.size w (((w.alloc (.cells #[.int .i64 k, .int .i64 i, .string t, .slice A its.length c, .slice A' ks.length c'] 26)).alloc (.cells #[.int .i64 0, .int .i64 0, .string ⟨#[]⟩, .slice none 0 0, .slice none 0 0] 26)).alloc (.cells #[.int .i64 k, .int .i64 i, .string t, .slice none 0 0, .slice none 0 0] 26))) := Lib.hid (((below_one _ _).trans (Below.alloc (Below.refl _ _) (by simp) _)).trans (Below.alloc (Below.refl _ _) (by simp; omega) _))
    have P3 : Hid (Bk (((w.alloc (.cells #[.int .i64 k, .int .i64 i, .string t, .slice A its.length c, .slice A' ks.length c'] 26)).alloc (.cells #[.int .i64 0, .int .i64 0, .string ⟨#[]⟩, .slice none 0 0, .slice none 0 0] 26)).alloc (.cells #[.int .i64 k, .int .i64 i, .string t, .slice none 0 0, .slice none 0 0] 26)) w.heap.size 26 #[.int .i64 k, .int .i64 i, .string t, .slice A its.length c, .slice A' ks.length c']) := Lib.hid (((Bk.new _ _ _).alloc _).alloc _)
    have Q3 : Hid (Bk (((w.alloc (.cells #[.int .i64 k, .int .i64 i, .string t, .slice A its.length c, .slice A' ks.length c'] 26)).alloc (.cells #[.int .i64 0, .int .i64 0, .string ⟨#[]⟩, .slice none 0 0, .slice none 0 0] 26)).alloc (.cells #[.int .i64 k, .int .i64 i, .string t, .slice none 0 0, .slice none 0 0] 26)) (w.heap.size + 1) 26 #[.int .i64 0, .int .i64 0, .string ⟨#[]⟩, .slice none 0 0, .slice none 0 0]) := Lib.hid (Bk.alloc (by have := Bk.new (w.alloc (.cells #[.int .i64 k, .int .i64 i, .string t, .slice A its.length c, .slice A' ks.length c'] 26)) 26 #[.int .i64 0, .int .i64 0, .string ⟨#[]⟩, .slice none 0 0, .slice none 0 0]; simpa using this) _)
    have U3 : Hid (Bk (((w.alloc (.cells #[.int .i64 k, .int .i64 i, .string t, .slice A its.length c, .slice A' ks.length c'] 26)).alloc (.cells #[.int .i64 0, .int .i64 0, .string ⟨#[]⟩, .slice none 0 0, .slice none 0 0] 26)).alloc (.cells #[.int .i64 k, .int .i64 i, .string t, .slice none 0 0, .slice none 0 0] 26)) (w.heap.size + 1 + 1) 26 #[.int .i64 k, .int .i64 i, .string t, .slice none 0 0, .slice none 0 0]) := Lib.hid (by have := Bk.new ((w.alloc (.cells #[.int .i64 k, .int .i64 i, .string t, .slice A its.length c, .slice A' ks.length c'] 26)).alloc (.cells #[.int .i64 0, .int .i64 0, .string ⟨#[]⟩, .slice none 0 0, .slice none 0 0] 26)) 26 #[.int .i64 k, .int .i64 i, .string t, .slice none 0 0, .slice none 0 0]; simpa using this)
    have N3 : Hid ((((w.alloc (.cells #[.int .i64 k, .int .i64 i, .string t, .slice A its.length c, .slice A' ks.length c'] 26)).alloc (.cells #[.int .i64 0, .int .i64 0, .string ⟨#[]⟩, .slice none 0 0, .slice none 0 0] 26)).alloc (.cells #[.int .i64 k, .int .i64 i, .string t, .slice none 0 0, .slice none 0 0] 26)).heap.size = w.heap.size + 3) := Lib.hid (by simp)
    have S3 := Lib.hid (hS.below B3.out)
    have R2 := Lib.hid r2
    clear hv hL hS hre r1 r2 r3 hki hii htm hi2 hz2 hs2 hb2
    unfold vag
    go_enter Try.func27, Try.ntmps27
    go_wp2_with (at_builtin; refine wpList_append_strs rfl _ _ 22 rfl (w.heap.size + 3) 9 i1 (.string ByteArray.empty) Try.underlying22 hi1 hz1 hs1 hb1 rfl _ 0 [] rfl (NIL.out _ _ _ _) _ A' c' ks rfl S3.out (by have := R2.out; omega) (by have := N3.out; omega) ?_)
    intro v4 w4 hown hg
    obtain ⟨Ak, ck, rfl, hkk, hkm⟩ := own_formN hown
    have b4 : Below (w.heap.size + 3) (((w.alloc (.cells #[.int .i64 k, .int .i64 i, .string t, .slice A its.length c, .slice A' ks.length c'] 26)).alloc (.cells #[.int .i64 0, .int .i64 0, .string ⟨#[]⟩, .slice none 0 0, .slice none 0 0] 26)).alloc (.cells #[.int .i64 k, .int .i64 i, .string t, .slice none 0 0, .slice none 0 0] 26)) w4 := (Below.refl _ _).grown hg (by have := N3.out; omega) (fun k hk => by simp [Value.ownBlock] at hk)
    have P4 := Lib.hid (P3.out.below b4 (by omega))
    have Q4 := Lib.hid (Q3.out.below b4 (by omega))
    have U4 := Lib.hid (U3.out.below b4 (by omega))
    have B4 : Hid (Below w.heap.size w w4) := Lib.hid (B3.out.trans (b4.mono (by omega)))
    have N4 : Hid (w.heap.size + 3 ≤ w4.heap.size) := Lib.hid (by have := b4.size; have := N3.out; omega)
    have OK4 := Lib.hid hown
    have KL := Lib.hid (And.intro hkk hkm)
    have u4 := U4.out.cell 4
    have f4 := U4.out.frozen 4
    change _ = some (Value.slice none 0 0) at u4
    clear hown hg b4 B3 P3 Q3 U3 N3 S3 hi1 hz1 hs1 hb1 hkk hkm
    go_wp2_with fail
    obtain ⟨w5, hw5⟩ : ∃ w5, w5 = w4.setCell ⟨w.heap.size + 1 + 1, 4, none⟩ (.slice Ak ks.length ck) := ⟨_, rfl⟩
    have P5 : Hid (Bk w5 w.heap.size 26 #[.int .i64 k, .int .i64 i, .string t, .slice A its.length c, .slice A' ks.length c']) := Lib.hid (by rw [hw5]; exact P4.out.far (by show w.heap.size ≠ w.heap.size + 1 + 1; omega) _)
    have Q5 : Hid (Bk w5 (w.heap.size + 1) 26 #[.int .i64 0, .int .i64 0, .string ⟨#[]⟩, .slice none 0 0, .slice none 0 0]) := Lib.hid (by rw [hw5]; exact Q4.out.far (by show w.heap.size + 1 ≠ w.heap.size + 1 + 1; omega) _)
    have U5 : Hid (Bk w5 (w.heap.size + 1 + 1) 26 #[.int .i64 k, .int .i64 i, .string t, .slice none 0 0, .slice Ak ks.length ck]) := Lib.hid (by rw [hw5]; exact U4.out.put 4 _)
    have Z5 : Hid (w5.heap.size = w4.heap.size) := Lib.hid (by rw [hw5]; simp [World.setCell])
    have B5 : Hid (Below w.heap.size w w5) := Lib.hid (by rw [hw5]; exact B4.out.setCell (p := ⟨w.heap.size + 1 + 1, 4, none⟩) (by show w.heap.size ≤ w.heap.size + 1 + 1; omega) _)
    have OK5 : Hid (w5.ownsRow (w.heap.size + 3) 9 1 (.slice Ak ks.length ck) ks.length (ks.map Value.string)) := Lib.hid (by
      rw [hw5]; exact own_same OK4.out (fun b h1 _ => Below.heap_setCell _ _ _ _ (by show b ≠ w.heap.size + 1 + 1; omega)))
    have N5 : Hid (w.heap.size + 3 ≤ w5.heap.size) := Lib.hid (by have := Z5.out; have := N4.out; omega)
    rw [← hw5]
    have HW5 := Lib.hid hw5
    clear hw5 u4 f4 P4 Q4 U4 B4 N4 OK4
    go_loopw [4] (fun s wr => ∃ (j : Nat) (Ai : Option Addr) (ci : Nat) (cs : List Value), j ≤ its.length ∧ s = .int .i64 j ∧ Hid (wr.ownsRow w5.heap.size 26 5 (.slice Ai j ci) j cs) ∧
      Hid (LiesC wr (Off w5.heap.size wr (.slice Ai j ci)) (its.take j) cs) ∧ Hid (Bk wr (w.heap.size + 1 + 1) 26 #[.int .i64 k, .int .i64 i, .string t, .slice Ai j ci, .slice Ak ks.length ck]) ∧
      Hid (w5.grownBy wr (some (w.heap.size + 1 + 1)))) (fun s _ => its.length - (intOf s).toNat)
    case atStart => exact ⟨0, none, 0, [], by omega, rfl, Lib.hid (NIL.out _ _ _ _), Lib.hid (by rw [List.take_zero]; exact rfl), U5, Lib.hid (World.grownBy.refl _ _)⟩
    case round =>
      obtain ⟨j, Ai, ci, cs, hjn, rfl, HO, HC, HU, HG⟩ := hrel
      have PR := Lib.hid (P5.out.grown HG.out (by intro e; injection e with e; omega))
      have BW : Hid (Below w.heap.size w wr) := Lib.hid (B5.out.grown HG.out (by have := N5.out; omega) (fun k hk => by injection hk with hk; omega))
      have a3 := PR.out.cell 3
      change _ = some (Value.slice A its.length c) at a3
      have NW : Hid (∀ b, (Value.slice Ai j ci).ownBlock = some b → w5.heap.size ≤ b ∧ b < wr.heap.size) := Lib.hid (HO.out.lt)
      by_cases hlt : j < its.length
      · have h1 := List.getElem?_eq_getElem (l := its) (i := j) hlt
        have hre := all_at HRE.out h1
        have hle := size_at h1
        obtain ⟨g, o, k', i', t', E, n1, c1, E', n2, c2, rfl, hg, e0, e1, e2, e3, e4, hx⟩ := (HL.out).at_ h1
        have htk : its.take (j + 1) = its.take j ++ [its[j]'hlt] := by rw [List.take_add_one, h1]; rfl
        generalize its[j]'hlt = x at *
        have cc := fun (q : Nat) => BW.out.cell (p := ⟨g, q, none⟩) hg
        rw [Nat.zero_add] at e0 e1 e2 e3 e4
        rw [← cc] at e0 e1 e2 e3 e4
        have u3 := HU.out.cell 3
        have uf := HU.out.frozen 3
        change _ = some (Value.slice Ai j ci) at u3
        have kA := And.intro a3 (And.intro e0 (And.intro e1 (And.intro e2 (And.intro e3 e4))))
        have hgl : g < w.heap.size := hg
        have MV : Hid (∀ W' : World, (∀ b q, b ≤ w.heap.size → W'.cell? ⟨b, q, none⟩ = wr.cell? ⟨b, q, none⟩) → W'.cell? ⟨w.heap.size, 3, none⟩ = some (.slice (some ⟨g, o, none⟩) its.length c) ∧ W'.cell? ⟨g, o + j * 5, none⟩ = some (.int .i64 k') ∧ W'.cell? ⟨g, o + j * 5 + 1, none⟩ = some (.int .i64 i') ∧ W'.cell? ⟨g, o + j * 5 + 2, none⟩ = some (.string t') ∧ W'.cell? ⟨g, o + j * 5 + 3, none⟩ = some (.slice E n1 c1) ∧ W'.cell? ⟨g, o + j * 5 + 4, none⟩ = some (.slice E' n2 c2)) := Lib.hid (fun W' h => by
          rw [h _ _ (Nat.le_refl _), h _ _ (Nat.le_of_lt hgl), h _ _ (Nat.le_of_lt hgl), h _ _ (Nat.le_of_lt hgl), h _ _ (Nat.le_of_lt hgl), h _ _ (Nat.le_of_lt hgl)]
          exact kA)
        have HCW : Hid (∀ W, Below wr.heap.size wr W → Calls Try.prog 27 #[.agg #[.int .i64 k', .int .i64 i', .string t', .slice E n1 c1, .slice E' n2 c2]] W (Fresh x W)) := Lib.hid (fun W hb => IH.out x W _ (by omega) hre (hx.below (BW.out.trans (hb.mono BW.out.size))))
        have HTK := Lib.hid htk
        have HJN := Lib.hid hlt
        have PA := Lib.hid (And.intro PR.out.lt HU.out.lt)
        have LIM : Hid ((j + 1) * 80 ≤ 140737488355328) := Lib.hid (by have := R1.out; omega)
        have HN := Lib.hid (And.intro N5.out HG.out.size)
        have NOB : Hid (∀ b, b < w5.heap.size → (Value.slice Ai j ci).ownBlock ≠ some b) := Lib.hid (fun b hb e => by have := (NW.out b e).1; omega)
        have PA2 := Lib.hid (And.intro (show w.heap.size < w5.heap.size by have := N5.out; omega) (And.intro (show w.heap.size + 1 + 1 < w5.heap.size by have := N5.out; omega) (show g < w5.heap.size by have := N5.out; omega)))
        have FRB : Hid (∀ W, Below wr.heap.size wr W → W.frozen? ⟨w.heap.size + 1 + 1, 3, none⟩ = false) := Lib.hid (fun W hb => (HU.out.below hb HU.out.lt).frozen 3)
        clear cc hx htk hre h1 e0 e1 e2 e3 e4 hlt
        go_wp2_with fail
        have r0 := kA.1
        have r1 := kA.2.1
        have r2 := kA.2.2.1
        have r3 := kA.2.2.2.1
        have r4 := kA.2.2.2.2.1
        have r5 := kA.2.2.2.2.2
        clear kA
        go_region_law (first
            | (refine step_append_lies _ (by rfl) _ _ _ (by rfl) w5.heap.size 26 i2 _ 5 80 Try.underlying23 I2.out.1 I2.out.2.1 I2.out.2.2.1 I2.out.2.2.2 rfl (by omega) (.slice Ai j ci) j cs (by rfl) (by first | exact HOB.out.alloc _ | exact (HOB.out.alloc _).drew | exact HOB.out.drew.alloc _) ⟨wB.heap.size, 0, none⟩ 1 1 [.int .i64 k2, .int .i64 i2', .string t2, .slice D n3 c3, .slice D' n4 c4] (by rfl) (by rfl) (World.news_of_block (cs := #[.int .i64 k2, .int .i64 i2', .string t2, .slice D n3 c3, .slice D' n4 c4]) (t := 26) (fr := (0, 0)) (heap_alloc_new wB _)) (by simp [Value.oneCell']) (by omega) (by have := LIM.out; unfold maxLen; omega) LIM.out (by have := HB2.out.size; have := HN.out.2; simp; omega) (wB.heap.size + 1) (by simp) ?_; intro g2 cap w1 hown1 hgrow hat hlt; have HGW : Hid (wB.grownBy w1 (Value.slice Ai j ci).ownBlock) := Lib.hid (by first | exact grownBy_trans (World.grownBy_alloc wB _ _) hgrow | exact grownBy_trans ⟨rfl, rfl, rfl, by simp, fun b hb _ => Below.heap_alloc wB _ b hb⟩ hgrow); have MC : Hid (∀ b q, b ≤ w.heap.size → w1.cell? ⟨b, q, none⟩ = wr.cell? ⟨b, q, none⟩) := Lib.hid (fun b q hb => (HGW.out.cell_far ⟨b, q, none⟩ (Nat.lt_of_le_of_lt hb (Nat.lt_of_lt_of_le PA.out.1 HB2.out.size)) (Ne.symm (NOB.out _ (Nat.lt_of_le_of_lt hb PA2.out.1)))).trans (MB.out b q hb)); have kC := MV.out w1 MC.out; obtain ⟨d0, d1, d2, d3, d4, d5⟩ := kC; have KD : Hid (∀ u, (w1.setCell ⟨w.heap.size + 1 + 1, 3, none⟩ u).cell? ⟨w.heap.size, 3, none⟩ = some (.slice (some ⟨g, o, none⟩) its.length c) ∧ (w1.setCell ⟨w.heap.size + 1 + 1, 3, none⟩ u).cell? ⟨g, o + j * 5, none⟩ = some (.int .i64 k') ∧ (w1.setCell ⟨w.heap.size + 1 + 1, 3, none⟩ u).cell? ⟨g, o + j * 5 + 1, none⟩ = some (.int .i64 i') ∧ (w1.setCell ⟨w.heap.size + 1 + 1, 3, none⟩ u).cell? ⟨g, o + j * 5 + 2, none⟩ = some (.string t') ∧ (w1.setCell ⟨w.heap.size + 1 + 1, 3, none⟩ u).cell? ⟨g, o + j * 5 + 3, none⟩ = some (.slice E n1 c1) ∧ (w1.setCell ⟨w.heap.size + 1 + 1, 3, none⟩ u).cell? ⟨g, o + j * 5 + 4, none⟩ = some (.slice E' n2 c2)) := Lib.hid (fun u => MV.out _ (fun b q hb => (World.cell?_of_block (Below.heap_setCell _ _ _ _ (show b ≠ w.heap.size + 1 + 1 by omega))).trans (MC.out b q hb))); have f3 : w1.frozen? ⟨w.heap.size + 1 + 1, 3, none⟩ = false := (HGW.out.frozen_far ⟨w.heap.size + 1 + 1, 3, none⟩ uzB (Ne.symm (NOB.out _ PA2.out.2.1))).trans (FRB.out _ HB2.out); have u31 := (HGW.out.cell_far ⟨w.heap.size + 1 + 1, 3, none⟩ uzB (Ne.symm (NOB.out _ PA2.out.2.1))).trans u3B)
            | (go_simp; go_at_call 27; refine (HCW.out _ (by first | exact Below.refl _ _ | exact (Below.refl _ _).drew)).mono ?_; rintro _ wB ⟨vx, rfl, hox, hbx⟩; obtain ⟨k2, i2', t2, D, n3, c3, D', n4, c4, rfl⟩ := hox.formV; have HOX := Lib.hid hox; clear hox; have HB2 : Hid (Below wr.heap.size wr wB) := Lib.hid ⟨hbx.os, hbx.tape, hbx.output, hbx.size, hbx.block⟩; have HOB := Lib.hid (own_same (lo := w5.heap.size) HO.out (same_of_below HB2.out (Nat.le_refl _))); have MB : Hid (∀ b q, b ≤ w.heap.size → wB.cell? ⟨b, q, none⟩ = wr.cell? ⟨b, q, none⟩) := Lib.hid (fun b q hb => HB2.out.cell (p := ⟨b, q, none⟩) (Nat.lt_of_le_of_lt hb PA.out.1)); have kB := MV.out wB MB.out; have u3B := (HB2.out.cell (p := ⟨w.heap.size + 1 + 1, 3, none⟩) PA.out.2).trans u3; have uzB : w.heap.size + 1 + 1 < wB.heap.size := Nat.lt_of_lt_of_le PA.out.2 HB2.out.size; obtain ⟨b0, b1, b2, b3, b4, b5⟩ := kB))
        all_goals (
          obtain ⟨wf, hwf⟩ : ∃ wf, wf = w1.setCell ⟨w.heap.size + 1 + 1, 3, none⟩ (.slice (some ⟨g2, 0, none⟩) (j + 1) cap) := ⟨_, rfl⟩
          have zf : wf.heap.size = w1.heap.size := by rw [hwf]; simp [World.setCell]
          have z1 := HGW.out.size
          have zB := HB2.out.size
          have z5 := HN.out.2
          have z0 := HN.out.1
          have FU : Hid (Bk wf (w.heap.size + 1 + 1) 26 #[.int .i64 k, .int .i64 i, .string t, (.slice (some ⟨g2, 0, none⟩) (j + 1) cap), .slice Ak ks.length ck]) := Lib.hid (by
            rw [hwf]; exact ((HU.out.below HB2.out HU.out.lt).grown HGW.out (Ne.symm (NOB.out _ PA2.out.2.1))).put 3 _)
          have FO : Hid (wf.ownsRow w5.heap.size 26 5 (.slice (some ⟨g2, 0, none⟩) (j + 1) cap) (j + 1) (cs ++ [.int .i64 k2, .int .i64 i2', .string t2, .slice D n3 c3, .slice D' n4 c4])) := Lib.hid (by
            rw [hwf]; exact own_same (lo := w5.heap.size) hown1 (fun b h1 _ => Below.heap_setCell _ _ _ _ (show b ≠ w.heap.size + 1 + 1 by omega)))
          have CF : ∀ p : Addr, p.block < wB.heap.size → p.block ≠ w.heap.size + 1 + 1 → (Value.slice Ai j ci).ownBlock ≠ some p.block → wf.cell? p = wB.cell? p := fun p h1 h2 h3 => by
            rw [hwf]; exact (World.cell?_of_block (Below.heap_setCell _ _ _ _ h2)).trans (HGW.out.cell_far p h1 (Ne.symm h3))
          have hOld : LiesC wf (Off w5.heap.size wf (.slice (some ⟨g2, 0, none⟩) (j + 1) cap)) (its.take j) cs := by
            refine HC.out.keep (fun p hp => ?_) (fun b hp => ?_)
            · obtain ⟨h1, h2, h3⟩ := hp
              exact (CF p (by omega) (by omega) h3).trans (HB2.out.cell h2)
            · obtain ⟨h1, h2, h3⟩ := hp
              refine ⟨h1, by omega, fun e => ?_⟩
              have e' : g2 = b := by simpa [Value.ownBlock] using e
              rcases hat with h | h
              · exact h3 (by rw [h, e'])
              · omega
          have hNew : Lies wf (Off w5.heap.size wf (.slice (some ⟨g2, 0, none⟩) (j + 1) cap)) x (.agg #[.int .i64 k2, .int .i64 i2', .string t2, .slice D n3 c3, .slice D' n4 c4]) := by
            refine HOX.out.keep (fun p hp => ?_) (fun b hp => ?_)
            · obtain ⟨h1, h2⟩ := hp
              have h1' : wr.heap.size ≤ p.block := h1
              exact CF p h2 (by omega) (fun e => by have := (NW.out _ e).2; omega)
            · obtain ⟨h1, h2⟩ := hp
              have h1' : wr.heap.size ≤ b := h1
              refine ⟨by omega, by omega, fun e => ?_⟩
              have e' : g2 = b := by simpa [Value.ownBlock] using e
              rcases hat with h | h
              · have := (NW.out _ h).2; omega
              · omega
          have FC : Hid (LiesC wf (Off w5.heap.size wf (.slice (some ⟨g2, 0, none⟩) (j + 1) cap)) (its.take (j + 1)) (cs ++ [.int .i64 k2, .int .i64 i2', .string t2, .slice D n3 c3, .slice D' n4 c4])) := Lib.hid (by
            rw [HTK.out]; exact LiesC.append hOld ⟨_, _, _, _, _, [], rfl, hNew, rfl⟩)
          have FG : Hid (w5.grownBy wf (some (w.heap.size + 1 + 1))) := Lib.hid (by
            refine ⟨?_, ?_, ?_, by omega, fun b hb hne => ?_⟩
            · rw [hwf]; exact HGW.out.os.trans (HB2.out.os.trans HG.out.os)
            · rw [hwf]; exact HGW.out.tape.trans (HB2.out.tape.trans HG.out.tape)
            · rw [hwf]; exact HGW.out.output.trans (HB2.out.output.trans HG.out.output)
            · rw [hwf]; exact (Below.heap_setCell _ _ _ _ (fun e => hne (by rw [e]))).trans ((HGW.out.block b (by omega) (Ne.symm (NOB.out b hb))).trans ((HB2.out.block b (by omega)).trans (HG.out.block b hb hne))))
          rw [← hwf]
          clear hwf hown1 hgrow hat hlt CF hOld hNew zf z1 zB z5 z0 HOX HOB HGW KD hbx
          go_wp2
          go_roundw
          case rel => exact ⟨j + 1, some ⟨g2, 0, none⟩, cap, _, by have := HJN.out; omega, by go_num, FO, FC, FU, FG⟩
          case measure => have := HJN.out; simp [intOf]; omega)
      · obtain rfl : j = its.length := by omega
        have QR := Lib.hid (Q5.out.grown HG.out (by intro e; injection e with e; omega))
        have OKR := Lib.hid (OK5.out.kept HG.out (by
          cases h : (Value.slice Ak ks.length ck).ownBlock with
          | none => exact Or.inl rfl
          | some gk => exact Or.inr (fun e => by injection e with e; have := (OK5.out.lt gk h).1; omega)))
        have u0 := HU.out.cell 0
        have u1 := HU.out.cell 1
        have u2 := HU.out.cell 2
        have u3 := HU.out.cell 3
        have u4 := HU.out.cell 4
        have r0 := QR.out.frozen 0
        have r1 := QR.out.frozen 1
        have r2 := QR.out.frozen 2
        have r3 := QR.out.frozen 3
        have r4 := QR.out.frozen 4
        have z0 := QR.out.cell 0
        have z1 := QR.out.cell 1
        have z2 := QR.out.cell 2
        have z3 := QR.out.cell 3
        have z4 := QR.out.cell 4
        change _ = some (Value.int .i64 k) at u0
        change _ = some (Value.int .i64 i) at u1
        change _ = some (Value.string t) at u2
        change _ = some (Value.slice Ai its.length ci) at u3
        change _ = some (Value.slice Ak ks.length ck) at u4
        go_wp2
        obtain ⟨wf, hwf⟩ : ∃ wf, wf = ((((wr.setCell ⟨w.heap.size + 1, 0, none⟩ (.int .i64 k)).setCell ⟨w.heap.size + 1, 1, none⟩ (.int .i64 i)).setCell ⟨w.heap.size + 1, 2, none⟩ (.string t)).setCell ⟨w.heap.size + 1, 3, none⟩ (.slice Ai its.length ci)).setCell ⟨w.heap.size + 1, 4, none⟩ (.slice Ak ks.length ck) := ⟨_, rfl⟩
        have QF : Hid (Bk wf (w.heap.size + 1) 26 #[.int .i64 k, .int .i64 i, .string t, .slice Ai its.length ci, .slice Ak ks.length ck]) := Lib.hid (by rw [hwf]; exact ((((QR.out.put 0 _).put 1 _).put 2 _).put 3 _).put 4 _)
        have SF : Hid (∀ b, b ≠ w.heap.size + 1 → wf.heap[b]? = wr.heap[b]?) := Lib.hid (fun b hb => by
          rw [hwf]; exact ((((Below.heap_setCell _ _ _ _ hb).trans (Below.heap_setCell _ _ _ _ hb)).trans (Below.heap_setCell _ _ _ _ hb)).trans (Below.heap_setCell _ _ _ _ hb)).trans (Below.heap_setCell _ _ _ _ hb))
        have BF : Hid (Below w.heap.size w wf) := Lib.hid (by
          rw [hwf]
          exact ((((BW.out.setCell (p := ⟨w.heap.size + 1, 0, none⟩) (by show w.heap.size ≤ w.heap.size + 1; omega) _).setCell (p := ⟨w.heap.size + 1, 1, none⟩) (by show w.heap.size ≤ w.heap.size + 1; omega) _).setCell (p := ⟨w.heap.size + 1, 2, none⟩) (by show w.heap.size ≤ w.heap.size + 1; omega) _).setCell (p := ⟨w.heap.size + 1, 3, none⟩) (by show w.heap.size ≤ w.heap.size + 1; omega) _).setCell (p := ⟨w.heap.size + 1, 4, none⟩) (by show w.heap.size ≤ w.heap.size + 1; omega) _)
        have ZF : Hid (wf.heap.size = wr.heap.size) := Lib.hid (by rw [hwf]; simp [World.setCell])
        rw [← hwf]
        refine bodyPost_ret (results_cell_row rfl _ _ (w.heap.size + 1) 26 #[.int .i64 k, .int .i64 i, .string t, .slice Ai its.length ci, .slice Ak ks.length ck] (0, 0) _ rfl QF.out Try.underlying26 rfl (by kernel_rfl)) rfl ?_
        refine ⟨_, rfl, ?_, BF.out⟩
        have hsz := ZF.out
        have hn5 := N5.out
        have hb := own_bounds HO.out
        have hkl := KL.out
        unfold maxLen at hkl
        rw [Lies]
        refine ⟨Ai, ci, Ak, ck, rfl, HK0.out.1, HK0.out.2.1, HK0.out.2.2, hb.1, hb.2, ?_, hkl.1, hkl.2, ?_⟩
        · refine LiesC.ownR (cs := cs) (base := w5.heap.size) ?_ (fun g h1 h2 => ⟨by omega, h2⟩) rfl (own_same (lo := w5.heap.size) HO.out (fun b h1 _ => SF.out b (by omega)))
          have hC := HC.out
          rw [List.take_length] at hC
          exact hC.keep (fun p hp => World.cell?_of_block (SF.out _ (by have := hp.1; omega))) (fun b hp => ⟨by have := hp.1; omega, by have := hp.2.1; omega⟩)
        · exact strs_ownR (base := w.heap.size + 3) SS0.out (fun g h1 h2 => ⟨by omega, h2⟩) rfl (own_same (lo := w.heap.size + 3) OKR.out (fun b h1 _ => SF.out b (by omega)))
theorem refCopy_any {x : VT} {v : Value} {w : World} (h : Lies w (Lo w) x v) (hr : x.all reachF = true) : Calls Try.prog 27 #[v] w (Fresh x w) := refCopy_all x.size x w v (Nat.le_refl _) hr h
end Go.Proofs.Ytidinbeanaifmaa
