/-
  slices.Clone at strings and at values; rows of values by their cells.
-/
import Derived.Test.YtidinbeanaifmaaVasc
import Derived.WalkSpells
namespace Go.Proofs.Ytidinbeanaifmaa
open Go.RowKit

/-- cells that read as values, five a value -/
def LiesC (w : World) (R : Nat → Prop) : List VT → List Value → Prop
  | [], cs => cs = []
  | x :: r, cs => ∃ a b s y z rest, cs = a :: b :: s :: y :: z :: rest ∧ Lies w R x (.agg #[a, b, s, y, z]) ∧ LiesC w R r rest
section
variable {w w' : World} {R R' : Nat → Prop}
theorem LiesC.len : ∀ {l : List VT} {cs : List Value}, LiesC w R l cs → cs.length = l.length * 5
  | [], cs, h => by
    have h : cs = [] := h
    rw [h]; rfl
  | x :: r, cs, h => by
    obtain ⟨a, b, s, y, z, rest, rfl, _, hr⟩ := h
    have := LiesC.len hr
    simp only [List.length_cons]
    omega
theorem LiesC.keep (hk : ∀ p : Addr, R p.block → w'.cell? p = w.cell? p) (hR : ∀ b, R b → R' b) : ∀ {l : List VT} {cs : List Value}, LiesC w R l cs → LiesC w' R' l cs
  | [], _, h => h
  | x :: r, cs, h => by
    obtain ⟨a, b, s, y, z, rest, rfl, hx, hr⟩ := h
    exact ⟨a, b, s, y, z, rest, rfl, hx.keep hk hR, hr.keep hk hR⟩
theorem LiesC.below {l : List VT} {cs : List Value} (h : LiesC w (Lo w) l cs) (hb : Below w.heap.size w w') : LiesC w' (Lo w') l cs :=
  h.keep (fun _ hp => hb.cell hp) (fun b (h : b < _) => show b < _ from Nat.lt_of_lt_of_le h hb.size)
theorem Lies.one {x : VT} {a b s y z : Value} (h : Lies w R x (.agg #[a, b, s, y, z])) : a.oneCell' = true ∧ b.oneCell' = true ∧ s.oneCell' = true ∧ y.oneCell' = true ∧ z.oneCell' = true := by
  obtain ⟨k, i, t, its, ks⟩ := x
  obtain ⟨A, c, A', c', e, _⟩ := h.open
  unfold vag at e
  simp only [Value.agg.injEq, Array.mk.injEq, List.cons.injEq, and_true] at e
  obtain ⟨rfl, rfl, rfl, rfl, rfl⟩ := e
  exact ⟨rfl, rfl, rfl, rfl, rfl⟩
theorem LiesC.one : ∀ {l : List VT} {cs : List Value}, LiesC w R l cs → ∀ u ∈ cs, u.oneCell' = true
  | [], cs, h, u, hu => by
    have h : cs = [] := h
    subst h
    cases hu
  | x :: r, cs, h, u, hu => by
    obtain ⟨a, b, s, y, z, rest, rfl, hx, hr⟩ := h
    obtain ⟨h1, h2, h3, h4, h5⟩ := hx.one
    simp only [List.mem_cons] at hu
    rcases hu with rfl | rfl | rfl | rfl | rfl | hu
    · exact h1
    · exact h2
    · exact h3
    · exact h4
    · exact h5
    · exact LiesC.one hr u hu
/-- a row's cells, as a list -/
theorem LiesL.cells {A : Option Addr} : ∀ {l : List VT} {m : Nat}, LiesL w R A m l → ∃ cs, LiesC w R l cs ∧ ∀ j u, cs[j]? = some u → ∃ g o, A = some ⟨g, o, none⟩ ∧ R g ∧ w.cell? ⟨g, o + (m * 5 + j), none⟩ = some u
  | [], m, _ => ⟨[], rfl, fun j u h => by simp at h⟩
  | x :: r, m, h => by
    obtain ⟨⟨g, o, a, b, s, y, z, hA, hg, h0, h1, h2, h3, h4, hx⟩, hr⟩ := h.cons
    obtain ⟨cs, hc, hcs⟩ := LiesL.cells hr
    refine ⟨a :: b :: s :: y :: z :: cs, ⟨a, b, s, y, z, cs, rfl, hx, hc⟩, fun j u hj => ?_⟩
    match j with
    | 0 => simp at hj; subst hj; exact ⟨g, o, hA, hg, by rw [← h0]; rfl⟩
    | 1 => simp at hj; subst hj; exact ⟨g, o, hA, hg, by rw [← h1]; rfl⟩
    | 2 => simp at hj; subst hj; exact ⟨g, o, hA, hg, by rw [← h2]; rfl⟩
    | 3 => simp at hj; subst hj; exact ⟨g, o, hA, hg, by rw [← h3]; rfl⟩
    | 4 => simp at hj; subst hj; exact ⟨g, o, hA, hg, by rw [← h4]; rfl⟩
    | j + 5 =>
      obtain ⟨g', o', e, hg', hc'⟩ := hcs j u (by simpa using hj)
      refine ⟨g', o', e, hg', ?_⟩
      rw [← hc']
      congr 2
      omega
/-- cells in a row read as the values -/
theorem LiesC.row {g o : Nat} (hg : R g) : ∀ {l : List VT} {cs : List Value} {m : Nat}, LiesC w R l cs → (∀ j u, cs[j]? = some u → w.cell? ⟨g, o + (m * 5 + j), none⟩ = some u) → LiesL w R (some ⟨g, o, none⟩) m l
  | [], _, m, _, _ => LiesL.none_
  | x :: r, cs, m, h, hc => by
    obtain ⟨a, b, s, y, z, rest, rfl, hx, hr⟩ := h
    rw [LiesL]
    refine ⟨⟨g, o, a, b, s, y, z, rfl, hg, hc 0 a rfl, hc 1 b rfl, hc 2 s rfl, hc 3 y rfl, hc 4 z rfl, hx⟩, LiesC.row hg hr (fun j u hj => ?_)⟩
    rw [← hc (j + 5) u (by simpa using hj)]
    congr 2
    omega
theorem LiesC.append : ∀ {l l' : List VT} {cs cs' : List Value}, LiesC w R l cs → LiesC w R l' cs' → LiesC w R (l ++ l') (cs ++ cs')
  | [], l', cs, cs', h, h' => by
    have h : cs = [] := h
    subst h
    exact h'
  | x :: r, l', cs, cs', h, h' => by
    obtain ⟨a, b, s, y, z, rest, rfl, hx, hr⟩ := h
    exact ⟨a, b, s, y, z, rest ++ cs', rfl, hx, LiesC.append hr h'⟩
/-- an owned row of values -/
theorem LiesC.own {base c : Nat} {A : Option Addr} {l : List VT} {cs : List Value} (h : LiesC w (Lo w) l cs) (ho : w.ownsRow base 26 5 (.slice A l.length c) l.length cs) : LiesL w (Lo w) A 0 l := by
  rcases ho.2 with ⟨_, h0⟩ | ⟨g, cap, cur, hv, _, hg, _⟩
  · rw [List.eq_nil_of_length_eq_zero h0]; exact LiesL.none_
  · have hA : A = some ⟨g, 0, none⟩ := by injection hv
    subst hA
    refine LiesC.row (R := Lo w) (show g < w.heap.size from (Array.getElem?_eq_some_iff.1 hg).1) h (fun j u hj => ?_)
    have := ho.cells (g := g) rfl j u hj
    simpa [Addr.add_lit] using this
theorem strs_own {base c : Nat} {A : Option Addr} {l : List ByteArray} (hs : ∀ s ∈ l, s.size ≤ 9223372036854775807) (ho : w.ownsRow base 9 1 (.slice A l.length c) l.length (l.map Value.string)) : LiesS w (Lo w) A l := by
  intro j s hj
  refine ⟨hs s (List.mem_of_getElem? hj), ?_⟩
  rcases ho.2 with ⟨_, h0⟩ | ⟨g, cap, cur, hv, _, hg, _⟩
  · rw [List.eq_nil_of_length_eq_zero h0] at hj; simp at hj
  · have hA : A = some ⟨g, 0, none⟩ := by injection hv
    subst hA
    refine ⟨g, 0, rfl, (Array.getElem?_eq_some_iff.1 hg).1, ?_⟩
    have := ho.cells (g := g) rfl j (.string s) (by rw [List.getElem?_map, hj]; rfl)
    simpa [Addr.add_lit] using this
theorem LiesS.sizes {A : Option Addr} {l : List ByteArray} (h : LiesS w R A l) : ∀ s ∈ l, s.size ≤ 9223372036854775807 := fun s hs => by
  obtain ⟨j, hj, e⟩ := List.mem_iff_getElem.1 hs
  exact (h j s (by rw [List.getElem?_eq_getElem hj, e])).1
end
theorem own_empty5 (w : World) (t : TypeId) (size : Nat) : (w.alloc (.cells #[] t)).ownsRow w.heap.size t size (.slice (some ⟨w.heap.size, 0, none⟩) 0 0) 0 [] :=
  ⟨by simp, Or.inr ⟨w.heap.size, 0, #[], rfl, Nat.le_refl _, heap_alloc_new w _, Nat.le_refl _, by unfold maxLen; omega, by simp, by simp⟩⟩

theorem Try.infoS : (Try.prog.info? 9).map (fun i => (i.zero, i.size, i.bytes)) = some (some (.string ByteArray.empty), 1, 16) := by kernel_rfl
theorem Try.infoV : (Try.prog.info? 26).map (fun i => (i.zero, i.size, i.bytes)) = some (some (.agg #[.int .i64 0, .int .i64 0, .string ByteArray.empty, .slice none 0 0, .slice none 0 0]), 5, 80) := by kernel_rfl

set_option maxRecDepth 100000 in
set_option maxHeartbeats 1000000 in
theorem cloneS_any (A : Option Addr) (c : Nat) (ks : List ByteArray) (w : World) (hS : LiesS w (Lo w) A ks) (hn : ks.length * 16 ≤ 140737488355328) :
    Calls Try.prog 65 #[.slice A ks.length c] w fun e w' => ∃ v, e = .returned v ∧ w'.ownsRow w.heap.size 9 1 v ks.length (ks.map Value.string) ∧ Below w.heap.size w w' := by
  obtain ⟨i, hi, hz, hs, hb⟩ := info_parts Try.infoS
  have HS := Lib.hid hS
  have HB := Lib.hid hn
  clear hS hn
  cases A with
  | none =>
    have hk : ks = [] := by
      cases ks with
      | nil => rfl
      | cons s r => obtain ⟨_, g, o, e, _⟩ := HS.out 0 s rfl; cases e
    subst hk
    have heq := fun (a : Option Addr) (n c : Nat) (w : World) => Lib.run_eql_slice_nil (P := Try.prog) w 22 _ a n c 0 0 Try.underlying22
    go_enter Try.func65, Try.ntmps65
    go_wp2
    go_ret
    exact ⟨_, rfl, ⟨rfl, Or.inl ⟨rfl, rfl⟩⟩, Below.refl _ _⟩
  | some ad =>
    have hnews : ∀ (j : Nat) (u : Value), (ks.map Value.string)[j]? = some u → (w.alloc (.cells #[] 9)).cell? (ad.add j) = some u := fun j u hj => by
      rw [List.getElem?_map] at hj
      cases hk : ks[j]? with
      | none => rw [hk] at hj; cases hj
      | some s =>
        rw [hk] at hj
        simp at hj
        subst hj
        obtain ⟨_, g, o, e, hg, hc⟩ := HS.out j s hk
        injection e with e
        subst e
        rw [Addr.add_lit, World.cell?_alloc_lt w _ _ (show g < w.heap.size from hg)]
        exact hc
    have HN := Lib.hid hnews
    clear hnews
    have heq := fun (a : Option Addr) (n c : Nat) (w : World) => Lib.run_eql_slice_nil (P := Try.prog) w 22 _ a n c 0 0 Try.underlying22
    go_enter Try.func65, Try.ntmps65
    go_wp2_with (at_builtin; refine wpList_append_own _ rfl _ _ 22 rfl w.heap.size 9 i (.string ByteArray.empty) 1 16 Try.underlying22 hi hz hs hb rfl (by decide) _ 0 [] rfl (own_empty5 w 9 1) ad ks.length c (ks.map Value.string) rfl ?_ ?_ ?_ ?_ ?_ ?_ ?_)
    · simp
    · exact HN.out
    · intro u hu; obtain ⟨s, _, rfl⟩ := List.mem_map.1 hu; rfl
    · have := HB.out; unfold maxLen; omega
    · have := HB.out; omega
    · simp
    · intro v w' hown hg _
      have h1 : w'.ownsRow w.heap.size 9 1 v ks.length (ks.map Value.string) := by simpa using hown
      have h2 : Below w.heap.size w w' := (below_one w _).grown hg (by simp) (fun k hk => by simp [Value.ownBlock] at hk; omega)
      have H1 := Lib.hid h1
      have H2 := Lib.hid h2
      clear hown hg h1 h2
      go_wp2
      go_ret
      exact ⟨v, rfl, H1.out, H2.out⟩

set_option maxRecDepth 100000 in
set_option maxHeartbeats 1000000 in
theorem cloneV_any (R : Nat → Prop) (A : Option Addr) (c : Nat) (its : List VT) (w : World) (hR : ∀ b, R b → b < w.heap.size) (hL : LiesL w R A 0 its) (hn : its.length * 80 ≤ 140737488355328) :
    Calls Try.prog 66 #[.slice A its.length c] w fun e w' => ∃ v cs, e = .returned v ∧ LiesC w R its cs ∧ w'.ownsRow w.heap.size 26 5 v its.length cs ∧ Below w.heap.size w w' := by
  obtain ⟨i, hi, hz, hs, hb⟩ := info_parts Try.infoV
  have HL := Lib.hid hL
  obtain ⟨cs, hC, hcs⟩ := hL.cells
  have HC := Lib.hid hC
  have HB := Lib.hid hn
  have hcl := hC.len
  have ho := hC.one
  clear hL hC hn
  cases A with
  | none =>
    have hk : its = [] := by
      cases its with
      | nil => rfl
      | cons x r => obtain ⟨⟨g, o, _, _, _, _, _, e, _⟩, _⟩ := HL.out.cons; cases e
    subst hk
    obtain rfl : cs = [] := List.eq_nil_of_length_eq_zero (by simpa using hcl)
    have heq := fun (a : Option Addr) (n c : Nat) (w : World) => Lib.run_eql_slice_nil (P := Try.prog) w 23 _ a n c 0 0 Try.underlying23
    go_enter Try.func66, Try.ntmps66
    go_wp2
    go_ret
    exact ⟨_, [], rfl, HC.out, ⟨rfl, Or.inl ⟨rfl, rfl⟩⟩, Below.refl _ _⟩
  | some ad =>
    have hnews : ∀ (j : Nat) (u : Value), cs[j]? = some u → (w.alloc (.cells #[] 26)).cell? (ad.add j) = some u := fun j u hj => by
      obtain ⟨g, o, e, hg, hc⟩ := hcs j u hj
      injection e with e
      subst e
      rw [Addr.add_lit, World.cell?_alloc_lt w _ _ (show g < w.heap.size from hR _ hg), ← hc]
      congr 2
      omega
    have HN := Lib.hid hnews
    have HO := Lib.hid ho
    have HCL := Lib.hid hcl
    clear hnews ho hcs hcl
    have heq := fun (a : Option Addr) (n c : Nat) (w : World) => Lib.run_eql_slice_nil (P := Try.prog) w 23 _ a n c 0 0 Try.underlying23
    go_enter Try.func66, Try.ntmps66
    go_wp2_with (at_builtin; refine wpList_append_own _ rfl _ _ 23 rfl w.heap.size 26 i (.agg #[.int .i64 0, .int .i64 0, .string ByteArray.empty, .slice none 0 0, .slice none 0 0]) 5 80 Try.underlying23 hi hz hs hb rfl (by decide) _ 0 [] rfl (own_empty5 w 26 5) ad its.length c cs rfl ?_ ?_ ?_ ?_ ?_ ?_ ?_)
    · exact HCL.out
    · exact HN.out
    · exact HO.out
    · have := HB.out; unfold maxLen; omega
    · have := HB.out; omega
    · simp
    · intro v w' hown hg _
      have h1 : w'.ownsRow w.heap.size 26 5 v its.length cs := by simpa using hown
      have h2 : Below w.heap.size w w' := (below_one w _).grown hg (by simp) (fun k hk => by simp [Value.ownBlock] at hk; omega)
      have H1 := Lib.hid h1
      have H2 := Lib.hid h2
      clear hown hg h1 h2
      go_wp2
      go_ret
      exact ⟨v, cs, rfl, HC.out, H1.out, H2.out⟩
end Go.Proofs.Ytidinbeanaifmaa
