/-
  Copy of the reference: an equal value in new blocks.
-/
import Derived.Test.YtlgmhhimbabkjaaGreatDoorVco
import Derived.Deep.AppendLies
import Derived.Deep.RegionLaw
namespace Go.Proofs.YtlgmhhimbabkjaaGreatDoor
open Go.RowKit

/-- append of strings that may be nil onto an owned row of strings -/
theorem run_append_strs {P : Program} (w : World) (base t ty e : Nat) (i : TypeInfo) (z : Value) (ht : P.underlying t = some (.slice e)) (hi : P.info? e = some i) (hz : i.zero = some z)
    (hsize : i.size = 1) (hby : i.bytes = 16) (hzs : z.cells.size = 1)
    (v : Value) (n : Nat) (xs : List Value) (hown : w.ownsRow base e 1 v n xs)
    (R : Nat → Prop) (A : Option Addr) (c : Nat) (l : List ByteArray) (hr : LiesS w R A l)
    (hbytes : (n + l.length) * 16 ≤ 140737488355328) (hbase : base ≤ w.heap.size) :
    ∃ v' w', (Builtin.append_ #[t, t] ty #[v, .slice A l.length c]).run P w = .ok v' w' ∧ w'.ownsRow base e 1 v' (n + l.length) (xs ++ l.map Value.string) ∧ w.grownBy w' v.ownBlock := by
  cases A with
  | none =>
    have hl : l = [] := by
      cases l with
      | nil => rfl
      | cons s r => obtain ⟨_, g, o, e, _⟩ := hr 0 s rfl; cases e
    subst hl
    refine ⟨v, w, ?_, by simpa using hown, World.grownBy.refl w _⟩
    rcases hown.2 with ⟨rfl, rfl⟩ | ⟨g, cap, cur, rfl, _, _, hnc, _⟩
    · simp [Builtin.append_, run_underlying ht, sizeOf, typeInfo, hi, Builtin.lenOf, Builtin.firstCells]
    · simp [Builtin.append_, run_underlying ht, sizeOf, typeInfo, hi, Builtin.lenOf, Builtin.firstCells, hnc, storeCells]
  | some ad =>
    obtain ⟨v', w', h1, h2, h3, _⟩ := run_append_own (P := P) w base t ty e i z 1 16 ht hi hz hsize hby hzs (by decide) v n xs hown ad l.length c (l.map Value.string) (by simp)
      (fun j u hj => by
        rw [List.getElem?_map] at hj
        cases hk : l[j]? with
        | none => rw [hk] at hj; cases hj
        | some s =>
          rw [hk] at hj
          simp at hj
          subst hj
          obtain ⟨_, g, o, e, hg, hc⟩ := hr j s hk
          injection e with e
          subst e
          rw [Addr.add_lit]
          exact hc) (by intro u hu; obtain ⟨s, _, rfl⟩ := List.mem_map.1 hu; rfl) (by unfold maxLen; omega) hbytes hbase
    exact ⟨v', w', h1, h2, h3⟩
theorem wpList_append_strs {P : Program} {w : World} {ops : Array Oper} {rest : List Oper} {o : Oper} {a : Act} {Q : Exit → Act → World → Prop} (hgd : o.guard = none) (s x : Operand) (t : TypeId)
    (ho : o.op = .call { callee := .builtin .append, args := #[s, x], argTypes := #[t, t] })
    (base e : Nat) (i : TypeInfo) (z : Value) (ht : P.underlying t = some (.slice e)) (hi : P.info? e = some i) (hz : i.zero = some z)
    (hsize : i.size = 1) (hby : i.bytes = 16) (hzs : z.cells.size = 1)
    (v : Value) (n : Nat) (xs : List Value) (hs : a.eval s = v) (hown : w.ownsRow base e 1 v n xs)
    (R : Nat → Prop) (A : Option Addr) (c : Nat) (l : List ByteArray) (hx : a.eval x = .slice A l.length c) (hr : LiesS w R A l)
    (hbytes : (n + l.length) * 16 ≤ 140737488355328) (hbase : base ≤ w.heap.size)
    (h : ∀ v' w', w'.ownsRow base e 1 v' (n + l.length) (xs ++ l.map Value.string) → w.grownBy w' v.ownBlock → wpList P ops Q rest (a.put o.dst v') w') : wpList P ops Q (o :: rest) a w := by
  refine wpList_plain hgd fun K hK => ?_
  obtain ⟨v', w', hrun, h2, h3⟩ := run_append_strs (P := P) w base t o.type e i z ht hi hz hsize hby hzs v n xs hown R A c l hr hbytes hbase
  unfold Oper.wp execOp
  simp only [ho, resolve, invoke, builtin, Sem.run_bind, Sem.run_pure, Result.andThen_ok, List.map_toArray, List.map_cons, List.map_nil, hs, hx, hrun]
  exact hK _ _ (h v' w' h2 h3)

theorem Lies.formV {w : World} {R : Nat → Prop} {x : VT} {v : Value} (h : Lies w R x v) : ∃ k i t A n c A' n' c', v = .agg #[.int .i64 k, .int .i64 i, .string t, .slice A n c, .slice A' n' c'] := by
  obtain ⟨k, i, t, its, ks⟩ := x
  obtain ⟨A, c, A', c', rfl, _⟩ := h.open
  exact ⟨k, i, t, A, its.length, c, A', ks.length, c', rfl⟩
/-- an equal value, all of it in new blocks -/
def Fresh (x : VT) (w : World) (e : Ending) (w' : World) : Prop := ∃ v, e = .returned v ∧ Lies w' (fun b => w.heap.size ≤ b ∧ b < w'.heap.size) x v ∧ Below w.heap.size w w'
section
variable {w : World} {R : Nat → Prop}
theorem LiesC.ownR {base c n : Nat} {A : Option Addr} {l : List VT} {cs : List Value} (h : LiesC w R l cs) (hR : ∀ g, base ≤ g → g < w.heap.size → R g) (hn : n = l.length) (ho : w.ownsRow base 25 5 (.slice A n c) n cs) : LiesL w R A 0 l := by
  subst hn
  rcases ho.2 with ⟨_, h0⟩ | ⟨g, cap, cur, hv, hb, hg, _⟩
  · rw [List.eq_nil_of_length_eq_zero h0]; exact LiesL.none_
  · have hA : A = some ⟨g, 0, none⟩ := by injection hv
    subst hA
    refine LiesC.row (hR g hb (Array.getElem?_eq_some_iff.1 hg).1) h (fun j u hj => ?_)
    have := ho.cells (g := g) rfl j u hj
    simpa [Addr.add_lit] using this
theorem strs_ownR {base c n : Nat} {A : Option Addr} {l : List ByteArray} (hs : ∀ s ∈ l, s.size ≤ 9223372036854775807) (hR : ∀ g, base ≤ g → g < w.heap.size → R g) (hn : n = l.length) (ho : w.ownsRow base 9 1 (.slice A n c) n (l.map Value.string)) : LiesS w R A l := by
  subst hn
  intro j s hj
  refine ⟨hs s (List.mem_of_getElem? hj), ?_⟩
  rcases ho.2 with ⟨_, h0⟩ | ⟨g, cap, cur, hv, hb, hg, _⟩
  · rw [List.eq_nil_of_length_eq_zero h0] at hj; simp at hj
  · have hA : A = some ⟨g, 0, none⟩ := by injection hv
    subst hA
    refine ⟨g, 0, rfl, hR g hb (Array.getElem?_eq_some_iff.1 hg).1, ?_⟩
    have := ho.cells (g := g) rfl j (.string s) (by rw [List.getElem?_map, hj]; rfl)
    simpa [Addr.add_lit] using this
end
/-- blocks from B on that are not the row's -/
def Off (B : Nat) (w : World) (v : Value) : Nat → Prop := fun b => B ≤ b ∧ b < w.heap.size ∧ v.ownBlock ≠ some b

end Go.Proofs.YtlgmhhimbabkjaaGreatDoor
