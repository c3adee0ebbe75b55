/-
  Contracts of the code's and of the reference's functions, part AA, and what they lean on.
-/
import Derived.WalkKit
import Derived.Deep.Draws
import Derived.Deep.Slices
import Derived.Deep.Strs
import Derived.SliceStrings
import Derived.Test.YtidinbeanaifmaaChecked
import Derived.Lib.Hide
import Derived.LoopTactic
import Derived.Deep.LoopGhost
import Derived.Test.YtidinbeanaifmaaRows
import Derived.WalkSpells
import Derived.WalkLawsBesides
import Derived.Lib.AppendStr
import Derived.Laws.IdiomStrings
import Derived.Deep.QuietTactic
import Derived.BigQuiet
import Derived.Deep.RegionHeld3
namespace Go.Proofs.Ytidinbeanaifmaa
open Go.RowKit

/-- a byte as the memory has it -/
def b8 (c : UInt8) : Value := .int .u8 (c.toNat : Int)

theorem b8_one (l : List UInt8) : ∀ u ∈ l.map b8, u.oneCell' = true := by
  intro u hu
  obtain ⟨c, _, rfl⟩ := List.mem_map.1 hu
  rfl

/-- the slice value '.slice A n c' reads as the bytes l, and lies below block B -/
def Rb (w : World) (B : Nat) (A : Option Addr) (n : Nat) (l : List UInt8) : Prop :=
  l.length = n ∧ (l ≠ [] → ∃ g o, A = some ⟨g, o, none⟩ ∧ g < B ∧ ∀ (j : Nat) (c : UInt8), l[j]? = some c → w.cell? ⟨g, o + j, none⟩ = some (b8 c))

section
variable {w w' : World} {B B' n : Nat} {A : Option Addr} {l : List UInt8}
theorem Rb.len (h : Rb w B A n l) : l.length = n := h.1
theorem Rb.nil_ : Rb w B A 0 [] := ⟨rfl, fun h => absurd rfl h⟩
theorem Rb.keep (h : Rb w B A n l) (hk : ∀ p : Addr, p.block < B → w'.cell? p = w.cell? p) : Rb w' B A n l :=
  ⟨h.1, fun hn => by
    obtain ⟨g, o, e, hb, hc⟩ := h.2 hn
    exact ⟨g, o, e, hb, fun j c hj => (hk ⟨g, o + j, none⟩ hb).trans (hc j c hj)⟩⟩
theorem Rb.more (h : Rb w B A n l) (hB : B ≤ B') : Rb w B' A n l :=
  ⟨h.1, fun hn => by
    obtain ⟨g, o, e, hb, hc⟩ := h.2 hn
    exact ⟨g, o, e, by omega, hc⟩⟩
theorem Rb.below (h : Rb w B A n l) (hb : Below B w w') : Rb w' B A n l := h.keep fun _ hp => hb.cell hp
theorem Rb.alloc (h : Rb w B A n l) (hB : B ≤ w.heap.size) (o : Obj) : Rb (w.alloc o) B A n l := h.keep fun p hp => World.cell?_alloc_lt w o p (by omega)
theorem Rb.at_ {k : Nat} (h : Rb w B A n l) (hk : k < n) : ∃ g o c, A = some ⟨g, o, none⟩ ∧ g < B ∧ l[k]? = some c ∧ w.cell? ⟨g, o + k, none⟩ = some (b8 c) := by
  have hl : k < l.length := by have := h.1; omega
  obtain ⟨g, o, e, hb, hc⟩ := h.2 (by intro e; subst e; simp at hl)
  exact ⟨g, o, l[k], e, hb, List.getElem?_eq_getElem hl, hc k _ (List.getElem?_eq_getElem hl)⟩
theorem Rb.cut {k cap : Nat} (h : Rb w B A n l) (hk : k ≤ n) (hc : n ≤ cap) :
    Rb w B (if cap = k then A else A.map (·.add k)) (n - k) (l.drop k) := by
  refine ⟨by rw [List.length_drop, h.1], fun hn => ?_⟩
  have hlt : k < n := by
    have := h.1
    rcases Nat.lt_or_ge k n with h1 | h1
    · exact h1
    · exact absurd (List.drop_eq_nil_of_le (by omega)) hn
  obtain ⟨g, o, rfl, hb, hcell⟩ := h.2 (by intro e; subst e; simp at hn)
  rw [if_neg (by omega)]
  refine ⟨g, o + k, by simp [Addr.add_lit], hb, fun j c hj => ?_⟩
  rw [Nat.add_assoc]
  exact hcell _ c (by rw [← hj, List.getElem?_drop])
theorem Rb.front {k : Nat} (h : Rb w B A n l) (hk : k ≤ n) : Rb w B A k (l.take k) := by
  refine ⟨by rw [List.length_take, h.1]; omega, fun hn => ?_⟩
  obtain ⟨g, o, rfl, hb, hcell⟩ := h.2 (by intro e; subst e; simp at hn)
  refine ⟨g, o, rfl, hb, fun j c hj => hcell j c ?_⟩
  rw [List.getElem?_take] at hj
  split at hj
  · exact hj
  · cases hj
theorem Rb.of_own {base : Nat} {e : TypeId} {c : Nat} (h : w.ownsRow base e 1 (.slice A n c) n (l.map b8)) : Rb w w.heap.size A n l := by
  refine ⟨by simpa using h.1, fun hn => ?_⟩
  rcases h.2 with ⟨hv, rfl⟩ | ⟨g, cap, cur, hv, _, hg, _⟩
  · exact absurd (List.eq_nil_of_length_eq_zero (by simpa using h.1)) hn
  · have hA : A = some ⟨g, 0, none⟩ := by injection hv
    subst hA
    refine ⟨g, 0, rfl, (Array.getElem?_eq_some_iff.1 hg).1, fun j c hj => ?_⟩
    have := h.cells (g := g) rfl j (b8 c) (by rw [List.getElem?_map, hj]; rfl)
    simpa [Addr.add_lit] using this
end

/-- an owned row has the form of a slice with room for what it holds -/
theorem own_form {w : World} {base : Nat} {e : TypeId} {v : Value} {n : Nat} {xs : List Value} (h : w.ownsRow base e 1 v n xs) :
    ∃ A c, v = .slice A n c ∧ n ≤ c ∧ c ≤ maxLen := by
  rcases h.2 with ⟨rfl, rfl⟩ | ⟨g, cap, cur, rfl, _, _, h1, h2, _⟩
  · exact ⟨none, 0, rfl, Nat.le_refl _, by unfold maxLen; omega⟩
  · exact ⟨_, cap, rfl, h1, h2⟩
theorem own_len {w : World} {base : Nat} {e : TypeId} {v : Value} {n : Nat} {l : List UInt8} (h : w.ownsRow base e 1 v n (l.map b8)) : l.length = n := by
  simpa using h.1

/-- append of what may be nil onto an owned row of bytes -/
theorem run_append_b8 {P : Program} (w : World) (base t ty e : Nat) (i : TypeInfo) (z : Value) (ht : P.underlying t = some (.slice e)) (hi : P.info? e = some i) (hz : i.zero = some z)
    (hsize : i.size = 1) (hby : i.bytes = 1) (hzs : z.cells.size = 1)
    (v : Value) (n : Nat) (xs : List Value) (hown : w.ownsRow base e 1 v n xs)
    (B : Nat) (A : Option Addr) (m c : Nat) (l : List UInt8) (hr : Rb w B A m l)
    (hbytes : n + m ≤ 140737488355328) (hbase : base ≤ w.heap.size) :
    ∃ v' w', (Builtin.append_ #[t, t] ty #[v, .slice A m c]).run P w = .ok v' w' ∧ w'.ownsRow base e 1 v' (n + m) (xs ++ l.map b8) ∧ w.grownBy w' v.ownBlock := by
  have hlen := hr.1
  by_cases hl : l = []
  · subst hl
    obtain rfl : m = 0 := by simpa using hlen.symm
    cases A with
    | none =>
      refine ⟨v, w, ?_, by simpa using hown, World.grownBy.refl w _⟩
      rcases hown.2 with ⟨rfl, rfl⟩ | ⟨g, cap, cur, rfl, _, _, hnc, _⟩
      · simp [Builtin.append_, run_underlying ht, sizeOf, typeInfo, hi, Builtin.lenOf, Builtin.firstCells]
      · simp [Builtin.append_, run_underlying ht, sizeOf, typeInfo, hi, Builtin.lenOf, Builtin.firstCells, hnc, storeCells]
    | some a =>
      obtain ⟨v', w', h1, h2, h3, _⟩ := run_append_own (P := P) w base t ty e i z 1 1 ht hi hz hsize hby hzs (by decide) v n xs hown a 0 c [] rfl (by simp) (by simp) (by unfold maxLen; omega) (by omega) hbase
      exact ⟨v', w', h1, by simpa using h2, h3⟩
  · obtain ⟨g, o, rfl, _, hc⟩ := hr.2 hl
    obtain ⟨v', w', h1, h2, h3, _⟩ := run_append_own (P := P) w base t ty e i z 1 1 ht hi hz hsize hby hzs (by decide) v n xs hown ⟨g, o, none⟩ m c (l.map b8) (by simp [hlen])
      (fun j u hu => by
        rw [List.getElem?_map] at hu
        cases hj : l[j]? with
        | none => rw [hj] at hu; cases hu
        | some c => rw [hj] at hu; simp at hu; subst hu; rw [Addr.add_lit]; exact hc j c hj) (b8_one l) (by unfold maxLen; omega) (by omega) hbase
    exact ⟨v', w', h1, h2, h3⟩

theorem wpList_append_b8 {P : Program} {w : World} {ops : Array Oper} {rest : List Oper} {o : Oper} {a : Act} {Q : Exit → Act → World → Prop} (hgd : o.guard = none) (s x : Operand) (t : TypeId)
    (ho : o.op = .call { callee := .builtin .append, args := #[s, x], argTypes := #[t, t] })
    (base e : Nat) (i : TypeInfo) (z : Value) (ht : P.underlying t = some (.slice e)) (hi : P.info? e = some i) (hz : i.zero = some z)
    (hsize : i.size = 1) (hby : i.bytes = 1) (hzs : z.cells.size = 1)
    (v : Value) (n : Nat) (xs : List Value) (hs : a.eval s = v) (hown : w.ownsRow base e 1 v n xs)
    (B : Nat) (A : Option Addr) (m c : Nat) (l : List UInt8) (hx : a.eval x = .slice A m c) (hr : Rb w B A m l)
    (hbytes : n + m ≤ 140737488355328) (hbase : base ≤ w.heap.size)
    (h : ∀ v' w', w'.ownsRow base e 1 v' (n + m) (xs ++ l.map b8) → w.grownBy w' v.ownBlock → wpList P ops Q rest (a.put o.dst v') w') : wpList P ops Q (o :: rest) a w := by
  refine wpList_plain hgd fun K hK => ?_
  obtain ⟨v', w', hrun, h2, h3⟩ := run_append_b8 (P := P) w base t o.type e i z ht hi hz hsize hby hzs v n xs hown B A m c l hr hbytes hbase
  unfold Oper.wp execOp
  simp only [ho, resolve, invoke, builtin, Sem.run_bind, Sem.run_pure, Result.andThen_ok, List.map_toArray, List.map_cons, List.map_nil, hs, hx, hrun]
  exact hK _ _ (h v' w' h2 h3)

/-- a block that is known whole -/
def Bk (w : World) (g : Nat) (t : TypeId) (cs : Array Value) : Prop := w.heap[g]? = some (.cells cs t (0, 0))
section
variable {w w' : World} {g : Nat} {t : TypeId} {cs : Array Value}
theorem Bk.lt (h : Bk w g t cs) : g < w.heap.size := (Array.getElem?_eq_some_iff.1 h).1
theorem Bk.cell (h : Bk w g t cs) (i : Nat) : w.cell? ⟨g, i, none⟩ = cs[i]? := cell_of_row w g i cs t (0, 0) h
theorem Bk.frozen (h : Bk w g t cs) (i : Nat) : w.frozen? ⟨g, i, none⟩ = false := by
  unfold Bk at h
  simp [World.frozen?, h]
theorem Bk.new (w : World) (t : TypeId) (cs : Array Value) : Bk (w.alloc (.cells cs t)) w.heap.size t cs := heap_alloc_new w _
theorem Bk.alloc (h : Bk w g t cs) (o : Obj) : Bk (w.alloc o) g t cs := (Below.heap_alloc w o g h.lt).trans h
theorem Bk.put (h : Bk w g t cs) (i : Nat) (u : Value) : Bk (w.setCell ⟨g, i, none⟩ u) g t (cs.setIfInBounds i u) := by
  unfold Bk at h ⊢
  simp [World.setCell, Array.getElem?_modify, h]
theorem Bk.far (h : Bk w g t cs) {p : Addr} (hp : g ≠ p.block) (u : Value) : Bk (w.setCell p u) g t cs := (Below.heap_setCell w p u g hp).trans h
theorem Bk.below {B : Nat} (h : Bk w g t cs) (hb : Below B w w') (hg : g < B) : Bk w' g t cs := (hb.block g hg).trans h
theorem Bk.grown {row : Option Nat} (h : Bk w g t cs) (hb : w.grownBy w' row) (hg : some g ≠ row) : Bk w' g t cs := (hb.block g h.lt hg).trans h
theorem Bk.ne_ {g' : Nat} {t' : TypeId} {cs' : Array Value} (h : Bk w g t cs) (h' : Bk w g' t' cs') (hne : t ≠ t') : g ≠ g' := by
  rintro rfl
  unfold Bk at h h'
  rw [h] at h'
  injection h' with h'
  injection h' with _ ht
  exact hne ht
end
end Go.Proofs.Ytidinbeanaifmaa
/-
  The encoding of layer 1 as plain functions on lists of bytes. No program is named here.
-/
namespace Go.Proofs.Ytidinbeanaifmaa

/-- the unsigned number of an integer -/
def zig (n : Int) : Nat := if 0 ≤ n then (2 * n).toNat else (-2 * n - 1).toNat
/-- the integer of an unsigned number -/
def unz (u : Nat) : Int := if u % 2 = 1 then -((u / 2 : Nat) : Int) - 1 else ((u / 2 : Nat) : Int)
theorem zig_pos {n : Int} (h : 0 ≤ n) : zig n = (2 * n).toNat := by unfold zig; rw [if_pos h]
theorem zig_neg {n : Int} (h : n < 0) : zig n = (-2 * n - 1).toNat := by unfold zig; rw [if_neg (by omega)]
theorem unz_zig (n : Int) : unz (zig n) = n := by
  unfold unz zig
  split <;> split <;> omega
theorem zig_unz (u : Nat) : zig (unz u) = u := by
  unfold unz zig
  split <;> split <;> omega
theorem zig_lt {n : Int} (h1 : -9223372036854775808 ≤ n) (h2 : n ≤ 9223372036854775807) : zig n < 18446744073709551616 := by
  unfold zig
  split <;> omega
theorem unz_in {u : Nat} (h : u < 18446744073709551616) : -9223372036854775808 ≤ unz u ∧ unz u ≤ 9223372036854775807 := by
  unfold unz
  split <;> omega

/-- groups of seven bits, the lowest first -/
def grp : Nat → Nat → List UInt8
  | 0, _ => []
  | f + 1, u => if u < 128 then [UInt8.ofNat u] else UInt8.ofNat (u % 128 + 128) :: grp f (u / 128)
theorem grp_last {f u : Nat} (h : u < 128) : grp (f + 1) u = [UInt8.ofNat u] := by rw [grp, if_pos h]
theorem grp_more {f u : Nat} (h : 128 ≤ u) : grp (f + 1) u = UInt8.ofNat (u % 128 + 128) :: grp f (u / 128) := by rw [grp, if_neg (by omega)]
theorem grp_len (f u : Nat) : (grp f u).length ≤ f := by
  induction f generalizing u with
  | zero => simp [grp]
  | succ f ih =>
    rw [grp]
    split
    · simp
    · have := ih (u / 128); simp; omega
theorem grp_pos (f u : Nat) : grp (f + 1) u ≠ [] := by
  rw [grp]
  split <;> simp

/-- the encoding of an integer -/
def enc (n : Int) : List UInt8 := grp 10 (zig n)
theorem enc_len (n : Int) : (enc n).length ≤ 10 := grp_len _ _

/-- how many bytes the integer at the front takes, and the error; i bytes have been looked at -/
def szAt : Nat → List UInt8 → Nat × Int
  | i, [] => if 10 ≤ i then (0, 3) else (0, 4)
  | i, c :: r => if 10 ≤ i then (0, 3) else if 128 ≤ c.toNat then szAt (i + 1) r else if (0 < i ∧ c.toNat = 0) ∨ (i = 9 ∧ 1 < c.toNat) then (0, 3) else (i + 1, 0)
/-- the number whose groups these are -/
def val : List UInt8 → Nat
  | [] => 0
  | c :: r => c.toNat % 128 + 128 * val r

theorem szAt_end {i : Nat} {l : List UInt8} (h : 10 ≤ i) : szAt i l = (0, 3) := by
  cases l with
  | nil => rw [szAt, if_pos h]
  | cons c r => rw [szAt, if_pos h]
theorem szAt_nil {i : Nat} (h : i < 10) : szAt i [] = (0, 4) := by rw [szAt, if_neg (by omega)]
theorem szAt_on {i : Nat} {c : UInt8} {r : List UInt8} (h : i < 10) (hc : 128 ≤ c.toNat) : szAt i (c :: r) = szAt (i + 1) r := by rw [szAt, if_neg (by omega), if_pos hc]
theorem szAt_bad {i : Nat} {c : UInt8} {r : List UInt8} (h : i < 10) (hc : c.toNat < 128) (hb : (0 < i ∧ c.toNat = 0) ∨ (i = 9 ∧ 1 < c.toNat)) : szAt i (c :: r) = (0, 3) := by
  rw [szAt, if_neg (by omega), if_neg (by omega), if_pos hb]
theorem szAt_ok {i : Nat} {c : UInt8} {r : List UInt8} (h : i < 10) (hc : c.toNat < 128) (hb : ¬((0 < i ∧ c.toNat = 0) ∨ (i = 9 ∧ 1 < c.toNat))) : szAt i (c :: r) = (i + 1, 0) := by
  rw [szAt, if_neg (by omega), if_neg (by omega), if_neg hb]

/-- what szAt says, in one piece: the error is one of three; without an error the size is above i, within the list and at most ten -/
theorem szAt_facts (i : Nat) (l : List UInt8) : ((szAt i l).2 = 0 ∧ i < (szAt i l).1 ∧ (szAt i l).1 ≤ i + l.length ∧ (szAt i l).1 ≤ 10) ∨ ((szAt i l).1 = 0 ∧ ((szAt i l).2 = 3 ∨ (szAt i l).2 = 4)) := by
  induction l generalizing i with
  | nil =>
    by_cases h : 10 ≤ i
    · rw [szAt_end h]; simp
    · rw [szAt_nil (by omega)]; simp
  | cons c r ih =>
    by_cases h : 10 ≤ i
    · rw [szAt_end h]; simp
    by_cases hc : 128 ≤ c.toNat
    · rw [szAt_on (by omega) hc]
      rcases ih (i + 1) with ⟨h1, h2, h3, h4⟩ | h1
      · left
        refine ⟨h1, by omega, by simp; omega, h4⟩
      · right; exact h1
    · by_cases hb : (0 < i ∧ c.toNat = 0) ∨ (i = 9 ∧ 1 < c.toNat)
      · rw [szAt_bad (by omega) (by omega) hb]; simp
      · rw [szAt_ok (by omega) (by omega) hb]; left; refine ⟨rfl, by simp, by simp only [List.length_cons]; omega, by omega⟩

theorem u8_nat (n : Nat) (h : n < 256) : (UInt8.ofNat n).toNat = n := by simp; omega
theorem u8_eq {a b : UInt8} (h : a.toNat = b.toNat) : a = b := UInt8.toNat_inj.1 h

/-- what the groups encode is read back, whatever follows; the first group is at place i -/
theorem szAt_grp (f : Nat) : ∀ (i u : Nat) (r : List UInt8), i + f = 10 → u * 128 ^ i < 18446744073709551616 → (0 < i → 0 < u) →
    szAt i (grp f u ++ r) = (i + (grp f u).length, 0) ∧ val (grp f u) = u := by
  induction f with
  | zero =>
    intro i u r hi hu h0
    obtain rfl : i = 10 := by omega
    have : 0 < u := h0 (by omega)
    exfalso
    have h1 : 1 * 128 ^ 10 ≤ u * 128 ^ 10 := Nat.mul_le_mul_right _ this
    omega
  | succ f ih =>
    intro i u r hi hu h0
    by_cases hs : u < 128
    · rw [grp_last hs]
      have hn := u8_nat u (by omega)
      have hb : ¬((0 < i ∧ (UInt8.ofNat u).toNat = 0) ∨ (i = 9 ∧ 1 < (UInt8.ofNat u).toNat)) := by
        rw [hn]
        rintro (⟨h1, h2⟩ | ⟨h1, h2⟩)
        · have := h0 h1; omega
        · subst h1
          have h1 : 2 * 128 ^ 9 ≤ u * 128 ^ 9 := Nat.mul_le_mul_right _ (by omega)
          omega
      refine ⟨?_, by simp only [val]; rw [hn]; omega⟩
      rw [List.singleton_append, szAt_ok (by omega) (by rw [hn]; omega) hb]
      simp
    · have h1 : 128 ≤ u := by omega
      rw [grp_more h1]
      have hn := u8_nat (u % 128 + 128) (by omega)
      have hlt : i < 9 := by
        rcases Nat.lt_or_ge i 9 with h | h
        · exact h
        · exfalso
          obtain rfl : i = 9 := by omega
          have h2 : 128 * 128 ^ 9 ≤ u * 128 ^ 9 := Nat.mul_le_mul_right _ h1
          omega
      have hq : u / 128 * 128 ^ (i + 1) < 18446744073709551616 := by
        refine Nat.lt_of_le_of_lt ?_ hu
        rw [Nat.pow_succ, Nat.mul_comm (128 ^ i) 128, ← Nat.mul_assoc]
        exact Nat.mul_le_mul_right _ (Nat.div_mul_le_self _ _)
      obtain ⟨ha, hv⟩ := ih (i + 1) (u / 128) r (by omega) hq (fun _ => by omega)
      refine ⟨?_, by simp only [val]; rw [hn, hv]; omega⟩
      rw [List.cons_append, szAt_on (by omega) (by rw [hn]; omega), ha]
      simp; omega

/-- bytes that are read without an error are the groups of what they encode -/
theorem grp_szAt (l : List UInt8) : ∀ (i : Nat), i ≤ 10 → (szAt i l).2 = 0 →
    grp (10 - i) (val (l.take ((szAt i l).1 - i))) = l.take ((szAt i l).1 - i) ∧ val (l.take ((szAt i l).1 - i)) * 128 ^ i < 18446744073709551616 ∧ (0 < i → 0 < val (l.take ((szAt i l).1 - i))) := by
  induction l with
  | nil =>
    intro i hi h
    by_cases h10 : 10 ≤ i
    · rw [szAt_end h10] at h; simp at h
    · rw [szAt_nil (by omega)] at h; simp at h
  | cons c r ih =>
    intro i hi h
    by_cases h10 : 10 ≤ i
    · rw [szAt_end h10] at h; simp at h
    obtain ⟨f, hf⟩ : ∃ f, 10 - i = f + 1 := ⟨9 - i, by omega⟩
    by_cases hc : 128 ≤ c.toNat
    · rw [szAt_on (by omega) hc] at h ⊢
      obtain ⟨h1, h2, h3⟩ := ih (i + 1) (by omega) h
      have hf' : 10 - (i + 1) = f := by omega
      rw [hf'] at h1
      rcases szAt_facts (i + 1) r with ⟨_, h4, _⟩ | ⟨_, h4⟩
      · obtain ⟨k, hk⟩ : ∃ k, (szAt (i + 1) r).1 - i = k + 1 := ⟨(szAt (i + 1) r).1 - i - 1, by omega⟩
        have hk' : (szAt (i + 1) r).1 - (i + 1) = k := by omega
        rw [hk'] at h1 h2 h3
        rw [hk, hf, List.take_succ_cons]
        have hlt := c.toNat_lt
        have hv : val (c :: r.take k) = c.toNat % 128 + 128 * val (r.take k) := rfl
        have hp := h3 (by omega)
        refine ⟨?_, ?_, fun _ => by rw [hv]; omega⟩
        · rw [grp_more (by rw [hv]; omega), hv]
          have e1 : (c.toNat % 128 + 128 * val (r.take k)) / 128 = val (r.take k) := by omega
          have e2 : UInt8.ofNat ((c.toNat % 128 + 128 * val (r.take k)) % 128 + 128) = c := u8_eq (by rw [u8_nat _ (by omega)]; omega)
          rw [e1, e2, h1]
        · rw [hv]
          have h5 : (val (r.take k) + 1) * 128 ^ (i + 1) ≤ 18446744073709551616 := by
            have hi9 : i ≤ 8 ∨ i = 9 := by omega
            have e : (18446744073709551616 : Nat) = 2 ^ 64 := by decide
            have e2 : 128 ^ (i + 1) = 2 ^ (7 * (i + 1)) := by rw [show (128 : Nat) = 2 ^ 7 from rfl, ← Nat.pow_mul]
            rw [e, e2] at h2 ⊢
            rcases hi9 with h9 | h9
            · have e3 : (2 : Nat) ^ 64 = 2 ^ (64 - 7 * (i + 1)) * 2 ^ (7 * (i + 1)) := by rw [← Nat.pow_add]; congr 1; omega
              rw [e3] at h2 ⊢
              exact Nat.mul_le_mul_right _ (Nat.lt_of_mul_lt_mul_right h2)
            · subst h9
              omega
          have h6 : (c.toNat % 128 + 128 * val (r.take k)) * 128 ^ i < (val (r.take k) + 1) * 128 ^ (i + 1) := by
            rw [Nat.pow_succ, Nat.mul_comm (128 ^ i) 128, ← Nat.mul_assoc]
            exact Nat.mul_lt_mul_of_pos_right (by omega) (Nat.pow_pos (by decide))
          omega
      · omega
    · by_cases hb : (0 < i ∧ c.toNat = 0) ∨ (i = 9 ∧ 1 < c.toNat)
      · rw [szAt_bad (by omega) (by omega) hb] at h; simp at h
      · rw [szAt_ok (by omega) (by omega) hb]
        have e : i + 1 - i = 1 := by omega
        simp only [e, List.take_succ_cons, List.take_zero, hf]
        have hv : val [c] = c.toNat := by simp only [val]; omega
        rw [hv, grp_last (by omega)]
        refine ⟨by rw [UInt8.ofNat_toNat], ?_, fun h0 => by
          rcases Nat.eq_zero_or_pos c.toNat with hz | hz
          · exact absurd (Or.inl ⟨h0, hz⟩) hb
          · exact hz⟩
        rcases Nat.lt_or_ge i 9 with h9 | h9
        · have h1 : c.toNat * 128 ^ i ≤ 127 * 128 ^ 8 := Nat.mul_le_mul (by omega) (Nat.pow_le_pow_right (by decide) (by omega))
          omega
        · obtain rfl : i = 9 := by omega
          have : c.toNat ≤ 1 := by
            rcases Nat.lt_or_ge 1 c.toNat with hz | hz
            · exact absurd (Or.inr ⟨rfl, hz⟩) hb
            · exact hz
          have h1 : c.toNat * 128 ^ 9 ≤ 1 * 128 ^ 9 := Nat.mul_le_mul_right _ this
          omega

/-- the integer at the front: its size and its value are those of its encoding -/
theorem sz_enc {n : Int} (h1 : -9223372036854775808 ≤ n) (h2 : n ≤ 9223372036854775807) (r : List UInt8) : szAt 0 (enc n ++ r) = ((enc n).length, 0) ∧ val (enc n) = zig n := by
  have h := szAt_grp 10 0 (zig n) r (by decide) (by have := zig_lt h1 h2; simpa using this) (fun h => absurd h (by decide))
  unfold enc
  simpa using h
theorem enc_sz {l : List UInt8} (h : (szAt 0 l).2 = 0) : enc (unz (val (l.take (szAt 0 l).1))) = l.take (szAt 0 l).1 ∧ val (l.take (szAt 0 l).1) < 18446744073709551616 := by
  have := grp_szAt l 0 (by decide) h
  unfold enc
  rw [zig_unz]
  have h1 := this.1
  have h2 := this.2.1
  simp only [Nat.sub_zero, Nat.pow_zero, Nat.mul_one] at h1 h2
  exact ⟨h1, h2⟩

/-- what a reader does: the result, what is left, the error -/
def intR (l : List UInt8) (low high : Int) : Int × List UInt8 × Int :=
  if (szAt 0 l).2 ≠ 0 then (0, [], (szAt 0 l).2)
  else if unz (val (l.take (szAt 0 l).1)) < low ∨ high < unz (val (l.take (szAt 0 l).1)) then (0, [], 14)
  else (unz (val (l.take (szAt 0 l).1)), l.drop (szAt 0 l).1, 0)
def textR (l : List UInt8) (most : Int) : List UInt8 × List UInt8 × Int :=
  if (intR l 0 most).2.2 ≠ 0 then ([], [], (intR l 0 most).2.2)
  else if ((intR l 0 most).2.1.length : Int) < (intR l 0 most).1 then ([], [], 4)
  else ((intR l 0 most).2.1.take (intR l 0 most).1.toNat, (intR l 0 most).2.1.drop (intR l 0 most).1.toNat, 0)
def boolR (l : List UInt8) : Bool × List UInt8 × Int :=
  match l with
  | [] => (false, [], 4)
  | c :: r => if 1 < c.toNat then (false, [], 3) else (c.toNat == 1, r, 0)

theorem intR_err {l : List UInt8} {low high : Int} (h : (szAt 0 l).2 ≠ 0) : intR l low high = (0, [], (szAt 0 l).2) := by unfold intR; rw [if_pos h]
theorem intR_range {l : List UInt8} {low high : Int} (h : (szAt 0 l).2 = 0) (h1 : unz (val (l.take (szAt 0 l).1)) < low ∨ high < unz (val (l.take (szAt 0 l).1))) : intR l low high = (0, [], 14) := by
  unfold intR; rw [if_neg (by simpa using h), if_pos h1]
theorem intR_ok {l : List UInt8} {low high : Int} (h : (szAt 0 l).2 = 0) (h1 : ¬(unz (val (l.take (szAt 0 l).1)) < low ∨ high < unz (val (l.take (szAt 0 l).1)))) :
    intR l low high = (unz (val (l.take (szAt 0 l).1)), l.drop (szAt 0 l).1, 0) := by
  unfold intR; rw [if_neg (by simpa using h), if_neg h1]
/-- the three ways at once -/
theorem intR_ways (l : List UInt8) (low high : Int) : (intR l low high = (0, [], 3) ∨ intR l low high = (0, [], 4) ∨ intR l low high = (0, [], 14)) ∨
    ∃ k, k ≤ l.length ∧ k ≤ 10 ∧ szAt 0 l = (k, 0) ∧ intR l low high = (unz (val (l.take k)), l.drop k, 0) ∧ low ≤ unz (val (l.take k)) ∧ unz (val (l.take k)) ≤ high ∧ enc (unz (val (l.take k))) = l.take k ∧ val (l.take k) < 18446744073709551616 := by
  rcases szAt_facts 0 l with ⟨h, _, h2, h3⟩ | ⟨_, h⟩
  · by_cases h1 : unz (val (l.take (szAt 0 l).1)) < low ∨ high < unz (val (l.take (szAt 0 l).1))
    · left; right; right; exact intR_range h h1
    · right
      have he := enc_sz h
      exact ⟨(szAt 0 l).1, by omega, h3, by rw [← h], intR_ok h h1, by omega, by omega, he.1, he.2⟩
  · left
    rcases h with h | h
    · left; rw [intR_err (by omega), h]
    · right; left; rw [intR_err (by omega), h]
/-- an encoding is read back -/
theorem intR_enc {n low high : Int} (h1 : -9223372036854775808 ≤ n) (h2 : n ≤ 9223372036854775807) (r : List UInt8) :
    intR (enc n ++ r) low high = if n < low ∨ high < n then (0, [], 14) else (n, r, 0) := by
  obtain ⟨hs, hv⟩ := sz_enc h1 h2 r
  have ht : (enc n ++ r).take (enc n).length = enc n := List.take_left
  have hd : (enc n ++ r).drop (enc n).length = r := List.drop_left
  have hu : unz (val ((enc n ++ r).take (szAt 0 (enc n ++ r)).1)) = n := by rw [hs, ht, hv, unz_zig]
  split
  · exact intR_range (by rw [hs]) (by rw [hu]; assumption)
  · rw [intR_ok (by rw [hs]) (by rw [hu]; assumption), hu, hs, hd]
end Go.Proofs.Ytidinbeanaifmaa
namespace Go.Proofs.Ytidinbeanaifmaa
open Go.RowKit

/-- a value: its kind, its integer, its text, its items, its keys -/
inductive VT where
  | mk (k i : Int) (t : ByteArray) (its : List VT) (ks : List ByteArray)

namespace VT
def k : VT → Int | .mk k _ _ _ _ => k
def i : VT → Int | .mk _ i _ _ _ => i
def t : VT → ByteArray | .mk _ _ t _ _ => t
def its : VT → List VT | .mk _ _ _ s _ => s
def ks : VT → List ByteArray | .mk _ _ _ _ s => s
end VT

def nullT : VT := .mk 0 0 ByteArray.empty [] []
instance : Inhabited VT := ⟨nullT⟩

/-! ### measures -/
mutual
def VT.size : VT → Nat
  | .mk _ _ _ its _ => 1 + sizes its
def sizes : List VT → Nat
  | [] => 0
  | x :: r => x.size + sizes r
end
mutual
def VT.depth : VT → Nat
  | .mk _ _ _ its _ => depths its + 1
def depths : List VT → Nat
  | [] => 0
  | x :: r => max x.depth (depths r)
end
theorem sizes_append (a b : List VT) : sizes (a ++ b) = sizes a + sizes b := by
  induction a with
  | nil => simp [sizes]
  | cons x r ih => simp [sizes, ih]; omega
theorem depths_append (a b : List VT) : depths (a ++ b) = max (depths a) (depths b) := by
  induction a with
  | nil => simp [depths]
  | cons x r ih => simp [depths, ih, Nat.max_assoc]
theorem sizes_take {l : List VT} {j : Nat} {x : VT} (h : l[j]? = some x) : sizes (l.take (j + 1)) = sizes (l.take j) + x.size := by
  rw [List.take_add_one, h, sizes_append]
  simp [sizes]
theorem depths_take {l : List VT} {j : Nat} {x : VT} (h : l[j]? = some x) : depths (l.take (j + 1)) = max (depths (l.take j)) x.depth := by
  rw [List.take_add_one, h, depths_append]
  simp [depths]
theorem size_pos : ∀ x : VT, 1 ≤ x.size
  | .mk .. => by simp [VT.size]
theorem depth_pos : ∀ x : VT, 1 ≤ x.depth
  | .mk .. => by simp [VT.depth]
theorem VT.size_mk (k i : Int) (t : ByteArray) (its : List VT) (ks : List ByteArray) : (VT.mk k i t its ks).size = 1 + sizes its := by rw [VT.size]
theorem VT.depth_mk (k i : Int) (t : ByteArray) (its : List VT) (ks : List ByteArray) : (VT.mk k i t its ks).depth = depths its + 1 := by rw [VT.depth]
theorem sizes_take_le (l : List VT) (j : Nat) : sizes (l.take j) ≤ sizes l := by
  have := sizes_append (l.take j) (l.drop j)
  rw [List.take_append_drop] at this
  omega
theorem depths_take_le (l : List VT) (j : Nat) : depths (l.take j) ≤ depths l := by
  have := depths_append (l.take j) (l.drop j)
  rw [List.take_append_drop] at this
  omega
theorem size_at {l : List VT} {j : Nat} {x : VT} (h : l[j]? = some x) : x.size ≤ sizes l := by
  have h1 := sizes_take h
  have h2 := sizes_take_le l (j + 1)
  omega
theorem depth_at {l : List VT} {j : Nat} {x : VT} (h : l[j]? = some x) : x.depth ≤ depths l := by
  have h1 := depths_take h
  have h2 := depths_take_le l (j + 1)
  omega
theorem sizes_room (l : List VT) (j : Nat) : sizes (l.take j) + (l.length - j) ≤ sizes l := by
  have h1 := sizes_append (l.take j) (l.drop j)
  rw [List.take_append_drop] at h1
  have h2 : ∀ m : List VT, m.length ≤ sizes m := fun m => by
    induction m with
    | nil => simp
    | cons x r ih => have := size_pos x; simp [sizes]; omega
  have := h2 (l.drop j)
  rw [List.length_drop] at this
  omega
theorem depth_le_size : (n : Nat) → ∀ x : VT, x.size ≤ n → x.depth ≤ x.size
  | 0, x, h => by have := size_pos x; omega
  | n + 1, .mk k i t its ks, h => by
    rw [VT.size_mk] at h ⊢
    rw [VT.depth_mk]
    have : ∀ l : List VT, sizes l ≤ n → depths l ≤ sizes l := fun l => by
      induction l with
      | nil => intro _; simp [depths]
      | cons x r ih =>
        intro hl
        simp only [sizes, depths] at hl ⊢
        have := depth_le_size n x (by omega)
        have := ih (by omega)
        omega
    have := this its (by omega)
    omega

/-! ### a test of every node -/
mutual
def VT.all (p : VT → Bool) : VT → Bool
  | .mk k i t its ks => p (.mk k i t its ks) && alls p its
def alls (p : VT → Bool) : List VT → Bool
  | [] => true
  | x :: r => x.all p && alls p r
end
theorem VT.all_mk (p : VT → Bool) (k i : Int) (t : ByteArray) (its : List VT) (ks : List ByteArray) : (VT.mk k i t its ks).all p = (p (.mk k i t its ks) && alls p its) := by rw [VT.all]
theorem alls_append (p : VT → Bool) (a b : List VT) : alls p (a ++ b) = (alls p a && alls p b) := by
  induction a with
  | nil => simp [alls]
  | cons x r ih => simp [alls, ih, Bool.and_assoc]
theorem alls_take {p : VT → Bool} {l : List VT} {j : Nat} {x : VT} (h : l[j]? = some x) : alls p (l.take (j + 1)) = (alls p (l.take j) && x.all p) := by
  rw [List.take_add_one, h, alls_append]
  simp [alls]
theorem alls_false {p : VT → Bool} {l : List VT} {j : Nat} {x : VT} (h : l[j]? = some x) (hx : x.all p = false) : alls p l = false := by
  have h1 : alls p (l.take (j + 1)) = false := by rw [alls_take h, hx, Bool.and_false]
  have h2 := alls_append p (l.take (j + 1)) (l.drop (j + 1))
  rw [List.take_append_drop, h1] at h2
  simpa using h2
theorem all_at {p : VT → Bool} {l : List VT} {j : Nat} {x : VT} (ha : alls p l = true) (h : l[j]? = some x) : x.all p = true := by
  cases hx : x.all p with
  | true => rfl
  | false => rw [alls_false h hx] at ha; cases ha
theorem VT.all_here {p : VT → Bool} : ∀ {x : VT}, x.all p = true → p x = true
  | .mk .., h => by rw [VT.all_mk, Bool.and_eq_true] at h; exact h.1
theorem VT.all_its {p : VT → Bool} : ∀ {x : VT}, x.all p = true → alls p x.its = true
  | .mk .., h => by rw [VT.all_mk, Bool.and_eq_true] at h; exact h.2

/-! ### strings -/
/-- one string is less than another one -/
def less (a b : ByteArray) : Bool := Op.bytesLess a.toList b.toList
theorem bl_irrefl : ∀ a : List UInt8, Op.bytesLess a a = false
  | [] => rfl
  | x :: r => by simp [Op.bytesLess, bl_irrefl r]
theorem bl_tri : ∀ a b : List UInt8, a ≠ b → Op.bytesLess a b = !Op.bytesLess b a
  | [], [], h => absurd rfl h
  | [], _ :: _, _ => rfl
  | _ :: _, [], _ => rfl
  | x :: a, y :: b, h => by
    simp only [Op.bytesLess]
    rcases Nat.lt_trichotomy x.toNat y.toNat with h1 | h1 | h1
    · have h2 : x < y := UInt8.lt_iff_toNat_lt.2 h1
      have h3 : ¬ y < x := fun e => by have := UInt8.lt_iff_toNat_lt.1 e; omega
      have h4 : (y == x) = false := by rw [beq_eq_false_iff_ne]; intro e; subst e; omega
      simp [h2, h3, h4]
    · obtain rfl : x = y := UInt8.toNat_inj.1 h1
      have h3 : ¬ x < x := fun e => by have := UInt8.lt_iff_toNat_lt.1 e; omega
      have := bl_tri a b (fun e => h (by rw [e]))
      simp [h3, this]
    · have h2 : y < x := UInt8.lt_iff_toNat_lt.2 h1
      have h3 : ¬ x < y := fun e => by have := UInt8.lt_iff_toNat_lt.1 e; omega
      have h4 : (x == y) = false := by rw [beq_eq_false_iff_ne]; intro e; subst e; omega
      simp [h2, h3, h4]
theorem bl_trans : ∀ a b c : List UInt8, Op.bytesLess a b = true → Op.bytesLess b c = true → Op.bytesLess a c = true
  | _, [], _, h, _ => by simp [Op.bytesLess] at h
  | _, _ :: _, [], _, k => by simp [Op.bytesLess] at k
  | [], _ :: _, _ :: _, _, _ => rfl
  | x :: a, y :: b, z :: c, h, k => by
    simp only [Op.bytesLess, Bool.or_eq_true, decide_eq_true_eq, Bool.and_eq_true, beq_iff_eq] at h k ⊢
    rcases h with h | ⟨rfl, h⟩ <;> rcases k with k | ⟨rfl, k⟩
    · exact Or.inl (UInt8.lt_iff_toNat_lt.2 (Nat.lt_trans (UInt8.lt_iff_toNat_lt.1 h) (UInt8.lt_iff_toNat_lt.1 k)))
    · exact Or.inl h
    · exact Or.inl k
    · exact Or.inr ⟨rfl, bl_trans a b c h k⟩
theorem str_inj {a b : ByteArray} (h : a.toList = b.toList) : a = b := by
  rw [ByteArray.toList_eq, ByteArray.toList_eq] at h
  cases a; cases b; simpa using h
/-- two strings: less, equal, or greater; each with all that the operators say -/
theorem str_ways (a b : ByteArray) :
    (Op.bytesLess a.toList b.toList = true ∧ (a.toList == b.toList) = false ∧ (b.toList == a.toList) = false ∧ Op.bytesLess b.toList a.toList = false ∧ a ≠ b) ∨
    (a = b ∧ Op.bytesLess a.toList b.toList = false ∧ (a.toList == b.toList) = true ∧ (b.toList == a.toList) = true ∧ Op.bytesLess b.toList a.toList = false) ∨
    (Op.bytesLess a.toList b.toList = false ∧ (a.toList == b.toList) = false ∧ (b.toList == a.toList) = false ∧ Op.bytesLess b.toList a.toList = true ∧ a ≠ b) := by
  by_cases h : a = b
  · subst h
    exact Or.inr (Or.inl ⟨rfl, bl_irrefl _, by simp, by simp, bl_irrefl _⟩)
  · have hne : a.toList ≠ b.toList := fun e => h (str_inj e)
    have h1 : (a.toList == b.toList) = false := beq_eq_false_iff_ne.2 hne
    have h2 : (b.toList == a.toList) = false := beq_eq_false_iff_ne.2 (fun e => hne e.symm)
    have h3 := bl_tri _ _ hne
    cases h4 : Op.bytesLess b.toList a.toList with
    | true => rw [h4] at h3; exact Or.inr (Or.inr ⟨h3, h1, h2, rfl, h⟩)
    | false => rw [h4] at h3; exact Or.inl ⟨h3, h1, h2, rfl, h⟩
/-- the keys are ascending up to the one at n -/
def risingTo (ks : List ByteArray) (n : Nat) : Bool := (List.range n).all fun j => less (ks.getD j ByteArray.empty) (ks.getD (j + 1) ByteArray.empty)
def rising (ks : List ByteArray) : Bool := risingTo ks (ks.length - 1)
theorem risingTo_succ (ks : List ByteArray) (n : Nat) : risingTo ks (n + 1) = (risingTo ks n && less (ks.getD n ByteArray.empty) (ks.getD (n + 1) ByteArray.empty)) := by
  unfold risingTo
  rw [List.range_succ, List.all_append]
  simp
theorem risingTo_false {ks : List ByteArray} {n m : Nat} (h : risingTo ks n = false) (hm : n ≤ m) : risingTo ks m = false := by
  unfold risingTo at h ⊢
  rw [List.all_eq_false] at h ⊢
  obtain ⟨j, hj, hl⟩ := h
  exact ⟨j, List.mem_range.2 (by have := List.mem_range.1 hj; omega), hl⟩

/-! ### well formed, a future, short -/
/-- the fields of a kind and no others -/
def okF (x : VT) : Bool :=
  if x.k = 0 then decide (x.i = 0) && (decide (x.t.size = 0) && (decide (x.its.length = 0) && decide (x.ks.length = 0)))
  else if x.k = 1 then (decide (x.i = 0) || decide (x.i = 1)) && (decide (x.t.size = 0) && (decide (x.its.length = 0) && decide (x.ks.length = 0)))
  else if x.k = 2 then decide (x.t.size = 0) && (decide (x.its.length = 0) && decide (x.ks.length = 0))
  else if x.k = 3 then decide (x.i = 0) && (decide (x.its.length = 0) && decide (x.ks.length = 0))
  else if x.k = 4 then decide (x.i = 0) && (decide (x.t.size = 0) && decide (x.ks.length = 0))
  else if x.k = 5 then decide (x.i = 0) && (decide (x.t.size = 0) && (decide (x.ks.length = x.its.length) && rising x.ks))
  else if x.k = 6 then decide (0 ≤ x.i) && (decide (x.t.size = 0) && (decide (x.its.length = 0) && decide (x.ks.length = 0)))
  else false
theorem okF_0 (i : Int) (t : ByteArray) (its : List VT) (ks : List ByteArray) : okF (.mk 0 i t its ks) = (decide (i = 0) && (decide (t.size = 0) && (decide (its.length = 0) && decide (ks.length = 0)))) := rfl
theorem okF_1 (i : Int) (t : ByteArray) (its : List VT) (ks : List ByteArray) : okF (.mk 1 i t its ks) = ((decide (i = 0) || decide (i = 1)) && (decide (t.size = 0) && (decide (its.length = 0) && decide (ks.length = 0)))) := rfl
theorem okF_2 (i : Int) (t : ByteArray) (its : List VT) (ks : List ByteArray) : okF (.mk 2 i t its ks) = (decide (t.size = 0) && (decide (its.length = 0) && decide (ks.length = 0))) := rfl
theorem okF_3 (i : Int) (t : ByteArray) (its : List VT) (ks : List ByteArray) : okF (.mk 3 i t its ks) = (decide (i = 0) && (decide (its.length = 0) && decide (ks.length = 0))) := rfl
theorem okF_4 (i : Int) (t : ByteArray) (its : List VT) (ks : List ByteArray) : okF (.mk 4 i t its ks) = (decide (i = 0) && (decide (t.size = 0) && decide (ks.length = 0))) := rfl
theorem okF_5 (i : Int) (t : ByteArray) (its : List VT) (ks : List ByteArray) : okF (.mk 5 i t its ks) = (decide (i = 0) && (decide (t.size = 0) && (decide (ks.length = its.length) && rising ks))) := rfl
theorem okF_6 (i : Int) (t : ByteArray) (its : List VT) (ks : List ByteArray) : okF (.mk 6 i t its ks) = (decide (0 ≤ i) && (decide (t.size = 0) && (decide (its.length = 0) && decide (ks.length = 0)))) := rfl
def VT.wf (x : VT) : Bool := x.all okF
def noFut (x : VT) : Bool := decide (x.k ≠ 6)
def shortF (x : VT) : Bool := decide (x.t.size ≤ 4096) && x.ks.all fun s => decide (s.size ≤ 4096)
def VT.within (x : VT) : Bool := x.all shortF && (decide (x.depth ≤ 16) && decide (x.size ≤ 1000))
def VT.right (x : VT) : Bool := x.wf && (x.within && x.all noFut)

/-! ### at most n nodes -/
mutual
def VT.few : VT → Int → Int
  | .mk _ _ _ its _, n => fews its (n - 1)
def fews : List VT → Int → Int
  | [], n => n
  | x :: r, n => if n < 0 then n else fews r (x.few n)
end
theorem VT.few_mk (k i : Int) (t : ByteArray) (its : List VT) (ks : List ByteArray) (n : Int) : (VT.mk k i t its ks).few n = fews its (n - 1) := by rw [VT.few]
theorem fews_neg {l : List VT} {n : Int} (h : n < 0) : fews l n = n := by
  cases l with
  | nil => rw [fews]
  | cons x r => rw [fews, if_pos h]
theorem fews_append (a b : List VT) (n : Int) : fews (a ++ b) n = fews b (fews a n) := by
  induction a generalizing n with
  | nil => simp [fews]
  | cons x r ih =>
    rw [List.cons_append, fews, fews]
    split
    · rw [fews_neg (by assumption)]
    · rw [ih]
theorem fews_take {l : List VT} {j : Nat} {x : VT} {n : Int} (h : l[j]? = some x) (hn : 0 ≤ fews (l.take j) n) : fews (l.take (j + 1)) n = x.few (fews (l.take j) n) := by
  rw [List.take_add_one, h, fews_append]
  simp only [Option.toList_some, fews]
  rw [if_neg (by omega)]
theorem fews_stop {l : List VT} {j : Nat} {n : Int} (hn : fews (l.take j) n < 0) : fews l n = fews (l.take j) n := by
  have := fews_append (l.take j) (l.drop j) n
  rw [List.take_append_drop] at this
  rw [this, fews_neg hn]
mutual
theorem VT.few_sum : ∀ (x : VT) (n : Int), 0 ≤ x.few n → x.few n = n - x.size
  | .mk k i t its ks, n, h => by
    rw [VT.few_mk] at h ⊢
    rw [VT.size_mk, fews_sum its _ h]
    omega
theorem fews_sum : ∀ (l : List VT) (n : Int), 0 ≤ fews l n → fews l n = n - sizes l
  | [], n, _ => by simp [fews, sizes]
  | x :: r, n, h => by
    rw [fews] at h ⊢
    split at h
    · omega
    · rw [if_neg (by assumption), sizes]
      have h1 := fews_sum r _ h
      rw [h1] at h ⊢
      have h2 := VT.few_sum x n (by omega)
      omega
end
mutual
theorem VT.few_ge : ∀ (x : VT) (n : Int), 0 ≤ n → -1 ≤ x.few n
  | .mk k i t its ks, n, h => by
    rw [VT.few_mk]
    exact fews_ge its _ (by omega)
theorem fews_ge : ∀ (l : List VT) (n : Int), -1 ≤ n → -1 ≤ fews l n
  | [], n, h => by simpa [fews] using h
  | x :: r, n, h => by
    rw [fews]
    split
    · exact h
    · exact fews_ge r _ (VT.few_ge x n (by omega))
end
mutual
theorem VT.few_le : ∀ (x : VT) (n : Int), x.few n ≤ n
  | .mk k i t its ks, n => by
    rw [VT.few_mk]
    have := fews_le its (n - 1)
    omega
theorem fews_le : ∀ (l : List VT) (n : Int), fews l n ≤ n
  | [], n => by simp [fews]
  | x :: r, n => by
    rw [fews]
    split
    · omega
    · have h1 := fews_le r (x.few n)
      have h2 := VT.few_le x n
      omega
end
theorem few_size {x : VT} {n : Int} (h : 0 ≤ x.few n) : (x.size : Int) ≤ n := by
  have := VT.few_sum x n h
  omega
end Go.Proofs.Ytidinbeanaifmaa
namespace Go.Proofs.Ytidinbeanaifmaa
open Go.RowKit

/-- strings from address A on -/
def LiesS (w : World) (R : Nat → Prop) (A : Option Addr) (ks : List ByteArray) : Prop :=
  ∀ (j : Nat) (s : ByteArray), ks[j]? = some s → s.size ≤ 9223372036854775807 ∧ ∃ g o, A = some ⟨g, o, none⟩ ∧ R g ∧ w.cell? ⟨g, o + j, none⟩ = some (.string s)

/-- a value as its five cells -/
def vag (k i : Int) (t : ByteArray) (A : Option Addr) (n c : Nat) (A' : Option Addr) (n' c' : Nat) : Value := .agg #[.int .i64 k, .int .i64 i, .string t, .slice A n c, .slice A' n' c']

mutual
/-- the value v reads as the tree, through blocks of R -/
def Lies (w : World) (R : Nat → Prop) : VT → Value → Prop
  | .mk k i t its ks, v => ∃ A c A' c', v = vag k i t A its.length c A' ks.length c' ∧ (-9223372036854775808 ≤ k ∧ k ≤ 9223372036854775807) ∧ (-9223372036854775808 ≤ i ∧ i ≤ 9223372036854775807) ∧ t.size ≤ 9223372036854775807 ∧
      its.length ≤ c ∧ c ≤ 9223372036854775807 ∧ LiesL w R A 0 its ∧ ks.length ≤ c' ∧ c' ≤ 9223372036854775807 ∧ LiesS w R A' ks
/-- values in a row from address A on, the first of them at index j -/
def LiesL (w : World) (R : Nat → Prop) (A : Option Addr) (j : Nat) : List VT → Prop
  | [] => True
  | x :: r => (∃ g o a b s y z, A = some ⟨g, o, none⟩ ∧ R g ∧ w.cell? ⟨g, o + j * 5, none⟩ = some a ∧ w.cell? ⟨g, o + j * 5 + 1, none⟩ = some b ∧ w.cell? ⟨g, o + j * 5 + 2, none⟩ = some s ∧
      w.cell? ⟨g, o + j * 5 + 3, none⟩ = some y ∧ w.cell? ⟨g, o + j * 5 + 4, none⟩ = some z ∧ Lies w R x (.agg #[a, b, s, y, z])) ∧ LiesL w R A (j + 1) r
end

section
variable {w w' : World} {R R' : Nat → Prop}

theorem Lies.open {k i : Int} {t : ByteArray} {its : List VT} {ks : List ByteArray} {v : Value} (h : Lies w R (.mk k i t its ks) v) :
    ∃ A c A' c', v = vag k i t A its.length c A' ks.length c' ∧ (-9223372036854775808 ≤ k ∧ k ≤ 9223372036854775807) ∧ (-9223372036854775808 ≤ i ∧ i ≤ 9223372036854775807) ∧ t.size ≤ 9223372036854775807 ∧
      its.length ≤ c ∧ c ≤ 9223372036854775807 ∧ LiesL w R A 0 its ∧ ks.length ≤ c' ∧ c' ≤ 9223372036854775807 ∧ LiesS w R A' ks := by rwa [Lies] at h
variable {A : Option Addr} in
theorem LiesL.cons {x : VT} {r : List VT} {j : Nat} (h : LiesL w R A j (x :: r)) :
    (∃ g o a b s y z, A = some ⟨g, o, none⟩ ∧ R g ∧ w.cell? ⟨g, o + j * 5, none⟩ = some a ∧ w.cell? ⟨g, o + j * 5 + 1, none⟩ = some b ∧ w.cell? ⟨g, o + j * 5 + 2, none⟩ = some s ∧
      w.cell? ⟨g, o + j * 5 + 3, none⟩ = some y ∧ w.cell? ⟨g, o + j * 5 + 4, none⟩ = some z ∧ Lies w R x (.agg #[a, b, s, y, z])) ∧ LiesL w R A (j + 1) r := by rwa [LiesL] at h
variable {A : Option Addr} in
theorem LiesL.at_ {l : List VT} {x : VT} : ∀ {m j : Nat}, LiesL w R A m l → l[j]? = some x →
    ∃ g o k i t B n c B' n' c', A = some ⟨g, o, none⟩ ∧ R g ∧ w.cell? ⟨g, o + (m + j) * 5, none⟩ = some (.int .i64 k) ∧ w.cell? ⟨g, o + (m + j) * 5 + 1, none⟩ = some (.int .i64 i) ∧ w.cell? ⟨g, o + (m + j) * 5 + 2, none⟩ = some (.string t) ∧
      w.cell? ⟨g, o + (m + j) * 5 + 3, none⟩ = some (.slice B n c) ∧ w.cell? ⟨g, o + (m + j) * 5 + 4, none⟩ = some (.slice B' n' c') ∧ Lies w R x (vag k i t B n c B' n' c') := by
  induction l with
  | nil => intro m j _ h; simp at h
  | cons y r ih =>
    intro m j h hj
    obtain ⟨⟨g, o, a, b, s, p, q, hA, hR, h0, h1, h2, h3, h4, hx⟩, hr⟩ := h.cons
    cases j with
    | zero =>
      obtain rfl : y = x := by simpa using hj
      obtain ⟨k, i, t, its, ks⟩ := y
      have hx' := hx
      obtain ⟨B, c, B', c', e, _⟩ := hx.open
      unfold vag at e
      simp only [Value.agg.injEq, Array.mk.injEq, List.cons.injEq, and_true] at e
      obtain ⟨rfl, rfl, rfl, rfl, rfl⟩ := e
      exact ⟨g, o, k, i, t, B, _, c, B', _, c', hA, hR, h0, h1, h2, h3, h4, hx'⟩
    | succ j =>
      have := ih hr (j := j) (by simpa using hj)
      rw [show m + 1 + j = m + (j + 1) by omega] at this
      exact this
variable {A : Option Addr} in
theorem LiesL.none_ {j : Nat} : LiesL w R A j [] := by rw [LiesL]; trivial
variable {A : Option Addr} in
theorem LiesS.none_ : LiesS w R A [] := fun j s h => by simp at h

variable {A : Option Addr} in
theorem LiesS.keep {ks : List ByteArray} (h : LiesS w R A ks) (hk : ∀ p : Addr, R p.block → w'.cell? p = w.cell? p) (hR : ∀ b, R b → R' b) : LiesS w' R' A ks := fun j s hj => by
  obtain ⟨h0, g, o, h1, h2, h3⟩ := h j s hj
  exact ⟨h0, g, o, h1, hR _ h2, (hk ⟨g, o + j, none⟩ h2).trans h3⟩
mutual
theorem Lies.keep (hk : ∀ p : Addr, R p.block → w'.cell? p = w.cell? p) (hR : ∀ b, R b → R' b) : ∀ {x : VT} {v : Value}, Lies w R x v → Lies w' R' x v
  | .mk k i t its ks, v, h => by
    rw [Lies] at h ⊢
    obtain ⟨A, c, A', c', e, h1, h2, h3, h4, h5, h6, h7, h8, h9⟩ := h
    exact ⟨A, c, A', c', e, h1, h2, h3, h4, h5, LiesL.keep hk hR h6, h7, h8, h9.keep hk hR⟩
theorem LiesL.keep (hk : ∀ p : Addr, R p.block → w'.cell? p = w.cell? p) (hR : ∀ b, R b → R' b) : ∀ {A : Option Addr} {l : List VT} {j : Nat}, LiesL w R A j l → LiesL w' R' A j l
  | A, [], _, _ => by rw [LiesL]; trivial
  | A, x :: r, j, h => by
    rw [LiesL] at h ⊢
    obtain ⟨⟨g, o, a, b, s, y, z, hA, hb, h0, h1, h2, h3, h4, hx⟩, hr⟩ := h
    exact ⟨⟨g, o, a, b, s, y, z, hA, hR _ hb, (hk ⟨g, o + j * 5, none⟩ hb).trans h0, (hk ⟨g, o + j * 5 + 1, none⟩ hb).trans h1, (hk ⟨g, o + j * 5 + 2, none⟩ hb).trans h2, (hk ⟨g, o + j * 5 + 3, none⟩ hb).trans h3,
      (hk ⟨g, o + j * 5 + 4, none⟩ hb).trans h4, Lies.keep hk hR hx⟩, LiesL.keep hk hR hr⟩
end

variable {A : Option Addr}
/-- a row from an index on -/
theorem LiesL.drop {l : List VT} : ∀ {m : Nat} (j : Nat), LiesL w R A m l → LiesL w R A (m + j) (l.drop j) := by
  induction l with
  | nil => intro m j _; rw [List.drop_nil]; exact LiesL.none_
  | cons y r ih =>
    intro m j h
    cases j with
    | zero => exact h
    | succ j =>
      have := ih j h.cons.2
      rwa [show m + 1 + j = m + (j + 1) by omega] at this
theorem LiesL.snoc {l : List VT} {x : VT} : ∀ {m : Nat}, LiesL w R A m l → LiesL w R A (m + l.length) [x] → LiesL w R A m (l ++ [x]) := by
  induction l with
  | nil => intro m _ h; simpa using h
  | cons y r ih =>
    intro m h hx
    rw [List.cons_append, LiesL]
    rw [LiesL] at h
    exact ⟨h.1, ih h.2 (by rw [List.length_cons] at hx; rwa [show m + 1 + r.length = m + (r.length + 1) by omega])⟩
theorem LiesL.take {l : List VT} : ∀ {m : Nat} (j : Nat), LiesL w R A m l → LiesL w R A m (l.take j) := by
  induction l with
  | nil => intro m j _; rw [List.take_nil]; exact LiesL.none_
  | cons y r ih =>
    intro m j h
    cases j with
    | zero => exact LiesL.none_
    | succ j =>
      rw [List.take_succ_cons, LiesL]
      rw [LiesL] at h
      exact ⟨h.1, ih j h.2⟩
/-- a row is known by each of its places -/
theorem LiesL.of_at {l : List VT} : ∀ {m : Nat}, (∀ j x, l[j]? = some x → ∃ g o a b s y z, A = some ⟨g, o, none⟩ ∧ R g ∧ w.cell? ⟨g, o + (m + j) * 5, none⟩ = some a ∧ w.cell? ⟨g, o + (m + j) * 5 + 1, none⟩ = some b ∧ w.cell? ⟨g, o + (m + j) * 5 + 2, none⟩ = some s ∧
      w.cell? ⟨g, o + (m + j) * 5 + 3, none⟩ = some y ∧ w.cell? ⟨g, o + (m + j) * 5 + 4, none⟩ = some z ∧ Lies w R x (.agg #[a, b, s, y, z])) → LiesL w R A m l := by
  induction l with
  | nil => intro m _; exact LiesL.none_
  | cons y r ih =>
    intro m h
    rw [LiesL]
    refine ⟨h 0 y rfl, ih fun j x hj => ?_⟩
    have := h (j + 1) x (by simpa using hj)
    rwa [show m + (j + 1) = m + 1 + j by omega] at this
end

/-- below the end of the heap -/
def Lo (w : World) : Nat → Prop := fun b => b < w.heap.size
section
variable {w w' : World} {A : Option Addr}
theorem Lies.below {x : VT} {v : Value} (h : Lies w (Lo w) x v) (hb : Below w.heap.size w w') : Lies w' (Lo w') x v :=
  h.keep (fun _ hp => hb.cell hp) (fun b (h : b < _) => show b < _ from Nat.lt_of_lt_of_le h hb.size)
theorem LiesL.below {l : List VT} {j : Nat} (h : LiesL w (Lo w) A j l) (hb : Below w.heap.size w w') : LiesL w' (Lo w') A j l :=
  h.keep (fun _ hp => hb.cell hp) (fun b (h : b < _) => show b < _ from Nat.lt_of_lt_of_le h hb.size)
theorem LiesS.below {l : List ByteArray} (h : LiesS w (Lo w) A l) (hb : Below w.heap.size w w') : LiesS w' (Lo w') A l :=
  h.keep (fun _ hp => hb.cell hp) (fun b (h : b < _) => show b < _ from Nat.lt_of_lt_of_le h hb.size)
theorem below_one (w : World) (o : Obj) : Below w.heap.size w (w.alloc o) := Below.alloc (Below.refl _ _) (Nat.le_refl _) o
end

theorem below_next {a b c : World} (h : Below a.heap.size a b) (k : Below b.heap.size b c) : Below a.heap.size a c := h.trans (k.mono h.size)
theorem below_via {a b c : World} {o : Obj} (h : Below a.heap.size a b) (k : Below (b.alloc o).heap.size (b.alloc o) c) : Below a.heap.size a c :=
  (h.alloc h.size o).trans (k.mono (Nat.le_trans h.size (by simp)))

theorem below_drew {B : Nat} {a w : World} (h : Below B a w) (k : Nat) : Below B a (w.drewN k) := ⟨h.os, h.tape, h.output, h.size, h.block⟩
end Go.Proofs.Ytidinbeanaifmaa
namespace Go.Proofs.Ytidinbeanaifmaa
open Go.RowKit

/-- what a function that only lays blocks of its own hands back -/
def Gives (x : Value) (w : World) (e : Ending) (w' : World) : Prop := e = .returned x ∧ Below w.heap.size w w'

set_option maxHeartbeats 400000 in
theorem refSize_all (m : Nat) : ∀ (x : VT) (w : World) (v : Value), x.size ≤ m → m < 4611686018427387904 → Lies w (Lo w) x v → Calls Try.prog 36 #[v] w (Gives (.int .i64 (x.size : Nat)) w) := by
  induction m with
  | zero => intro x _ _ h; have := size_pos x; omega
  | succ m ih =>
    intro x w v hsz hm hv
    obtain ⟨k, i, t, its, ks⟩ := x
    obtain ⟨A, c, A', c', rfl, hk, hi, ht, hlc, hcm, hL, hkc, hcm', hS⟩ := hv.open
    rw [VT.size_mk] at hsz
    have HL := Lib.hid hL
    have IH := Lib.hid ih
    have hlen : its.length ≤ sizes its := by have := sizes_room its 0; simp [sizes] at this; omega
    clear hS hL ih hv
    obtain ⟨n, hn⟩ : ∃ n, n = its.length := ⟨_, rfl⟩
    rw [← hn] at hlc hlen ⊢
    have HN := Lib.hid hn
    clear hn
    unfold vag
    go_enter Try.func36, Try.ntmps36
    go_wp2
    obtain ⟨w1, hw1⟩ : ∃ w1, w1 = w.alloc (.cells #[.int .i64 k, .int .i64 i, .string t, .slice A n c, .slice A' ks.length c'] 26) := ⟨_, rfl⟩
    have B0 : Hid (Below w.heap.size w w1) := Lib.hid (by rw [hw1]; exact below_one _ _)
    have S1 : Hid (w.heap.size < w1.heap.size) := Lib.hid (by rw [hw1]; simp)
    have C3 : w1.cell? ⟨w.heap.size, 3, none⟩ = some (.slice A n c) := by rw [hw1, World.cell?_alloc_at _ _ _ _ rfl]; rfl
    rw [← hw1]
    have HW := Lib.hid hw1
    clear hw1
    go_loopw [3, 4] (fun r t wr => ∃ j : Nat, j ≤ n ∧ t = .int .i64 j ∧ r = .int .i64 ((1 + sizes (its.take j) : Nat) : Int) ∧ Hid (Below w1.heap.size w1 wr)) (fun _ t _ => n - (intOf t).toNat)
    case atStart => exact ⟨0, by omega, rfl, by simp [sizes], Lib.hid (Below.refl _ _)⟩
    case round =>
      obtain ⟨j, hjn, rfl, rfl, hb⟩ := hrel
      by_cases hlt : j < n
      · obtain ⟨g, o, k', i', t', B, n', c1, B', n1, c2, rfl, hg, e0, e1, e2, e3, e4, hx⟩ := (HL.out).at_ (j := j) (x := its[j]'(by rw [← HN.out]; exact hlt)) (List.getElem?_eq_getElem _)
        have hj := sizes_take (List.getElem?_eq_getElem (l := its) (i := j) (by rw [← HN.out]; exact hlt))
        have hle := sizes_take_le its (j + 1)
        have hb' : Below w.heap.size w wr := B0.out.trans (hb.out.mono (by have := S1.out; omega))
        have cc := fun (q : Nat) => hb'.cell (p := ⟨g, q, none⟩) hg
        rw [Nat.zero_add] at e0 e1 e2 e3 e4
        rw [← cc] at e0 e1 e2 e3 e4
        have C3' := (hb.out.cell (p := ⟨w.heap.size, 3, none⟩) S1.out).trans C3
        have hc := IH.out (its[j]'(by rw [← HN.out]; exact hlt)) wr _ (by omega) (by omega) (hx.below hb')
        generalize its[j]'(by rw [← HN.out]; exact hlt) = x at *
        have HC := Lib.hid hc
        have HB := Lib.hid hb'
        clear hc hx hb' cc C3
        unfold vag at HC
        go_wp2_with fail
        refine (HC.out).mono ?_
        rintro e w' ⟨rfl, hb2⟩
        have HB2 := Lib.hid (hb.out.trans (hb2.mono hb.out.size))
        clear hb2
        go_wp2
        go_roundw
        case rel => exact ⟨j + 1, by omega, by go_num, by rw [hj]; go_num, HB2⟩
        case measure => simp [intOf]; omega
      · have C3' := (hb.out.cell (p := ⟨w.heap.size, 3, none⟩) S1.out).trans C3
        obtain rfl : j = n := by omega
        go_wp2
        go_ret
        refine ⟨?_, B0.out.trans (hb.out.mono (by have := S1.out; omega))⟩
        rw [VT.size_mk, HN.out, List.take_length]
        rfl
end Go.Proofs.Ytidinbeanaifmaa
namespace Go.Proofs.Ytidinbeanaifmaa
open Go.RowKit

theorem ret_u64 {a b : Int} (h : a = b) : Ending.returned (.int .u64 a) = .returned (.int .u64 b) := by rw [h]
theorem ret_i64 {a b : Int} (h : a = b) : Ending.returned (.int .i64 a) = .returned (.int .i64 b) := by rw [h]
theorem u64_not (a : Nat) (ha : a < 18446744073709551616) : bits .xor .u64 IntKind.u64.max (a : Int) = 18446744073709551615 - (a : Int) := by
  have h1 : (BitVec.ofInt 64 IntKind.u64.max) = BitVec.allOnes 64 := by decide
  show IntKind.u64.wrap ((BitVec.ofInt 64 IntKind.u64.max ^^^ BitVec.ofInt 64 (a : Int)).toNat : Int) = _
  rw [h1, BitVec.allOnes_xor, BitVec.toNat_not, ofInt_u64 a (by omega), IntKind.wrap_u64]
  omega
theorem fold_neg (n : Int) (h1 : -9223372036854775808 ≤ n) (h : n < 0) : bits .xor .u64 IntKind.u64.max (IntKind.u64.wrap (IntKind.u64.wrap n * 2)) = (zig n : Nat) := by
  have e : IntKind.u64.wrap (IntKind.u64.wrap n * 2) = ((2 * n + 18446744073709551616).toNat : Int) := by rw [IntKind.wrap_u64, IntKind.wrap_u64]; omega
  rw [e, u64_not _ (by omega), zig_neg h]
  omega
theorem unfold_odd (u : Nat) (hu : u < 18446744073709551616) (h : u % 2 = 1) : wrap64 (bits .xor .u64 IntKind.u64.max ((u : Int) / 2)) = unz u := by
  have e : (u : Int) / 2 = ((u / 2 : Nat) : Int) := by omega
  rw [e, u64_not _ (by omega)]
  unfold wrap64 unz
  rw [if_pos h]
  omega
theorem unz_even (u : Nat) (h : u % 2 = 0) : unz u = ((u / 2 : Nat) : Int) := by unfold unz; rw [if_neg (by omega)]

set_option maxHeartbeats 400000 in
theorem zigzag_any (n : Int) (w : World) (h1 : -9223372036854775808 ≤ n) (h2 : n ≤ 9223372036854775807) :
    Calls Try.prog 133 #[.int .i64 n] w fun e w' => e = .returned (.int .u64 (zig n : Nat)) ∧ w = w' := by
  rcases Int.lt_or_le n 0 with h | h
  · go_enter Try.func133, Try.ntmps133
    go_wp2
    go_ret
    exact ⟨ret_u64 (by rw [zig_neg h]; omega), rfl⟩
  · go_enter Try.func133, Try.ntmps133
    go_wp2
    go_ret
    exact ⟨ret_u64 (by rw [zig_pos h]; omega), rfl⟩

set_option maxHeartbeats 400000 in
theorem fold_any (n : Int) (w : World) (h1 : -9223372036854775808 ≤ n) (h2 : n ≤ 9223372036854775807) :
    Calls Try.prog 154 #[.int .i64 n] w fun e w' => e = .returned (.int .u64 (zig n : Nat)) ∧ w = w' := by
  rcases Int.lt_or_le n 0 with h | h
  · go_enter Try.func154, Try.ntmps154
    go_wp2
    go_ret
    exact ⟨ret_u64 (fold_neg n h1 (by omega)), rfl⟩
  · go_enter Try.func154, Try.ntmps154
    go_wp2
    go_ret
    exact ⟨ret_u64 (by rw [zig_pos h]; omega), rfl⟩

set_option maxRecDepth 100000 in
set_option maxHeartbeats 400000 in
theorem unfold_any (u : Nat) (w : World) (hu : u < 18446744073709551616) :
    Calls Try.prog 149 #[.int .u64 (u : Int)] w fun e w' => e = .returned (.int .i64 (unz u)) ∧ w = w' := by
  have hu' : (u : Int) < 18446744073709551616 := by omega
  by_cases h : u % 2 = 1
  · have HO := Lib.hid (unfold_odd u hu h)
    have hb : ((u : Int) % 2 == 1) = true := by rw [beq_iff_eq]; omega
    clear h hu hu'
    go_enter Try.func149, Try.ntmps149
    go_wp2
    go_ret
    exact ⟨ret_i64 HO.out, rfl⟩
  · have HO := Lib.hid (unz_even u (by omega))
    have hb : ((u : Int) % 2 == 1) = false := by rw [beq_eq_false_iff_ne]; omega
    clear h hu
    go_enter Try.func149, Try.ntmps149
    go_wp2
    go_ret
    exact ⟨ret_i64 HO.out.symm, rfl⟩
end Go.Proofs.Ytidinbeanaifmaa
namespace Go.Proofs.Ytidinbeanaifmaa
open Go.RowKit

theorem Try.infob : (Try.prog.info? 5).map (fun i => (i.zero, i.size, i.bytes)) = some (some (.int .u8 0), 1, 1) := by kernel_rfl

set_option maxHeartbeats 400000 in
theorem copyOf_any (A : Option Addr) (n c : Nat) (l : List UInt8) (room : Int) (B : Nat) (w : World) (hr : Rb w B A n l) (hB : B ≤ w.heap.size) (hn : n ≤ 70368744177664) (h0 : 0 ≤ room) (hm : room ≤ 70368744177664) :
    Calls Try.prog 85 #[.slice A n c, .int .i64 room] w fun e w' => ∃ v, e = .returned v ∧ w'.ownsRow w.heap.size 5 1 v n (l.map b8) ∧ Below w.heap.size w w' := by
  obtain ⟨i, hi, hz, hs, hb⟩ := info_parts Try.infob
  obtain ⟨room, rfl⟩ := Int.eq_ofNat_of_zero_le h0
  have HR := Lib.hid hr
  clear hr
  go_enter Try.func85, Try.ntmps85
  go_wp2_with (at_make; refine wpList_make_own _ rfl _ _ 50 rfl w.heap.size 5 i (.int .u8 0) 1 Try.underlying50 hi hz hs _ _ _ (n + room) rfl rfl ?_ ?_ ?_ ?_ ?_)
  · rfl
  · rw [hb]; omega
  · unfold maxLen; omega
  · exact Nat.le_refl _
  · intro w1 hown hg
    have hb1 : Below w.heap.size w w1 := (Below.refl _ _).grown hg (Nat.le_refl _) (by simp)
    have H1 := Lib.hid hown
    have H2 := Lib.hid hb1
    clear hown hg hb1
    go_wp2_with (at_builtin; refine wpList_append_b8 rfl _ _ 50 rfl w.heap.size 5 i (.int .u8 0) Try.underlying50 hi hz hs hb rfl _ 0 [] rfl H1.out B A n c l rfl (HR.out.below (H2.out.mono hB)) ?_ ?_ ?_)
    · omega
    · exact H2.out.size
    · intro v' w2 hown2 hg2
      have hb2 : Below w.heap.size w w2 := H2.out.grown hg2 H2.out.size (fun k hk => (H1.out.lt k hk).1)
      have hown3 : w2.ownsRow w.heap.size 5 1 v' n (l.map b8) := by simpa using hown2
      have H3 := Lib.hid hown3
      have H4 := Lib.hid hb2
      clear hown2 hown3 hg2 hb2
      go_wp2
      go_ret
      exact ⟨v', rfl, H3.out, H4.out⟩

theorem Rb.one (w : World) (t : TypeId) (x : Int) (c : UInt8) (h : x = c.toNat) : Rb (w.alloc (.cells #[.int .u8 x] t)) (w.heap.size + 1) (some ⟨w.heap.size, 0, none⟩) 1 [c] := by
  refine ⟨rfl, fun _ => ⟨w.heap.size, 0, rfl, by omega, fun j d hj => ?_⟩⟩
  match j, hj with
  | 0, hj =>
    obtain rfl : c = d := by simpa using hj
    subst h
    rw [Nat.zero_add, World.cell?_alloc_at _ _ _ _ rfl]
    rfl

set_option maxRecDepth 100000 in
set_option maxHeartbeats 400000 in
theorem appendInt_any (base : Nat) (v : Value) (k : Nat) (xs : List Value) (n : Int) (w : World) (hown : w.ownsRow base 5 1 v k xs) (hB : base ≤ w.heap.size) (hk : k ≤ 140737488355000)
    (h1 : -9223372036854775808 ≤ n) (h2 : n ≤ 9223372036854775807) :
    Calls Try.prog 147 #[v, .int .i64 n] w fun e w' => ∃ v', e = .returned v' ∧ w'.ownsRow base 5 1 v' (k + (enc n).length) (xs ++ (enc n).map b8) ∧ Below base w w' := by
  obtain ⟨i, hi, hz, hs, hb⟩ := info_parts Try.infob
  have HO := Lib.hid hown
  clear hown
  go_enter Try.func147, Try.ntmps147
  go_wp2_with (go_at_call 154; refine (fold_any n _ h1 h2).mono ?_; rintro e w' ⟨rfl, rfl⟩)
  go_loopw [0, 5] (fun v u wr => ∃ (d : List UInt8) (f : Nat) (z : Nat), u = .int .u64 (z : Int) ∧ Hid (enc n = d ++ grp (f + 1) z ∧ d.length + f = 9 ∧ z * 128 ^ (9 - f) < 18446744073709551616 ∧ z < 18446744073709551616) ∧
      Hid (wr.ownsRow base 5 1 v (k + d.length) (xs ++ d.map b8)) ∧ Below base w wr) (fun _ u _ => (intOf u).toNat)
  case atStart => exact ⟨[], 9, zig n, rfl, ⟨rfl, rfl, by have := zig_lt h1 h2; simpa using this, zig_lt h1 h2⟩, by simpa using HO, Below.refl _ _⟩
  case round =>
    obtain ⟨d, f, z, rfl, hd, hown, hbl⟩ := hrel
    have hquo : IntKind.u64.wrap ((z : Int) / 128) = (z : Int) / 128 := by
      have hz' : (z : Int) < 18446744073709551616 := by have := hd.out; omega
      exact IntWalk.u64_in _ ⟨by omega, by omega⟩
    have HU := Lib.hid hquo
    clear hquo
    have HB := Lib.hid hbl
    clear hbl h1 h2
    by_cases hlt : 128 ≤ z
    · have hx : (z : Int) % 128 + 128 = ((UInt8.ofNat (z % 128 + 128)).toNat : Int) := by rw [u8_nat _ (by omega)]; omega
      have HX := Lib.hid hx
      clear hx
      go_wp2_with (at_builtin; refine wpList_append_b8 rfl _ _ 50 rfl base 5 i (.int .u8 0) Try.underlying50 hi hz hs hb rfl _ (k + d.length) (xs ++ d.map b8) rfl (hown.out.alloc _) (wr.heap.size + 1) (some ⟨wr.heap.size, 0, none⟩) 1 1 [UInt8.ofNat (z % 128 + 128)] rfl (Rb.one wr 5 _ _ HX.out) ?_ ?_ ?_)
      · have := hd.out; omega
      · have := HB.out.size; simp; omega
      · intro v' w2 hown2 hg2
        have hb2 : Below base w w2 := (HB.out.alloc (by have := HB.out.size; omega) _).grown hg2 (by have := HB.out.size; simp; omega) (fun k hk => (hown.out.lt k hk).1)
        have H3 := Lib.hid hown2
        have H4 := Lib.hid hb2
        clear hown2 hg2 hb2
        obtain ⟨f, rfl⟩ : ∃ g, f = g + 1 := ⟨f - 1, by
          rcases Nat.eq_zero_or_pos f with h0 | h0
          · subst h0; have := hd.out; simp only [Nat.sub_zero] at this; omega
          · omega⟩
        have hq : z / 128 * 128 ^ (9 - f) < 18446744073709551616 := by
          have h1 := hd.out.2.2.1
          refine Nat.lt_of_le_of_lt ?_ h1
          rw [show 9 - f = (9 - (f + 1)) + 1 from by have := hd.out; omega, Nat.pow_succ, Nat.mul_comm (128 ^ _) 128, ← Nat.mul_assoc]
          exact Nat.mul_le_mul_right _ (Nat.div_mul_le_self _ _)
        have HQ := Lib.hid hq
        clear hq
        have hquo := HU.out
        go_wp2
        clear hquo
        go_roundw
        case rel =>
          refine ⟨d ++ [UInt8.ofNat (z % 128 + 128)], f, z / 128, by go_num, ⟨?_, ?_, HQ.out, ?_⟩, ?_, H4.out⟩
          · rw [hd.out.1, grp_more hlt]; simp
          · have := hd.out; simp; omega
          · have := hd.out; omega
          · exact Lib.hid (by simpa [Nat.add_assoc] using H3.out)
        case measure => simp [intOf]; omega
    · have hx : (z : Int) = ((UInt8.ofNat z).toNat : Int) := by rw [u8_nat _ (by omega)]
      have HX := Lib.hid hx
      clear hx
      go_wp2_with (at_builtin; refine wpList_append_b8 rfl _ _ 50 rfl base 5 i (.int .u8 0) Try.underlying50 hi hz hs hb rfl _ (k + d.length) (xs ++ d.map b8) rfl (hown.out.alloc _) (wr.heap.size + 1) (some ⟨wr.heap.size, 0, none⟩) 1 1 [UInt8.ofNat z] rfl (Rb.one wr 5 _ _ HX.out) ?_ ?_ ?_)
      · have := hd.out; omega
      · have := HB.out.size; simp; omega
      · intro v' w2 hown2 hg2
        have hb2 : Below base w w2 := (HB.out.alloc (by have := HB.out.size; omega) _).grown hg2 (by have := HB.out.size; simp; omega) (fun k hk => (hown.out.lt k hk).1)
        have he : enc n = d ++ [UInt8.ofNat z] := by rw [hd.out.1, grp_last (by omega)]
        have H3 : Hid (w2.ownsRow base 5 1 v' (k + (enc n).length) (xs ++ (enc n).map b8)) := Lib.hid (by rw [he]; simpa [Nat.add_assoc] using hown2)
        have H4 := Lib.hid hb2
        clear hown2 hg2 hb2 he
        go_wp2
        go_ret
        exact ⟨v', rfl, H3.out, H4.out⟩
end Go.Proofs.Ytidinbeanaifmaa
namespace Go.Proofs.Ytidinbeanaifmaa
open Go.RowKit

/-- a result that owns the bytes l, in a world in which nothing that was there has turned -/
def OwnRes (w : World) (l : List UInt8) (e : Ending) (w' : World) : Prop :=
  ∃ v, e = .returned v ∧ w'.ownsRow w.heap.size 5 1 v l.length (l.map b8) ∧ Below w.heap.size w w'

def boolBytes (b : Bool) : List UInt8 := [if b then 1 else 0]
def encText (s : List UInt8) : List UInt8 := enc (s.length : Nat) ++ s

section
variable (A : Option Addr) (n c : Nat) (l : List UInt8) (B : Nat) (w : World)

set_option maxHeartbeats 400000 in
theorem PutInt_any (x : Int) (hr : Rb w B A n l) (hB : B ≤ w.heap.size) (hn : n ≤ 70368744177000) (h1 : -9223372036854775808 ≤ x) (h2 : x ≤ 9223372036854775807) :
    Calls Try.prog 131 #[.slice A n c, .int .i64 x] w (OwnRes w (l ++ enc x)) := by
  have HR := Lib.hid hr
  clear hr
  go_enter Try.func131, Try.ntmps131
  go_wp2_with fail
  refine (copyOf_any A n c l 10 B w HR.out hB (by omega) (by omega) (by omega)).mono ?_
  rintro e w1 ⟨v, rfl, hown, hb⟩
  have H1 := Lib.hid hown
  have H2 := Lib.hid hb
  clear hown hb
  go_wp2_with fail
  refine (appendInt_any w.heap.size v n (l.map b8) x w1 H1.out H2.out.size (by omega) h1 h2).mono ?_
  rintro e w2 ⟨v2, rfl, hown, hb⟩
  have H3 := Lib.hid hown
  have H4 := Lib.hid (H2.out.trans hb)
  clear hown hb
  go_wp2
  go_ret
  exact ⟨v2, rfl, by have := HR.out.len; rw [List.length_append, List.map_append, this]; exact H3.out, H4.out⟩

set_option maxHeartbeats 400000 in
theorem PutText_any (s : ByteArray) (hr : Rb w B A n l) (hB : B ≤ w.heap.size) (hn : n ≤ 30368744177000) (hs : s.size ≤ 30368744177000) :
    Calls Try.prog 132 #[.slice A n c, .string s] w (OwnRes w (l ++ encText s.data.toList)) := by
  have hel := enc_len (s.size : Nat)
  obtain ⟨i, hi, hz, hsz, hb⟩ := info_parts Try.infob
  have HR := Lib.hid hr
  clear hr
  go_enter Try.func132, Try.ntmps132
  go_wp2_with fail
  refine (copyOf_any A n c l _ B w HR.out hB (by omega) (by omega) (by omega)).mono ?_
  rintro e w1 ⟨v, rfl, hown, hb1⟩
  have H1 := Lib.hid hown
  have H2 := Lib.hid hb1
  clear hown hb1
  go_wp2_with fail
  refine (appendInt_any w.heap.size v n (l.map b8) _ w1 H1.out H2.out.size (by omega) (by omega) (by omega)).mono ?_
  rintro e w2 ⟨v2, rfl, hown, hb2⟩
  have H3 := Lib.hid hown
  have H4 := Lib.hid (H2.out.trans hb2)
  clear hown hb2
  go_wp2_with (at_builtin; refine Lib.wpList_append_own_string _ rfl _ _ 50 9 rfl w.heap.size 5 i Try.underlying50 Try.underlying9 hi hz hsz hb _ _ _ rfl H3.out s rfl ?_ ?_ ?_ ?_)
  · unfold maxLen; omega
  · omega
  · exact H4.out.size
  · intro v' w3 hown hg _
    have hb3 : Below w.heap.size w w3 := H4.out.grown hg H4.out.size (fun k hk => (H3.out.lt k hk).1)
    have H5 := Lib.hid hown
    have H6 := Lib.hid hb3
    clear hown hg hb3
    go_wp2
    go_ret
    refine ⟨v', rfl, ?_, H6.out⟩
    have e1 : s.data.toList.length = s.size := by rw [Array.length_toList]; rfl
    have e2 : (l ++ encText s.data.toList).length = n + (enc (s.size : Nat)).length + s.size := by unfold encText; rw [List.length_append, List.length_append, HR.out.len, e1]; omega
    have e3 : (l ++ encText s.data.toList).map b8 = l.map b8 ++ ((enc (s.size : Nat)).map b8 ++ Lib.strCells s) := by
      unfold encText
      rw [e1, List.map_append, List.map_append]
      rfl
    rw [e2, e3]
    exact H5.out

end
end Go.Proofs.Ytidinbeanaifmaa
namespace Go.Proofs.Ytidinbeanaifmaa
open Go.RowKit

/-- an empty slice literal owns nothing yet -/
theorem own_empty (w : World) (t : TypeId) : (w.alloc (.cells #[] t)).ownsRow w.heap.size t 1 (.slice (some ⟨w.heap.size, 0, none⟩) 0 0) 0 [] :=
  World.ownsRow_made w #[] 0 (Nat.le_refl _) (by unfold maxLen; omega) rfl

set_option maxRecDepth 100000 in
set_option maxHeartbeats 400000 in
theorem refPutInt_any (A : Option Addr) (n c : Nat) (l : List UInt8) (B : Nat) (w : World) (x : Int) (hr : Rb w B A n l) (hB : B ≤ w.heap.size) (hn : n ≤ 70368744177000)
    (h1 : -9223372036854775808 ≤ x) (h2 : x ≤ 9223372036854775807) :
    Calls Try.prog 108 #[.slice A n c, .int .i64 x] w (OwnRes w (l ++ enc x)) := by
  obtain ⟨i, hi, hz, hs, hb⟩ := info_parts Try.infob
  have HR := Lib.hid hr
  clear hr
  go_enter Try.func108, Try.ntmps108
  go_wp2_with (at_builtin; refine wpList_append_b8 rfl _ _ 50 rfl w.heap.size 5 i (.int .u8 0) Try.underlying50 hi hz hs hb rfl _ 0 [] rfl (own_empty w 5) B A n c l rfl (HR.out.alloc hB _) ?_ ?_ ?_)
  · omega
  · simp
  · intro v w1 hown hg
    have hown' : w1.ownsRow w.heap.size 5 1 v n (l.map b8) := by simpa using hown
    have hbl : Below w.heap.size w w1 := ((Below.refl _ _).alloc (Nat.le_refl _) _).grown hg (by simp) (fun k hk => by simp [Value.ownBlock] at hk; omega)
    have H1 := Lib.hid hown'
    have H2 := Lib.hid hbl
    clear hown hown' hg hbl
    go_wp2_with (go_at_call 133; refine (zigzag_any x _ h1 h2).mono ?_; rintro e w' ⟨rfl, rfl⟩)
    go_loopw [5, 6] (fun v u wr => ∃ (d : List UInt8) (f : Nat) (z : Nat), u = .int .u64 (z : Int) ∧ Hid (enc x = d ++ grp (f + 1) z ∧ d.length + f = 9 ∧ z * 128 ^ (9 - f) < 18446744073709551616 ∧ z < 18446744073709551616) ∧
        Hid (wr.ownsRow w.heap.size 5 1 v (n + d.length) (l.map b8 ++ d.map b8)) ∧ Below w.heap.size w wr) (fun _ u _ => (intOf u).toNat)
    case atStart => exact ⟨[], 9, zig x, rfl, ⟨rfl, rfl, by have := zig_lt h1 h2; simpa using this, zig_lt h1 h2⟩, by simpa using H1, H2.out⟩
    case round =>
      obtain ⟨d, f, z, rfl, hd, hown, hbl⟩ := hrel
      have hquo : IntKind.u64.wrap ((z : Int) / 128) = (z : Int) / 128 := by
        have hz' : (z : Int) < 18446744073709551616 := by have := hd.out; omega
        exact IntWalk.u64_in _ ⟨by omega, by omega⟩
      have HU := Lib.hid hquo
      clear hquo
      have HB := Lib.hid hbl
      clear hbl h1 h2
      by_cases hlt : 128 ≤ z
      · have hx : (z : Int) % 128 + 128 = ((UInt8.ofNat (z % 128 + 128)).toNat : Int) := by rw [u8_nat _ (by omega)]; omega
        have HX := Lib.hid hx
        clear hx
        go_wp2_with (at_builtin; refine wpList_append_b8 rfl _ _ 50 rfl w.heap.size 5 i (.int .u8 0) Try.underlying50 hi hz hs hb rfl _ (n + d.length) (l.map b8 ++ d.map b8) rfl (hown.out.alloc _) (wr.heap.size + 1) (some ⟨wr.heap.size, 0, none⟩) 1 1 [UInt8.ofNat (z % 128 + 128)] rfl (Rb.one wr 5 _ _ HX.out) ?_ ?_ ?_)
        · have := hd.out; omega
        · have := HB.out.size; simp; omega
        · intro v' w2 hown2 hg2
          have hb2 : Below w.heap.size w w2 := (HB.out.alloc (by have := HB.out.size; omega) _).grown hg2 (by have := HB.out.size; simp; omega) (fun k hk => (hown.out.lt k hk).1)
          have H3 := Lib.hid hown2
          have H4 := Lib.hid hb2
          clear hown2 hg2 hb2
          obtain ⟨f, rfl⟩ : ∃ g, f = g + 1 := ⟨f - 1, by
            rcases Nat.eq_zero_or_pos f with h0 | h0
            · subst h0; have := hd.out; simp only [Nat.sub_zero] at this; omega
            · omega⟩
          have hq : z / 128 * 128 ^ (9 - f) < 18446744073709551616 := by
            have h1 := hd.out.2.2.1
            refine Nat.lt_of_le_of_lt ?_ h1
            rw [show 9 - f = (9 - (f + 1)) + 1 from by have := hd.out; omega, Nat.pow_succ, Nat.mul_comm (128 ^ _) 128, ← Nat.mul_assoc]
            exact Nat.mul_le_mul_right _ (Nat.div_mul_le_self _ _)
          have HQ := Lib.hid hq
          clear hq
          have hquo := HU.out
          go_wp2
          clear hquo
          go_roundw
          case rel =>
            refine ⟨d ++ [UInt8.ofNat (z % 128 + 128)], f, z / 128, by go_num, ⟨?_, ?_, HQ.out, ?_⟩, ?_, H4.out⟩
            · rw [hd.out.1, grp_more hlt]; simp
            · have := hd.out; simp; omega
            · have := hd.out; omega
            · exact Lib.hid (by simpa [Nat.add_assoc] using H3.out)
          case measure => simp [intOf]; omega
      · have hx : (z : Int) = ((UInt8.ofNat z).toNat : Int) := by rw [u8_nat _ (by omega)]
        have HX := Lib.hid hx
        clear hx
        go_wp2_with (at_builtin; refine wpList_append_b8 rfl _ _ 50 rfl w.heap.size 5 i (.int .u8 0) Try.underlying50 hi hz hs hb rfl _ (n + d.length) (l.map b8 ++ d.map b8) rfl (hown.out.alloc _) (wr.heap.size + 1) (some ⟨wr.heap.size, 0, none⟩) 1 1 [UInt8.ofNat z] rfl (Rb.one wr 5 _ _ HX.out) ?_ ?_ ?_)
        · have := hd.out; omega
        · have := HB.out.size; simp; omega
        · intro v' w2 hown2 hg2
          have hb2 : Below w.heap.size w w2 := (HB.out.alloc (by have := HB.out.size; omega) _).grown hg2 (by have := HB.out.size; simp; omega) (fun k hk => (hown.out.lt k hk).1)
          have he : enc x = d ++ [UInt8.ofNat z] := by rw [hd.out.1, grp_last (by omega)]
          have H3 : Hid (w2.ownsRow w.heap.size 5 1 v' (n + (enc x).length) (l.map b8 ++ (enc x).map b8)) := Lib.hid (by rw [he]; simpa [Nat.add_assoc] using hown2)
          have H4 := Lib.hid hb2
          clear hown2 hg2 hb2 he
          go_wp2
          go_ret
          exact ⟨v', rfl, by rw [List.length_append, List.map_append, HR.out.len]; exact H3.out, H4.out⟩

set_option maxHeartbeats 400000 in
theorem refPutText_any (A : Option Addr) (n c : Nat) (l : List UInt8) (B : Nat) (w : World) (s : ByteArray) (hr : Rb w B A n l) (hB : B ≤ w.heap.size) (hn : n ≤ 30368744177000) (hs : s.size ≤ 30368744177000) :
    Calls Try.prog 109 #[.slice A n c, .string s] w (OwnRes w (l ++ encText s.data.toList)) := by
  obtain ⟨i, hi, hz, hsz, hb⟩ := info_parts Try.infob
  have hel := enc_len (s.size : Nat)
  have HR := Lib.hid hr
  clear hr
  go_enter Try.func109, Try.ntmps109
  go_wp2_with fail
  refine (refPutInt_any A n c l B w s.size HR.out hB (by omega) (by omega) (by omega)).mono ?_
  rintro e w1 ⟨v, rfl, hown, hbl⟩
  have H1 : Hid (w1.ownsRow w.heap.size 5 1 v (n + (enc (s.size : Nat)).length) ((l ++ enc (s.size : Nat)).map b8)) := Lib.hid (by rw [List.length_append, HR.out.len] at hown; exact hown)
  have H2 := Lib.hid hbl
  clear hown hbl
  go_wp2_with fail
  go_loopw [5, 6] (fun v j wr => ∃ k : Nat, k ≤ s.size ∧ j = .int .i64 k ∧ Hid (wr.ownsRow w.heap.size 5 1 v (n + (enc (s.size : Nat)).length + k) ((l ++ enc (s.size : Nat)).map b8 ++ (s.data.toList.take k).map b8)) ∧ Below w.heap.size w wr)
    (fun _ j _ => s.size - (intOf j).toNat)
  case atStart => exact ⟨0, Nat.zero_le _, rfl, by simpa using H1, H2.out⟩
  case round =>
    obtain ⟨k, hk, rfl, hown, hbl⟩ := hrel
    have HB := Lib.hid hbl
    clear hbl
    by_cases hlt : k < s.size
    · have hx : ((s[k]'hlt).toNat : Int) = ((s.data.toList[k]'(by simpa using hlt)).toNat : Int) := rfl
      have hts : s.data.toList.take (k + 1) = s.data.toList.take k ++ [s.data.toList[k]'(by simpa using hlt)] := by rw [List.take_succ_eq_append_getElem (by simpa using hlt)]
      have HX := Lib.hid hx
      have HT := Lib.hid hts
      clear hx hts
      go_wp2_with (at_builtin; refine wpList_append_b8 rfl _ _ 50 rfl w.heap.size 5 i (.int .u8 0) Try.underlying50 hi hz hsz hb rfl _ (n + (enc (s.size : Nat)).length + k) _ rfl (hown.out.alloc _) (wr.heap.size + 1) (some ⟨wr.heap.size, 0, none⟩) 1 1 [s.data.toList[k]'(by simpa using hlt)] rfl (Rb.one wr 5 _ _ HX.out) ?_ ?_ ?_)
      · omega
      · have := HB.out.size; simp; omega
      · intro v' w2 hown2 hg2
        have hb2 : Below w.heap.size w w2 := (HB.out.alloc (by have := HB.out.size; omega) _).grown hg2 (by have := HB.out.size; simp; omega) (fun k hk => (hown.out.lt k hk).1)
        have H3 := Lib.hid hown2
        have H4 := Lib.hid hb2
        clear hown2 hg2 hb2
        go_wp2
        go_roundw
        case rel =>
          refine ⟨k + 1, by omega, by go_num, ?_, H4.out⟩
          rw [HT.out]
          exact Lib.hid (by simpa [Nat.add_assoc, List.map_take] using H3.out)
        case measure => simp [intOf]; omega
    · obtain rfl : k = s.size := by omega
      go_wp2
      go_ret
      have e1 : s.data.toList.length = s.size := by rw [Array.length_toList]; rfl
      refine ⟨_, rfl, ?_, HB.out⟩
      have := hown.out
      rw [List.take_of_length_le (by omega)] at this
      unfold encText
      rw [e1, List.length_append, List.length_append, HR.out.len, e1, ← List.append_assoc, List.map_append, ← Nat.add_assoc]
      exact this

end Go.Proofs.Ytidinbeanaifmaa
namespace Go.Proofs.Ytidinbeanaifmaa
open Go.RowKit

/-- a slice of bytes within a block of the program's own -/
def Ow (w : World) (A : Option Addr) (n : Nat) (l : List UInt8) : Prop :=
  l.length = n ∧ (l ≠ [] → ∃ (g o : Nat) (cs : Array Value), A = some ⟨g, o, none⟩ ∧ Bk w g 5 cs ∧ ∀ (j : Nat) (c : UInt8), l[j]? = some c → cs[o + j]? = some (b8 c))

section
variable {w w' : World} {A : Option Addr} {n p : Nat} {l : List UInt8} {t : TypeId} {cs : Array Value}
theorem Ow.rb (h : Ow w A n l) : Rb w w.heap.size A n l :=
  ⟨h.1, fun hn => by
    obtain ⟨g, o, cs, rfl, hb, hc⟩ := h.2 hn
    exact ⟨g, o, rfl, hb.lt, fun j c hj => (hb.cell _).trans (hc j c hj)⟩⟩
theorem Ow.below (h : Ow w A n l) (hb : Below w.heap.size w w') : Ow w' A n l :=
  ⟨h.1, fun hn => by
    obtain ⟨g, o, cs, e, hk, hc⟩ := h.2 hn
    exact ⟨g, o, cs, e, hk.below hb hk.lt, hc⟩⟩
theorem Ow.grown (h : Ow w A n l) (hp : Bk w p t cs) (ht : t ≠ 5) (hg : w.grownBy w' (some p)) : Ow w' A n l :=
  ⟨h.1, fun hn => by
    obtain ⟨g, o, cs', e, hk, hc⟩ := h.2 hn
    exact ⟨g, o, cs', e, hk.grown hg (fun e => hk.ne_ hp (fun e => ht e.symm) (by injection e)), hc⟩⟩
theorem Ow.cut {k cap : Nat} (h : Ow w A n l) (hk : k ≤ n) (hc : n ≤ cap) : Ow w (if cap = k then A else A.map (·.add k)) (n - k) (l.drop k) := by
  refine ⟨by rw [List.length_drop, h.1], fun hn => ?_⟩
  have hlt : k < n := by
    have := h.1
    rcases Nat.lt_or_ge k n with h1 | h1
    · exact h1
    · exact absurd (List.drop_eq_nil_of_le (by omega)) hn
  obtain ⟨g, o, cs, rfl, hb, hcell⟩ := h.2 (by intro e; subst e; simp at hn)
  rw [if_neg (by omega)]
  refine ⟨g, o + k, cs, by simp [Addr.add_lit], hb, fun j c hj => ?_⟩
  rw [Nat.add_assoc]
  exact hcell _ c (by rw [← hj, List.getElem?_drop])
theorem Ow.of_own {base c : Nat} (h : w.ownsRow base 5 1 (.slice A n c) n (l.map b8)) : Ow w A n l := by
  refine ⟨by simpa using h.1, fun hn => ?_⟩
  rcases h.2 with ⟨hv, rfl⟩ | ⟨g, cap, cur, hv, _, hg, _, _, _, ht⟩
  · exact absurd (List.eq_nil_of_length_eq_zero (by simpa using h.1)) hn
  · have hA : A = some ⟨g, 0, none⟩ := by injection hv
    subst hA
    refine ⟨g, 0, cur, rfl, hg, fun j c hj => ?_⟩
    have hm : (l.map b8)[j]? = some (b8 c) := by rw [List.getElem?_map, hj]; rfl
    rw [← ht, List.getElem?_take] at hm
    split at hm
    · simpa using hm
    · cases hm
end

/-- the reader of package wire in block p: what is left, and its error -/
def WRd (w : World) (p : Nat) (l : List UInt8) (e : Int) : Prop :=
  ∃ A n c l0, Bk w p 86 #[.slice A n c, .int .i64 e, .bool true] ∧ Ow w A n l0 ∧ n ≤ c ∧ c ≤ 9223372036854775807 ∧ (e = 0 → l0 = l)
/-- the reader of the reference in block p -/
def RRd (w : World) (p : Nat) (l : List UInt8) (e : Int) : Prop :=
  ∃ A n c l0, Bk w p 88 #[.bool true, .slice A n c, .int .i64 e] ∧ Ow w A n l0 ∧ n ≤ c ∧ c ≤ 9223372036854775807 ∧ (e = 0 → l0 = l)

section
variable {w : World} {p : Nat} {l : List UInt8} {e : Int}

/-- what a call says that only reads a reader -/
def Says (x : Value) (w : World) (e : Ending) (w' : World) : Prop := e = .returned x ∧ w = w'
/-- what a call says that may turn block p alone -/
def Turns (x : Value) (w : World) (p : Nat) (Q : World → Prop) (e : Ending) (w' : World) : Prop := e = .returned x ∧ w.grownBy w' (some p) ∧ Q w'

theorem turned (w : World) (p i : Nat) (u : Value) : w.grownBy (w.setCell ⟨p, i, none⟩ u) (some p) :=
  ⟨rfl, rfl, rfl, by simp [World.setCell], fun k _ hk => Below.heap_setCell _ _ _ _ (fun e => hk (by rw [e]))⟩
theorem grownBy_trans {a b c : World} {r : Option Nat} (h : a.grownBy b r) (k : b.grownBy c r) : a.grownBy c r :=
  ⟨k.os.trans h.os, k.tape.trans h.tape, k.output.trans h.output, Nat.le_trans h.size k.size, fun i hi hne => (k.block i (Nat.lt_of_lt_of_le hi h.size) hne).trans (h.block i hi hne)⟩

set_option maxHeartbeats 400000 in
theorem wErr_any (h : WRd w p l e) : Calls Try.prog 52 #[.pointer (some ⟨p, 0, none⟩)] w (Says (.int .i64 e) w) := by
  obtain ⟨A, n, c, l0, hb, _⟩ := h
  have h1 : w.cell? ⟨p, 1, none⟩ = some (.int .i64 e) := hb.cell 1
  have h2 : w.cell? ⟨p, 2, none⟩ = some (.bool true) := hb.cell 2
  have HB := Lib.hid hb
  clear hb
  go_enter Try.func52, Try.ntmps52
  go_wp2
  go_ret
  exact ⟨rfl, rfl⟩

set_option maxHeartbeats 400000 in
theorem wLeft_ok (h : WRd w p l 0) : Calls Try.prog 54 #[.pointer (some ⟨p, 0, none⟩)] w (Says (.int .i64 (l.length : Nat)) w) := by
  have HW := Lib.hid h
  obtain ⟨A, n, c, l0, hb, ho, _, _, hl⟩ := h
  obtain rfl := hl rfl
  have h0 : w.cell? ⟨p, 0, none⟩ = some (.slice A n c) := hb.cell 0
  have HL := Lib.hid ho.1
  clear hb ho hl
  go_enter Try.func54, Try.ntmps54
  go_wp2_with (go_at_call 52; refine (wErr_any HW.out).mono ?_; rintro e w' ⟨rfl, rfl⟩)
  go_ret
  exact ⟨ret_i64 (by rw [HL.out]), rfl⟩
theorem wLeft_err (h : WRd w p l e) (he : e ≠ 0) : Calls Try.prog 54 #[.pointer (some ⟨p, 0, none⟩)] w (Says (.int .i64 0) w) := by
  have HW := Lib.hid h
  clear h
  have hne : (e != 0) = true := by rw [bne_iff_ne]; exact he
  go_enter Try.func54, Try.ntmps54
  go_wp2_with (go_at_call 52; refine (wErr_any HW.out).mono ?_; rintro e w' ⟨rfl, rfl⟩)
  go_ret
  exact ⟨rfl, rfl⟩

/-- Left, whatever the error -/
def leftOf (l : List UInt8) (e : Int) : Int := if e = 0 then (l.length : Nat) else 0
theorem wLeft_any (h : WRd w p l e) : Calls Try.prog 54 #[.pointer (some ⟨p, 0, none⟩)] w (Says (.int .i64 (leftOf l e)) w) := by
  unfold leftOf
  by_cases he : e = 0
  · subst he; exact wLeft_ok h
  · rw [if_neg he]; exact wLeft_err h he

set_option maxHeartbeats 400000 in
theorem wFail_ok (x : Int) (h : WRd w p l 0) : Calls Try.prog 134 #[.pointer (some ⟨p, 0, none⟩), .int .i64 x] w (Turns (.tuple #[]) w p fun w' => WRd w' p l x) := by
  have HW := Lib.hid h
  obtain ⟨A, n, c, l0, hb, ho, hn, hc, hl⟩ := h
  obtain rfl := hl rfl
  have hcell : w.cell? ⟨p, 1, none⟩ = some (.int .i64 0) := hb.cell 1
  have hfr : w.frozen? ⟨p, 1, none⟩ = false := hb.frozen 1
  have HB := Lib.hid hb
  have HO := Lib.hid ho
  clear hb ho
  go_enter Try.func134, Try.ntmps134
  go_wp2_with (go_at_call 52; refine (wErr_any HW.out).mono ?_; rintro e w' ⟨rfl, rfl⟩)
  go_end0
  exact ⟨rfl, turned w p 1 _, A, n, c, l0, HB.out.put 1 _, HO.out.grown HB.out (by decide) (turned w p 1 _), hn, hc, fun _ => rfl⟩
theorem wFail_err (x : Int) (h : WRd w p l e) (he : e ≠ 0) : Calls Try.prog 134 #[.pointer (some ⟨p, 0, none⟩), .int .i64 x] w (Turns (.tuple #[]) w p fun w' => WRd w' p l e) := by
  have HW := Lib.hid h
  clear h
  have hne : (e == 0) = false := by rw [beq_eq_false_iff_ne]; exact he
  go_enter Try.func134, Try.ntmps134
  go_wp2_with (go_at_call 52; refine (wErr_any HW.out).mono ?_; rintro e w' ⟨rfl, rfl⟩)
  go_end0
  exact ⟨rfl, World.grownBy.refl _ _, HW.out⟩

/-- End -/
def endOf (l : List UInt8) (e : Int) : Int := if e = 0 ∧ l ≠ [] then 3 else e
end
end Go.Proofs.Ytidinbeanaifmaa
namespace Go.Proofs.Ytidinbeanaifmaa
open Go.RowKit

theorem ret_bool {a b : Bool} (h : a = b) : Ending.returned (.bool a) = .returned (.bool b) := by rw [h]

section
variable {w : World} {p : Nat} {l : List UInt8} {e : Int}

set_option maxHeartbeats 400000 in
theorem rStopped_any (h : RRd w p l e) : Calls Try.prog 89 #[.pointer (some ⟨p, 0, none⟩)] w (Says (.bool (e != 0)) w) := by
  obtain ⟨A, n, c, l0, hb, _⟩ := h
  have h1 : w.cell? ⟨p, 2, none⟩ = some (.int .i64 e) := hb.cell 2
  have h2 : w.cell? ⟨p, 0, none⟩ = some (.bool true) := hb.cell 0
  have HB := Lib.hid hb
  clear hb
  go_enter Try.func89, Try.ntmps89
  go_wp2
  go_ret
  exact ⟨rfl, rfl⟩

set_option maxHeartbeats 400000 in
theorem rErr_any (h : RRd w p l e) : Calls Try.prog 53 #[.pointer (some ⟨p, 0, none⟩)] w (Says (.int .i64 e) w) := by
  obtain ⟨A, n, c, l0, hb, _⟩ := h
  have h1 : w.cell? ⟨p, 2, none⟩ = some (.int .i64 e) := hb.cell 2
  have h2 : w.cell? ⟨p, 0, none⟩ = some (.bool true) := hb.cell 0
  have HB := Lib.hid hb
  clear hb
  go_enter Try.func53, Try.ntmps53
  go_wp2
  go_ret
  exact ⟨rfl, rfl⟩

set_option maxHeartbeats 400000 in
theorem rSet_any (x : Int) (h : RRd w p l e) (hx : x ≠ 0) (l' : List UInt8) : Calls Try.prog 151 #[.pointer (some ⟨p, 0, none⟩), .int .i64 x] w (Turns (.tuple #[]) w p fun w' => RRd w' p l' x) := by
  obtain ⟨A, n, c, l0, hb, ho, hn, hc, hl⟩ := h
  have hc1 : w.cell? ⟨p, 1, none⟩ = some (.slice A n c) := hb.cell 1
  have hc2 : w.cell? ⟨p, 2, none⟩ = some (.int .i64 e) := hb.cell 2
  have hf1 : w.frozen? ⟨p, 1, none⟩ = false := hb.frozen 1
  have hf2 : w.frozen? ⟨p, 2, none⟩ = false := hb.frozen 2
  have HB := Lib.hid hb
  clear hb ho
  go_enter Try.func151, Try.ntmps151
  go_wp2
  go_end0
  exact ⟨rfl, grownBy_trans (turned w p 2 _) (turned _ p 1 _), none, 0, 0, [], (HB.out.put 2 _).put 1 _, ⟨rfl, fun h => absurd rfl h⟩, Nat.le_refl _, by omega, fun h => absurd h hx⟩

set_option maxHeartbeats 400000 in
theorem rLeft_any (h : RRd w p l e) : Calls Try.prog 55 #[.pointer (some ⟨p, 0, none⟩)] w (Says (.int .i64 (leftOf l e)) w) := by
  have HW := Lib.hid h
  obtain ⟨A, n, c, l0, hb, ho, hn, hc, hl⟩ := h
  have hc1 : w.cell? ⟨p, 1, none⟩ = some (.slice A n c) := hb.cell 1
  by_cases he : e = 0
  · have hs : (e != 0) = false := by simp [he]
    have HL : Hid (leftOf l e = (n : Nat)) := Lib.hid (by unfold leftOf; rw [if_pos he, ← hl he, ho.1])
    clear hb ho hl he
    go_enter Try.func55, Try.ntmps55
    go_wp2_with (go_at_call 89; refine (rStopped_any HW.out).mono ?_; rintro e w' ⟨rfl, rfl⟩)
    go_ret
    exact ⟨ret_i64 HL.out.symm, rfl⟩
  · have hs : (e != 0) = true := by simp [he]
    have HL : Hid (leftOf l e = 0) := Lib.hid (by unfold leftOf; rw [if_neg he])
    clear hb ho hl he
    go_enter Try.func55, Try.ntmps55
    go_wp2_with (go_at_call 89; refine (rStopped_any HW.out).mono ?_; rintro e w' ⟨rfl, rfl⟩)
    go_ret
    exact ⟨ret_i64 HL.out.symm, rfl⟩

set_option maxHeartbeats 400000 in
theorem rFail_any (x : Int) (h : RRd w p l e) : Calls Try.prog 137 #[.pointer (some ⟨p, 0, none⟩), .int .i64 x] w (Turns (.tuple #[]) w p fun w' => RRd w' p l (if e = 0 then x else e)) := by
  have HW := Lib.hid h
  clear h
  by_cases he : e = 0
  · rw [if_pos he]
    by_cases hx : x = 0
    · have hs : (e != 0) = false := by simp [he]
      have hx2 : (x != 0) = false := by simp [hx]
      have HX := Lib.hid hx
      have HE := Lib.hid he
      clear he hx
      go_enter Try.func137, Try.ntmps137
      go_wp2_with (go_at_call 89; refine (rStopped_any HW.out).mono ?_; rintro e w' ⟨rfl, rfl⟩)
      go_end0
      exact ⟨rfl, World.grownBy.refl _ _, by rw [HX.out, ← HE.out]; exact HW.out⟩
    · have hs : (e != 0) = false := by simp [he]
      have hx2 : (x != 0) = true := by simp [hx]
      clear he
      go_enter Try.func137, Try.ntmps137
      go_wp2_with (first | (go_at_call 89; refine (rStopped_any HW.out).mono ?_; rintro e w' ⟨rfl, rfl⟩) | (go_at_call 151; refine (rSet_any x HW.out hx l).mono ?_; rintro e w' ⟨rfl, hg, hq⟩))
      have HG := Lib.hid hg
      have HQ := Lib.hid hq
      clear hg hq
      go_end0
      exact ⟨rfl, HG.out, HQ.out⟩
  · rw [if_neg he]
    have hs : (e != 0) = true := by simp [he]
    clear he
    go_enter Try.func137, Try.ntmps137
    go_wp2_with (go_at_call 89; refine (rStopped_any HW.out).mono ?_; rintro e w' ⟨rfl, rfl⟩)
    go_end0
    exact ⟨rfl, World.grownBy.refl _ _, HW.out⟩

end
end Go.Proofs.Ytidinbeanaifmaa
namespace Go.Proofs.Ytidinbeanaifmaa
open Go.RowKit

theorem drop_at {l : List UInt8} {k : Nat} {x : UInt8} (h : l[k]? = some x) : l.drop k = x :: l.drop (k + 1) := by
  obtain ⟨hk, rfl⟩ := List.getElem?_eq_some_iff.1 h
  exact List.drop_eq_getElem_cons hk
theorem take_at {l : List UInt8} {k : Nat} {x : UInt8} (h : l[k]? = some x) : l.take (k + 1) = l.take k ++ [x] := by
  obtain ⟨hk, rfl⟩ := List.getElem?_eq_some_iff.1 h
  exact List.take_succ_eq_append_getElem hk

theorem ret_2 {a b a' b' : Int} (h : a = a') (h' : b = b') : Ending.returned (.tuple #[.int .i64 a, .int .i64 b]) = .returned (.tuple #[.int .i64 a', .int .i64 b']) := by rw [h, h']

section
variable {w : World} {B : Nat} {A : Option Addr} {n c : Nat} {l : List UInt8}

set_option maxHeartbeats 2000000 in
theorem intSize_any (hr : Rb w B A n l) (hn : n ≤ c) :
    Calls Try.prog 148 #[.slice A n c] w (Says (.tuple #[.int .i64 ((szAt 0 l).1 : Nat), .int .i64 (szAt 0 l).2]) w) := by
  have HR := Lib.hid hr
  clear hr
  have hcase : n < 10 ∨ (n ≤ 10 ∧ 10 ≤ n) ∨ 10 < n := by omega
  rcases hcase with hcase | ⟨hca, hcb⟩ | hcase
  all_goals
    go_enter Try.func148, Try.ntmps148
    go_wp2
    go_loop [12] (fun i => ∃ k : Nat, k ≤ n ∧ k ≤ 10 ∧ i = .int .i64 k ∧ Hid (szAt 0 l = szAt k (l.drop k))) (fun i => 10 - (intOf i).toNat)
    case atStart => exact ⟨0, by omega, by omega, rfl, rfl⟩
    case round =>
      obtain ⟨k, hkn, hk10, rfl, hs⟩ := hrel
      by_cases hlt : k < n ∧ k < 10
      · obtain ⟨hlt, hlt10⟩ := hlt
        obtain ⟨g, o, x, rfl, _, hx, hcell⟩ := HR.out.at_ hlt
        unfold b8 at hcell
        have hx8 := x.toNat_lt
        have HX : Hid (szAt 0 l = szAt k (x :: l.drop (k + 1))) := Lib.hid (by rw [hs.out, drop_at hx])
        clear hx hs HR hn
        by_cases h128 : 128 ≤ x.toNat
        · have HX2 : Hid (szAt 0 l = szAt (k + 1) (l.drop (k + 1))) := Lib.hid (by rw [HX.out, szAt_on hlt10 h128])
          have t1 : decide ((128 : Int) ≤ (x.toNat : Int)) = true := by rw [decide_eq_true_eq]; omega
          clear HX h128
          go_wp2
          go_round
          case rel => exact ⟨k + 1, by omega, by omega, by go_num, HX2⟩
          case measure => simp [intOf]; omega
        · have t1 : decide ((128 : Int) ≤ (x.toNat : Int)) = false := by rw [decide_eq_false_iff_not]; omega
          rcases Nat.eq_zero_or_pos k with h0 | h0
          · subst h0
            have HX2 : Hid (szAt 0 l = (0 + 1, 0)) := Lib.hid (by rw [HX.out, szAt_ok hlt10 (by omega) (by omega)])
            have hcell0 : w.cell? ⟨g, o, none⟩ = some (.int .u8 (x.toNat : Int)) := hcell
            clear HX hcell
            go_wp2
            go_ret2
            exact ⟨ret_2 (by rw [HX2.out]; rfl) (by rw [HX2.out]), rfl⟩
          · have hk0 : decide ((0 : Int) < (k : Int)) = true := by rw [decide_eq_true_eq]; omega
            by_cases hx0 : x.toNat = 0
            · have HX2 : Hid (szAt 0 l = (0, 3)) := Lib.hid (by rw [HX.out, szAt_bad hlt10 (by omega) (by omega)])
              have hb : ((x.toNat : Int) == 0) = true := by simp [hx0]
              clear HX hx0
              go_wp2
              go_ret2
              exact ⟨ret_2 (by rw [HX2.out]; rfl) (by rw [HX2.out]), rfl⟩
            · have hb : ((x.toNat : Int) == 0) = false := by rw [beq_eq_false_iff_ne]; omega
              by_cases h9 : k = 9
              · subst h9
                by_cases h1 : 1 < x.toNat
                · have HX2 : Hid (szAt 0 l = (0, 3)) := Lib.hid (by rw [HX.out, szAt_bad hlt10 (by omega) (by omega)])
                  have t2 : decide ((1 : Int) < (x.toNat : Int)) = true := by rw [decide_eq_true_eq]; omega
                  clear HX h1
                  go_wp2
                  all_goals (go_ret2; exact ⟨ret_2 (by rw [HX2.out]; rfl) (by rw [HX2.out]), rfl⟩)
                · have HX2 : Hid (szAt 0 l = (9 + 1, 0)) := Lib.hid (by rw [HX.out, szAt_ok hlt10 (by omega) (by omega)])
                  have t2 : decide ((1 : Int) < (x.toNat : Int)) = false := by rw [decide_eq_false_iff_not]; omega
                  clear HX h1
                  go_wp2
                  all_goals (go_ret2; exact ⟨ret_2 (by rw [HX2.out]; rfl) (by rw [HX2.out]), rfl⟩)
              · have hb9 : ((k : Int) == 9) = false := by rw [beq_eq_false_iff_ne]; omega
                have HX2 : Hid (szAt 0 l = (k + 1, 0)) := Lib.hid (by rw [HX.out, szAt_ok hlt10 (by omega) (by omega)])
                clear HX
                go_wp2
                go_ret2
                exact ⟨ret_2 (by rw [HX2.out]; rfl) (by rw [HX2.out]), rfl⟩
      · have hl := HR.out.len
        have HX2 : Hid (szAt 0 l = if 10 ≤ n then (0, 3) else (0, 4)) := Lib.hid (by
          rw [hs.out]
          rcases Nat.lt_or_ge n 10 with h10 | h10
          · rw [if_neg (by omega), List.drop_eq_nil_of_le (by omega), szAt_nil (by omega)]
          · rw [if_pos h10, szAt_end (by omega)])
        clear hs hl
        go_wp2
        go_ret2
        exact ⟨ret_2 (by rw [HX2.out]; split <;> rfl) (by rw [HX2.out]; split <;> first | rfl | omega), rfl⟩
end
end Go.Proofs.Ytidinbeanaifmaa
namespace Go.Proofs.Ytidinbeanaifmaa
open Go.RowKit

theorem val_lt (l : List UInt8) : val l < 128 ^ l.length := by
  induction l with
  | nil => simp [val]
  | cons c r ih => simp only [val, List.length_cons, Nat.pow_succ]; omega
theorem val_app (l r : List UInt8) : val (l ++ r) = val l + 128 ^ l.length * val r := by
  induction l with
  | nil => simp [val]
  | cons c s ih =>
    simp only [val, List.cons_append, List.length_cons, Nat.pow_succ, ih]
    rw [Nat.mul_add, ← Nat.add_assoc, ← Nat.mul_assoc, Nat.mul_comm 128 (128 ^ s.length)]
theorem val_take_le (l : List UInt8) (k : Nat) : val (l.take k) ≤ val l := by
  have h := val_app (l.take k) (l.drop k)
  rw [List.take_append_drop] at h
  omega
theorem or_step (X y k : Nat) (hX : X < 128 ^ k) (hs : X + 128 ^ k * y < 18446744073709551616) :
    bits .or .u64 (X : Int) (IntKind.u64.wrap ((y : Int) * 2 ^ (7 * k))) = ((X + 128 ^ k * y : Nat) : Int) := by
  have e2 : (128 : Nat) ^ k = 2 ^ (7 * k) := by rw [show (128 : Nat) = 2 ^ 7 from rfl, ← Nat.pow_mul]
  have e3 : (y : Int) * 2 ^ (7 * k) = ((128 ^ k * y : Nat) : Int) := by rw [e2, Int.natCast_mul, Int.natCast_pow, Int.mul_comm]; rfl
  have hlt : 128 ^ k * y < 18446744073709551616 := by omega
  rw [e3, IntWalk.u64_in _ ⟨by omega, by omega⟩, u64_or_nat X (128 ^ k * y) (by omega) hlt, e2, Nat.or_comm, Nat.mul_comm]
  rw [e2] at hX
  rw [← Nat.shiftLeft_eq, ← Nat.shiftLeft_add_eq_or_of_lt hX, Nat.add_comm]

section
variable {w : World} {B : Nat} {A : Option Addr} {n c : Nat} {l : List UInt8}

set_option maxHeartbeats 1000000 in
theorem joinGroups_any (hr : Rb w B A n l) (h10 : n ≤ 10) (hv : val l < 18446744073709551616) :
    Calls Try.prog 150 #[.slice A n c] w (Says (.int .u64 (val l : Nat)) w) := by
  have HR := Lib.hid hr
  have HV := Lib.hid hv
  clear hr hv
  go_enter Try.func150, Try.ntmps150
  go_wp2
  go_loop [3, 8] (fun u i => ∃ (k X : Nat), k ≤ n ∧ i = .int .i64 k ∧ u = .int .u64 (X : Int) ∧ Hid (X = val (l.take k))) (fun _ i => n - (intOf i).toNat)
  case atStart => exact ⟨0, 0, by omega, rfl, rfl, by simp [Hid, val]⟩
  case round =>
    obtain ⟨k, X, hkn, rfl, rfl, hX⟩ := hrel
    by_cases hlt : k < n
    · obtain ⟨g, o, x, rfl, _, hx, hcell⟩ := HR.out.at_ hlt
      unfold b8 at hcell
      have hX2 : Hid (X + 128 ^ k * (x.toNat % 128) = val (l.take (k + 1))) := Lib.hid (by
        rw [take_at hx, val_app, ← hX.out]
        have : (l.take k).length = k := by rw [List.length_take, HR.out.len]; omega
        rw [this]; simp [val])
      have hor : Hid (bits .or .u64 (X : Int) (IntKind.u64.wrap (((x.toNat % 128 : Nat) : Int) * 2 ^ (7 * k))) = ((X + 128 ^ k * (x.toNat % 128) : Nat) : Int)) := Lib.hid (or_step X _ k (by
          have h1 := val_lt (l.take k)
          rw [← hX.out] at h1
          have : (l.take k).length = k := by rw [List.length_take, HR.out.len]; omega
          rwa [this] at h1) (by have h1 := val_take_le l (k + 1); have h2 := HV.out; have h3 := hX2.out; omega))
      clear hx hX HR HV
      go_wp2
      go_round
      case rel =>
        refine ⟨k + 1, X + 128 ^ k * (x.toNat % 128), by omega, by go_num, ?_, hX2⟩
        rw [← hor.out]
        rfl
      case measure => simp [intOf]; omega
    · have HX : Hid (X = val l) := Lib.hid (by rw [hX.out, List.take_of_length_le (by have := HR.out.len; omega)])
      clear hX
      go_wp2
      go_ret
      exact ⟨ret_u64 (by rw [HX.out]), rfl⟩
end
end Go.Proofs.Ytidinbeanaifmaa
namespace Go.Proofs.Ytidinbeanaifmaa
open Go.RowKit

theorem WRd.any {w : World} {p : Nat} {l l' : List UInt8} {e : Int} (h : WRd w p l e) (he : e ≠ 0) : WRd w p l' e := by
  obtain ⟨A, n, c, l0, hb, ho, hn, hc, hl⟩ := h
  exact ⟨A, n, c, l0, hb, ho, hn, hc, fun h => absurd h he⟩
theorem RRd.any {w : World} {p : Nat} {l l' : List UInt8} {e : Int} (h : RRd w p l e) (he : e ≠ 0) : RRd w p l' e := by
  obtain ⟨A, n, c, l0, hb, ho, hn, hc, hl⟩ := h
  exact ⟨A, n, c, l0, hb, ho, hn, hc, fun h => absurd h he⟩

/-- what is left behind a cut at the capacity, and before it -/
theorem wrd_end {w : World} {p : Nat} {l : List UInt8} {A B : Option Addr} {n c m d : Nat} (hb : Bk w p 86 #[.slice A n c, .int .i64 0, .bool true]) (hm : m = 0) (hl : l = []) (hd : m ≤ d ∧ d ≤ 9223372036854775807) :
    WRd (w.setCell ⟨p, 0, none⟩ (.slice B m d)) p l 0 :=
  ⟨_, _, _, [], hb.put 0 _, ⟨by simp [hm], fun h => absurd rfl h⟩, hd.1, hd.2, fun _ => hl.symm⟩
theorem wrd_cut {w : World} {p : Nat} {l : List UInt8} {g o n c k : Nat} (hb : Bk w p 86 #[.slice (some ⟨g, o, none⟩) n c, .int .i64 0, .bool true]) (ho : Ow w (some ⟨g, o, none⟩) n l)
    (hk : k ≤ n) (hn : n ≤ c) (hc : c ≤ 9223372036854775807) (hck : c ≠ k) : WRd (w.setCell ⟨p, 0, none⟩ (.slice (some ⟨g, o + k, none⟩) (n - k) (c - k))) p (l.drop k) 0 := by
  have h := ho.cut hk hn
  rw [if_neg hck] at h
  simp only [Option.map_some, Addr.add_lit] at h
  exact ⟨_, _, _, _, hb.put 0 _, h.grown hb (by decide) (turned w p 0 _), by omega, by omega, fun _ => rfl⟩

section
variable {w : World} {p : Nat} {l : List UInt8} {e : Int}

set_option maxHeartbeats 1000000 in
theorem wInt_err (low high : Int) (h : WRd w p l e) (he : e ≠ 0) : Calls Try.prog 135 #[.pointer (some ⟨p, 0, none⟩), .int .i64 low, .int .i64 high] w (Turns (.int .i64 0) w p fun w' => WRd w' p l e) := by
  have HW := Lib.hid h
  clear h
  have hne : (e != 0) = true := by rw [bne_iff_ne]; exact he
  go_enter Try.func135, Try.ntmps135
  go_wp2_with (go_at_call 52; refine (wErr_any HW.out).mono ?_; rintro e w' ⟨rfl, rfl⟩)
  go_ret
  exact ⟨rfl, World.grownBy.refl _ _, HW.out⟩

set_option maxHeartbeats 1000000 in
theorem wInt_ok (low high : Int) (h : WRd w p l 0) : Calls Try.prog 135 #[.pointer (some ⟨p, 0, none⟩), .int .i64 low, .int .i64 high] w
    (Turns (.int .i64 (intR l low high).1) w p fun w' => WRd w' p (intR l low high).2.1 (intR l low high).2.2) := by
  have HW := Lib.hid h
  obtain ⟨A, n, c, l0, hb, ho, hn, hc, hl⟩ := h
  obtain rfl := hl rfl
  have h0 : w.cell? ⟨p, 0, none⟩ = some (.slice A n c) := hb.cell 0
  have hf0 : w.frozen? ⟨p, 0, none⟩ = false := hb.frozen 0
  have HB := Lib.hid hb
  have HO := Lib.hid ho
  clear hb ho hl
  rcases szAt_facts 0 l0 with ⟨hs, hk1, h2, h3⟩ | ⟨_, hs⟩
  · have hs1 : szAt 0 l0 = ((szAt 0 l0).1, 0) := by rw [← hs]
    have he := enc_sz hs
    obtain ⟨k, hk⟩ : ∃ k, k = (szAt 0 l0).1 := ⟨_, rfl⟩
    rw [← hk] at hs1 he h2 h3 hk1
    have hkn : k ≤ n := by have := HO.out.1; omega
    have HI : Hid (intR l0 low high = if unz (val (l0.take k)) < low ∨ high < unz (val (l0.take k)) then (0, [], 14) else (unz (val (l0.take k)), l0.drop k, 0)) := Lib.hid (by
      unfold intR
      rw [hs1, if_neg (by simp)])
    have HS := Lib.hid hs1
    have HE := Lib.hid he
    clear hs hs1 he hk h2
    go_enter Try.func135, Try.ntmps135
    go_wp2_with fail
    refine (wErr_any HW.out).mono ?_
    rintro e w' ⟨rfl, rfl⟩
    go_wp2_with fail
    refine (intSize_any HO.out.rb hn).mono ?_
    rintro e w' ⟨rfl, rfl⟩
    rw [HS.out]
    go_wp2_with fail
    refine (joinGroups_any (HO.out.rb.front hkn) (by omega) HE.out.2).mono ?_
    rintro e w' ⟨rfl, rfl⟩
    go_wp2_with fail
    refine (unfold_any _ _ HE.out.2).mono ?_
    rintro e w' ⟨rfl, rfl⟩
    obtain ⟨x, hx⟩ : ∃ x, x = unz (val (l0.take k)) := ⟨_, rfl⟩
    rw [← hx]
    have HX := Lib.hid hx
    clear hx
    by_cases hr : x < low ∨ high < x
    · have HI2 : Hid (intR l0 low high = (0, [], 14)) := Lib.hid (by rw [HI.out, ← HX.out, if_pos hr])
      by_cases h1 : x < low
      · have t1 : decide (x < low) = true := by rw [decide_eq_true_eq]; exact h1
        clear hr h1
        go_wp2_with fail
        refine (wFail_ok 14 HW.out).mono ?_
        rintro e w' ⟨rfl, hg, hq⟩
        have HG := Lib.hid hg
        have HQ := Lib.hid hq
        clear hg hq
        go_wp2
        go_ret
        exact ⟨ret_i64 (by rw [HI2.out]), HG.out, by rw [HI2.out]; exact HQ.out.any (by decide)⟩
      · have t1 : decide (x < low) = false := by rw [decide_eq_false_iff_not]; exact h1
        have t2 : decide (high < x) = true := by rw [decide_eq_true_eq]; omega
        clear hr h1
        go_wp2_with fail
        refine (wFail_ok 14 HW.out).mono ?_
        rintro e w' ⟨rfl, hg, hq⟩
        have HG := Lib.hid hg
        have HQ := Lib.hid hq
        clear hg hq
        go_wp2
        go_ret
        exact ⟨ret_i64 (by rw [HI2.out]), HG.out, by rw [HI2.out]; exact HQ.out.any (by decide)⟩
    · have HI2 : Hid (intR l0 low high = (x, l0.drop k, 0)) := Lib.hid (by rw [HI.out, ← HX.out, if_neg hr])
      have t1 : decide (x < low) = false := by rw [decide_eq_false_iff_not]; omega
      have t2 : decide (high < x) = false := by rw [decide_eq_false_iff_not]; omega
      clear hr
      by_cases hck : c = k
      · subst hck
        have hnc : n = c := by omega
        have HN := Lib.hid hnc
        clear hnc
        go_wp2
        go_ret
        exact ⟨ret_i64 (by rw [HI2.out]), turned w p 0 _, by rw [HI2.out]; exact wrd_end HB.out (by have := HN.out; omega) (by have := HO.out.1; have := HN.out; rw [List.drop_eq_nil_of_le (by omega)]) (by omega)⟩
      · have hne : l0 ≠ [] := by intro h; have := HO.out.1; rw [h] at this; simp at this; omega
        obtain ⟨g, o, cs, rfl, hbk, hcs⟩ := HO.out.2 hne
        have HK := Lib.hid hbk
        have HC := Lib.hid hcs
        clear hbk hcs hne
        have tk : (c == k) = false := by rw [beq_eq_false_iff_ne]; exact hck
        have hck' : ¬ (c : Int) = k := by omega
        go_wp2
        go_ret
        exact ⟨ret_i64 (by rw [HI2.out]), turned w p 0 _, by rw [HI2.out]; exact wrd_cut HB.out HO.out hkn hn hc hck⟩
  · have hs0 : (szAt 0 l0).2 ≠ 0 := by omega
    have hne : ((szAt 0 l0).2 != 0) = true := by rw [bne_iff_ne]; exact hs0
    have HI := Lib.hid (intR_err (low := low) (high := high) hs0)
    have HS := Lib.hid hs0
    clear hs hs0
    go_enter Try.func135, Try.ntmps135
    go_wp2_with fail
    refine (wErr_any HW.out).mono ?_
    rintro e w' ⟨rfl, rfl⟩
    go_wp2_with fail
    refine (intSize_any HO.out.rb hn).mono ?_
    rintro e w' ⟨rfl, rfl⟩
    go_wp2_with fail
    refine (wFail_ok _ HW.out).mono ?_
    rintro e w' ⟨rfl, hg, hq⟩
    have HG := Lib.hid hg
    have HQ := Lib.hid hq
    clear hg hq
    go_wp2
    go_ret
    exact ⟨ret_i64 (by rw [HI.out]), HG.out, by rw [HI.out]; exact HQ.out.any HS.out⟩
end
end Go.Proofs.Ytidinbeanaifmaa
namespace Go.Proofs.Ytidinbeanaifmaa
open Go.RowKit

theorem run_str {P : Program} {w : World} {B : Nat} {A : Option Addr} {n c : Nat} {l : List UInt8} (src dst e : TypeId) (hs : P.underlying src = some (.slice e)) (he : P.underlying e = some (.int .u8)) (hd : P.underlying dst = some .string)
    (h : Rb w B A n l) : (convert src dst (.slice A n c)).run P w = .ok (.string ⟨l.toArray⟩) w := by
  obtain rfl := h.1
  cases A with
  | none =>
    have hl : l = [] := by
      rcases List.eq_nil_or_concat l with h0 | ⟨r, x, h0⟩
      · exact h0
      · obtain ⟨_, _, ha, _⟩ := h.2 (by rw [h0]; simp)
        cases ha
    subst hl
    rw [run_convert_bytes_string w src dst e _ _ c hs he hd]
    simp [Conv.bytesToString, Sem.run_pure]
    rfl
  | some a =>
    refine run_convert_bytes_back w src dst e a c l hs he hd fun j hj => ?_
    obtain ⟨g, o, ha, _, hc⟩ := h.2 (by intro h0; subst h0; simp at hj)
    injection ha with ha
    subst ha
    rw [Addr.add_lit]
    exact hc j _ (List.getElem?_eq_getElem hj)

theorem ret_str {a b : List UInt8} (h : a = b) : Ending.returned (.string ⟨a.toArray⟩) = .returned (.string ⟨b.toArray⟩) := by rw [h]

section
variable {w : World} {p : Nat} {l : List UInt8} {e : Int}

set_option maxHeartbeats 1000000 in
theorem wText_err (most : Int) (h : WRd w p l e) (he : e ≠ 0) : Calls Try.prog 136 #[.pointer (some ⟨p, 0, none⟩), .int .i64 most] w (Turns (.string ⟨(([] : List UInt8)).toArray⟩) w p fun w' => WRd w' p l e) := by
  have HW := Lib.hid h
  clear h
  have hne : (e != 0) = true := by rw [bne_iff_ne]; exact he
  go_enter Try.func136, Try.ntmps136
  go_wp2_with fail
  refine (wInt_err 0 most HW.out he).mono ?_
  rintro e1 w1 ⟨rfl, hg, hq⟩
  have HG := Lib.hid hg
  have HQ := Lib.hid hq
  clear hg hq
  go_wp2_with fail
  refine (wLeft_err HQ.out he).mono ?_
  rintro e1 w' ⟨rfl, rfl⟩
  go_wp2_with fail
  refine (wErr_any HQ.out).mono ?_
  rintro e1 w' ⟨rfl, rfl⟩
  go_wp2
  go_ret
  exact ⟨rfl, HG.out, HQ.out⟩

theorem wrd_cut2 {w : World} {p : Nat} {l : List UInt8} {a : Addr} {n c k : Nat} (hb : Bk w p 86 #[.slice (some a) n c, .int .i64 0, .bool true]) (ho : Ow w (some a) n l)
    (hk : k ≤ n) (hn : n ≤ c) (hc : c ≤ 9223372036854775807) (hck : c ≠ k) : WRd (w.setCell ⟨p, 0, none⟩ (.slice (some (a.add k)) (n - k) (c - k))) p (l.drop k) 0 := by
  have h := ho.cut hk hn
  rw [if_neg hck] at h
  exact ⟨_, _, _, _, hb.put 0 _, h.grown hb (by decide) (turned w p 0 _), by omega, by omega, fun _ => rfl⟩

set_option maxHeartbeats 1000000 in
theorem wText_ok (most : Int) (h : WRd w p l 0) : Calls Try.prog 136 #[.pointer (some ⟨p, 0, none⟩), .int .i64 most] w
    (Turns (.string ⟨(textR l most).1.toArray⟩) w p fun w' => WRd w' p (textR l most).2.1 (textR l most).2.2) := by
  have HW := Lib.hid h
  clear h
  rcases intR_ways l 0 most with hi | ⟨k, _, _, _, hi, hx0, _, _, hv⟩
  · have hT : textR l most = ([], [], (intR l 0 most).2.2) ∧ (intR l 0 most).1 = 0 ∧ (intR l 0 most).2.2 ≠ 0 := by
      rcases hi with hi | hi | hi <;> simp [textR, hi]
    obtain ⟨e1, he1⟩ : ∃ e1, e1 = (intR l 0 most).2.2 := ⟨_, rfl⟩
    rw [← he1] at hT
    have HT := Lib.hid hT
    have HE := Lib.hid he1
    have hne : (e1 != 0) = true := by rw [bne_iff_ne]; exact hT.2.2
    clear hi hT he1
    go_enter Try.func136, Try.ntmps136
    go_wp2_with fail
    refine (wInt_ok 0 most HW.out).mono ?_
    rw [HT.out.2.1, ← HE.out]
    rintro e w1 ⟨rfl, hg, hq⟩
    have HG := Lib.hid hg
    have HQ := Lib.hid hq
    clear hg hq
    go_wp2_with fail
    refine (wLeft_err HQ.out HT.out.2.2).mono ?_
    rintro e w' ⟨rfl, rfl⟩
    go_wp2_with fail
    refine (wErr_any HQ.out).mono ?_
    rintro e w' ⟨rfl, rfl⟩
    go_wp2
    go_ret
    exact ⟨ret_str (by rw [HT.out.1]), HG.out, by rw [HT.out.1]; exact HQ.out.any HT.out.2.2⟩
  · obtain ⟨x, hx⟩ : ∃ x : Nat, unz (val (l.take k)) = (x : Int) := ⟨(unz (val (l.take k))).toNat, by omega⟩
    rw [hx] at hi
    have hxm := (unz_in hv).2
    rw [hx] at hxm
    have HI := Lib.hid hi
    obtain ⟨r, hr⟩ : ∃ r, r = l.drop k := ⟨_, rfl⟩
    rw [← hr] at hi
    have HI := Lib.hid hi
    by_cases hlen : r.length < x
    · have hT : textR l most = ([], [], 4) := by
        unfold textR
        rw [hi]
        simp only [ne_eq, not_true_eq_false, ↓reduceIte]
        rw [if_pos (by omega)]
      have HT := Lib.hid hT
      have hgt : decide (r.length < x) = true := by rw [decide_eq_true_eq]; exact hlen
      clear hi hT hr hx hx0 hv hlen
      go_enter Try.func136, Try.ntmps136
      go_wp2_with fail
      refine (wInt_ok 0 most HW.out).mono ?_
      rw [HI.out]
      rintro e w1 ⟨rfl, hg, hq⟩
      have HG := Lib.hid hg
      have HQ := Lib.hid hq
      clear hg hq
      go_wp2_with fail
      refine (wLeft_ok HQ.out).mono ?_
      rintro e w' ⟨rfl, rfl⟩
      go_wp2_with fail
      refine (wFail_ok 4 HQ.out).mono ?_
      rintro e w2 ⟨rfl, hg, hq⟩
      have HG2 := Lib.hid hg
      have HQ2 := Lib.hid hq
      clear hg hq
      go_wp2_with fail
      refine (wErr_any HQ2.out).mono ?_
      rintro e w' ⟨rfl, rfl⟩
      go_wp2
      go_ret
      exact ⟨ret_str (by rw [HT.out]), grownBy_trans HG.out HG2.out, by rw [HT.out]; exact HQ2.out.any (by decide)⟩
    · have hT : textR l most = (r.take x, r.drop x, 0) := by
        unfold textR
        rw [hi]
        simp only [ne_eq, not_true_eq_false, ↓reduceIte]
        rw [if_neg (by omega)]
        simp
      have HT := Lib.hid hT
      have hgt : decide (r.length < x) = false := by rw [decide_eq_false_iff_not]; exact hlen
      have hle : x ≤ r.length := by omega
      clear hi hT hr hx hx0 hv hlen
      go_enter Try.func136, Try.ntmps136
      go_wp2_with fail
      refine (wInt_ok 0 most HW.out).mono ?_
      rw [HI.out]
      rintro e w1 ⟨rfl, hg, hq⟩
      have HG := Lib.hid hg
      have HQ := Lib.hid hq
      clear hg hq
      go_wp2_with fail
      refine (wLeft_ok HQ.out).mono ?_
      rintro e w' ⟨rfl, rfl⟩
      go_wp2_with fail
      refine (wErr_any HQ.out).mono ?_
      rintro e w' ⟨rfl, rfl⟩
      obtain ⟨A, n, c, l0, hb, ho, hn, hc, hl⟩ := HQ.out
      obtain rfl := hl rfl
      have hxn : x ≤ n := by have := ho.1; omega
      have h0 : w1.cell? ⟨p, 0, none⟩ = some (.slice A n c) := hb.cell 0
      have hf0 : w1.frozen? ⟨p, 0, none⟩ = false := hb.frozen 0
      have hstr := run_str (P := Try.prog) (c := c) 50 9 5 Try.underlying50 Try.underlying5 Try.underlying9 (ho.rb.front hxn)
      have HB := Lib.hid hb
      have HO := Lib.hid ho
      clear hb ho hl hle
      by_cases hcx : c = x
      · subst hcx
        have hnc : n = c := by omega
        have HN := Lib.hid hnc
        clear hnc
        go_wp2
        go_ret
        exact ⟨ret_str (by rw [HT.out]), grownBy_trans HG.out (turned w1 p 0 _), by rw [HT.out]; exact wrd_end HB.out (by have := HN.out; omega) (by have := HO.out.1; have := HN.out; rw [List.drop_eq_nil_of_le (by omega)]) (by omega)⟩
      · have hck' : ¬ (c : Int) = x := by omega
        cases A with
        | none =>
          have hn0 : n = 0 := by
            have h1 := HO.out
            rcases Nat.eq_zero_or_pos n with h2 | h2
            · exact h2
            · obtain ⟨_, _, _, ha, _⟩ := h1.2 (by intro h3; have := h1.1; rw [h3] at this; simp at this; omega)
              cases ha
          have HN := Lib.hid hn0
          clear hn0
          go_wp2
          go_ret
          exact ⟨ret_str (by rw [HT.out]), grownBy_trans HG.out (turned w1 p 0 _), by rw [HT.out]; exact wrd_end HB.out (by have := HN.out; omega) (by have := HO.out.1; have := HN.out; rw [List.drop_eq_nil_of_le (by omega)]) (by omega)⟩
        | some a =>
          go_wp2
          go_ret
          exact ⟨ret_str (by rw [HT.out]), grownBy_trans HG.out (turned w1 p 0 _), by rw [HT.out]; exact wrd_cut2 HB.out HO.out hxn hn hc hcx⟩
end
end Go.Proofs.Ytidinbeanaifmaa
namespace Go.Proofs.Ytidinbeanaifmaa
open Go.RowKit

theorem rrd_end {w : World} {p : Nat} {l : List UInt8} {A B : Option Addr} {n c m d : Nat} (hb : Bk w p 88 #[.bool true, .slice A n c, .int .i64 0]) (hm : m = 0) (hl : l = []) (hd : m ≤ d ∧ d ≤ 9223372036854775807) :
    RRd (w.setCell ⟨p, 1, none⟩ (.slice B m d)) p l 0 :=
  ⟨_, _, _, [], hb.put 1 _, ⟨by simp [hm], fun h => absurd rfl h⟩, hd.1, hd.2, fun _ => hl.symm⟩
theorem rrd_cut2 {w : World} {p : Nat} {l : List UInt8} {a : Addr} {n c k : Nat} (hb : Bk w p 88 #[.bool true, .slice (some a) n c, .int .i64 0]) (ho : Ow w (some a) n l)
    (hk : k ≤ n) (hn : n ≤ c) (hc : c ≤ 9223372036854775807) (hck : c ≠ k) : RRd (w.setCell ⟨p, 1, none⟩ (.slice (some (a.add k)) (n - k) (c - k))) p (l.drop k) 0 := by
  have h := ho.cut hk hn
  rw [if_neg hck] at h
  exact ⟨_, _, _, _, hb.put 1 _, h.grown hb (by decide) (turned w p 1 _), by omega, by omega, fun _ => rfl⟩

section
variable {w : World} {p : Nat} {l : List UInt8} {e : Int}

theorem rstop_ok (h : RRd w p l 0) : Calls Try.prog 89 #[.pointer (some ⟨p, 0, none⟩)] w (Says (.bool false) w) := rStopped_any h

end
end Go.Proofs.Ytidinbeanaifmaa
namespace Go.Proofs.Ytidinbeanaifmaa
open Go.RowKit

section
variable {w : World} {p : Nat} {l : List UInt8} {e : Int}

set_option maxHeartbeats 2000000 in
theorem rCount_any (h : RRd w p l 0) : Calls Try.prog 152 #[.pointer (some ⟨p, 0, none⟩)] w (Says (.tuple #[.int .i64 ((szAt 0 l).1 : Nat), .int .i64 (szAt 0 l).2]) w) := by
  obtain ⟨A, n, c, l0, hb, ho, hn, hc, hl⟩ := h
  obtain rfl := hl rfl
  have h0 : w.cell? ⟨p, 1, none⟩ = some (.slice A n c) := hb.cell 1
  have HR := Lib.hid ho.rb
  clear hb ho hl hn hc
  go_enter Try.func152, Try.ntmps152
  go_wp2
  go_loop [4] (fun i => ∃ k : Nat, k ≤ n ∧ k ≤ 10 ∧ i = .int .i64 ((k : Int) + 1) ∧ Hid (szAt 0 l0 = szAt k (l0.drop k))) (fun i => 11 - (intOf i).toNat)
  case atStart => exact ⟨0, by omega, by omega, rfl, rfl⟩
  case round =>
    obtain ⟨k, hkn, hk10, rfl, hs⟩ := hrel
    by_cases h10 : k = 10
    · subst h10
      have HX2 : Hid (szAt 0 l0 = (0, 3)) := Lib.hid (by rw [hs.out, szAt_end (by omega)])
      clear hs
      go_wp2
      go_ret2
      exact ⟨ret_2 (by rw [HX2.out]; rfl) (by rw [HX2.out]), rfl⟩
    have hlt10 : k < 10 := by omega
    clear h10
    have t0 : decide ((k : Int) + 1 ≤ 10) = true := by rw [decide_eq_true_eq]; omega
    by_cases hlt : k < n
    · obtain ⟨g, o, x, rfl, _, hx, hcell⟩ := HR.out.at_ hlt
      unfold b8 at hcell
      have HX : Hid (szAt 0 l0 = szAt k (x :: l0.drop (k + 1))) := Lib.hid (by rw [hs.out, drop_at hx])
      have ti : decide ((n : Int) < (k : Int) + 1) = false := by rw [decide_eq_false_iff_not]; omega
      have tk : ((k : Int) + 1 - 1) = (k : Int) := by omega
      clear hx hs HR
      by_cases h128 : 128 ≤ x.toNat
      · have HX2 : Hid (szAt 0 l0 = szAt (k + 1) (l0.drop (k + 1))) := Lib.hid (by rw [HX.out, szAt_on hlt10 h128])
        have t1 : decide ((x.toNat : Int) < 128) = false := by rw [decide_eq_false_iff_not]; omega
        clear HX h128
        go_wp2
        go_round
        case rel => exact ⟨k + 1, by omega, by omega, by go_num, HX2⟩
        case measure => simp [intOf]; omega
      · have t1 : decide ((x.toNat : Int) < 128) = true := by rw [decide_eq_true_eq]; omega
        rcases Nat.eq_zero_or_pos k with h0 | h0
        · subst h0
          have HX2 : Hid (szAt 0 l0 = (0 + 1, 0)) := Lib.hid (by rw [HX.out, szAt_ok hlt10 (by omega) (by omega)])
          have hcell0 : w.cell? ⟨g, o, none⟩ = some (.int .u8 (x.toNat : Int)) := hcell
          have ti0 : decide ((n : Int) < 1) = false := by rw [decide_eq_false_iff_not]; omega
          clear HX hcell ti t0 tk
          go_wp2
          go_ret2
          exact ⟨ret_2 (by rw [HX2.out]; rfl) (by rw [HX2.out]), rfl⟩
        · have hk0 : decide ((1 : Int) < (k : Int) + 1) = true := by rw [decide_eq_true_eq]; omega
          by_cases hx0 : x.toNat = 0
          · have HX2 : Hid (szAt 0 l0 = (0, 3)) := Lib.hid (by rw [HX.out, szAt_bad hlt10 (by omega) (by omega)])
            have hb : ((x.toNat : Int) == 0) = true := by simp [hx0]
            clear HX hx0
            go_wp2
            go_ret2
            exact ⟨ret_2 (by rw [HX2.out]; rfl) (by rw [HX2.out]), rfl⟩
          · have hb : ((x.toNat : Int) == 0) = false := by rw [beq_eq_false_iff_ne]; omega
            by_cases h9 : k = 9
            · subst h9
              have ti9 : decide ((n : Int) < 10) = false := by rw [decide_eq_false_iff_not]; omega
              by_cases h1 : 1 < x.toNat
              · have HX2 : Hid (szAt 0 l0 = (0, 3)) := Lib.hid (by rw [HX.out, szAt_bad hlt10 (by omega) (by omega)])
                have t2 : decide ((1 : Int) < (x.toNat : Int)) = true := by rw [decide_eq_true_eq]; omega
                clear HX h1
                go_wp2
                all_goals (go_ret2; exact ⟨ret_2 (by rw [HX2.out]; rfl) (by rw [HX2.out]), rfl⟩)
              · have HX2 : Hid (szAt 0 l0 = (9 + 1, 0)) := Lib.hid (by rw [HX.out, szAt_ok hlt10 (by omega) (by omega)])
                have t2 : decide ((1 : Int) < (x.toNat : Int)) = false := by rw [decide_eq_false_iff_not]; omega
                clear HX h1
                go_wp2
                all_goals (go_ret2; exact ⟨ret_2 (by rw [HX2.out]; rfl) (by rw [HX2.out]), rfl⟩)
            · have hb9 : ((k : Int) + 1 == 10) = false := by rw [beq_eq_false_iff_ne]; omega
              have HX2 : Hid (szAt 0 l0 = (k + 1, 0)) := Lib.hid (by rw [HX.out, szAt_ok hlt10 (by omega) (by omega)])
              clear HX
              go_wp2
              go_ret2
              exact ⟨ret_2 (by rw [HX2.out]; rfl) (by rw [HX2.out]), rfl⟩
    · have hl := HR.out.len
      have HX2 : Hid (szAt 0 l0 = (0, 4)) := Lib.hid (by rw [hs.out, List.drop_eq_nil_of_le (by omega), szAt_nil hlt10])
      have ti : decide ((n : Int) < (k : Int) + 1) = true := by rw [decide_eq_true_eq]; omega
      clear hs hl
      go_wp2
      go_ret2
      exact ⟨ret_2 (by rw [HX2.out]; rfl) (by rw [HX2.out]), rfl⟩
end
end Go.Proofs.Ytidinbeanaifmaa
namespace Go.Proofs.Ytidinbeanaifmaa
open Go.RowKit

theorem val_cons (c : UInt8) (r : List UInt8) : val (c :: r) = c.toNat % 128 + 128 * val r := rfl
theorem val_drop_le (l : List UInt8) (j : Nat) : val (l.drop j) ≤ val l := by
  have h := val_app (l.take j) (l.drop j)
  rw [List.take_append_drop] at h
  have h2 : 1 * val (l.drop j) ≤ 128 ^ (l.take j).length * val (l.drop j) := Nat.mul_le_mul_right _ (Nat.pow_pos (by decide))
  omega
theorem rrd_cut {w : World} {p : Nat} {l : List UInt8} {g o n c k : Nat} (hb : Bk w p 88 #[.bool true, .slice (some ⟨g, o, none⟩) n c, .int .i64 0]) (ho : Ow w (some ⟨g, o, none⟩) n l)
    (hk : k ≤ n) (hn : n ≤ c) (hc : c ≤ 9223372036854775807) (hck : c ≠ k) : RRd (w.setCell ⟨p, 1, none⟩ (.slice (some ⟨g, o + k, none⟩) (n - k) (c - k))) p (l.drop k) 0 := by
  have h := rrd_cut2 hb ho hk hn hc hck
  rw [Addr.add_lit] at h
  exact h
theorem unz_odd (u : Nat) (h : u % 2 = 1) : unz u = -((u / 2 : Nat) : Int) - 1 := by unfold unz; rw [if_pos h]

section
variable {w : World} {p : Nat} {l : List UInt8} {e : Int}

set_option maxHeartbeats 1000000 in
theorem rInt_err (low high : Int) (h : RRd w p l e) (he : e ≠ 0) : Calls Try.prog 138 #[.pointer (some ⟨p, 0, none⟩), .int .i64 low, .int .i64 high] w (Turns (.int .i64 0) w p fun w' => RRd w' p l e) := by
  have HW := Lib.hid h
  clear h
  have hne : (e != 0) = true := by rw [bne_iff_ne]; exact he
  go_enter Try.func138, Try.ntmps138
  go_wp2_with (go_at_call 89; refine (rStopped_any HW.out).mono ?_; rintro e w' ⟨rfl, rfl⟩)
  go_ret
  exact ⟨rfl, World.grownBy.refl _ _, HW.out⟩

set_option maxHeartbeats 2000000 in
theorem rInt_ok (low high : Int) (h : RRd w p l 0) : Calls Try.prog 138 #[.pointer (some ⟨p, 0, none⟩), .int .i64 low, .int .i64 high] w
    (Turns (.int .i64 (intR l low high).1) w p fun w' => RRd w' p (intR l low high).2.1 (intR l low high).2.2) := by
  have HW := Lib.hid h
  obtain ⟨A, n, c, l0, hb, ho, hn, hc, hl⟩ := h
  obtain rfl := hl rfl
  have h0 : w.cell? ⟨p, 1, none⟩ = some (.slice A n c) := hb.cell 1
  have hf0 : w.frozen? ⟨p, 1, none⟩ = false := hb.frozen 1
  have HB := Lib.hid hb
  have HO := Lib.hid ho
  clear hb ho hl
  rcases szAt_facts 0 l0 with ⟨hs, hk1, h2, h3⟩ | ⟨_, hs⟩
  · have hs1 : szAt 0 l0 = ((szAt 0 l0).1, 0) := by rw [← hs]
    have he := enc_sz hs
    obtain ⟨k, hk⟩ : ∃ k, k = (szAt 0 l0).1 := ⟨_, rfl⟩
    rw [← hk] at hs1 he h2 h3 hk1
    have hkn : k ≤ n := by have := HO.out.1; omega
    have HI : Hid (intR l0 low high = if unz (val (l0.take k)) < low ∨ high < unz (val (l0.take k)) then (0, [], 14) else (unz (val (l0.take k)), l0.drop k, 0)) := Lib.hid (by
      unfold intR
      rw [hs1, if_neg (by simp)])
    have HS := Lib.hid hs1
    have HE := Lib.hid he
    have hne : l0 ≠ [] := by intro h; have := HO.out.1; rw [h] at this; simp at this; omega
    obtain ⟨g, o, cs, rfl, hbk, hcs⟩ := HO.out.2 hne
    have HK := Lib.hid hbk
    have HC := Lib.hid hcs
    clear hs hs1 he hk h2 hbk hcs hne
    go_enter Try.func138, Try.ntmps138
    go_wp2_with fail
    refine (rstop_ok HW.out).mono ?_
    rintro e w' ⟨rfl, rfl⟩
    go_wp2_with fail
    refine (rCount_any HW.out).mono ?_
    rintro e w' ⟨rfl, rfl⟩
    rw [HS.out]
    go_wp2_with fail
    go_loop [9, 10] (fun u i => ∃ (j X : Nat), j ≤ k ∧ i = .int .i64 ((j : Int) - 1) ∧ u = .int .u64 (X : Int) ∧ Hid (X = val ((l0.take k).drop j))) (fun _ i => (intOf i + 1).toNat)
    case atStart => exact ⟨k, 0, by omega, rfl, rfl, by rw [List.drop_eq_nil_of_le (by rw [List.length_take]; omega)]; exact Lib.hid rfl⟩
    case round =>
      obtain ⟨j, X, hjk, rfl, rfl, hX⟩ := hrel
      by_cases hj : 0 < j
      · obtain ⟨j, rfl⟩ : ∃ i, j = i + 1 := ⟨j - 1, by omega⟩
        have hjn : j < n := by omega
        obtain ⟨x, hx⟩ : ∃ x, l0[j]? = some x := ⟨_, List.getElem?_eq_getElem (by have := HO.out.1; omega)⟩
        have hcell : w.cell? ⟨g, o + j, none⟩ = some (.int .u8 (x.toNat : Int)) := (HK.out.cell _).trans (HC.out j x hx)
        have hx2 : (l0.take k).drop j = x :: (l0.take k).drop (j + 1) := drop_at (by rw [List.getElem?_take, if_pos (by omega)]; exact hx)
        have hX2 : Hid (X * 128 + x.toNat % 128 = val ((l0.take k).drop j)) := Lib.hid (by rw [hx2, val_cons, ← hX.out]; omega)
        have hle := val_drop_le (l0.take k) j
        have hw1 : IntKind.u64.wrap ((X : Int) * 128) = (X : Int) * 128 := IntWalk.u64_in _ ⟨by omega, by have := HE.out.2; have := hX2.out; omega⟩
        have hw2 : IntKind.u64.wrap ((X : Int) * 128 + (x.toNat : Int) % 128) = (X : Int) * 128 + (x.toNat : Int) % 128 := IntWalk.u64_in _ ⟨by omega, by have := HE.out.2; have := hX2.out; omega⟩
        have tj : (((j + 1 : Nat) : Int) - 1) = (j : Int) := by omega
        rw [tj]
        have t0 : decide ((0 : Int) ≤ (j : Int)) = true := by rw [decide_eq_true_eq]; omega
        clear hx hx2 hX hle tj hj
        go_wp2
        go_round
        case rel => exact ⟨j, X * 128 + x.toNat % 128, by omega, rfl, by go_num, hX2⟩
        case measure => simp [intOf]
      · obtain rfl : j = 0 := by omega
        obtain ⟨u, hu⟩ : ∃ u, u = val (l0.take k) := ⟨_, rfl⟩
        have HU : Hid (X = u) := Lib.hid (by rw [hX.out, hu]; rfl)
        have hu64 : u < 18446744073709551616 := by rw [hu]; exact HE.out.2
        rw [← hu] at HI
        obtain rfl := HU.out
        have HU64 := Lib.hid hu64
        clear hX hj hu HU hu64
        obtain ⟨x, hx⟩ : ∃ x, x = unz X := ⟨_, rfl⟩
        rw [← hx] at HI
        have hwz : IntKind.u64.wrap ((X : Int) / 2) = (X : Int) / 2 := IntWalk.u64_in _ ⟨by omega, by have := HU64.out; omega⟩
        have hxb := unz_in HU64.out
        rw [← hx] at hxb
        have hev : X % 2 = 0 → wrap64 (IntKind.u64.wrap ((X : Int) / 2)) = x := fun hm => by
          rw [hwz, IntWalk.wrap64_in _ ⟨by omega, by have := HU64.out; omega⟩, hx, unz_even X hm]; omega
        have hod : X % 2 = 1 → wrap64 (wrap64 (-wrap64 (IntKind.u64.wrap ((X : Int) / 2))) - 1) = x := fun hm => by
          have h1 : -((X : Int) / 2) - 1 = x := by rw [hx, unz_odd X hm]; omega
          have hlt := HU64.out
          rw [hwz, IntWalk.wrap64_in ((X : Int) / 2) ⟨by omega, by omega⟩, IntWalk.wrap64_in (-((X : Int) / 2)) ⟨by omega, by omega⟩, h1]
          exact IntWalk.wrap64_in _ hxb
        have HV := Lib.hid hev
        have HD := Lib.hid hod
        have hmod : X % 2 = 0 ∨ X % 2 = 1 := by omega
        clear hx hwz hxb hev hod
        rcases hmod with hm | hm
        · have tm : ((X : Int) % 2 == 1) = false := by rw [beq_eq_false_iff_ne]; omega
          have hval := HV.out hm
          clear hm HV HD
          by_cases hr : x < low ∨ high < x
          · have HI2 : Hid (intR l0 low high = (0, [], 14)) := Lib.hid (by rw [HI.out, if_pos hr])
            by_cases h1 : x < low
            · have t1 : decide (x < low) = true := by rw [decide_eq_true_eq]; exact h1
              clear hr h1
              go_wp2_with fail
              refine (rSet_any 14 HW.out (by decide) []).mono ?_
              rintro e w' ⟨rfl, hg, hq⟩
              have HG := Lib.hid hg
              have HQ := Lib.hid hq
              clear hg hq
              go_wp2
              go_ret
              exact ⟨ret_i64 (by rw [HI2.out]), HG.out, by rw [HI2.out]; exact HQ.out⟩
            · have t1 : decide (x < low) = false := by rw [decide_eq_false_iff_not]; exact h1
              have t2 : decide (high < x) = true := by rw [decide_eq_true_eq]; omega
              clear hr h1
              go_wp2_with fail
              refine (rSet_any 14 HW.out (by decide) []).mono ?_
              rintro e w' ⟨rfl, hg, hq⟩
              have HG := Lib.hid hg
              have HQ := Lib.hid hq
              clear hg hq
              go_wp2
              go_ret
              exact ⟨ret_i64 (by rw [HI2.out]), HG.out, by rw [HI2.out]; exact HQ.out⟩
          · have HI2 : Hid (intR l0 low high = (x, l0.drop k, 0)) := Lib.hid (by rw [HI.out, if_neg hr])
            have t1 : decide (x < low) = false := by rw [decide_eq_false_iff_not]; omega
            have t2 : decide (high < x) = false := by rw [decide_eq_false_iff_not]; omega
            clear hr
            by_cases hck : c = k
            · subst hck
              have hnc : n = c := by omega
              have HN := Lib.hid hnc
              clear hnc
              go_wp2
              go_ret
              exact ⟨ret_i64 (by rw [HI2.out]), turned w p 1 _, by rw [HI2.out]; exact rrd_end HB.out (by have := HN.out; omega) (by have := HO.out.1; have := HN.out; rw [List.drop_eq_nil_of_le (by omega)]) (by omega)⟩
            · have hck' : ¬ (c : Int) = k := by omega
              go_wp2
              go_ret
              exact ⟨ret_i64 (by rw [HI2.out]), turned w p 1 _, by rw [HI2.out]; exact rrd_cut HB.out HO.out hkn hn hc hck⟩
        · have tm : ((X : Int) % 2 == 1) = true := by rw [beq_iff_eq]; omega
          have hval := HD.out hm
          clear hm HV HD
          by_cases hr : x < low ∨ high < x
          · have HI2 : Hid (intR l0 low high = (0, [], 14)) := Lib.hid (by rw [HI.out, if_pos hr])
            by_cases h1 : x < low
            · have t1 : decide (x < low) = true := by rw [decide_eq_true_eq]; exact h1
              clear hr h1
              go_wp2_with fail
              refine (rSet_any 14 HW.out (by decide) []).mono ?_
              rintro e w' ⟨rfl, hg, hq⟩
              have HG := Lib.hid hg
              have HQ := Lib.hid hq
              clear hg hq
              go_wp2
              go_ret
              exact ⟨ret_i64 (by rw [HI2.out]), HG.out, by rw [HI2.out]; exact HQ.out⟩
            · have t1 : decide (x < low) = false := by rw [decide_eq_false_iff_not]; exact h1
              have t2 : decide (high < x) = true := by rw [decide_eq_true_eq]; omega
              clear hr h1
              go_wp2_with fail
              refine (rSet_any 14 HW.out (by decide) []).mono ?_
              rintro e w' ⟨rfl, hg, hq⟩
              have HG := Lib.hid hg
              have HQ := Lib.hid hq
              clear hg hq
              go_wp2
              go_ret
              exact ⟨ret_i64 (by rw [HI2.out]), HG.out, by rw [HI2.out]; exact HQ.out⟩
          · have HI2 : Hid (intR l0 low high = (x, l0.drop k, 0)) := Lib.hid (by rw [HI.out, if_neg hr])
            have t1 : decide (x < low) = false := by rw [decide_eq_false_iff_not]; omega
            have t2 : decide (high < x) = false := by rw [decide_eq_false_iff_not]; omega
            clear hr
            by_cases hck : c = k
            · subst hck
              have hnc : n = c := by omega
              have HN := Lib.hid hnc
              clear hnc
              go_wp2
              go_ret
              exact ⟨ret_i64 (by rw [HI2.out]), turned w p 1 _, by rw [HI2.out]; exact rrd_end HB.out (by have := HN.out; omega) (by have := HO.out.1; have := HN.out; rw [List.drop_eq_nil_of_le (by omega)]) (by omega)⟩
            · have hck' : ¬ (c : Int) = k := by omega
              go_wp2
              go_ret
              exact ⟨ret_i64 (by rw [HI2.out]), turned w p 1 _, by rw [HI2.out]; exact rrd_cut HB.out HO.out hkn hn hc hck⟩
  · have hs0 : (szAt 0 l0).2 ≠ 0 := by omega
    have hne : ((szAt 0 l0).2 != 0) = true := by rw [bne_iff_ne]; exact hs0
    have HI := Lib.hid (intR_err (low := low) (high := high) hs0)
    have HS := Lib.hid hs0
    clear hs hs0
    go_enter Try.func138, Try.ntmps138
    go_wp2_with fail
    refine (rstop_ok HW.out).mono ?_
    rintro e w' ⟨rfl, rfl⟩
    go_wp2_with fail
    refine (rCount_any HW.out).mono ?_
    rintro e w' ⟨rfl, rfl⟩
    go_wp2_with fail
    refine (rSet_any _ HW.out HS.out []).mono ?_
    rintro e w' ⟨rfl, hg, hq⟩
    have HG := Lib.hid hg
    have HQ := Lib.hid hq
    clear hg hq
    go_wp2
    go_ret
    exact ⟨ret_i64 (by rw [HI.out]), HG.out, by rw [HI.out]; exact HQ.out.any HS.out⟩
end
end Go.Proofs.Ytidinbeanaifmaa
namespace Go.Proofs.Ytidinbeanaifmaa
open Go.RowKit

section
variable {w : World} {p : Nat} {l : List UInt8} {e : Int}

set_option maxHeartbeats 1000000 in
theorem rText_err (most : Int) (h : RRd w p l e) (he : e ≠ 0) : Calls Try.prog 139 #[.pointer (some ⟨p, 0, none⟩), .int .i64 most] w (Turns (.string ⟨(([] : List UInt8)).toArray⟩) w p fun w' => RRd w' p l e) := by
  have HW := Lib.hid h
  clear h
  have hne : (e != 0) = true := by rw [bne_iff_ne]; exact he
  go_enter Try.func139, Try.ntmps139
  go_wp2_with fail
  refine (rInt_err 0 most HW.out he).mono ?_
  rintro e1 w1 ⟨rfl, hg, hq⟩
  have HG := Lib.hid hg
  have HQ := Lib.hid hq
  clear hg hq
  go_wp2_with fail
  refine (rStopped_any HQ.out).mono ?_
  rintro e1 w' ⟨rfl, rfl⟩
  go_wp2
  go_ret
  exact ⟨rfl, HG.out, HQ.out⟩

set_option maxHeartbeats 1000000 in
theorem rText_ok (most : Int) (h : RRd w p l 0) : Calls Try.prog 139 #[.pointer (some ⟨p, 0, none⟩), .int .i64 most] w
    (Turns (.string ⟨(textR l most).1.toArray⟩) w p fun w' => RRd w' p (textR l most).2.1 (textR l most).2.2) := by
  have HW := Lib.hid h
  clear h
  rcases intR_ways l 0 most with hi | ⟨k, _, _, _, hi, hx0, _, _, hv⟩
  · have hT : textR l most = ([], [], (intR l 0 most).2.2) ∧ (intR l 0 most).1 = 0 ∧ (intR l 0 most).2.2 ≠ 0 := by
      rcases hi with hi | hi | hi <;> simp [textR, hi]
    obtain ⟨e1, he1⟩ : ∃ e1, e1 = (intR l 0 most).2.2 := ⟨_, rfl⟩
    rw [← he1] at hT
    have HT := Lib.hid hT
    have HE := Lib.hid he1
    have hne : (e1 != 0) = true := by rw [bne_iff_ne]; exact hT.2.2
    clear hi hT he1
    go_enter Try.func139, Try.ntmps139
    go_wp2_with fail
    refine (rInt_ok 0 most HW.out).mono ?_
    rw [HT.out.2.1, ← HE.out]
    rintro e w1 ⟨rfl, hg, hq⟩
    have HG := Lib.hid hg
    have HQ := Lib.hid hq
    clear hg hq
    go_wp2_with fail
    refine (rStopped_any HQ.out).mono ?_
    rintro e w' ⟨rfl, rfl⟩
    go_wp2
    go_ret
    exact ⟨ret_str (by rw [HT.out.1]), HG.out, by rw [HT.out.1]; exact HQ.out.any HT.out.2.2⟩
  · obtain ⟨x, hx⟩ : ∃ x : Nat, unz (val (l.take k)) = (x : Int) := ⟨(unz (val (l.take k))).toNat, by omega⟩
    rw [hx] at hi
    obtain ⟨r, hr⟩ : ∃ r, r = l.drop k := ⟨_, rfl⟩
    rw [← hr] at hi
    have HI := Lib.hid hi
    by_cases hlen : r.length < x
    · have hT : textR l most = ([], [], 4) := by
        unfold textR
        rw [hi]
        simp only [ne_eq, not_true_eq_false, ↓reduceIte]
        rw [if_pos (by omega)]
      have HT := Lib.hid hT
      have HLEN := Lib.hid hlen
      clear hi hT hr hx hx0 hv hlen
      go_enter Try.func139, Try.ntmps139
      go_wp2_with fail
      refine (rInt_ok 0 most HW.out).mono ?_
      rw [HI.out]
      rintro e w1 ⟨rfl, hg, hq⟩
      have HG := Lib.hid hg
      have HQ := Lib.hid hq
      clear hg hq
      go_wp2_with fail
      refine (rstop_ok HQ.out).mono ?_
      rintro e w' ⟨rfl, rfl⟩
      obtain ⟨A, n, c, l0, hb, ho, hn, hc, hl⟩ := HQ.out
      obtain rfl := hl rfl
      have h0 : w1.cell? ⟨p, 1, none⟩ = some (.slice A n c) := hb.cell 1
      have hgt : decide (n < x) = true := by rw [decide_eq_true_eq]; have := ho.1; have := HLEN.out; omega
      clear hb ho hl
      go_wp2_with fail
      refine (rSet_any 4 HQ.out (by decide) []).mono ?_
      rintro e w2 ⟨rfl, hg, hq⟩
      have HG2 := Lib.hid hg
      have HQ2 := Lib.hid hq
      clear hg hq
      go_wp2
      go_ret
      exact ⟨ret_str (by rw [HT.out]), grownBy_trans HG.out HG2.out, by rw [HT.out]; exact HQ2.out⟩
    · have hT : textR l most = (r.take x, r.drop x, 0) := by
        unfold textR
        rw [hi]
        simp only [ne_eq, not_true_eq_false, ↓reduceIte]
        rw [if_neg (by omega)]
        simp
      have HT := Lib.hid hT
      have hle : x ≤ r.length := by omega
      have HLE := Lib.hid hle
      clear hi hT hr hx hx0 hv hlen hle
      go_enter Try.func139, Try.ntmps139
      go_wp2_with fail
      refine (rInt_ok 0 most HW.out).mono ?_
      rw [HI.out]
      rintro e w1 ⟨rfl, hg, hq⟩
      have HG := Lib.hid hg
      have HQ := Lib.hid hq
      clear hg hq
      go_wp2_with fail
      refine (rstop_ok HQ.out).mono ?_
      rintro e w' ⟨rfl, rfl⟩
      obtain ⟨A, n, c, l0, hb, ho, hn, hc, hl⟩ := HQ.out
      obtain rfl := hl rfl
      have hxn : x ≤ n := by have := ho.1; have := HLE.out; omega
      have hgt : decide (n < x) = false := by rw [decide_eq_false_iff_not]; omega
      have h0 : w1.cell? ⟨p, 1, none⟩ = some (.slice A n c) := hb.cell 1
      have hf0 : w1.frozen? ⟨p, 1, none⟩ = false := hb.frozen 1
      have hstr := run_str (P := Try.prog) (c := c) 50 9 5 Try.underlying50 Try.underlying5 Try.underlying9 (ho.rb.front hxn)
      have HB := Lib.hid hb
      have HO := Lib.hid ho
      clear hb ho hl
      by_cases hcx : c = x
      · subst hcx
        have hnc : n = c := by omega
        have HN := Lib.hid hnc
        clear hnc
        go_wp2
        go_ret
        exact ⟨ret_str (by rw [HT.out]), grownBy_trans HG.out (turned w1 p 1 _), by rw [HT.out]; exact rrd_end HB.out (by have := HN.out; omega) (by have := HO.out.1; have := HN.out; rw [List.drop_eq_nil_of_le (by omega)]) (by omega)⟩
      · have hck' : ¬ (c : Int) = x := by omega
        cases A with
        | none =>
          have hn0 : n = 0 := by
            have h1 := HO.out
            rcases Nat.eq_zero_or_pos n with h2 | h2
            · exact h2
            · obtain ⟨_, _, _, ha, _⟩ := h1.2 (by intro h3; have := h1.1; rw [h3] at this; simp at this; omega)
              cases ha
          have HN := Lib.hid hn0
          clear hn0
          go_wp2
          go_ret
          exact ⟨ret_str (by rw [HT.out]), grownBy_trans HG.out (turned w1 p 1 _), by rw [HT.out]; exact rrd_end HB.out (by have := HN.out; omega) (by have := HO.out.1; have := HN.out; rw [List.drop_eq_nil_of_le (by omega)]) (by omega)⟩
        | some a =>
          go_wp2
          go_ret
          exact ⟨ret_str (by rw [HT.out]), grownBy_trans HG.out (turned w1 p 1 _), by rw [HT.out]; exact rrd_cut2 HB.out HO.out hxn hn hc hcx⟩
end
end Go.Proofs.Ytidinbeanaifmaa
namespace Go.Proofs.Ytidinbeanaifmaa
open Go.RowKit

section
variable {w : World} {B : Nat} {A : Option Addr} {n c : Nat} {l : List UInt8}

set_option maxHeartbeats 400000 in
theorem wOpen_any (hr : Rb w B A n l) (hB : B ≤ w.heap.size) (hn : n ≤ 70368744177000) :
    Calls Try.prog 48 #[.slice A n c] w fun e w' => ∃ p, e = .returned (.pointer (some ⟨p, 0, none⟩)) ∧ WRd w' p l 0 ∧ w.heap.size ≤ p ∧ Below w.heap.size w w' := by
  have HR := Lib.hid hr
  clear hr
  go_enter Try.func48, Try.ntmps48
  go_wp2_with fail
  refine (copyOf_any A n c l 0 B w HR.out hB (by omega) (by omega) (by omega)).mono ?_
  rintro e w1 ⟨v, rfl, hown, hb⟩
  obtain ⟨A', c', rfl, hnc, hcm⟩ := own_form hown
  unfold maxLen at hcm
  have H1 := Lib.hid hown
  have H2 := Lib.hid hb
  clear hown hb
  go_wp2
  go_ret
  exact ⟨_, rfl, ⟨A', n, c', l, Bk.new _ _ _, (Ow.of_own H1.out).below (Below.alloc (Below.refl _ _) (Nat.le_refl _) _), hnc, by omega, fun _ => rfl⟩, H2.out.size, H2.out.alloc H2.out.size _⟩

set_option maxHeartbeats 400000 in
theorem rOpen_any (hr : Rb w B A n l) (hB : B ≤ w.heap.size) (hn : n ≤ 70368744177000) :
    Calls Try.prog 49 #[.slice A n c] w fun e w' => ∃ p, e = .returned (.pointer (some ⟨p, 0, none⟩)) ∧ RRd w' p l 0 ∧ w.heap.size ≤ p ∧ Below w.heap.size w w' := by
  obtain ⟨i, hi, hz, hs, hb⟩ := info_parts Try.infob
  have HR := Lib.hid hr
  clear hr
  go_enter Try.func49, Try.ntmps49
  go_wp2_with (at_builtin; refine wpList_append_b8 rfl _ _ 50 rfl w.heap.size 5 i (.int .u8 0) Try.underlying50 hi hz hs hb rfl _ 0 [] rfl (own_empty w 5) B A n c l rfl (HR.out.alloc hB _) ?_ ?_ ?_)
  · omega
  · simp
  · intro v w1 hown hg
    have hown' : w1.ownsRow w.heap.size 5 1 v n (l.map b8) := by simpa using hown
    have hbl : Below w.heap.size w w1 := ((Below.refl _ _).alloc (Nat.le_refl _) _).grown hg (by simp) (fun k hk => by simp [Value.ownBlock] at hk; omega)
    obtain ⟨A', c', rfl, hnc, hcm⟩ := own_form hown'
    unfold maxLen at hcm
    have H1 := Lib.hid hown'
    have H2 := Lib.hid hbl
    clear hown hown' hg hbl
    go_wp2
    go_ret
    exact ⟨_, rfl, ⟨A', n, c', l, Bk.new _ _ _, (Ow.of_own H1.out).below (Below.alloc (Below.refl _ _) (Nat.le_refl _) _), hnc, by omega, fun _ => rfl⟩, H2.out.size, H2.out.alloc H2.out.size _⟩

/-- a bool, and nothing but draws -/
def Draws (x : Value) (w : World) (e : Ending) (w' : World) : Prop := e = .returned x ∧ ∃ k, w' = w.drewN k

end
end Go.Proofs.Ytidinbeanaifmaa
namespace Go.Proofs.Ytidinbeanaifmaa
open Go.RowKit

theorem below_drewN {B : Nat} {a w : World} (h : Below B a w) (k : Nat) : Below B a (w.drewN k) := ⟨h.os, h.tape, h.output, h.size, h.block⟩
theorem below_only {B q : Nat} {a w w' : World} (h : Below B a w) (hg : w.grownBy w' (some q)) (hB : B ≤ w.heap.size) (hq : B ≤ q) : Below B a w' :=
  h.grown hg hB (fun k hk => by injection hk with hk; omega)
theorem Rb.lit (w : World) (t : TypeId) (l : List UInt8) : Rb (w.alloc (.cells (l.map b8).toArray t)) (w.heap.size + 1) (some ⟨w.heap.size, 0, none⟩) l.length l := by
  refine ⟨rfl, fun _ => ⟨w.heap.size, 0, rfl, by omega, fun j d hj => ?_⟩⟩
  rw [Nat.zero_add, World.cell?_alloc_at _ _ _ _ rfl]
  simp [hj]
theorem Rb.own {w : World} {base : Nat} {e : TypeId} {A : Option Addr} {c n : Nat} {l : List UInt8} (h : w.ownsRow base e 1 (.slice A n c) n (l.map b8)) : Rb w w.heap.size A n l := Rb.of_own h
theorem Rb.nil0 (w : World) (B : Nat) : Rb w B none 0 [] := ⟨rfl, fun h => absurd rfl h⟩

section
variable {w w' : World} {p q : Nat} {l : List UInt8} {e : Int} {t : TypeId} {cs : Array Value}
theorem WRd.below (h : WRd w p l e) (hb : Below w.heap.size w w') : WRd w' p l e := by
  obtain ⟨A, n, c, l0, hk, ho, r⟩ := h
  exact ⟨A, n, c, l0, hk.below hb hk.lt, ho.below hb, r⟩
theorem RRd.below (h : RRd w p l e) (hb : Below w.heap.size w w') : RRd w' p l e := by
  obtain ⟨A, n, c, l0, hk, ho, r⟩ := h
  exact ⟨A, n, c, l0, hk.below hb hk.lt, ho.below hb, r⟩
theorem WRd.other (h : WRd w p l e) (hk : Bk w q t cs) (ht : t ≠ 5) (hpq : p ≠ q) (hg : w.grownBy w' (some q)) : WRd w' p l e := by
  obtain ⟨A, n, c, l0, hb, ho, r⟩ := h
  exact ⟨A, n, c, l0, hb.grown hg (fun e => hpq (by injection e)), ho.grown hk ht hg, r⟩
theorem RRd.other (h : RRd w p l e) (hk : Bk w q t cs) (ht : t ≠ 5) (hpq : p ≠ q) (hg : w.grownBy w' (some q)) : RRd w' p l e := by
  obtain ⟨A, n, c, l0, hb, ho, r⟩ := h
  exact ⟨A, n, c, l0, hb.grown hg (fun e => hpq (by injection e)), ho.grown hk ht hg, r⟩
theorem WRd.otherW {l' : List UInt8} {e' : Int} (h : WRd w p l e) (k : WRd w q l' e') (hpq : p ≠ q) (hg : w.grownBy w' (some q)) : WRd w' p l e := by
  obtain ⟨_, _, _, _, hk, _⟩ := k
  exact h.other hk (by decide) hpq hg
theorem WRd.otherR {l' : List UInt8} {e' : Int} (h : WRd w p l e) (k : RRd w q l' e') (hpq : p ≠ q) (hg : w.grownBy w' (some q)) : WRd w' p l e := by
  obtain ⟨_, _, _, _, hk, _⟩ := k
  exact h.other hk (by decide) hpq hg
theorem RRd.otherW {l' : List UInt8} {e' : Int} (h : RRd w p l e) (k : WRd w q l' e') (hpq : p ≠ q) (hg : w.grownBy w' (some q)) : RRd w' p l e := by
  obtain ⟨_, _, _, _, hk, _⟩ := k
  exact h.other hk (by decide) hpq hg
theorem WRd.lt (h : WRd w p l e) : p < w.heap.size := by
  obtain ⟨_, _, _, _, hk, _⟩ := h
  exact hk.lt
theorem RRd.lt (h : RRd w p l e) : p < w.heap.size := by
  obtain ⟨_, _, _, _, hk, _⟩ := h
  exact hk.lt
theorem WRd.ne_ {l' : List UInt8} {e' : Int} (h : WRd w p l e) (k : RRd w q l' e') : p ≠ q := by
  obtain ⟨_, _, _, _, hk, _⟩ := h
  obtain ⟨_, _, _, _, hk', _⟩ := k
  exact hk.ne_ hk' (by decide)
end

end Go.Proofs.Ytidinbeanaifmaa
namespace Go.Proofs.Ytidinbeanaifmaa
open Go.RowKit

/-- what every law's walk says: true, and nothing that was there has turned -/
def Holds (w : World) (e : Ending) (w' : World) : Prop := e = .returned (.bool true) ∧ Below w.heap.size w w'

theorem enc_inj_len {m n : Int} (h1 : -9223372036854775808 ≤ m) (h2 : m ≤ 9223372036854775807) (h3 : -9223372036854775808 ≤ n) (h4 : n ≤ 9223372036854775807) (h : enc m = (enc n).take (enc m).length) : m = n := by
  obtain ⟨r, hr⟩ : ∃ r, enc n = enc m ++ r := ⟨(enc n).drop (enc m).length, by
    have h5 := (List.take_append_drop (enc m).length (enc n)).symm
    rw [← h] at h5
    exact h5⟩
  have e1 := sz_enc h1 h2 r
  have e2 := sz_enc h3 h4 []
  rw [List.append_nil, hr, e1.1] at e2
  have hl : (enc m).length = (enc m ++ r).length := by injection e2.1
  have hr0 : r = [] := by
    rw [List.length_append] at hl
    exact List.eq_nil_of_length_eq_zero (by omega)
  rw [hr0, List.append_nil] at hr
  have e3 := (sz_enc h3 h4 []).2
  rw [hr, e1.2] at e3
  rw [← unz_zig m, e3, unz_zig]
theorem prefix_iff {m n : Int} (h1 : -9223372036854775808 ≤ m) (h2 : m ≤ 9223372036854775807) (h3 : -9223372036854775808 ≤ n) (h4 : n ≤ 9223372036854775807) :
    (enc m == (enc n).take (enc m).length) = (m == n) := by
  rw [Bool.eq_iff_iff, beq_iff_eq, beq_iff_eq]
  constructor
  · exact enc_inj_len h1 h2 h3 h4
  · rintro rfl; rw [List.take_length]

/-- a result that owns bytes, its length under a name of its own -/
theorem own_named {w w' : World} {l : List UInt8} {e : Ending} (h : OwnRes w l e w') :
    ∃ A n c, e = .returned (.slice A n c) ∧ Hid (l.length = n) ∧ n ≤ c ∧ c ≤ 9223372036854775807 ∧ Hid (Rb w' w'.heap.size A n l) ∧ Hid (w'.ownsRow w.heap.size 5 1 (.slice A n c) n (l.map b8)) ∧ Hid (Below w.heap.size w w') := by
  obtain ⟨v, rfl, hown, hb⟩ := h
  obtain ⟨A, c, rfl, h1, h2⟩ := own_form hown
  unfold maxLen at h2
  exact ⟨A, _, c, rfl, rfl, h1, by omega, Rb.own hown, hown, hb⟩
theorem PutInt_nil (x : Int) (w : World) (h1 : -9223372036854775808 ≤ x) (h2 : x ≤ 9223372036854775807) : Calls Try.prog 131 #[.slice none 0 0, .int .i64 x] w (OwnRes w (enc x)) :=
  PutInt_any none 0 0 [] 0 w x (Rb.nil0 _ _) (Nat.zero_le _) (by omega) h1 h2
theorem refPutInt_nil (x : Int) (w : World) (h1 : -9223372036854775808 ≤ x) (h2 : x ≤ 9223372036854775807) : Calls Try.prog 108 #[.slice none 0 0, .int .i64 x] w (OwnRes w (enc x)) :=
  refPutInt_any none 0 0 [] 0 w x (Rb.nil0 _ _) (Nat.zero_le _) (by omega) h1 h2
end Go.Proofs.Ytidinbeanaifmaa
namespace Go.Proofs.Ytidinbeanaifmaa
open Go.RowKit

theorem textR_enc (s r : List UInt8) (most : Int) (h : (s.length : Int) ≤ most) (hs : s.length ≤ 9223372036854775807) : textR (encText s ++ r) most = (s, r, 0) := by
  have hi := intR_enc (low := 0) (high := most) (n := (s.length : Int)) (by omega) (by omega) (s ++ r)
  rw [if_neg (by omega)] at hi
  unfold textR encText
  rw [List.append_assoc, hi]
  simp only [ne_eq, not_true_eq_false, ↓reduceIte, Int.toNat_natCast]
  rw [if_neg (by rw [List.length_append]; omega), List.take_left, List.drop_left]
theorem boolR_enc (y : Bool) (r : List UInt8) : boolR (boolBytes y ++ r) = (y, r, 0) := by
  cases y <;> rfl
theorem str_back (s : ByteArray) : (⟨s.data.toList.toArray⟩ : ByteArray) = s := by
  cases s; simp

end Go.Proofs.Ytidinbeanaifmaa
namespace Go.Proofs.Ytidinbeanaifmaa
open Go.RowKit

/-- the three reads, whatever the error is -/
def intS (l : List UInt8) (e low high : Int) : Int × List UInt8 × Int := if e = 0 then intR l low high else (0, l, e)
def textS (l : List UInt8) (e most : Int) : List UInt8 × List UInt8 × Int := if e = 0 then textR l most else ([], l, e)
def boolS (l : List UInt8) (e : Int) : Bool × List UInt8 × Int := if e = 0 then boolR l else (false, l, e)

section
variable {w : World} {p q : Nat} {l : List UInt8} {e : Int}
theorem wInt_any (low high : Int) (h : WRd w p l e) : Calls Try.prog 135 #[.pointer (some ⟨p, 0, none⟩), .int .i64 low, .int .i64 high] w
    (Turns (.int .i64 (intS l e low high).1) w p fun w' => WRd w' p (intS l e low high).2.1 (intS l e low high).2.2) := by
  unfold intS
  by_cases he : e = 0
  · subst he; rw [if_pos rfl]; exact wInt_ok low high h
  · rw [if_neg he]; exact wInt_err low high h he
theorem rInt_any (low high : Int) (h : RRd w p l e) : Calls Try.prog 138 #[.pointer (some ⟨p, 0, none⟩), .int .i64 low, .int .i64 high] w
    (Turns (.int .i64 (intS l e low high).1) w p fun w' => RRd w' p (intS l e low high).2.1 (intS l e low high).2.2) := by
  unfold intS
  by_cases he : e = 0
  · subst he; rw [if_pos rfl]; exact rInt_ok low high h
  · rw [if_neg he]; exact rInt_err low high h he
theorem wText_any (most : Int) (h : WRd w p l e) : Calls Try.prog 136 #[.pointer (some ⟨p, 0, none⟩), .int .i64 most] w
    (Turns (.string ⟨(textS l e most).1.toArray⟩) w p fun w' => WRd w' p (textS l e most).2.1 (textS l e most).2.2) := by
  unfold textS
  by_cases he : e = 0
  · subst he; rw [if_pos rfl]; exact wText_ok most h
  · rw [if_neg he]; exact wText_err most h he
theorem rText_any (most : Int) (h : RRd w p l e) : Calls Try.prog 139 #[.pointer (some ⟨p, 0, none⟩), .int .i64 most] w
    (Turns (.string ⟨(textS l e most).1.toArray⟩) w p fun w' => RRd w' p (textS l e most).2.1 (textS l e most).2.2) := by
  unfold textS
  by_cases he : e = 0
  · subst he; rw [if_pos rfl]; exact rText_ok most h
  · rw [if_neg he]; exact rText_err most h he
def failS (e x : Int) : Int := if e = 0 then x else e
theorem rFail_named (x : Int) (h : RRd w p l e) : Calls Try.prog 137 #[.pointer (some ⟨p, 0, none⟩), .int .i64 x] w (Turns (.tuple #[]) w p fun w' => RRd w' p l (failS e x)) := rFail_any x h
theorem wFail_any (x : Int) (h : WRd w p l e) : Calls Try.prog 134 #[.pointer (some ⟨p, 0, none⟩), .int .i64 x] w (Turns (.tuple #[]) w p fun w' => WRd w' p l (failS e x)) := by
  unfold failS
  by_cases he : e = 0
  · subst he; rw [if_pos rfl]; exact wFail_ok x h
  · rw [if_neg he]; exact wFail_err x h he

/-- a fourth block stays: neither reader is in it -/
theorem cell_only {w w' : World} {g p i : Nat} (hg : w.grownBy w' (some p)) (hlt : g < w.heap.size) (hne : g ≠ p) : w'.cell? ⟨g, i, none⟩ = w.cell? ⟨g, i, none⟩ :=
  World.cell?_of_block (hg.block g hlt (fun e => hne (by injection e)))

/-- both readers after both calls, in either order -/
def Fin (w w' : World) (p q : Nat) (l' : List UInt8) (e' : Int) : Prop :=
  WRd w' p l' e' ∧ RRd w' q l' e' ∧ ∀ B, B ≤ p → B ≤ q → B ≤ w.heap.size → Below B w w'
theorem fin_AB {w W wA wB : World} {l1 : List UInt8} {e1 : Int} (hb : Below w.heap.size w W) (P : WRd W p l e) (Q : RRd W q l e) (hA : W.grownBy wA (some p)) (hB : wA.grownBy wB (some q)) (PA : WRd wA p l1 e1) (QB : RRd wB q l1 e1) : Fin w wB p q l1 e1 :=
  ⟨PA.otherR (Q.otherW P (fun h => P.ne_ Q h.symm) hA) (P.ne_ Q) hB, QB, fun _ h1 h2 h3 =>
    below_only (below_only (hb.mono h3) hA (Nat.le_trans h3 hb.size) h1) hB (Nat.le_trans (Nat.le_trans h3 hb.size) hA.size) h2⟩
theorem fin_BA {w W wA wB : World} {l1 : List UInt8} {e1 : Int} (hb : Below w.heap.size w W) (P : WRd W p l e) (Q : RRd W q l e) (hB : W.grownBy wB (some q)) (hA : wB.grownBy wA (some p)) (PA : WRd wA p l1 e1) (QB : RRd wB q l1 e1) : Fin w wA p q l1 e1 :=
  ⟨PA, QB.otherW (P.otherR Q (P.ne_ Q) hB) (fun h => P.ne_ Q h.symm) hA, fun _ h1 h2 h3 =>
    below_only (below_only (hb.mono h3) hB (Nat.le_trans h3 hb.size) h2) hA (Nat.le_trans (Nat.le_trans h3 hb.size) hB.size) h1⟩

/-- what play says -/
def Plays (w : World) (p q : Nat) (e1 : Ending) (w' : World) : Prop := e1 = .returned (.bool true) ∧ ∃ l' e', Fin w w' p q l' e'

end
end Go.Proofs.Ytidinbeanaifmaa
namespace Go.Proofs.Ytidinbeanaifmaa
open Go.RowKit

theorem LiesS.at_ {w : World} {R : Nat → Prop} {A : Option Addr} {ks : List ByteArray} {j : Nat} (h : LiesS w R A ks) (hj : j < ks.length) :
    (ks.getD j ByteArray.empty).size ≤ 9223372036854775807 ∧ ∃ g o, A = some ⟨g, o, none⟩ ∧ R g ∧ w.cell? ⟨g, o + j, none⟩ = some (.string (ks.getD j ByteArray.empty)) := by
  have e : ks[j]? = some (ks.getD j ByteArray.empty) := by rw [List.getD_eq_getElem?_getD, List.getElem?_eq_getElem hj]; rfl
  exact h j _ e

set_option maxHeartbeats 400000 in
theorem ascending_any (A : Option Addr) (c : Nat) (ks : List ByteArray) (w : World) (hS : LiesS w (Lo w) A ks) (hc : ks.length ≤ c) (hm : c ≤ 9223372036854775807) :
    Calls Try.prog 60 #[.slice A ks.length c] w (Gives (.bool (rising ks)) w) := by
  have HS := Lib.hid hS
  clear hS
  obtain ⟨n, hn⟩ : ∃ n, n = ks.length := ⟨_, rfl⟩
  rw [← hn] at hc ⊢
  have HN := Lib.hid hn
  clear hn
  go_enter Try.func60, Try.ntmps60
  go_wp2
  go_loopw [3] (fun t wr => ∃ j q : Nat, 1 ≤ j ∧ (j ≤ n ∨ j = 1) ∧ t = .int .i64 j ∧ wr = w.drewN q ∧ Hid (risingTo ks (j - 1) = true)) (fun t _ => n - (intOf t).toNat)
  case atStart => exact ⟨1, 0, by omega, by omega, rfl, rfl, Lib.hid rfl⟩
  case round =>
    obtain ⟨j, q, h1, hjn, rfl, rfl, hr⟩ := hrel
    by_cases hlt : j < n
    · obtain ⟨_, g, o, rfl, hg, e0⟩ := HS.out.at_ (j := j) (by rw [← HN.out]; exact hlt)
      obtain ⟨_, g', o', he, hg', e1⟩ := HS.out.at_ (j := j - 1) (by rw [← HN.out]; omega)
      injection he with he
      injection he with he1 he2
      subst he1 he2
      obtain ⟨i, rfl⟩ : ∃ i, j = i + 1 := ⟨j - 1, by omega⟩
      rw [show i + 1 - 1 = i by omega] at e1
      have hs := risingTo_succ ks i
      unfold less at hs
      rw [show i + 1 - 1 = i by omega] at hr
      rw [hr.out, Bool.true_and] at hs
      generalize ks.getD (i + 1) ByteArray.empty = y at *
      generalize ks.getD i ByteArray.empty = x at *
      rcases str_ways x y with ⟨s1, s2, s3, s4, _⟩ | ⟨he, s1, s2, s3, s4⟩ | ⟨s1, s2, s3, s4, _⟩
      · rw [s1] at hs
        have HR := Lib.hid hs
        clear hs hr
        go_wp2_with fail
        go_quiet (fail)
        go_wp2
        go_roundw
        case rel => exact ⟨i + 1 + 1, _, by omega, by omega, by go_num, rfl, Lib.hid (by simpa using HR.out)⟩
        case measure => simp [intOf]; omega
      · rw [s1] at hs
        have HR := Lib.hid (risingTo_false hs (m := ks.length - 1) (by rw [← HN.out]; omega))
        clear hs hr he
        go_wp2_with fail
        go_quiet (fail)
        go_wp2
        go_ret
        exact ⟨ret_bool HR.out.symm, below_drew (below_drew (Below.refl _ _) _) _⟩
      · rw [s1] at hs
        have HR := Lib.hid (risingTo_false hs (m := ks.length - 1) (by rw [← HN.out]; omega))
        clear hs hr
        go_wp2_with fail
        go_quiet (fail)
        go_wp2
        go_ret
        exact ⟨ret_bool HR.out.symm, below_drew (below_drew (Below.refl _ _) _) _⟩
    · have HR : Hid (rising ks = true) := Lib.hid (by
        unfold rising
        rcases hjn with hjn | hjn
        · rw [← HN.out, ← hr.out]; congr 1; omega
        · rw [← HN.out, ← hr.out]; congr 1; omega)
      go_wp2
      go_ret
      exact ⟨ret_bool HR.out.symm, below_drew (Below.refl _ _) _⟩
set_option maxHeartbeats 400000 in
theorem rising_any (A : Option Addr) (c : Nat) (ks : List ByteArray) (w : World) (hS : LiesS w (Lo w) A ks) (hc : ks.length ≤ c) (hm : c ≤ 9223372036854775807) :
    Calls Try.prog 76 #[.slice A ks.length c] w (Gives (.bool (rising ks)) w) := by
  have HS := Lib.hid hS
  clear hS
  obtain ⟨n, hn⟩ : ∃ n, n = ks.length := ⟨_, rfl⟩
  rw [← hn] at hc ⊢
  have HN := Lib.hid hn
  clear hn
  go_enter Try.func76, Try.ntmps76
  go_wp2
  go_loopw [3] (fun t wr => ∃ j q : Nat, 1 ≤ j ∧ (j ≤ n ∨ j = 1) ∧ t = .int .i64 j ∧ wr = w.drewN q ∧ Hid (risingTo ks (j - 1) = true)) (fun t _ => n - (intOf t).toNat)
  case atStart => exact ⟨1, 0, by omega, by omega, rfl, rfl, Lib.hid rfl⟩
  case round =>
    obtain ⟨j, q, h1, hjn, rfl, rfl, hr⟩ := hrel
    by_cases hlt : j < n
    · obtain ⟨_, g, o, rfl, hg, e0⟩ := HS.out.at_ (j := j) (by rw [← HN.out]; exact hlt)
      obtain ⟨_, g', o', he, hg', e1⟩ := HS.out.at_ (j := j - 1) (by rw [← HN.out]; omega)
      injection he with he
      injection he with he1 he2
      subst he1 he2
      obtain ⟨i, rfl⟩ : ∃ i, j = i + 1 := ⟨j - 1, by omega⟩
      rw [show i + 1 - 1 = i by omega] at e1
      have hs := risingTo_succ ks i
      unfold less at hs
      rw [show i + 1 - 1 = i by omega] at hr
      rw [hr.out, Bool.true_and] at hs
      generalize ks.getD (i + 1) ByteArray.empty = y at *
      generalize ks.getD i ByteArray.empty = x at *
      rcases str_ways x y with ⟨s1, s2, s3, s4, _⟩ | ⟨he, s1, s2, s3, s4⟩ | ⟨s1, s2, s3, s4, _⟩
      · rw [s1] at hs
        have HR := Lib.hid hs
        clear hs hr
        go_wp2_with fail
        go_quiet (fail)
        go_wp2
        go_roundw
        case rel => exact ⟨i + 1 + 1, _, by omega, by omega, by go_num, rfl, Lib.hid (by simpa using HR.out)⟩
        case measure => simp [intOf]; omega
      · rw [s1] at hs
        have HR := Lib.hid (risingTo_false hs (m := ks.length - 1) (by rw [← HN.out]; omega))
        clear hs hr he
        go_wp2_with fail
        go_quiet (fail)
        go_wp2
        go_ret
        exact ⟨ret_bool HR.out.symm, below_drew (below_drew (Below.refl _ _) _) _⟩
      · rw [s1] at hs
        have HR := Lib.hid (risingTo_false hs (m := ks.length - 1) (by rw [← HN.out]; omega))
        clear hs hr
        go_wp2_with fail
        go_quiet (fail)
        go_wp2
        go_ret
        exact ⟨ret_bool HR.out.symm, below_drew (below_drew (Below.refl _ _) _) _⟩
    · have HR : Hid (rising ks = true) := Lib.hid (by
        unfold rising
        rcases hjn with hjn | hjn
        · rw [← HN.out, ← hr.out]; congr 1; omega
        · rw [← HN.out, ← hr.out]; congr 1; omega)
      go_wp2
      go_ret
      exact ⟨ret_bool HR.out.symm, below_drew (Below.refl _ _) _⟩
end Go.Proofs.Ytidinbeanaifmaa
