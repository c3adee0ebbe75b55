/-
  Texts of layers 1 and 2, part A: contracts of the code's functions and what they lean on.
-/
import Derived.WalkKit
import Derived.Deep.Draws
import Derived.Test.YtjbjoalinfhahaaRows
import Derived.Lib.Hide
import Derived.WalkSpells
import Derived.WalkLawsBesides
import Derived.Lib.AppendStr
namespace Go.Proofs.Ytjbjoalinfhahaa
open Go.RowKit

/-- a byte as the memory has it -/
def b8 (c : UInt8) : Value := .int .u8 (c.toNat : Int)

theorem b8_one (l : List UInt8) : ∀ u ∈ l.map b8, u.oneCell' = true := by
  intro u hu
  obtain ⟨c, _, rfl⟩ := List.mem_map.1 hu
  rfl

/-- the slice value '.slice A n c' reads as the bytes l, and lies below block B -/
def Rb (w : World) (B : Nat) (A : Option Addr) (n : Nat) (l : List UInt8) : Prop :=
  l.length = n ∧ (l ≠ [] → ∃ g o, A = some ⟨g, o, none⟩ ∧ g < B ∧ ∀ (j : Nat) (c : UInt8), l[j]? = some c → w.cell? ⟨g, o + j, none⟩ = some (b8 c))

section
variable {w w' : World} {B B' n : Nat} {A : Option Addr} {l : List UInt8}
theorem Rb.len (h : Rb w B A n l) : l.length = n := h.1
theorem Rb.nil_ : Rb w B A 0 [] := ⟨rfl, fun h => absurd rfl h⟩
theorem Rb.keep (h : Rb w B A n l) (hk : ∀ p : Addr, p.block < B → w'.cell? p = w.cell? p) : Rb w' B A n l :=
  ⟨h.1, fun hn => by
    obtain ⟨g, o, e, hb, hc⟩ := h.2 hn
    exact ⟨g, o, e, hb, fun j c hj => (hk ⟨g, o + j, none⟩ hb).trans (hc j c hj)⟩⟩
theorem Rb.more (h : Rb w B A n l) (hB : B ≤ B') : Rb w B' A n l :=
  ⟨h.1, fun hn => by
    obtain ⟨g, o, e, hb, hc⟩ := h.2 hn
    exact ⟨g, o, e, by omega, hc⟩⟩
theorem Rb.below (h : Rb w B A n l) (hb : Below B w w') : Rb w' B A n l := h.keep fun _ hp => hb.cell hp
theorem Rb.alloc (h : Rb w B A n l) (hB : B ≤ w.heap.size) (o : Obj) : Rb (w.alloc o) B A n l := h.keep fun p hp => World.cell?_alloc_lt w o p (by omega)
theorem Rb.at_ {k : Nat} (h : Rb w B A n l) (hk : k < n) : ∃ g o c, A = some ⟨g, o, none⟩ ∧ g < B ∧ l[k]? = some c ∧ w.cell? ⟨g, o + k, none⟩ = some (b8 c) := by
  have hl : k < l.length := by have := h.1; omega
  obtain ⟨g, o, e, hb, hc⟩ := h.2 (by intro e; subst e; simp at hl)
  exact ⟨g, o, l[k], e, hb, List.getElem?_eq_getElem hl, hc k _ (List.getElem?_eq_getElem hl)⟩
theorem Rb.cut {k cap : Nat} (h : Rb w B A n l) (hk : k ≤ n) (hc : n ≤ cap) :
    Rb w B (if cap = k then A else A.map (·.add k)) (n - k) (l.drop k) := by
  refine ⟨by rw [List.length_drop, h.1], fun hn => ?_⟩
  have hlt : k < n := by
    have := h.1
    rcases Nat.lt_or_ge k n with h1 | h1
    · exact h1
    · exact absurd (List.drop_eq_nil_of_le (by omega)) hn
  obtain ⟨g, o, rfl, hb, hcell⟩ := h.2 (by intro e; subst e; simp at hn)
  rw [if_neg (by omega)]
  refine ⟨g, o + k, by simp [Addr.add_lit], hb, fun j c hj => ?_⟩
  rw [Nat.add_assoc]
  exact hcell _ c (by rw [← hj, List.getElem?_drop])
theorem Rb.front {k : Nat} (h : Rb w B A n l) (hk : k ≤ n) : Rb w B A k (l.take k) := by
  refine ⟨by rw [List.length_take, h.1]; omega, fun hn => ?_⟩
  obtain ⟨g, o, rfl, hb, hcell⟩ := h.2 (by intro e; subst e; simp at hn)
  refine ⟨g, o, rfl, hb, fun j c hj => hcell j c ?_⟩
  rw [List.getElem?_take] at hj
  split at hj
  · exact hj
  · cases hj
theorem Rb.of_own {base : Nat} {e : TypeId} {c : Nat} (h : w.ownsRow base e 1 (.slice A n c) n (l.map b8)) : Rb w w.heap.size A n l := by
  refine ⟨by simpa using h.1, fun hn => ?_⟩
  rcases h.2 with ⟨hv, rfl⟩ | ⟨g, cap, cur, hv, _, hg, _⟩
  · exact absurd (List.eq_nil_of_length_eq_zero (by simpa using h.1)) hn
  · have hA : A = some ⟨g, 0, none⟩ := by injection hv
    subst hA
    refine ⟨g, 0, rfl, (Array.getElem?_eq_some_iff.1 hg).1, fun j c hj => ?_⟩
    have := h.cells (g := g) rfl j (b8 c) (by rw [List.getElem?_map, hj]; rfl)
    simpa [Addr.add_lit] using this
end

/-- an owned row has the form of a slice with room for what it holds -/
theorem own_form {w : World} {base : Nat} {e : TypeId} {v : Value} {n : Nat} {xs : List Value} (h : w.ownsRow base e 1 v n xs) :
    ∃ A c, v = .slice A n c ∧ n ≤ c ∧ c ≤ maxLen := by
  rcases h.2 with ⟨rfl, rfl⟩ | ⟨g, cap, cur, rfl, _, _, h1, h2, _⟩
  · exact ⟨none, 0, rfl, Nat.le_refl _, by unfold maxLen; omega⟩
  · exact ⟨_, cap, rfl, h1, h2⟩
theorem own_len {w : World} {base : Nat} {e : TypeId} {v : Value} {n : Nat} {l : List UInt8} (h : w.ownsRow base e 1 v n (l.map b8)) : l.length = n := by
  simpa using h.1

/-- append of what may be nil onto an owned row of bytes -/
theorem run_append_b8 {P : Program} (w : World) (base t ty e : Nat) (i : TypeInfo) (z : Value) (ht : P.underlying t = some (.slice e)) (hi : P.info? e = some i) (hz : i.zero = some z)
    (hsize : i.size = 1) (hby : i.bytes = 1) (hzs : z.cells.size = 1)
    (v : Value) (n : Nat) (xs : List Value) (hown : w.ownsRow base e 1 v n xs)
    (B : Nat) (A : Option Addr) (m c : Nat) (l : List UInt8) (hr : Rb w B A m l)
    (hbytes : n + m ≤ 140737488355328) (hbase : base ≤ w.heap.size) :
    ∃ v' w', (Builtin.append_ #[t, t] ty #[v, .slice A m c]).run P w = .ok v' w' ∧ w'.ownsRow base e 1 v' (n + m) (xs ++ l.map b8) ∧ w.grownBy w' v.ownBlock := by
  have hlen := hr.1
  by_cases hl : l = []
  · subst hl
    obtain rfl : m = 0 := by simpa using hlen.symm
    cases A with
    | none =>
      refine ⟨v, w, ?_, by simpa using hown, World.grownBy.refl w _⟩
      rcases hown.2 with ⟨rfl, rfl⟩ | ⟨g, cap, cur, rfl, _, _, hnc, _⟩
      · simp [Builtin.append_, run_underlying ht, sizeOf, typeInfo, hi, Builtin.lenOf, Builtin.firstCells]
      · simp [Builtin.append_, run_underlying ht, sizeOf, typeInfo, hi, Builtin.lenOf, Builtin.firstCells, hnc, storeCells]
    | some a =>
      obtain ⟨v', w', h1, h2, h3, _⟩ := run_append_own (P := P) w base t ty e i z 1 1 ht hi hz hsize hby hzs (by decide) v n xs hown a 0 c [] rfl (by simp) (by simp) (by unfold maxLen; omega) (by omega) hbase
      exact ⟨v', w', h1, by simpa using h2, h3⟩
  · obtain ⟨g, o, rfl, _, hc⟩ := hr.2 hl
    obtain ⟨v', w', h1, h2, h3, _⟩ := run_append_own (P := P) w base t ty e i z 1 1 ht hi hz hsize hby hzs (by decide) v n xs hown ⟨g, o, none⟩ m c (l.map b8) (by simp [hlen])
      (fun j u hu => by
        rw [List.getElem?_map] at hu
        cases hj : l[j]? with
        | none => rw [hj] at hu; cases hu
        | some c => rw [hj] at hu; simp at hu; subst hu; rw [Addr.add_lit]; exact hc j c hj) (b8_one l) (by unfold maxLen; omega) (by omega) hbase
    exact ⟨v', w', h1, h2, h3⟩

theorem wpList_append_b8 {P : Program} {w : World} {ops : Array Oper} {rest : List Oper} {o : Oper} {a : Act} {Q : Exit → Act → World → Prop} (hgd : o.guard = none) (s x : Operand) (t : TypeId)
    (ho : o.op = .call { callee := .builtin .append, args := #[s, x], argTypes := #[t, t] })
    (base e : Nat) (i : TypeInfo) (z : Value) (ht : P.underlying t = some (.slice e)) (hi : P.info? e = some i) (hz : i.zero = some z)
    (hsize : i.size = 1) (hby : i.bytes = 1) (hzs : z.cells.size = 1)
    (v : Value) (n : Nat) (xs : List Value) (hs : a.eval s = v) (hown : w.ownsRow base e 1 v n xs)
    (B : Nat) (A : Option Addr) (m c : Nat) (l : List UInt8) (hx : a.eval x = .slice A m c) (hr : Rb w B A m l)
    (hbytes : n + m ≤ 140737488355328) (hbase : base ≤ w.heap.size)
    (h : ∀ v' w', w'.ownsRow base e 1 v' (n + m) (xs ++ l.map b8) → w.grownBy w' v.ownBlock → wpList P ops Q rest (a.put o.dst v') w') : wpList P ops Q (o :: rest) a w := by
  refine wpList_plain hgd fun K hK => ?_
  obtain ⟨v', w', hrun, h2, h3⟩ := run_append_b8 (P := P) w base t o.type e i z ht hi hz hsize hby hzs v n xs hown B A m c l hr hbytes hbase
  unfold Oper.wp execOp
  simp only [ho, resolve, invoke, builtin, Sem.run_bind, Sem.run_pure, Result.andThen_ok, List.map_toArray, List.map_cons, List.map_nil, hs, hx, hrun]
  exact hK _ _ (h v' w' h2 h3)

/-- a block that is known whole -/
def Bk (w : World) (g : Nat) (t : TypeId) (cs : Array Value) : Prop := w.heap[g]? = some (.cells cs t (0, 0))
section
variable {w w' : World} {g : Nat} {t : TypeId} {cs : Array Value}
theorem Bk.lt (h : Bk w g t cs) : g < w.heap.size := (Array.getElem?_eq_some_iff.1 h).1
theorem Bk.cell (h : Bk w g t cs) (i : Nat) : w.cell? ⟨g, i, none⟩ = cs[i]? := cell_of_row w g i cs t (0, 0) h
theorem Bk.frozen (h : Bk w g t cs) (i : Nat) : w.frozen? ⟨g, i, none⟩ = false := by
  unfold Bk at h
  simp [World.frozen?, h]
theorem Bk.new (w : World) (t : TypeId) (cs : Array Value) : Bk (w.alloc (.cells cs t)) w.heap.size t cs := heap_alloc_new w _
theorem Bk.alloc (h : Bk w g t cs) (o : Obj) : Bk (w.alloc o) g t cs := (Below.heap_alloc w o g h.lt).trans h
theorem Bk.put (h : Bk w g t cs) (i : Nat) (u : Value) : Bk (w.setCell ⟨g, i, none⟩ u) g t (cs.setIfInBounds i u) := by
  unfold Bk at h ⊢
  simp [World.setCell, Array.getElem?_modify, h]
theorem Bk.far (h : Bk w g t cs) {p : Addr} (hp : g ≠ p.block) (u : Value) : Bk (w.setCell p u) g t cs := (Below.heap_setCell w p u g hp).trans h
theorem Bk.below {B : Nat} (h : Bk w g t cs) (hb : Below B w w') (hg : g < B) : Bk w' g t cs := (hb.block g hg).trans h
theorem Bk.grown {row : Option Nat} (h : Bk w g t cs) (hb : w.grownBy w' row) (hg : some g ≠ row) : Bk w' g t cs := (hb.block g h.lt hg).trans h
theorem Bk.ne_ {g' : Nat} {t' : TypeId} {cs' : Array Value} (h : Bk w g t cs) (h' : Bk w g' t' cs') (hne : t ≠ t') : g ≠ g' := by
  rintro rfl
  unfold Bk at h h'
  rw [h] at h'
  injection h' with h'
  injection h' with _ ht
  exact hne ht
end
end Go.Proofs.Ytjbjoalinfhahaa
/-
  The encoding of layer 1 as plain functions on lists of bytes. No program is named here.
-/
namespace Go.Proofs.Ytjbjoalinfhahaa

/-- the unsigned number of an integer -/
def zig (n : Int) : Nat := if 0 ≤ n then (2 * n).toNat else (-2 * n - 1).toNat
/-- the integer of an unsigned number -/
def unz (u : Nat) : Int := if u % 2 = 1 then -((u / 2 : Nat) : Int) - 1 else ((u / 2 : Nat) : Int)
theorem zig_pos {n : Int} (h : 0 ≤ n) : zig n = (2 * n).toNat := by unfold zig; rw [if_pos h]
theorem zig_neg {n : Int} (h : n < 0) : zig n = (-2 * n - 1).toNat := by unfold zig; rw [if_neg (by omega)]
theorem unz_zig (n : Int) : unz (zig n) = n := by
  unfold unz zig
  split <;> split <;> omega
theorem zig_unz (u : Nat) : zig (unz u) = u := by
  unfold unz zig
  split <;> split <;> omega
theorem zig_lt {n : Int} (h1 : -9223372036854775808 ≤ n) (h2 : n ≤ 9223372036854775807) : zig n < 18446744073709551616 := by
  unfold zig
  split <;> omega
theorem unz_in {u : Nat} (h : u < 18446744073709551616) : -9223372036854775808 ≤ unz u ∧ unz u ≤ 9223372036854775807 := by
  unfold unz
  split <;> omega

/-- groups of seven bits, the lowest first -/
def grp : Nat → Nat → List UInt8
  | 0, _ => []
  | f + 1, u => if u < 128 then [UInt8.ofNat u] else UInt8.ofNat (u % 128 + 128) :: grp f (u / 128)
theorem grp_last {f u : Nat} (h : u < 128) : grp (f + 1) u = [UInt8.ofNat u] := by rw [grp, if_pos h]
theorem grp_more {f u : Nat} (h : 128 ≤ u) : grp (f + 1) u = UInt8.ofNat (u % 128 + 128) :: grp f (u / 128) := by rw [grp, if_neg (by omega)]
theorem grp_len (f u : Nat) : (grp f u).length ≤ f := by
  induction f generalizing u with
  | zero => simp [grp]
  | succ f ih =>
    rw [grp]
    split
    · simp
    · have := ih (u / 128); simp; omega
theorem grp_pos (f u : Nat) : grp (f + 1) u ≠ [] := by
  rw [grp]
  split <;> simp

/-- the encoding of an integer -/
def enc (n : Int) : List UInt8 := grp 10 (zig n)
theorem enc_len (n : Int) : (enc n).length ≤ 10 := grp_len _ _

/-- how many bytes the integer at the front takes, and the error; i bytes have been looked at -/
def szAt : Nat → List UInt8 → Nat × Int
  | i, [] => if 10 ≤ i then (0, 3) else (0, 4)
  | i, c :: r => if 10 ≤ i then (0, 3) else if 128 ≤ c.toNat then szAt (i + 1) r else if (0 < i ∧ c.toNat = 0) ∨ (i = 9 ∧ 1 < c.toNat) then (0, 3) else (i + 1, 0)
/-- the number whose groups these are -/
def val : List UInt8 → Nat
  | [] => 0
  | c :: r => c.toNat % 128 + 128 * val r

theorem szAt_end {i : Nat} {l : List UInt8} (h : 10 ≤ i) : szAt i l = (0, 3) := by
  cases l with
  | nil => rw [szAt, if_pos h]
  | cons c r => rw [szAt, if_pos h]
theorem szAt_nil {i : Nat} (h : i < 10) : szAt i [] = (0, 4) := by rw [szAt, if_neg (by omega)]
theorem szAt_on {i : Nat} {c : UInt8} {r : List UInt8} (h : i < 10) (hc : 128 ≤ c.toNat) : szAt i (c :: r) = szAt (i + 1) r := by rw [szAt, if_neg (by omega), if_pos hc]
theorem szAt_bad {i : Nat} {c : UInt8} {r : List UInt8} (h : i < 10) (hc : c.toNat < 128) (hb : (0 < i ∧ c.toNat = 0) ∨ (i = 9 ∧ 1 < c.toNat)) : szAt i (c :: r) = (0, 3) := by
  rw [szAt, if_neg (by omega), if_neg (by omega), if_pos hb]
theorem szAt_ok {i : Nat} {c : UInt8} {r : List UInt8} (h : i < 10) (hc : c.toNat < 128) (hb : ¬((0 < i ∧ c.toNat = 0) ∨ (i = 9 ∧ 1 < c.toNat))) : szAt i (c :: r) = (i + 1, 0) := by
  rw [szAt, if_neg (by omega), if_neg (by omega), if_neg hb]

/-- what szAt says, in one piece: the error is one of three; without an error the size is above i, within the list and at most ten -/
theorem szAt_facts (i : Nat) (l : List UInt8) : ((szAt i l).2 = 0 ∧ i < (szAt i l).1 ∧ (szAt i l).1 ≤ i + l.length ∧ (szAt i l).1 ≤ 10) ∨ ((szAt i l).1 = 0 ∧ ((szAt i l).2 = 3 ∨ (szAt i l).2 = 4)) := by
  induction l generalizing i with
  | nil =>
    by_cases h : 10 ≤ i
    · rw [szAt_end h]; simp
    · rw [szAt_nil (by omega)]; simp
  | cons c r ih =>
    by_cases h : 10 ≤ i
    · rw [szAt_end h]; simp
    by_cases hc : 128 ≤ c.toNat
    · rw [szAt_on (by omega) hc]
      rcases ih (i + 1) with ⟨h1, h2, h3, h4⟩ | h1
      · left
        refine ⟨h1, by omega, by simp; omega, h4⟩
      · right; exact h1
    · by_cases hb : (0 < i ∧ c.toNat = 0) ∨ (i = 9 ∧ 1 < c.toNat)
      · rw [szAt_bad (by omega) (by omega) hb]; simp
      · rw [szAt_ok (by omega) (by omega) hb]; left; refine ⟨rfl, by simp, by simp only [List.length_cons]; omega, by omega⟩

theorem u8_nat (n : Nat) (h : n < 256) : (UInt8.ofNat n).toNat = n := by simp; omega
theorem u8_eq {a b : UInt8} (h : a.toNat = b.toNat) : a = b := UInt8.toNat_inj.1 h

/-- what the groups encode is read back, whatever follows; the first group is at place i -/
theorem szAt_grp (f : Nat) : ∀ (i u : Nat) (r : List UInt8), i + f = 10 → u * 128 ^ i < 18446744073709551616 → (0 < i → 0 < u) →
    szAt i (grp f u ++ r) = (i + (grp f u).length, 0) ∧ val (grp f u) = u := by
  induction f with
  | zero =>
    intro i u r hi hu h0
    obtain rfl : i = 10 := by omega
    have : 0 < u := h0 (by omega)
    exfalso
    have h1 : 1 * 128 ^ 10 ≤ u * 128 ^ 10 := Nat.mul_le_mul_right _ this
    omega
  | succ f ih =>
    intro i u r hi hu h0
    by_cases hs : u < 128
    · rw [grp_last hs]
      have hn := u8_nat u (by omega)
      have hb : ¬((0 < i ∧ (UInt8.ofNat u).toNat = 0) ∨ (i = 9 ∧ 1 < (UInt8.ofNat u).toNat)) := by
        rw [hn]
        rintro (⟨h1, h2⟩ | ⟨h1, h2⟩)
        · have := h0 h1; omega
        · subst h1
          have h1 : 2 * 128 ^ 9 ≤ u * 128 ^ 9 := Nat.mul_le_mul_right _ (by omega)
          omega
      refine ⟨?_, by simp only [val]; rw [hn]; omega⟩
      rw [List.singleton_append, szAt_ok (by omega) (by rw [hn]; omega) hb]
      simp
    · have h1 : 128 ≤ u := by omega
      rw [grp_more h1]
      have hn := u8_nat (u % 128 + 128) (by omega)
      have hlt : i < 9 := by
        rcases Nat.lt_or_ge i 9 with h | h
        · exact h
        · exfalso
          obtain rfl : i = 9 := by omega
          have h2 : 128 * 128 ^ 9 ≤ u * 128 ^ 9 := Nat.mul_le_mul_right _ h1
          omega
      have hq : u / 128 * 128 ^ (i + 1) < 18446744073709551616 := by
        refine Nat.lt_of_le_of_lt ?_ hu
        rw [Nat.pow_succ, Nat.mul_comm (128 ^ i) 128, ← Nat.mul_assoc]
        exact Nat.mul_le_mul_right _ (Nat.div_mul_le_self _ _)
      obtain ⟨ha, hv⟩ := ih (i + 1) (u / 128) r (by omega) hq (fun _ => by omega)
      refine ⟨?_, by simp only [val]; rw [hn, hv]; omega⟩
      rw [List.cons_append, szAt_on (by omega) (by rw [hn]; omega), ha]
      simp; omega

/-- bytes that are read without an error are the groups of what they encode -/
theorem grp_szAt (l : List UInt8) : ∀ (i : Nat), i ≤ 10 → (szAt i l).2 = 0 →
    grp (10 - i) (val (l.take ((szAt i l).1 - i))) = l.take ((szAt i l).1 - i) ∧ val (l.take ((szAt i l).1 - i)) * 128 ^ i < 18446744073709551616 ∧ (0 < i → 0 < val (l.take ((szAt i l).1 - i))) := by
  induction l with
  | nil =>
    intro i hi h
    by_cases h10 : 10 ≤ i
    · rw [szAt_end h10] at h; simp at h
    · rw [szAt_nil (by omega)] at h; simp at h
  | cons c r ih =>
    intro i hi h
    by_cases h10 : 10 ≤ i
    · rw [szAt_end h10] at h; simp at h
    obtain ⟨f, hf⟩ : ∃ f, 10 - i = f + 1 := ⟨9 - i, by omega⟩
    by_cases hc : 128 ≤ c.toNat
    · rw [szAt_on (by omega) hc] at h ⊢
      obtain ⟨h1, h2, h3⟩ := ih (i + 1) (by omega) h
      have hf' : 10 - (i + 1) = f := by omega
      rw [hf'] at h1
      rcases szAt_facts (i + 1) r with ⟨_, h4, _⟩ | ⟨_, h4⟩
      · obtain ⟨k, hk⟩ : ∃ k, (szAt (i + 1) r).1 - i = k + 1 := ⟨(szAt (i + 1) r).1 - i - 1, by omega⟩
        have hk' : (szAt (i + 1) r).1 - (i + 1) = k := by omega
        rw [hk'] at h1 h2 h3
        rw [hk, hf, List.take_succ_cons]
        have hlt := c.toNat_lt
        have hv : val (c :: r.take k) = c.toNat % 128 + 128 * val (r.take k) := rfl
        have hp := h3 (by omega)
        refine ⟨?_, ?_, fun _ => by rw [hv]; omega⟩
        · rw [grp_more (by rw [hv]; omega), hv]
          have e1 : (c.toNat % 128 + 128 * val (r.take k)) / 128 = val (r.take k) := by omega
          have e2 : UInt8.ofNat ((c.toNat % 128 + 128 * val (r.take k)) % 128 + 128) = c := u8_eq (by rw [u8_nat _ (by omega)]; omega)
          rw [e1, e2, h1]
        · rw [hv]
          have h5 : (val (r.take k) + 1) * 128 ^ (i + 1) ≤ 18446744073709551616 := by
            have hi9 : i ≤ 8 ∨ i = 9 := by omega
            have e : (18446744073709551616 : Nat) = 2 ^ 64 := by decide
            have e2 : 128 ^ (i + 1) = 2 ^ (7 * (i + 1)) := by rw [show (128 : Nat) = 2 ^ 7 from rfl, ← Nat.pow_mul]
            rw [e, e2] at h2 ⊢
            rcases hi9 with h9 | h9
            · have e3 : (2 : Nat) ^ 64 = 2 ^ (64 - 7 * (i + 1)) * 2 ^ (7 * (i + 1)) := by rw [← Nat.pow_add]; congr 1; omega
              rw [e3] at h2 ⊢
              exact Nat.mul_le_mul_right _ (Nat.lt_of_mul_lt_mul_right h2)
            · subst h9
              omega
          have h6 : (c.toNat % 128 + 128 * val (r.take k)) * 128 ^ i < (val (r.take k) + 1) * 128 ^ (i + 1) := by
            rw [Nat.pow_succ, Nat.mul_comm (128 ^ i) 128, ← Nat.mul_assoc]
            exact Nat.mul_lt_mul_of_pos_right (by omega) (Nat.pow_pos (by decide))
          omega
      · omega
    · by_cases hb : (0 < i ∧ c.toNat = 0) ∨ (i = 9 ∧ 1 < c.toNat)
      · rw [szAt_bad (by omega) (by omega) hb] at h; simp at h
      · rw [szAt_ok (by omega) (by omega) hb]
        have e : i + 1 - i = 1 := by omega
        simp only [e, List.take_succ_cons, List.take_zero, hf]
        have hv : val [c] = c.toNat := by simp only [val]; omega
        rw [hv, grp_last (by omega)]
        refine ⟨by rw [UInt8.ofNat_toNat], ?_, fun h0 => by
          rcases Nat.eq_zero_or_pos c.toNat with hz | hz
          · exact absurd (Or.inl ⟨h0, hz⟩) hb
          · exact hz⟩
        rcases Nat.lt_or_ge i 9 with h9 | h9
        · have h1 : c.toNat * 128 ^ i ≤ 127 * 128 ^ 8 := Nat.mul_le_mul (by omega) (Nat.pow_le_pow_right (by decide) (by omega))
          omega
        · obtain rfl : i = 9 := by omega
          have : c.toNat ≤ 1 := by
            rcases Nat.lt_or_ge 1 c.toNat with hz | hz
            · exact absurd (Or.inr ⟨rfl, hz⟩) hb
            · exact hz
          have h1 : c.toNat * 128 ^ 9 ≤ 1 * 128 ^ 9 := Nat.mul_le_mul_right _ this
          omega

/-- the integer at the front: its size and its value are those of its encoding -/
theorem sz_enc {n : Int} (h1 : -9223372036854775808 ≤ n) (h2 : n ≤ 9223372036854775807) (r : List UInt8) : szAt 0 (enc n ++ r) = ((enc n).length, 0) ∧ val (enc n) = zig n := by
  have h := szAt_grp 10 0 (zig n) r (by decide) (by have := zig_lt h1 h2; simpa using this) (fun h => absurd h (by decide))
  unfold enc
  simpa using h
theorem enc_sz {l : List UInt8} (h : (szAt 0 l).2 = 0) : enc (unz (val (l.take (szAt 0 l).1))) = l.take (szAt 0 l).1 ∧ val (l.take (szAt 0 l).1) < 18446744073709551616 := by
  have := grp_szAt l 0 (by decide) h
  unfold enc
  rw [zig_unz]
  have h1 := this.1
  have h2 := this.2.1
  simp only [Nat.sub_zero, Nat.pow_zero, Nat.mul_one] at h1 h2
  exact ⟨h1, h2⟩

/-- what a reader does: the result, what is left, the error -/
def intR (l : List UInt8) (low high : Int) : Int × List UInt8 × Int :=
  if (szAt 0 l).2 ≠ 0 then (0, [], (szAt 0 l).2)
  else if unz (val (l.take (szAt 0 l).1)) < low ∨ high < unz (val (l.take (szAt 0 l).1)) then (0, [], 14)
  else (unz (val (l.take (szAt 0 l).1)), l.drop (szAt 0 l).1, 0)
def textR (l : List UInt8) (most : Int) : List UInt8 × List UInt8 × Int :=
  if (intR l 0 most).2.2 ≠ 0 then ([], [], (intR l 0 most).2.2)
  else if ((intR l 0 most).2.1.length : Int) < (intR l 0 most).1 then ([], [], 4)
  else ((intR l 0 most).2.1.take (intR l 0 most).1.toNat, (intR l 0 most).2.1.drop (intR l 0 most).1.toNat, 0)
def boolR (l : List UInt8) : Bool × List UInt8 × Int :=
  match l with
  | [] => (false, [], 4)
  | c :: r => if 1 < c.toNat then (false, [], 3) else (c.toNat == 1, r, 0)

theorem intR_err {l : List UInt8} {low high : Int} (h : (szAt 0 l).2 ≠ 0) : intR l low high = (0, [], (szAt 0 l).2) := by unfold intR; rw [if_pos h]
theorem intR_range {l : List UInt8} {low high : Int} (h : (szAt 0 l).2 = 0) (h1 : unz (val (l.take (szAt 0 l).1)) < low ∨ high < unz (val (l.take (szAt 0 l).1))) : intR l low high = (0, [], 14) := by
  unfold intR; rw [if_neg (by simpa using h), if_pos h1]
theorem intR_ok {l : List UInt8} {low high : Int} (h : (szAt 0 l).2 = 0) (h1 : ¬(unz (val (l.take (szAt 0 l).1)) < low ∨ high < unz (val (l.take (szAt 0 l).1)))) :
    intR l low high = (unz (val (l.take (szAt 0 l).1)), l.drop (szAt 0 l).1, 0) := by
  unfold intR; rw [if_neg (by simpa using h), if_neg h1]
/-- the three ways at once -/
theorem intR_ways (l : List UInt8) (low high : Int) : (intR l low high = (0, [], 3) ∨ intR l low high = (0, [], 4) ∨ intR l low high = (0, [], 14)) ∨
    ∃ k, k ≤ l.length ∧ k ≤ 10 ∧ szAt 0 l = (k, 0) ∧ intR l low high = (unz (val (l.take k)), l.drop k, 0) ∧ low ≤ unz (val (l.take k)) ∧ unz (val (l.take k)) ≤ high ∧ enc (unz (val (l.take k))) = l.take k ∧ val (l.take k) < 18446744073709551616 := by
  rcases szAt_facts 0 l with ⟨h, _, h2, h3⟩ | ⟨_, h⟩
  · by_cases h1 : unz (val (l.take (szAt 0 l).1)) < low ∨ high < unz (val (l.take (szAt 0 l).1))
    · left; right; right; exact intR_range h h1
    · right
      have he := enc_sz h
      exact ⟨(szAt 0 l).1, by omega, h3, by rw [← h], intR_ok h h1, by omega, by omega, he.1, he.2⟩
  · left
    rcases h with h | h
    · left; rw [intR_err (by omega), h]
    · right; left; rw [intR_err (by omega), h]
/-- an encoding is read back -/
theorem intR_enc {n low high : Int} (h1 : -9223372036854775808 ≤ n) (h2 : n ≤ 9223372036854775807) (r : List UInt8) :
    intR (enc n ++ r) low high = if n < low ∨ high < n then (0, [], 14) else (n, r, 0) := by
  obtain ⟨hs, hv⟩ := sz_enc h1 h2 r
  have ht : (enc n ++ r).take (enc n).length = enc n := List.take_left
  have hd : (enc n ++ r).drop (enc n).length = r := List.drop_left
  have hu : unz (val ((enc n ++ r).take (szAt 0 (enc n ++ r)).1)) = n := by rw [hs, ht, hv, unz_zig]
  split
  · exact intR_range (by rw [hs]) (by rw [hu]; assumption)
  · rw [intR_ok (by rw [hs]) (by rw [hu]; assumption), hu, hs, hd]
end Go.Proofs.Ytjbjoalinfhahaa
namespace Go.Proofs.Ytjbjoalinfhahaa
open Go.RowKit

theorem ret_u64 {a b : Int} (h : a = b) : Ending.returned (.int .u64 a) = .returned (.int .u64 b) := by rw [h]
theorem ret_i64 {a b : Int} (h : a = b) : Ending.returned (.int .i64 a) = .returned (.int .i64 b) := by rw [h]
theorem u64_not (a : Nat) (ha : a < 18446744073709551616) : bits .xor .u64 IntKind.u64.max (a : Int) = 18446744073709551615 - (a : Int) := by
  have h1 : (BitVec.ofInt 64 IntKind.u64.max) = BitVec.allOnes 64 := by decide
  show IntKind.u64.wrap ((BitVec.ofInt 64 IntKind.u64.max ^^^ BitVec.ofInt 64 (a : Int)).toNat : Int) = _
  rw [h1, BitVec.allOnes_xor, BitVec.toNat_not, ofInt_u64 a (by omega), IntKind.wrap_u64]
  omega
theorem fold_neg (n : Int) (h1 : -9223372036854775808 ≤ n) (h : n < 0) : bits .xor .u64 IntKind.u64.max (IntKind.u64.wrap (IntKind.u64.wrap n * 2)) = (zig n : Nat) := by
  have e : IntKind.u64.wrap (IntKind.u64.wrap n * 2) = ((2 * n + 18446744073709551616).toNat : Int) := by rw [IntKind.wrap_u64, IntKind.wrap_u64]; omega
  rw [e, u64_not _ (by omega), zig_neg h]
  omega
theorem unfold_odd (u : Nat) (hu : u < 18446744073709551616) (h : u % 2 = 1) : wrap64 (bits .xor .u64 IntKind.u64.max ((u : Int) / 2)) = unz u := by
  have e : (u : Int) / 2 = ((u / 2 : Nat) : Int) := by omega
  rw [e, u64_not _ (by omega)]
  unfold wrap64 unz
  rw [if_pos h]
  omega
theorem unz_even (u : Nat) (h : u % 2 = 0) : unz u = ((u / 2 : Nat) : Int) := by unfold unz; rw [if_neg (by omega)]

set_option maxHeartbeats 400000 in
theorem zigzag_any (n : Int) (w : World) (h1 : -9223372036854775808 ≤ n) (h2 : n ≤ 9223372036854775807) :
    Calls Try.prog 133 #[.int .i64 n] w fun e w' => e = .returned (.int .u64 (zig n : Nat)) ∧ w = w' := by
  rcases Int.lt_or_le n 0 with h | h
  · go_enter Try.func133, Try.ntmps133
    go_wp2
    go_ret
    exact ⟨ret_u64 (by rw [zig_neg h]; omega), rfl⟩
  · go_enter Try.func133, Try.ntmps133
    go_wp2
    go_ret
    exact ⟨ret_u64 (by rw [zig_pos h]; omega), rfl⟩

set_option maxHeartbeats 400000 in
theorem fold_any (n : Int) (w : World) (h1 : -9223372036854775808 ≤ n) (h2 : n ≤ 9223372036854775807) :
    Calls Try.prog 154 #[.int .i64 n] w fun e w' => e = .returned (.int .u64 (zig n : Nat)) ∧ w = w' := by
  rcases Int.lt_or_le n 0 with h | h
  · go_enter Try.func154, Try.ntmps154
    go_wp2
    go_ret
    exact ⟨ret_u64 (fold_neg n h1 (by omega)), rfl⟩
  · go_enter Try.func154, Try.ntmps154
    go_wp2
    go_ret
    exact ⟨ret_u64 (by rw [zig_pos h]; omega), rfl⟩

set_option maxRecDepth 100000 in
set_option maxHeartbeats 400000 in
theorem unfold_any (u : Nat) (w : World) (hu : u < 18446744073709551616) :
    Calls Try.prog 149 #[.int .u64 (u : Int)] w fun e w' => e = .returned (.int .i64 (unz u)) ∧ w = w' := by
  have hu' : (u : Int) < 18446744073709551616 := by omega
  by_cases h : u % 2 = 1
  · have HO := Lib.hid (unfold_odd u hu h)
    have hb : ((u : Int) % 2 == 1) = true := by rw [beq_iff_eq]; omega
    clear h hu hu'
    go_enter Try.func149, Try.ntmps149
    go_wp2
    go_ret
    exact ⟨ret_i64 HO.out, rfl⟩
  · have HO := Lib.hid (unz_even u (by omega))
    have hb : ((u : Int) % 2 == 1) = false := by rw [beq_eq_false_iff_ne]; omega
    clear h hu
    go_enter Try.func149, Try.ntmps149
    go_wp2
    go_ret
    exact ⟨ret_i64 HO.out.symm, rfl⟩
end Go.Proofs.Ytjbjoalinfhahaa
namespace Go.Proofs.Ytjbjoalinfhahaa
open Go.RowKit

theorem Try.infob : (Try.prog.info? 5).map (fun i => (i.zero, i.size, i.bytes)) = some (some (.int .u8 0), 1, 1) := by kernel_rfl

set_option maxHeartbeats 400000 in
theorem copyOf_any (A : Option Addr) (n c : Nat) (l : List UInt8) (room : Int) (B : Nat) (w : World) (hr : Rb w B A n l) (hB : B ≤ w.heap.size) (hn : n ≤ 70368744177664) (h0 : 0 ≤ room) (hm : room ≤ 70368744177664) :
    Calls Try.prog 85 #[.slice A n c, .int .i64 room] w fun e w' => ∃ v, e = .returned v ∧ w'.ownsRow w.heap.size 5 1 v n (l.map b8) ∧ Below w.heap.size w w' := by
  obtain ⟨i, hi, hz, hs, hb⟩ := info_parts Try.infob
  obtain ⟨room, rfl⟩ := Int.eq_ofNat_of_zero_le h0
  have HR := Lib.hid hr
  clear hr
  go_enter Try.func85, Try.ntmps85
  go_wp2_with (at_make; refine wpList_make_own _ rfl _ _ 50 rfl w.heap.size 5 i (.int .u8 0) 1 Try.underlying50 hi hz hs _ _ _ (n + room) rfl rfl ?_ ?_ ?_ ?_ ?_)
  · rfl
  · rw [hb]; omega
  · unfold maxLen; omega
  · exact Nat.le_refl _
  · intro w1 hown hg
    have hb1 : Below w.heap.size w w1 := (Below.refl _ _).grown hg (Nat.le_refl _) (by simp)
    have H1 := Lib.hid hown
    have H2 := Lib.hid hb1
    clear hown hg hb1
    go_wp2_with (at_builtin; refine wpList_append_b8 rfl _ _ 50 rfl w.heap.size 5 i (.int .u8 0) Try.underlying50 hi hz hs hb rfl _ 0 [] rfl H1.out B A n c l rfl (HR.out.below (H2.out.mono hB)) ?_ ?_ ?_)
    · omega
    · exact H2.out.size
    · intro v' w2 hown2 hg2
      have hb2 : Below w.heap.size w w2 := H2.out.grown hg2 H2.out.size (fun k hk => (H1.out.lt k hk).1)
      have hown3 : w2.ownsRow w.heap.size 5 1 v' n (l.map b8) := by simpa using hown2
      have H3 := Lib.hid hown3
      have H4 := Lib.hid hb2
      clear hown2 hown3 hg2 hb2
      go_wp2
      go_ret
      exact ⟨v', rfl, H3.out, H4.out⟩

theorem Rb.one (w : World) (t : TypeId) (x : Int) (c : UInt8) (h : x = c.toNat) : Rb (w.alloc (.cells #[.int .u8 x] t)) (w.heap.size + 1) (some ⟨w.heap.size, 0, none⟩) 1 [c] := by
  refine ⟨rfl, fun _ => ⟨w.heap.size, 0, rfl, by omega, fun j d hj => ?_⟩⟩
  match j, hj with
  | 0, hj =>
    obtain rfl : c = d := by simpa using hj
    subst h
    rw [Nat.zero_add, World.cell?_alloc_at _ _ _ _ rfl]
    rfl

set_option maxRecDepth 100000 in
set_option maxHeartbeats 400000 in
theorem appendInt_any (base : Nat) (v : Value) (k : Nat) (xs : List Value) (n : Int) (w : World) (hown : w.ownsRow base 5 1 v k xs) (hB : base ≤ w.heap.size) (hk : k ≤ 140737488355000)
    (h1 : -9223372036854775808 ≤ n) (h2 : n ≤ 9223372036854775807) :
    Calls Try.prog 147 #[v, .int .i64 n] w fun e w' => ∃ v', e = .returned v' ∧ w'.ownsRow base 5 1 v' (k + (enc n).length) (xs ++ (enc n).map b8) ∧ Below base w w' := by
  obtain ⟨i, hi, hz, hs, hb⟩ := info_parts Try.infob
  have HO := Lib.hid hown
  clear hown
  go_enter Try.func147, Try.ntmps147
  go_wp2_with (go_at_call 154; refine (fold_any n _ h1 h2).mono ?_; rintro e w' ⟨rfl, rfl⟩)
  go_loopw [0, 5] (fun v u wr => ∃ (d : List UInt8) (f : Nat) (z : Nat), u = .int .u64 (z : Int) ∧ Hid (enc n = d ++ grp (f + 1) z ∧ d.length + f = 9 ∧ z * 128 ^ (9 - f) < 18446744073709551616 ∧ z < 18446744073709551616) ∧
      Hid (wr.ownsRow base 5 1 v (k + d.length) (xs ++ d.map b8)) ∧ Below base w wr) (fun _ u _ => (intOf u).toNat)
  case atStart => exact ⟨[], 9, zig n, rfl, ⟨rfl, rfl, by have := zig_lt h1 h2; simpa using this, zig_lt h1 h2⟩, by simpa using HO, Below.refl _ _⟩
  case round =>
    obtain ⟨d, f, z, rfl, hd, hown, hbl⟩ := hrel
    have hquo : IntKind.u64.wrap ((z : Int) / 128) = (z : Int) / 128 := by
      have hz' : (z : Int) < 18446744073709551616 := by have := hd.out; omega
      exact IntWalk.u64_in _ ⟨by omega, by omega⟩
    have HU := Lib.hid hquo
    clear hquo
    have HB := Lib.hid hbl
    clear hbl h1 h2
    by_cases hlt : 128 ≤ z
    · have hx : (z : Int) % 128 + 128 = ((UInt8.ofNat (z % 128 + 128)).toNat : Int) := by rw [u8_nat _ (by omega)]; omega
      have HX := Lib.hid hx
      clear hx
      go_wp2_with (at_builtin; refine wpList_append_b8 rfl _ _ 50 rfl base 5 i (.int .u8 0) Try.underlying50 hi hz hs hb rfl _ (k + d.length) (xs ++ d.map b8) rfl (hown.out.alloc _) (wr.heap.size + 1) (some ⟨wr.heap.size, 0, none⟩) 1 1 [UInt8.ofNat (z % 128 + 128)] rfl (Rb.one wr 5 _ _ HX.out) ?_ ?_ ?_)
      · have := hd.out; omega
      · have := HB.out.size; simp; omega
      · intro v' w2 hown2 hg2
        have hb2 : Below base w w2 := (HB.out.alloc (by have := HB.out.size; omega) _).grown hg2 (by have := HB.out.size; simp; omega) (fun k hk => (hown.out.lt k hk).1)
        have H3 := Lib.hid hown2
        have H4 := Lib.hid hb2
        clear hown2 hg2 hb2
        obtain ⟨f, rfl⟩ : ∃ g, f = g + 1 := ⟨f - 1, by
          rcases Nat.eq_zero_or_pos f with h0 | h0
          · subst h0; have := hd.out; simp only [Nat.sub_zero] at this; omega
          · omega⟩
        have hq : z / 128 * 128 ^ (9 - f) < 18446744073709551616 := by
          have h1 := hd.out.2.2.1
          refine Nat.lt_of_le_of_lt ?_ h1
          rw [show 9 - f = (9 - (f + 1)) + 1 from by have := hd.out; omega, Nat.pow_succ, Nat.mul_comm (128 ^ _) 128, ← Nat.mul_assoc]
          exact Nat.mul_le_mul_right _ (Nat.div_mul_le_self _ _)
        have HQ := Lib.hid hq
        clear hq
        have hquo := HU.out
        go_wp2
        clear hquo
        go_roundw
        case rel =>
          refine ⟨d ++ [UInt8.ofNat (z % 128 + 128)], f, z / 128, by go_num, ⟨?_, ?_, HQ.out, ?_⟩, ?_, H4.out⟩
          · rw [hd.out.1, grp_more hlt]; simp
          · have := hd.out; simp; omega
          · have := hd.out; omega
          · exact Lib.hid (by simpa [Nat.add_assoc] using H3.out)
        case measure => simp [intOf]; omega
    · have hx : (z : Int) = ((UInt8.ofNat z).toNat : Int) := by rw [u8_nat _ (by omega)]
      have HX := Lib.hid hx
      clear hx
      go_wp2_with (at_builtin; refine wpList_append_b8 rfl _ _ 50 rfl base 5 i (.int .u8 0) Try.underlying50 hi hz hs hb rfl _ (k + d.length) (xs ++ d.map b8) rfl (hown.out.alloc _) (wr.heap.size + 1) (some ⟨wr.heap.size, 0, none⟩) 1 1 [UInt8.ofNat z] rfl (Rb.one wr 5 _ _ HX.out) ?_ ?_ ?_)
      · have := hd.out; omega
      · have := HB.out.size; simp; omega
      · intro v' w2 hown2 hg2
        have hb2 : Below base w w2 := (HB.out.alloc (by have := HB.out.size; omega) _).grown hg2 (by have := HB.out.size; simp; omega) (fun k hk => (hown.out.lt k hk).1)
        have he : enc n = d ++ [UInt8.ofNat z] := by rw [hd.out.1, grp_last (by omega)]
        have H3 : Hid (w2.ownsRow base 5 1 v' (k + (enc n).length) (xs ++ (enc n).map b8)) := Lib.hid (by rw [he]; simpa [Nat.add_assoc] using hown2)
        have H4 := Lib.hid hb2
        clear hown2 hg2 hb2 he
        go_wp2
        go_ret
        exact ⟨v', rfl, H3.out, H4.out⟩
end Go.Proofs.Ytjbjoalinfhahaa
namespace Go.Proofs.Ytjbjoalinfhahaa
open Go.RowKit

/-- a result that owns the bytes l, in a world in which nothing that was there has turned -/
def OwnRes (w : World) (l : List UInt8) (e : Ending) (w' : World) : Prop :=
  ∃ v, e = .returned v ∧ w'.ownsRow w.heap.size 5 1 v l.length (l.map b8) ∧ Below w.heap.size w w'

def boolBytes (b : Bool) : List UInt8 := [if b then 1 else 0]
def encText (s : List UInt8) : List UInt8 := enc (s.length : Nat) ++ s

section
variable (A : Option Addr) (n c : Nat) (l : List UInt8) (B : Nat) (w : World)

set_option maxHeartbeats 400000 in
theorem PutInt_any (x : Int) (hr : Rb w B A n l) (hB : B ≤ w.heap.size) (hn : n ≤ 70368744177000) (h1 : -9223372036854775808 ≤ x) (h2 : x ≤ 9223372036854775807) :
    Calls Try.prog 131 #[.slice A n c, .int .i64 x] w (OwnRes w (l ++ enc x)) := by
  have HR := Lib.hid hr
  clear hr
  go_enter Try.func131, Try.ntmps131
  go_wp2_with fail
  refine (copyOf_any A n c l 10 B w HR.out hB (by omega) (by omega) (by omega)).mono ?_
  rintro e w1 ⟨v, rfl, hown, hb⟩
  have H1 := Lib.hid hown
  have H2 := Lib.hid hb
  clear hown hb
  go_wp2_with fail
  refine (appendInt_any w.heap.size v n (l.map b8) x w1 H1.out H2.out.size (by omega) h1 h2).mono ?_
  rintro e w2 ⟨v2, rfl, hown, hb⟩
  have H3 := Lib.hid hown
  have H4 := Lib.hid (H2.out.trans hb)
  clear hown hb
  go_wp2
  go_ret
  exact ⟨v2, rfl, by have := HR.out.len; rw [List.length_append, List.map_append, this]; exact H3.out, H4.out⟩

set_option maxHeartbeats 400000 in
theorem PutText_any (s : ByteArray) (hr : Rb w B A n l) (hB : B ≤ w.heap.size) (hn : n ≤ 30368744177000) (hs : s.size ≤ 30368744177000) :
    Calls Try.prog 132 #[.slice A n c, .string s] w (OwnRes w (l ++ encText s.data.toList)) := by
  have hel := enc_len (s.size : Nat)
  obtain ⟨i, hi, hz, hsz, hb⟩ := info_parts Try.infob
  have HR := Lib.hid hr
  clear hr
  go_enter Try.func132, Try.ntmps132
  go_wp2_with fail
  refine (copyOf_any A n c l _ B w HR.out hB (by omega) (by omega) (by omega)).mono ?_
  rintro e w1 ⟨v, rfl, hown, hb1⟩
  have H1 := Lib.hid hown
  have H2 := Lib.hid hb1
  clear hown hb1
  go_wp2_with fail
  refine (appendInt_any w.heap.size v n (l.map b8) _ w1 H1.out H2.out.size (by omega) (by omega) (by omega)).mono ?_
  rintro e w2 ⟨v2, rfl, hown, hb2⟩
  have H3 := Lib.hid hown
  have H4 := Lib.hid (H2.out.trans hb2)
  clear hown hb2
  go_wp2_with (at_builtin; refine Lib.wpList_append_own_string _ rfl _ _ 50 9 rfl w.heap.size 5 i Try.underlying50 Try.underlying9 hi hz hsz hb _ _ _ rfl H3.out s rfl ?_ ?_ ?_ ?_)
  · unfold maxLen; omega
  · omega
  · exact H4.out.size
  · intro v' w3 hown hg _
    have hb3 : Below w.heap.size w w3 := H4.out.grown hg H4.out.size (fun k hk => (H3.out.lt k hk).1)
    have H5 := Lib.hid hown
    have H6 := Lib.hid hb3
    clear hown hg hb3
    go_wp2
    go_ret
    refine ⟨v', rfl, ?_, H6.out⟩
    have e1 : s.data.toList.length = s.size := by rw [Array.length_toList]; rfl
    have e2 : (l ++ encText s.data.toList).length = n + (enc (s.size : Nat)).length + s.size := by unfold encText; rw [List.length_append, List.length_append, HR.out.len, e1]; omega
    have e3 : (l ++ encText s.data.toList).map b8 = l.map b8 ++ ((enc (s.size : Nat)).map b8 ++ Lib.strCells s) := by
      unfold encText
      rw [e1, List.map_append, List.map_append]
      rfl
    rw [e2, e3]
    exact H5.out

end
end Go.Proofs.Ytjbjoalinfhahaa
namespace Go.Proofs.Ytjbjoalinfhahaa
open Go.RowKit

/-- an empty slice literal owns nothing yet -/
theorem own_empty (w : World) (t : TypeId) : (w.alloc (.cells #[] t)).ownsRow w.heap.size t 1 (.slice (some ⟨w.heap.size, 0, none⟩) 0 0) 0 [] :=
  World.ownsRow_made w #[] 0 (Nat.le_refl _) (by unfold maxLen; omega) rfl

set_option maxRecDepth 100000 in
set_option maxHeartbeats 400000 in
theorem refPutInt_any (A : Option Addr) (n c : Nat) (l : List UInt8) (B : Nat) (w : World) (x : Int) (hr : Rb w B A n l) (hB : B ≤ w.heap.size) (hn : n ≤ 70368744177000)
    (h1 : -9223372036854775808 ≤ x) (h2 : x ≤ 9223372036854775807) :
    Calls Try.prog 108 #[.slice A n c, .int .i64 x] w (OwnRes w (l ++ enc x)) := by
  obtain ⟨i, hi, hz, hs, hb⟩ := info_parts Try.infob
  have HR := Lib.hid hr
  clear hr
  go_enter Try.func108, Try.ntmps108
  go_wp2_with (at_builtin; refine wpList_append_b8 rfl _ _ 50 rfl w.heap.size 5 i (.int .u8 0) Try.underlying50 hi hz hs hb rfl _ 0 [] rfl (own_empty w 5) B A n c l rfl (HR.out.alloc hB _) ?_ ?_ ?_)
  · omega
  · simp
  · intro v w1 hown hg
    have hown' : w1.ownsRow w.heap.size 5 1 v n (l.map b8) := by simpa using hown
    have hbl : Below w.heap.size w w1 := ((Below.refl _ _).alloc (Nat.le_refl _) _).grown hg (by simp) (fun k hk => by simp [Value.ownBlock] at hk; omega)
    have H1 := Lib.hid hown'
    have H2 := Lib.hid hbl
    clear hown hown' hg hbl
    go_wp2_with (go_at_call 133; refine (zigzag_any x _ h1 h2).mono ?_; rintro e w' ⟨rfl, rfl⟩)
    go_loopw [5, 6] (fun v u wr => ∃ (d : List UInt8) (f : Nat) (z : Nat), u = .int .u64 (z : Int) ∧ Hid (enc x = d ++ grp (f + 1) z ∧ d.length + f = 9 ∧ z * 128 ^ (9 - f) < 18446744073709551616 ∧ z < 18446744073709551616) ∧
        Hid (wr.ownsRow w.heap.size 5 1 v (n + d.length) (l.map b8 ++ d.map b8)) ∧ Below w.heap.size w wr) (fun _ u _ => (intOf u).toNat)
    case atStart => exact ⟨[], 9, zig x, rfl, ⟨rfl, rfl, by have := zig_lt h1 h2; simpa using this, zig_lt h1 h2⟩, by simpa using H1, H2.out⟩
    case round =>
      obtain ⟨d, f, z, rfl, hd, hown, hbl⟩ := hrel
      have hquo : IntKind.u64.wrap ((z : Int) / 128) = (z : Int) / 128 := by
        have hz' : (z : Int) < 18446744073709551616 := by have := hd.out; omega
        exact IntWalk.u64_in _ ⟨by omega, by omega⟩
      have HU := Lib.hid hquo
      clear hquo
      have HB := Lib.hid hbl
      clear hbl h1 h2
      by_cases hlt : 128 ≤ z
      · have hx : (z : Int) % 128 + 128 = ((UInt8.ofNat (z % 128 + 128)).toNat : Int) := by rw [u8_nat _ (by omega)]; omega
        have HX := Lib.hid hx
        clear hx
        go_wp2_with (at_builtin; refine wpList_append_b8 rfl _ _ 50 rfl w.heap.size 5 i (.int .u8 0) Try.underlying50 hi hz hs hb rfl _ (n + d.length) (l.map b8 ++ d.map b8) rfl (hown.out.alloc _) (wr.heap.size + 1) (some ⟨wr.heap.size, 0, none⟩) 1 1 [UInt8.ofNat (z % 128 + 128)] rfl (Rb.one wr 5 _ _ HX.out) ?_ ?_ ?_)
        · have := hd.out; omega
        · have := HB.out.size; simp; omega
        · intro v' w2 hown2 hg2
          have hb2 : Below w.heap.size w w2 := (HB.out.alloc (by have := HB.out.size; omega) _).grown hg2 (by have := HB.out.size; simp; omega) (fun k hk => (hown.out.lt k hk).1)
          have H3 := Lib.hid hown2
          have H4 := Lib.hid hb2
          clear hown2 hg2 hb2
          obtain ⟨f, rfl⟩ : ∃ g, f = g + 1 := ⟨f - 1, by
            rcases Nat.eq_zero_or_pos f with h0 | h0
            · subst h0; have := hd.out; simp only [Nat.sub_zero] at this; omega
            · omega⟩
          have hq : z / 128 * 128 ^ (9 - f) < 18446744073709551616 := by
            have h1 := hd.out.2.2.1
            refine Nat.lt_of_le_of_lt ?_ h1
            rw [show 9 - f = (9 - (f + 1)) + 1 from by have := hd.out; omega, Nat.pow_succ, Nat.mul_comm (128 ^ _) 128, ← Nat.mul_assoc]
            exact Nat.mul_le_mul_right _ (Nat.div_mul_le_self _ _)
          have HQ := Lib.hid hq
          clear hq
          have hquo := HU.out
          go_wp2
          clear hquo
          go_roundw
          case rel =>
            refine ⟨d ++ [UInt8.ofNat (z % 128 + 128)], f, z / 128, by go_num, ⟨?_, ?_, HQ.out, ?_⟩, ?_, H4.out⟩
            · rw [hd.out.1, grp_more hlt]; simp
            · have := hd.out; simp; omega
            · have := hd.out; omega
            · exact Lib.hid (by simpa [Nat.add_assoc] using H3.out)
          case measure => simp [intOf]; omega
      · have hx : (z : Int) = ((UInt8.ofNat z).toNat : Int) := by rw [u8_nat _ (by omega)]
        have HX := Lib.hid hx
        clear hx
        go_wp2_with (at_builtin; refine wpList_append_b8 rfl _ _ 50 rfl w.heap.size 5 i (.int .u8 0) Try.underlying50 hi hz hs hb rfl _ (n + d.length) (l.map b8 ++ d.map b8) rfl (hown.out.alloc _) (wr.heap.size + 1) (some ⟨wr.heap.size, 0, none⟩) 1 1 [UInt8.ofNat z] rfl (Rb.one wr 5 _ _ HX.out) ?_ ?_ ?_)
        · have := hd.out; omega
        · have := HB.out.size; simp; omega
        · intro v' w2 hown2 hg2
          have hb2 : Below w.heap.size w w2 := (HB.out.alloc (by have := HB.out.size; omega) _).grown hg2 (by have := HB.out.size; simp; omega) (fun k hk => (hown.out.lt k hk).1)
          have he : enc x = d ++ [UInt8.ofNat z] := by rw [hd.out.1, grp_last (by omega)]
          have H3 : Hid (w2.ownsRow w.heap.size 5 1 v' (n + (enc x).length) (l.map b8 ++ (enc x).map b8)) := Lib.hid (by rw [he]; simpa [Nat.add_assoc] using hown2)
          have H4 := Lib.hid hb2
          clear hown2 hg2 hb2 he
          go_wp2
          go_ret
          exact ⟨v', rfl, by rw [List.length_append, List.map_append, HR.out.len]; exact H3.out, H4.out⟩

set_option maxHeartbeats 400000 in
theorem refPutText_any (A : Option Addr) (n c : Nat) (l : List UInt8) (B : Nat) (w : World) (s : ByteArray) (hr : Rb w B A n l) (hB : B ≤ w.heap.size) (hn : n ≤ 30368744177000) (hs : s.size ≤ 30368744177000) :
    Calls Try.prog 109 #[.slice A n c, .string s] w (OwnRes w (l ++ encText s.data.toList)) := by
  obtain ⟨i, hi, hz, hsz, hb⟩ := info_parts Try.infob
  have hel := enc_len (s.size : Nat)
  have HR := Lib.hid hr
  clear hr
  go_enter Try.func109, Try.ntmps109
  go_wp2_with fail
  refine (refPutInt_any A n c l B w s.size HR.out hB (by omega) (by omega) (by omega)).mono ?_
  rintro e w1 ⟨v, rfl, hown, hbl⟩
  have H1 : Hid (w1.ownsRow w.heap.size 5 1 v (n + (enc (s.size : Nat)).length) ((l ++ enc (s.size : Nat)).map b8)) := Lib.hid (by rw [List.length_append, HR.out.len] at hown; exact hown)
  have H2 := Lib.hid hbl
  clear hown hbl
  go_wp2_with fail
  go_loopw [5, 6] (fun v j wr => ∃ k : Nat, k ≤ s.size ∧ j = .int .i64 k ∧ Hid (wr.ownsRow w.heap.size 5 1 v (n + (enc (s.size : Nat)).length + k) ((l ++ enc (s.size : Nat)).map b8 ++ (s.data.toList.take k).map b8)) ∧ Below w.heap.size w wr)
    (fun _ j _ => s.size - (intOf j).toNat)
  case atStart => exact ⟨0, Nat.zero_le _, rfl, by simpa using H1, H2.out⟩
  case round =>
    obtain ⟨k, hk, rfl, hown, hbl⟩ := hrel
    have HB := Lib.hid hbl
    clear hbl
    by_cases hlt : k < s.size
    · have hx : ((s[k]'hlt).toNat : Int) = ((s.data.toList[k]'(by simpa using hlt)).toNat : Int) := rfl
      have hts : s.data.toList.take (k + 1) = s.data.toList.take k ++ [s.data.toList[k]'(by simpa using hlt)] := by rw [List.take_succ_eq_append_getElem (by simpa using hlt)]
      have HX := Lib.hid hx
      have HT := Lib.hid hts
      clear hx hts
      go_wp2_with (at_builtin; refine wpList_append_b8 rfl _ _ 50 rfl w.heap.size 5 i (.int .u8 0) Try.underlying50 hi hz hsz hb rfl _ (n + (enc (s.size : Nat)).length + k) _ rfl (hown.out.alloc _) (wr.heap.size + 1) (some ⟨wr.heap.size, 0, none⟩) 1 1 [s.data.toList[k]'(by simpa using hlt)] rfl (Rb.one wr 5 _ _ HX.out) ?_ ?_ ?_)
      · omega
      · have := HB.out.size; simp; omega
      · intro v' w2 hown2 hg2
        have hb2 : Below w.heap.size w w2 := (HB.out.alloc (by have := HB.out.size; omega) _).grown hg2 (by have := HB.out.size; simp; omega) (fun k hk => (hown.out.lt k hk).1)
        have H3 := Lib.hid hown2
        have H4 := Lib.hid hb2
        clear hown2 hg2 hb2
        go_wp2
        go_roundw
        case rel =>
          refine ⟨k + 1, by omega, by go_num, ?_, H4.out⟩
          rw [HT.out]
          exact Lib.hid (by simpa [Nat.add_assoc, List.map_take] using H3.out)
        case measure => simp [intOf]; omega
    · obtain rfl : k = s.size := by omega
      go_wp2
      go_ret
      have e1 : s.data.toList.length = s.size := by rw [Array.length_toList]; rfl
      refine ⟨_, rfl, ?_, HB.out⟩
      have := hown.out
      rw [List.take_of_length_le (by omega)] at this
      unfold encText
      rw [e1, List.length_append, List.length_append, HR.out.len, e1, ← List.append_assoc, List.map_append, ← Nat.add_assoc]
      exact this

end Go.Proofs.Ytjbjoalinfhahaa
