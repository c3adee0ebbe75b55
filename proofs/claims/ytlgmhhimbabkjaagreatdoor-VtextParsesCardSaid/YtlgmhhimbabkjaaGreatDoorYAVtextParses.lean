/-
  VtextParses returns true for every input, and its arguments read afterwards as they read before: what it leans on.
-/
import Derived.Test.YtlgmhhimbabkjaaGreatDoorVow
import Derived.Deep.AppendLies
import Derived.Lib.AppendZerosOnto
import Derived.Lib.Overlaps
import Derived.Laws.CopyRow
import Derived.Laws.OwnMore
import Derived.Laws.Externs
import Derived.Shelf.Spec.SlicesInsert
import Derived.Test.YtlgmhhimbabkjaaGreatDoorVnl
import Derived.Test.YtlgmhhimbabkjaaGreatDoorVcq
import Derived.Deep.Cut
import Derived.Test.YtlgmhhimbabkjaaGreatDoorTe
import Derived.Test.YtlgmhhimbabkjaaGreatDoorTn
import Derived.Test.YtlgmhhimbabkjaaGreatDoorVbs
import Derived.Test.YtlgmhhimbabkjaaGreatDoorRt
import Derived.Test.YtlgmhhimbabkjaaGreatDoorRq
namespace Go.Proofs.YtlgmhhimbabkjaaGreatDoor
open Go.RowKit

section
variable {P : Program}
/-- copy into a row, of elements of any size -/
theorem run_copy_rowK (w : World) (dT sT ty elem : TypeId) (k g o dLen dCap : Nat) (a : Addr) (sLen sCap : Nat) (cur : Array Value) (t : TypeId) (cs : List Value)
    (hu : P.underlying dT = some (.slice elem)) (hs : (P.info? elem).map (·.size) = some k)
    (hg : w.heap[g]? = some (.cells cur t (0, 0))) (hn : cs.length = Nat.min sLen dLen * k)
    (hsrc : ∀ j v, cs[j]? = some v → w.cell? (a.add j) = some v) (hfit : o + cs.length ≤ cur.size) (h1 : ∀ v ∈ cs, v.oneCell' = true) :
    (Builtin.copy_ #[dT, sT] ty #[.slice (some ⟨g, o, none⟩) dLen dCap, .slice (some a) sLen sCap]).run P w =
      .ok (goInt (Nat.min sLen dLen)) (w.setRow g (cur.toList.take o ++ cs ++ cur.toList.drop (o + cs.length)).toArray) := by
  have hl := run_loadCells_list (P := P) w a cs hsrc
  rw [hn] at hl
  have hst := run_storeCells_at P g o t cs 0 cur w hg (by simpa using hfit) h1
  cases hq : P.info? elem with
  | none => simp [hq] at hs
  | some i =>
    have hi : i.size = k := by simpa [hq] using hs
    subst hi
    simp [Builtin.copy_, run_underlying hu, Builtin.lenOf, Builtin.firstCells, sizeOf, typeInfo, hq, hl, hst]

/-- .. where the row is the call's own -/
theorem run_copy_own (w : World) (dT elem : TypeId) (base k g n cap : Nat) (xs : List Value) (e : TypeId) (h : w.ownsRow base e k (.slice (some ⟨g, 0, none⟩) n cap) n xs)
    (hu : P.underlying dT = some (.slice elem)) (hs : (P.info? elem).map (·.size) = some k) (o dLen : Nat) (a : Addr) (sLen : Nat) (cs : List Value) (hn : cs.length = Nat.min sLen dLen * k)
    (hsrc : ∀ j v, cs[j]? = some v → w.cell? (a.add j) = some v) (hfit : o + cs.length ≤ n * k) (h1 : ∀ v ∈ cs, v.oneCell' = true) :
    ∃ w' : World, (∀ sT ty dCap sCap, (Builtin.copy_ #[dT, sT] ty #[.slice (some ⟨g, o, none⟩) dLen dCap, .slice (some a) sLen sCap]).run P w = .ok (goInt (Nat.min sLen dLen)) w') ∧
      w'.ownsRow base e k (.slice (some ⟨g, 0, none⟩) n cap) n (xs.take o ++ cs ++ xs.drop (o + cs.length)) ∧ w.grownBy w' (some g) := by
  obtain ⟨hl, ⟨hv, _⟩ | ⟨g', cap', cur, hv, hb, hg, hnc, hcm, hsz, ht⟩⟩ := h
  · injection hv with e1; cases e1
  · injection hv with e1 _ e2
    injection e1 with e1
    injection e1 with e1
    subst e1 e2
    have hnk : n * k ≤ cap * k := Nat.mul_le_mul_right k hnc
    refine ⟨w.setRow g (cur.toList.take o ++ cs ++ cur.toList.drop (o + cs.length)).toArray, fun sT ty dCap sCap => run_copy_rowK w dT sT ty elem k g o dLen dCap a sLen sCap cur e cs hu hs hg hn hsrc (by omega) h1, ⟨?_, Or.inr ⟨g, cap, _, rfl, hb, setRow_heap w g cur _ e _ hg, hnc, hcm, ?_, ?_⟩⟩, ?_⟩
    · simp only [List.length_append, List.length_take, List.length_drop]; omega
    · rw [List.size_toArray]
      simp only [List.length_append, List.length_take, List.length_drop, Array.length_toList]; omega
    · rw [← ht]
      apply List.ext_getElem?
      intro j
      have hcl : cur.toList.length = cap * k := by rw [Array.length_toList]; exact hsz
      generalize cur.toList = L at *
      simp only [List.getElem?_take, List.getElem?_append, List.length_take, List.getElem?_drop, List.length_append]
      repeat' split
      all_goals first | rfl | omega | (congr 1; omega) | (rw [List.getElem?_eq_none]; omega) | (symm; rw [List.getElem?_eq_none]; omega) | skip
    · refine ⟨rfl, rfl, rfl, by simp [World.setRow], fun q hq hne => ?_⟩
      have hqg : q ≠ g := fun e => hne (by rw [e])
      simp only [World.setRow]
      simp [Array.getElem?_modify, Ne.symm hqg]
/-- a row with room for more, read a bit further -/
theorem own_longer {w : World} {base k g n cap m : Nat} {xs : List Value} {e : TypeId} (h : w.ownsRow base e k (.slice (some ⟨g, 0, none⟩) n cap) n xs) (hm : n + m ≤ cap) :
    ∃ js, js.length = m * k ∧ w.ownsRow base e k (.slice (some ⟨g, 0, none⟩) (n + m) cap) (n + m) (xs ++ js) := by
  obtain ⟨hl, ⟨hv, _⟩ | ⟨g', cap', cur, hv, hb, hg, hnc, hcm, hsz, ht⟩⟩ := h
  · injection hv with e1; cases e1
  · injection hv with e1 _ e2
    injection e1 with e1
    injection e1 with e1
    subst e1 e2
    have hnk : (n + m) * k ≤ cap * k := Nat.mul_le_mul_right k hm
    have he : (n + m) * k = n * k + m * k := Nat.add_mul n m k
    have h2 : (cur.toList.drop (n * k)).length = cap * k - n * k := by rw [List.length_drop, Array.length_toList, hsz]
    refine ⟨(cur.toList.drop (n * k)).take (m * k), by rw [List.length_take]; omega, ?_, Or.inr ⟨g, cap, cur, rfl, hb, hg, hm, hcm, hsz, ?_⟩⟩
    · rw [List.length_append, List.length_take]; omega
    · rw [he, ← ht, List.take_add]
theorem grown_far {a b c : World} {r : Option Nat} {q : Nat} (h : a.grownBy b r) (k : b.grownBy c (some q)) (hq : a.heap.size ≤ q) : a.grownBy c r :=
  ⟨k.os.trans h.os, k.tape.trans h.tape, k.output.trans h.output, Nat.le_trans h.size k.size, fun i hi hn => (k.block i (Nat.lt_of_lt_of_le hi h.size) (fun e => by injection e with e; omega)).trans (h.block i hi hn)⟩
theorem grown_any {a b : World} {r : Option Nat} (h : a.grownBy b none) : a.grownBy b r := ⟨h.os, h.tape, h.output, h.size, fun i hi _ => h.block i hi (by simp)⟩
/-- a row that an append of a made slice gave -/
theorem own_grown (w : World) (e : TypeId) (k base n m old : Nat) (z : Value) (hz : z.cells.size = k) (olds : List Value) (ho : olds.length = n * k) (hb : base ≤ w.heap.size) (h63 : n + m ≤ maxLen) :
    ∃ zs : List Value, zs.length = m * k ∧
      (w.drew.alloc (.cells (olds.toArray ++ Builtin.zeroCells z.cells m ++ Builtin.zeroCells z.cells (grownCap w (n + m) old e - (n + m))) e)).ownsRow base e k (.slice (some ⟨w.heap.size, 0, none⟩) (n + m) (grownCap w (n + m) old e)) (n + m) (olds ++ zs) ∧
      w.grownBy (w.drew.alloc (.cells (olds.toArray ++ Builtin.zeroCells z.cells m ++ Builtin.zeroCells z.cells (grownCap w (n + m) old e - (n + m))) e)) none := by
  have hG := grownCap_ge w (n + m) old e
  have hM := grownCap_le_maxLen w (n + m) old e h63
  generalize grownCap w (n + m) old e = G at *
  have hzc : ∀ q, (Builtin.zeroCells z.cells q).size = q * k := fun q => by simp [Builtin.zeroCells, hz]
  have hzl : (Builtin.zeroCells z.cells m).toList.length = m * k := by rw [Array.length_toList]; exact hzc m
  have he : (n + m) * k = n * k + m * k := Nat.add_mul n m k
  have hg2 : G * k = (n + m) * k + (G - (n + m)) * k := by rw [← Nat.add_mul]; congr 1; omega
  refine ⟨(Builtin.zeroCells z.cells m).toList, hzl, ⟨?_, Or.inr ⟨w.heap.size, G, _, rfl, hb, heap_alloc_new w.drew _, hG, hM, ?_, ?_⟩⟩, ?_⟩
  · rw [List.length_append, ho, hzl]; omega
  · rw [Array.size_append, Array.size_append, hzc, hzc, List.size_toArray]; omega
  · rw [Array.toList_append, Array.toList_append, he]
    rw [List.take_append_of_le_length (by rw [List.length_append, hzl]; simp [ho])]
    rw [List.take_of_length_le (by rw [List.length_append, hzl]; simp [ho])]
  · exact ⟨rfl, rfl, rfl, by show w.heap.size ≤ (w.heap.push _).size; simp, fun q hq _ => Below.heap_alloc w.drew _ q hq⟩
/-- what lies before a place, something put there, what lay behind it -/
theorem put_fresh {α : Type} (X zs ys D : List α) (a b : Nat) (ha : X.length = a) (hb : b = a + ys.length) (hz : zs.length = ys.length + D.length) :
    (((X ++ zs).take a ++ ys ++ (X ++ zs).drop (a + ys.length)).take b ++ D ++ ((X ++ zs).take a ++ ys ++ (X ++ zs).drop (a + ys.length)).drop (b + D.length)) = X ++ ys ++ D := by
  subst hb ha
  have h1 : (X ++ zs).take X.length = X := by simp
  rw [h1]
  have h2 : (X ++ ys ++ (X ++ zs).drop (X.length + ys.length)).take (X.length + ys.length) = X ++ ys := by
    rw [List.take_append_of_le_length (by rw [List.length_append]; exact Nat.le_refl _), List.take_of_length_le (by rw [List.length_append]; exact Nat.le_refl _)]
  have h3 : (X ++ ys ++ (X ++ zs).drop (X.length + ys.length)).drop (X.length + ys.length + D.length) = [] := by
    rw [List.drop_eq_nil_iff]; simp only [List.length_append, List.length_drop]; omega
  rw [h2, h3, List.append_nil]
/-- append in a region that draws, where its run is known -/
theorem step_append_runI {ops : Array Oper} {o : Oper} {a : Act} {w : World} {K : Act → World → Prop} {Q : Exit → Act → World → Prop} {E : Prop}
    (hg : o.guard = none) (d x : Operand) (dT sT : TypeId) (hop : o.op = Op.call { callee := Callee.builtin Builtin.append, args := #[d, x], argTypes := #[dT, sT] })
    (v u : Value) (hd : a.eval d = v) (hx : a.eval x = u) {v' : Value} {w' : World} (hr : (Builtin.append_ #[dT, sT] o.type #[v, u]).run P w = .ok v' w') (hK : K (a.put o.dst v') w') :
    if Region.wanted o (yielded ops a.tmps) = true then Oper.wp P o a w K Q else E := by
  have hw : Region.wanted o (yielded ops a.tmps) = true := by simp [Region.wanted, hg]
  rw [if_pos hw]
  unfold Oper.wp
  simp [execOp, hop, resolve, invoke, builtin, hd, hx, hr, Result.andThen]
  exact hK
/-- a row, read less far -/
theorem own_shorter {w : World} {base k g n cap m : Nat} {xs : List Value} {e : TypeId} (h : w.ownsRow base e k (.slice (some ⟨g, 0, none⟩) n cap) n xs) (hm : m ≤ n) :
    w.ownsRow base e k (.slice (some ⟨g, 0, none⟩) m cap) m (xs.take (m * k)) := by
  obtain ⟨hl, ⟨hv, _⟩ | ⟨g', cap', cur, hv, hb, hg, hnc, hcm, hsz, ht⟩⟩ := h
  · injection hv with e1; cases e1
  · injection hv with e1 _ e2
    injection e1 with e1
    injection e1 with e1
    subst e1 e2
    have hmk : m * k ≤ n * k := Nat.mul_le_mul_right k hm
    exact ⟨by rw [List.length_take]; omega, Or.inr ⟨g, cap, cur, rfl, hb, hg, Nat.le_trans hm hnc, hcm, hsz, by rw [← ht, List.take_take, Nat.min_eq_left hmk]⟩⟩
/-- an append within a row of the call's own -/
theorem run_append_here (w : World) (t e : TypeId) (iE : TypeInfo) (base k g n cap : Nat) (xs : List Value) (h : w.ownsRow base e k (.slice (some ⟨g, 0, none⟩) n cap) n xs)
    (ht : P.underlying t = some (.slice e)) (hi : P.info? e = some iE) (hk : iE.size = k) (i m : Nat) (a : Addr) (news : List Value) (hl : news.length = m * k)
    (hsrc : ∀ j v, news[j]? = some v → w.cell? (a.add j) = some v) (h1 : ∀ v ∈ news, v.oneCell' = true) (him : i + m ≤ n) :
    ∃ w' : World, (∀ ty c, (Builtin.append_ #[t, t] ty #[.slice (some ⟨g, 0, none⟩) i cap, .slice (some a) m c]).run P w = .ok (.slice (some ⟨g, 0, none⟩) (i + m) cap) w') ∧
      w'.ownsRow base e k (.slice (some ⟨g, 0, none⟩) n cap) n (xs.take (i * k) ++ news ++ xs.drop (i * k + news.length)) ∧ w.grownBy w' (some g) := by
  subst hk
  obtain ⟨hxl, ⟨hv, _⟩ | ⟨g', cap', cur, hv, hb, hg, hnc, hcm, hsz, htk⟩⟩ := h
  · injection hv with e1; cases e1
  · injection hv with e1 _ e2
    injection e1 with e1
    injection e1 with e1
    subst e1 e2
    have hnk : n * iE.size ≤ cap * iE.size := Nat.mul_le_mul_right _ hnc
    have hik : i * iE.size + m * iE.size ≤ n * iE.size := by rw [← Nat.add_mul]; exact Nat.mul_le_mul_right _ him
    refine ⟨w.setRow g (cur.toList.take (i * iE.size) ++ news ++ cur.toList.drop (i * iE.size + news.length)).toArray, fun ty c => run_append_room (P := P) w t ty e iE ht hi g i cap cur hg a m c news hl hsrc h1 (by omega) (by omega), ⟨?_, Or.inr ⟨g, cap, _, rfl, hb, setRow_heap w g cur _ e _ hg, hnc, hcm, ?_, ?_⟩⟩, ?_⟩
    · simp only [List.length_append, List.length_take, List.length_drop]; omega
    · rw [List.size_toArray]
      simp only [List.length_append, List.length_take, List.length_drop, Array.length_toList]; omega
    · rw [← htk]
      apply List.ext_getElem?
      intro j
      have hcl : cur.toList.length = cap * iE.size := by rw [Array.length_toList]; exact hsz
      generalize cur.toList = L at *
      simp only [List.getElem?_take, List.getElem?_append, List.length_take, List.getElem?_drop, List.length_append]
      repeat' split
      all_goals first | rfl | omega | (congr 1; omega) | (rw [List.getElem?_eq_none]; omega) | (symm; rw [List.getElem?_eq_none]; omega) | skip
    · refine ⟨rfl, rfl, rfl, by simp [World.setRow], fun q hq hne => ?_⟩
      have hqg : q ≠ g := fun e => hne (by rw [e])
      simp only [World.setRow]
      simp [Array.getElem?_modify, Ne.symm hqg]
/-- clearing a part of a row of the call's own -/
theorem run_clear_own (w : World) (t e : TypeId) (z : Value) (base k g n cap : Nat) (xs : List Value) (h : w.ownsRow base e k (.slice (some ⟨g, 0, none⟩) n cap) n xs)
    (ht : P.underlying t = some (.slice e)) (hzv : ∀ w, (zeroValue e).run P w = .ok z w) (hzs : z.cells.size = k) (hk : 0 < k) (h1 : ∀ v ∈ z.cells, v.oneCell' = true) (o m : Nat) (hm : 0 < m) (hfit : o + m * k ≤ n * k) :
    ∃ w' : World, (∀ ty c, (Builtin.clear_ #[t] ty #[.slice (some ⟨g, o, none⟩) m c]).run P w = .ok (.tuple #[]) w') ∧
      (∃ ys, ys.length = m * k ∧ w'.ownsRow base e k (.slice (some ⟨g, 0, none⟩) n cap) n (xs.take o ++ ys ++ xs.drop (o + m * k))) ∧ w.grownBy w' (some g) := by
  have hzc : (Builtin.zeroCells z.cells m).toList.length = m * k := by rw [Array.length_toList]; simp [Builtin.zeroCells, hzs]
  have hz1 : ∀ v ∈ (Builtin.zeroCells z.cells m).toList, v.oneCell' = true := fun v hv => by
    simp only [Builtin.zeroCells, Array.toList_map, List.mem_map] at hv
    obtain ⟨j, _, rfl⟩ := hv
    have hj : j % z.cells.size < z.cells.size := Nat.mod_lt _ (by omega)
    rw [getElem!_pos z.cells _ hj]
    exact h1 _ (Array.getElem_mem hj)
  generalize hzz : (Builtin.zeroCells z.cells m).toList = zs at *
  obtain ⟨hxl, ⟨hv, _⟩ | ⟨g', cap', cur, hv, hb, hg, hnc, hcm, hsz, htk⟩⟩ := h
  · injection hv with e1; cases e1
  · injection hv with e1 _ e2
    injection e1 with e1
    injection e1 with e1
    subst e1 e2
    have hnk : n * k ≤ cap * k := Nat.mul_le_mul_right _ hnc
    have hst := run_storeCells_at P g o e zs 0 cur w hg (by omega) hz1
    simp only [Nat.add_zero] at hst
    refine ⟨w.setRow g (cur.toList.take o ++ zs ++ cur.toList.drop (o + zs.length)).toArray, fun ty c => ?_, ⟨zs, hzc, ⟨?_, Or.inr ⟨g, cap, _, rfl, hb, setRow_heap w g cur _ e _ hg, hnc, hcm, ?_, ?_⟩⟩⟩, ?_⟩
    · obtain ⟨m', rfl⟩ : ∃ m', m = m' + 1 := ⟨m - 1, by omega⟩
      simp [Builtin.clear_, run_underlying ht, hzv, hzz, hst]
    · simp only [List.length_append, List.length_take, List.length_drop]; omega
    · rw [List.size_toArray]
      simp only [List.length_append, List.length_take, List.length_drop, Array.length_toList]; omega
    · rw [← htk]
      apply List.ext_getElem?
      intro j
      have hcl : cur.toList.length = cap * k := by rw [Array.length_toList]; exact hsz
      rw [hzc]
      generalize cur.toList = L at *
      simp only [List.getElem?_take, List.getElem?_append, List.length_take, List.getElem?_drop, List.length_append]
      repeat' split
      all_goals first | rfl | omega | (congr 1; omega) | (rw [List.getElem?_eq_none]; omega) | (symm; rw [List.getElem?_eq_none]; omega) | skip
    · refine ⟨rfl, rfl, rfl, by simp [World.setRow], fun q hq hne => ?_⟩
      have hqg : q ≠ g := fun e => hne (by rw [e])
      simp only [World.setRow]
      simp [Array.getElem?_modify, Ne.symm hqg]
end
end Go.Proofs.YtlgmhhimbabkjaaGreatDoor
namespace Go.Proofs.YtlgmhhimbabkjaaGreatDoor
open Go.RowKit

theorem put_between {α : Type} (xs js ys : List α) (a b : Nat) (hb : b = a + ys.length) (ha : b ≤ xs.length) (hj : js.length ≤ ys.length) :
    ((xs ++ js).take b ++ xs.drop a ++ (xs ++ js).drop (b + (xs.drop a).length)).take a ++ ys ++ ((xs ++ js).take b ++ xs.drop a ++ (xs ++ js).drop (b + (xs.drop a).length)).drop (a + ys.length) = xs.take a ++ ys ++ xs.drop a := by
  subst hb
  have h0 : (xs ++ js).drop (a + ys.length + (xs.drop a).length) = [] := by rw [List.drop_eq_nil_iff]; simp only [List.length_append, List.length_drop]; omega
  rw [h0, List.append_nil]
  have h1 : ((xs ++ js).take (a + ys.length)).length = a + ys.length := by rw [List.length_take, List.length_append]; omega
  have h2 : ((xs ++ js).take (a + ys.length) ++ xs.drop a).drop (a + ys.length) = xs.drop a := by
    rw [List.drop_append, h1, Nat.sub_self, List.drop_of_length_le (by omega)]; rfl
  have h3 : ((xs ++ js).take (a + ys.length) ++ xs.drop a).take a = xs.take a := by
    rw [List.take_append_of_le_length (by omega), List.take_take, Nat.min_eq_left (by omega), List.take_append_of_le_length (by omega)]
  rw [h2, h3]

theorem sizeS_any (w : World) : (Go.sizeOf 9).run Tryz.prog w = .ok 1 w := by
  obtain ⟨i, hi, hz, hs, hb⟩ := info_parts Tryz.infoS
  simp [Go.sizeOf, typeInfo, hi, hs]
/-- what an Insert gives -/
def InsS (w : World) (base n i : Nat) (A : Option Addr) (c : Nat) (xs ys : List Value) (e : Ending) (w' : World) : Prop :=
  ∃ g c', e = .returned (.slice (some ⟨g, 0, none⟩) (n + 1) c') ∧ w'.ownsRow base 9 1 (.slice (some ⟨g, 0, none⟩) (n + 1) c') (n + 1) (xs.take (i * 1) ++ ys ++ xs.drop (i * 1)) ∧
    w.grownBy w' (Value.slice A n c).ownBlock ∧ ((Value.slice A n c).ownBlock = some g ∨ w.heap.size ≤ g)

set_option maxRecDepth 100000 in
set_option maxHeartbeats 2000000 in
theorem insS_end (w : World) (base n c vb : Nat) (A : Option Addr) (xs ys : List Value) (hyl : ys.length = 1)
    (hown : w.ownsRow base 9 1 (.slice A n c) n xs) (hv : Bk w vb 9 ys.toArray) (hbase : base ≤ w.heap.size) (hbig : (n + 1) * 16 ≤ 140737488355328) (h1y : ∀ u ∈ ys, u.oneCell' = true) :
    Calls Tryz.prog 74 #[.slice A n c, .int .i64 n, .slice (some ⟨vb, 0, none⟩) 1 1] w (InsS w base n n A c xs ys) := by
  obtain ⟨iE, hiE, hzE, hsE, hbE⟩ := info_parts Tryz.infoS
  obtain ⟨hnc, hc63⟩ := own_bounds hown
  have hxl : xs.length = n * 1 := hown.1
  have HO := Lib.hid hown
  have hvc : ∀ j u, ys[j]? = some u → w.cell? ((⟨vb, 0, none⟩ : Addr).add j) = some u := fun j u hj => by
    rw [Addr.add_lit, Nat.zero_add, hv.cell]; simpa using hj
  have HV := Lib.hid hvc
  have H1 := Lib.hid h1y
  have HB := Lib.hid hbig
  have HX := Lib.hid hxl
  have HY := Lib.hid hyl
  clear hown hvc h1y hv hbig hxl hyl
  have hc0 : (0 : Int) ≤ (n : Int) := by omega
  go_enter Tryz.func74, Tryz.ntmps74
  go_wp2_with (at_builtin; refine wpList_append_lies _ rfl _ _ 23 rfl base 9 iE (.string ByteArray.empty) 1 16 Tryz.underlying23 hiE hzE hsE hbE rfl (by decide) (.slice A n c) n xs rfl HO.out ⟨vb, 0, none⟩ 1 1 ys rfl (by have := HY.out; omega) HV.out H1.out (by decide) (by have := HB.out; unfold maxLen; omega) (by have := HB.out; omega) hbase _ rfl ?_)
  all_goals
    intro g cap w1 hown1 hgr hat hlt
    have HO1 := Lib.hid hown1
    have HG1 := Lib.hid (show w.grownBy w1 (Value.slice A n c).ownBlock by cases A <;> exact hgr)
    have HA1 := Lib.hid (show (Value.slice A n c).ownBlock = some g ∨ g = _ by cases A <;> exact hat)
    clear hown1 hgr hat
    go_wp2
    go_ret
    refine ⟨g, cap, rfl, ?_, HG1.out, ?_⟩
    · rw [List.take_of_length_le (by have := HX.out; omega), List.drop_of_length_le (by have := HX.out; omega), List.append_nil]; exact HO1.out
    · rcases HA1.out with h | h
      · exact Or.inl h
      · right; omega

set_option maxRecDepth 100000 in
set_option maxHeartbeats 4000000 in
theorem insS_room (w : World) (base n c i vb g : Nat) (xs ys : List Value) (hyl : ys.length = 1) (hi : i < n) (hroom : n + 1 ≤ c)
    (hown : w.ownsRow base 9 1 (.slice (some ⟨g, 0, none⟩) n c) n xs) (hv : Bk w vb 9 ys.toArray) (hne : vb ≠ g) (h1x : ∀ u ∈ xs, u.oneCell' = true) (h1y : ∀ u ∈ ys, u.oneCell' = true) :
    Calls Tryz.prog 74 #[.slice (some ⟨g, 0, none⟩) n c, .int .i64 i, .slice (some ⟨vb, 0, none⟩) 1 1] w (InsS w base n i (some ⟨g, 0, none⟩) c xs ys) := by
  obtain ⟨iE, hiE, hzE, hsE, hbE⟩ := info_parts Tryz.infoS
  obtain ⟨hnc, hc63⟩ := own_bounds hown
  have hxl : xs.length = n * 1 := hown.1
  have hsz : (Tryz.prog.info? 9).map (·.size) = some 1 := by rw [hiE]; simp [hsE]
  have hshg : ∃ k, w.shape? g = some (9, k) ∧ k ≠ 0 := by
    rcases hown.2 with ⟨h, _⟩ | ⟨g', c', cur, h, _, hg, _, _, hcs, _⟩
    · injection h with e; cases e
    · injection h with e _ e2
      injection e with e
      injection e with e
      subst e e2
      exact ⟨cur.size, by simp [World.shape?, hg], by omega⟩
  obtain ⟨kB, hsB, hkB⟩ := hshg
  have hsA : w.shape? vb = some (9, ys.toArray.size) := by unfold Bk at hv; simp [World.shape?, hv]
  have hov : ∀ o lb cb, (callFunc 90 #[.slice (some ⟨vb, 0, none⟩) 1 1, .slice (some ⟨g, o, none⟩) lb cb]).run Tryz.prog w = .ok (.value (.bool false)) w := fun o lb cb => by
    rw [run_callFunc_extern Tryz.func90 (by kernel_rfl) (by kernel_rfl) (by kernel_rfl) (e := Extern.SlicesOverlaps.overlaps #[23, 23] #[4]) (by kernel_rfl),
      Lib.run_overlaps_apart w 23 4 9 Tryz.underlying23 1 sizeS_any ⟨vb, 0, none⟩ ⟨g, o, none⟩ 1 1 lb cb hne 9 9 _ kB hsA hsB hkB (hv.frozen _) (hv.frozen _)]
    rfl
  obtain ⟨js, hjl, hown0⟩ := own_longer (m := 1) hown hroom
  have hsrc1 : ∀ j v, (xs.drop (i * 1))[j]? = some v → w.drew.cell? ((⟨g, i * 1, none⟩ : Addr).add j) = some v := fun j v hj => by
    have := hown.cells rfl (i * 1 + j) v (by rwa [List.getElem?_drop] at hj)
    rw [Addr.add_lit] at this ⊢
    rw [← this]
    show w.cell? _ = _
    congr 2
    omega
  obtain ⟨w1, hr1, hown1, hg1⟩ := run_copy_own (P := Tryz.prog) w.drew 23 9 base 1 g (n + 1) c (xs ++ js) 9 hown0 Tryz.underlying23 hsz ((i + 1) * 1) (n - i) ⟨g, i * 1, none⟩ (n + 1 - i) (xs.drop (i * 1))
    (by rw [List.length_drop, hxl, show Nat.min (n + 1 - i) (n - i) = n - i by simp only [Nat.min_def]; split <;> omega]; omega) hsrc1 (by rw [List.length_drop, hxl]; omega) (fun v hv => h1x v (List.mem_of_mem_drop hv))
  have hsrc2 : ∀ j v, ys[j]? = some v → w1.cell? ((⟨vb, 0, none⟩ : Addr).add j) = some v := fun j v hj => by
    have hv1 : Bk w1 vb 9 ys.toArray := (hg1.block vb hv.lt (by simpa using hne)).trans hv
    rw [Addr.add_lit, Nat.zero_add, hv1.cell]; simpa using hj
  obtain ⟨w2, hr2, hown2, hg2⟩ := run_copy_own (P := Tryz.prog) w1 23 9 base 1 g (n + 1) c _ 9 hown1 Tryz.underlying23 hsz (i * 1) (n + 1 - i) ⟨vb, 0, none⟩ 1 ys
    (by rw [hyl, show Nat.min 1 (n + 1 - i) = 1 by simp only [Nat.min_def]; split <;> omega]) hsrc2 (by omega) h1y
  have hfin : Hid (w2.ownsRow base 9 1 (.slice (some ⟨g, 0, none⟩) (n + 1) c) (n + 1) (xs.take (i * 1) ++ ys ++ xs.drop (i * 1))) := Lib.hid (by
    rw [put_between xs js ys (i * 1) ((i + 1) * 1) (by omega) (by omega) (by omega)] at hown2
    exact hown2)
  have HG := Lib.hid (grownBy_trans (show w.grownBy w1 (some g) from ⟨hg1.os, hg1.tape, hg1.output, hg1.size, hg1.block⟩) hg2)
  clear hown hown0 hown1 hown2 hg1 hg2 hsrc1 hsrc2 hv h1x h1y hsA hsB hne hjl hyl hxl hbE hzE hsz hiE hsE
  have mixed : Tryz.prog.follows .mixedOrders = true := by kernel_rfl
  have hz2 : ¬ ((i : Int) = (n : Int)) := by omega
  have hw1 : IntKind.i64.wrap ((i : Int) + 1) = (i : Int) + 1 := by rw [IntKind.wrap_i64]; omega
  have hw2 : IntKind.i64.wrap ((n : Int) + 1) = (n : Int) + 1 := by rw [IntKind.wrap_i64]; omega
  have hb1 : (0 : Int) ≤ (i : Int) + 1 := by omega
  have hb0 : (0 : Int) ≤ (n : Int) + 1 := by omega
  have hin : i ≤ n := by omega
  have htn : ((i : Int) + 1).toNat = i + 1 := by omega
  have htm : ((n : Int) + 1).toNat = n + 1 := by omega
  have hb2 : ¬ (c = i + 1) := by omega
  have hb3 : (i : Int) ≤ (n : Int) + 1 := by omega
  have hb5 : (n : Int) + 1 ≤ (c : Int) := by omega
  have hb6 : ¬ ((c : Int) < (n : Int) + 1) := by omega
  have hb4 : ¬ (c = i) := by omega
  go_enter Tryz.func74, Tryz.ntmps74
  go_wp2_with (simp only [hov])
  simp only [Nat.mul_one] at hr1 hr2
  go_region_law_o (refine step_copy_runI rfl _ _ 23 23 rfl _ _ (by simp [Act.eval, Act.put]) (by simp [Act.eval, Act.put]) (hr1 _ _ _ _) ?_)
  go_wp2_with (at_builtin; refine wpList_copy_runI _ rfl _ _ 23 23 rfl _ _ rfl rfl (hr2 _ _ _ _) ?_)
  go_ret
  exact ⟨g, c, rfl, hfin.out, HG.out, Or.inl rfl⟩

set_option maxRecDepth 100000 in
set_option maxHeartbeats 4000000 in
theorem insS_grow (w : World) (base n c i vb g : Nat) (xs ys : List Value) (hyl : ys.length = 1) (hi : i < n) (hroom : c < n + 1)
    (hown : w.ownsRow base 9 1 (.slice (some ⟨g, 0, none⟩) n c) n xs) (hv : Bk w vb 9 ys.toArray) (hbase : base ≤ w.heap.size) (hbig : (n + 1) * 16 ≤ 140737488355328) (h1x : ∀ u ∈ xs, u.oneCell' = true) (h1y : ∀ u ∈ ys, u.oneCell' = true) :
    Calls Tryz.prog 74 #[.slice (some ⟨g, 0, none⟩) n c, .int .i64 i, .slice (some ⟨vb, 0, none⟩) 1 1] w (InsS w base n i (some ⟨g, 0, none⟩) c xs ys) := by
  obtain ⟨iE, hiE, hzE, hsE, hbE⟩ := info_parts Tryz.infoS
  obtain ⟨hnc, hc63⟩ := own_bounds hown
  have hxl : xs.length = n * 1 := hown.1
  have hsz : (Tryz.prog.info? 9).map (·.size) = some 1 := by rw [hiE]; simp [hsE]
  have hgl : g < w.heap.size := (hown.lt g rfl).2
  have hnk : i + (n + 1 - i) = n + 1 := by omega
  have hXl : (xs.take (i * 1)).length = i * 1 := by rw [List.length_take, hxl]; omega
  have hold : (Builtin.firstCells iE.size i (.slice (some ⟨g, 0, none⟩) i c)).run Tryz.prog w.drew = .ok (xs.take (i * 1)).toArray w.drew := by
    rw [hsE]
    exact run_firstCells_some w.drew 1 i ⟨g, 0, none⟩ i c (xs.take (i * 1)) hXl (fun j v hj => by
      rw [List.getElem?_take] at hj
      split at hj
      · exact hown.cells rfl j v hj
      · cases hj)
  have hgrow := fun ty => Lib.run_append_grow_zeros (P := Tryz.prog) w 23 3 ty 9 iE (.string ByteArray.empty) .i64 .i64 Tryz.underlying23 Tryz.underlying3 hiE hzE (some ⟨g, 0, none⟩) i c _ hold (n + 1 - i) (by omega) (by rw [hsE]; decide) (by omega) (by omega) (by rw [hbE]; omega) (by rw [hbE, hnk]; exact growslice_fits hroom hbig)
  obtain ⟨zs, hzl, hown1, hg1⟩ := own_grown w 9 1 base i (n + 1 - i) c (.string ByteArray.empty) rfl (xs.take (i * 1)) hXl hbase (by unfold maxLen; omega)
  rw [hnk] at hgrow hown1 hg1
  have hGn : n + 1 ≤ grownCap w (n + 1) c 9 := grownCap_ge w _ _ _
  have hG63 : grownCap w (n + 1) c 9 ≤ 9223372036854775807 := grownCap_le_maxLen w (n + 1) c 9 (by unfold maxLen; omega)
  generalize grownCap w (n + 1) c 9 = G at *
  generalize hw1 : w.drew.alloc (.cells ((xs.take (i * 1)).toArray ++ Builtin.zeroCells (Value.cells (.string ByteArray.empty)) (n + 1 - i) ++ Builtin.zeroCells (Value.cells (.string ByteArray.empty)) (G - (n + 1))) 9) = w1 at *
  have hsrc1 : ∀ j v, ys[j]? = some v → w1.cell? ((⟨vb, 0, none⟩ : Addr).add j) = some v := fun j v hj => by
    have hv1 : Bk w1 vb 9 ys.toArray := (hg1.block vb hv.lt (by simp)).trans hv
    rw [Addr.add_lit, Nat.zero_add, hv1.cell]; simpa using hj
  obtain ⟨w2, hr1, hown2, hg2⟩ := run_copy_own (P := Tryz.prog) w1 23 9 base 1 w.heap.size (n + 1) G _ 9 hown1 Tryz.underlying23 hsz (i * 1) (n + 1 - i) ⟨vb, 0, none⟩ 1 ys
    (by rw [hyl, show Nat.min 1 (n + 1 - i) = 1 by simp only [Nat.min_def]; split <;> omega]) hsrc1 (by omega) h1y
  have hsrc2 : ∀ j v, (xs.drop (i * 1))[j]? = some v → w2.drew.cell? ((⟨g, i * 1, none⟩ : Addr).add j) = some v := fun j v hj => by
    have h := hown.cells rfl (i * 1 + j) v (by rwa [List.getElem?_drop] at hj)
    have h' := hg2.cell (hg1.cell h (by simp)) (by rw [Addr.add_lit]; simp; omega)
    rw [Addr.add_lit] at h' ⊢
    rw [← h']
    show w2.cell? _ = _
    congr 2
    omega
  obtain ⟨w3, hr2, hown3, hg3⟩ := run_copy_own (P := Tryz.prog) w2.drew 23 9 base 1 w.heap.size (n + 1) G _ 9 hown2 Tryz.underlying23 hsz ((i + 1) * 1) (n - i) ⟨g, i * 1, none⟩ (n - i) (xs.drop (i * 1))
    (by rw [List.length_drop, hxl, show Nat.min (n - i) (n - i) = n - i from Nat.min_self _]; omega) hsrc2 (by rw [List.length_drop, hxl]; omega) (fun v hv => h1x v (List.mem_of_mem_drop hv))
  have hfin : Hid (w3.ownsRow base 9 1 (.slice (some ⟨w.heap.size, 0, none⟩) (n + 1) G) (n + 1) (xs.take (i * 1) ++ ys ++ xs.drop (i * 1))) := Lib.hid (by
    rw [put_fresh (xs.take (i * 1)) zs ys (xs.drop (i * 1)) (i * 1) ((i + 1) * 1) hXl (by omega) (by rw [List.length_drop]; omega)] at hown3
    exact hown3)
  have HG : Hid (w.grownBy w3 (some g)) := Lib.hid (grown_any (grown_far (grown_far hg1 hg2 (Nat.le_refl _)) (show w2.grownBy w3 _ from ⟨hg3.os, hg3.tape, hg3.output, hg3.size, hg3.block⟩) (Nat.le_refl _)))
  clear hown hown1 hown2 hown3 hg1 hg2 hg3 hsrc1 hsrc2 hv h1x h1y hyl hxl hbE hzE hsz hiE hsE hold hXl hzl hbig hbase
  have mixed : Tryz.prog.follows .mixedOrders = true := by kernel_rfl
  have hkk : (((n + 1 - i : Nat) : Int)) = (n : Int) + 1 - (i : Int) := by omega
  rw [hkk] at hgrow
  have hz2 : ¬ ((i : Int) = (n : Int)) := by omega
  have hz3 : (c : Int) < (n : Int) + 1 := by omega
  have hw4 : IntKind.i64.wrap ((i : Int) + 1) = (i : Int) + 1 := by rw [IntKind.wrap_i64]; omega
  have hw2 : IntKind.i64.wrap ((n : Int) + 1) = (n : Int) + 1 := by rw [IntKind.wrap_i64]; omega
  have hw3 : IntKind.i64.wrap ((n : Int) + 1 - (i : Int)) = (n : Int) + 1 - (i : Int) := by rw [IntKind.wrap_i64]; omega
  have hb1 : (0 : Int) ≤ (i : Int) + 1 := by omega
  have hb0 : (0 : Int) ≤ (n : Int) + 1 := by omega
  have hin : i ≤ n := by omega
  have htn : ((i : Int) + 1).toNat = i + 1 := by omega
  have htm : ((n : Int) + 1).toNat = n + 1 := by omega
  have hb2 : ¬ (G = i + 1) := by omega
  have hb3 : (i : Int) ≤ (n : Int) + 1 := by omega
  have hb7 : (i : Int) ≤ (n : Int) := by omega
  have hb4 : ¬ (c = i) := by omega
  have hb8 : ¬ (G = i) := by omega
  simp only [Nat.mul_one] at hr1 hr2
  go_enter Tryz.func74, Tryz.ntmps74
  go_wp2_with (first
    | (at_builtin; refine Lib.wpList_append_run _ rfl _ _ _ _ rfl _ _ rfl rfl _ _ (hgrow _) ?_)
    | (at_builtin; refine wpList_copy_runI _ rfl _ _ 23 23 rfl _ _ rfl rfl (hr1 _ _ _ _) ?_))
  go_region_law_o (refine step_copy_runI rfl _ _ 23 23 rfl _ _ (by simp [Act.eval, Act.put]) (by simp [Act.eval, Act.put]) (hr2 _ _ _ _) ?_)
  go_wp2
  go_ret
  exact ⟨w.heap.size, G, rfl, hfin.out, HG.out, Or.inr (Nat.le_refl _)⟩

theorem insS_any (w : World) (base n c i vb : Nat) (A : Option Addr) (xs ys : List Value) (hyl : ys.length = 1) (hi : i ≤ n)
    (hown : w.ownsRow base 9 1 (.slice A n c) n xs) (hv : Bk w vb 9 ys.toArray) (hne : some vb ≠ (Value.slice A n c).ownBlock) (hbase : base ≤ w.heap.size) (hbig : (n + 1) * 16 ≤ 140737488355328)
    (h1x : ∀ u ∈ xs, u.oneCell' = true) (h1y : ∀ u ∈ ys, u.oneCell' = true) :
    Calls Tryz.prog 74 #[.slice A n c, .int .i64 i, .slice (some ⟨vb, 0, none⟩) 1 1] w (InsS w base n i A c xs ys) := by
  rcases Nat.eq_or_lt_of_le hi with rfl | hlt
  · exact insS_end w base i c vb A xs ys hyl hown hv hbase hbig h1y
  · obtain ⟨g, cap, e, _, _⟩ := hown.form (by omega)
    injection e with e1 _ e2
    subst e1 e2
    by_cases hr : n + 1 ≤ c
    · exact insS_room w base n c i vb g xs ys hyl hlt hr hown hv (fun e => hne (by rw [e]; rfl)) h1x h1y
    · exact insS_grow w base n c i vb g xs ys hyl hlt (by omega) hown hv hbase hbig h1x h1y

theorem sizeV_any (w : World) : (Go.sizeOf 25).run Tryz.prog w = .ok 5 w := by
  obtain ⟨i, hi, hz, hs, hb⟩ := info_parts Tryz.infoV
  simp [Go.sizeOf, typeInfo, hi, hs]
/-- what an Insert gives -/
def InsV (w : World) (base n i : Nat) (A : Option Addr) (c : Nat) (xs ys : List Value) (e : Ending) (w' : World) : Prop :=
  ∃ g c', e = .returned (.slice (some ⟨g, 0, none⟩) (n + 1) c') ∧ w'.ownsRow base 25 5 (.slice (some ⟨g, 0, none⟩) (n + 1) c') (n + 1) (xs.take (i * 5) ++ ys ++ xs.drop (i * 5)) ∧
    w.grownBy w' (Value.slice A n c).ownBlock ∧ ((Value.slice A n c).ownBlock = some g ∨ w.heap.size ≤ g)

set_option maxRecDepth 100000 in
set_option maxHeartbeats 2000000 in
theorem insV_end (w : World) (base n c vb : Nat) (A : Option Addr) (xs ys : List Value) (hyl : ys.length = 5)
    (hown : w.ownsRow base 25 5 (.slice A n c) n xs) (hv : Bk w vb 25 ys.toArray) (hbase : base ≤ w.heap.size) (hbig : (n + 1) * 80 ≤ 140737488355328) (h1y : ∀ u ∈ ys, u.oneCell' = true) :
    Calls Tryz.prog 75 #[.slice A n c, .int .i64 n, .slice (some ⟨vb, 0, none⟩) 1 1] w (InsV w base n n A c xs ys) := by
  obtain ⟨iE, hiE, hzE, hsE, hbE⟩ := info_parts Tryz.infoV
  obtain ⟨hnc, hc63⟩ := own_bounds hown
  have hxl : xs.length = n * 5 := hown.1
  have HO := Lib.hid hown
  have hvc : ∀ j u, ys[j]? = some u → w.cell? ((⟨vb, 0, none⟩ : Addr).add j) = some u := fun j u hj => by
    rw [Addr.add_lit, Nat.zero_add, hv.cell]; simpa using hj
  have HV := Lib.hid hvc
  have H1 := Lib.hid h1y
  have HB := Lib.hid hbig
  have HX := Lib.hid hxl
  have HY := Lib.hid hyl
  clear hown hvc h1y hv hbig hxl hyl
  have hc0 : (0 : Int) ≤ (n : Int) := by omega
  go_enter Tryz.func75, Tryz.ntmps75
  go_wp2_with (at_builtin; refine wpList_append_lies _ rfl _ _ 22 rfl base 25 iE (.agg #[.int .i64 0, .int .i64 0, .string ByteArray.empty, .slice none 0 0, .slice none 0 0]) 5 80 Tryz.underlying22 hiE hzE hsE hbE rfl (by decide) (.slice A n c) n xs rfl HO.out ⟨vb, 0, none⟩ 1 1 ys rfl (by have := HY.out; omega) HV.out H1.out (by decide) (by have := HB.out; unfold maxLen; omega) (by have := HB.out; omega) hbase _ rfl ?_)
  all_goals
    intro g cap w1 hown1 hgr hat hlt
    have HO1 := Lib.hid hown1
    have HG1 := Lib.hid (show w.grownBy w1 (Value.slice A n c).ownBlock by cases A <;> exact hgr)
    have HA1 := Lib.hid (show (Value.slice A n c).ownBlock = some g ∨ g = _ by cases A <;> exact hat)
    clear hown1 hgr hat
    go_wp2
    go_ret
    refine ⟨g, cap, rfl, ?_, HG1.out, ?_⟩
    · rw [List.take_of_length_le (by have := HX.out; omega), List.drop_of_length_le (by have := HX.out; omega), List.append_nil]; exact HO1.out
    · rcases HA1.out with h | h
      · exact Or.inl h
      · right; omega

set_option maxRecDepth 100000 in
set_option maxHeartbeats 4000000 in
theorem insV_room (w : World) (base n c i vb g : Nat) (xs ys : List Value) (hyl : ys.length = 5) (hi : i < n) (hroom : n + 1 ≤ c)
    (hown : w.ownsRow base 25 5 (.slice (some ⟨g, 0, none⟩) n c) n xs) (hv : Bk w vb 25 ys.toArray) (hne : vb ≠ g) (h1x : ∀ u ∈ xs, u.oneCell' = true) (h1y : ∀ u ∈ ys, u.oneCell' = true) :
    Calls Tryz.prog 75 #[.slice (some ⟨g, 0, none⟩) n c, .int .i64 i, .slice (some ⟨vb, 0, none⟩) 1 1] w (InsV w base n i (some ⟨g, 0, none⟩) c xs ys) := by
  obtain ⟨iE, hiE, hzE, hsE, hbE⟩ := info_parts Tryz.infoV
  obtain ⟨hnc, hc63⟩ := own_bounds hown
  have hxl : xs.length = n * 5 := hown.1
  have hsz : (Tryz.prog.info? 25).map (·.size) = some 5 := by rw [hiE]; simp [hsE]
  have hshg : ∃ k, w.shape? g = some (25, k) ∧ k ≠ 0 := by
    rcases hown.2 with ⟨h, _⟩ | ⟨g', c', cur, h, _, hg, _, _, hcs, _⟩
    · injection h with e; cases e
    · injection h with e _ e2
      injection e with e
      injection e with e
      subst e e2
      exact ⟨cur.size, by simp [World.shape?, hg], by omega⟩
  obtain ⟨kB, hsB, hkB⟩ := hshg
  have hsA : w.shape? vb = some (25, ys.toArray.size) := by unfold Bk at hv; simp [World.shape?, hv]
  have hov : ∀ o lb cb, (callFunc 92 #[.slice (some ⟨vb, 0, none⟩) 1 1, .slice (some ⟨g, o, none⟩) lb cb]).run Tryz.prog w = .ok (.value (.bool false)) w := fun o lb cb => by
    rw [run_callFunc_extern Tryz.func92 (by kernel_rfl) (by kernel_rfl) (by kernel_rfl) (e := Extern.SlicesOverlaps.overlaps #[22, 22] #[4]) (by kernel_rfl),
      Lib.run_overlaps_apart w 22 4 25 Tryz.underlying22 5 sizeV_any ⟨vb, 0, none⟩ ⟨g, o, none⟩ 1 1 lb cb hne 25 25 _ kB hsA hsB hkB (hv.frozen _) (hv.frozen _)]
    rfl
  obtain ⟨js, hjl, hown0⟩ := own_longer (m := 1) hown hroom
  have hsrc1 : ∀ j v, (xs.drop (i * 5))[j]? = some v → w.drew.cell? ((⟨g, i * 5, none⟩ : Addr).add j) = some v := fun j v hj => by
    have := hown.cells rfl (i * 5 + j) v (by rwa [List.getElem?_drop] at hj)
    rw [Addr.add_lit] at this ⊢
    rw [← this]
    show w.cell? _ = _
    congr 2
    omega
  obtain ⟨w1, hr1, hown1, hg1⟩ := run_copy_own (P := Tryz.prog) w.drew 22 25 base 5 g (n + 1) c (xs ++ js) 25 hown0 Tryz.underlying22 hsz ((i + 1) * 5) (n - i) ⟨g, i * 5, none⟩ (n + 1 - i) (xs.drop (i * 5))
    (by rw [List.length_drop, hxl, show Nat.min (n + 1 - i) (n - i) = n - i by simp only [Nat.min_def]; split <;> omega]; omega) hsrc1 (by rw [List.length_drop, hxl]; omega) (fun v hv => h1x v (List.mem_of_mem_drop hv))
  have hsrc2 : ∀ j v, ys[j]? = some v → w1.cell? ((⟨vb, 0, none⟩ : Addr).add j) = some v := fun j v hj => by
    have hv1 : Bk w1 vb 25 ys.toArray := (hg1.block vb hv.lt (by simpa using hne)).trans hv
    rw [Addr.add_lit, Nat.zero_add, hv1.cell]; simpa using hj
  obtain ⟨w2, hr2, hown2, hg2⟩ := run_copy_own (P := Tryz.prog) w1 22 25 base 5 g (n + 1) c _ 25 hown1 Tryz.underlying22 hsz (i * 5) (n + 1 - i) ⟨vb, 0, none⟩ 1 ys
    (by rw [hyl, show Nat.min 1 (n + 1 - i) = 1 by simp only [Nat.min_def]; split <;> omega]) hsrc2 (by omega) h1y
  have hfin : Hid (w2.ownsRow base 25 5 (.slice (some ⟨g, 0, none⟩) (n + 1) c) (n + 1) (xs.take (i * 5) ++ ys ++ xs.drop (i * 5))) := Lib.hid (by
    rw [put_between xs js ys (i * 5) ((i + 1) * 5) (by omega) (by omega) (by omega)] at hown2
    exact hown2)
  have HG := Lib.hid (grownBy_trans (show w.grownBy w1 (some g) from ⟨hg1.os, hg1.tape, hg1.output, hg1.size, hg1.block⟩) hg2)
  clear hown hown0 hown1 hown2 hg1 hg2 hsrc1 hsrc2 hv h1x h1y hsA hsB hne hjl hyl hxl hbE hzE hsz hiE hsE
  have mixed : Tryz.prog.follows .mixedOrders = true := by kernel_rfl
  have hz2 : ¬ ((i : Int) = (n : Int)) := by omega
  have hw1 : IntKind.i64.wrap ((i : Int) + 1) = (i : Int) + 1 := by rw [IntKind.wrap_i64]; omega
  have hw2 : IntKind.i64.wrap ((n : Int) + 1) = (n : Int) + 1 := by rw [IntKind.wrap_i64]; omega
  have hb1 : (0 : Int) ≤ (i : Int) + 1 := by omega
  have hb0 : (0 : Int) ≤ (n : Int) + 1 := by omega
  have hin : i ≤ n := by omega
  have htn : ((i : Int) + 1).toNat = i + 1 := by omega
  have htm : ((n : Int) + 1).toNat = n + 1 := by omega
  have hb2 : ¬ (c = i + 1) := by omega
  have hb3 : (i : Int) ≤ (n : Int) + 1 := by omega
  have hb5 : (n : Int) + 1 ≤ (c : Int) := by omega
  have hb6 : ¬ ((c : Int) < (n : Int) + 1) := by omega
  have hb4 : ¬ (c = i) := by omega
  go_enter Tryz.func75, Tryz.ntmps75
  go_wp2_with (simp only [hov])
  skip
  go_region_law_o (refine step_copy_runI rfl _ _ 22 22 rfl _ _ (by simp [Act.eval, Act.put]) (by simp [Act.eval, Act.put]) (hr1 _ _ _ _) ?_)
  go_wp2_with (at_builtin; refine wpList_copy_runI _ rfl _ _ 22 22 rfl _ _ rfl rfl (hr2 _ _ _ _) ?_)
  go_ret
  exact ⟨g, c, rfl, hfin.out, HG.out, Or.inl rfl⟩

set_option maxRecDepth 100000 in
set_option maxHeartbeats 4000000 in
theorem insV_grow (w : World) (base n c i vb g : Nat) (xs ys : List Value) (hyl : ys.length = 5) (hi : i < n) (hroom : c < n + 1)
    (hown : w.ownsRow base 25 5 (.slice (some ⟨g, 0, none⟩) n c) n xs) (hv : Bk w vb 25 ys.toArray) (hbase : base ≤ w.heap.size) (hbig : (n + 1) * 80 ≤ 140737488355328) (h1x : ∀ u ∈ xs, u.oneCell' = true) (h1y : ∀ u ∈ ys, u.oneCell' = true) :
    Calls Tryz.prog 75 #[.slice (some ⟨g, 0, none⟩) n c, .int .i64 i, .slice (some ⟨vb, 0, none⟩) 1 1] w (InsV w base n i (some ⟨g, 0, none⟩) c xs ys) := by
  obtain ⟨iE, hiE, hzE, hsE, hbE⟩ := info_parts Tryz.infoV
  obtain ⟨hnc, hc63⟩ := own_bounds hown
  have hxl : xs.length = n * 5 := hown.1
  have hsz : (Tryz.prog.info? 25).map (·.size) = some 5 := by rw [hiE]; simp [hsE]
  have hgl : g < w.heap.size := (hown.lt g rfl).2
  have hnk : i + (n + 1 - i) = n + 1 := by omega
  have hXl : (xs.take (i * 5)).length = i * 5 := by rw [List.length_take, hxl]; omega
  have hold : (Builtin.firstCells iE.size i (.slice (some ⟨g, 0, none⟩) i c)).run Tryz.prog w.drew = .ok (xs.take (i * 5)).toArray w.drew := by
    rw [hsE]
    exact run_firstCells_some w.drew 5 i ⟨g, 0, none⟩ i c (xs.take (i * 5)) hXl (fun j v hj => by
      rw [List.getElem?_take] at hj
      split at hj
      · exact hown.cells rfl j v hj
      · cases hj)
  have hgrow := fun ty => Lib.run_append_grow_zeros (P := Tryz.prog) w 22 3 ty 25 iE (.agg #[.int .i64 0, .int .i64 0, .string ByteArray.empty, .slice none 0 0, .slice none 0 0]) .i64 .i64 Tryz.underlying22 Tryz.underlying3 hiE hzE (some ⟨g, 0, none⟩) i c _ hold (n + 1 - i) (by omega) (by rw [hsE]; decide) (by omega) (by omega) (by rw [hbE]; omega) (by rw [hbE, hnk]; exact growslice_fits hroom hbig)
  obtain ⟨zs, hzl, hown1, hg1⟩ := own_grown w 25 5 base i (n + 1 - i) c (.agg #[.int .i64 0, .int .i64 0, .string ByteArray.empty, .slice none 0 0, .slice none 0 0]) rfl (xs.take (i * 5)) hXl hbase (by unfold maxLen; omega)
  rw [hnk] at hgrow hown1 hg1
  have hGn : n + 1 ≤ grownCap w (n + 1) c 25 := grownCap_ge w _ _ _
  have hG63 : grownCap w (n + 1) c 25 ≤ 9223372036854775807 := grownCap_le_maxLen w (n + 1) c 25 (by unfold maxLen; omega)
  generalize grownCap w (n + 1) c 25 = G at *
  generalize hw1 : w.drew.alloc (.cells ((xs.take (i * 5)).toArray ++ Builtin.zeroCells (Value.cells (.agg #[.int .i64 0, .int .i64 0, .string ByteArray.empty, .slice none 0 0, .slice none 0 0])) (n + 1 - i) ++ Builtin.zeroCells (Value.cells (.agg #[.int .i64 0, .int .i64 0, .string ByteArray.empty, .slice none 0 0, .slice none 0 0])) (G - (n + 1))) 25) = w1 at *
  have hsrc1 : ∀ j v, ys[j]? = some v → w1.cell? ((⟨vb, 0, none⟩ : Addr).add j) = some v := fun j v hj => by
    have hv1 : Bk w1 vb 25 ys.toArray := (hg1.block vb hv.lt (by simp)).trans hv
    rw [Addr.add_lit, Nat.zero_add, hv1.cell]; simpa using hj
  obtain ⟨w2, hr1, hown2, hg2⟩ := run_copy_own (P := Tryz.prog) w1 22 25 base 5 w.heap.size (n + 1) G _ 25 hown1 Tryz.underlying22 hsz (i * 5) (n + 1 - i) ⟨vb, 0, none⟩ 1 ys
    (by rw [hyl, show Nat.min 1 (n + 1 - i) = 1 by simp only [Nat.min_def]; split <;> omega]) hsrc1 (by omega) h1y
  have hsrc2 : ∀ j v, (xs.drop (i * 5))[j]? = some v → w2.drew.cell? ((⟨g, i * 5, none⟩ : Addr).add j) = some v := fun j v hj => by
    have h := hown.cells rfl (i * 5 + j) v (by rwa [List.getElem?_drop] at hj)
    have h' := hg2.cell (hg1.cell h (by simp)) (by rw [Addr.add_lit]; simp; omega)
    rw [Addr.add_lit] at h' ⊢
    rw [← h']
    show w2.cell? _ = _
    congr 2
    omega
  obtain ⟨w3, hr2, hown3, hg3⟩ := run_copy_own (P := Tryz.prog) w2.drew 22 25 base 5 w.heap.size (n + 1) G _ 25 hown2 Tryz.underlying22 hsz ((i + 1) * 5) (n - i) ⟨g, i * 5, none⟩ (n - i) (xs.drop (i * 5))
    (by rw [List.length_drop, hxl, show Nat.min (n - i) (n - i) = n - i from Nat.min_self _]; omega) hsrc2 (by rw [List.length_drop, hxl]; omega) (fun v hv => h1x v (List.mem_of_mem_drop hv))
  have hfin : Hid (w3.ownsRow base 25 5 (.slice (some ⟨w.heap.size, 0, none⟩) (n + 1) G) (n + 1) (xs.take (i * 5) ++ ys ++ xs.drop (i * 5))) := Lib.hid (by
    rw [put_fresh (xs.take (i * 5)) zs ys (xs.drop (i * 5)) (i * 5) ((i + 1) * 5) hXl (by omega) (by rw [List.length_drop]; omega)] at hown3
    exact hown3)
  have HG : Hid (w.grownBy w3 (some g)) := Lib.hid (grown_any (grown_far (grown_far hg1 hg2 (Nat.le_refl _)) (show w2.grownBy w3 _ from ⟨hg3.os, hg3.tape, hg3.output, hg3.size, hg3.block⟩) (Nat.le_refl _)))
  clear hown hown1 hown2 hown3 hg1 hg2 hg3 hsrc1 hsrc2 hv h1x h1y hyl hxl hbE hzE hsz hiE hsE hold hXl hzl hbig hbase
  have mixed : Tryz.prog.follows .mixedOrders = true := by kernel_rfl
  have hkk : (((n + 1 - i : Nat) : Int)) = (n : Int) + 1 - (i : Int) := by omega
  rw [hkk] at hgrow
  have hz2 : ¬ ((i : Int) = (n : Int)) := by omega
  have hz3 : (c : Int) < (n : Int) + 1 := by omega
  have hw4 : IntKind.i64.wrap ((i : Int) + 1) = (i : Int) + 1 := by rw [IntKind.wrap_i64]; omega
  have hw2 : IntKind.i64.wrap ((n : Int) + 1) = (n : Int) + 1 := by rw [IntKind.wrap_i64]; omega
  have hw3 : IntKind.i64.wrap ((n : Int) + 1 - (i : Int)) = (n : Int) + 1 - (i : Int) := by rw [IntKind.wrap_i64]; omega
  have hb1 : (0 : Int) ≤ (i : Int) + 1 := by omega
  have hb0 : (0 : Int) ≤ (n : Int) + 1 := by omega
  have hin : i ≤ n := by omega
  have htn : ((i : Int) + 1).toNat = i + 1 := by omega
  have htm : ((n : Int) + 1).toNat = n + 1 := by omega
  have hb2 : ¬ (G = i + 1) := by omega
  have hb3 : (i : Int) ≤ (n : Int) + 1 := by omega
  have hb7 : (i : Int) ≤ (n : Int) := by omega
  have hb4 : ¬ (c = i) := by omega
  have hb8 : ¬ (G = i) := by omega
  skip
  go_enter Tryz.func75, Tryz.ntmps75
  go_wp2_with (first
    | (at_builtin; refine Lib.wpList_append_run _ rfl _ _ _ _ rfl _ _ rfl rfl _ _ (hgrow _) ?_)
    | (at_builtin; refine wpList_copy_runI _ rfl _ _ 22 22 rfl _ _ rfl rfl (hr1 _ _ _ _) ?_))
  go_region_law_o (refine step_copy_runI rfl _ _ 22 22 rfl _ _ (by simp [Act.eval, Act.put]) (by simp [Act.eval, Act.put]) (hr2 _ _ _ _) ?_)
  go_wp2
  go_ret
  exact ⟨w.heap.size, G, rfl, hfin.out, HG.out, Or.inr (Nat.le_refl _)⟩

theorem insV_any (w : World) (base n c i vb : Nat) (A : Option Addr) (xs ys : List Value) (hyl : ys.length = 5) (hi : i ≤ n)
    (hown : w.ownsRow base 25 5 (.slice A n c) n xs) (hv : Bk w vb 25 ys.toArray) (hne : some vb ≠ (Value.slice A n c).ownBlock) (hbase : base ≤ w.heap.size) (hbig : (n + 1) * 80 ≤ 140737488355328)
    (h1x : ∀ u ∈ xs, u.oneCell' = true) (h1y : ∀ u ∈ ys, u.oneCell' = true) :
    Calls Tryz.prog 75 #[.slice A n c, .int .i64 i, .slice (some ⟨vb, 0, none⟩) 1 1] w (InsV w base n i A c xs ys) := by
  rcases Nat.eq_or_lt_of_le hi with rfl | hlt
  · exact insV_end w base i c vb A xs ys hyl hown hv hbase hbig h1y
  · obtain ⟨g, cap, e, _, _⟩ := hown.form (by omega)
    injection e with e1 _ e2
    subst e1 e2
    by_cases hr : n + 1 ≤ c
    · exact insV_room w base n c i vb g xs ys hyl hlt hr hown hv (fun e => hne (by rw [e]; rfl)) h1x h1y
    · exact insV_grow w base n c i vb g xs ys hyl hlt (by omega) hown hv hbase hbig h1x h1y
end Go.Proofs.YtlgmhhimbabkjaaGreatDoor
namespace Go.Proofs.YtlgmhhimbabkjaaGreatDoor
open Go.RowKit

def boolV (b : Bool) : Value := .agg #[.int .i64 1, .int .i64 (if b = true then 1 else 0), .string ⟨#[]⟩, .slice none 0 0, .slice none 0 0]
set_option maxHeartbeats 400000 in
theorem Bool_any (b : Bool) (w : World) : Calls Tryz.prog 44 #[.bool b] w (Gives (boolV b) w) := by
  cases b with
  | true =>
    go_enter Tryz.func44, Tryz.ntmps44
    go_wp2
    obtain ⟨wf, hwf⟩ : ∃ wf, wf = w.alloc (.cells #[.int .i64 1, .int .i64 1, .string ⟨#[]⟩, .slice none 0 0, .slice none 0 0] 25) := ⟨_, rfl⟩
    have QF : Hid (Bk wf w.heap.size 25 #[.int .i64 1, .int .i64 1, .string ⟨#[]⟩, .slice none 0 0, .slice none 0 0]) := Lib.hid (by rw [hwf]; exact Bk.new _ _ _)
    rw [← hwf]
    refine bodyPost_ret (results_cell_row rfl _ _ w.heap.size 25 _ (0, 0) _ rfl QF.out Tryz.underlying25 rfl (by kernel_rfl)) rfl ?_
    exact ⟨rfl, by rw [hwf]; exact below_one _ _⟩
  | false =>
    go_enter Tryz.func44, Tryz.ntmps44
    go_wp2
    obtain ⟨wf, hwf⟩ : ∃ wf, wf = w.alloc (.cells #[.int .i64 1, .int .i64 0, .string ⟨#[]⟩, .slice none 0 0, .slice none 0 0] 25) := ⟨_, rfl⟩
    have QF : Hid (Bk wf w.heap.size 25 #[.int .i64 1, .int .i64 0, .string ⟨#[]⟩, .slice none 0 0, .slice none 0 0]) := Lib.hid (by rw [hwf]; exact Bk.new _ _ _)
    rw [← hwf]
    refine bodyPost_ret (results_cell_row rfl _ _ w.heap.size 25 _ (0, 0) _ rfl QF.out Tryz.underlying25 rfl (by kernel_rfl)) rfl ?_
    exact ⟨rfl, by rw [hwf]; exact below_one _ _⟩

/-- a value that only reads through what is below the heap's end -/
def MakesL (y : VT) (w : World) (e : Ending) (w' : World) : Prop := ∃ v, e = .returned v ∧ Lies w' (Lo w') y v ∧ Below w.heap.size w w'
end Go.Proofs.YtlgmhhimbabkjaaGreatDoor
namespace Go.Proofs.YtlgmhhimbabkjaaGreatDoor
open Go.RowKit

/-- what the parser's value hands back -/
def ValR (r : PR (VT × Nat)) (p : Nat) (s : ByteArray) (w : World) (e : Ending) (w' : World) : Prop :=
  (∃ (k i : Int) (t : ByteArray) (A : Option Addr) (m c : Nat) (A' : Option Addr) (m' c' : Nat) (x : VT) (n j : Nat), e = .returned (.agg #[.int .i64 k, .int .i64 i, .string t, .slice A m c, .slice A' m' c']) ∧
    Hid (r = .ok (x, n) j) ∧ Hid (Lies w' (New w w') x (.agg #[.int .i64 k, .int .i64 i, .string t, .slice A m c, .slice A' m' c'])) ∧ Hid (Ps w' p s j n) ∧ Hid (FrS (One p) w w')) ∨
  ∃ j c, Hid (r = .err j c) ∧ e = fault j c ∧ Hid (FrS (One p) w w')
/-- the contract of value with so many levels below -/
def ValC (k : Nat) : Prop := ∀ (w : World) (p : Nat) (s : ByteArray) (i n : Nat) (d : Int), d + (k : Int) = 17 → 1 ≤ d → Ps w p s i n → Ev w p →
  Calls Tryz.prog 24 #[.pointer (some ⟨p, 0, none⟩), .int .i64 d] w (ValR (valP s.data.toList k i n) p s w)
end Go.Proofs.YtlgmhhimbabkjaaGreatDoor
namespace Go.Proofs.YtlgmhhimbabkjaaGreatDoor
open Go.RowKit

/-- what value of the reference hands back: the value and the state behind it; or some five cells, and the fault in the state -/
def RvalR (r : PR (VT × Nat)) (p : Nat) (s : ByteArray) (w : World) (e : Ending) (w' : World) : Prop :=
  Hid (FrS (One p) w w') ∧ ∃ (k i : Int) (t : ByteArray) (A : Option Addr) (m c : Nat) (A' : Option Addr) (m' c' : Nat), e = .returned (.agg #[.int .i64 k, .int .i64 i, .string t, .slice A m c, .slice A' m' c']) ∧
    ((∃ (x : VT) (n j : Nat), Hid (r = .ok (x, n) j) ∧ Hid (Lies w' (New w w') x (.agg #[.int .i64 k, .int .i64 i, .string t, .slice A m c, .slice A' m' c'])) ∧ Hid (Rn w' p s j n)) ∨ ∃ j q, Hid (r = .err j q) ∧ Hid (Bad w' p s j q))
/-- the contract of value with so many levels below -/
def RvalC (k : Nat) : Prop := ∀ (w : World) (p : Nat) (s : ByteArray) (i n : Nat) (d : Int), d + (k : Int) = 17 → 1 ≤ d → Rn w p s i n →
  Calls Tryz.prog 27 #[.pointer (some ⟨p, 0, none⟩), .int .i64 d] w (RvalR (valP s.data.toList k i n) p s w)
/-- the zero value as an error's companion -/
theorem RvalR.zero {r : PR (VT × Nat)} {p : Nat} {s : ByteArray} {w w' : World} {j : Nat} {q : Int} (hf : FrS (One p) w w') (hr : r = .err j q) (hb : Bad w' p s j q) : RvalR r p s w (.returned zeroV) w' :=
  ⟨Lib.hid hf, 0, 0, ⟨#[]⟩, none, 0, 0, none, 0, 0, rfl, .inr ⟨j, q, Lib.hid hr, Lib.hid hb⟩⟩
end Go.Proofs.YtlgmhhimbabkjaaGreatDoor
