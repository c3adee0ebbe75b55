/-
  Copies within and into rows that are the call's own, at any size of an element; a row with an element put in between.
-/
import Derived.Test.YtjblchdfkcbodaaGreatDoorVow
import Derived.Deep.AppendLies
import Derived.Lib.AppendZerosOnto
import Derived.Lib.Overlaps
import Derived.Laws.CopyRow
import Derived.Laws.OwnMore
import Derived.Laws.Externs
namespace Go.Proofs.YtjblchdfkcbodaaGreatDoor
open Go.RowKit

section
variable {P : Program}
/-- copy into a row, of elements of any size -/
theorem run_copy_rowK (w : World) (dT sT ty elem : TypeId) (k g o dLen dCap : Nat) (a : Addr) (sLen sCap : Nat) (cur : Array Value) (t : TypeId) (cs : List Value)
    (hu : P.underlying dT = some (.slice elem)) (hs : (P.info? elem).map (·.size) = some k)
    (hg : w.heap[g]? = some (.cells cur t (0, 0))) (hn : cs.length = Nat.min sLen dLen * k)
    (hsrc : ∀ j v, cs[j]? = some v → w.cell? (a.add j) = some v) (hfit : o + cs.length ≤ cur.size) (h1 : ∀ v ∈ cs, v.oneCell' = true) :
    (Builtin.copy_ #[dT, sT] ty #[.slice (some ⟨g, o, none⟩) dLen dCap, .slice (some a) sLen sCap]).run P w =
      .ok (goInt (Nat.min sLen dLen)) (w.setRow g (cur.toList.take o ++ cs ++ cur.toList.drop (o + cs.length)).toArray) := by
  have hl := run_loadCells_list (P := P) w a cs hsrc
  rw [hn] at hl
  have hst := run_storeCells_at P g o t cs 0 cur w hg (by simpa using hfit) h1
  cases hq : P.info? elem with
  | none => simp [hq] at hs
  | some i =>
    have hi : i.size = k := by simpa [hq] using hs
    subst hi
    simp [Builtin.copy_, run_underlying hu, Builtin.lenOf, Builtin.firstCells, sizeOf, typeInfo, hq, hl, hst]

/-- .. where the row is the call's own -/
theorem run_copy_own (w : World) (dT elem : TypeId) (base k g n cap : Nat) (xs : List Value) (e : TypeId) (h : w.ownsRow base e k (.slice (some ⟨g, 0, none⟩) n cap) n xs)
    (hu : P.underlying dT = some (.slice elem)) (hs : (P.info? elem).map (·.size) = some k) (o dLen : Nat) (a : Addr) (sLen : Nat) (cs : List Value) (hn : cs.length = Nat.min sLen dLen * k)
    (hsrc : ∀ j v, cs[j]? = some v → w.cell? (a.add j) = some v) (hfit : o + cs.length ≤ n * k) (h1 : ∀ v ∈ cs, v.oneCell' = true) :
    ∃ w' : World, (∀ sT ty dCap sCap, (Builtin.copy_ #[dT, sT] ty #[.slice (some ⟨g, o, none⟩) dLen dCap, .slice (some a) sLen sCap]).run P w = .ok (goInt (Nat.min sLen dLen)) w') ∧
      w'.ownsRow base e k (.slice (some ⟨g, 0, none⟩) n cap) n (xs.take o ++ cs ++ xs.drop (o + cs.length)) ∧ w.grownBy w' (some g) := by
  obtain ⟨hl, ⟨hv, _⟩ | ⟨g', cap', cur, hv, hb, hg, hnc, hcm, hsz, ht⟩⟩ := h
  · injection hv with e1; cases e1
  · injection hv with e1 _ e2
    injection e1 with e1
    injection e1 with e1
    subst e1 e2
    have hnk : n * k ≤ cap * k := Nat.mul_le_mul_right k hnc
    refine ⟨w.setRow g (cur.toList.take o ++ cs ++ cur.toList.drop (o + cs.length)).toArray, fun sT ty dCap sCap => run_copy_rowK w dT sT ty elem k g o dLen dCap a sLen sCap cur e cs hu hs hg hn hsrc (by omega) h1, ⟨?_, Or.inr ⟨g, cap, _, rfl, hb, setRow_heap w g cur _ e _ hg, hnc, hcm, ?_, ?_⟩⟩, ?_⟩
    · simp only [List.length_append, List.length_take, List.length_drop]; omega
    · rw [List.size_toArray]
      simp only [List.length_append, List.length_take, List.length_drop, Array.length_toList]; omega
    · rw [← ht]
      apply List.ext_getElem?
      intro j
      have hcl : cur.toList.length = cap * k := by rw [Array.length_toList]; exact hsz
      generalize cur.toList = L at *
      simp only [List.getElem?_take, List.getElem?_append, List.length_take, List.getElem?_drop, List.length_append]
      repeat' split
      all_goals first | rfl | omega | (congr 1; omega) | (rw [List.getElem?_eq_none]; omega) | (symm; rw [List.getElem?_eq_none]; omega) | skip
    · refine ⟨rfl, rfl, rfl, by simp [World.setRow], fun q hq hne => ?_⟩
      have hqg : q ≠ g := fun e => hne (by rw [e])
      simp only [World.setRow]
      simp [Array.getElem?_modify, Ne.symm hqg]
/-- a row with room for more, read a bit further -/
theorem own_longer {w : World} {base k g n cap m : Nat} {xs : List Value} {e : TypeId} (h : w.ownsRow base e k (.slice (some ⟨g, 0, none⟩) n cap) n xs) (hm : n + m ≤ cap) :
    ∃ js, js.length = m * k ∧ w.ownsRow base e k (.slice (some ⟨g, 0, none⟩) (n + m) cap) (n + m) (xs ++ js) := by
  obtain ⟨hl, ⟨hv, _⟩ | ⟨g', cap', cur, hv, hb, hg, hnc, hcm, hsz, ht⟩⟩ := h
  · injection hv with e1; cases e1
  · injection hv with e1 _ e2
    injection e1 with e1
    injection e1 with e1
    subst e1 e2
    have hnk : (n + m) * k ≤ cap * k := Nat.mul_le_mul_right k hm
    have he : (n + m) * k = n * k + m * k := Nat.add_mul n m k
    have h2 : (cur.toList.drop (n * k)).length = cap * k - n * k := by rw [List.length_drop, Array.length_toList, hsz]
    refine ⟨(cur.toList.drop (n * k)).take (m * k), by rw [List.length_take]; omega, ?_, Or.inr ⟨g, cap, cur, rfl, hb, hg, hm, hcm, hsz, ?_⟩⟩
    · rw [List.length_append, List.length_take]; omega
    · rw [he, ← ht, List.take_add]
theorem grown_far {a b c : World} {r : Option Nat} {q : Nat} (h : a.grownBy b r) (k : b.grownBy c (some q)) (hq : a.heap.size ≤ q) : a.grownBy c r :=
  ⟨k.os.trans h.os, k.tape.trans h.tape, k.output.trans h.output, Nat.le_trans h.size k.size, fun i hi hn => (k.block i (Nat.lt_of_lt_of_le hi h.size) (fun e => by injection e with e; omega)).trans (h.block i hi hn)⟩
theorem grown_any {a b : World} {r : Option Nat} (h : a.grownBy b none) : a.grownBy b r := ⟨h.os, h.tape, h.output, h.size, fun i hi _ => h.block i hi (by simp)⟩
/-- a row that an append of a made slice gave -/
theorem own_grown (w : World) (e : TypeId) (k base n m old : Nat) (z : Value) (hz : z.cells.size = k) (olds : List Value) (ho : olds.length = n * k) (hb : base ≤ w.heap.size) (h63 : n + m ≤ maxLen) :
    ∃ zs : List Value, zs.length = m * k ∧
      (w.drew.alloc (.cells (olds.toArray ++ Builtin.zeroCells z.cells m ++ Builtin.zeroCells z.cells (grownCap w (n + m) old e - (n + m))) e)).ownsRow base e k (.slice (some ⟨w.heap.size, 0, none⟩) (n + m) (grownCap w (n + m) old e)) (n + m) (olds ++ zs) ∧
      w.grownBy (w.drew.alloc (.cells (olds.toArray ++ Builtin.zeroCells z.cells m ++ Builtin.zeroCells z.cells (grownCap w (n + m) old e - (n + m))) e)) none := by
  have hG := grownCap_ge w (n + m) old e
  have hM := grownCap_le_maxLen w (n + m) old e h63
  generalize grownCap w (n + m) old e = G at *
  have hzc : ∀ q, (Builtin.zeroCells z.cells q).size = q * k := fun q => by simp [Builtin.zeroCells, hz]
  have hzl : (Builtin.zeroCells z.cells m).toList.length = m * k := by rw [Array.length_toList]; exact hzc m
  have he : (n + m) * k = n * k + m * k := Nat.add_mul n m k
  have hg2 : G * k = (n + m) * k + (G - (n + m)) * k := by rw [← Nat.add_mul]; congr 1; omega
  refine ⟨(Builtin.zeroCells z.cells m).toList, hzl, ⟨?_, Or.inr ⟨w.heap.size, G, _, rfl, hb, heap_alloc_new w.drew _, hG, hM, ?_, ?_⟩⟩, ?_⟩
  · rw [List.length_append, ho, hzl]; omega
  · rw [Array.size_append, Array.size_append, hzc, hzc, List.size_toArray]; omega
  · rw [Array.toList_append, Array.toList_append, he]
    rw [List.take_append_of_le_length (by rw [List.length_append, hzl]; simp [ho])]
    rw [List.take_of_length_le (by rw [List.length_append, hzl]; simp [ho])]
  · exact ⟨rfl, rfl, rfl, by show w.heap.size ≤ (w.heap.push _).size; simp, fun q hq _ => Below.heap_alloc w.drew _ q hq⟩
/-- what lies before a place, something put there, what lay behind it -/
theorem put_fresh {α : Type} (X zs ys D : List α) (a b : Nat) (ha : X.length = a) (hb : b = a + ys.length) (hz : zs.length = ys.length + D.length) :
    (((X ++ zs).take a ++ ys ++ (X ++ zs).drop (a + ys.length)).take b ++ D ++ ((X ++ zs).take a ++ ys ++ (X ++ zs).drop (a + ys.length)).drop (b + D.length)) = X ++ ys ++ D := by
  subst hb ha
  have h1 : (X ++ zs).take X.length = X := by simp
  rw [h1]
  have h2 : (X ++ ys ++ (X ++ zs).drop (X.length + ys.length)).take (X.length + ys.length) = X ++ ys := by
    rw [List.take_append_of_le_length (by rw [List.length_append]; exact Nat.le_refl _), List.take_of_length_le (by rw [List.length_append]; exact Nat.le_refl _)]
  have h3 : (X ++ ys ++ (X ++ zs).drop (X.length + ys.length)).drop (X.length + ys.length + D.length) = [] := by
    rw [List.drop_eq_nil_iff]; simp only [List.length_append, List.length_drop]; omega
  rw [h2, h3, List.append_nil]
/-- append in a region that draws, where its run is known -/
theorem step_append_runI {ops : Array Oper} {o : Oper} {a : Act} {w : World} {K : Act → World → Prop} {Q : Exit → Act → World → Prop} {E : Prop}
    (hg : o.guard = none) (d x : Operand) (dT sT : TypeId) (hop : o.op = Op.call { callee := Callee.builtin Builtin.append, args := #[d, x], argTypes := #[dT, sT] })
    (v u : Value) (hd : a.eval d = v) (hx : a.eval x = u) {v' : Value} {w' : World} (hr : (Builtin.append_ #[dT, sT] o.type #[v, u]).run P w = .ok v' w') (hK : K (a.put o.dst v') w') :
    if Region.wanted o (yielded ops a.tmps) = true then Oper.wp P o a w K Q else E := by
  have hw : Region.wanted o (yielded ops a.tmps) = true := by simp [Region.wanted, hg]
  rw [if_pos hw]
  unfold Oper.wp
  simp [execOp, hop, resolve, invoke, builtin, hd, hx, hr, Result.andThen]
  exact hK
/-- a row, read less far -/
theorem own_shorter {w : World} {base k g n cap m : Nat} {xs : List Value} {e : TypeId} (h : w.ownsRow base e k (.slice (some ⟨g, 0, none⟩) n cap) n xs) (hm : m ≤ n) :
    w.ownsRow base e k (.slice (some ⟨g, 0, none⟩) m cap) m (xs.take (m * k)) := by
  obtain ⟨hl, ⟨hv, _⟩ | ⟨g', cap', cur, hv, hb, hg, hnc, hcm, hsz, ht⟩⟩ := h
  · injection hv with e1; cases e1
  · injection hv with e1 _ e2
    injection e1 with e1
    injection e1 with e1
    subst e1 e2
    have hmk : m * k ≤ n * k := Nat.mul_le_mul_right k hm
    exact ⟨by rw [List.length_take]; omega, Or.inr ⟨g, cap, cur, rfl, hb, hg, Nat.le_trans hm hnc, hcm, hsz, by rw [← ht, List.take_take, Nat.min_eq_left hmk]⟩⟩
/-- an append within a row of the call's own -/
theorem run_append_here (w : World) (t e : TypeId) (iE : TypeInfo) (base k g n cap : Nat) (xs : List Value) (h : w.ownsRow base e k (.slice (some ⟨g, 0, none⟩) n cap) n xs)
    (ht : P.underlying t = some (.slice e)) (hi : P.info? e = some iE) (hk : iE.size = k) (i m : Nat) (a : Addr) (news : List Value) (hl : news.length = m * k)
    (hsrc : ∀ j v, news[j]? = some v → w.cell? (a.add j) = some v) (h1 : ∀ v ∈ news, v.oneCell' = true) (him : i + m ≤ n) :
    ∃ w' : World, (∀ ty c, (Builtin.append_ #[t, t] ty #[.slice (some ⟨g, 0, none⟩) i cap, .slice (some a) m c]).run P w = .ok (.slice (some ⟨g, 0, none⟩) (i + m) cap) w') ∧
      w'.ownsRow base e k (.slice (some ⟨g, 0, none⟩) n cap) n (xs.take (i * k) ++ news ++ xs.drop (i * k + news.length)) ∧ w.grownBy w' (some g) := by
  subst hk
  obtain ⟨hxl, ⟨hv, _⟩ | ⟨g', cap', cur, hv, hb, hg, hnc, hcm, hsz, htk⟩⟩ := h
  · injection hv with e1; cases e1
  · injection hv with e1 _ e2
    injection e1 with e1
    injection e1 with e1
    subst e1 e2
    have hnk : n * iE.size ≤ cap * iE.size := Nat.mul_le_mul_right _ hnc
    have hik : i * iE.size + m * iE.size ≤ n * iE.size := by rw [← Nat.add_mul]; exact Nat.mul_le_mul_right _ him
    refine ⟨w.setRow g (cur.toList.take (i * iE.size) ++ news ++ cur.toList.drop (i * iE.size + news.length)).toArray, fun ty c => run_append_room (P := P) w t ty e iE ht hi g i cap cur hg a m c news hl hsrc h1 (by omega) (by omega), ⟨?_, Or.inr ⟨g, cap, _, rfl, hb, setRow_heap w g cur _ e _ hg, hnc, hcm, ?_, ?_⟩⟩, ?_⟩
    · simp only [List.length_append, List.length_take, List.length_drop]; omega
    · rw [List.size_toArray]
      simp only [List.length_append, List.length_take, List.length_drop, Array.length_toList]; omega
    · rw [← htk]
      apply List.ext_getElem?
      intro j
      have hcl : cur.toList.length = cap * iE.size := by rw [Array.length_toList]; exact hsz
      generalize cur.toList = L at *
      simp only [List.getElem?_take, List.getElem?_append, List.length_take, List.getElem?_drop, List.length_append]
      repeat' split
      all_goals first | rfl | omega | (congr 1; omega) | (rw [List.getElem?_eq_none]; omega) | (symm; rw [List.getElem?_eq_none]; omega) | skip
    · refine ⟨rfl, rfl, rfl, by simp [World.setRow], fun q hq hne => ?_⟩
      have hqg : q ≠ g := fun e => hne (by rw [e])
      simp only [World.setRow]
      simp [Array.getElem?_modify, Ne.symm hqg]
/-- clearing a part of a row of the call's own -/
theorem run_clear_own (w : World) (t e : TypeId) (z : Value) (base k g n cap : Nat) (xs : List Value) (h : w.ownsRow base e k (.slice (some ⟨g, 0, none⟩) n cap) n xs)
    (ht : P.underlying t = some (.slice e)) (hzv : ∀ w, (zeroValue e).run P w = .ok z w) (hzs : z.cells.size = k) (hk : 0 < k) (h1 : ∀ v ∈ z.cells, v.oneCell' = true) (o m : Nat) (hm : 0 < m) (hfit : o + m * k ≤ n * k) :
    ∃ w' : World, (∀ ty c, (Builtin.clear_ #[t] ty #[.slice (some ⟨g, o, none⟩) m c]).run P w = .ok (.tuple #[]) w') ∧
      (∃ ys, ys.length = m * k ∧ w'.ownsRow base e k (.slice (some ⟨g, 0, none⟩) n cap) n (xs.take o ++ ys ++ xs.drop (o + m * k))) ∧ w.grownBy w' (some g) := by
  have hzc : (Builtin.zeroCells z.cells m).toList.length = m * k := by rw [Array.length_toList]; simp [Builtin.zeroCells, hzs]
  have hz1 : ∀ v ∈ (Builtin.zeroCells z.cells m).toList, v.oneCell' = true := fun v hv => by
    simp only [Builtin.zeroCells, Array.toList_map, List.mem_map] at hv
    obtain ⟨j, _, rfl⟩ := hv
    have hj : j % z.cells.size < z.cells.size := Nat.mod_lt _ (by omega)
    rw [getElem!_pos z.cells _ hj]
    exact h1 _ (Array.getElem_mem hj)
  generalize hzz : (Builtin.zeroCells z.cells m).toList = zs at *
  obtain ⟨hxl, ⟨hv, _⟩ | ⟨g', cap', cur, hv, hb, hg, hnc, hcm, hsz, htk⟩⟩ := h
  · injection hv with e1; cases e1
  · injection hv with e1 _ e2
    injection e1 with e1
    injection e1 with e1
    subst e1 e2
    have hnk : n * k ≤ cap * k := Nat.mul_le_mul_right _ hnc
    have hst := run_storeCells_at P g o e zs 0 cur w hg (by omega) hz1
    simp only [Nat.add_zero] at hst
    refine ⟨w.setRow g (cur.toList.take o ++ zs ++ cur.toList.drop (o + zs.length)).toArray, fun ty c => ?_, ⟨zs, hzc, ⟨?_, Or.inr ⟨g, cap, _, rfl, hb, setRow_heap w g cur _ e _ hg, hnc, hcm, ?_, ?_⟩⟩⟩, ?_⟩
    · obtain ⟨m', rfl⟩ : ∃ m', m = m' + 1 := ⟨m - 1, by omega⟩
      simp [Builtin.clear_, run_underlying ht, hzv, hzz, hst]
    · simp only [List.length_append, List.length_take, List.length_drop]; omega
    · rw [List.size_toArray]
      simp only [List.length_append, List.length_take, List.length_drop, Array.length_toList]; omega
    · rw [← htk]
      apply List.ext_getElem?
      intro j
      have hcl : cur.toList.length = cap * k := by rw [Array.length_toList]; exact hsz
      rw [hzc]
      generalize cur.toList = L at *
      simp only [List.getElem?_take, List.getElem?_append, List.length_take, List.getElem?_drop, List.length_append]
      repeat' split
      all_goals first | rfl | omega | (congr 1; omega) | (rw [List.getElem?_eq_none]; omega) | (symm; rw [List.getElem?_eq_none]; omega) | skip
    · refine ⟨rfl, rfl, rfl, by simp [World.setRow], fun q hq hne => ?_⟩
      have hqg : q ≠ g := fun e => hne (by rw [e])
      simp only [World.setRow]
      simp [Array.getElem?_modify, Ne.symm hqg]
end
end Go.Proofs.YtjblchdfkcbodaaGreatDoor
