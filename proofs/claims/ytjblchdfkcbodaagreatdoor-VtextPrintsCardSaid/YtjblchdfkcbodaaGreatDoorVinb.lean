/-
  slices.Insert of one element at strings and at values, where the row is the call's own. Written by gen_in.py.
-/
import Derived.Test.YtjblchdfkcbodaaGreatDoorVina
import Derived.Shelf.Spec.SlicesInsert
namespace Go.Proofs.YtjblchdfkcbodaaGreatDoor
open Go.RowKit

theorem put_between {α : Type} (xs js ys : List α) (a b : Nat) (hb : b = a + ys.length) (ha : b ≤ xs.length) (hj : js.length ≤ ys.length) :
    ((xs ++ js).take b ++ xs.drop a ++ (xs ++ js).drop (b + (xs.drop a).length)).take a ++ ys ++ ((xs ++ js).take b ++ xs.drop a ++ (xs ++ js).drop (b + (xs.drop a).length)).drop (a + ys.length) = xs.take a ++ ys ++ xs.drop a := by
  subst hb
  have h0 : (xs ++ js).drop (a + ys.length + (xs.drop a).length) = [] := by rw [List.drop_eq_nil_iff]; simp only [List.length_append, List.length_drop]; omega
  rw [h0, List.append_nil]
  have h1 : ((xs ++ js).take (a + ys.length)).length = a + ys.length := by rw [List.length_take, List.length_append]; omega
  have h2 : ((xs ++ js).take (a + ys.length) ++ xs.drop a).drop (a + ys.length) = xs.drop a := by
    rw [List.drop_append, h1, Nat.sub_self, List.drop_of_length_le (by omega)]; rfl
  have h3 : ((xs ++ js).take (a + ys.length) ++ xs.drop a).take a = xs.take a := by
    rw [List.take_append_of_le_length (by omega), List.take_take, Nat.min_eq_left (by omega), List.take_append_of_le_length (by omega)]
  rw [h2, h3]

theorem sizeS_any (w : World) : (Go.sizeOf 9).run Tryz.prog w = .ok 1 w := by
  obtain ⟨i, hi, hz, hs, hb⟩ := info_parts Tryz.infoS
  simp [Go.sizeOf, typeInfo, hi, hs]
/-- what an Insert gives -/
def InsS (w : World) (base n i : Nat) (A : Option Addr) (c : Nat) (xs ys : List Value) (e : Ending) (w' : World) : Prop :=
  ∃ g c', e = .returned (.slice (some ⟨g, 0, none⟩) (n + 1) c') ∧ w'.ownsRow base 9 1 (.slice (some ⟨g, 0, none⟩) (n + 1) c') (n + 1) (xs.take (i * 1) ++ ys ++ xs.drop (i * 1)) ∧
    w.grownBy w' (Value.slice A n c).ownBlock ∧ ((Value.slice A n c).ownBlock = some g ∨ w.heap.size ≤ g)

set_option maxRecDepth 100000 in
set_option maxHeartbeats 2000000 in
theorem insS_end (w : World) (base n c vb : Nat) (A : Option Addr) (xs ys : List Value) (hyl : ys.length = 1)
    (hown : w.ownsRow base 9 1 (.slice A n c) n xs) (hv : Bk w vb 9 ys.toArray) (hbase : base ≤ w.heap.size) (hbig : (n + 1) * 16 ≤ 140737488355328) (h1y : ∀ u ∈ ys, u.oneCell' = true) :
    Calls Tryz.prog 74 #[.slice A n c, .int .i64 n, .slice (some ⟨vb, 0, none⟩) 1 1] w (InsS w base n n A c xs ys) := by
  obtain ⟨iE, hiE, hzE, hsE, hbE⟩ := info_parts Tryz.infoS
  obtain ⟨hnc, hc63⟩ := own_bounds hown
  have hxl : xs.length = n * 1 := hown.1
  have HO := Lib.hid hown
  have hvc : ∀ j u, ys[j]? = some u → w.cell? ((⟨vb, 0, none⟩ : Addr).add j) = some u := fun j u hj => by
    rw [Addr.add_lit, Nat.zero_add, hv.cell]; simpa using hj
  have HV := Lib.hid hvc
  have H1 := Lib.hid h1y
  have HB := Lib.hid hbig
  have HX := Lib.hid hxl
  have HY := Lib.hid hyl
  clear hown hvc h1y hv hbig hxl hyl
  have hc0 : (0 : Int) ≤ (n : Int) := by omega
  go_enter Tryz.func74, Tryz.ntmps74
  go_wp2_with (at_builtin; refine wpList_append_lies _ rfl _ _ 23 rfl base 9 iE (.string ByteArray.empty) 1 16 Tryz.underlying23 hiE hzE hsE hbE rfl (by decide) (.slice A n c) n xs rfl HO.out ⟨vb, 0, none⟩ 1 1 ys rfl (by have := HY.out; omega) HV.out H1.out (by decide) (by have := HB.out; unfold maxLen; omega) (by have := HB.out; omega) hbase _ rfl ?_)
  all_goals
    intro g cap w1 hown1 hgr hat hlt
    have HO1 := Lib.hid hown1
    have HG1 := Lib.hid (show w.grownBy w1 (Value.slice A n c).ownBlock by cases A <;> exact hgr)
    have HA1 := Lib.hid (show (Value.slice A n c).ownBlock = some g ∨ g = _ by cases A <;> exact hat)
    clear hown1 hgr hat
    go_wp2
    go_ret
    refine ⟨g, cap, rfl, ?_, HG1.out, ?_⟩
    · rw [List.take_of_length_le (by have := HX.out; omega), List.drop_of_length_le (by have := HX.out; omega), List.append_nil]; exact HO1.out
    · rcases HA1.out with h | h
      · exact Or.inl h
      · right; omega

set_option maxRecDepth 100000 in
set_option maxHeartbeats 4000000 in
theorem insS_room (w : World) (base n c i vb g : Nat) (xs ys : List Value) (hyl : ys.length = 1) (hi : i < n) (hroom : n + 1 ≤ c)
    (hown : w.ownsRow base 9 1 (.slice (some ⟨g, 0, none⟩) n c) n xs) (hv : Bk w vb 9 ys.toArray) (hne : vb ≠ g) (h1x : ∀ u ∈ xs, u.oneCell' = true) (h1y : ∀ u ∈ ys, u.oneCell' = true) :
    Calls Tryz.prog 74 #[.slice (some ⟨g, 0, none⟩) n c, .int .i64 i, .slice (some ⟨vb, 0, none⟩) 1 1] w (InsS w base n i (some ⟨g, 0, none⟩) c xs ys) := by
  obtain ⟨iE, hiE, hzE, hsE, hbE⟩ := info_parts Tryz.infoS
  obtain ⟨hnc, hc63⟩ := own_bounds hown
  have hxl : xs.length = n * 1 := hown.1
  have hsz : (Tryz.prog.info? 9).map (·.size) = some 1 := by rw [hiE]; simp [hsE]
  have hshg : ∃ k, w.shape? g = some (9, k) ∧ k ≠ 0 := by
    rcases hown.2 with ⟨h, _⟩ | ⟨g', c', cur, h, _, hg, _, _, hcs, _⟩
    · injection h with e; cases e
    · injection h with e _ e2
      injection e with e
      injection e with e
      subst e e2
      exact ⟨cur.size, by simp [World.shape?, hg], by omega⟩
  obtain ⟨kB, hsB, hkB⟩ := hshg
  have hsA : w.shape? vb = some (9, ys.toArray.size) := by unfold Bk at hv; simp [World.shape?, hv]
  have hov : ∀ o lb cb, (callFunc 90 #[.slice (some ⟨vb, 0, none⟩) 1 1, .slice (some ⟨g, o, none⟩) lb cb]).run Tryz.prog w = .ok (.value (.bool false)) w := fun o lb cb => by
    rw [run_callFunc_extern Tryz.func90 (by kernel_rfl) (by kernel_rfl) (by kernel_rfl) (e := Extern.SlicesOverlaps.overlaps #[23, 23] #[4]) (by kernel_rfl),
      Lib.run_overlaps_apart w 23 4 9 Tryz.underlying23 1 sizeS_any ⟨vb, 0, none⟩ ⟨g, o, none⟩ 1 1 lb cb hne 9 9 _ kB hsA hsB hkB (hv.frozen _) (hv.frozen _)]
    rfl
  obtain ⟨js, hjl, hown0⟩ := own_longer (m := 1) hown hroom
  have hsrc1 : ∀ j v, (xs.drop (i * 1))[j]? = some v → w.drew.cell? ((⟨g, i * 1, none⟩ : Addr).add j) = some v := fun j v hj => by
    have := hown.cells rfl (i * 1 + j) v (by rwa [List.getElem?_drop] at hj)
    rw [Addr.add_lit] at this ⊢
    rw [← this]
    show w.cell? _ = _
    congr 2
    omega
  obtain ⟨w1, hr1, hown1, hg1⟩ := run_copy_own (P := Tryz.prog) w.drew 23 9 base 1 g (n + 1) c (xs ++ js) 9 hown0 Tryz.underlying23 hsz ((i + 1) * 1) (n - i) ⟨g, i * 1, none⟩ (n + 1 - i) (xs.drop (i * 1))
    (by rw [List.length_drop, hxl, show Nat.min (n + 1 - i) (n - i) = n - i by simp only [Nat.min_def]; split <;> omega]; omega) hsrc1 (by rw [List.length_drop, hxl]; omega) (fun v hv => h1x v (List.mem_of_mem_drop hv))
  have hsrc2 : ∀ j v, ys[j]? = some v → w1.cell? ((⟨vb, 0, none⟩ : Addr).add j) = some v := fun j v hj => by
    have hv1 : Bk w1 vb 9 ys.toArray := (hg1.block vb hv.lt (by simpa using hne)).trans hv
    rw [Addr.add_lit, Nat.zero_add, hv1.cell]; simpa using hj
  obtain ⟨w2, hr2, hown2, hg2⟩ := run_copy_own (P := Tryz.prog) w1 23 9 base 1 g (n + 1) c _ 9 hown1 Tryz.underlying23 hsz (i * 1) (n + 1 - i) ⟨vb, 0, none⟩ 1 ys
    (by rw [hyl, show Nat.min 1 (n + 1 - i) = 1 by simp only [Nat.min_def]; split <;> omega]) hsrc2 (by omega) h1y
  have hfin : Hid (w2.ownsRow base 9 1 (.slice (some ⟨g, 0, none⟩) (n + 1) c) (n + 1) (xs.take (i * 1) ++ ys ++ xs.drop (i * 1))) := Lib.hid (by
    rw [put_between xs js ys (i * 1) ((i + 1) * 1) (by omega) (by omega) (by omega)] at hown2
    exact hown2)
  have HG := Lib.hid (grownBy_trans (show w.grownBy w1 (some g) from ⟨hg1.os, hg1.tape, hg1.output, hg1.size, hg1.block⟩) hg2)
  clear hown hown0 hown1 hown2 hg1 hg2 hsrc1 hsrc2 hv h1x h1y hsA hsB hne hjl hyl hxl hbE hzE hsz hiE hsE
  have mixed : Tryz.prog.follows .mixedOrders = true := by kernel_rfl
  have hz2 : ¬ ((i : Int) = (n : Int)) := by omega
  have hw1 : IntKind.i64.wrap ((i : Int) + 1) = (i : Int) + 1 := by rw [IntKind.wrap_i64]; omega
  have hw2 : IntKind.i64.wrap ((n : Int) + 1) = (n : Int) + 1 := by rw [IntKind.wrap_i64]; omega
  have hb1 : (0 : Int) ≤ (i : Int) + 1 := by omega
  have hb0 : (0 : Int) ≤ (n : Int) + 1 := by omega
  have hin : i ≤ n := by omega
  have htn : ((i : Int) + 1).toNat = i + 1 := by omega
  have htm : ((n : Int) + 1).toNat = n + 1 := by omega
  have hb2 : ¬ (c = i + 1) := by omega
  have hb3 : (i : Int) ≤ (n : Int) + 1 := by omega
  have hb5 : (n : Int) + 1 ≤ (c : Int) := by omega
  have hb6 : ¬ ((c : Int) < (n : Int) + 1) := by omega
  have hb4 : ¬ (c = i) := by omega
  go_enter Tryz.func74, Tryz.ntmps74
  go_wp2_with (simp only [hov])
  simp only [Nat.mul_one] at hr1 hr2
  go_region_law_o (refine step_copy_runI rfl _ _ 23 23 rfl _ _ (by simp [Act.eval, Act.put]) (by simp [Act.eval, Act.put]) (hr1 _ _ _ _) ?_)
  go_wp2_with (at_builtin; refine wpList_copy_runI _ rfl _ _ 23 23 rfl _ _ rfl rfl (hr2 _ _ _ _) ?_)
  go_ret
  exact ⟨g, c, rfl, hfin.out, HG.out, Or.inl rfl⟩

set_option maxRecDepth 100000 in
set_option maxHeartbeats 4000000 in
theorem insS_grow (w : World) (base n c i vb g : Nat) (xs ys : List Value) (hyl : ys.length = 1) (hi : i < n) (hroom : c < n + 1)
    (hown : w.ownsRow base 9 1 (.slice (some ⟨g, 0, none⟩) n c) n xs) (hv : Bk w vb 9 ys.toArray) (hbase : base ≤ w.heap.size) (hbig : (n + 1) * 16 ≤ 140737488355328) (h1x : ∀ u ∈ xs, u.oneCell' = true) (h1y : ∀ u ∈ ys, u.oneCell' = true) :
    Calls Tryz.prog 74 #[.slice (some ⟨g, 0, none⟩) n c, .int .i64 i, .slice (some ⟨vb, 0, none⟩) 1 1] w (InsS w base n i (some ⟨g, 0, none⟩) c xs ys) := by
  obtain ⟨iE, hiE, hzE, hsE, hbE⟩ := info_parts Tryz.infoS
  obtain ⟨hnc, hc63⟩ := own_bounds hown
  have hxl : xs.length = n * 1 := hown.1
  have hsz : (Tryz.prog.info? 9).map (·.size) = some 1 := by rw [hiE]; simp [hsE]
  have hgl : g < w.heap.size := (hown.lt g rfl).2
  have hnk : i + (n + 1 - i) = n + 1 := by omega
  have hXl : (xs.take (i * 1)).length = i * 1 := by rw [List.length_take, hxl]; omega
  have hold : (Builtin.firstCells iE.size i (.slice (some ⟨g, 0, none⟩) i c)).run Tryz.prog w.drew = .ok (xs.take (i * 1)).toArray w.drew := by
    rw [hsE]
    exact run_firstCells_some w.drew 1 i ⟨g, 0, none⟩ i c (xs.take (i * 1)) hXl (fun j v hj => by
      rw [List.getElem?_take] at hj
      split at hj
      · exact hown.cells rfl j v hj
      · cases hj)
  have hgrow := fun ty => Lib.run_append_grow_zeros (P := Tryz.prog) w 23 3 ty 9 iE (.string ByteArray.empty) .i64 .i64 Tryz.underlying23 Tryz.underlying3 hiE hzE (some ⟨g, 0, none⟩) i c _ hold (n + 1 - i) (by omega) (by rw [hsE]; decide) (by omega) (by omega) (by rw [hbE]; omega) (by rw [hbE, hnk]; exact growslice_fits hroom hbig)
  obtain ⟨zs, hzl, hown1, hg1⟩ := own_grown w 9 1 base i (n + 1 - i) c (.string ByteArray.empty) rfl (xs.take (i * 1)) hXl hbase (by unfold maxLen; omega)
  rw [hnk] at hgrow hown1 hg1
  have hGn : n + 1 ≤ grownCap w (n + 1) c 9 := grownCap_ge w _ _ _
  have hG63 : grownCap w (n + 1) c 9 ≤ 9223372036854775807 := grownCap_le_maxLen w (n + 1) c 9 (by unfold maxLen; omega)
  generalize grownCap w (n + 1) c 9 = G at *
  generalize hw1 : w.drew.alloc (.cells ((xs.take (i * 1)).toArray ++ Builtin.zeroCells (Value.cells (.string ByteArray.empty)) (n + 1 - i) ++ Builtin.zeroCells (Value.cells (.string ByteArray.empty)) (G - (n + 1))) 9) = w1 at *
  have hsrc1 : ∀ j v, ys[j]? = some v → w1.cell? ((⟨vb, 0, none⟩ : Addr).add j) = some v := fun j v hj => by
    have hv1 : Bk w1 vb 9 ys.toArray := (hg1.block vb hv.lt (by simp)).trans hv
    rw [Addr.add_lit, Nat.zero_add, hv1.cell]; simpa using hj
  obtain ⟨w2, hr1, hown2, hg2⟩ := run_copy_own (P := Tryz.prog) w1 23 9 base 1 w.heap.size (n + 1) G _ 9 hown1 Tryz.underlying23 hsz (i * 1) (n + 1 - i) ⟨vb, 0, none⟩ 1 ys
    (by rw [hyl, show Nat.min 1 (n + 1 - i) = 1 by simp only [Nat.min_def]; split <;> omega]) hsrc1 (by omega) h1y
  have hsrc2 : ∀ j v, (xs.drop (i * 1))[j]? = some v → w2.drew.cell? ((⟨g, i * 1, none⟩ : Addr).add j) = some v := fun j v hj => by
    have h := hown.cells rfl (i * 1 + j) v (by rwa [List.getElem?_drop] at hj)
    have h' := hg2.cell (hg1.cell h (by simp)) (by rw [Addr.add_lit]; simp; omega)
    rw [Addr.add_lit] at h' ⊢
    rw [← h']
    show w2.cell? _ = _
    congr 2
    omega
  obtain ⟨w3, hr2, hown3, hg3⟩ := run_copy_own (P := Tryz.prog) w2.drew 23 9 base 1 w.heap.size (n + 1) G _ 9 hown2 Tryz.underlying23 hsz ((i + 1) * 1) (n - i) ⟨g, i * 1, none⟩ (n - i) (xs.drop (i * 1))
    (by rw [List.length_drop, hxl, show Nat.min (n - i) (n - i) = n - i from Nat.min_self _]; omega) hsrc2 (by rw [List.length_drop, hxl]; omega) (fun v hv => h1x v (List.mem_of_mem_drop hv))
  have hfin : Hid (w3.ownsRow base 9 1 (.slice (some ⟨w.heap.size, 0, none⟩) (n + 1) G) (n + 1) (xs.take (i * 1) ++ ys ++ xs.drop (i * 1))) := Lib.hid (by
    rw [put_fresh (xs.take (i * 1)) zs ys (xs.drop (i * 1)) (i * 1) ((i + 1) * 1) hXl (by omega) (by rw [List.length_drop]; omega)] at hown3
    exact hown3)
  have HG : Hid (w.grownBy w3 (some g)) := Lib.hid (grown_any (grown_far (grown_far hg1 hg2 (Nat.le_refl _)) (show w2.grownBy w3 _ from ⟨hg3.os, hg3.tape, hg3.output, hg3.size, hg3.block⟩) (Nat.le_refl _)))
  clear hown hown1 hown2 hown3 hg1 hg2 hg3 hsrc1 hsrc2 hv h1x h1y hyl hxl hbE hzE hsz hiE hsE hold hXl hzl hbig hbase
  have mixed : Tryz.prog.follows .mixedOrders = true := by kernel_rfl
  have hkk : (((n + 1 - i : Nat) : Int)) = (n : Int) + 1 - (i : Int) := by omega
  rw [hkk] at hgrow
  have hz2 : ¬ ((i : Int) = (n : Int)) := by omega
  have hz3 : (c : Int) < (n : Int) + 1 := by omega
  have hw4 : IntKind.i64.wrap ((i : Int) + 1) = (i : Int) + 1 := by rw [IntKind.wrap_i64]; omega
  have hw2 : IntKind.i64.wrap ((n : Int) + 1) = (n : Int) + 1 := by rw [IntKind.wrap_i64]; omega
  have hw3 : IntKind.i64.wrap ((n : Int) + 1 - (i : Int)) = (n : Int) + 1 - (i : Int) := by rw [IntKind.wrap_i64]; omega
  have hb1 : (0 : Int) ≤ (i : Int) + 1 := by omega
  have hb0 : (0 : Int) ≤ (n : Int) + 1 := by omega
  have hin : i ≤ n := by omega
  have htn : ((i : Int) + 1).toNat = i + 1 := by omega
  have htm : ((n : Int) + 1).toNat = n + 1 := by omega
  have hb2 : ¬ (G = i + 1) := by omega
  have hb3 : (i : Int) ≤ (n : Int) + 1 := by omega
  have hb7 : (i : Int) ≤ (n : Int) := by omega
  have hb4 : ¬ (c = i) := by omega
  have hb8 : ¬ (G = i) := by omega
  simp only [Nat.mul_one] at hr1 hr2
  go_enter Tryz.func74, Tryz.ntmps74
  go_wp2_with (first
    | (at_builtin; refine Lib.wpList_append_run _ rfl _ _ _ _ rfl _ _ rfl rfl _ _ (hgrow _) ?_)
    | (at_builtin; refine wpList_copy_runI _ rfl _ _ 23 23 rfl _ _ rfl rfl (hr1 _ _ _ _) ?_))
  go_region_law_o (refine step_copy_runI rfl _ _ 23 23 rfl _ _ (by simp [Act.eval, Act.put]) (by simp [Act.eval, Act.put]) (hr2 _ _ _ _) ?_)
  go_wp2
  go_ret
  exact ⟨w.heap.size, G, rfl, hfin.out, HG.out, Or.inr (Nat.le_refl _)⟩

theorem insS_any (w : World) (base n c i vb : Nat) (A : Option Addr) (xs ys : List Value) (hyl : ys.length = 1) (hi : i ≤ n)
    (hown : w.ownsRow base 9 1 (.slice A n c) n xs) (hv : Bk w vb 9 ys.toArray) (hne : some vb ≠ (Value.slice A n c).ownBlock) (hbase : base ≤ w.heap.size) (hbig : (n + 1) * 16 ≤ 140737488355328)
    (h1x : ∀ u ∈ xs, u.oneCell' = true) (h1y : ∀ u ∈ ys, u.oneCell' = true) :
    Calls Tryz.prog 74 #[.slice A n c, .int .i64 i, .slice (some ⟨vb, 0, none⟩) 1 1] w (InsS w base n i A c xs ys) := by
  rcases Nat.eq_or_lt_of_le hi with rfl | hlt
  · exact insS_end w base i c vb A xs ys hyl hown hv hbase hbig h1y
  · obtain ⟨g, cap, e, _, _⟩ := hown.form (by omega)
    injection e with e1 _ e2
    subst e1 e2
    by_cases hr : n + 1 ≤ c
    · exact insS_room w base n c i vb g xs ys hyl hlt hr hown hv (fun e => hne (by rw [e]; rfl)) h1x h1y
    · exact insS_grow w base n c i vb g xs ys hyl hlt (by omega) hown hv hbase hbig h1x h1y

theorem sizeV_any (w : World) : (Go.sizeOf 25).run Tryz.prog w = .ok 5 w := by
  obtain ⟨i, hi, hz, hs, hb⟩ := info_parts Tryz.infoV
  simp [Go.sizeOf, typeInfo, hi, hs]
/-- what an Insert gives -/
def InsV (w : World) (base n i : Nat) (A : Option Addr) (c : Nat) (xs ys : List Value) (e : Ending) (w' : World) : Prop :=
  ∃ g c', e = .returned (.slice (some ⟨g, 0, none⟩) (n + 1) c') ∧ w'.ownsRow base 25 5 (.slice (some ⟨g, 0, none⟩) (n + 1) c') (n + 1) (xs.take (i * 5) ++ ys ++ xs.drop (i * 5)) ∧
    w.grownBy w' (Value.slice A n c).ownBlock ∧ ((Value.slice A n c).ownBlock = some g ∨ w.heap.size ≤ g)

set_option maxRecDepth 100000 in
set_option maxHeartbeats 2000000 in
theorem insV_end (w : World) (base n c vb : Nat) (A : Option Addr) (xs ys : List Value) (hyl : ys.length = 5)
    (hown : w.ownsRow base 25 5 (.slice A n c) n xs) (hv : Bk w vb 25 ys.toArray) (hbase : base ≤ w.heap.size) (hbig : (n + 1) * 80 ≤ 140737488355328) (h1y : ∀ u ∈ ys, u.oneCell' = true) :
    Calls Tryz.prog 75 #[.slice A n c, .int .i64 n, .slice (some ⟨vb, 0, none⟩) 1 1] w (InsV w base n n A c xs ys) := by
  obtain ⟨iE, hiE, hzE, hsE, hbE⟩ := info_parts Tryz.infoV
  obtain ⟨hnc, hc63⟩ := own_bounds hown
  have hxl : xs.length = n * 5 := hown.1
  have HO := Lib.hid hown
  have hvc : ∀ j u, ys[j]? = some u → w.cell? ((⟨vb, 0, none⟩ : Addr).add j) = some u := fun j u hj => by
    rw [Addr.add_lit, Nat.zero_add, hv.cell]; simpa using hj
  have HV := Lib.hid hvc
  have H1 := Lib.hid h1y
  have HB := Lib.hid hbig
  have HX := Lib.hid hxl
  have HY := Lib.hid hyl
  clear hown hvc h1y hv hbig hxl hyl
  have hc0 : (0 : Int) ≤ (n : Int) := by omega
  go_enter Tryz.func75, Tryz.ntmps75
  go_wp2_with (at_builtin; refine wpList_append_lies _ rfl _ _ 22 rfl base 25 iE (.agg #[.int .i64 0, .int .i64 0, .string ByteArray.empty, .slice none 0 0, .slice none 0 0]) 5 80 Tryz.underlying22 hiE hzE hsE hbE rfl (by decide) (.slice A n c) n xs rfl HO.out ⟨vb, 0, none⟩ 1 1 ys rfl (by have := HY.out; omega) HV.out H1.out (by decide) (by have := HB.out; unfold maxLen; omega) (by have := HB.out; omega) hbase _ rfl ?_)
  all_goals
    intro g cap w1 hown1 hgr hat hlt
    have HO1 := Lib.hid hown1
    have HG1 := Lib.hid (show w.grownBy w1 (Value.slice A n c).ownBlock by cases A <;> exact hgr)
    have HA1 := Lib.hid (show (Value.slice A n c).ownBlock = some g ∨ g = _ by cases A <;> exact hat)
    clear hown1 hgr hat
    go_wp2
    go_ret
    refine ⟨g, cap, rfl, ?_, HG1.out, ?_⟩
    · rw [List.take_of_length_le (by have := HX.out; omega), List.drop_of_length_le (by have := HX.out; omega), List.append_nil]; exact HO1.out
    · rcases HA1.out with h | h
      · exact Or.inl h
      · right; omega

set_option maxRecDepth 100000 in
set_option maxHeartbeats 4000000 in
theorem insV_room (w : World) (base n c i vb g : Nat) (xs ys : List Value) (hyl : ys.length = 5) (hi : i < n) (hroom : n + 1 ≤ c)
    (hown : w.ownsRow base 25 5 (.slice (some ⟨g, 0, none⟩) n c) n xs) (hv : Bk w vb 25 ys.toArray) (hne : vb ≠ g) (h1x : ∀ u ∈ xs, u.oneCell' = true) (h1y : ∀ u ∈ ys, u.oneCell' = true) :
    Calls Tryz.prog 75 #[.slice (some ⟨g, 0, none⟩) n c, .int .i64 i, .slice (some ⟨vb, 0, none⟩) 1 1] w (InsV w base n i (some ⟨g, 0, none⟩) c xs ys) := by
  obtain ⟨iE, hiE, hzE, hsE, hbE⟩ := info_parts Tryz.infoV
  obtain ⟨hnc, hc63⟩ := own_bounds hown
  have hxl : xs.length = n * 5 := hown.1
  have hsz : (Tryz.prog.info? 25).map (·.size) = some 5 := by rw [hiE]; simp [hsE]
  have hshg : ∃ k, w.shape? g = some (25, k) ∧ k ≠ 0 := by
    rcases hown.2 with ⟨h, _⟩ | ⟨g', c', cur, h, _, hg, _, _, hcs, _⟩
    · injection h with e; cases e
    · injection h with e _ e2
      injection e with e
      injection e with e
      subst e e2
      exact ⟨cur.size, by simp [World.shape?, hg], by omega⟩
  obtain ⟨kB, hsB, hkB⟩ := hshg
  have hsA : w.shape? vb = some (25, ys.toArray.size) := by unfold Bk at hv; simp [World.shape?, hv]
  have hov : ∀ o lb cb, (callFunc 92 #[.slice (some ⟨vb, 0, none⟩) 1 1, .slice (some ⟨g, o, none⟩) lb cb]).run Tryz.prog w = .ok (.value (.bool false)) w := fun o lb cb => by
    rw [run_callFunc_extern Tryz.func92 (by kernel_rfl) (by kernel_rfl) (by kernel_rfl) (e := Extern.SlicesOverlaps.overlaps #[22, 22] #[4]) (by kernel_rfl),
      Lib.run_overlaps_apart w 22 4 25 Tryz.underlying22 5 sizeV_any ⟨vb, 0, none⟩ ⟨g, o, none⟩ 1 1 lb cb hne 25 25 _ kB hsA hsB hkB (hv.frozen _) (hv.frozen _)]
    rfl
  obtain ⟨js, hjl, hown0⟩ := own_longer (m := 1) hown hroom
  have hsrc1 : ∀ j v, (xs.drop (i * 5))[j]? = some v → w.drew.cell? ((⟨g, i * 5, none⟩ : Addr).add j) = some v := fun j v hj => by
    have := hown.cells rfl (i * 5 + j) v (by rwa [List.getElem?_drop] at hj)
    rw [Addr.add_lit] at this ⊢
    rw [← this]
    show w.cell? _ = _
    congr 2
    omega
  obtain ⟨w1, hr1, hown1, hg1⟩ := run_copy_own (P := Tryz.prog) w.drew 22 25 base 5 g (n + 1) c (xs ++ js) 25 hown0 Tryz.underlying22 hsz ((i + 1) * 5) (n - i) ⟨g, i * 5, none⟩ (n + 1 - i) (xs.drop (i * 5))
    (by rw [List.length_drop, hxl, show Nat.min (n + 1 - i) (n - i) = n - i by simp only [Nat.min_def]; split <;> omega]; omega) hsrc1 (by rw [List.length_drop, hxl]; omega) (fun v hv => h1x v (List.mem_of_mem_drop hv))
  have hsrc2 : ∀ j v, ys[j]? = some v → w1.cell? ((⟨vb, 0, none⟩ : Addr).add j) = some v := fun j v hj => by
    have hv1 : Bk w1 vb 25 ys.toArray := (hg1.block vb hv.lt (by simpa using hne)).trans hv
    rw [Addr.add_lit, Nat.zero_add, hv1.cell]; simpa using hj
  obtain ⟨w2, hr2, hown2, hg2⟩ := run_copy_own (P := Tryz.prog) w1 22 25 base 5 g (n + 1) c _ 25 hown1 Tryz.underlying22 hsz (i * 5) (n + 1 - i) ⟨vb, 0, none⟩ 1 ys
    (by rw [hyl, show Nat.min 1 (n + 1 - i) = 1 by simp only [Nat.min_def]; split <;> omega]) hsrc2 (by omega) h1y
  have hfin : Hid (w2.ownsRow base 25 5 (.slice (some ⟨g, 0, none⟩) (n + 1) c) (n + 1) (xs.take (i * 5) ++ ys ++ xs.drop (i * 5))) := Lib.hid (by
    rw [put_between xs js ys (i * 5) ((i + 1) * 5) (by omega) (by omega) (by omega)] at hown2
    exact hown2)
  have HG := Lib.hid (grownBy_trans (show w.grownBy w1 (some g) from ⟨hg1.os, hg1.tape, hg1.output, hg1.size, hg1.block⟩) hg2)
  clear hown hown0 hown1 hown2 hg1 hg2 hsrc1 hsrc2 hv h1x h1y hsA hsB hne hjl hyl hxl hbE hzE hsz hiE hsE
  have mixed : Tryz.prog.follows .mixedOrders = true := by kernel_rfl
  have hz2 : ¬ ((i : Int) = (n : Int)) := by omega
  have hw1 : IntKind.i64.wrap ((i : Int) + 1) = (i : Int) + 1 := by rw [IntKind.wrap_i64]; omega
  have hw2 : IntKind.i64.wrap ((n : Int) + 1) = (n : Int) + 1 := by rw [IntKind.wrap_i64]; omega
  have hb1 : (0 : Int) ≤ (i : Int) + 1 := by omega
  have hb0 : (0 : Int) ≤ (n : Int) + 1 := by omega
  have hin : i ≤ n := by omega
  have htn : ((i : Int) + 1).toNat = i + 1 := by omega
  have htm : ((n : Int) + 1).toNat = n + 1 := by omega
  have hb2 : ¬ (c = i + 1) := by omega
  have hb3 : (i : Int) ≤ (n : Int) + 1 := by omega
  have hb5 : (n : Int) + 1 ≤ (c : Int) := by omega
  have hb6 : ¬ ((c : Int) < (n : Int) + 1) := by omega
  have hb4 : ¬ (c = i) := by omega
  go_enter Tryz.func75, Tryz.ntmps75
  go_wp2_with (simp only [hov])
  skip
  go_region_law_o (refine step_copy_runI rfl _ _ 22 22 rfl _ _ (by simp [Act.eval, Act.put]) (by simp [Act.eval, Act.put]) (hr1 _ _ _ _) ?_)
  go_wp2_with (at_builtin; refine wpList_copy_runI _ rfl _ _ 22 22 rfl _ _ rfl rfl (hr2 _ _ _ _) ?_)
  go_ret
  exact ⟨g, c, rfl, hfin.out, HG.out, Or.inl rfl⟩

set_option maxRecDepth 100000 in
set_option maxHeartbeats 4000000 in
theorem insV_grow (w : World) (base n c i vb g : Nat) (xs ys : List Value) (hyl : ys.length = 5) (hi : i < n) (hroom : c < n + 1)
    (hown : w.ownsRow base 25 5 (.slice (some ⟨g, 0, none⟩) n c) n xs) (hv : Bk w vb 25 ys.toArray) (hbase : base ≤ w.heap.size) (hbig : (n + 1) * 80 ≤ 140737488355328) (h1x : ∀ u ∈ xs, u.oneCell' = true) (h1y : ∀ u ∈ ys, u.oneCell' = true) :
    Calls Tryz.prog 75 #[.slice (some ⟨g, 0, none⟩) n c, .int .i64 i, .slice (some ⟨vb, 0, none⟩) 1 1] w (InsV w base n i (some ⟨g, 0, none⟩) c xs ys) := by
  obtain ⟨iE, hiE, hzE, hsE, hbE⟩ := info_parts Tryz.infoV
  obtain ⟨hnc, hc63⟩ := own_bounds hown
  have hxl : xs.length = n * 5 := hown.1
  have hsz : (Tryz.prog.info? 25).map (·.size) = some 5 := by rw [hiE]; simp [hsE]
  have hgl : g < w.heap.size := (hown.lt g rfl).2
  have hnk : i + (n + 1 - i) = n + 1 := by omega
  have hXl : (xs.take (i * 5)).length = i * 5 := by rw [List.length_take, hxl]; omega
  have hold : (Builtin.firstCells iE.size i (.slice (some ⟨g, 0, none⟩) i c)).run Tryz.prog w.drew = .ok (xs.take (i * 5)).toArray w.drew := by
    rw [hsE]
    exact run_firstCells_some w.drew 5 i ⟨g, 0, none⟩ i c (xs.take (i * 5)) hXl (fun j v hj => by
      rw [List.getElem?_take] at hj
      split at hj
      · exact hown.cells rfl j v hj
      · cases hj)
  have hgrow := fun ty => Lib.run_append_grow_zeros (P := Tryz.prog) w 22 3 ty 25 iE (.agg #[.int .i64 0, .int .i64 0, .string ByteArray.empty, .slice none 0 0, .slice none 0 0]) .i64 .i64 Tryz.underlying22 Tryz.underlying3 hiE hzE (some ⟨g, 0, none⟩) i c _ hold (n + 1 - i) (by omega) (by rw [hsE]; decide) (by omega) (by omega) (by rw [hbE]; omega) (by rw [hbE, hnk]; exact growslice_fits hroom hbig)
  obtain ⟨zs, hzl, hown1, hg1⟩ := own_grown w 25 5 base i (n + 1 - i) c (.agg #[.int .i64 0, .int .i64 0, .string ByteArray.empty, .slice none 0 0, .slice none 0 0]) rfl (xs.take (i * 5)) hXl hbase (by unfold maxLen; omega)
  rw [hnk] at hgrow hown1 hg1
  have hGn : n + 1 ≤ grownCap w (n + 1) c 25 := grownCap_ge w _ _ _
  have hG63 : grownCap w (n + 1) c 25 ≤ 9223372036854775807 := grownCap_le_maxLen w (n + 1) c 25 (by unfold maxLen; omega)
  generalize grownCap w (n + 1) c 25 = G at *
  generalize hw1 : w.drew.alloc (.cells ((xs.take (i * 5)).toArray ++ Builtin.zeroCells (Value.cells (.agg #[.int .i64 0, .int .i64 0, .string ByteArray.empty, .slice none 0 0, .slice none 0 0])) (n + 1 - i) ++ Builtin.zeroCells (Value.cells (.agg #[.int .i64 0, .int .i64 0, .string ByteArray.empty, .slice none 0 0, .slice none 0 0])) (G - (n + 1))) 25) = w1 at *
  have hsrc1 : ∀ j v, ys[j]? = some v → w1.cell? ((⟨vb, 0, none⟩ : Addr).add j) = some v := fun j v hj => by
    have hv1 : Bk w1 vb 25 ys.toArray := (hg1.block vb hv.lt (by simp)).trans hv
    rw [Addr.add_lit, Nat.zero_add, hv1.cell]; simpa using hj
  obtain ⟨w2, hr1, hown2, hg2⟩ := run_copy_own (P := Tryz.prog) w1 22 25 base 5 w.heap.size (n + 1) G _ 25 hown1 Tryz.underlying22 hsz (i * 5) (n + 1 - i) ⟨vb, 0, none⟩ 1 ys
    (by rw [hyl, show Nat.min 1 (n + 1 - i) = 1 by simp only [Nat.min_def]; split <;> omega]) hsrc1 (by omega) h1y
  have hsrc2 : ∀ j v, (xs.drop (i * 5))[j]? = some v → w2.drew.cell? ((⟨g, i * 5, none⟩ : Addr).add j) = some v := fun j v hj => by
    have h := hown.cells rfl (i * 5 + j) v (by rwa [List.getElem?_drop] at hj)
    have h' := hg2.cell (hg1.cell h (by simp)) (by rw [Addr.add_lit]; simp; omega)
    rw [Addr.add_lit] at h' ⊢
    rw [← h']
    show w2.cell? _ = _
    congr 2
    omega
  obtain ⟨w3, hr2, hown3, hg3⟩ := run_copy_own (P := Tryz.prog) w2.drew 22 25 base 5 w.heap.size (n + 1) G _ 25 hown2 Tryz.underlying22 hsz ((i + 1) * 5) (n - i) ⟨g, i * 5, none⟩ (n - i) (xs.drop (i * 5))
    (by rw [List.length_drop, hxl, show Nat.min (n - i) (n - i) = n - i from Nat.min_self _]; omega) hsrc2 (by rw [List.length_drop, hxl]; omega) (fun v hv => h1x v (List.mem_of_mem_drop hv))
  have hfin : Hid (w3.ownsRow base 25 5 (.slice (some ⟨w.heap.size, 0, none⟩) (n + 1) G) (n + 1) (xs.take (i * 5) ++ ys ++ xs.drop (i * 5))) := Lib.hid (by
    rw [put_fresh (xs.take (i * 5)) zs ys (xs.drop (i * 5)) (i * 5) ((i + 1) * 5) hXl (by omega) (by rw [List.length_drop]; omega)] at hown3
    exact hown3)
  have HG : Hid (w.grownBy w3 (some g)) := Lib.hid (grown_any (grown_far (grown_far hg1 hg2 (Nat.le_refl _)) (show w2.grownBy w3 _ from ⟨hg3.os, hg3.tape, hg3.output, hg3.size, hg3.block⟩) (Nat.le_refl _)))
  clear hown hown1 hown2 hown3 hg1 hg2 hg3 hsrc1 hsrc2 hv h1x h1y hyl hxl hbE hzE hsz hiE hsE hold hXl hzl hbig hbase
  have mixed : Tryz.prog.follows .mixedOrders = true := by kernel_rfl
  have hkk : (((n + 1 - i : Nat) : Int)) = (n : Int) + 1 - (i : Int) := by omega
  rw [hkk] at hgrow
  have hz2 : ¬ ((i : Int) = (n : Int)) := by omega
  have hz3 : (c : Int) < (n : Int) + 1 := by omega
  have hw4 : IntKind.i64.wrap ((i : Int) + 1) = (i : Int) + 1 := by rw [IntKind.wrap_i64]; omega
  have hw2 : IntKind.i64.wrap ((n : Int) + 1) = (n : Int) + 1 := by rw [IntKind.wrap_i64]; omega
  have hw3 : IntKind.i64.wrap ((n : Int) + 1 - (i : Int)) = (n : Int) + 1 - (i : Int) := by rw [IntKind.wrap_i64]; omega
  have hb1 : (0 : Int) ≤ (i : Int) + 1 := by omega
  have hb0 : (0 : Int) ≤ (n : Int) + 1 := by omega
  have hin : i ≤ n := by omega
  have htn : ((i : Int) + 1).toNat = i + 1 := by omega
  have htm : ((n : Int) + 1).toNat = n + 1 := by omega
  have hb2 : ¬ (G = i + 1) := by omega
  have hb3 : (i : Int) ≤ (n : Int) + 1 := by omega
  have hb7 : (i : Int) ≤ (n : Int) := by omega
  have hb4 : ¬ (c = i) := by omega
  have hb8 : ¬ (G = i) := by omega
  skip
  go_enter Tryz.func75, Tryz.ntmps75
  go_wp2_with (first
    | (at_builtin; refine Lib.wpList_append_run _ rfl _ _ _ _ rfl _ _ rfl rfl _ _ (hgrow _) ?_)
    | (at_builtin; refine wpList_copy_runI _ rfl _ _ 22 22 rfl _ _ rfl rfl (hr1 _ _ _ _) ?_))
  go_region_law_o (refine step_copy_runI rfl _ _ 22 22 rfl _ _ (by simp [Act.eval, Act.put]) (by simp [Act.eval, Act.put]) (hr2 _ _ _ _) ?_)
  go_wp2
  go_ret
  exact ⟨w.heap.size, G, rfl, hfin.out, HG.out, Or.inr (Nat.le_refl _)⟩

theorem insV_any (w : World) (base n c i vb : Nat) (A : Option Addr) (xs ys : List Value) (hyl : ys.length = 5) (hi : i ≤ n)
    (hown : w.ownsRow base 25 5 (.slice A n c) n xs) (hv : Bk w vb 25 ys.toArray) (hne : some vb ≠ (Value.slice A n c).ownBlock) (hbase : base ≤ w.heap.size) (hbig : (n + 1) * 80 ≤ 140737488355328)
    (h1x : ∀ u ∈ xs, u.oneCell' = true) (h1y : ∀ u ∈ ys, u.oneCell' = true) :
    Calls Tryz.prog 75 #[.slice A n c, .int .i64 i, .slice (some ⟨vb, 0, none⟩) 1 1] w (InsV w base n i A c xs ys) := by
  rcases Nat.eq_or_lt_of_le hi with rfl | hlt
  · exact insV_end w base i c vb A xs ys hyl hown hv hbase hbig h1y
  · obtain ⟨g, cap, e, _, _⟩ := hown.form (by omega)
    injection e with e1 _ e2
    subst e1 e2
    by_cases hr : n + 1 ≤ c
    · exact insV_room w base n c i vb g xs ys hyl hlt hr hown hv (fun e => hne (by rw [e]; rfl)) h1x h1y
    · exact insV_grow w base n c i vb g xs ys hyl hlt (by omega) hown hv hbase hbig h1x h1y
end Go.Proofs.YtjblchdfkcbodaaGreatDoor
