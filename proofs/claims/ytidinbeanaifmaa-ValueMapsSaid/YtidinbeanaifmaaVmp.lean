/-
  Map of the code.
-/
import Derived.Test.YtidinbeanaifmaaVme
namespace Go.Proofs.Ytidinbeanaifmaa
open Go.RowKit Go.Sort Go.Shelf

/-- the map of these pairs, and the error -/
def mapT (es : List (ByteArray × VT)) : VT := .mk 5 0 ⟨#[]⟩ (es.map (·.2)) (es.map (·.1))
def mapV (es : List (ByteArray × VT)) : VT := if rising (es.map (·.1)) = true then limT (mapT es) else nullT
def mapE (es : List (ByteArray × VT)) : Int := if rising (es.map (·.1)) = true then limE (mapT es) else 9
/-- the pairs, ascending -/
def Sorts (keys : List ByteArray) (items : List VT) (es : List (ByteArray × VT)) : Prop := es.Perm (keys.zip items) ∧ ∀ i j, i < j → j < es.length → less es[j]!.1 es[i]!.1 = false
def MapSpec (keys : List ByteArray) (items : List VT) (y : VT) (r : Int) : Prop :=
  (keys.length ≠ items.length ∧ y = nullT ∧ r = 6) ∨ (keys.length = items.length ∧ ∃ es, Sorts keys items es ∧ y = mapV es ∧ r = mapE es)

theorem items_liesC {w : World} {R : Nat → Prop} : ∀ {l : List En}, (∀ en ∈ l, Lies w R en.x en.val) → LiesC w R (l.map (·.x)) (l.flatMap itemC)
  | [], _ => rfl
  | x :: l, h => ⟨_, _, _, _, _, l.flatMap itemC, rfl, h x List.mem_cons_self, items_liesC (fun en he => h en (List.mem_cons_of_mem _ he))⟩
theorem alls_iff {p : VT → Bool} : ∀ {l : List VT}, alls p l = true ↔ ∀ x ∈ l, x.all p = true
  | [] => by simp [alls]
  | x :: r => by simp [alls, alls_iff (l := r)]
theorem grown_low {a b c : World} {r r' : Option Nat} (h : a.grownBy b r) (k : b.grownBy c r') (hr : ∀ q, r' = some q → a.heap.size ≤ q) : a.grownBy c r :=
  ⟨k.os.trans h.os, k.tape.trans h.tape, k.output.trans h.output, Nat.le_trans h.size k.size, fun i hi hn => (k.block i (Nat.lt_of_lt_of_le hi h.size) (fun e => by have := hr i e.symm; omega)).trans (h.block i hi hn)⟩
theorem own_some {w : World} {lo g o n m c size : Nat} {e : TypeId} {xs : List Value} (h : w.ownsRow lo e size (.slice (some ⟨g, o, none⟩) n c) m xs) : lo ≤ g ∧ g < w.heap.size := by
  rcases h.2 with ⟨h0, _⟩ | ⟨g', cap, cur, hv, hb, hg, _⟩
  · injection h0 with h0; cases h0
  · injection hv with hv
    injection hv with hv
    injection hv with hv
    subst hv
    exact ⟨hb, (Array.getElem?_eq_some_iff.1 hg).1⟩
theorem six_of {l : List Value} (h : 6 ≤ l.length) : ∃ a b c s y z r, l = a :: b :: c :: s :: y :: z :: r := by
  match l, h with
  | a :: b :: c :: s :: y :: z :: r, _ => exact ⟨a, b, c, s, y, z, r, rfl⟩
theorem six_at {new rest : List Value} {a b c s y z : Value} {m : Nat} (h : new.length = m) :
    (new ++ a :: b :: c :: s :: y :: z :: rest)[m]? = some a ∧ (new ++ a :: b :: c :: s :: y :: z :: rest)[m + 1]? = some b ∧ (new ++ a :: b :: c :: s :: y :: z :: rest)[m + 2]? = some c ∧
    (new ++ a :: b :: c :: s :: y :: z :: rest)[m + 3]? = some s ∧ (new ++ a :: b :: c :: s :: y :: z :: rest)[m + 4]? = some y ∧ (new ++ a :: b :: c :: s :: y :: z :: rest)[m + 5]? = some z := by
  subst h
  refine ⟨?_, ?_, ?_, ?_, ?_, ?_⟩ <;> rw [List.getElem?_append_right (by omega)] <;> simp

set_option maxRecDepth 100000 in
set_option maxHeartbeats 8000000 in
theorem Map_any (A : Option Addr) (c : Nat) (keys : List ByteArray) (D : Option Addr) (e : Nat) (items : List VT) (w : World) (hS : LiesS w (Lo w) A keys) (hL : LiesL w (Lo w) D 0 items)
    (hc : keys.length ≤ c) (he : items.length ≤ e) (hk : keys.length ≤ 1000000) (hr : alls reachF items = true) :
    Calls Try.prog 13 #[.slice A keys.length c, .slice D items.length e] w fun en w' => ∃ y r, MapSpec keys items y r ∧ MakesE y r w en w' := by
  by_cases hlen : keys.length = items.length
  · obtain ⟨d, hdn, hdz, hd⟩ := ens_exist hS hL hlen
    obtain ⟨iE, hiE, hzE, hsE, hbE⟩ := info_parts Try.infoE
    have HD := Lib.hid hd
    have HDN := Lib.hid hdn
    have HDZ := Lib.hid hdz
    have HLN := Lib.hid hlen
    have HR := Lib.hid hr
    obtain ⟨n, hn⟩ : ∃ n, n = keys.length := ⟨_, rfl⟩
    have hn2 : n = items.length := by omega
    have t0 : ((n : Int) != (n : Int)) = false := by simp
    have HN := Lib.hid (And.intro hn hn2)
    rw [← hn] at hc hk ⊢
    rw [← hn2] at he ⊢
    clear hS hL hlen hd hdn hdz hr hn hn2
    obtain ⟨w1, hw1⟩ : ∃ w1, w1 = w.alloc (.cells #[.int .i64 0, .int .i64 0, .string ⟨#[]⟩, .slice none 0 0, .slice none 0 0] 26) := ⟨_, rfl⟩
    have B1 : Hid (Below w.heap.size w w1) := Lib.hid (by rw [hw1]; exact below_one _ _)
    have Q1 : Hid (Bk w1 w.heap.size 26 #[.int .i64 0, .int .i64 0, .string ⟨#[]⟩, .slice none 0 0, .slice none 0 0]) := Lib.hid (by rw [hw1]; exact Bk.new _ _ _)
    have HW1 := Lib.hid hw1
    clear hw1
    go_enter Try.func13, Try.ntmps13
    go_wp2_with (at_make; rw [← HW1.out]; refine wpList_make_full _ rfl _ _ 64 rfl w1.heap.size 66 iE _ 6 Try.underlying64 hiE hzE hsE _ _ _ _ n rfl rfl rfl rfl ?_ ?_ ?_ ?_)
    · rw [hbE]; omega
    · unfold maxLen; omega
    · exact Nat.le_refl _
    · intro w2 hown hg
      generalize (madeCells _ _).toList = old0 at hown
      have hl0 : old0.length = n * 6 := hown.1
      have B2 := Lib.hid (B1.out.grown hg B1.out.size (fun k hk => by cases hk))
      have Q2 := Lib.hid (Q1.out.grown hg (by simp))
      have HO0 := Lib.hid hown
      have L1 : Hid (w.heap.size < w1.heap.size) := Lib.hid Q1.out.lt
      have L2 : Hid (w1.heap.size < w2.heap.size ∨ n = 0) := Lib.hid (by
        rcases Nat.eq_zero_or_pos n with h | h
        · exact Or.inr h
        · obtain ⟨g, hg1, _, hg2⟩ := own_at hown h
          injection hg1 with hg1
          injection hg1 with hg1
          subst hg1
          exact Or.inl hg2)
      clear hown hg
      go_wp2_with fail
      go_loopw [23, 7, 8] (fun s _ _ wr => ∃ (j : Nat) (old : List Value), j ≤ n ∧ s = .int .i64 j ∧ old.length = (n - j) * 6 ∧ Hid (wr.ownsRow w1.heap.size 66 6 (.slice (some ⟨w1.heap.size, 0, none⟩) n n) n ((d.take j).flatMap encE ++ old)) ∧ Hid (w2.grownBy wr (some w1.heap.size))) (fun s _ _ _ => n - (intOf s).toNat)
      case atStart => exact ⟨0, old0, by omega, rfl, by omega, Lib.hid (by simpa using HO0.out), Lib.hid (World.grownBy.refl _ _)⟩
      case round =>
        obtain ⟨j, old, hjn, rfl, hol, HO, HG⟩ := hrel
        have BR := Lib.hid (B2.out.grown HG.out B2.out.size (fun k hk => by injection hk with hk; have := L1.out; omega))
        by_cases hlt : j < n
        · have hjd : j < d.length := by have := HDN.out; have := HN.out; omega
          obtain ⟨hks, hx, ⟨ga, oa, rfl, hga, k0⟩, gd, od, rfl, hgd, e0, e1, e2, e3, e4⟩ := HD.out j _ (List.getElem?_eq_getElem hjd)
          have htk : d.take (j + 1) = d.take j ++ [d[j]'hjd] := by rw [List.take_add_one, List.getElem?_eq_getElem hjd]; rfl
          have hfl : ((d.take j).flatMap encE).length = j * 6 := by rw [flat_len, List.length_take]; congr 1; omega
          generalize d[j]'hjd = en at *
          obtain ⟨a, b, c0, s, y, z, rest, rfl⟩ := six_of (l := old) (by omega)
          have hrl : rest.length = (n - (j + 1)) * 6 := by simp at hol; omega
          obtain ⟨m0, m1, m2, m3, m4, m5⟩ := six_at (rest := rest) (a := a) (b := b) (c := c0) (s := s) (y := y) (z := z) hfl
          have o0 := (HO.out.cellAt (j * 6) (by omega)).trans m0
          have o1 := (HO.out.cellAt (j * 6 + 1) (by omega)).trans m1
          have o2 := (HO.out.cellAt (j * 6 + 2) (by omega)).trans m2
          have o3 := (HO.out.cellAt (j * 6 + 3) (by omega)).trans m3
          have o4 := (HO.out.cellAt (j * 6 + 4) (by omega)).trans m4
          have o5 := (HO.out.cellAt (j * 6 + 5) (by omega)).trans m5
          have f0 := HO.out.frozenAt (j * 6)
          have f1 := HO.out.frozenAt (j * 6 + 1)
          have f2 := HO.out.frozenAt (j * 6 + 2)
          have f3 := HO.out.frozenAt (j * 6 + 3)
          have f4 := HO.out.frozenAt (j * 6 + 4)
          have f5 := HO.out.frozenAt (j * 6 + 5)
          rw [← BR.out.cell (p := ⟨ga, oa + j, none⟩) hga] at k0
          have cc := fun (q : Nat) => BR.out.cell (p := ⟨gd, q, none⟩) hgd
          rw [← cc] at e0 e1 e2 e3 e4
          obtain ⟨hst, hgr⟩ := own_store6 (a := .string en.key) (b := .int .i64 en.k) (c := .int .i64 en.i) (s := .string en.t) (y := .slice en.A en.n en.c) (z := .slice en.A' en.n' en.c') HO.out hfl (by simp)
          have FO : Hid (((((((wr.setCell ⟨w1.heap.size, j * 6, none⟩ (.string en.key)).setCell ⟨w1.heap.size, j * 6 + 1, none⟩ (.int .i64 en.k)).setCell ⟨w1.heap.size, j * 6 + 2, none⟩ (.int .i64 en.i)).setCell ⟨w1.heap.size, j * 6 + 3, none⟩ (.string en.t)).setCell ⟨w1.heap.size, j * 6 + 4, none⟩ (.slice en.A en.n en.c)).setCell ⟨w1.heap.size, j * 6 + 5, none⟩ (.slice en.A' en.n' en.c')).ownsRow w1.heap.size 66 6 (.slice (some ⟨w1.heap.size, 0, none⟩) n n) n ((d.take (j + 1)).flatMap encE ++ rest)) := Lib.hid (by
            rw [htk, List.flatMap_append]
            have : [en].flatMap encE = encE en := by simp
            rw [this]
            exact hst)
          have FG := Lib.hid (grownBy_trans HG.out hgr)
          clear hst hgr m0 m1 m2 m3 m4 m5 htk hfl hx cc
          go_wp2_with fail
          go_roundw
          case rel => exact ⟨j + 1, rest, by omega, by go_num, hrl, FO, FG⟩
          case measure => simp [intOf]; omega
        · obtain rfl : j = n := by omega
          obtain rfl : old = [] := List.eq_nil_of_length_eq_zero (by omega)
          have hdj : d.length = j := by have := HDN.out; have := HN.out; omega
          have ho : wr.ownsRow w1.heap.size 66 6 (.slice (some ⟨w1.heap.size, 0, none⟩) j j) j (d.flatMap encE) := by
            have := HO.out
            rwa [List.append_nil, List.take_of_length_le (by omega)] at this
          have hblk := (own_some ho).2
          have hs := sortE_any w1.heap.size j d.toArray wr (holds_of_own ho hdj) hblk (by rw [List.size_toArray]; omega)
          have e1 : d.toArray.size = j := by rw [List.size_toArray]; exact hdj
          rw [e1] at hs
          have HSO := Lib.hid hs
          have HBK := Lib.hid hblk
          have QR := Lib.hid (Q2.out.grown HG.out (by have := L1.out; intro e; injection e with e; omega))
          clear hs ho hblk hlt e1
          go_wp2_with fail
          refine (HSO.out).mono ?_
          rintro en w3 ⟨rfl, d', hds, hperm, hsort, hH', hg3⟩
          have B3 := Lib.hid (BR.out.grown hg3 BR.out.size (fun k hk => by injection hk with hk; have := L1.out; omega))
          have Q3 := Lib.hid (QR.out.grown hg3 (by have := L1.out; intro e; injection e with e; omega))
          have S3 : Hid (w1.heap.size < w3.heap.size) := Lib.hid (by have := HBK.out; have := hg3.size; omega)
          obtain ⟨l, hl⟩ : ∃ l, l = d'.toList := ⟨_, rfl⟩
          have hll : l.length = j := by rw [hl, Array.length_toList]; exact hds
          have hget : ∀ i, d'[i]! = l[i]! := fun i => by
            have h0 : d' = l.toArray := by rw [hl]
            rw [h0, List.getElem!_toArray]
          have HSRT : Hid (Sorts keys items (l.map fun e => (e.key, e.x))) := Lib.hid (by
            refine ⟨?_, fun a b hab hb => ?_⟩
            · have h1 := hperm.map (fun e : En => (e.key, e.x))
              rw [← hl] at h1
              have h2 := HDZ.out
              rw [← h2]
              simpa using h1
            · rw [List.length_map] at hb
              have h1 := hsort a b hab (by omega)
              rw [hget, hget] at h1
              rw [List.getElem!_eq_getElem?_getD, List.getElem!_eq_getElem?_getD, List.getElem?_map, List.getElem?_map, List.getElem?_eq_getElem hb, List.getElem?_eq_getElem (show a < l.length by omega)]
              rw [getElem!_pos l b hb, getElem!_pos l a (by omega)] at h1
              exact h1)
          have HEN : Hid (∀ (i : Nat) (en : En), l[i]? = some en → en.key.size ≤ 9223372036854775807 ∧ Lies w (Lo w) en.x en.val) := Lib.hid (fun i en hi => by
            have hm : en ∈ d := by
              have h1 := List.mem_of_getElem? hi
              rw [hl] at h1
              simpa using hperm.mem_iff.1 h1
            obtain ⟨q, hq, rfl⟩ := List.mem_iff_getElem.1 hm
            have := HD.out q _ (List.getElem?_eq_getElem hq)
            exact ⟨this.1, this.2.1⟩)
          have HCE : Hid (∀ (i : Nat) (en : En), l[i]? = some en → ∀ (c : Nat) (v : Value), (encE en)[c]? = some v → w3.cell? ⟨w1.heap.size, i * 6 + c, none⟩ = some v) := Lib.hid (fun i en hi c v hc => by
            have hil := (List.getElem?_eq_some_iff.1 hi).1
            have h1 := HoldsK.cells hH' encE_len (i := i) (by omega) c v (by
              rw [hget, getElem!_pos l i hil, (List.getElem?_eq_some_iff.1 hi).2]; exact hc)
            simpa [Addr.add_lit] using h1)
          have HLL := Lib.hid hll
          clear hperm hsort hH' hg3 hl hget hds hll
          go_wp2_with fail
          obtain ⟨w4, hw4⟩ : ∃ w4, w4 = w3.alloc (.cells #[.int .i64 5, .int .i64 0, .string ⟨#[]⟩, .slice none 0 0, .slice none 0 0] 26) := ⟨_, rfl⟩
          have P4 : Hid (Bk w4 w3.heap.size 26 #[.int .i64 5, .int .i64 0, .string ⟨#[]⟩, .slice none 0 0, .slice none 0 0]) := Lib.hid (by rw [hw4]; exact Bk.new _ _ _)
          have B34 : Hid (Below w3.heap.size w3 w4) := Lib.hid (by rw [hw4]; exact below_one _ _)
          have Z4 : Hid (w4.heap.size = w3.heap.size + 1) := Lib.hid (by rw [hw4]; simp)
          have Q4 := Lib.hid (Q3.out.below B34.out Q3.out.lt)
          rw [← hw4]
          have HW4 := Lib.hid hw4
          clear hw4
          obtain ⟨iV, hiV, hzV, hsV, hbV⟩ := info_parts Try.infoV
          obtain ⟨iS, hiS, hzS, hsS, hbS⟩ := info_parts Try.infoS
          go_loopw [43, 11] (fun s _ wq => ∃ (i : Nat) (AI : Option Addr) (cI : Nat) (AK : Option Addr) (cK : Nat), i ≤ j ∧ s = .int .i64 i ∧ Hid (Bk wq w3.heap.size 26 #[.int .i64 5, .int .i64 0, .string ⟨#[]⟩, .slice AI i cI, .slice AK i cK]) ∧
            Hid (wq.ownsRow w4.heap.size 26 5 (.slice AI i cI) i ((l.take i).flatMap itemC)) ∧ Hid (wq.ownsRow w4.heap.size 9 1 (.slice AK i cK) i ((l.take i).map fun e => Value.string e.key)) ∧ Hid (w4.grownBy wq (some w3.heap.size))) (fun s _ _ => j - (intOf s).toNat)
          case atStart => exact ⟨0, none, 0, none, 0, by omega, rfl, P4, Lib.hid (World.ownsRow_nil _ _ _ _), Lib.hid (World.ownsRow_nil _ _ _ _), Lib.hid (World.grownBy.refl _ _)⟩
          case round =>
            obtain ⟨i, AI, cI, AK, cK, hij, rfl, HP, HI, HK, HQ⟩ := hrel
            by_cases hlt : i < j
            · have hil : i < l.length := by have := HLL.out; omega
              have hE := HCE.out i _ (List.getElem?_eq_getElem hil)
              have htk : l.take (i + 1) = l.take i ++ [l[i]'hil] := by rw [List.take_add_one, List.getElem?_eq_getElem hil]; rfl
              generalize l[i]'hil = en at *
              have hbg : wr.heap[w1.heap.size]? = w3.heap[w1.heap.size]? := (HQ.out.block _ (by have := S3.out; have := Z4.out; omega) (by have := S3.out; intro e; injection e with e; omega)).trans (B34.out.block _ S3.out)
              have cb := fun (q : Nat) => World.cell?_of_block (w := w3) (w' := wr) (a := ⟨w1.heap.size, q, none⟩) hbg
              have e0 := (cb _).trans (hE 0 _ rfl)
              have e1 := (cb _).trans (hE 1 _ rfl)
              have e2 := (cb _).trans (hE 2 _ rfl)
              have e3 := (cb _).trans (hE 3 _ rfl)
              have e4 := (cb _).trans (hE 4 _ rfl)
              have e5 := (cb _).trans (hE 5 _ rfl)
              rw [Nat.add_zero] at e0
              have p4 := (HP.out.alloc (.cells #[.string en.key, .int .i64 en.k, .int .i64 en.i, .string en.t, .slice en.A en.n en.c, .slice en.A' en.n' en.c'] 66)).cell 4
              change _ = some (Value.slice AK i cK) at p4
              have HTK := Lib.hid htk
              have hbase : w4.heap.size ≤ wr.heap.size := HQ.out.size
              have hpm : w3.heap.size < wr.heap.size := HP.out.lt
              have HBS := Lib.hid (And.intro hbase hpm)
              clear hE htk cb hbg hbase hpm
              go_wp2_with (at_builtin; refine wpList_append_own _ rfl (.tmp 48) (.tmp 51) 22 rfl w4.heap.size 9 iS (.string ByteArray.empty) 1 16 Try.underlying22 hiS hzS hsS hbS rfl (by decide) _ i _ rfl ((HK.out.alloc _).alloc _) _ 1 1 [.string en.key] rfl ?_ ?_ ?_ ?_ ?_ ?_ ?_)
              · rfl
              · intro q u hq
                match q with
                | 0 => simp at hq; subst hq; simp [Addr.add]
                | q + 1 => simp at hq
              · intro u hu; simp at hu; subst hu; rfl
              · unfold maxLen; omega
              · omega
              · have := HBS.out.1; simp; omega
              · intro v5 w5 hown hg _
                obtain ⟨AK2, cK2, rfl, _, _⟩ := own_form hown
                have hrow := HK.out.lt
                have P5 : Hid (Bk w5 w3.heap.size 26 #[.int .i64 5, .int .i64 0, .string ⟨#[]⟩, .slice AI i cI, .slice AK i cK]) := Lib.hid (((HP.out.alloc _).alloc _).grown hg (by intro e; have := (hrow _ e.symm).1; have := Z4.out; omega))
                have E5 : Hid (Bk w5 wr.heap.size 66 #[.string en.key, .int .i64 en.k, .int .i64 en.i, .string en.t, .slice en.A en.n en.c, .slice en.A' en.n' en.c']) := Lib.hid (((Bk.new wr _ _).alloc _).grown hg (by intro e; have := (hrow _ e.symm).2; omega))
                have I5 : Hid (w5.ownsRow w4.heap.size 26 5 (.slice AI i cI) i ((l.take i).flatMap itemC)) := Lib.hid (((HI.out.alloc _).alloc _).kept hg (own_ne HI.out HK.out (by decide)))
                have G5 : Hid (w4.grownBy w5 (some w3.heap.size)) := Lib.hid (grown_low (grown_low (grown_low HQ.out (World.grownBy_alloc _ _ none) (fun q hq => by cases hq)) (World.grownBy_alloc _ _ none) (fun q hq => by cases hq)) hg (fun q hq => (hrow q hq).1))
                have K5 : Hid (w5.ownsRow w4.heap.size 9 1 (.slice AK2 (i + 1) cK2) (i + 1) ((l.take (i + 1)).map fun e => Value.string e.key)) := Lib.hid (by
                  rw [HTK.out, List.map_append, List.map_take]; exact hown)
                have I6 : Hid ((w5.setCell ⟨w3.heap.size, 4, none⟩ (.slice AK2 (i + 1) cK2)).ownsRow w4.heap.size 26 5 (.slice AI i cI) i ((l.take i).flatMap itemC)) := Lib.hid (own_same I5.out (fun b h1 _ => Below.heap_setCell _ _ _ _ (by have := Z4.out; show b ≠ w3.heap.size; omega)))
                have x1 := E5.out.cell 1
                have x2 := E5.out.cell 2
                have x3 := E5.out.cell 3
                have x4 := E5.out.cell 4
                have x5 := E5.out.cell 5
                change _ = some (Value.int .i64 en.k) at x1
                change _ = some (Value.int .i64 en.i) at x2
                change _ = some (Value.string en.t) at x3
                change _ = some (Value.slice en.A en.n en.c) at x4
                change _ = some (Value.slice en.A' en.n' en.c') at x5
                have y3 := P5.out.cell 3
                have y4 := P5.out.cell 4
                have z4 := P5.out.frozen 4
                have z3 := P5.out.frozen 3
                change _ = some (Value.slice AI i cI) at y3
                change _ = some (Value.slice AK i cK) at y4
                have nq1 : wr.heap.size ≠ w3.heap.size := by have := HBS.out.2; omega
                have nq2 : w3.heap.size ≠ wr.heap.size := by have := HBS.out.2; omega
                have S5 : Hid (wr.heap.size < w5.heap.size) := Lib.hid E5.out.lt
                clear hown hg hrow p4 e0 e1 e2 e3 e4 e5
                go_wp2_with (at_builtin; refine wpList_append_own _ rfl (.tmp 55) (.tmp 58) 23 rfl w4.heap.size 26 iV (.agg #[.int .i64 0, .int .i64 0, .string ByteArray.empty, .slice none 0 0, .slice none 0 0]) 5 80 Try.underlying23 hiV hzV hsV hbV rfl (by decide) _ i _ rfl (I6.out.alloc _) _ 1 1 (itemC en) rfl ?_ ?_ ?_ ?_ ?_ ?_ ?_)
                · rfl
                · intro q u hq
                  match q with
                  | 0 => simp [itemC] at hq; subst hq; simp only [Addr.add]; exact (World.cell?_alloc_at _ _ _ _ (by simp [World.setCell])).trans rfl
                  | 1 => simp [itemC] at hq; subst hq; simp only [Addr.add]; exact (World.cell?_alloc_at _ _ _ _ (by simp [World.setCell])).trans rfl
                  | 2 => simp [itemC] at hq; subst hq; simp only [Addr.add]; exact (World.cell?_alloc_at _ _ _ _ (by simp [World.setCell])).trans rfl
                  | 3 => simp [itemC] at hq; subst hq; simp only [Addr.add]; exact (World.cell?_alloc_at _ _ _ _ (by simp [World.setCell])).trans rfl
                  | 4 => simp [itemC] at hq; subst hq; simp only [Addr.add]; exact (World.cell?_alloc_at _ _ _ _ (by simp [World.setCell])).trans rfl
                  | q + 5 => simp [itemC] at hq
                · intro u hu
                  simp only [itemC, List.mem_cons, List.not_mem_nil, or_false] at hu
                  rcases hu with rfl | rfl | rfl | rfl | rfl <;> rfl
                · unfold maxLen; omega
                · omega
                · have := HBS.out.1; have := S5.out; simp [World.setCell]; omega
                · intro v7 w7 hown hg _
                  obtain ⟨AI2, cI2, rfl, _, _⟩ := own_formN hown
                  have hrow := I5.out.lt
                  have P7 : Hid (Bk w7 w3.heap.size 26 #[.int .i64 5, .int .i64 0, .string ⟨#[]⟩, .slice AI i cI, .slice AK2 (i + 1) cK2]) := Lib.hid (((P5.out.put 4 _).alloc _).grown hg (by intro e; have := (hrow _ e.symm).1; have := Z4.out; omega))
                  have K6 : Hid ((w5.setCell ⟨w3.heap.size, 4, none⟩ (.slice AK2 (i + 1) cK2)).ownsRow w4.heap.size 9 1 (.slice AK2 (i + 1) cK2) (i + 1) ((l.take (i + 1)).map fun e => Value.string e.key)) := Lib.hid (own_same K5.out (fun b h1 _ => Below.heap_setCell _ _ _ _ (by have := Z4.out; show b ≠ w3.heap.size; omega)))
                  have K7 : Hid (w7.ownsRow w4.heap.size 9 1 (.slice AK2 (i + 1) cK2) (i + 1) ((l.take (i + 1)).map fun e => Value.string e.key)) := Lib.hid ((K6.out.alloc _).kept hg (own_ne K6.out I6.out (by decide)))
                  have G7 : Hid (w4.grownBy w7 (some w3.heap.size)) := Lib.hid (grown_low (grown_low (grownBy_trans G5.out (turned w5 w3.heap.size 4 _)) (World.grownBy_alloc _ _ none) (fun q hq => by cases hq)) hg (fun q hq => (hrow q hq).1))
                  have I7 : Hid (w7.ownsRow w4.heap.size 26 5 (.slice AI2 (i + 1) cI2) (i + 1) ((l.take (i + 1)).flatMap itemC)) := Lib.hid (by
                    rw [HTK.out, List.flatMap_append]
                    have : [en].flatMap itemC = itemC en := by simp
                    rw [this]
                    exact hown)
                  have P8 : Hid (Bk (w7.setCell ⟨w3.heap.size, 3, none⟩ (.slice AI2 (i + 1) cI2)) w3.heap.size 26 #[.int .i64 5, .int .i64 0, .string ⟨#[]⟩, .slice AI2 (i + 1) cI2, .slice AK2 (i + 1) cK2]) := Lib.hid (P7.out.put 3 _)
                  have K8 : Hid ((w7.setCell ⟨w3.heap.size, 3, none⟩ (.slice AI2 (i + 1) cI2)).ownsRow w4.heap.size 9 1 (.slice AK2 (i + 1) cK2) (i + 1) ((l.take (i + 1)).map fun e => Value.string e.key)) := Lib.hid (own_same K7.out (fun b h1 _ => Below.heap_setCell _ _ _ _ (by have := Z4.out; show b ≠ w3.heap.size; omega)))
                  have I8 : Hid ((w7.setCell ⟨w3.heap.size, 3, none⟩ (.slice AI2 (i + 1) cI2)).ownsRow w4.heap.size 26 5 (.slice AI2 (i + 1) cI2) (i + 1) ((l.take (i + 1)).flatMap itemC)) := Lib.hid (own_same I7.out (fun b h1 _ => Below.heap_setCell _ _ _ _ (by have := Z4.out; show b ≠ w3.heap.size; omega)))
                  have G8 : Hid (w4.grownBy (w7.setCell ⟨w3.heap.size, 3, none⟩ (.slice AI2 (i + 1) cI2)) (some w3.heap.size)) := Lib.hid (grownBy_trans G7.out (turned w7 w3.heap.size 3 _))
                  have z7 := P7.out.cell 3
                  have zf := P7.out.frozen 3
                  clear hown hg hrow x1 x2 x3 x4 x5 y3 y4 z3 z4 nq1 nq2
                  go_wp2_with fail
                  go_roundw
                  case rel => exact ⟨i + 1, AI2, cI2, AK2, cK2, by omega, by go_num, P8, I8, K8, G8⟩
                  case measure => simp [intOf]; omega
            · obtain rfl : i = j := by omega
              have B4 := Lib.hid (B3.out.trans (B34.out.mono B3.out.size))
              have BQ := Lib.hid (B4.out.grown HQ.out B4.out.size (fun k hk => by injection hk with hk; have := B3.out.size; omega))
              have QQ := Lib.hid (Q4.out.grown HQ.out (by have := S3.out; have := L1.out; intro e; injection e with e; omega))
              have p3 := HP.out.cell 3
              have p4 := HP.out.cell 4
              change _ = some (Value.slice AI i cI) at p3
              change _ = some (Value.slice AK i cK) at p4
              have htl : l.take i = l := List.take_of_length_le (by have := HLL.out; omega)
              have hkeys : wr.ownsRow w4.heap.size 9 1 (.slice AK (l.map (·.key)).length cK) (l.map (·.key)).length ((l.map (·.key)).map Value.string) := by
                have := HK.out
                rw [htl] at this
                rw [List.length_map, HLL.out, List.map_map]
                exact this
              have hitems : wr.ownsRow w4.heap.size 26 5 (.slice AI (l.map (·.x)).length cI) (l.map (·.x)).length (l.flatMap itemC) := by
                have := HI.out
                rw [htl] at this
                rw [List.length_map, HLL.out]
                exact this
              have hSk := strs_own (fun s hs => by
                obtain ⟨en, he, rfl⟩ := List.mem_map.1 hs
                obtain ⟨q, hq⟩ := List.getElem?_of_mem he
                exact (HEN.out q en hq).1) hkeys
              have hLi := (items_liesC (fun en he => by
                obtain ⟨q, hq⟩ := List.getElem?_of_mem he
                exact (HEN.out q en hq).2.keep (fun p hp => BQ.out.cell hp) (fun b hb => Nat.lt_of_lt_of_le hb BQ.out.size) : ∀ en ∈ l, Lies wr (Lo wr) en.x en.val)).own hitems
              have bk := own_bounds hkeys
              have bi := own_bounds hitems
              obtain ⟨es, hes⟩ : ∃ es : List (ByteArray × VT), es = l.map (fun e => (e.key, e.x)) := ⟨_, rfl⟩
              have e1 : es.map (·.1) = l.map (·.key) := by rw [hes, List.map_map]; rfl
              have e2 : es.map (·.2) = l.map (·.x) := by rw [hes, List.map_map]; rfl
              have hM : Lies wr (Lo wr) (mapT es) (.agg #[.int .i64 5, .int .i64 0, .string ⟨#[]⟩, .slice AI i cI, .slice AK i cK]) := by
                unfold mapT
                rw [Lies, e1, e2]
                refine ⟨AI, cI, AK, cK, ?_, by omega, by omega, by decide, bi.1, bi.2, hLi, bk.1, bk.2, hSk⟩
                unfold vag
                rw [List.length_map, List.length_map, HLL.out]
              have hRM : (mapT es).all reachF = true := by
                unfold mapT
                rw [VT.all_mk, e1, e2, Bool.and_eq_true]
                constructor
                · unfold reachF VT.its VT.ks
                  rw [List.length_map, List.length_map, HLL.out, Bool.and_eq_true, decide_eq_true_eq, decide_eq_true_eq]
                  omega
                · rw [alls_iff]
                  intro x hx
                  have h1 : x ∈ es.map (·.2) := by rw [e2]; exact hx
                  obtain ⟨pr, hp, rfl⟩ := List.mem_map.1 h1
                  have hz : pr ∈ keys.zip items := (HSRT.out.1.mem_iff).1 (by rw [← hes]; exact hp)
                  have h2 : pr.2 ∈ items := (List.of_mem_zip (a := pr.1) (b := pr.2) hz).2
                  exact alls_iff.1 HR.out _ h2
              have hA := ascending_any AK cK (l.map (·.key)) wr hSk bk.1 bk.2
              rw [List.length_map, HLL.out, ← e1] at hA
              have SPEC : Hid (MapSpec keys items (mapV es) (mapE es)) := Lib.hid (Or.inr ⟨HLN.out, es, by rw [hes]; exact HSRT.out, rfl, rfl⟩)
              have HM := Lib.hid (fun (w' : World) (hb : Below wr.heap.size wr w') => limited_any (hM.below hb) hRM)
              have HA := Lib.hid hA
              have VY : Hid (rising (es.map (·.1)) = true → mapV es = limT (mapT es) ∧ mapE es = limE (mapT es)) := Lib.hid (fun h => by unfold mapV mapE; rw [if_pos h, if_pos h]; exact ⟨rfl, rfl⟩)
              have VN : Hid (rising (es.map (·.1)) = false → mapV es = nullT ∧ mapE es = 9) := Lib.hid (fun h => by unfold mapV mapE; rw [h]; exact ⟨rfl, rfl⟩)
              clear hkeys hitems hSk hLi bk bi hM hRM hA e1 e2 hes htl hlt
              generalize rising (es.map (·.1)) = rs at *
              go_wp2_with fail
              refine (HA.out).mono ?_
              rintro en w9 ⟨rfl, hb⟩
              have P9 := Lib.hid (HP.out.below hb HP.out.lt)
              have Q9 := Lib.hid (QQ.out.below hb QQ.out.lt)
              have B9 := Lib.hid (BQ.out.trans (hb.mono BQ.out.size))
              have HB9 := Lib.hid hb
              clear hb p3 p4
              cases rs with
              | false =>
                have V := Lib.hid (VN.out rfl)
                clear VY VN
                go_wp2_with fail
                refine (Null_any w9).mono ?_
                unfold zeroV
                rintro en w10 ⟨rfl, hb⟩
                have Q10 := Lib.hid (Q9.out.below hb Q9.out.lt)
                have B10 := Lib.hid (B9.out.trans (hb.mono B9.out.size))
                have q0 := Q10.out.cell 0
                have q1 := Q10.out.cell 1
                have q2 := Q10.out.cell 2
                have q3 := Q10.out.cell 3
                have q4 := Q10.out.cell 4
                have f0 := Q10.out.frozen 0
                have f1 := Q10.out.frozen 1
                have f2 := Q10.out.frozen 2
                have f3 := Q10.out.frozen 3
                have f4 := Q10.out.frozen 4
                clear hb
                go_wp2
                obtain ⟨wf, hwf⟩ : ∃ wf, wf = ((((w10.setCell ⟨w.heap.size, 0, none⟩ (.int .i64 0)).setCell ⟨w.heap.size, 1, none⟩ (.int .i64 0)).setCell ⟨w.heap.size, 2, none⟩ (.string ⟨#[]⟩)).setCell ⟨w.heap.size, 3, none⟩ (.slice none 0 0)).setCell ⟨w.heap.size, 4, none⟩ (.slice none 0 0) := ⟨_, rfl⟩
                have QF : Hid (Bk wf w.heap.size 26 #[.int .i64 0, .int .i64 0, .string ⟨#[]⟩, .slice none 0 0, .slice none 0 0]) := Lib.hid (by rw [hwf]; exact ((((Q10.out.put 0 _).put 1 _).put 2 _).put 3 _).put 4 _)
                have BF : Hid (Below w.heap.size w wf) := Lib.hid (by
                  rw [hwf]
                  exact ((((B10.out.setCell (p := ⟨w.heap.size, 0, none⟩) (Nat.le_refl _) _).setCell (p := ⟨w.heap.size, 1, none⟩) (Nat.le_refl _) _).setCell (p := ⟨w.heap.size, 2, none⟩) (Nat.le_refl _) _).setCell (p := ⟨w.heap.size, 3, none⟩) (Nat.le_refl _) _).setCell (p := ⟨w.heap.size, 4, none⟩) (Nat.le_refl _) _)
                rw [← hwf]
                refine bodyPost_ret (results_row2 rfl _ _ w.heap.size 26 _ (0, 0) _ rfl QF.out Try.underlying26 rfl (by kernel_rfl)) rfl ?_
                refine ⟨_, _, SPEC.out, ?_⟩
                rw [V.out.1, V.out.2]
                exact ⟨_, rfl, zero_ownd _ _, BF.out⟩
              | true =>
                have V := Lib.hid (VY.out rfl)
                have HL9 := Lib.hid (HM.out w9 HB9.out)
                have p0 := P9.out.cell 0
                have p1 := P9.out.cell 1
                have p2 := P9.out.cell 2
                have p3 := P9.out.cell 3
                have p4 := P9.out.cell 4
                clear VY VN
                go_wp2_with fail
                refine (HL9.out).mono ?_
                rintro en w10 ⟨v, rfl, hlv, hb⟩
                have Q10 := Lib.hid (Q9.out.below hb Q9.out.lt)
                have B10 := Lib.hid (B9.out.trans (hb.mono B9.out.size))
                have LV := Lib.hid hlv
                have q0 := Q10.out.cell 0
                have q1 := Q10.out.cell 1
                have q2 := Q10.out.cell 2
                have q3 := Q10.out.cell 3
                have q4 := Q10.out.cell 4
                have f0 := Q10.out.frozen 0
                have f1 := Q10.out.frozen 1
                have f2 := Q10.out.frozen 2
                have f3 := Q10.out.frozen 3
                have f4 := Q10.out.frozen 4
                obtain ⟨k2, i2, t2, D2, n3, c3, D3, n4, c4, rfl⟩ := hlv.form
                have LT9 := Lib.hid Q9.out.lt
                clear hb hlv p0 p1 p2 p3 p4
                go_wp2
                obtain ⟨wf, hwf⟩ : ∃ wf, wf = ((((w10.setCell ⟨w.heap.size, 0, none⟩ (.int .i64 k2)).setCell ⟨w.heap.size, 1, none⟩ (.int .i64 i2)).setCell ⟨w.heap.size, 2, none⟩ (.string t2)).setCell ⟨w.heap.size, 3, none⟩ (.slice D2 n3 c3)).setCell ⟨w.heap.size, 4, none⟩ (.slice D3 n4 c4) := ⟨_, rfl⟩
                have QF : Hid (Bk wf w.heap.size 26 #[.int .i64 k2, .int .i64 i2, .string t2, .slice D2 n3 c3, .slice D3 n4 c4]) := Lib.hid (by rw [hwf]; exact ((((Q10.out.put 0 _).put 1 _).put 2 _).put 3 _).put 4 _)
                have SF : Hid (∀ b, b ≠ w.heap.size → wf.heap[b]? = w10.heap[b]?) := Lib.hid (fun b hb => by
                  rw [hwf]; exact ((((Below.heap_setCell _ _ _ _ hb).trans (Below.heap_setCell _ _ _ _ hb)).trans (Below.heap_setCell _ _ _ _ hb)).trans (Below.heap_setCell _ _ _ _ hb)).trans (Below.heap_setCell _ _ _ _ hb))
                have BF : Hid (Below w.heap.size w wf) := Lib.hid (by
                  rw [hwf]
                  exact ((((B10.out.setCell (p := ⟨w.heap.size, 0, none⟩) (Nat.le_refl _) _).setCell (p := ⟨w.heap.size, 1, none⟩) (Nat.le_refl _) _).setCell (p := ⟨w.heap.size, 2, none⟩) (Nat.le_refl _) _).setCell (p := ⟨w.heap.size, 3, none⟩) (Nat.le_refl _) _).setCell (p := ⟨w.heap.size, 4, none⟩) (Nat.le_refl _) _)
                rw [← hwf]
                refine bodyPost_ret (results_row2 rfl _ _ w.heap.size 26 _ (0, 0) _ rfl QF.out Try.underlying26 rfl (by kernel_rfl)) rfl ?_
                refine ⟨_, _, SPEC.out, ?_⟩
                rw [V.out.1, V.out.2]
                exact ⟨_, rfl, (LV.out.keep (fun b h1 _ => SF.out b (by have := LT9.out; omega))).mono (by have := LT9.out; omega), BF.out⟩
  · have t0 : (((items.length : Nat) : Int) != ((keys.length : Nat) : Int)) = true := by rw [bne_iff_ne]; omega
    have HLN := Lib.hid hlen
    clear hlen hS hL
    obtain ⟨w1, hw1⟩ : ∃ w1, w1 = w.alloc (.cells #[.int .i64 0, .int .i64 0, .string ⟨#[]⟩, .slice none 0 0, .slice none 0 0] 26) := ⟨_, rfl⟩
    have B1 : Hid (Below w.heap.size w w1) := Lib.hid (by rw [hw1]; exact below_one _ _)
    have Q1 : Hid (Bk w1 w.heap.size 26 #[.int .i64 0, .int .i64 0, .string ⟨#[]⟩, .slice none 0 0, .slice none 0 0]) := Lib.hid (by rw [hw1]; exact Bk.new _ _ _)
    have HW1 := Lib.hid hw1
    clear hw1
    go_enter Try.func13, Try.ntmps13
    go_wp2_with fail
    rw [← HW1.out]
    refine (Null_any w1).mono ?_
    unfold zeroV
    rintro en w10 ⟨rfl, hb⟩
    have Q10 := Lib.hid (Q1.out.below hb Q1.out.lt)
    have B10 := Lib.hid (B1.out.trans (hb.mono B1.out.size))
    have q0 := Q10.out.cell 0
    have q1 := Q10.out.cell 1
    have q2 := Q10.out.cell 2
    have q3 := Q10.out.cell 3
    have q4 := Q10.out.cell 4
    have f0 := Q10.out.frozen 0
    have f1 := Q10.out.frozen 1
    have f2 := Q10.out.frozen 2
    have f3 := Q10.out.frozen 3
    have f4 := Q10.out.frozen 4
    clear hb
    go_wp2
    obtain ⟨wf, hwf⟩ : ∃ wf, wf = ((((w10.setCell ⟨w.heap.size, 0, none⟩ (.int .i64 0)).setCell ⟨w.heap.size, 1, none⟩ (.int .i64 0)).setCell ⟨w.heap.size, 2, none⟩ (.string ⟨#[]⟩)).setCell ⟨w.heap.size, 3, none⟩ (.slice none 0 0)).setCell ⟨w.heap.size, 4, none⟩ (.slice none 0 0) := ⟨_, rfl⟩
    have QF : Hid (Bk wf w.heap.size 26 #[.int .i64 0, .int .i64 0, .string ⟨#[]⟩, .slice none 0 0, .slice none 0 0]) := Lib.hid (by rw [hwf]; exact ((((Q10.out.put 0 _).put 1 _).put 2 _).put 3 _).put 4 _)
    have BF : Hid (Below w.heap.size w wf) := Lib.hid (by
      rw [hwf]
      exact ((((B10.out.setCell (p := ⟨w.heap.size, 0, none⟩) (Nat.le_refl _) _).setCell (p := ⟨w.heap.size, 1, none⟩) (Nat.le_refl _) _).setCell (p := ⟨w.heap.size, 2, none⟩) (Nat.le_refl _) _).setCell (p := ⟨w.heap.size, 3, none⟩) (Nat.le_refl _) _).setCell (p := ⟨w.heap.size, 4, none⟩) (Nat.le_refl _) _)
    rw [← hwf]
    refine bodyPost_ret (results_row2 rfl _ _ w.heap.size 26 _ (0, 0) _ rfl QF.out Try.underlying26 rfl (by kernel_rfl)) rfl ?_
    exact ⟨nullT, 6, Or.inl ⟨HLN.out, rfl, rfl⟩, _, rfl, zero_ownd _ _, BF.out⟩
end Go.Proofs.Ytidinbeanaifmaa
