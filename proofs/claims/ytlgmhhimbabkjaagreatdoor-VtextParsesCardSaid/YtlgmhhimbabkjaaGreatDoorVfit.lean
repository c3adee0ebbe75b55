/-
  Within the limits: fits and withinLimits of the code.
-/
import Derived.Test.YtlgmhhimbabkjaaGreatDoorVev
import Derived.Outline
namespace Go.Proofs.YtlgmhhimbabkjaaGreatDoor
open Go.RowKit

/-- fits's answer at depth d with room for r more nodes -/
def fitsS (x : VT) (d r : Nat) : Bool := x.all shortF && (decide (x.depth + d ≤ 17) && decide (x.size ≤ r))
/-- .. of a row, whose list or map lies at depth d -/
def fitsL (l : List VT) (d r : Nat) : Bool := alls shortF l && (decide (depths l + d ≤ 16) && decide (sizes l ≤ r))
theorem fitsS_mk {k i : Int} {t : ByteArray} {its : List VT} {ks : List ByteArray} {d r : Nat} (hr : r ≠ 0) (hs : shortF (.mk k i t its ks) = true) : fitsS (.mk k i t its ks) d r = fitsL its d (r - 1) := by
  unfold fitsS fitsL
  rw [VT.all_mk, hs, Bool.true_and, VT.depth_mk, VT.size_mk]
  congr 1
  by_cases h1 : depths its + d ≤ 16 <;> by_cases h2 : sizes its ≤ r - 1
  · rw [decide_eq_true h1, decide_eq_true h2, decide_eq_true (show depths its + 1 + d ≤ 17 by omega), decide_eq_true (show 1 + sizes its ≤ r by omega)]
  · rw [decide_eq_true h1, decide_eq_false h2, decide_eq_false (show ¬ 1 + sizes its ≤ r by omega), Bool.and_false, Bool.and_false]
  · rw [decide_eq_false h1, decide_eq_false (show ¬ depths its + 1 + d ≤ 17 by omega), Bool.false_and, Bool.false_and]
  · rw [decide_eq_false h1, decide_eq_false (show ¬ depths its + 1 + d ≤ 17 by omega), Bool.false_and, Bool.false_and]
theorem fitsL_next {l : List VT} {j : Nat} {x : VT} {d r : Nat} (h : l[j]? = some x) (hp : fitsL (l.take j) d r = true) (hx : fitsS x (d + 1) (r - sizes (l.take j)) = true) : fitsL (l.take (j + 1)) d r = true := by
  unfold fitsL fitsS at *
  simp only [Bool.and_eq_true, decide_eq_true_eq] at *
  rw [alls_take h, depths_take h, sizes_take h, hp.1, hx.1]
  refine ⟨rfl, ?_, ?_⟩
  · have := hx.2.1; have := hp.2.1; omega
  · have := hx.2.2; have := hp.2.2; omega
theorem fitsL_no {l : List VT} {j : Nat} {x : VT} {d r : Nat} (h : l[j]? = some x) (hx : fitsS x (d + 1) (r - sizes (l.take j)) = false) : fitsL l d r = false := by
  cases hl : fitsL l d r with
  | false => rfl
  | true =>
    rw [← hx]
    unfold fitsL at hl
    unfold fitsS
    simp only [Bool.and_eq_true, decide_eq_true_eq] at hl ⊢
    have h1 := all_at hl.1 h
    have h2 := depth_at h
    have h3 := sizes_take h
    have h4 := sizes_take_le l (j + 1)
    rw [h1, decide_eq_true (show x.depth + (d + 1) ≤ 17 by have := hl.2.1; omega), decide_eq_true (show x.size ≤ r - sizes (l.take j) by have := hl.2.2; omega)]
    rfl
/-- the keys up to one are short -/
theorem short_take {ks : List ByteArray} {j : Nat} {s : ByteArray} (h : ks[j]? = some s) (hp : (ks.take j).all (fun s => decide (s.size ≤ 4096)) = true) (hs : s.size ≤ 4096) : (ks.take (j + 1)).all (fun s => decide (s.size ≤ 4096)) = true := by
  rw [List.take_add_one, h, List.all_append, hp]
  simp [hs]
theorem short_no {ks : List ByteArray} {j : Nat} {s : ByteArray} (h : ks[j]? = some s) (hs : ¬ s.size ≤ 4096) : ks.all (fun s => decide (s.size ≤ 4096)) = false := by
  rw [List.all_eq_false]
  exact ⟨s, List.mem_of_getElem? h, by simpa using hs⟩

/-- what fits leaves: the answer, and how many nodes there is room for -/
def Fits (b : Bool) (r : Nat) (sz : Nat) (p : Nat) (w : World) (e : Ending) (w' : World) : Prop :=
  e = .returned (.bool b) ∧ Below p w w' ∧ ∃ r' : Int, Bk w' p 3 #[.int .i64 r'] ∧ (b = true → r' = ((r - sz : Nat) : Int))

/-- the world behind the first statement -/
def fitW (w : World) (p : Nat) (q : Int) (cs : Array Value) : World := (w.setCell ⟨p, 0, none⟩ (.int .i64 q)).alloc (.cells cs 25)
section
variable {w : World} {p r : Nat} {q : Int} {cs : Array Value}
theorem fitW_bk (hp : Bk w p 3 #[.int .i64 (r : Int)]) : Bk (fitW w p q cs) p 3 #[.int .i64 q] := (hp.put 0 (.int .i64 q)).alloc _
theorem fitW_box (j : Nat) : (fitW w p q cs).cell? ⟨w.heap.size, j, none⟩ = cs[j]? := by
  unfold fitW
  rw [World.cell?_alloc_at _ _ _ _ (by simp [World.setCell])]
theorem fitW_size : (fitW w p q cs).heap.size = w.heap.size + 1 := by simp [fitW, World.setCell]
theorem fitW_below (h : p < w.heap.size) : Below p w (fitW w p q cs) :=
  Below.alloc (Below.setCell (Below.refl _ _) (p := ⟨p, 0, none⟩) (Nat.le_refl _) _) (by simp [World.setCell]; omega) _
end
set_option maxHeartbeats 4000000 in
theorem fits_all (m : Nat) : ∀ (x : VT) (w : World) (v : Value) (d r p : Nat), x.size ≤ m → 1 ≤ d → d ≤ 17 → r ≤ 1000 → Lies w (fun b => b < p) x v → Bk w p 3 #[.int .i64 (r : Int)] →
    Calls Tryz.prog 62 #[v, .int .i64 (d : Int), .pointer (some ⟨p, 0, none⟩)] w (Fits (fitsS x d r) r x.size p w) := by
  induction m with
  | zero => intro x _ _ _ _ _ h; have := size_pos x; omega
  | succ m ih =>
    intro x w v d r p hsz hd1 hd hr hv hp
    obtain ⟨k, i, t, its, ks⟩ := x
    obtain ⟨A, c, A', c', rfl, _, _, htm, hlc, hcm, hL, hkc, hcm', hS⟩ := hv.open
    rw [VT.size_mk] at hsz
    have HL := Lib.hid hL
    have HS := Lib.hid hS
    have IH := Lib.hid ih
    have hpl := hp.lt
    have P0 := Lib.hid (fitW_bk (q := (r : Int) - 1) (cs := #[.int .i64 k, .int .i64 i, .string t, .slice A its.length c, .slice A' ks.length c']) hp)
    have X0 := Lib.hid (fitW_box (w := w) (p := p) (q := (r : Int) - 1) (cs := #[.int .i64 k, .int .i64 i, .string t, .slice A its.length c, .slice A' ks.length c']))
    have B0 := Lib.hid (fitW_below (w := w) (p := p) (q := (r : Int) - 1) (cs := #[.int .i64 k, .int .i64 i, .string t, .slice A its.length c, .slice A' ks.length c']) hpl)
    have p0 := hp.cell 0
    have p1 := hp.frozen 0
    have p2 := P0.out.cell 0
    have x2 := X0.out 2
    have x3 := X0.out 3
    have x4 := X0.out 4
    clear hL hS ih hv hp
    unfold fitW at p2 x2 x3 x4
    unfold vag
    go_enter Tryz.func62, Tryz.ntmps62
    by_cases hr0 : r = 0
    · have g0 : decide ((r : Int) - 1 < 0) = true := decide_eq_true (by omega)
      have hf : fitsS (.mk k i t its ks) d r = false := by
        unfold fitsS
        rw [VT.size_mk, decide_eq_false (show ¬ 1 + sizes its ≤ r by omega), Bool.and_false, Bool.and_false]
      have HF := Lib.hid hf
      have HR0 := Lib.hid hr0
      clear x2 x3 x4 hf hr0
      go_wp2
      go_ret
      exact ⟨ret_bool HF.out.symm, B0.out, _, P0.out, fun h => absurd (HF.out.symm.trans h) (by decide)⟩
    · have g0 : decide ((r : Int) - 1 < 0) = false := decide_eq_false (by omega)
      by_cases hd16 : d = 17
      · have g1 : decide (16 < (d : Int)) = true := decide_eq_true (by omega)
        have hf : fitsS (.mk k i t its ks) d r = false := by
          unfold fitsS
          rw [VT.depth_mk, decide_eq_false (show ¬ depths its + 1 + d ≤ 17 by omega), Bool.false_and, Bool.and_false]
        have HF := Lib.hid hf
        clear x2 x3 x4 hf
        go_wp2
        go_ret
        exact ⟨ret_bool HF.out.symm, B0.out, _, P0.out, fun h => absurd (HF.out.symm.trans h) (by decide)⟩
      · have g1 : decide (16 < (d : Int)) = false := decide_eq_false (by omega)
        by_cases ht : t.size ≤ 4096
        · have g2 : decide (4096 < (t.size : Int)) = false := decide_eq_false (by omega)
          have HT := Lib.hid ht
          clear x3 ht
          go_wp2
          obtain ⟨W, hW⟩ : ∃ W, W = (w.setCell ⟨p, 0, none⟩ (.int .i64 ((r : Int) - 1))).alloc (.cells #[.int .i64 k, .int .i64 i, .string t, .slice A its.length c, .slice A' ks.length c'] 25) := ⟨_, rfl⟩
          have P1 : Hid (Bk W p 3 #[.int .i64 ((r : Int) - 1)]) := Lib.hid (by rw [hW]; exact P0.out)
          have B1 : Hid (Below p w W) := Lib.hid (by rw [hW]; exact B0.out)
          have Y3 : W.cell? ⟨w.heap.size, 3, none⟩ = some (.slice A its.length c) := by rw [hW]; exact X0.out 3
          rw [← hW]
          have HW := Lib.hid hW
          clear hW p0 p1 p2 x2 x4 P0 X0 B0
          go_loopw [33, 8] (fun s _ wr => ∃ j : Nat, j ≤ ks.length ∧ s = .int .i64 j ∧ W = wr ∧ Hid ((ks.take j).all (fun s => decide (s.size ≤ 4096)) = true)) (fun s _ _ => ks.length - (intOf s).toNat)
          case atStart => exact ⟨0, by omega, rfl, rfl, Lib.hid rfl⟩
          case round =>
            obtain ⟨j, hjn, rfl, rfl, ha⟩ := hrel
            by_cases hlt : j < ks.length
            · have hkj : ks[j]? = some (ks.getD j ByteArray.empty) := by rw [List.getD_eq_getElem?_getD, List.getElem?_eq_getElem hlt]; rfl
              obtain ⟨hsz2, g, o, rfl, hg, e0⟩ := HS.out j _ hkj
              rw [← B1.out.cell (p := ⟨g, o + j, none⟩) hg] at e0
              have hst := fun h => short_take hkj ha.out h
              have hno := fun h => short_no hkj h
              generalize ks.getD j ByteArray.empty = s at *
              have HST := Lib.hid hst
              have HNO := Lib.hid hno
              clear hst hno hkj
              by_cases hs : s.size ≤ 4096
              · have g3 : decide (4096 < (s.size : Int)) = false := decide_eq_false (by omega)
                go_wp2
                go_roundw
                case rel => exact ⟨j + 1, by omega, by go_num, trivial, Lib.hid (HST.out hs)⟩
                case measure => simp [intOf]; omega
              · have g3 : decide (4096 < (s.size : Int)) = true := decide_eq_true (by omega)
                have hf : fitsS (.mk k i t its ks) d r = false := by
                  unfold fitsS
                  rw [VT.all_mk, show shortF (.mk k i t its ks) = false from by unfold shortF VT.ks; rw [HNO.out hs, Bool.and_false], Bool.false_and, Bool.false_and]
                have HF := Lib.hid hf
                clear hf
                go_wp2
                go_ret
                exact ⟨ret_bool HF.out.symm, B1.out, _, P1.out, fun h => absurd (HF.out.symm.trans h) (by decide)⟩
            · obtain rfl : j = ks.length := by omega
              have hsh : shortF (.mk k i t its ks) = true := by
                unfold shortF VT.t VT.ks
                rw [decide_eq_true HT.out, Bool.true_and, ← ha.out, List.take_length]
              have HF := Lib.hid (fitsS_mk (k := k) (i := i) hr0 (d := d) hsh)
              clear hsh ha
              go_wp2
              go_loopw [44, 10] (fun s _ wr => ∃ j : Nat, j ≤ its.length ∧ s = .int .i64 j ∧ Hid (fitsL (its.take j) d (r - 1) = true) ∧ Hid (Bk wr p 3 #[.int .i64 ((r - 1 - sizes (its.take j) : Nat) : Int)]) ∧ Hid (Below p W wr)) (fun s _ _ => its.length - (intOf s).toNat)
              case atStart => exact ⟨0, by omega, rfl, Lib.hid (by simp [fitsL, alls, depths, sizes]; omega), Lib.hid (by simpa [sizes, show ((r - 1 : Nat) : Int) = (r : Int) - 1 by omega] using P1.out), Lib.hid (Below.refl _ _)⟩
              case round =>
                obtain ⟨j, hjn, rfl, ha, hq, hb⟩ := hrel
                by_cases hlt : j < its.length
                · obtain ⟨g, o, k', i', t', B, n', c1, B', n1, c2, rfl, hg, e0, e1, e2, e3, e4, hx⟩ := (HL.out).at_ (j := j) (x := its[j]'hlt) (List.getElem?_eq_getElem _)
                  have hj := fun h => fitsL_next (d := d) (r := r - 1) (List.getElem?_eq_getElem (l := its) (i := j) hlt) ha.out h
                  have hno := fun h => fitsL_no (d := d) (r := r - 1) (List.getElem?_eq_getElem (l := its) (i := j) hlt) h
                  have hst := sizes_take (List.getElem?_eq_getElem (l := its) (i := j) hlt)
                  have hle := size_at (List.getElem?_eq_getElem (l := its) (i := j) hlt)
                  have hb' : Below p w wr := B1.out.trans hb.out
                  have hlp := hq.out.lt
                  have cc := fun (q : Nat) => hb'.cell (p := ⟨g, q, none⟩) hg
                  rw [Nat.zero_add] at e0 e1 e2 e3 e4
                  rw [← cc] at e0 e1 e2 e3 e4
                  have hb2 : Below p w (wr.alloc (.cells #[.int .i64 k', .int .i64 i', .string t', .slice B n' c1, .slice B' n1 c2] 25)) := hb'.alloc (by omega) _
                  have hc := IH.out (its[j]'hlt) (wr.alloc (.cells #[.int .i64 k', .int .i64 i', .string t', .slice B n' c1, .slice B' n1 c2] 25)) _ (d + 1) (r - 1 - sizes (its.take j)) p (by omega) (by omega) (by omega) (by omega)
                    (hx.keep (fun q hq => hb2.cell hq) (fun _ h => h)) (hq.out.alloc _)
                  generalize its[j]'hlt = x at *
                  unfold vag at hc
                  rw [show ((d + 1 : Nat) : Int) = (d : Int) + 1 by omega] at hc
                  have HC := Lib.hid hc
                  have HJ := Lib.hid hj
                  have HNO := Lib.hid hno
                  have HB := Lib.hid (hb.out.alloc (by omega : p ≤ wr.heap.size) (.cells #[.int .i64 k', .int .i64 i', .string t', .slice B n' c1, .slice B' n1 c2] 25))
                  have HST := Lib.hid hst
                  clear hc hx hb' cc hj hno hb2 hb hst
                  go_wp2_with fail
                  refine (HC.out).mono ?_
                  rintro e w' ⟨rfl, hb2, r', hq', hr'⟩
                  have HB2 := Lib.hid (HB.out.trans hb2)
                  clear hb2
                  cases hxx : fitsS x (d + 1) (r - 1 - sizes (its.take j)) with
                  | true =>
                    obtain rfl := hr' hxx
                    have HXX := Lib.hid hxx
                    have HQ := Lib.hid hq'
                    clear hxx hq' hr'
                    go_wp2
                    go_roundw
                    case rel => exact ⟨j + 1, by omega, by go_num, Lib.hid (HJ.out HXX.out), Lib.hid (by rw [HST.out, ← Nat.sub_sub]; exact HQ.out), HB2⟩
                    case measure => simp [intOf]; omega
                  | false =>
                    have HXX := Lib.hid (HNO.out hxx)
                    have HQ := Lib.hid hq'
                    clear hxx hq' hr'
                    go_wp2
                    go_ret
                    exact ⟨ret_bool (by rw [HF.out, HXX.out]), B1.out.trans HB2.out, _, HQ.out, fun h => by rw [HF.out, HXX.out] at h; cases h⟩
                · obtain rfl : j = its.length := by omega
                  have HA : Hid (fitsL its d (r - 1) = true) := Lib.hid (by rw [← ha.out, List.take_length])
                  go_wp2
                  go_ret
                  refine ⟨ret_bool (by rw [HF.out, HA.out]), B1.out.trans hb.out, _, hq.out, fun _ => ?_⟩
                  rw [VT.size_mk, List.take_length, Nat.sub_sub]
        · have g2 : decide (4096 < (t.size : Int)) = true := decide_eq_true (by omega)
          have hf : fitsS (.mk k i t its ks) d r = false := by
            unfold fitsS
            rw [VT.all_mk, show shortF (.mk k i t its ks) = false from by unfold shortF VT.t; rw [decide_eq_false ht, Bool.false_and], Bool.false_and, Bool.false_and]
          have HF := Lib.hid hf
          clear hf
          go_wp2
          go_ret
          exact ⟨ret_bool HF.out.symm, B0.out, _, P0.out, fun h => absurd (HF.out.symm.trans h) (by decide)⟩

/-- a value that lies in the world lies below what comes next -/
theorem within_eq (x : VT) : fitsS x 1 1000 = x.within := by
  unfold fitsS VT.within
  by_cases h : x.depth ≤ 16
  · rw [decide_eq_true h, decide_eq_true (show x.depth + 1 ≤ 17 by omega)]
  · rw [decide_eq_false h, decide_eq_false (show ¬ x.depth + 1 ≤ 17 by omega)]

set_option maxHeartbeats 400000 in
theorem within_any {x : VT} {v : Value} {w : World} (h : Lies w (Lo w) x v) : Calls Tryz.prog 33 #[v] w (Gives (.bool x.within) w) := by
  have hc := fits_all x.size x ((w.alloc (.cells v.cells 25)).alloc (.cells #[.int .i64 (1000 : Nat)] 3)) v 1 1000 (w.heap.size + 1) (Nat.le_refl _) (Nat.le_refl _) (by omega) (Nat.le_refl _)
    (h.keep (fun q hq => ((below_one w _).trans (Below.alloc (Below.refl _ _) (by simp) _)).cell hq) (fun b (hb : b < w.heap.size) => show b < w.heap.size + 1 by omega)) (by have := Bk.new (w.alloc (.cells v.cells 25)) 3 #[.int .i64 (1000 : Nat)]; simpa using this)
  rw [within_eq] at hc
  obtain ⟨k, i, t, its, ks⟩ := x
  obtain ⟨A, c, A', c', rfl, _, _, _, _, _, _, _, _, _⟩ := h.open
  generalize (VT.mk k i t its ks).within = b at *
  generalize (VT.mk k i t its ks).size = sz at *
  unfold vag Value.cells at hc
  unfold vag
  have HC := Lib.hid hc
  clear hc h
  go_enter Tryz.func33, Tryz.ntmps33
  go_wp2_with fail
  refine (HC.out).mono ?_
  rintro e w' ⟨rfl, hb, _⟩
  have HB := Lib.hid hb
  clear hb
  go_wp2
  go_ret
  exact ⟨rfl, ((below_one _ _).trans (Below.alloc (Below.refl _ _) (by simp) _)).trans (HB.out.mono (by omega))⟩
end Go.Proofs.YtlgmhhimbabkjaaGreatDoor
