/-
  The law's own function play: a call on both readers has the same effect.
-/
import Derived.Test.YtlhloebpppmgdaaLawE
import Derived.Deep.RegionHeld3
namespace Go.Proofs.Ytlhloebpppmgdaa
open Go.RowKit

/-- the three reads, whatever the error is -/
def intS (l : List UInt8) (e low high : Int) : Int × List UInt8 × Int := if e = 0 then intR l low high else (0, l, e)
def textS (l : List UInt8) (e most : Int) : List UInt8 × List UInt8 × Int := if e = 0 then textR l most else ([], l, e)
def boolS (l : List UInt8) (e : Int) : Bool × List UInt8 × Int := if e = 0 then boolR l else (false, l, e)

section
variable {w : World} {p q : Nat} {l : List UInt8} {e : Int}
theorem wInt_any (low high : Int) (h : WRd w p l e) : Calls Try.prog 21 #[.pointer (some ⟨p, 0, none⟩), .int .i64 low, .int .i64 high] w
    (Turns (.int .i64 (intS l e low high).1) w p fun w' => WRd w' p (intS l e low high).2.1 (intS l e low high).2.2) := by
  unfold intS
  by_cases he : e = 0
  · subst he; rw [if_pos rfl]; exact wInt_ok low high h
  · rw [if_neg he]; exact wInt_err low high h he
theorem rInt_any (low high : Int) (h : RRd w p l e) : Calls Try.prog 28 #[.pointer (some ⟨p, 0, none⟩), .int .i64 low, .int .i64 high] w
    (Turns (.int .i64 (intS l e low high).1) w p fun w' => RRd w' p (intS l e low high).2.1 (intS l e low high).2.2) := by
  unfold intS
  by_cases he : e = 0
  · subst he; rw [if_pos rfl]; exact rInt_ok low high h
  · rw [if_neg he]; exact rInt_err low high h he
theorem wText_any (most : Int) (h : WRd w p l e) : Calls Try.prog 22 #[.pointer (some ⟨p, 0, none⟩), .int .i64 most] w
    (Turns (.string ⟨(textS l e most).1.toArray⟩) w p fun w' => WRd w' p (textS l e most).2.1 (textS l e most).2.2) := by
  unfold textS
  by_cases he : e = 0
  · subst he; rw [if_pos rfl]; exact wText_ok most h
  · rw [if_neg he]; exact wText_err most h he
theorem rText_any (most : Int) (h : RRd w p l e) : Calls Try.prog 32 #[.pointer (some ⟨p, 0, none⟩), .int .i64 most] w
    (Turns (.string ⟨(textS l e most).1.toArray⟩) w p fun w' => RRd w' p (textS l e most).2.1 (textS l e most).2.2) := by
  unfold textS
  by_cases he : e = 0
  · subst he; rw [if_pos rfl]; exact rText_ok most h
  · rw [if_neg he]; exact rText_err most h he
theorem wBool_any (h : WRd w p l e) : Calls Try.prog 23 #[.pointer (some ⟨p, 0, none⟩)] w
    (Turns (.bool (boolS l e).1) w p fun w' => WRd w' p (boolS l e).2.1 (boolS l e).2.2) := by
  unfold boolS
  by_cases he : e = 0
  · subst he; rw [if_pos rfl]; exact wBool_ok h
  · rw [if_neg he]; exact wBool_err h he
theorem rBool_any (h : RRd w p l e) : Calls Try.prog 33 #[.pointer (some ⟨p, 0, none⟩)] w
    (Turns (.bool (boolS l e).1) w p fun w' => RRd w' p (boolS l e).2.1 (boolS l e).2.2) := by
  unfold boolS
  by_cases he : e = 0
  · subst he; rw [if_pos rfl]; exact rBool_ok h
  · rw [if_neg he]; exact rBool_err h he
def failS (e x : Int) : Int := if e = 0 then x else e
theorem rFail_named (x : Int) (h : RRd w p l e) : Calls Try.prog 34 #[.pointer (some ⟨p, 0, none⟩), .int .i64 x] w (Turns (.tuple #[]) w p fun w' => RRd w' p l (failS e x)) := rFail_any x h
theorem wFail_any (x : Int) (h : WRd w p l e) : Calls Try.prog 26 #[.pointer (some ⟨p, 0, none⟩), .int .i64 x] w (Turns (.tuple #[]) w p fun w' => WRd w' p l (failS e x)) := by
  unfold failS
  by_cases he : e = 0
  · subst he; rw [if_pos rfl]; exact wFail_ok x h
  · rw [if_neg he]; exact wFail_err x h he

/-- a fourth block stays: neither reader is in it -/
theorem cell_only {w w' : World} {g p i : Nat} (hg : w.grownBy w' (some p)) (hlt : g < w.heap.size) (hne : g ≠ p) : w'.cell? ⟨g, i, none⟩ = w.cell? ⟨g, i, none⟩ :=
  World.cell?_of_block (hg.block g hlt (fun e => hne (by injection e)))

/-- both readers after both calls, in either order -/
def Fin (w w' : World) (p q : Nat) (l' : List UInt8) (e' : Int) : Prop :=
  WRd w' p l' e' ∧ RRd w' q l' e' ∧ ∀ B, B ≤ p → B ≤ q → B ≤ w.heap.size → Below B w w'
theorem fin_AB {w W wA wB : World} {l1 : List UInt8} {e1 : Int} (hb : Below w.heap.size w W) (P : WRd W p l e) (Q : RRd W q l e) (hA : W.grownBy wA (some p)) (hB : wA.grownBy wB (some q)) (PA : WRd wA p l1 e1) (QB : RRd wB q l1 e1) : Fin w wB p q l1 e1 :=
  ⟨PA.otherR (Q.otherW P (fun h => P.ne_ Q h.symm) hA) (P.ne_ Q) hB, QB, fun _ h1 h2 h3 =>
    below_only (below_only (hb.mono h3) hA (Nat.le_trans h3 hb.size) h1) hB (Nat.le_trans (Nat.le_trans h3 hb.size) hA.size) h2⟩
theorem fin_BA {w W wA wB : World} {l1 : List UInt8} {e1 : Int} (hb : Below w.heap.size w W) (P : WRd W p l e) (Q : RRd W q l e) (hB : W.grownBy wB (some q)) (hA : wB.grownBy wA (some p)) (PA : WRd wA p l1 e1) (QB : RRd wB q l1 e1) : Fin w wA p q l1 e1 :=
  ⟨PA, QB.otherW (P.otherR Q (P.ne_ Q) hB) (fun h => P.ne_ Q h.symm) hA, fun _ h1 h2 h3 =>
    below_only (below_only (hb.mono h3) hB (Nat.le_trans h3 hb.size) h2) hA (Nat.le_trans (Nat.le_trans h3 hb.size) hB.size) h1⟩

/-- what play says -/
def Plays (w : World) (p q : Nat) (e1 : Ending) (w' : World) : Prop := e1 = .returned (.bool true) ∧ ∃ l' e', Fin w w' p q l' e'

set_option maxRecDepth 100000 in
set_option maxHeartbeats 4000000 in
theorem play_int (lo hi : Int) (hp : WRd w p l e) (hq : RRd w q l e) :
    Calls Try.prog 20 #[.pointer (some ⟨p, 0, none⟩), .pointer (some ⟨q, 0, none⟩), .agg #[.int .i64 0, .int .i64 lo, .int .i64 hi]] w (Plays w p q) := by
  obtain ⟨W, hW⟩ : ∃ W, W = w.alloc (.cells #[.int .i64 0, .int .i64 lo, .int .i64 hi] 35) := ⟨_, rfl⟩
  have hbd : Below w.heap.size w W := by rw [hW]; exact (Below.refl _ _).alloc (Nat.le_refl _) _
  have P := Lib.hid (hp.below hbd)
  have Q := Lib.hid (hq.below hbd)
  have HBD := Lib.hid hbd
  obtain ⟨g, hg⟩ : ∃ g, g = w.heap.size := ⟨_, rfl⟩
  have hgp : g ≠ p := by have := hp.lt; omega
  have hgq : g ≠ q := by have := hq.lt; omega
  have hgW : g < W.heap.size := by rw [hW, hg]; simp
  have c0 : W.cell? ⟨g, 0, none⟩ = some (.int .i64 0) := by rw [hW, hg, World.cell?_alloc_at _ _ _ _ rfl]; rfl
  have c1 : W.cell? ⟨g, 1, none⟩ = some (.int .i64 lo) := by rw [hW, hg, World.cell?_alloc_at _ _ _ _ rfl]; rfl
  have c2 : W.cell? ⟨g, 2, none⟩ = some (.int .i64 hi) := by rw [hW, hg, World.cell?_alloc_at _ _ _ _ rfl]; rfl
  have NPQ := Lib.hid (hp.ne_ hq)
  have HW := Lib.hid hW
  have HG := Lib.hid hg
  clear hW hg hp hq hbd
  go_enter Try.func20, Try.ntmps20
  go_wp2_with fail
  rw [← HW.out, ← HG.out]
  go_region_held3 (fun w' => w'.cell? ⟨g, 1, none⟩ = some (.int .i64 lo) ∧ w'.cell? ⟨g, 2, none⟩ = some (.int .i64 hi))
    (first
      | go_keep
      | exact kA
      | exact kB)
    (first
      | (go_at_call 21; refine (wInt_any lo hi (by exact P.out)).mono ?_; rintro _ wA ⟨rfl, hgA, hqA⟩; have PA := Lib.hid hqA; clear hqA; have kA := And.intro ((cell_only hgA hgW hgp).trans c1) ((cell_only hgA hgW hgp).trans c2); have Q2 : Hid (RRd wA q l e) := Lib.hid (Q.out.otherW P.out (fun h => NPQ.out h.symm) ⟨hgA.os, hgA.tape, hgA.output, hgA.size, hgA.block⟩))
      | (go_at_call 28; refine (rInt_any lo hi (by exact Q2.out)).mono ?_; rintro _ wB ⟨rfl, hgB, hqB⟩; have QB := Lib.hid hqB; clear hqB; have kB := And.intro ((cell_only hgB (Nat.lt_of_lt_of_le hgW hgA.size) hgq).trans kA.1) ((cell_only hgB (Nat.lt_of_lt_of_le hgW hgA.size) hgq).trans kA.2)))
  have FF := Lib.hid (fin_AB HBD.out P.out Q.out ⟨hgA.os, hgA.tape, hgA.output, hgA.size, hgA.block⟩ ⟨hgB.os, hgB.tape, hgB.output, hgB.size, hgB.block⟩ PA.out QB.out)
  clear hgA hgB kA kB
  have PF := Lib.hid FF.out.1
  have QF := Lib.hid FF.out.2.1
  go_wp2_with fail
  refine (wErr_any PF.out).mono ?_
  rintro _ w' ⟨rfl, rfl⟩
  go_wp2_with fail
  refine (rErr_any QF.out).mono ?_
  rintro _ w' ⟨rfl, rfl⟩
  go_wp2_with fail
  refine (wEnd_any PF.out).mono ?_
  rintro _ w' ⟨rfl, rfl⟩
  go_wp2_with fail
  refine (rEnd_any QF.out).mono ?_
  rintro _ w' ⟨rfl, rfl⟩
  go_wp2_with fail
  refine (wLeft_any PF.out).mono ?_
  rintro _ w' ⟨rfl, rfl⟩
  go_wp2_with fail
  refine (rLeft_any QF.out).mono ?_
  rintro _ w' ⟨rfl, rfl⟩
  go_wp2
  go_ret
  exact ⟨rfl, _, _, FF.out⟩

set_option maxRecDepth 100000 in
set_option maxHeartbeats 4000000 in
theorem play_text (lo hi : Int) (hp : WRd w p l e) (hq : RRd w q l e) :
    Calls Try.prog 20 #[.pointer (some ⟨p, 0, none⟩), .pointer (some ⟨q, 0, none⟩), .agg #[.int .i64 1, .int .i64 lo, .int .i64 hi]] w (Plays w p q) := by
  obtain ⟨W, hW⟩ : ∃ W, W = w.alloc (.cells #[.int .i64 1, .int .i64 lo, .int .i64 hi] 35) := ⟨_, rfl⟩
  have hbd : Below w.heap.size w W := by rw [hW]; exact (Below.refl _ _).alloc (Nat.le_refl _) _
  have P := Lib.hid (hp.below hbd)
  have Q := Lib.hid (hq.below hbd)
  have HBD := Lib.hid hbd
  obtain ⟨g, hg⟩ : ∃ g, g = w.heap.size := ⟨_, rfl⟩
  have hgp : g ≠ p := by have := hp.lt; omega
  have hgq : g ≠ q := by have := hq.lt; omega
  have hgW : g < W.heap.size := by rw [hW, hg]; simp
  have c0 : W.cell? ⟨g, 0, none⟩ = some (.int .i64 1) := by rw [hW, hg, World.cell?_alloc_at _ _ _ _ rfl]; rfl
  have c1 : W.cell? ⟨g, 1, none⟩ = some (.int .i64 lo) := by rw [hW, hg, World.cell?_alloc_at _ _ _ _ rfl]; rfl
  have c2 : W.cell? ⟨g, 2, none⟩ = some (.int .i64 hi) := by rw [hW, hg, World.cell?_alloc_at _ _ _ _ rfl]; rfl
  have NPQ := Lib.hid (hp.ne_ hq)
  have HW := Lib.hid hW
  have HG := Lib.hid hg
  clear hW hg hp hq hbd
  go_enter Try.func20, Try.ntmps20
  go_wp2_with fail
  rw [← HW.out, ← HG.out]
  go_region_held3 (fun w' => w'.cell? ⟨g, 1, none⟩ = some (.int .i64 lo) ∧ w'.cell? ⟨g, 2, none⟩ = some (.int .i64 hi))
    (first
      | go_keep
      | exact kA
      | exact kB)
    (first
      | (go_at_call 22; refine (wText_any hi (by exact P.out)).mono ?_; rintro _ wA ⟨rfl, hgA, hqA⟩; have PA := Lib.hid hqA; clear hqA; have kA := And.intro ((cell_only hgA hgW hgp).trans c1) ((cell_only hgA hgW hgp).trans c2); have Q2 : Hid (RRd wA q l e) := Lib.hid (Q.out.otherW P.out (fun h => NPQ.out h.symm) ⟨hgA.os, hgA.tape, hgA.output, hgA.size, hgA.block⟩))
      | (go_at_call 32; refine (rText_any hi (by exact Q2.out)).mono ?_; rintro _ wB ⟨rfl, hgB, hqB⟩; have QB := Lib.hid hqB; clear hqB; have kB := And.intro ((cell_only hgB (Nat.lt_of_lt_of_le hgW hgA.size) hgq).trans kA.1) ((cell_only hgB (Nat.lt_of_lt_of_le hgW hgA.size) hgq).trans kA.2)))
  have FF := Lib.hid (fin_AB HBD.out P.out Q.out ⟨hgA.os, hgA.tape, hgA.output, hgA.size, hgA.block⟩ ⟨hgB.os, hgB.tape, hgB.output, hgB.size, hgB.block⟩ PA.out QB.out)
  clear hgA hgB kA kB
  have PF := Lib.hid FF.out.1
  have QF := Lib.hid FF.out.2.1
  go_wp2_with fail
  refine (wErr_any PF.out).mono ?_
  rintro _ w' ⟨rfl, rfl⟩
  go_wp2_with fail
  refine (rErr_any QF.out).mono ?_
  rintro _ w' ⟨rfl, rfl⟩
  go_wp2_with fail
  refine (wEnd_any PF.out).mono ?_
  rintro _ w' ⟨rfl, rfl⟩
  go_wp2_with fail
  refine (rEnd_any QF.out).mono ?_
  rintro _ w' ⟨rfl, rfl⟩
  go_wp2_with fail
  refine (wLeft_any PF.out).mono ?_
  rintro _ w' ⟨rfl, rfl⟩
  go_wp2_with fail
  refine (rLeft_any QF.out).mono ?_
  rintro _ w' ⟨rfl, rfl⟩
  go_wp2
  go_ret
  exact ⟨rfl, _, _, FF.out⟩

set_option maxRecDepth 100000 in
set_option maxHeartbeats 4000000 in
theorem play_bool (lo hi : Int) (hp : WRd w p l e) (hq : RRd w q l e) :
    Calls Try.prog 20 #[.pointer (some ⟨p, 0, none⟩), .pointer (some ⟨q, 0, none⟩), .agg #[.int .i64 2, .int .i64 lo, .int .i64 hi]] w (Plays w p q) := by
  obtain ⟨W, hW⟩ : ∃ W, W = w.alloc (.cells #[.int .i64 2, .int .i64 lo, .int .i64 hi] 35) := ⟨_, rfl⟩
  have hbd : Below w.heap.size w W := by rw [hW]; exact (Below.refl _ _).alloc (Nat.le_refl _) _
  have P := Lib.hid (hp.below hbd)
  have Q := Lib.hid (hq.below hbd)
  have HBD := Lib.hid hbd
  obtain ⟨g, hg⟩ : ∃ g, g = w.heap.size := ⟨_, rfl⟩
  have hgp : g ≠ p := by have := hp.lt; omega
  have hgq : g ≠ q := by have := hq.lt; omega
  have hgW : g < W.heap.size := by rw [hW, hg]; simp
  have c0 : W.cell? ⟨g, 0, none⟩ = some (.int .i64 2) := by rw [hW, hg, World.cell?_alloc_at _ _ _ _ rfl]; rfl
  have c1 : W.cell? ⟨g, 1, none⟩ = some (.int .i64 lo) := by rw [hW, hg, World.cell?_alloc_at _ _ _ _ rfl]; rfl
  have c2 : W.cell? ⟨g, 2, none⟩ = some (.int .i64 hi) := by rw [hW, hg, World.cell?_alloc_at _ _ _ _ rfl]; rfl
  have NPQ := Lib.hid (hp.ne_ hq)
  have HW := Lib.hid hW
  have HG := Lib.hid hg
  clear hW hg hp hq hbd
  go_enter Try.func20, Try.ntmps20
  go_wp2_with fail
  rw [← HW.out, ← HG.out]
  refine (wBool_any P.out).mono ?_
  rintro _ wA ⟨rfl, hgA, hqA⟩
  have PA := Lib.hid hqA
  have Q2 : Hid (RRd wA q l e) := Lib.hid (Q.out.otherW P.out (fun h => NPQ.out h.symm) hgA)
  have HGA := Lib.hid hgA
  have k1 : wA.cell? ⟨g, 1, none⟩ = some (.int .i64 lo) := (cell_only hgA hgW hgp).trans c1
  clear hqA hgA
  go_wp2_with fail
  refine (rBool_any Q2.out).mono ?_
  rintro _ wB ⟨rfl, hgB, hqB⟩
  have FF := Lib.hid (fin_AB HBD.out P.out Q.out HGA.out hgB PA.out hqB)
  clear hgB hqB
  have PF := Lib.hid FF.out.1
  have QF := Lib.hid FF.out.2.1
  go_wp2_with fail
  refine (wErr_any PF.out).mono ?_
  rintro _ w' ⟨rfl, rfl⟩
  go_wp2_with fail
  refine (rErr_any QF.out).mono ?_
  rintro _ w' ⟨rfl, rfl⟩
  go_wp2_with fail
  refine (wEnd_any PF.out).mono ?_
  rintro _ w' ⟨rfl, rfl⟩
  go_wp2_with fail
  refine (rEnd_any QF.out).mono ?_
  rintro _ w' ⟨rfl, rfl⟩
  go_wp2_with fail
  refine (wLeft_any PF.out).mono ?_
  rintro _ w' ⟨rfl, rfl⟩
  go_wp2_with fail
  refine (rLeft_any QF.out).mono ?_
  rintro _ w' ⟨rfl, rfl⟩
  go_wp2
  go_ret
  exact ⟨rfl, _, _, FF.out⟩

set_option maxRecDepth 100000 in
set_option maxHeartbeats 4000000 in
theorem play_fail (lo hi : Int) (hp : WRd w p l e) (hq : RRd w q l e) :
    Calls Try.prog 20 #[.pointer (some ⟨p, 0, none⟩), .pointer (some ⟨q, 0, none⟩), .agg #[.int .i64 3, .int .i64 lo, .int .i64 hi]] w (Plays w p q) := by
  obtain ⟨W, hW⟩ : ∃ W, W = w.alloc (.cells #[.int .i64 3, .int .i64 lo, .int .i64 hi] 35) := ⟨_, rfl⟩
  have hbd : Below w.heap.size w W := by rw [hW]; exact (Below.refl _ _).alloc (Nat.le_refl _) _
  have P := Lib.hid (hp.below hbd)
  have Q := Lib.hid (hq.below hbd)
  have HBD := Lib.hid hbd
  obtain ⟨g, hg⟩ : ∃ g, g = w.heap.size := ⟨_, rfl⟩
  have hgp : g ≠ p := by have := hp.lt; omega
  have hgq : g ≠ q := by have := hq.lt; omega
  have hgW : g < W.heap.size := by rw [hW, hg]; simp
  have c0 : W.cell? ⟨g, 0, none⟩ = some (.int .i64 3) := by rw [hW, hg, World.cell?_alloc_at _ _ _ _ rfl]; rfl
  have c1 : W.cell? ⟨g, 1, none⟩ = some (.int .i64 lo) := by rw [hW, hg, World.cell?_alloc_at _ _ _ _ rfl]; rfl
  have c2 : W.cell? ⟨g, 2, none⟩ = some (.int .i64 hi) := by rw [hW, hg, World.cell?_alloc_at _ _ _ _ rfl]; rfl
  have NPQ := Lib.hid (hp.ne_ hq)
  have HW := Lib.hid hW
  have HG := Lib.hid hg
  clear hW hg hp hq hbd
  go_enter Try.func20, Try.ntmps20
  go_wp2_with fail
  rw [← HW.out, ← HG.out]
  refine (wFail_any lo P.out).mono ?_
  rintro _ wA ⟨rfl, hgA, hqA⟩
  have PA := Lib.hid hqA
  have Q2 : Hid (RRd wA q l e) := Lib.hid (Q.out.otherW P.out (fun h => NPQ.out h.symm) hgA)
  have HGA := Lib.hid hgA
  have k1 : wA.cell? ⟨g, 1, none⟩ = some (.int .i64 lo) := (cell_only hgA hgW hgp).trans c1
  clear hqA hgA
  go_wp2_with fail
  refine (rFail_named lo Q2.out).mono ?_
  rintro _ wB ⟨rfl, hgB, hqB⟩
  have FF := Lib.hid (fin_AB HBD.out P.out Q.out HGA.out hgB PA.out hqB)
  clear hgB hqB
  have PF := Lib.hid FF.out.1
  have QF := Lib.hid FF.out.2.1
  go_wp2_with fail
  refine (wErr_any PF.out).mono ?_
  rintro _ w' ⟨rfl, rfl⟩
  go_wp2_with fail
  refine (rErr_any QF.out).mono ?_
  rintro _ w' ⟨rfl, rfl⟩
  go_wp2_with fail
  refine (wEnd_any PF.out).mono ?_
  rintro _ w' ⟨rfl, rfl⟩
  go_wp2_with fail
  refine (rEnd_any QF.out).mono ?_
  rintro _ w' ⟨rfl, rfl⟩
  go_wp2_with fail
  refine (wLeft_any PF.out).mono ?_
  rintro _ w' ⟨rfl, rfl⟩
  go_wp2_with fail
  refine (rLeft_any QF.out).mono ?_
  rintro _ w' ⟨rfl, rfl⟩
  go_wp2
  go_ret
  exact ⟨rfl, _, _, FF.out⟩

set_option maxRecDepth 100000 in
set_option maxHeartbeats 4000000 in
theorem play_end (kd lo hi : Int) (h0 : kd ≠ 0) (h1 : kd ≠ 1) (h2 : kd ≠ 2) (h3 : kd ≠ 3) (hp : WRd w p l e) (hq : RRd w q l e) :
    Calls Try.prog 20 #[.pointer (some ⟨p, 0, none⟩), .pointer (some ⟨q, 0, none⟩), .agg #[.int .i64 kd, .int .i64 lo, .int .i64 hi]] w (Plays w p q) := by
  obtain ⟨W, hW⟩ : ∃ W, W = w.alloc (.cells #[.int .i64 kd, .int .i64 lo, .int .i64 hi] 35) := ⟨_, rfl⟩
  have hbd : Below w.heap.size w W := by rw [hW]; exact (Below.refl _ _).alloc (Nat.le_refl _) _
  have P := Lib.hid (hp.below hbd)
  have Q := Lib.hid (hq.below hbd)
  have HBD := Lib.hid hbd
  obtain ⟨g, hg⟩ : ∃ g, g = w.heap.size := ⟨_, rfl⟩
  have hgp : g ≠ p := by have := hp.lt; omega
  have hgq : g ≠ q := by have := hq.lt; omega
  have hgW : g < W.heap.size := by rw [hW, hg]; simp
  have c0 : W.cell? ⟨g, 0, none⟩ = some (.int .i64 kd) := by rw [hW, hg, World.cell?_alloc_at _ _ _ _ rfl]; rfl
  have c1 : W.cell? ⟨g, 1, none⟩ = some (.int .i64 lo) := by rw [hW, hg, World.cell?_alloc_at _ _ _ _ rfl]; rfl
  have c2 : W.cell? ⟨g, 2, none⟩ = some (.int .i64 hi) := by rw [hW, hg, World.cell?_alloc_at _ _ _ _ rfl]; rfl
  have NPQ := Lib.hid (hp.ne_ hq)
  have HW := Lib.hid hW
  have HG := Lib.hid hg
  clear hW hg hp hq hbd
  go_enter Try.func20, Try.ntmps20
  have t0 : (kd == 0) = false := by rw [beq_eq_false_iff_ne]; exact h0
  have t1 : (kd == 1) = false := by rw [beq_eq_false_iff_ne]; exact h1
  have t2 : (kd == 2) = false := by rw [beq_eq_false_iff_ne]; exact h2
  have t3 : (kd == 3) = false := by rw [beq_eq_false_iff_ne]; exact h3
  have FF : Hid (Fin w W p q l e) := Lib.hid ⟨P.out, Q.out, fun _ _ _ h3 => HBD.out.mono h3⟩
  have PF := P
  have QF := Q
  go_wp2_with fail
  rw [← HW.out]
  refine (wErr_any PF.out).mono ?_
  rintro _ w' ⟨rfl, rfl⟩
  go_wp2_with fail
  refine (rErr_any QF.out).mono ?_
  rintro _ w' ⟨rfl, rfl⟩
  go_wp2_with fail
  refine (wEnd_any PF.out).mono ?_
  rintro _ w' ⟨rfl, rfl⟩
  go_wp2_with fail
  refine (rEnd_any QF.out).mono ?_
  rintro _ w' ⟨rfl, rfl⟩
  go_wp2_with fail
  refine (wLeft_any PF.out).mono ?_
  rintro _ w' ⟨rfl, rfl⟩
  go_wp2_with fail
  refine (rLeft_any QF.out).mono ?_
  rintro _ w' ⟨rfl, rfl⟩
  go_wp2
  go_ret
  exact ⟨rfl, _, _, FF.out⟩

theorem play_any (kd lo hi : Int) (hp : WRd w p l e) (hq : RRd w q l e) :
    Calls Try.prog 20 #[.pointer (some ⟨p, 0, none⟩), .pointer (some ⟨q, 0, none⟩), .agg #[.int .i64 kd, .int .i64 lo, .int .i64 hi]] w (Plays w p q) := by
  by_cases h0 : kd = 0
  · subst h0; exact play_int lo hi hp hq
  by_cases h1 : kd = 1
  · subst h1; exact play_text lo hi hp hq
  by_cases h2 : kd = 2
  · subst h2; exact play_bool lo hi hp hq
  by_cases h3 : kd = 3
  · subst h3; exact play_fail lo hi hp hq
  exact play_end kd lo hi h0 h1 h2 h3 hp hq
end
end Go.Proofs.Ytlhloebpppmgdaa
