/-
  VtextParses returns true for every input, and its arguments read afterwards as they read before: what it leans on.
-/
import Derived.Test.YtlgmhhimbabkjaaGreatDoorYAVtextParses
import Derived.Test.YtlgmhhimbabkjaaGreatDoorRc
import Derived.Test.YtlgmhhimbabkjaaGreatDoorRg
import Derived.Test.YtlgmhhimbabkjaaGreatDoorYCVtextParses
import Derived.Deep.AppendLies
import Derived.Deep.CutRange
namespace Go.Proofs.YtlgmhhimbabkjaaGreatDoor
open Go.RowKit

theorem run_stop (p : UInt8 → Bool) : ∀ (l : List UInt8) (c : UInt8), l[(l.takeWhile p).length]? = some c → p c = false
  | [], c, h => by cases h
  | x :: r, c, h => by
    rw [List.takeWhile_cons] at h
    split at h
    · rw [List.length_cons, List.getElem?_cons_succ] at h
      exact run_stop p r c h
    · rename_i hx
      injection h with h
      rw [← h]
      exact Bool.eq_false_iff.2 hx
theorem run_again (p : UInt8 → Bool) (l : List UInt8) (i : Nat) : run p l (run p l i) = run p l i := by
  cases h : l[run p l i]? with
  | none => exact run_end (List.getElem?_eq_none_iff.1 h)
  | some c =>
    refine run_off h (run_stop p (l.drop i) c ?_)
    rw [List.getElem?_drop]
    exact h
theorem valP_skip (l : List UInt8) (k i n : Nat) : valP l k (skip l i) n = valP l k i n := by
  have h : skip l (skip l i) = skip l i := run_again _ _ _
  cases k <;> (unfold valP; rw [h])

/-- the reference's value, called in a world W in which blocks were made behind wr -/
def RvalA (r : PR (VT × Nat)) (p : Nat) (s : ByteArray) (wr W : World) (e : Ending) (wB : World) : Prop :=
  ∃ (k i : Int) (t : ByteArray) (A : Option Addr) (m c : Nat) (A' : Option Addr) (m' c' : Nat), e = .returned (.agg #[.int .i64 k, .int .i64 i, .string t, .slice A m c, .slice A' m' c']) ∧
    Hid (FrS (One p) wr wB) ∧ Hid (W.heap.size ≤ wB.heap.size ∧ ∀ b, wr.heap.size ≤ b → b < W.heap.size → wB.heap[b]? = W.heap[b]?) ∧
    Hid ((∃ x n j, r = .ok (x, n) j ∧ Lies wB (New wr wB) x (.agg #[.int .i64 k, .int .i64 i, .string t, .slice A m c, .slice A' m' c']) ∧ Rn wB p s j n) ∨ ∃ j q, r = .err j q ∧ Bad wB p s j q)
theorem RvalR.after {r : PR (VT × Nat)} {p : Nat} {s : ByteArray} {wr W w' : World} {e : Ending} (h : RvalR r p s W e w') (hb : Below wr.heap.size wr W) (hp : p < wr.heap.size) : RvalA r p s wr W e w' := by
  obtain ⟨hf, k, i, t, A, m, c, A', m', c', rfl, hd⟩ := h
  refine ⟨k, i, t, A, m, c, A', m', c', rfl, Lib.hid ((FrS.of_below hb).trans hf.out), Lib.hid ⟨hf.out.size, fun b hb1 hb2 => hf.out.block b hb2 (fun e => by have e2 : b = p := e; omega)⟩, Lib.hid ?_⟩
  rcases hd with ⟨x, n, j, h1, h2, h3⟩ | ⟨j, q, h1, h2⟩
  · exact .inl ⟨x, n, j, h1.out, h2.out.keep (fun _ _ => rfl) (fun b hb1 => ⟨Nat.le_trans hb.size hb1.1, hb1.2⟩), h3.out⟩
  · exact .inr ⟨j, q, h1.out, h2.out⟩

/-- a list of the reference that is being read: its items so far, in a row of the call's own -/
structure LrS (w5 : World) (p vb : Nat) (its : List VT) (w : World) : Prop where
  fr : FrS (Two p vb) w5 w
  row : ∃ A c cs, Bk w vb 25 #[.int .i64 4, .int .i64 0, .string ⟨#[]⟩, .slice A its.length c, .slice none 0 0] ∧
    w.ownsRow w5.heap.size 25 5 (.slice A its.length c) its.length cs ∧ LiesC w (Off w5.heap.size w (.slice A its.length c)) its cs
theorem LrS.move {w5 w w' : World} {p vb : Nat} {its : List VT} (h : LrS w5 p vb its w) (hp : p < w5.heap.size) (hne : p ≠ vb) (hf : FrS (One p) w w') : LrS w5 p vb its w' := by
  obtain ⟨h1, A, c, cs, r1, r2, r3⟩ := h
  refine ⟨h1.trans hf.two, A, c, cs, hf.bk r1 (fun e => hne e.symm), own_frs r2 hf (fun b e => by rw [show b = p from e]; exact hp), ?_⟩
  exact r3.keep (fun q hq => hf.cell hq.2.1 (fun e => by have := hq.1; have e2 : q.block = p := e; omega)) (fun b hb => ⟨hb.1, Nat.lt_of_lt_of_le hb.2.1 hf.size, hb.2.2⟩)

/-- what a list's round gives: the list with one item more; or the fault -/
def LrN (r : PR (VT × Nat)) (w5 : World) (p vb : Nat) (s : ByteArray) (its : List VT) (wf : World) : Prop :=
  (∃ x n j, Hid (r = .ok (x, n) j) ∧ Hid (LrS w5 p vb (its ++ [x]) wf) ∧ Hid (Rn wf p s j n)) ∨
  ∃ j q A m c, Hid (r = .err j q) ∧ Hid (Bad wf p s j q) ∧ Hid (FrS (Two p vb) w5 wf) ∧ Hid (Bk wf vb 25 #[.int .i64 4, .int .i64 0, .string ⟨#[]⟩, .slice A m c, .slice none 0 0])
theorem lr_step {w5 w wB w1 wf : World} {p vb g2 m c cap : Nat} {s : ByteArray} {A : Option Addr} {its : List VT} {r : PR (VT × Nat)} {cs : List Value}
    {k2 i2 : Int} {t2 : ByteArray} {E E' : Option Addr} {n3 c3 n4 c4 : Nat}
    (hp : p < w5.heap.size) (hvb : vb < w5.heap.size) (hne : p ≠ vb) (hf : FrS (Two p vb) w5 w)
    (ho : w.ownsRow w5.heap.size 25 5 (.slice A m c) m cs) (hl : LiesC w (Off w5.heap.size w (.slice A m c)) its cs) (hfb : FrS (One p) w wB)
    (hres : (∃ x n j, r = .ok (x, n) j ∧ Lies wB (New w wB) x (.agg #[.int .i64 k2, .int .i64 i2, .string t2, .slice E n3 c3, .slice E' n4 c4]) ∧ Rn wB p s j n) ∨ ∃ j q, r = .err j q ∧ Bad wB p s j q)
    (hgw : wB.grownBy w1 (Value.slice A m c).ownBlock) (hat : (Value.slice A m c).ownBlock = some g2 ∨ wB.heap.size ≤ g2)
    (hw1 : w1.ownsRow w5.heap.size 25 5 (.slice (some ⟨g2, 0, none⟩) (m + 1) cap) (m + 1) (cs ++ [.int .i64 k2, .int .i64 i2, .string t2, .slice E n3 c3, .slice E' n4 c4]))
    (hwf : FrS (One vb) w1 wf) (hz : wf.heap.size = w1.heap.size) (hbv : Bk wf vb 25 #[.int .i64 4, .int .i64 0, .string ⟨#[]⟩, .slice (some ⟨g2, 0, none⟩) (m + 1) cap, .slice none 0 0])
    (hm : m = its.length) : LrN r w5 p vb s its wf := by
  have hgf := hbv
  have hcf := own_frs hw1 hwf (fun b e => by rw [show b = vb from e]; exact hvb)
  have hown := ho.lt
  have s1 := hf.size
  have s2 := hfb.size
  have s3 := hgw.size
  have fw : FrS (fun b => b = vb ∨ (Value.slice A m c).ownBlock = some b) wB wf :=
    ⟨hwf.os.trans hgw.os, hwf.tape.trans hgw.tape, hwf.output.trans hgw.output, by omega, fun b hb hn => (hwf.block b (by omega) (fun e => hn (Or.inl e))).trans (hgw.block b hb (fun e => hn (Or.inr e.symm)))⟩
  have nS : ∀ b, b < w5.heap.size → b ≠ vb → ¬ (b = vb ∨ (Value.slice A m c).ownBlock = some b) := fun b hb hne h => by
    rcases h with h | h
    · exact hne h
    · have := (hown b h).1; omega
  have fall : FrS (Two p vb) w5 wf := (hf.trans hfb.two).next fw (fun i hi h => by
    rcases h with h | h
    · exact .inr h
    · have := (hown i h).1; omega)
  rcases hres with ⟨x, n, j, hr, hx, hrn⟩ | ⟨j, q, hr, hb⟩
  · have hla : (its ++ [x]).length = m + 1 := by rw [List.length_append, hm]; rfl
    refine .inl ⟨x, n, j, Lib.hid hr, Lib.hid ⟨fall, some ⟨g2, 0, none⟩, cap, _, by rw [hla]; exact hgf, by rw [hla]; exact hcf, ?_⟩, Lib.hid (hrn.frs fw (nS p hp hne))⟩
    rw [hla]
    refine LiesC.append (hl.keep (fun b hb => ?_) (fun b hb => ?_)) ⟨_, _, _, _, _, [], rfl, hx.keep (fun b hb => ?_) (fun b hb => ?_), rfl⟩
    · obtain ⟨b1, b2, b3⟩ := hb
      exact (fw.cell (Nat.lt_of_lt_of_le b2 s2) (fun h => by
        rcases h with h | h
        · omega
        · exact b3 h)).trans (hfb.cell b2 (fun h => by have e : b.block = p := h; omega))
    · obtain ⟨b1, b2, b3⟩ := hb
      refine ⟨b1, by have := fw.size; omega, fun e => ?_⟩
      have e' : g2 = b := by simpa [Value.ownBlock] using e
      rcases hat with h | h
      · exact b3 (by rw [h, e'])
      · omega
    · obtain ⟨b1, b2⟩ := hb
      exact fw.cell b2 (fun h => by
        rcases h with h | h
        · omega
        · have := (hown _ h).2; omega)
    · obtain ⟨b1, b2⟩ := hb
      refine ⟨by omega, by have := fw.size; omega, fun e => ?_⟩
      have e' : g2 = b := by simpa [Value.ownBlock] using e
      rcases hat with h | h
      · have := (hown _ h).2; omega
      · omega
  · exact .inr ⟨j, q, _, _, _, Lib.hid hr, Lib.hid (hb.frs fw (nS p hp hne)), Lib.hid fall, Lib.hid hgf⟩

set_option maxRecDepth 100000 in
set_option maxHeartbeats 16000000 in
theorem rlist_any {w : World} {p : Nat} {s : ByteArray} {d : Int} {k i n : Nat} (hv : RvalC k) (hd : d + 1 + (k : Int) = 17) (hd1 : 0 ≤ d) (h : Rn w p s i n) (hi : i < s.size) :
    Calls Tryz.prog 55 #[.pointer (some ⟨p, 0, none⟩), .int .i64 d] w (RvalR ((elemsP (elL (valP s.data.toList k)) 93 s.data.toList (i + 1) ([], n)).bind fun st j => .ok (VT.mk 4 0 ⟨#[]⟩ st.1 [], st.2) j) p s w) := by
  obtain ⟨iV, hiV, hzV, hsV, hbV⟩ := info_parts Tryz.infoV
  have HP := Lib.hid h
  have HV := Lib.hid hv
  have HD := Lib.hid hd
  have HI5 := Lib.hid (And.intro hiV (And.intro hzV (And.intro hsV hbV)))
  have hdw : IntKind.i64.wrap (d + 1) = d + 1 := by rw [IntKind.wrap_i64]; omega
  have hss := h.2.2.1
  clear h hv hd hiV hzV hsV hbV
  obtain ⟨R, hR⟩ : ∃ R, R = elemsP (elL (valP s.data.toList k)) 93 s.data.toList (i + 1) ([], n) := ⟨_, rfl⟩
  rw [← hR]
  have HR0 := Lib.hid hR
  clear hR
  go_enter Tryz.func55, Tryz.ntmps55
  go_upto_region 2 with (fail)
  obtain ⟨w1, hw1⟩ : ∃ w1, w1 = w.alloc (.cells #[.int .i64 0, .int .i64 0, .string ⟨#[]⟩, .slice none 0 0, .slice none 0 0] 25) := ⟨_, rfl⟩
  obtain ⟨w5, hw5⟩ : ∃ w5, w5 = w1.alloc (.cells #[.int .i64 4, .int .i64 0, .string ⟨#[]⟩, .slice none 0 0, .slice none 0 0] 25) := ⟨_, rfl⟩
  have z1 : w1.heap.size = w.heap.size + 1 := by rw [hw1, World.size_alloc]
  have z5 : w5.heap.size = w.heap.size + 1 + 1 := by rw [hw5, World.size_alloc, z1]
  have hpw := HP.out.1.lt
  obtain ⟨rb, hrb⟩ : ∃ rb, rb = w.heap.size := ⟨_, rfl⟩
  obtain ⟨vb, hvb⟩ : ∃ vb, vb = w.heap.size + 1 := ⟨_, rfl⟩
  have B5 : Hid (Below w.heap.size w w5) := Lib.hid (by rw [hw5, hw1]; exact ((Below.refl _ _).alloc (Nat.le_refl _) _).alloc (by simp) _)
  have KR : Hid (Bk w5 rb 25 #[.int .i64 0, .int .i64 0, .string ⟨#[]⟩, .slice none 0 0, .slice none 0 0]) := Lib.hid (by rw [hrb, hw5, hw1]; exact (Bk.new w _ _).alloc _)
  have KV : Hid (Bk w5 vb 25 #[.int .i64 4, .int .i64 0, .string ⟨#[]⟩, .slice none 0 0, .slice none 0 0]) := Lib.hid (by rw [hvb, ← z1, hw5]; exact Bk.new w1 _ _)
  have P5 : Hid (Rn w5 p s i n) := Lib.hid (HP.out.frs (FrS.of_below (S := fun _ => False) B5.out) (fun h => h))
  have LW : Hid (p < w5.heap.size ∧ vb < w5.heap.size ∧ p ≠ vb ∧ rb < w5.heap.size ∧ rb ≠ p ∧ rb ≠ vb ∧ w.heap.size ≤ rb ∧ w.heap.size ≤ vb ∧ w.heap.size ≤ w5.heap.size) := Lib.hid ⟨by omega, by omega, by omega, by omega, by omega, by omega, by omega, by omega, by omega⟩
  rw [← hw1, ← hw5, ← hvb, ← hrb]
  clear hw1 hw5 z1 z5 hpw hrb hvb
  have L5 : Hid (LrS w5 p vb [] w5) := Lib.hid ⟨FrS.refl _ _, none, 0, [], KV.out, World.ownsRow_nil _ _ _ _, rfl⟩
  have c1 := P5.out.1.cell 1
  have f1 := P5.out.1.frozen 1
  have P6 := Lib.hid (P5.out.to (i + 1) hi)
  have L6 := Lib.hid (L5.out.move LW.out.1 LW.out.2.2.1 (FrS.one w5 p 1 (.int .i64 ((i + 1 : Nat) : Int))))
  have e1 : ((i + 1 : Nat) : Int) = (i : Int) + 1 := by omega
  rw [e1] at P6 L6
  clear e1
  go_wp2_with fail
  generalize w5.setCell ⟨p, 1, none⟩ (.int .i64 ((i : Int) + 1)) = w6 at *
  clear c1 f1
  refine (rblank_run P6.out).mono ?_
  rintro _ w7 ⟨rfl, hr7, hf7⟩
  have P7 := Lib.hid hr7
  have L7 := Lib.hid (L6.out.move LW.out.1 LW.out.2.2.1 hf7)
  clear hr7 hf7
  go_wp2_with fail
  refine (rpeek_run P7.out).mono ?_
  rintro _ w8 (⟨c, hc, rfl, hd⟩ | ⟨hn, rfl, hb, hf⟩)
  · have HC := Lib.hid hc
    have P8 := Lib.hid (P7.out.dr hd)
    have L8 := Lib.hid (L7.out.move LW.out.1 LW.out.2.2.1 hd.frs)
    have hq2 := at_lt hc
    have hlc : c.toNat < 256 := c.toNat_lt
    clear hd hc
    by_cases h93 : c.toNat = 93
    · have hc93 : c = 93 := UInt8.toNat_inj.1 h93
      have t93 : ((c.toNat : Int) == 93) = true := by rw [h93]; rfl
      have HRX : Hid (R = .ok ([], n) (skip s.data.toList (i + 1) + 1)) := Lib.hid (HR0.out.trans (elems_none HC.out hc93))
      have c1 := P8.out.1.cell 1
      have f1 := P8.out.1.frozen 1
      have P9 := Lib.hid (P8.out.to (skip s.data.toList (i + 1) + 1) hq2)
      have L9 := Lib.hid (L8.out.move LW.out.1 LW.out.2.2.1 (FrS.one w8 p 1 (.int .i64 ((skip s.data.toList (i + 1) + 1 : Nat) : Int))))
      generalize skip s.data.toList (i + 1) = q at *
      have e1 : ((q + 1 : Nat) : Int) = (q : Int) + 1 := by omega
      rw [e1] at P9 L9
      clear e1 h93 hc93
      go_upto_region 6 with (fail)
      generalize w8.setCell ⟨p, 1, none⟩ (.int .i64 ((q : Int) + 1)) = w9 at *
      clear c1 f1
      obtain ⟨A, c, cs, q1, q2, q3⟩ := L9.out.row
      have F9 := Lib.hid L9.out.fr
      have Q1 := Lib.hid q1
      clear q1
      have RBx1 := Lib.hid (F9.out.bk KR.out (fun h => by
        rcases h with h | h
        · exact LW.out.2.2.2.2.1 h
        · exact LW.out.2.2.2.2.2.1 h))
      have v0 := Q1.out.cell 0
      have v1 := Q1.out.cell 1
      have v2 := Q1.out.cell 2
      have v3 := Q1.out.cell 3
      have v4 := Q1.out.cell 4
      have d0 := RBx1.out.cell 0
      have d1 := RBx1.out.cell 1
      have d2 := RBx1.out.cell 2
      have d3 := RBx1.out.cell 3
      have d4 := RBx1.out.cell 4
      have f0 := RBx1.out.frozen 0
      have f1 := RBx1.out.frozen 1
      have f2 := RBx1.out.frozen 2
      have f3 := RBx1.out.frozen 3
      have f4 := RBx1.out.frozen 4
      go_wp2
      obtain ⟨wz, hwz⟩ : ∃ wz, wz = put5 w9 rb 0 (.int .i64 4) (.int .i64 0) (.string ⟨#[]⟩) (.slice A ([] : List VT).length c) (.slice none 0 0) := ⟨_, rfl⟩
      have QZ : Hid (Bk wz rb 25 #[.int .i64 4, .int .i64 0, .string ⟨#[]⟩, .slice A ([] : List VT).length c, .slice none 0 0]) := Lib.hid (by rw [hwz]; exact put5_bk RBx1.out)
      have GZ : Hid (FrS (One rb) w9 wz) := Lib.hid (by rw [hwz]; exact frs_put5S rfl)
      have FZ : Hid (FrS (One p) w wz) := Lib.hid (by
        rw [hwz]
        exact frs_put5 ((FrS.of_below B5.out).next F9.out (fun i hi h => by
          rcases h with h | h
          · exact h
          · have := LW.out.2.2.2.2.2.2.2.1; omega)) LW.out.2.2.2.2.2.2.1)
      change bodyPost _ _ _ _ _ (put5 w9 rb 0 (.int .i64 4) (.int .i64 0) (.string ⟨#[]⟩) (.slice A ([] : List VT).length c) (.slice none 0 0))
      rw [← hwz]
      refine bodyPost_ret (results_cell_row rfl _ _ rb 25 _ (0, 0) _ rfl QZ.out Tryz.underlying25 rfl (by kernel_rfl)) rfl ?_
      refine ⟨FZ, 4, 0, ⟨#[]⟩, A, ([] : List VT).length, c, none, 0, 0, rfl, ?_⟩
      have LI := items_lies q2 q3 rfl (by omega) (K := 4)
      have HQ := HRX.out
      exact .inl ⟨VT.mk 4 0 ⟨#[]⟩ [] [], n, _, Lib.hid (by rw [HQ]; rfl), Lib.hid ((LI.keep (fun q hq => GZ.out.cell hq.2 (fun e => by have e2 : q.block = rb := e; have := hq.1; have := LW.out.2.2.2.1; omega)) (fun b hb => ⟨Nat.le_trans LW.out.2.2.2.2.2.2.2.2 hb.1, Nat.lt_of_lt_of_le hb.2 GZ.out.size⟩))), Lib.hid (P9.out.frs GZ.out (fun e => LW.out.2.2.2.2.1 e.symm))⟩
    · have t93 : ((c.toNat : Int) == 93) = false := by rw [beq_eq_false_iff_ne]; omega
      have hc93 : c ≠ 93 := fun e => h93 (by rw [e]; rfl)
      have HR1 := Lib.hid (HR0.out.trans (elems_some (el := elL (valP s.data.toList k)) (st := ([], n)) HC.out hc93))
      generalize skip s.data.toList (i + 1) = q at *
      have HJ : Hid (q ≤ s.size) := Lib.hid P8.out.2.1
      clear h93 hc93 HR0
      go_wp2_with fail
      go_loopg [] (s.size + 1) (fun gh wr => ∃ (its : List VT) (nn j : Nat), Hid (LrS w5 p vb its wr) ∧ Hid (Rn wr p s j nn) ∧ Hid (its.length + gh ≤ s.size + 1) ∧ Hid (s.size + 1 ≤ gh + j ∧ R = moreP (elL (valP s.data.toList k)) 93 s.data.toList gh j (its, nn)))
      case atStart => exact ⟨[], n, q, L8, P8, Lib.hid (by simp), Lib.hid ⟨by omega, by rw [HR1.out, list_len]⟩⟩
      case round =>
        obtain ⟨its, nn, j, HS, HN, HM, HG⟩ := hrel
        obtain ⟨f, rfl⟩ : ∃ f, gk = f + 1 := ⟨gk - 1, by have := HG.out.1; have := HN.out.2.1; omega⟩
        have HG2 : Hid (R = (valP s.data.toList k j nn).bind fun x j => (tkP (fun x => x == 44 || x == 93) s.data.toList (skip s.data.toList j)).bind fun c j2 => if c = 44 then moreP (elL (valP s.data.toList k)) 93 s.data.toList f j2 (its ++ [x.1], x.2) else .ok (its ++ [x.1], x.2) j2) := Lib.hid (by
          rw [HG.out.2, moreP_succ]
          unfold elL
          rw [valP_skip]
          cases valP s.data.toList k j nn <;> rfl)
        obtain ⟨r, hr⟩ : ∃ r, r = valP s.data.toList k j nn := ⟨_, rfl⟩
        rw [← hr] at HG2
        have HMO : Hid (r.Mono j) := Lib.hid (by rw [hr]; exact valP_mono _ _ _ _)
        have HCV : Hid (∀ W, Below wr.heap.size wr W → Calls Tryz.prog 27 #[.pointer (some ⟨p, 0, none⟩), .int .i64 (d + 1)] W (RvalA r p s wr W)) := Lib.hid (fun W hb =>
          (HV.out W p s j nn (d + 1) HD.out (by omega) (HN.out.frs (FrS.of_below (S := fun _ => False) hb) (fun h => h))).mono (fun _ _ hq => by rw [hr]; exact hq.after hb HN.out.1.lt))
        obtain ⟨AI, cI, cs, r1, r2, r3⟩ := HS.out.row
        have hfr := Lib.hid HS.out.fr
        obtain ⟨m, hm⟩ : ∃ m, m = its.length := ⟨_, rfl⟩
        rw [← hm] at r1 r2 r3
        have HMM := Lib.hid hm
        have HGG := Lib.hid r1
        have HO := Lib.hid r2
        have HLC := Lib.hid r3
        have hml : m ≤ 1000001 := by have := HM.out; omega
        have g3 := HGG.out.cell 3
        change _ = some (Value.slice AI m cI) at g3
        have fg := HGG.out.frozen 3
        have ce4 := HN.out.1.cell 4
        have LTS : Hid (vb < wr.heap.size ∧ p < wr.heap.size ∧ w5.heap.size ≤ wr.heap.size) := Lib.hid (by have := LW.out; have := hfr.out.size; exact ⟨by omega, by omega, by omega⟩)
        have ltg := LTS.out.1
        have HOS : Hid (∀ W, FrS (One p) wr W → W.ownsRow w5.heap.size 25 5 (.slice AI m cI) m cs) := Lib.hid (fun W h => own_frs HO.out h (fun b e => by rw [show b = p from e]; exact LW.out.1))
        have GIN : Hid (¬ One p vb) := Lib.hid (fun e => LW.out.2.2.1 e.symm)
        have LIM : Hid ((m + 1) * 80 ≤ 140737488355328) := Lib.hid (by omega)
        have HNG : Hid ((Value.slice AI m cI).ownBlock ≠ some vb) := Lib.hid (fun e => by have := (HO.out.lt vb e).1; have := LW.out; omega)
        have jj : (m : Int) < (m : Int) + 1 := by omega
        have HGJ : Hid (s.size + 1 ≤ f + 1 + j) := Lib.hid HG.out.1
        clear r1 r2 r3 hm hr HG
        go_upto_region 8 with (fail)
        go_cut [] from 27 to 51 (fun wx => Hid (LrN r w5 p vb s its wx))
        case first =>
          go_region_law (first
            | (refine step_append_lies _ (by rfl) _ _ _ (by rfl) w5.heap.size 25 iV _ 5 80 Tryz.underlying22 HI5.out.1 HI5.out.2.1 HI5.out.2.2.1 HI5.out.2.2.2 rfl (by omega) (.slice AI m cI) m cs (by rfl) (by first | exact (HOS.out _ HFB.out).alloc _ | exact ((HOS.out _ HFB.out).alloc _).drew | exact (HOS.out _ HFB.out).drew.alloc _) ⟨wB.heap.size, 0, none⟩ 1 1 [.int .i64 k2, .int .i64 i2, .string t2, .slice E n3 c3, .slice E' n4 c4] (by rfl) (by rfl) (World.news_of_block (cs := #[.int .i64 k2, .int .i64 i2, .string t2, .slice E n3 c3, .slice E' n4 c4]) (t := 25) (fr := (0, 0)) (heap_alloc_new wB _)) (by simp [Value.oneCell']) (by omega) (by have := LIM.out; unfold maxLen; omega) LIM.out (by have := HFB.out.size; have := LTS.out; simp; omega) (wB.heap.size + 1) (by simp) ?_; intro g2 cap w1 hown1 hgrow hat hlt1; have HGW : Hid (wB.grownBy w1 (Value.slice AI m cI).ownBlock) := Lib.hid (grownBy_trans (World.grownBy_alloc wB _ _) (by exact hgrow)); have HAT : Hid ((Value.slice AI m cI).ownBlock = some g2 ∨ wB.heap.size ≤ g2) := Lib.hid (by rcases hat with h | h; exact Or.inl h; exact Or.inr (by omega)); clear hat hgrow; have HOW := Lib.hid hown1; have HG1 : Hid (Bk w1 vb 25 #[.int .i64 4, .int .i64 0, .string ⟨#[]⟩, .slice AI m cI, .slice none 0 0]) := Lib.hid ((HFB.out.bk HGG.out GIN.out).grown HGW.out (Ne.symm HNG.out)); have gg3 := HG1.out.cell 3; change _ = some (Value.slice AI m cI) at gg3; have gf3 := HG1.out.frozen 3; clear hown1)
            | (go_simp; go_at_call 27; refine (HCV.out _ (by first | exact Below.refl _ _ | exact (Below.refl _ _).drew | exact ⟨rfl, rfl, rfl, by simp, fun b hb => Below.heap_alloc _ _ b hb⟩)).mono ?_; rintro _ wB ⟨k2, i2, t2, E, n3, c3, E', n4, c4, rfl, HFB, HMB, HRES⟩; have gB3 := (HFB.out.cell (p := ⟨vb, 3, none⟩) ltg GIN.out).trans g3; have fgB := (HFB.out.bk HGG.out GIN.out).frozen 3; have ltB : vb < wB.heap.size := Nat.lt_of_lt_of_le ltg HFB.out.size))
          all_goals (
            obtain ⟨wf, hwf, HWF⟩ : ∃ wf, wf = w1.setCell ⟨vb, 3, none⟩ (.slice (some ⟨g2, 0, none⟩) (m + 1) cap) ∧ Hid (FrS (One vb) w1 wf ∧ wf.heap.size = w1.heap.size ∧ Bk wf vb 25 #[.int .i64 4, .int .i64 0, .string ⟨#[]⟩, .slice (some ⟨g2, 0, none⟩) (m + 1) cap, .slice none 0 0]) := ⟨_, rfl, Lib.hid ⟨FrS.one _ _ _ _, by simp [World.setCell], by have := HG1.out.put 3 (.slice (some ⟨g2, 0, none⟩) (m + 1) cap); simpa using this⟩⟩
            rw [← hwf]
            have ST := Lib.hid (lr_step LW.out.1 LW.out.2.1 LW.out.2.2.1 hfr.out HO.out HLC.out HFB.out HRES.out HGW.out HAT.out HOW.out HWF.out.1 HWF.out.2.1 HWF.out.2.2 HMM.out)
            clear hwf HWF HOW HGW HAT HG1 gg3 gf3 gB3 fgB ltB HMB HFB HRES
            go_wp2_with fail
            go_meet
            exact ST)
        case rest =>
          have ST := Lib.hid hcut.out
          clear hcut HNG LIM GIN HOS HCV g3 fg ce4 HGG HO HLC
          obtain ⟨wf, hwf⟩ : ∃ wf, wf = wc := ⟨_, rfl⟩
          subst hwf
          rcases ST.out with ⟨x, n2, j2, hr, hl, hrn⟩ | ⟨j2, q2, A2, m2, c2, hr, hb, hfz, hbk⟩
          · have HGR : Hid (R = (tkP (fun x => x == 44 || x == 93) s.data.toList (skip s.data.toList j2)).bind fun c j3 => if c = 44 then moreP (elL (valP s.data.toList k)) 93 s.data.toList f j3 (its ++ [x], n2) else .ok (its ++ [x], n2) j3) := Lib.hid (by rw [HG2.out, hr.out]; rfl)
            have HJM := Lib.hid (HMO.out _ _ hr.out)
            have ce4 := hrn.out.1.cell 4
            have ML := Lib.hid (more_any 93 hrn.out (by decide))
            clear ST hr
            go_wp2_with fail
            refine (ML.out).mono ?_
            rintro e w7 ⟨hf7, ⟨c7, j7, ht7, rfl, hr7⟩ | ⟨j7, q7, ht7, rfl, hb7⟩⟩
            · have HL7 := Lib.hid (hl.out.move LW.out.1 LW.out.2.2.1 hf7)
              have HR7 := Lib.hid hr7
              have HJ7 := Lib.hid (tkP_in ht7.out).2.1
              have HS7 := Lib.hid (skip_ge s.data.toList j2)
              have HT7 : Hid (R = if c7 = 44 then moreP (elL (valP s.data.toList k)) 93 s.data.toList f j7 (its ++ [x], n2) else .ok (its ++ [x], n2) j7) := Lib.hid (by rw [HGR.out, ht7.out]; rfl)
              clear hf7 hr7 ML ce4
              by_cases h44 : c7 = 44
              · have t44 : decide (c7 = 44) = true := decide_eq_true h44
                have HT8 := Lib.hid (HT7.out.trans (if_pos h44))
                clear h44
                go_wp2_with fail
                go_roundg f
                case measure => omega
                case rel => exact ⟨its ++ [x], n2, j7, HL7, HR7, Lib.hid (by have := HM.out; rw [List.length_append, List.length_singleton]; omega), Lib.hid ⟨by have := HGJ.out; have := HJ7.out; have := HJM.out; have := HS7.out; omega, HT8.out⟩⟩
              · have t44 : decide (c7 = 44) = false := decide_eq_false h44
                have HT8 := Lib.hid (HT7.out.trans (if_neg h44))
                clear h44
                obtain ⟨A9, c9, cs9, q1, q2, q3⟩ := HL7.out.row
                obtain ⟨m9, hm9⟩ : ∃ m9, (its ++ [x]).length = m9 := ⟨_, rfl⟩
                rw [hm9] at q1 q2 q3
                have HM9 := Lib.hid hm9
                have F9 := Lib.hid HL7.out.fr
                have Q1 := Lib.hid q1
                clear q1 hm9
                have RBx2 := Lib.hid (F9.out.bk KR.out (fun h => by
                  rcases h with h | h
                  · exact LW.out.2.2.2.2.1 h
                  · exact LW.out.2.2.2.2.2.1 h))
                have v0 := Q1.out.cell 0
                have v1 := Q1.out.cell 1
                have v2 := Q1.out.cell 2
                have v3 := Q1.out.cell 3
                have v4 := Q1.out.cell 4
                have d0 := RBx2.out.cell 0
                have d1 := RBx2.out.cell 1
                have d2 := RBx2.out.cell 2
                have d3 := RBx2.out.cell 3
                have d4 := RBx2.out.cell 4
                have f0 := RBx2.out.frozen 0
                have f1 := RBx2.out.frozen 1
                have f2 := RBx2.out.frozen 2
                have f3 := RBx2.out.frozen 3
                have f4 := RBx2.out.frozen 4
                go_wp2
                obtain ⟨wz, hwz⟩ : ∃ wz, wz = put5 w7 rb 0 (.int .i64 4) (.int .i64 0) (.string ⟨#[]⟩) (.slice A9 m9 c9) (.slice none 0 0) := ⟨_, rfl⟩
                have QZ : Hid (Bk wz rb 25 #[.int .i64 4, .int .i64 0, .string ⟨#[]⟩, .slice A9 m9 c9, .slice none 0 0]) := Lib.hid (by rw [hwz]; exact put5_bk RBx2.out)
                have GZ : Hid (FrS (One rb) w7 wz) := Lib.hid (by rw [hwz]; exact frs_put5S rfl)
                have FZ : Hid (FrS (One p) w wz) := Lib.hid (by
                  rw [hwz]
                  exact frs_put5 ((FrS.of_below B5.out).next F9.out (fun i hi h => by
                    rcases h with h | h
                    · exact h
                    · have := LW.out.2.2.2.2.2.2.2.1; omega)) LW.out.2.2.2.2.2.2.1)
                change bodyPost _ _ _ _ _ (put5 w7 rb 0 (.int .i64 4) (.int .i64 0) (.string ⟨#[]⟩) (.slice A9 m9 c9) (.slice none 0 0))
                rw [← hwz]
                refine bodyPost_ret (results_cell_row rfl _ _ rb 25 _ (0, 0) _ rfl QZ.out Tryz.underlying25 rfl (by kernel_rfl)) rfl ?_
                refine ⟨FZ, 4, 0, ⟨#[]⟩, A9, m9, c9, none, 0, 0, rfl, ?_⟩
                have LI := items_lies q2 q3 HM9.out (by omega) (K := 4)
                have HQ := HT8.out
                exact .inl ⟨VT.mk 4 0 ⟨#[]⟩ (its ++ [x]) [], n2, j7, Lib.hid (by rw [HQ]; rfl), Lib.hid ((LI.keep (fun q hq => GZ.out.cell hq.2 (fun e => by have e2 : q.block = rb := e; have := hq.1; have := LW.out.2.2.2.1; omega)) (fun b hb => ⟨Nat.le_trans LW.out.2.2.2.2.2.2.2.2 hb.1, Nat.lt_of_lt_of_le hb.2 GZ.out.size⟩))), Lib.hid (HR7.out.frs GZ.out (fun e => LW.out.2.2.2.2.1 e.symm))⟩
            · have HB7 := Lib.hid hb7
              have HE7 : Hid (R = .err j7 q7) := Lib.hid (by rw [HGR.out, ht7.out]; rfl)
              have HL7 := Lib.hid (hl.out.move LW.out.1 LW.out.2.2.1 hf7)
              obtain ⟨A9, c9, cs9, q1, q2, q3⟩ := HL7.out.row
              obtain ⟨m9, hm9⟩ : ∃ m9, (its ++ [x]).length = m9 := ⟨_, rfl⟩
              rw [hm9] at q1 q2 q3
              have F9 := Lib.hid HL7.out.fr
              have Q1 := Lib.hid q1
              clear q1 hm9 hf7 hb7 ML ce4
              have RBx3 := Lib.hid (F9.out.bk KR.out (fun h => by
                rcases h with h | h
                · exact LW.out.2.2.2.2.1 h
                · exact LW.out.2.2.2.2.2.1 h))
              have v0 := Q1.out.cell 0
              have v1 := Q1.out.cell 1
              have v2 := Q1.out.cell 2
              have v3 := Q1.out.cell 3
              have v4 := Q1.out.cell 4
              have d0 := RBx3.out.cell 0
              have d1 := RBx3.out.cell 1
              have d2 := RBx3.out.cell 2
              have d3 := RBx3.out.cell 3
              have d4 := RBx3.out.cell 4
              have f0 := RBx3.out.frozen 0
              have f1 := RBx3.out.frozen 1
              have f2 := RBx3.out.frozen 2
              have f3 := RBx3.out.frozen 3
              have f4 := RBx3.out.frozen 4
              go_wp2
              obtain ⟨wz, hwz⟩ : ∃ wz, wz = put5 w7 rb 0 (.int .i64 4) (.int .i64 0) (.string ⟨#[]⟩) (.slice A9 m9 c9) (.slice none 0 0) := ⟨_, rfl⟩
              have QZ : Hid (Bk wz rb 25 #[.int .i64 4, .int .i64 0, .string ⟨#[]⟩, .slice A9 m9 c9, .slice none 0 0]) := Lib.hid (by rw [hwz]; exact put5_bk RBx3.out)
              have GZ : Hid (FrS (One rb) w7 wz) := Lib.hid (by rw [hwz]; exact frs_put5S rfl)
              have FZ : Hid (FrS (One p) w wz) := Lib.hid (by
                rw [hwz]
                exact frs_put5 ((FrS.of_below B5.out).next F9.out (fun i hi h => by
                  rcases h with h | h
                  · exact h
                  · have := LW.out.2.2.2.2.2.2.2.1; omega)) LW.out.2.2.2.2.2.2.1)
              change bodyPost _ _ _ _ _ (put5 w7 rb 0 (.int .i64 4) (.int .i64 0) (.string ⟨#[]⟩) (.slice A9 m9 c9) (.slice none 0 0))
              rw [← hwz]
              refine bodyPost_ret (results_cell_row rfl _ _ rb 25 _ (0, 0) _ rfl QZ.out Tryz.underlying25 rfl (by kernel_rfl)) rfl ?_
              refine ⟨FZ, 4, 0, ⟨#[]⟩, A9, m9, c9, none, 0, 0, rfl, ?_⟩
              have HQ := HE7.out
              exact .inr ⟨_, _, Lib.hid (by rw [HQ]; rfl), Lib.hid (HB7.out.frs GZ.out (fun e => LW.out.2.2.2.2.1 e.symm))⟩
          · have HE8 : Hid (R = .err j2 q2) := Lib.hid (by rw [HG2.out, hr.out]; rfl)
            obtain ⟨i9, n9, hb9, hq9, _, _⟩ := hb.out
            have s4 := hb9.cell 4
            have s9 : (q2 == 0) = false := beq_eq_false_iff_ne.2 hq9
            have s9n : (q2 != 0) = true := bne_iff_ne.2 hq9
            clear ST hr hb9 hq9
            have RBx4 := Lib.hid (hfz.out.bk KR.out (fun h => by
              rcases h with h | h
              · exact LW.out.2.2.2.2.1 h
              · exact LW.out.2.2.2.2.2.1 h))
            have v0 := hbk.out.cell 0
            have v1 := hbk.out.cell 1
            have v2 := hbk.out.cell 2
            have v3 := hbk.out.cell 3
            have v4 := hbk.out.cell 4
            have d0 := RBx4.out.cell 0
            have d1 := RBx4.out.cell 1
            have d2 := RBx4.out.cell 2
            have d3 := RBx4.out.cell 3
            have d4 := RBx4.out.cell 4
            have f0 := RBx4.out.frozen 0
            have f1 := RBx4.out.frozen 1
            have f2 := RBx4.out.frozen 2
            have f3 := RBx4.out.frozen 3
            have f4 := RBx4.out.frozen 4
            go_wp2
            obtain ⟨wz, hwz⟩ : ∃ wz, wz = put5 wf rb 0 (.int .i64 4) (.int .i64 0) (.string ⟨#[]⟩) (.slice A2 m2 c2) (.slice none 0 0) := ⟨_, rfl⟩
            have QZ : Hid (Bk wz rb 25 #[.int .i64 4, .int .i64 0, .string ⟨#[]⟩, .slice A2 m2 c2, .slice none 0 0]) := Lib.hid (by rw [hwz]; exact put5_bk RBx4.out)
            have GZ : Hid (FrS (One rb) wf wz) := Lib.hid (by rw [hwz]; exact frs_put5S rfl)
            have FZ : Hid (FrS (One p) w wz) := Lib.hid (by
              rw [hwz]
              exact frs_put5 ((FrS.of_below B5.out).next hfz.out (fun i hi h => by
                rcases h with h | h
                · exact h
                · have := LW.out.2.2.2.2.2.2.2.1; omega)) LW.out.2.2.2.2.2.2.1)
            change bodyPost _ _ _ _ _ (put5 wf rb 0 (.int .i64 4) (.int .i64 0) (.string ⟨#[]⟩) (.slice A2 m2 c2) (.slice none 0 0))
            rw [← hwz]
            refine bodyPost_ret (results_cell_row rfl _ _ rb 25 _ (0, 0) _ rfl QZ.out Tryz.underlying25 rfl (by kernel_rfl)) rfl ?_
            refine ⟨FZ, 4, 0, ⟨#[]⟩, A2, m2, c2, none, 0, 0, rfl, ?_⟩
            have HQ := HE8.out
            exact .inr ⟨_, _, Lib.hid (by rw [HQ]; rfl), Lib.hid (hb.out.frs GZ.out (fun e => LW.out.2.2.2.2.1 e.symm))⟩
  · have HB8 := Lib.hid hb
    have L8 := Lib.hid (L7.out.move LW.out.1 LW.out.2.2.1 hf)
    have HE8 : Hid (R = .err (skip s.data.toList (i + 1)) 4) := Lib.hid (by rw [HR0.out]; unfold elemsP; rw [List.getElem?_eq_none hn])
    obtain ⟨i9, n9, hb9, _, _, _⟩ := hb
    have s4 := hb9.cell 4
    clear hb9 hf hn HR0
    go_wp2_with fail
    go_loopg [] 0 (fun gh wr => gh = 0 ∧ wr = w8)
    case atStart => exact ⟨rfl, rfl⟩
    case round =>
      obtain ⟨rfl, rfl⟩ := hrel
      obtain ⟨A9, c9, cs9, q1, q2, q3⟩ := L8.out.row
      have F9 := Lib.hid L8.out.fr
      have Q1 := Lib.hid q1
      clear q1
      have RBx5 := Lib.hid (F9.out.bk KR.out (fun h => by
        rcases h with h | h
        · exact LW.out.2.2.2.2.1 h
        · exact LW.out.2.2.2.2.2.1 h))
      have v0 := Q1.out.cell 0
      have v1 := Q1.out.cell 1
      have v2 := Q1.out.cell 2
      have v3 := Q1.out.cell 3
      have v4 := Q1.out.cell 4
      have d0 := RBx5.out.cell 0
      have d1 := RBx5.out.cell 1
      have d2 := RBx5.out.cell 2
      have d3 := RBx5.out.cell 3
      have d4 := RBx5.out.cell 4
      have f0 := RBx5.out.frozen 0
      have f1 := RBx5.out.frozen 1
      have f2 := RBx5.out.frozen 2
      have f3 := RBx5.out.frozen 3
      have f4 := RBx5.out.frozen 4
      go_wp2
      obtain ⟨wz, hwz⟩ : ∃ wz, wz = put5 wr rb 0 (.int .i64 4) (.int .i64 0) (.string ⟨#[]⟩) (.slice A9 ([] : List VT).length c9) (.slice none 0 0) := ⟨_, rfl⟩
      have QZ : Hid (Bk wz rb 25 #[.int .i64 4, .int .i64 0, .string ⟨#[]⟩, .slice A9 ([] : List VT).length c9, .slice none 0 0]) := Lib.hid (by rw [hwz]; exact put5_bk RBx5.out)
      have GZ : Hid (FrS (One rb) wr wz) := Lib.hid (by rw [hwz]; exact frs_put5S rfl)
      have FZ : Hid (FrS (One p) w wz) := Lib.hid (by
        rw [hwz]
        exact frs_put5 ((FrS.of_below B5.out).next F9.out (fun i hi h => by
          rcases h with h | h
          · exact h
          · have := LW.out.2.2.2.2.2.2.2.1; omega)) LW.out.2.2.2.2.2.2.1)
      change bodyPost _ _ _ _ _ (put5 wr rb 0 (.int .i64 4) (.int .i64 0) (.string ⟨#[]⟩) (.slice A9 ([] : List VT).length c9) (.slice none 0 0))
      rw [← hwz]
      refine bodyPost_ret (results_cell_row rfl _ _ rb 25 _ (0, 0) _ rfl QZ.out Tryz.underlying25 rfl (by kernel_rfl)) rfl ?_
      refine ⟨FZ, 4, 0, ⟨#[]⟩, A9, ([] : List VT).length, c9, none, 0, 0, rfl, ?_⟩
      have HQ := HE8.out
      exact .inr ⟨_, _, Lib.hid (by rw [HQ]; rfl), Lib.hid (HB8.out.frs GZ.out (fun e => LW.out.2.2.2.2.1 e.symm))⟩
end Go.Proofs.YtlgmhhimbabkjaaGreatDoor
