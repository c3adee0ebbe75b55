/-
  VtextRoundTrip returns true for every input, and its arguments read afterwards as they read before: the walk and what is nearest to it.
-/
import Derived.Test.YtjblchdfkcbodaaGreatDoorYVtextRoundTrip
import Derived.Test.YtjblchdfkcbodaaGreatDoorBytes
import Derived.ProofKit
import Derived.OpenShut
import Derived.ShutString
import Derived.ChangeOld
import Derived.Below
import Derived.Test.YtjblchdfkcbodaaGreatDoorRows
import Derived.Stop.LaidErr
import Derived.Lib.LaidTab
import Derived.MakeChecks
import Derived.LaidMore
import Derived.LaidLaws
import Derived.Test.YtjblchdfkcbodaaGreatDoorCards
import Derived.Test.YtjblchdfkcbodaaGreatDoorTie
import Derived.Lay
import Derived.LaidOnce
import Derived.SevenTiedAt
namespace Go.Proofs.YtjblchdfkcbodaaGreatDoor
open Go.RowKit

/-- what Parse says of a payload's text between blanks -/
theorem par_blank {x : VT} {w : World} (h : Std w) (hg : x.all goodF = true) (hd : x.depth ≤ 16) (hs : x.size ≤ 1000) (hb : x.bw ≤ 6000) (q : ByteArray) (hq : q.data.toList = [32, 9] ++ (x.txt ++ [13, 10, 32])) :
    Calls Tryz.prog 13 #[.string q] w (ParR (.ok x q.data.toList.length) w) := by
  have hl := txt_len x.size x (Nat.le_refl _) hg
  have hz : q.size ≤ 1000000 := by
    have e : q.data.toList.length = q.size := by simp
    rw [hq] at e
    simp at e
    omega
  have := Parse_any q w hz h.ev
  have e := par_txt hg hd hs [32, 9] [13, 10, 32] (by decide) (by decide)
  rw [← hq] at e
  rw [e] at this
  exact this
theorem str_three (a b c : List UInt8) : ((⟨a.toArray⟩ : ByteArray) ++ (⟨b.toArray⟩ : ByteArray) ++ (⟨c.toArray⟩ : ByteArray)).data.toList = a ++ (b ++ c) := by
  rw [ByteArray.data_append, ByteArray.data_append]
  simp

set_option maxRecDepth 100000 in
set_option maxHeartbeats 8000000 in
theorem RoundTrip_any (x : VT) (v : Value) (w : World) (hv : Lies w (Lo w) x v) (hS : Std w) : Calls Tryz.prog 5 #[v] w fun e w' => e = .returned (.bool true) ∧ Below w.heap.size w w' := by
  have S0 := Lib.hid hS
  clear hS
  have hin := Lib.hid (lies_in x.size x v (Nat.le_refl _) hv)
  have HF := Lib.hid (fun (w' : World) (hb : Below w.heap.size w w') => Few_any (hv.below hb))
  have HRT := Lib.hid (fun (w' : World) (hb : Below w.heap.size w w') (hs : x.size < 4611686018427387904) => refRight_any hs (hv.below hb))
  have HBW : Hid (0 ≤ x.fw 6000 → x.bw ≤ 6000) := Lib.hid (fun h => by have := fw_bw h; omega)
  have HSB := Lib.hid (VT.size_bw x)
  have HG : Hid (x.right = true → x.all goodF = true ∧ x.depth ≤ 16 ∧ x.size ≤ 1000) := Lib.hid (fun h => by
    obtain ⟨h1, h2, h3, h4, h5⟩ := right_parts h
    exact ⟨all_good x.size x (Nat.le_refl _) h1 h2 h3 hin.out, h4, h5⟩)
  have HV := Lib.hid hv
  obtain ⟨k, i, t, its, ks⟩ := x
  obtain ⟨D, d, D', d', rfl, _, _, _, _, _, _, _, _, _⟩ := hv.open
  clear hv hin
  obtain ⟨w1, hw1⟩ : ∃ w1, w1 = w.alloc (.cells #[.int .i64 k, .int .i64 i, .string t, .slice D its.length d, .slice D' ks.length d'] 25) := ⟨_, rfl⟩
  have K1 : Hid (Bk w1 w.heap.size 25 #[.int .i64 k, .int .i64 i, .string t, .slice D its.length d, .slice D' ks.length d']) := Lib.hid (by rw [hw1]; exact Bk.new _ _ _)
  have B1 : Hid (Below w.heap.size w w1) := Lib.hid (by rw [hw1]; exact below_one _ _)
  have H1 := Lib.hid (HF.out w1 B1.out)
  have HW := Lib.hid hw1
  clear hw1 HF
  generalize VT.mk k i t its ks = x at *
  unfold vag at *
  generalize its.length = n1 at *
  generalize ks.length = n2 at *
  go_enter Tryz.func5, Tryz.ntmps5
  go_wp2_with fail
  rw [← HW.out]
  refine (H1.out).mono ?_
  rintro e0 w2 ⟨rfl, hb⟩
  have K2 := Lib.hid (K1.out.below hb K1.out.lt)
  have B2 := Lib.hid (B1.out.trans (hb.mono B1.out.size))
  clear hb K1 B1 H1 HW
  have p0 := K2.out.cell 0
  have p1 := K2.out.cell 1
  have p2 := K2.out.cell 2
  have p3 := K2.out.cell 3
  have p4 := K2.out.cell 4
  by_cases hfew : x.fw 6000 < 0
  · go_wp2_with fail
    refine (lives_any (S0.out.on B2.out)).mono ?_
    rintro _ w3 ⟨rfl, hb3⟩
    have B3 := Lib.hid (B2.out.trans (hb3.mono B2.out.size))
    clear hb3
    go_wp2
    go_ret
    exact ⟨rfl, B3.out⟩
  · have hbw := HBW.out (by omega)
    have R2 := Lib.hid (HRT.out w2 B2.out (by have := HSB.out; omega))
    cases hr : x.right with
    | false =>
      rw [hr] at R2
      clear hr
      go_wp2_with fail
      refine (R2.out).mono ?_
      rintro e0 w3 ⟨rfl, hb⟩
      have B3 := Lib.hid (B2.out.trans (hb.mono B2.out.size))
      clear hb
      go_wp2_with fail
      refine (lives_any (S0.out.on B3.out)).mono ?_
      rintro _ w4 ⟨rfl, hb4⟩
      have B4 := Lib.hid (B3.out.trans (hb4.mono B3.out.size))
      clear hb4
      go_wp2
      go_ret
      exact ⟨rfl, B4.out⟩
    | true =>
      rw [hr] at R2
      obtain ⟨g1, g2, g3⟩ := HG.out hr
      have G := Lib.hid (And.intro g1 (And.intro g2 (And.intro g3 hbw)))
      have HL := Lib.hid (txt_len x.size x (Nat.le_refl _) g1)
      have hsz : (⟨x.txt.toArray⟩ : ByteArray).size ≤ 180000 := by rw [str_size]; have := HL.out; omega
      have hz1 : ¬ 9223372036854775807 < 2 + x.txt.length := by have := HL.out; omega
      have hz2 : ¬ 9223372036854775807 < 2 + x.txt.length + 3 := by have := HL.out; omega
      clear hr g1 g2 g3 HG HBW HSB
      go_wp2_with fail
      refine (R2.out).mono ?_
      rintro e0 w3 ⟨rfl, hb⟩
      have K3 := Lib.hid (K2.out.below hb K2.out.lt)
      have B3 := Lib.hid (B2.out.trans (hb.mono B2.out.size))
      clear hb K2 B2 R2 p0 p1 p2 p3 p4
      have p0 := K3.out.cell 0
      have p1 := K3.out.cell 1
      have p2 := K3.out.cell 2
      have p3 := K3.out.cell 3
      have p4 := K3.out.cell 4
      go_wp2_with fail
      refine (prt_good (S0.out.on B3.out) (HV.out.below B3.out) G.out.1 G.out.2.1 G.out.2.2.1 G.out.2.2.2).mono ?_
      rintro _ w4 ⟨rfl, hb⟩
      have K4 := Lib.hid (K3.out.below hb K3.out.lt)
      have B4 := Lib.hid (B3.out.trans (hb.mono B3.out.size))
      clear hb K3 B3 p0 p1 p2 p3 p4
      go_wp2_with fail
      refine (par_back (S0.out.on B4.out) G.out.1 G.out.2.1 G.out.2.2.1 G.out.2.2.2).mono ?_
      rintro _ w5 ⟨hb5, ⟨k5, i5, t5, A5, m5, c5, A5', m5', c5', x5, j5, rfl, hr, hl5⟩ | ⟨j5, c5, hr, _⟩⟩
      case inr => exact absurd hr.out (by intro e; cases e)
      obtain ⟨rfl, _⟩ : x = x5 ∧ _ = j5 := by have := hr.out; injection this with a b; exact ⟨a, b⟩
      go_wp2_with fail
      obtain ⟨w6, hw6⟩ : ∃ w6, w6 = w5.alloc (.cells #[.int .i64 k5, .int .i64 i5, .string t5, .slice A5 m5 c5, .slice A5' m5' c5'] 25) := ⟨_, rfl⟩
      obtain ⟨b2, hb2'⟩ : ∃ b2, b2 = w5.heap.size := ⟨_, rfl⟩
      rw [← hw6]
      have hb56 : Below w5.heap.size w5 w6 := by rw [hw6]; exact below_one _ _
      have K6 := Lib.hid ((K4.out.below hb5 K4.out.lt).below hb56 (Nat.lt_of_lt_of_le K4.out.lt hb5.size))
      have M6 : Hid (Bk w6 b2 25 #[.int .i64 k5, .int .i64 i5, .string t5, .slice A5 m5 c5, .slice A5' m5' c5']) := Lib.hid (by rw [hw6, hb2']; exact Bk.new _ _ _)
      have B5 := B4.out.trans (hb5.mono B4.out.size)
      have B6 : Hid (Below w.heap.size w w6) := Lib.hid (B5.trans (hb56.mono B5.size))
      have N6 := Lib.hid ((hl5.out.keep (fun p hp => hb56.cell hp.2) (fun b hp => Nat.lt_of_lt_of_le hp.2 hb56.size) : Lies w6 (Lo w6) x _))
      rw [← hb2']
      clear hb5 hl5 hb56 hw6 hb2' K4 B4 B5 hr
      refine (par_blank (S0.out.on B6.out) G.out.1 G.out.2.1 G.out.2.2.1 G.out.2.2.2 _ (str_three [32, 9] x.txt [13, 10, 32])).mono ?_
      rintro _ w7 ⟨hb7, ⟨k7, i7, t7, A7, m7, c7, A7', m7', c7', x7, j7, rfl, hr, hl7⟩ | ⟨j7, c7, hr, _⟩⟩
      case inr => exact absurd hr.out (by intro e; cases e)
      obtain ⟨rfl, _⟩ : x = x7 ∧ _ = j7 := by have := hr.out; injection this with a b; exact ⟨a, b⟩
      obtain ⟨w8, hw8⟩ : ∃ w8, w8 = w7.alloc (.cells #[.int .i64 k7, .int .i64 i7, .string t7, .slice A7 m7 c7, .slice A7' m7' c7'] 25) := ⟨_, rfl⟩
      have hb78 : Below w7.heap.size w7 w8 := by rw [hw8]; exact below_one _ _
      have hb68 : Below w6.heap.size w6 w8 := hb7.trans (hb78.mono hb7.size)
      have K8 := Lib.hid (K6.out.below hb68 K6.out.lt)
      have M8 := Lib.hid (M6.out.below hb68 M6.out.lt)
      have N8 := Lib.hid (N6.out.below hb68)
      have B8 : Hid (Below w.heap.size w w8) := Lib.hid (B6.out.trans (hb68.mono B6.out.size))
      have O8 : Hid (Bk w8 w7.heap.size 25 #[.int .i64 k7, .int .i64 i7, .string t7, .slice A7 m7 c7, .slice A7' m7' c7']) := Lib.hid (by rw [hw8]; exact Bk.new _ _ _)
      have P8 := Lib.hid ((hl7.out.keep (fun p hp => hb78.cell hp.2) (fun b hp => Nat.lt_of_lt_of_le hp.2 hb78.size) : Lies w8 (Lo w8) x _))
      have HW8 := Lib.hid hw8
      clear hb7 hl7 hb78 hb68 hw8 K6 M6 N6 B6 hr
      have p0 := K8.out.cell 0
      have p1 := K8.out.cell 1
      have p2 := K8.out.cell 2
      have p3 := K8.out.cell 3
      have p4 := K8.out.cell 4
      have q0 := M8.out.cell 0
      have q1 := M8.out.cell 1
      have q2 := M8.out.cell 2
      have q3 := M8.out.cell 3
      have q4 := M8.out.cell 4
      rw [HW8.out] at p0 p1 p2 p3 p4 q0 q1 q2 q3 q4
      go_wp2_with fail
      rw [← HW8.out]
      refine (same_yes (HV.out.below B8.out) N8.out).mono ?_
      rintro _ w9 ⟨rfl, hb9⟩
      have K9 := Lib.hid (K8.out.below hb9 K8.out.lt)
      have O9 := Lib.hid (O8.out.below hb9 O8.out.lt)
      have P9 := Lib.hid (P8.out.below hb9)
      have B9 : Hid (Below w.heap.size w w9) := Lib.hid (B8.out.trans (hb9.mono B8.out.size))
      clear hb9 K8 M8 N8 B8 O8 P8 HW8 p0 p1 p2 p3 p4 q0 q1 q2 q3 q4
      generalize w7.heap.size = b3 at *
      have p0 := K9.out.cell 0
      have p1 := K9.out.cell 1
      have p2 := K9.out.cell 2
      have p3 := K9.out.cell 3
      have p4 := K9.out.cell 4
      have q0 := O9.out.cell 0
      have q1 := O9.out.cell 1
      have q2 := O9.out.cell 2
      have q3 := O9.out.cell 3
      have q4 := O9.out.cell 4
      go_wp2_with fail
      refine (same_yes (HV.out.below B9.out) P9.out).mono ?_
      rintro _ w10 ⟨rfl, hb10⟩
      have B10 : Hid (Below w.heap.size w w10) := Lib.hid (B9.out.trans (hb10.mono B9.out.size))
      clear hb10 K9 O9 P9 B9 p0 p1 p2 p3 p4 q0 q1 q2 q3 q4
      go_wp2_with fail
      refine (lives_any (S0.out.on B10.out)).mono ?_
      rintro _ w11 ⟨rfl, hb11⟩
      have B11 : Hid (Below w.heap.size w w11) := Lib.hid (B10.out.trans (hb11.mono B10.out.size))
      clear hb11 B10
      go_wp2
      go_ret
      exact ⟨rfl, B11.out⟩
theorem VtextRoundTrip_walk (x : VT) (v : Value) (w : World) (hv : Lies w (Lo w) x v) (h : Std w) : Calls Tryz.prog 5 #[v] w fun e w' => e = .returned (.bool true) ∧ Below w.heap.size w w' := RoundTrip_any x v w hv h
end Go.Proofs.YtjblchdfkcbodaaGreatDoor
namespace Go.Proofs.YtjblchdfkcbodaaGreatDoor.opens
open Go.ChangeShapes Go.WideShapes Go.ChangeAt Go.RowKit

theorem int64 {a : Int} (h : (Lit.int .i64 a).wf = true) : -9223372036854775808 ≤ a ∧ a ≤ 9223372036854775807 := by
  simpa [Lit.wf, IntKind.min, IntKind.max, IntKind.signed, IntKind.bits] using h

/-- numbers that fit a byte, as bytes -/
theorem as_bytes : ∀ (zs : List Int), (∀ n ∈ zs, (Lit.int .u8 n).wf = true) → ∃ l : List UInt8, zs = l.map fun c => (c.toNat : Int)
  | [], _ => ⟨[], rfl⟩
  | z :: r, h => by
    obtain ⟨l, hl⟩ := as_bytes r fun n hn => h n (List.mem_cons_of_mem _ hn)
    have hz : 0 ≤ z ∧ z ≤ 255 := by simpa [Lit.wf, IntKind.min, IntKind.max, IntKind.signed, IntKind.bits] using h z List.mem_cons_self
    refine ⟨UInt8.ofNat z.toNat :: l, ?_⟩
    rw [List.map_cons, ← hl]
    congr 1
    have : (UInt8.ofNat z.toNat).toNat = z.toNat := by simp; omega
    rw [this]
    omega

section
variable {H : Type} {enc : TypeId × Value → H} {P : Program} {W : World} {base : Nat} {spare : Nat → Bool} {held : Bool}
/-- a slice of bytes that came in reads as a list -/
theorem bytes {r : Reach} {b0 : Nat} {t e : TypeId} {v : Value} {d : DataW H} {ps : List MemPlace} (ht : P.underlying t = some (.slice e)) (he : P.underlying e = some (.int .u8)) (hc : P.cellsOf e = 1)
    (hval : Value.okWide P W r b0 t v) (hd : DataW.Trod enc P W base spare held t v d ps) : ∃ A n c l, v = .slice A n c ∧ Rb W W.heap.size A n l ∧ n ≤ c ∧ c ≤ maxLen := by
  obtain ⟨A, n, c, rfl⟩ := okWide_slice ht hval
  obtain ⟨fuel, hf⟩ := hd
  rcases open_ints ht he hc hf with ⟨hcs, _⟩ | ⟨x, len, cap, zs, hcs, _, hl, hm, hz, _, hcell, hwz⟩
  · simp [Value.cells] at hcs
    obtain ⟨rfl, rfl, rfl⟩ := hcs
    exact ⟨none, 0, 0, [], rfl, ⟨rfl, fun h => absurd rfl h⟩, Nat.le_refl _, Nat.zero_le _⟩
  · simp [Value.cells] at hcs
    obtain ⟨rfl, rfl, rfl⟩ := hcs
    obtain ⟨l, hlz⟩ := as_bytes zs hwz
    have hlen : n ≤ l.length := by
      have h1 : zs.length = l.length := by rw [hlz, List.length_map]
      rw [← h1, hz]
      split <;> omega
    refine ⟨some x, n, c, l.take n, rfl, ⟨by rw [List.length_take]; omega, fun hne => ?_⟩, hl, hm⟩
    have hpos : 0 < zs.length := by
      rw [hlz, List.length_map]
      rcases Nat.eq_zero_or_pos n with h0 | h0
      · subst h0; simp at hne
      · omega
    obtain ⟨b, off, rfl, hcc⟩ := ints_at hcell hpos
    refine ⟨b, off, rfl, World.block_lt_of_cell? W _ (hcc 0 hpos), fun j c' hj => ?_⟩
    have hj2 : l[j]? = some c' := by
      rw [List.getElem?_take] at hj
      split at hj
      · exact hj
      · cases hj
    have hjl : j < zs.length := by rw [hlz, List.length_map]; exact (List.getElem?_eq_some_iff.1 hj2).1
    rw [hcc j hjl, hlz, List.getD_eq_getElem?_getD, List.getElem?_map, hj2]
    rfl
end
end Go.Proofs.YtjblchdfkcbodaaGreatDoor.opens
namespace Go.Proofs.YtjblchdfkcbodaaGreatDoor
open Go.RowKit Go.ChangeShapes

def laid5 : List (String × DataW Unit) := [("math/bits.deBruijn32tab", Rows.laid_math_bits_deBruijn32tab), ("math/bits.deBruijn64tab", Rows.laid_math_bits_deBruijn64tab), ("internal/strconv.uint64pow10", Rows.laid_internal_strconv_uint64pow10), ("strconv.ErrRange", Rows.laid_strconv_ErrRange), ("strconv.ErrSyntax", Rows.laid_strconv_ErrSyntax)]
theorem star : "*" ++ "errors.errorString" = "*errors.errorString" := by decide
theorem one_ptr (u : TypeId) (h : Tryz.prog.typeName? 3 u = some "*errors.errorString") : u = 122 :=
  typeName_ptr_named (nm := "errors.errorString") (by rw [star]; kernel_rfl) (by kernel_rfl) (by decide) u (by rw [star]; exact h)
theorem std_of_laid {W : World} (h : laidMetH Tryz.prog laid5 W) : Std W := by
  rw [MakeChecks.laidMetH_plain _ _ _ (by kernel_rfl)] at h
  have hT : laidMet Tryz.prog (("internal/strconv.uint64pow10", Lib.tabData .u64 Lib.pow10Tab) :: [("strconv.ErrRange", Rows.laid_strconv_ErrRange), ("strconv.ErrSyntax", Rows.laid_strconv_ErrSyntax)]) W := h.tail.tail
  have gT : Tryz.prog.globalNamed "internal/strconv.uint64pow10" = some 1 := by kernel_rfl
  have tab := Lib.tabIs_of_head gT (t := 107) (e := 85) (n := 20) (by kernel_rfl) (by kernel_rfl) (by kernel_rfl) (by kernel_rfl) (by kernel_rfl) hT
  have gR : Tryz.prog.globalNamed "strconv.ErrRange" = some 3 := by kernel_rfl
  have gS : Tryz.prog.globalNamed "strconv.ErrSyntax" = some 2 := by kernel_rfl
  obtain ⟨a0, _, hv0, _⟩ := laid_sentinel hT.tail gR (ti := 80) (by kernel_rfl) Tryz.underlying80 one_ptr Tryz.underlying122 Tryz.underlying124 rfl rfl Tryz.underlying9 (by kernel_rfl) (by kernel_rfl)
  obtain ⟨a1, _, hv1, _⟩ := laid_sentinel hT.tail.tail gS (ti := 80) (by kernel_rfl) Tryz.underlying80 one_ptr Tryz.underlying122 Tryz.underlying124 rfl rfl Tryz.underlying9 (by kernel_rfl) (by kernel_rfl)
  have c0 : W.cell? ⟨3, 0, none⟩ = some (.iface 122 (.pointer (some a0))) := World.var?_cell gR hv0 0
  have c1 : W.cell? ⟨2, 0, none⟩ = some (.iface 122 (.pointer (some a1))) := World.var?_cell gS hv1 0
  have l0 : 3 < W.heap.size := World.block_lt_of_cell? W _ c0
  have l1 : 2 < W.heap.size := World.block_lt_of_cell? W _ c1
  have lT : 1 < W.heap.size := World.block_lt_of_cell? W ⟨1, 0, none⟩ (World.var?_cell gT tab 0)
  refine ⟨⟨⟨_, _, c1⟩, ⟨_, _, c0⟩, by omega, by omega⟩, fun W' hb => ?_⟩
  unfold Lib.TabIs World.var? at *
  rw [gT] at tab ⊢
  simp only [Option.bind_some] at tab ⊢
  rw [hb.block _ lT]
  exact tab
end Go.Proofs.YtjblchdfkcbodaaGreatDoor
namespace Go.Proofs.YtjblchdfkcbodaaGreatDoor.vtextRoundTrip
open Go.ChangeShapes Go.WideShapes Go.ChangeAt Go.RowKit
open Go.ChangeMaps (open_string)
set_option linter.unusedVariables false

theorem own : ownKnob Tryz.prog.godebug = none := by kernel_rfl
theorem laidOut : laidOutB Tryz.prog = true := by kernel_rfl

set_option maxRecDepth 100000 in
theorem lifted (os : Os) (started : os.Started) (H : Type) (enc : TypeId × Value → H) :
    ReturnsInHanded {} Tryz.checked os 5 .any (fun w args => (Rows.vtextRoundTripSpec.pre enc Tryz.prog Tryz.f5 [] false w args ∧ laidMetH Tryz.prog laid5 w) ∧ sizedMet enc Tryz.prog Tryz.f5 (OpenSpec.ofChange Rows.vtextRoundTripSpec) false w args)
      (Rows.vtextRoundTripSpec.post enc Tryz.prog Tryz.f5 false true false false) := by
  refine returnsInHanded_of_change_and (C := Tryz.checked) (X := fun w _ => laidMetH Tryz.prog laid5 w) (fun _ _ _ hh h => h.of_heap hh) own started (by kernel_rfl) Tryz.func5
    (ChangeSpec.witness_shaped (enc := enc) (C := Tryz.checked) (os := os) (X := fun w _ => laidMetH Tryz.prog laid5 w) false (World.laidAll Tryz.prog os laid5) #[.agg #[.int .i64 0, .int .i64 0, .string ByteArray.empty, .slice none 0 0, .slice none 0 0]] 8 (World.laidAll_os _ _ _)
      (World.shaped_of_ZipB (by kernel_rfl) (by kernel_rfl)) (by kernel_rfl) (by kernel_rfl) (by kernel_rfl)
      (by rw [MakeChecks.laidMetH_plain _ _ _ (by kernel_rfl)]; exact laidMet_laidAll _ (by kernel_rfl) (by kernel_rfl))) ?_
  intro W base args ds gs before hval0 hW hcnd _ hL _
  have hval : ∀ (j : Nat) t v, Tryz.f5.params[j]? = some t → args[j]? = some v → Value.okWide Tryz.prog W .any base t v := hval0
  have hW' := hW
  obtain ⟨p, q, hA0, hV, rfl, hfz, hnd⟩ := hW
  have hA : DataW.TrodAll enc Tryz.prog W 0 (fun _ => true) true Tryz.f5.params.toList args.toList ds p := hA0
  rw [Tryz.params5] at hA hval
  obtain ⟨v0, vs0, d0, ds0, p0, q0, hargs, rfl, rfl, h0, r0⟩ := trodAll_cons hA
  obtain ⟨rfl, rfl, rfl⟩ := trodAll_nil r0
  obtain rfl : args = #[v0] := by cases args; simp_all
  obtain ⟨rfl, rfl⟩ := trodVars_none hV
  have k0 := h0
  have lt0 : ∀ x ∈ p0, x.block < W.heap.size := by obtain ⟨m, hm⟩ := k0; exact DataW.trod_lt m _ _ _ hm
  obtain ⟨x0, m0⟩ := opens.value (hval 0 25 v0 rfl rfl) h0
  clear hA0 hval0
  refine (VtextRoundTrip_walk x0 v0 W m0 (std_of_laid hL)).mono fun e W' ⟨he, bel⟩ => ?_
  subst he
  exact ⟨_, rfl, _, _, _, [], _, [], hW', trodAll_mk1 (shut_bool Tryz.underlying4 _), (trodAll_cons_mk (Below.trod laidOut (by kernel_rfl) (of_decide_eq_true (by kernel_rfl)) k0 bel lt0) (trodAll_mk0)), rfl, bel.frame _, fun h => by cases h⟩

theorem over : Rows.VtextRoundTripSaid :=
  OpenClaim.holds_of_wide 5 Tryz.f5 rfl rfl rfl rfl rfl rfl rfl ⟨rfl, rfl, rfl, rfl, rfl⟩ rfl rfl rfl rfl rfl (by kernel_rfl) Tryz.func5 (by kernel_rfl)
    (of_decide_eq_true (by kernel_rfl)) (by unfold Func.isWrapper; first | (rw [if_pos (by decide +kernel)]; kernel_rfl) | (rw [if_neg (by decide +kernel)]; exact ⟨rfl, rfl⟩))
    (fun os started H enc _ => lifted os started H enc)

theorem proved : Rows.VtextRoundTripCardSaid :=
  Claim7.holds_tied_plain_at .later [] [.data, .data, .data, .sentinel, .sentinel] true (true, "fe0d9424112cb371bb1f1ac3ea8c1ad4d7a81c9e75e0a1b0c539368b0408efe8") true
    over (fun _ h => by cases h) (by kernel_rfl) (fun _ h => by cases h) vtextRoundTrip_row_tie rfl ⟨rfl, rfl⟩ (by kernel_rfl) rfl
    (fun f fn hf hfn => by
      obtain rfl : f = 5 := Option.some.inj ((show Tryz.prog.funcNamed "workflow/workflowlaw03.VtextRoundTrip" = some 5 by kernel_rfl).symm.trans hf) |>.symm
      obtain rfl : fn = Tryz.f5 := (Option.some.inj (Tryz.func5.symm.trans hfn)).symm
      exact ⟨by kernel_rfl, fun j t ht => by
          rw [Tryz.params5] at ht
          have h3 : t = 25 := by
            rcases j with _ | j
            · have h4 : t = 25 := by simpa using ht.symm
              subst h4; decide
            · simp at ht
          rcases h3 with rfl
          exact (show Tryz.prog.wantsStandIn 25 = false by kernel_rfl)⟩)
    (by kernel_rfl)
end Go.Proofs.YtjblchdfkcbodaaGreatDoor.vtextRoundTrip
