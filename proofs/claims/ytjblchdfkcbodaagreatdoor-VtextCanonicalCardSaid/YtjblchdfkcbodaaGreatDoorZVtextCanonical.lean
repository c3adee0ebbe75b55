/-
  VtextCanonical returns true for every input, and its arguments read afterwards as they read before: the walk and what is nearest to it.
-/
import Derived.Test.YtjblchdfkcbodaaGreatDoorYVtextCanonical
import Derived.Test.YtjblchdfkcbodaaGreatDoorVsr
import Derived.Test.YtjblchdfkcbodaaGreatDoorBytes
import Derived.ProofKit
import Derived.OpenShut
import Derived.ShutString
import Derived.ChangeOld
import Derived.Below
import Derived.Test.YtjblchdfkcbodaaGreatDoorRows
import Derived.Stop.LaidErr
import Derived.Lib.LaidTab
import Derived.MakeChecks
import Derived.LaidMore
import Derived.LaidLaws
import Derived.Test.YtjblchdfkcbodaaGreatDoorCards
import Derived.Test.YtjblchdfkcbodaaGreatDoorTie
import Derived.Lay
import Derived.LaidOnce
import Derived.SevenTiedAt
namespace Go.Proofs.YtjblchdfkcbodaaGreatDoor
open Go.RowKit

/-- a string of these bytes -/
theorem str_size (l : List UInt8) : (⟨l.toArray⟩ : ByteArray).size = l.length := by simp [ByteArray.size]
theorem str_list (l : List UInt8) : (⟨l.toArray⟩ : ByteArray).data.toList = l := by simp
/-- what Parse says of a payload's text -/
theorem par_back {x : VT} {w : World} (h : Std w) (hg : x.all goodF = true) (hd : x.depth ≤ 16) (hs : x.size ≤ 1000) (hb : x.bw ≤ 6000) :
    Calls Tryz.prog 13 #[.string ⟨x.txt.toArray⟩] w (ParR (.ok x x.txt.length) w) := by
  have hl := txt_len x.size x (Nat.le_refl _) hg
  have := Parse_any ⟨x.txt.toArray⟩ w (by rw [str_size]; omega) h.ev
  rw [str_list] at this
  have e := par_txt hg hd hs [] [] (fun _ h => by cases h) (fun _ h => by cases h)
  rw [List.nil_append, List.append_nil] at e
  rw [e] at this
  exact this
/-- what Print says of a payload -/
theorem prt_good {x : VT} {v : Value} {w : World} (h : Std w) (hv : Lies w (Lo w) x v) (hg : x.all goodF = true) (hd : x.depth ≤ 16) (hs : x.size ≤ 1000) (hb : x.bw ≤ 6000) :
    Calls Tryz.prog 9 #[v] w fun e w' => e = .returned (.tuple #[.string ⟨x.txt.toArray⟩, .int .i64 0]) ∧ Below w.heap.size w w' := by
  have hl := txt_len x.size x (Nat.le_refl _) hg
  have hr := right_good hg hd hs
  refine (Print_any hv (by omega) h.tab).mono fun e w' ⟨he, hb⟩ => ⟨?_, hb⟩
  rw [he, if_pos hr]
theorem right_yes {x : VT} {v : Value} {w : World} (hv : Lies w (Lo w) x v) (hg : x.all goodF = true) (hd : x.depth ≤ 16) (hs : x.size ≤ 1000) : Calls Tryz.prog 16 #[v] w (Gives (.bool true) w) := by
  have := refRight_any (by omega) hv
  rw [right_good hg hd hs] at this
  exact this
theorem same_yes {x : VT} {v u : Value} {w : World} (h : Lies w (Lo w) x v) (h' : Lies w (Lo w) x u) : Calls Tryz.prog 15 #[v, u] w (Gives (.bool true) w) := by
  have := refSame_any h h'
  rw [eqB_true rfl] at this
  exact this

set_option maxRecDepth 100000 in
set_option maxHeartbeats 8000000 in
theorem Canonical_any (s : ByteArray) (w : World) (hS : Std w) : Calls Tryz.prog 6 #[.string s] w fun e w' => e = .returned (.bool true) ∧ Below w.heap.size w w' := by
  have S0 := Lib.hid hS
  clear hS
  by_cases hbig : 6000 < s.size
  · have hb' : (6000 : Int) < (s.size : Int) := by omega
    have HLV := Lib.hid (lives_any S0.out)
    go_enter Tryz.func6, Tryz.ntmps6
    go_wp2_with fail
    refine (HLV.out).mono ?_
    rintro _ w1 ⟨rfl, hb1⟩
    have B1 := Lib.hid hb1
    clear hb1
    go_wp2
    go_ret
    exact ⟨rfl, B1.out⟩
  · have hb' : ¬ (6000 : Int) < (s.size : Int) := by omega
    have hl : s.data.toList.length = s.size := by simp
    go_enter Tryz.func6, Tryz.ntmps6
    go_wp2_with fail
    refine (Parse_any s w (by omega) S0.out.ev).mono ?_
    rintro _ w1 ⟨hb1, ⟨k, i, t, A, m, c, A', m', c', x, j, rfl, hr, hl1⟩ | ⟨j, c, hr, rfl⟩⟩
    · obtain ⟨hg, hd, hs, hbw⟩ := par_good hr.out
      have G := Lib.hid (And.intro hg (And.intro hd (And.intro hs (show x.bw ≤ 6000 by omega))))
      clear hr hg hd hs hbw
      go_wp2_with fail
      obtain ⟨w2, hw2⟩ : ∃ w2, w2 = w1.alloc (.cells #[.int .i64 k, .int .i64 i, .string t, .slice A m c, .slice A' m' c'] 25) := ⟨_, rfl⟩
      obtain ⟨b1, hb1'⟩ : ∃ b1, b1 = w1.heap.size := ⟨_, rfl⟩
      rw [← hw2]
      have hb12 : Below w1.heap.size w1 w2 := by rw [hw2]; exact below_one _ _
      have K2 : Bk w2 b1 25 #[.int .i64 k, .int .i64 i, .string t, .slice A m c, .slice A' m' c'] := by rw [hw2, hb1']; exact Bk.new _ _ _
      have B2 : Hid (Below w.heap.size w w2) := Lib.hid (hb1.trans (hb12.mono hb1.size))
      have L2 := Lib.hid ((hl1.out.keep (fun p hp => hb12.cell hp.2) (fun b hp => Nat.lt_of_lt_of_le hp.2 hb12.size) : Lies w2 (Lo w2) x _))
      rw [← hb1']
      clear hb1 hl1 hb12 hw2 hb1'
      refine (prt_good (S0.out.on B2.out) L2.out G.out.1 G.out.2.1 G.out.2.2.1 G.out.2.2.2).mono ?_
      rintro _ w3 ⟨rfl, hb3⟩
      have K3 := K2.below hb3 K2.lt
      have L3 := Lib.hid (L2.out.below hb3)
      have B3 : Hid (Below w.heap.size w w3) := Lib.hid (B2.out.trans (hb3.mono B2.out.size))
      clear hb3 K2 L2 B2
      go_wp2_with fail
      refine (par_back (S0.out.on B3.out) G.out.1 G.out.2.1 G.out.2.2.1 G.out.2.2.2).mono ?_
      rintro _ w4 ⟨hb4, ⟨k4, i4, t4, A4, m4, c4, A4', m4', c4', x4, j4, rfl, hr, hl4⟩ | ⟨j4, c4, hr, _⟩⟩
      case inr => exact absurd hr.out (by intro e; cases e)
      obtain ⟨rfl, _⟩ : x = x4 ∧ _ = j4 := by have := hr.out; injection this with a b; exact ⟨a, b⟩
      have K4 := K3.below hb4 K3.lt
      have L4 := Lib.hid (L3.out.below hb4)
      have B4 : Hid (Below w.heap.size w w4) := Lib.hid (B3.out.trans (hb4.mono B3.out.size))
      clear hr K3 L3 B3
      go_wp2_with fail
      obtain ⟨w5, hw5⟩ : ∃ w5, w5 = w4.alloc (.cells #[.int .i64 k4, .int .i64 i4, .string t4, .slice A4 m4 c4, .slice A4' m4' c4'] 25) := ⟨_, rfl⟩
      obtain ⟨b2, hb2'⟩ : ∃ b2, b2 = w4.heap.size := ⟨_, rfl⟩
      rw [← hw5]
      have hb45 : Below w4.heap.size w4 w5 := by rw [hw5]; exact below_one _ _
      have K5 := K4.below hb45 K4.lt
      have L5 := Lib.hid (L4.out.below hb45)
      have M5 : Bk w5 b2 25 #[.int .i64 k4, .int .i64 i4, .string t4, .slice A4 m4 c4, .slice A4' m4' c4'] := by rw [hw5, hb2']; exact Bk.new _ _ _
      have B5 : Hid (Below w.heap.size w w5) := Lib.hid (B4.out.trans (hb45.mono B4.out.size))
      have N5 := Lib.hid ((hl4.out.keep (fun p hp => hb45.cell hp.2) (fun b hp => Nat.lt_of_lt_of_le hp.2 hb45.size) : Lies w5 (Lo w5) x _))
      rw [← hb2']
      clear hb4 hl4 hb45 hw5 hb2' K4 L4 B4
      refine (prt_good (S0.out.on B5.out) N5.out G.out.1 G.out.2.1 G.out.2.2.1 G.out.2.2.2).mono ?_
      rintro _ w6 ⟨rfl, hb6⟩
      have K6 := Lib.hid (K5.below hb6 K5.lt)
      have L6 := Lib.hid (L5.out.below hb6)
      have M6 := Lib.hid (M5.below hb6 M5.lt)
      have N6 := Lib.hid (N5.out.below hb6)
      have B6 : Hid (Below w.heap.size w w6) := Lib.hid (B5.out.trans (hb6.mono B5.out.size))
      clear hb6 K5 L5 M5 N5 B5
      have p0 := K6.out.cell 0
      have p1 := K6.out.cell 1
      have p2 := K6.out.cell 2
      have p3 := K6.out.cell 3
      have p4 := K6.out.cell 4
      go_wp2_with fail
      refine (right_yes L6.out G.out.1 G.out.2.1 G.out.2.2.1).mono ?_
      rintro _ w7 ⟨rfl, hb7⟩
      have K7 := Lib.hid (K6.out.below hb7 K6.out.lt)
      have L7 := Lib.hid (L6.out.below hb7)
      have M7 := Lib.hid (M6.out.below hb7 M6.out.lt)
      have N7 := Lib.hid (N6.out.below hb7)
      have B7 : Hid (Below w.heap.size w w7) := Lib.hid (B6.out.trans (hb7.mono B6.out.size))
      clear hb7 K6 L6 M6 N6 B6 p0 p1 p2 p3 p4
      have p0 := K7.out.cell 0
      have p1 := K7.out.cell 1
      have p2 := K7.out.cell 2
      have p3 := K7.out.cell 3
      have p4 := K7.out.cell 4
      have q0 := M7.out.cell 0
      have q1 := M7.out.cell 1
      have q2 := M7.out.cell 2
      have q3 := M7.out.cell 3
      have q4 := M7.out.cell 4
      go_wp2_with fail
      refine (same_yes L7.out N7.out).mono ?_
      rintro _ w8 ⟨rfl, hb8⟩
      have B8 : Hid (Below w.heap.size w w8) := Lib.hid (B7.out.trans (hb8.mono B7.out.size))
      clear hb8 K7 L7 M7 N7 B7 p0 p1 p2 p3 p4 q0 q1 q2 q3 q4
      go_wp2_with fail
      refine (lives_any (S0.out.on B8.out)).mono ?_
      rintro _ w9 ⟨rfl, hb9⟩
      have B9 : Hid (Below w.heap.size w w9) := Lib.hid (B8.out.trans (hb9.mono B8.out.size))
      clear hb9 B8
      go_wp2
      go_ret
      exact ⟨rfl, B9.out⟩
    · have hp := par_err hr.out
      have hj : (j : Int) ≤ (s.size : Int) := by omega
      have hc := hp.2
      have B1 := Lib.hid hb1
      clear hb1 hr hp
      go_wp2_with fail
      refine (lives_any (S0.out.on (Below.alloc B1.out B1.out.size _))).mono ?_
      rintro _ w2 ⟨rfl, hb2⟩
      have B2 : Hid (Below w.heap.size w w2) := Lib.hid ((Below.alloc B1.out B1.out.size _).trans (hb2.mono (Below.alloc B1.out B1.out.size _).size))
      clear hb2
      go_wp2
      go_ret
      exact ⟨rfl, B2.out⟩
theorem VtextCanonical_walk (s : ByteArray) (w : World) (_ : s.size ≤ maxLen) (h : Std w) : Calls Tryz.prog 6 #[.string s] w fun e w' => e = .returned (.bool true) ∧ Below w.heap.size w w' := Canonical_any s w h
end Go.Proofs.YtjblchdfkcbodaaGreatDoor
namespace Go.Proofs.YtjblchdfkcbodaaGreatDoor.opens
open Go.ChangeShapes Go.WideShapes Go.ChangeAt Go.RowKit

theorem int64 {a : Int} (h : (Lit.int .i64 a).wf = true) : -9223372036854775808 ≤ a ∧ a ≤ 9223372036854775807 := by
  simpa [Lit.wf, IntKind.min, IntKind.max, IntKind.signed, IntKind.bits] using h

/-- numbers that fit a byte, as bytes -/
theorem as_bytes : ∀ (zs : List Int), (∀ n ∈ zs, (Lit.int .u8 n).wf = true) → ∃ l : List UInt8, zs = l.map fun c => (c.toNat : Int)
  | [], _ => ⟨[], rfl⟩
  | z :: r, h => by
    obtain ⟨l, hl⟩ := as_bytes r fun n hn => h n (List.mem_cons_of_mem _ hn)
    have hz : 0 ≤ z ∧ z ≤ 255 := by simpa [Lit.wf, IntKind.min, IntKind.max, IntKind.signed, IntKind.bits] using h z List.mem_cons_self
    refine ⟨UInt8.ofNat z.toNat :: l, ?_⟩
    rw [List.map_cons, ← hl]
    congr 1
    have : (UInt8.ofNat z.toNat).toNat = z.toNat := by simp; omega
    rw [this]
    omega

section
variable {H : Type} {enc : TypeId × Value → H} {P : Program} {W : World} {base : Nat} {spare : Nat → Bool} {held : Bool}
/-- a slice of bytes that came in reads as a list -/
theorem bytes {r : Reach} {b0 : Nat} {t e : TypeId} {v : Value} {d : DataW H} {ps : List MemPlace} (ht : P.underlying t = some (.slice e)) (he : P.underlying e = some (.int .u8)) (hc : P.cellsOf e = 1)
    (hval : Value.okWide P W r b0 t v) (hd : DataW.Trod enc P W base spare held t v d ps) : ∃ A n c l, v = .slice A n c ∧ Rb W W.heap.size A n l ∧ n ≤ c ∧ c ≤ maxLen := by
  obtain ⟨A, n, c, rfl⟩ := okWide_slice ht hval
  obtain ⟨fuel, hf⟩ := hd
  rcases open_ints ht he hc hf with ⟨hcs, _⟩ | ⟨x, len, cap, zs, hcs, _, hl, hm, hz, _, hcell, hwz⟩
  · simp [Value.cells] at hcs
    obtain ⟨rfl, rfl, rfl⟩ := hcs
    exact ⟨none, 0, 0, [], rfl, ⟨rfl, fun h => absurd rfl h⟩, Nat.le_refl _, Nat.zero_le _⟩
  · simp [Value.cells] at hcs
    obtain ⟨rfl, rfl, rfl⟩ := hcs
    obtain ⟨l, hlz⟩ := as_bytes zs hwz
    have hlen : n ≤ l.length := by
      have h1 : zs.length = l.length := by rw [hlz, List.length_map]
      rw [← h1, hz]
      split <;> omega
    refine ⟨some x, n, c, l.take n, rfl, ⟨by rw [List.length_take]; omega, fun hne => ?_⟩, hl, hm⟩
    have hpos : 0 < zs.length := by
      rw [hlz, List.length_map]
      rcases Nat.eq_zero_or_pos n with h0 | h0
      · subst h0; simp at hne
      · omega
    obtain ⟨b, off, rfl, hcc⟩ := ints_at hcell hpos
    refine ⟨b, off, rfl, World.block_lt_of_cell? W _ (hcc 0 hpos), fun j c' hj => ?_⟩
    have hj2 : l[j]? = some c' := by
      rw [List.getElem?_take] at hj
      split at hj
      · exact hj
      · cases hj
    have hjl : j < zs.length := by rw [hlz, List.length_map]; exact (List.getElem?_eq_some_iff.1 hj2).1
    rw [hcc j hjl, hlz, List.getD_eq_getElem?_getD, List.getElem?_map, hj2]
    rfl
end
end Go.Proofs.YtjblchdfkcbodaaGreatDoor.opens
namespace Go.Proofs.YtjblchdfkcbodaaGreatDoor
open Go.RowKit Go.ChangeShapes

def laid5 : List (String × DataW Unit) := [("math/bits.deBruijn32tab", Rows.laid_math_bits_deBruijn32tab), ("math/bits.deBruijn64tab", Rows.laid_math_bits_deBruijn64tab), ("internal/strconv.uint64pow10", Rows.laid_internal_strconv_uint64pow10), ("strconv.ErrRange", Rows.laid_strconv_ErrRange), ("strconv.ErrSyntax", Rows.laid_strconv_ErrSyntax)]
theorem star : "*" ++ "errors.errorString" = "*errors.errorString" := by decide
theorem one_ptr (u : TypeId) (h : Tryz.prog.typeName? 3 u = some "*errors.errorString") : u = 122 :=
  typeName_ptr_named (nm := "errors.errorString") (by rw [star]; kernel_rfl) (by kernel_rfl) (by decide) u (by rw [star]; exact h)
theorem std_of_laid {W : World} (h : laidMetH Tryz.prog laid5 W) : Std W := by
  rw [MakeChecks.laidMetH_plain _ _ _ (by kernel_rfl)] at h
  have hT : laidMet Tryz.prog (("internal/strconv.uint64pow10", Lib.tabData .u64 Lib.pow10Tab) :: [("strconv.ErrRange", Rows.laid_strconv_ErrRange), ("strconv.ErrSyntax", Rows.laid_strconv_ErrSyntax)]) W := h.tail.tail
  have gT : Tryz.prog.globalNamed "internal/strconv.uint64pow10" = some 1 := by kernel_rfl
  have tab := Lib.tabIs_of_head gT (t := 107) (e := 85) (n := 20) (by kernel_rfl) (by kernel_rfl) (by kernel_rfl) (by kernel_rfl) (by kernel_rfl) hT
  have gR : Tryz.prog.globalNamed "strconv.ErrRange" = some 3 := by kernel_rfl
  have gS : Tryz.prog.globalNamed "strconv.ErrSyntax" = some 2 := by kernel_rfl
  obtain ⟨a0, _, hv0, _⟩ := laid_sentinel hT.tail gR (ti := 80) (by kernel_rfl) Tryz.underlying80 one_ptr Tryz.underlying122 Tryz.underlying124 rfl rfl Tryz.underlying9 (by kernel_rfl) (by kernel_rfl)
  obtain ⟨a1, _, hv1, _⟩ := laid_sentinel hT.tail.tail gS (ti := 80) (by kernel_rfl) Tryz.underlying80 one_ptr Tryz.underlying122 Tryz.underlying124 rfl rfl Tryz.underlying9 (by kernel_rfl) (by kernel_rfl)
  have c0 : W.cell? ⟨3, 0, none⟩ = some (.iface 122 (.pointer (some a0))) := World.var?_cell gR hv0 0
  have c1 : W.cell? ⟨2, 0, none⟩ = some (.iface 122 (.pointer (some a1))) := World.var?_cell gS hv1 0
  have l0 : 3 < W.heap.size := World.block_lt_of_cell? W _ c0
  have l1 : 2 < W.heap.size := World.block_lt_of_cell? W _ c1
  have lT : 1 < W.heap.size := World.block_lt_of_cell? W ⟨1, 0, none⟩ (World.var?_cell gT tab 0)
  refine ⟨⟨⟨_, _, c1⟩, ⟨_, _, c0⟩, by omega, by omega⟩, fun W' hb => ?_⟩
  unfold Lib.TabIs World.var? at *
  rw [gT] at tab ⊢
  simp only [Option.bind_some] at tab ⊢
  rw [hb.block _ lT]
  exact tab
end Go.Proofs.YtjblchdfkcbodaaGreatDoor
namespace Go.Proofs.YtjblchdfkcbodaaGreatDoor.vtextCanonical
open Go.ChangeShapes Go.WideShapes Go.ChangeAt Go.RowKit
open Go.ChangeMaps (open_string)
set_option linter.unusedVariables false

theorem own : ownKnob Tryz.prog.godebug = none := by kernel_rfl
theorem laidOut : laidOutB Tryz.prog = true := by kernel_rfl

set_option maxRecDepth 100000 in
theorem lifted (os : Os) (started : os.Started) (H : Type) (enc : TypeId × Value → H) :
    ReturnsInHanded {} Tryz.checked os 6 .any (fun w args => (Rows.vtextCanonicalSpec.pre enc Tryz.prog Tryz.f6 [] false w args ∧ laidMetH Tryz.prog laid5 w) ∧ sizedMet enc Tryz.prog Tryz.f6 (OpenSpec.ofChange Rows.vtextCanonicalSpec) false w args)
      (Rows.vtextCanonicalSpec.post enc Tryz.prog Tryz.f6 false true false false) := by
  refine returnsInHanded_of_change_and (C := Tryz.checked) (X := fun w _ => laidMetH Tryz.prog laid5 w) (fun _ _ _ hh h => h.of_heap hh) own started (by kernel_rfl) Tryz.func6
    (ChangeSpec.witness_shaped (enc := enc) (C := Tryz.checked) (os := os) (X := fun w _ => laidMetH Tryz.prog laid5 w) false (World.laidAll Tryz.prog os laid5) #[.string ByteArray.empty] 8 (World.laidAll_os _ _ _)
      (World.shaped_of_ZipB (by kernel_rfl) (by kernel_rfl)) (by kernel_rfl) (by kernel_rfl) (by kernel_rfl)
      (by rw [MakeChecks.laidMetH_plain _ _ _ (by kernel_rfl)]; exact laidMet_laidAll _ (by kernel_rfl) (by kernel_rfl))) ?_
  intro W base args ds gs before hval0 hW hcnd _ hL _
  have hval : ∀ (j : Nat) t v, Tryz.f6.params[j]? = some t → args[j]? = some v → Value.okWide Tryz.prog W .any base t v := hval0
  have hW' := hW
  obtain ⟨p, q, hA0, hV, rfl, hfz, hnd⟩ := hW
  have hA : DataW.TrodAll enc Tryz.prog W 0 (fun _ => true) true Tryz.f6.params.toList args.toList ds p := hA0
  rw [Tryz.params6] at hA hval
  obtain ⟨v0, vs0, d0, ds0, p0, q0, hargs, rfl, rfl, h0, r0⟩ := trodAll_cons hA
  obtain ⟨rfl, rfl, rfl⟩ := trodAll_nil r0
  obtain rfl : args = #[v0] := by cases args; simp_all
  obtain ⟨rfl, rfl⟩ := trodVars_none hV
  have k0 := h0
  have lt0 : ∀ x ∈ p0, x.block < W.heap.size := by obtain ⟨m, hm⟩ := k0; exact DataW.trod_lt m _ _ _ hm
  obtain ⟨a0, rfl, _, _, w0⟩ := open_string Tryz.underlying9 (hval 0 9 v0 rfl rfl) h0
  clear hA0 hval0
  refine (VtextCanonical_walk a0 W w0 (std_of_laid hL)).mono fun e W' ⟨he, bel⟩ => ?_
  subst he
  exact ⟨_, rfl, _, _, _, [], _, [], hW', trodAll_mk1 (shut_bool Tryz.underlying4 _), (trodAll_cons_mk (Below.trod laidOut (by kernel_rfl) (of_decide_eq_true (by kernel_rfl)) k0 bel lt0) (trodAll_mk0)), rfl, bel.frame _, fun h => by cases h⟩

theorem over : Rows.VtextCanonicalSaid :=
  OpenClaim.holds_of_wide 6 Tryz.f6 rfl rfl rfl rfl rfl rfl rfl ⟨rfl, rfl, rfl, rfl, rfl⟩ rfl rfl rfl rfl rfl (by kernel_rfl) Tryz.func6 (by kernel_rfl)
    (of_decide_eq_true (by kernel_rfl)) (by unfold Func.isWrapper; first | (rw [if_pos (by decide +kernel)]; kernel_rfl) | (rw [if_neg (by decide +kernel)]; exact ⟨rfl, rfl⟩))
    (fun os started H enc _ => lifted os started H enc)

theorem proved : Rows.VtextCanonicalCardSaid :=
  Claim7.holds_tied_plain_at .later [] [.data, .data, .data, .sentinel, .sentinel] true (true, "fe0d9424112cb371bb1f1ac3ea8c1ad4d7a81c9e75e0a1b0c539368b0408efe8") true
    over (fun _ h => by cases h) (by kernel_rfl) (fun _ h => by cases h) vtextCanonical_row_tie rfl ⟨rfl, rfl⟩ (by kernel_rfl) rfl
    (fun f fn hf hfn => by
      obtain rfl : f = 6 := Option.some.inj ((show Tryz.prog.funcNamed "workflow/workflowlaw03.VtextCanonical" = some 6 by kernel_rfl).symm.trans hf) |>.symm
      obtain rfl : fn = Tryz.f6 := (Option.some.inj (Tryz.func6.symm.trans hfn)).symm
      exact ⟨by kernel_rfl, fun j t ht => by
          rw [Tryz.params6] at ht
          have h3 : t = 9 := by
            rcases j with _ | j
            · have h4 : t = 9 := by simpa using ht.symm
              subst h4; decide
            · simp at ht
          rcases h3 with rfl
          exact (show Tryz.prog.wantsStandIn 9 = false by kernel_rfl)⟩)
    (by kernel_rfl)
end Go.Proofs.YtjblchdfkcbodaaGreatDoor.vtextCanonical
