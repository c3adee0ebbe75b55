/-
  VtextFirst returns true for every input, and its arguments read afterwards as they read before: the walk and what is nearest to it.
-/
import Derived.Test.YtjblchdfkcbodaaDoorYVtextFirst
import Derived.Test.YtjblchdfkcbodaaDoorBytes
import Derived.ProofKit
import Derived.OpenShut
import Derived.ShutString
import Derived.ChangeOld
import Derived.Below
import Derived.Test.YtjblchdfkcbodaaDoorRows
import Derived.Stop.LaidErr
import Derived.Lib.LaidTab
import Derived.MakeChecks
import Derived.LaidMore
import Derived.LaidLaws
import Derived.Test.YtjblchdfkcbodaaDoorCards
import Derived.Test.YtjblchdfkcbodaaDoorTie
import Derived.Lay
import Derived.LaidOnce
import Derived.SevenTiedAt
namespace Go.Proofs.YtjblchdfkcbodaaDoor
open Go.RowKit

theorem ext_to (s : ByteArray) (k : Nat) : (s.extract 0 k).data.toList = s.data.toList.take k := by
  rw [ByteArray.data_extract, Array.toList_extract]
  show (s.data.toList.drop 0).take (k - 0) = _
  rw [List.drop_zero, Nat.sub_zero]
theorem par_on {s : ByteArray} {j : Nat} (t : ByteArray) (h : parP s.data.toList = .err j 3) : parP (s.extract 0 (j + 1) ++ t).data.toList = .err j 3 := by
  have hj := par_lt h
  refine par_same (fun i hi => ⟨?_, by omega⟩) h
  rw [ByteArray.data_append, Array.toList_append, ext_to, List.getElem?_append_left (by rw [List.length_take]; omega), List.getElem?_take, if_pos hi]
theorem par_to {s : ByteArray} {j : Nat} (h : parP s.data.toList = .err j 3) : (∃ x, parP (s.extract 0 j).data.toList = .ok x j) ∨ parP (s.extract 0 j).data.toList = .err j 4 := by
  rw [ext_to]
  exact par_cut h

set_option maxRecDepth 100000 in
set_option maxHeartbeats 4000000 in
theorem First_any (s t : ByteArray) (w : World) (hS : Std w) : Calls Tryd.prog 4 #[.string s, .string t] w fun e w' => e = .returned (.bool true) ∧ Below w.heap.size w w' := by
  have S0 := Lib.hid hS
  clear hS
  by_cases hbig : 2000 < s.size ∨ 2000 < t.size
  · have HLV := Lib.hid (lives_any S0.out)
    rcases Nat.lt_or_ge 2000 s.size with h1 | h1
    · have hb' : (2000 : Int) < (s.size : Int) := by omega
      clear hbig
      go_enter Tryd.func4, Tryd.ntmps4
      go_wp2_with fail
      refine (HLV.out).mono ?_
      rintro _ w1 ⟨rfl, hb1⟩
      have B1 := Lib.hid hb1
      clear hb1
      go_wp2
      go_ret
      exact ⟨rfl, B1.out⟩
    · have hb' : ¬ (2000 : Int) < (s.size : Int) := by omega
      have hb2' : (2000 : Int) < (t.size : Int) := by omega
      clear hbig
      go_enter Tryd.func4, Tryd.ntmps4
      go_wp2_with fail
      refine (HLV.out).mono ?_
      rintro _ w1 ⟨rfl, hb1⟩
      have B1 := Lib.hid hb1
      clear hb1
      go_wp2
      go_ret
      exact ⟨rfl, B1.out⟩
  · have hs1 : s.size ≤ 2000 := by omega
    have ht1 : t.size ≤ 2000 := by omega
    have hb' : ¬ (2000 : Int) < (s.size : Int) := by omega
    have hb2' : ¬ (2000 : Int) < (t.size : Int) := by omega
    have hl : s.data.toList.length = s.size := by simp
    clear hbig
    go_enter Tryd.func4, Tryd.ntmps4
    go_wp2_with fail
    refine (Parse_any s w (by omega) S0.out.ev).mono ?_
    rintro _ w1 ⟨hb1, ⟨k1, i1, t1, A1, m1, c1, A1', m1', c1', x1, j1, rfl, hr, hl1⟩ | ⟨j, c, hr, rfl⟩⟩
    · have B1 := Lib.hid hb1
      clear hb1 hr hl1
      go_wp2_with fail
      refine (lives_any (S0.out.on (Below.alloc B1.out B1.out.size _))).mono ?_
      rintro _ w2 ⟨rfl, hb2⟩
      have B2 : Hid (Below w.heap.size w w2) := Lib.hid ((Below.alloc B1.out B1.out.size _).trans (hb2.mono (Below.alloc B1.out B1.out.size _).size))
      clear hb2
      go_wp2
      go_ret
      exact ⟨rfl, B2.out⟩
    · have B1 := Lib.hid hb1
      clear hb1
      by_cases hc : c = 3
      · subst hc
        have hj : j < s.size := by rw [← hl]; exact par_lt hr.out
        have P1 := Lib.hid (par_on t hr.out)
        have P2 := Lib.hid (par_to hr.out)
        clear hr
        have q1 : (0 : Int) ≤ (j : Int) + 1 := by omega
        have q2 : (j : Int) + 1 ≤ (s.size : Int) := by omega
        have q3 : (0 : Int) ≤ (j : Int) := by omega
        have q4 : (j : Int) ≤ (s.size : Int) := by omega
        go_wp2_with fail
        have X2 : Hid (Below w.heap.size w (w1.alloc (.cells #[.int .i64 0, .int .i64 0, .string ⟨#[]⟩, .slice none 0 0, .slice none 0 0] 26))) := Lib.hid (Below.alloc B1.out B1.out.size _)
        generalize w1.alloc (.cells #[.int .i64 0, .int .i64 0, .string ⟨#[]⟩, .slice none 0 0, .slice none 0 0] 26) = w2 at *
        refine (Parse_any _ w2 (by rw [ByteArray.size_append, ByteArray.size_extract]; omega) (S0.out.on X2.out).ev).mono ?_
        rw [P1.out]
        rintro _ w3 ⟨hb3, ⟨k3, i3, t3, A3, m3, c3, A3', m3', c3', x3, j3, _, hr, _⟩ | ⟨j3, c3, hr, rfl⟩⟩
        · exact absurd hr.out (by intro e; cases e)
        obtain ⟨rfl, rfl⟩ : j = j3 ∧ (3 : Int) = c3 := by have := hr.out; injection this with a b; exact ⟨a, b⟩
        have B3 : Hid (Below w.heap.size w w3) := Lib.hid (X2.out.trans (hb3.mono X2.out.size))
        clear hb3 hr
        go_wp2_with fail
        have X4 : Hid (Below w.heap.size w (w3.alloc (.cells #[.int .i64 0, .int .i64 0, .string ⟨#[]⟩, .slice none 0 0, .slice none 0 0] 26))) := Lib.hid (Below.alloc B3.out B3.out.size _)
        generalize w3.alloc (.cells #[.int .i64 0, .int .i64 0, .string ⟨#[]⟩, .slice none 0 0, .slice none 0 0] 26) = w4 at *
        refine (Parse_any (s.extract 0 j) w4 (by rw [ByteArray.size_extract]; omega) (S0.out.on X4.out).ev).mono ?_
        rcases P2.out with ⟨x, e2⟩ | e2
        · rw [e2]
          rintro _ w5 ⟨hb5, ⟨k5, i5, t5, A5, m5, c5, A5', m5', c5', x5, j5, rfl, hr, hl5⟩ | ⟨j5, c5, hr, _⟩⟩
          case inr => exact absurd hr.out (by intro e; cases e)
          have B5 : Hid (Below w.heap.size w w5) := Lib.hid (X4.out.trans (hb5.mono X4.out.size))
          clear hb5 hr hl5 e2
          go_wp2_with fail
          refine (lives_any (S0.out.on (Below.alloc B5.out B5.out.size _))).mono ?_
          rintro _ w9 ⟨rfl, hb9⟩
          have B9 : Hid (Below w.heap.size w w9) := Lib.hid ((Below.alloc B5.out B5.out.size _).trans (hb9.mono (Below.alloc B5.out B5.out.size _).size))
          clear hb9
          go_wp2
          go_ret
          exact ⟨rfl, B9.out⟩
        · rw [e2]
          rintro _ w5 ⟨hb5, ⟨k5, i5, t5, A5, m5, c5, A5', m5', c5', x5, j5, _, hr, _⟩ | ⟨j5, c5, hr, rfl⟩⟩
          · exact absurd hr.out (by intro e; cases e)
          obtain ⟨rfl, rfl⟩ : j = j5 ∧ (4 : Int) = c5 := by have := hr.out; injection this with a b; exact ⟨a, b⟩
          have B5 : Hid (Below w.heap.size w w5) := Lib.hid (X4.out.trans (hb5.mono X4.out.size))
          clear hb5 hr e2
          go_wp2_with fail
          refine (lives_any (S0.out.on (Below.alloc B5.out B5.out.size _))).mono ?_
          rintro _ w9 ⟨rfl, hb9⟩
          have B9 : Hid (Below w.heap.size w w9) := Lib.hid ((Below.alloc B5.out B5.out.size _).trans (hb9.mono (Below.alloc B5.out B5.out.size _).size))
          clear hb9
          go_wp2
          go_ret
          exact ⟨rfl, B9.out⟩
      · have hc' : (c == 3) = false := by rw [beq_eq_false_iff_ne]; exact hc
        clear hr
        go_wp2_with fail
        refine (lives_any (S0.out.on (Below.alloc B1.out B1.out.size _))).mono ?_
        rintro _ w2 ⟨rfl, hb2⟩
        have B2 : Hid (Below w.heap.size w w2) := Lib.hid ((Below.alloc B1.out B1.out.size _).trans (hb2.mono (Below.alloc B1.out B1.out.size _).size))
        clear hb2
        go_wp2
        go_ret
        exact ⟨rfl, B2.out⟩
theorem VtextFirst_walk (s t : ByteArray) (w : World) (_ : s.size ≤ maxLen) (_ : t.size ≤ maxLen) (h : Std w) : Calls Tryd.prog 4 #[.string s, .string t] w fun e w' => e = .returned (.bool true) ∧ Below w.heap.size w w' := First_any s t w h
end Go.Proofs.YtjblchdfkcbodaaDoor
namespace Go.Proofs.YtjblchdfkcbodaaDoor.opens
open Go.ChangeShapes Go.WideShapes Go.ChangeAt Go.RowKit

theorem int64 {a : Int} (h : (Lit.int .i64 a).wf = true) : -9223372036854775808 ≤ a ∧ a ≤ 9223372036854775807 := by
  simpa [Lit.wf, IntKind.min, IntKind.max, IntKind.signed, IntKind.bits] using h

/-- numbers that fit a byte, as bytes -/
theorem as_bytes : ∀ (zs : List Int), (∀ n ∈ zs, (Lit.int .u8 n).wf = true) → ∃ l : List UInt8, zs = l.map fun c => (c.toNat : Int)
  | [], _ => ⟨[], rfl⟩
  | z :: r, h => by
    obtain ⟨l, hl⟩ := as_bytes r fun n hn => h n (List.mem_cons_of_mem _ hn)
    have hz : 0 ≤ z ∧ z ≤ 255 := by simpa [Lit.wf, IntKind.min, IntKind.max, IntKind.signed, IntKind.bits] using h z List.mem_cons_self
    refine ⟨UInt8.ofNat z.toNat :: l, ?_⟩
    rw [List.map_cons, ← hl]
    congr 1
    have : (UInt8.ofNat z.toNat).toNat = z.toNat := by simp; omega
    rw [this]
    omega

section
variable {H : Type} {enc : TypeId × Value → H} {P : Program} {W : World} {base : Nat} {spare : Nat → Bool} {held : Bool}
/-- a slice of bytes that came in reads as a list -/
theorem bytes {r : Reach} {b0 : Nat} {t e : TypeId} {v : Value} {d : DataW H} {ps : List MemPlace} (ht : P.underlying t = some (.slice e)) (he : P.underlying e = some (.int .u8)) (hc : P.cellsOf e = 1)
    (hval : Value.okWide P W r b0 t v) (hd : DataW.Trod enc P W base spare held t v d ps) : ∃ A n c l, v = .slice A n c ∧ Rb W W.heap.size A n l ∧ n ≤ c ∧ c ≤ maxLen := by
  obtain ⟨A, n, c, rfl⟩ := okWide_slice ht hval
  obtain ⟨fuel, hf⟩ := hd
  rcases open_ints ht he hc hf with ⟨hcs, _⟩ | ⟨x, len, cap, zs, hcs, _, hl, hm, hz, _, hcell, hwz⟩
  · simp [Value.cells] at hcs
    obtain ⟨rfl, rfl, rfl⟩ := hcs
    exact ⟨none, 0, 0, [], rfl, ⟨rfl, fun h => absurd rfl h⟩, Nat.le_refl _, Nat.zero_le _⟩
  · simp [Value.cells] at hcs
    obtain ⟨rfl, rfl, rfl⟩ := hcs
    obtain ⟨l, hlz⟩ := as_bytes zs hwz
    have hlen : n ≤ l.length := by
      have h1 : zs.length = l.length := by rw [hlz, List.length_map]
      rw [← h1, hz]
      split <;> omega
    refine ⟨some x, n, c, l.take n, rfl, ⟨by rw [List.length_take]; omega, fun hne => ?_⟩, hl, hm⟩
    have hpos : 0 < zs.length := by
      rw [hlz, List.length_map]
      rcases Nat.eq_zero_or_pos n with h0 | h0
      · subst h0; simp at hne
      · omega
    obtain ⟨b, off, rfl, hcc⟩ := ints_at hcell hpos
    refine ⟨b, off, rfl, World.block_lt_of_cell? W _ (hcc 0 hpos), fun j c' hj => ?_⟩
    have hj2 : l[j]? = some c' := by
      rw [List.getElem?_take] at hj
      split at hj
      · exact hj
      · cases hj
    have hjl : j < zs.length := by rw [hlz, List.length_map]; exact (List.getElem?_eq_some_iff.1 hj2).1
    rw [hcc j hjl, hlz, List.getD_eq_getElem?_getD, List.getElem?_map, hj2]
    rfl
end
end Go.Proofs.YtjblchdfkcbodaaDoor.opens
namespace Go.Proofs.YtjblchdfkcbodaaDoor
open Go.RowKit Go.ChangeShapes

def laid5 : List (String × DataW Unit) := [("math/bits.deBruijn32tab", Rows.laid_math_bits_deBruijn32tab), ("math/bits.deBruijn64tab", Rows.laid_math_bits_deBruijn64tab), ("internal/strconv.uint64pow10", Rows.laid_internal_strconv_uint64pow10), ("strconv.ErrRange", Rows.laid_strconv_ErrRange), ("strconv.ErrSyntax", Rows.laid_strconv_ErrSyntax)]
theorem star : "*" ++ "errors.errorString" = "*errors.errorString" := by decide
theorem one_ptr (u : TypeId) (h : Tryd.prog.typeName? 3 u = some "*errors.errorString") : u = 109 :=
  typeName_ptr_named (nm := "errors.errorString") (by rw [star]; kernel_rfl) (by kernel_rfl) (by decide) u (by rw [star]; exact h)
theorem std_of_laid {W : World} (h : laidMetH Tryd.prog laid5 W) : Std W := by
  rw [MakeChecks.laidMetH_plain _ _ _ (by kernel_rfl)] at h
  have hT : laidMet Tryd.prog (("internal/strconv.uint64pow10", Lib.tabData .u64 Lib.pow10Tab) :: [("strconv.ErrRange", Rows.laid_strconv_ErrRange), ("strconv.ErrSyntax", Rows.laid_strconv_ErrSyntax)]) W := h.tail.tail
  have gT : Tryd.prog.globalNamed "internal/strconv.uint64pow10" = some 3 := by kernel_rfl
  have tab := Lib.tabIs_of_head gT (t := 102) (e := 79) (n := 20) (by kernel_rfl) (by kernel_rfl) (by kernel_rfl) (by kernel_rfl) (by kernel_rfl) hT
  have gR : Tryd.prog.globalNamed "strconv.ErrRange" = some 2 := by kernel_rfl
  have gS : Tryd.prog.globalNamed "strconv.ErrSyntax" = some 1 := by kernel_rfl
  obtain ⟨a0, _, hv0, _⟩ := laid_sentinel hT.tail gR (ti := 66) (by kernel_rfl) Tryd.underlying66 one_ptr Tryd.underlying109 Tryd.underlying111 rfl rfl Tryd.underlying9 (by kernel_rfl) (by kernel_rfl)
  obtain ⟨a1, _, hv1, _⟩ := laid_sentinel hT.tail.tail gS (ti := 66) (by kernel_rfl) Tryd.underlying66 one_ptr Tryd.underlying109 Tryd.underlying111 rfl rfl Tryd.underlying9 (by kernel_rfl) (by kernel_rfl)
  have c0 : W.cell? ⟨2, 0, none⟩ = some (.iface 109 (.pointer (some a0))) := World.var?_cell gR hv0 0
  have c1 : W.cell? ⟨1, 0, none⟩ = some (.iface 109 (.pointer (some a1))) := World.var?_cell gS hv1 0
  have l0 : 2 < W.heap.size := World.block_lt_of_cell? W _ c0
  have l1 : 1 < W.heap.size := World.block_lt_of_cell? W _ c1
  have lT : 3 < W.heap.size := World.block_lt_of_cell? W ⟨3, 0, none⟩ (World.var?_cell gT tab 0)
  refine ⟨⟨⟨_, _, c1⟩, ⟨_, _, c0⟩, by omega, by omega⟩, fun W' hb => ?_⟩
  unfold Lib.TabIs World.var? at *
  rw [gT] at tab ⊢
  simp only [Option.bind_some] at tab ⊢
  rw [hb.block _ lT]
  exact tab
end Go.Proofs.YtjblchdfkcbodaaDoor
namespace Go.Proofs.YtjblchdfkcbodaaDoor.vtextFirst
open Go.ChangeShapes Go.WideShapes Go.ChangeAt Go.RowKit
open Go.ChangeMaps (open_string)
set_option linter.unusedVariables false

theorem own : ownKnob Tryd.prog.godebug = none := by kernel_rfl
theorem laidOut : laidOutB Tryd.prog = true := by kernel_rfl

set_option maxRecDepth 100000 in
theorem lifted (os : Os) (started : os.Started) (H : Type) (enc : TypeId × Value → H) :
    ReturnsInHanded {} Tryd.checked os 4 .any (fun w args => (Rows.vtextFirstSpec.pre enc Tryd.prog Tryd.f4 [] false w args ∧ laidMetH Tryd.prog laid5 w) ∧ sizedMet enc Tryd.prog Tryd.f4 (OpenSpec.ofChange Rows.vtextFirstSpec) false w args)
      (Rows.vtextFirstSpec.post enc Tryd.prog Tryd.f4 false true false false) := by
  refine returnsInHanded_of_change_and (C := Tryd.checked) (X := fun w _ => laidMetH Tryd.prog laid5 w) (fun _ _ _ hh h => h.of_heap hh) own started (by kernel_rfl) Tryd.func4
    (ChangeSpec.witness_shaped (enc := enc) (C := Tryd.checked) (os := os) (X := fun w _ => laidMetH Tryd.prog laid5 w) false (World.laidAll Tryd.prog os laid5) #[.string ByteArray.empty, .string ByteArray.empty] 8 (World.laidAll_os _ _ _)
      (World.shaped_of_ZipB (by kernel_rfl) (by kernel_rfl)) (by kernel_rfl) (by kernel_rfl) (by kernel_rfl)
      (by rw [MakeChecks.laidMetH_plain _ _ _ (by kernel_rfl)]; exact laidMet_laidAll _ (by kernel_rfl) (by kernel_rfl))) ?_
  intro W base args ds gs before hval0 hW hcnd _ hL _
  have hval : ∀ (j : Nat) t v, Tryd.f4.params[j]? = some t → args[j]? = some v → Value.okWide Tryd.prog W .any base t v := hval0
  have hW' := hW
  obtain ⟨p, q, hA0, hV, rfl, hfz, hnd⟩ := hW
  have hA : DataW.TrodAll enc Tryd.prog W 0 (fun _ => true) true Tryd.f4.params.toList args.toList ds p := hA0
  rw [Tryd.params4] at hA hval
  obtain ⟨v0, vs0, d0, ds0, p0, q0, hargs, rfl, rfl, h0, r0⟩ := trodAll_cons hA
  obtain ⟨v1, vs1, d1, ds1, p1, q1, rfl, rfl, rfl, h1, r1⟩ := trodAll_cons r0
  obtain ⟨rfl, rfl, rfl⟩ := trodAll_nil r1
  obtain rfl : args = #[v0, v1] := by cases args; simp_all
  obtain ⟨rfl, rfl⟩ := trodVars_none hV
  have k0 := h0
  have lt0 : ∀ x ∈ p0, x.block < W.heap.size := by obtain ⟨m, hm⟩ := k0; exact DataW.trod_lt m _ _ _ hm
  obtain ⟨a0, rfl, _, _, w0⟩ := open_string Tryd.underlying9 (hval 0 9 v0 rfl rfl) h0
  have k1 := h1
  have lt1 : ∀ x ∈ p1, x.block < W.heap.size := by obtain ⟨m, hm⟩ := k1; exact DataW.trod_lt m _ _ _ hm
  obtain ⟨a1, rfl, _, _, w1⟩ := open_string Tryd.underlying9 (hval 1 9 v1 rfl rfl) h1
  clear hA0 hval0
  refine (VtextFirst_walk a0 a1 W w0 w1 (std_of_laid hL)).mono fun e W' ⟨he, bel⟩ => ?_
  subst he
  exact ⟨_, rfl, _, _, _, [], _, [], hW', trodAll_mk1 (shut_bool Tryd.underlying4 _), (trodAll_cons_mk (Below.trod laidOut (by kernel_rfl) (of_decide_eq_true (by kernel_rfl)) k0 bel lt0) (trodAll_cons_mk (Below.trod laidOut (by kernel_rfl) (of_decide_eq_true (by kernel_rfl)) k1 bel lt1) (trodAll_mk0))), rfl, bel.frame _, fun h => by cases h⟩

theorem over : Rows.VtextFirstSaid :=
  OpenClaim.holds_of_wide 4 Tryd.f4 rfl rfl rfl rfl rfl rfl rfl ⟨rfl, rfl, rfl, rfl, rfl⟩ rfl rfl rfl rfl rfl (by kernel_rfl) Tryd.func4 (by kernel_rfl)
    (of_decide_eq_true (by kernel_rfl)) (by unfold Func.isWrapper; first | (rw [if_pos (by decide +kernel)]; kernel_rfl) | (rw [if_neg (by decide +kernel)]; exact ⟨rfl, rfl⟩))
    (fun os started H enc _ => lifted os started H enc)

theorem proved : Rows.VtextFirstCardSaid :=
  Claim7.holds_tied_plain_at .later [] [.data, .data, .data, .sentinel, .sentinel] true (true, "eab9d920ed6c5f030f204400a7b94e6753780ddb893fd172108fb4e00f9cb594") true
    over (fun _ h => by cases h) (by kernel_rfl) (fun _ h => by cases h) vtextFirst_row_tie rfl ⟨rfl, rfl⟩ (by kernel_rfl) rfl
    (fun f fn hf hfn => by
      obtain rfl : f = 4 := Option.some.inj ((show Tryd.prog.funcNamed "workflow/workflowlaw03.VtextFirst" = some 4 by kernel_rfl).symm.trans hf) |>.symm
      obtain rfl : fn = Tryd.f4 := (Option.some.inj (Tryd.func4.symm.trans hfn)).symm
      exact ⟨by kernel_rfl, fun j t ht => by
          rw [Tryd.params4] at ht
          have h3 : t = 9 := by
            rcases j with _ | _ | j
            · have h4 : t = 9 := by simpa using ht.symm
              subst h4; decide
            · have h4 : t = 9 := by simpa using ht.symm
              subst h4; decide
            · simp at ht
          rcases h3 with rfl
          exact (show Tryd.prog.wantsStandIn 9 = false by kernel_rfl)⟩)
    (by kernel_rfl)
end Go.Proofs.YtjblchdfkcbodaaDoor.vtextFirst
