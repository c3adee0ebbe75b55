/-
  VtextLiterals returns true for every input, and its arguments read afterwards as they read before: the walk and what is nearest to it.
-/
import Derived.Test.YtokeppimaffagaaDoorYVtextLiterals
import Derived.Test.YtokeppimaffagaaDoorBytes
import Derived.ProofKit
import Derived.OpenShut
import Derived.ShutString
import Derived.ChangeOld
import Derived.Below
import Derived.Test.YtokeppimaffagaaDoorRows
import Derived.Stop.LaidErr
import Derived.Lib.LaidTab
import Derived.MakeChecks
import Derived.LaidMore
import Derived.LaidLaws
import Derived.Test.YtokeppimaffagaaDoorCards
import Derived.Test.YtokeppimaffagaaDoorTie
import Derived.Lay
import Derived.LaidOnce
import Derived.SevenTiedAt
namespace Go.Proofs.YtokeppimaffagaaDoor
open Go.RowKit

theorem quo_len (s : ByteArray) : (quoL s.data.toList).length ≤ 4 * s.size + 2 := by
  unfold quoL
  rw [List.length_cons, List.length_append]
  have : (s.data.toList.flatMap escB).length ≤ 4 * s.data.toList.length := by
    generalize s.data.toList = l
    induction l with
    | nil => simp
    | cons c r ih =>
      rw [List.flatMap_cons, List.length_append, List.length_cons]
      have := escB_len c
      omega
  have e : s.data.toList.length = s.size := rfl
  have e2 : ([34] : List UInt8).length = 1 := rfl
  omega
/-- what Parse says of a blank and a literal -/
theorem par_quo (s : ByteArray) (w : World) (h : Std w) (hs : s.size ≤ 6000) (q : ByteArray) (hq : q.data.toList = 32 :: quoL s.data.toList) :
    Calls Tryd.prog 6 #[.string q] w (ParR (if s.data.toList.length ≤ 4096 then .ok (.mk 3 0 s [] []) (quoL s.data.toList).length.succ else .err 1 6) w) := by
  have hl := quo_len s
  have hz : q.size ≤ 1000000 := by
    have e : q.data.toList.length = q.size := rfl
    rw [hq, List.length_cons] at e
    omega
  have := Parse_any q w hz h.ev
  rw [hq, parP_quo] at this
  exact this

set_option maxRecDepth 100000 in
set_option maxHeartbeats 4000000 in
theorem Literals_any (s : ByteArray) (w : World) (hS : Std w) : Calls Tryd.prog 3 #[.string s] w fun e w' => e = .returned (.bool true) ∧ Below w.heap.size w w' := by
  have S0 := Lib.hid hS
  clear hS
  by_cases hbig : 6000 < s.size
  · have hb' : (6000 : Int) < (s.size : Int) := by omega
    have HLV := Lib.hid (lives_any S0.out)
    go_enter Tryd.func3, Tryd.ntmps3
    go_wp2_with fail
    refine (HLV.out).mono ?_
    rintro _ w1 ⟨rfl, hb1⟩
    have B1 := Lib.hid hb1
    clear hb1
    go_wp2
    go_ret
    exact ⟨rfl, B1.out⟩
  · have hb' : ¬ (6000 : Int) < (s.size : Int) := by omega
    have HQ := Lib.hid (Quote_any s w (by omega))
    go_enter Tryd.func3, Tryd.ntmps3
    go_wp2_with fail
    refine (HQ.out).mono ?_
    rintro _ w1 ⟨rfl, hb1⟩
    have B1 := Lib.hid hb1
    clear hb1
    obtain ⟨q, hq⟩ : ∃ q : ByteArray, q = ⟨(quoL s.data.toList).toArray⟩ := ⟨_, rfl⟩
    have hqs : q.size ≤ 24002 := by
      have e : q.size = (quoL s.data.toList).length := by rw [hq]; simp [ByteArray.size]
      have := quo_len s
      omega
    rw [← hq]
    have HQE := Lib.hid hq
    clear hq
    go_wp2_with fail
    refine (par_quo s w1 (S0.out.on B1.out) (by omega) _ ?_).mono ?_
    · rw [HQE.out]; simp
    by_cases hlong : 4096 < s.size
    · have hl' : (4096 : Int) < (s.size : Int) := by omega
      rw [if_neg (by show ¬ s.size ≤ 4096; omega)]
      rintro _ w2 ⟨hb2, ⟨k2, i2, t2, A2, m2, c2, A2', m2', c2', x2, j2, _, hr, _⟩ | ⟨j2, c2, hr, rfl⟩⟩
      · exact absurd hr.out (by intro e; cases e)
      obtain ⟨rfl, rfl⟩ : 1 = j2 ∧ (6 : Int) = c2 := by have := hr.out; injection this with a b; exact ⟨a, b⟩
      have B2 : Hid (Below w.heap.size w w2) := Lib.hid (B1.out.trans (hb2.mono B1.out.size))
      clear hb2 hr
      go_wp2_with fail
      refine (lives_any (S0.out.on (Below.alloc B2.out B2.out.size _))).mono ?_
      rintro _ w3 ⟨rfl, hb3⟩
      have B3 : Hid (Below w.heap.size w w3) := Lib.hid ((Below.alloc B2.out B2.out.size _).trans (hb3.mono (Below.alloc B2.out B2.out.size _).size))
      clear hb3
      go_wp2
      go_ret
      exact ⟨rfl, B3.out⟩
    · have hl' : ¬ (4096 : Int) < (s.size : Int) := by omega
      rw [if_pos (by show s.size ≤ 4096; omega)]
      rintro _ w2 ⟨hb2, ⟨k2, i2, t2, A2, m2, c2, A2', m2', c2', x2, j2, rfl, hr, hl⟩ | ⟨j2, c2, hr, _⟩⟩
      case inr => exact absurd hr.out (by intro e; cases e)
      obtain ⟨rfl, rfl⟩ : VT.mk 3 0 s [] [] = x2 ∧ _ = j2 := by have := hr.out; injection this with a b; exact ⟨a, b⟩
      have B2 : Hid (Below w.heap.size w w2) := Lib.hid (B1.out.trans (hb2.mono B1.out.size))
      obtain ⟨A9, n9, A9', n9', e9, _⟩ := hl.out.open
      unfold vag at e9
      injection e9 with e9
      obtain ⟨rfl, rfl, rfl⟩ : k2 = 3 ∧ i2 = 0 ∧ t2 = s := by simp at e9; exact ⟨e9.1, e9.2.1, e9.2.2.1⟩
      clear hb2 hr hl e9
      go_wp2_with fail
      refine (lives_any (S0.out.on (Below.alloc B2.out B2.out.size _))).mono ?_
      rintro _ w3 ⟨rfl, hb3⟩
      have B3 : Hid (Below w.heap.size w w3) := Lib.hid ((Below.alloc B2.out B2.out.size _).trans (hb3.mono (Below.alloc B2.out B2.out.size _).size))
      clear hb3
      go_wp2
      go_ret
      exact ⟨rfl, B3.out⟩
end Go.Proofs.YtokeppimaffagaaDoor
namespace Go.Proofs.YtokeppimaffagaaDoor.opens
open Go.ChangeShapes Go.WideShapes Go.ChangeAt Go.RowKit

theorem int64 {a : Int} (h : (Lit.int .i64 a).wf = true) : -9223372036854775808 ≤ a ∧ a ≤ 9223372036854775807 := by
  simpa [Lit.wf, IntKind.min, IntKind.max, IntKind.signed, IntKind.bits] using h

/-- numbers that fit a byte, as bytes -/
theorem as_bytes : ∀ (zs : List Int), (∀ n ∈ zs, (Lit.int .u8 n).wf = true) → ∃ l : List UInt8, zs = l.map fun c => (c.toNat : Int)
  | [], _ => ⟨[], rfl⟩
  | z :: r, h => by
    obtain ⟨l, hl⟩ := as_bytes r fun n hn => h n (List.mem_cons_of_mem _ hn)
    have hz : 0 ≤ z ∧ z ≤ 255 := by simpa [Lit.wf, IntKind.min, IntKind.max, IntKind.signed, IntKind.bits] using h z List.mem_cons_self
    refine ⟨UInt8.ofNat z.toNat :: l, ?_⟩
    rw [List.map_cons, ← hl]
    congr 1
    have : (UInt8.ofNat z.toNat).toNat = z.toNat := by simp; omega
    rw [this]
    omega

section
variable {H : Type} {enc : TypeId × Value → H} {P : Program} {W : World} {base : Nat} {spare : Nat → Bool} {held : Bool}
/-- a slice of bytes that came in reads as a list -/
theorem bytes {r : Reach} {b0 : Nat} {t e : TypeId} {v : Value} {d : DataW H} {ps : List MemPlace} (ht : P.underlying t = some (.slice e)) (he : P.underlying e = some (.int .u8)) (hc : P.cellsOf e = 1)
    (hval : Value.okWide P W r b0 t v) (hd : DataW.Trod enc P W base spare held t v d ps) : ∃ A n c l, v = .slice A n c ∧ Rb W W.heap.size A n l ∧ n ≤ c ∧ c ≤ maxLen := by
  obtain ⟨A, n, c, rfl⟩ := okWide_slice ht hval
  obtain ⟨fuel, hf⟩ := hd
  rcases open_ints ht he hc hf with ⟨hcs, _⟩ | ⟨x, len, cap, zs, hcs, _, hl, hm, hz, _, hcell, hwz⟩
  · simp [Value.cells] at hcs
    obtain ⟨rfl, rfl, rfl⟩ := hcs
    exact ⟨none, 0, 0, [], rfl, ⟨rfl, fun h => absurd rfl h⟩, Nat.le_refl _, Nat.zero_le _⟩
  · simp [Value.cells] at hcs
    obtain ⟨rfl, rfl, rfl⟩ := hcs
    obtain ⟨l, hlz⟩ := as_bytes zs hwz
    have hlen : n ≤ l.length := by
      have h1 : zs.length = l.length := by rw [hlz, List.length_map]
      rw [← h1, hz]
      split <;> omega
    refine ⟨some x, n, c, l.take n, rfl, ⟨by rw [List.length_take]; omega, fun hne => ?_⟩, hl, hm⟩
    have hpos : 0 < zs.length := by
      rw [hlz, List.length_map]
      rcases Nat.eq_zero_or_pos n with h0 | h0
      · subst h0; simp at hne
      · omega
    obtain ⟨b, off, rfl, hcc⟩ := ints_at hcell hpos
    refine ⟨b, off, rfl, World.block_lt_of_cell? W _ (hcc 0 hpos), fun j c' hj => ?_⟩
    have hj2 : l[j]? = some c' := by
      rw [List.getElem?_take] at hj
      split at hj
      · exact hj
      · cases hj
    have hjl : j < zs.length := by rw [hlz, List.length_map]; exact (List.getElem?_eq_some_iff.1 hj2).1
    rw [hcc j hjl, hlz, List.getD_eq_getElem?_getD, List.getElem?_map, hj2]
    rfl
end
end Go.Proofs.YtokeppimaffagaaDoor.opens
namespace Go.Proofs.YtokeppimaffagaaDoor
open Go.RowKit Go.ChangeShapes

def laid5 : List (String × DataW Unit) := [("math/bits.deBruijn32tab", Rows.laid_math_bits_deBruijn32tab), ("math/bits.deBruijn64tab", Rows.laid_math_bits_deBruijn64tab), ("internal/strconv.uint64pow10", Rows.laid_internal_strconv_uint64pow10), ("strconv.ErrRange", Rows.laid_strconv_ErrRange), ("strconv.ErrSyntax", Rows.laid_strconv_ErrSyntax)]
theorem star : "*" ++ "errors.errorString" = "*errors.errorString" := by decide
theorem one_ptr (u : TypeId) (h : Tryd.prog.typeName? 3 u = some "*errors.errorString") : u = 109 :=
  typeName_ptr_named (nm := "errors.errorString") (by rw [star]; kernel_rfl) (by kernel_rfl) (by decide) u (by rw [star]; exact h)
theorem std_of_laid {W : World} (h : laidMetH Tryd.prog laid5 W) : Std W := by
  rw [MakeChecks.laidMetH_plain _ _ _ (by kernel_rfl)] at h
  have hT : laidMet Tryd.prog (("internal/strconv.uint64pow10", Lib.tabData .u64 Lib.pow10Tab) :: [("strconv.ErrRange", Rows.laid_strconv_ErrRange), ("strconv.ErrSyntax", Rows.laid_strconv_ErrSyntax)]) W := h.tail.tail
  have gT : Tryd.prog.globalNamed "internal/strconv.uint64pow10" = some 3 := by kernel_rfl
  have tab := Lib.tabIs_of_head gT (t := 102) (e := 79) (n := 20) (by kernel_rfl) (by kernel_rfl) (by kernel_rfl) (by kernel_rfl) (by kernel_rfl) hT
  have gR : Tryd.prog.globalNamed "strconv.ErrRange" = some 2 := by kernel_rfl
  have gS : Tryd.prog.globalNamed "strconv.ErrSyntax" = some 1 := by kernel_rfl
  obtain ⟨a0, _, hv0, _⟩ := laid_sentinel hT.tail gR (ti := 66) (by kernel_rfl) Tryd.underlying66 one_ptr Tryd.underlying109 Tryd.underlying111 rfl rfl Tryd.underlying9 (by kernel_rfl) (by kernel_rfl)
  obtain ⟨a1, _, hv1, _⟩ := laid_sentinel hT.tail.tail gS (ti := 66) (by kernel_rfl) Tryd.underlying66 one_ptr Tryd.underlying109 Tryd.underlying111 rfl rfl Tryd.underlying9 (by kernel_rfl) (by kernel_rfl)
  have c0 : W.cell? ⟨2, 0, none⟩ = some (.iface 109 (.pointer (some a0))) := World.var?_cell gR hv0 0
  have c1 : W.cell? ⟨1, 0, none⟩ = some (.iface 109 (.pointer (some a1))) := World.var?_cell gS hv1 0
  have l0 : 2 < W.heap.size := World.block_lt_of_cell? W _ c0
  have l1 : 1 < W.heap.size := World.block_lt_of_cell? W _ c1
  have lT : 3 < W.heap.size := World.block_lt_of_cell? W ⟨3, 0, none⟩ (World.var?_cell gT tab 0)
  refine ⟨⟨⟨_, _, c1⟩, ⟨_, _, c0⟩, by omega, by omega⟩, fun W' hb => ?_⟩
  unfold Lib.TabIs World.var? at *
  rw [gT] at tab ⊢
  simp only [Option.bind_some] at tab ⊢
  rw [hb.block _ lT]
  exact tab
end Go.Proofs.YtokeppimaffagaaDoor
namespace Go.Proofs.YtokeppimaffagaaDoor.vtextLiterals
open Go.ChangeShapes Go.WideShapes Go.ChangeAt Go.RowKit
open Go.ChangeMaps (open_string)
set_option linter.unusedVariables false

theorem own : ownKnob Tryd.prog.godebug = none := by kernel_rfl
theorem laidOut : laidOutB Tryd.prog = true := by kernel_rfl

set_option maxRecDepth 100000 in
theorem lifted (os : Os) (started : os.Started) (H : Type) (enc : TypeId × Value → H) :
    ReturnsInHanded {} Tryd.checked os 3 .any (fun w args => (Rows.vtextLiteralsSpec.pre enc Tryd.prog Tryd.f3 [] false w args ∧ laidMetH Tryd.prog laid5 w) ∧ sizedMet enc Tryd.prog Tryd.f3 (OpenSpec.ofChange Rows.vtextLiteralsSpec) false w args)
      (Rows.vtextLiteralsSpec.post enc Tryd.prog Tryd.f3 false true false false) := by
  refine returnsInHanded_of_change_and (C := Tryd.checked) (X := fun w _ => laidMetH Tryd.prog laid5 w) (fun _ _ _ hh h => h.of_heap hh) own started (by kernel_rfl) Tryd.func3
    (ChangeSpec.witness_shaped (enc := enc) (C := Tryd.checked) (os := os) (X := fun w _ => laidMetH Tryd.prog laid5 w) false (World.laidAll Tryd.prog os laid5) #[.string ByteArray.empty] 8 (World.laidAll_os _ _ _)
      (World.shaped_of_ZipB (by kernel_rfl) (by kernel_rfl)) (by kernel_rfl) (by kernel_rfl) (by kernel_rfl)
      (by rw [MakeChecks.laidMetH_plain _ _ _ (by kernel_rfl)]; exact laidMet_laidAll _ (by kernel_rfl) (by kernel_rfl))) ?_
  intro W base args ds gs before hval0 hW _ _ hL _
  have hval : ∀ (j : Nat) t v, Tryd.f3.params[j]? = some t → args[j]? = some v → Value.okWide Tryd.prog W .any base t v := hval0
  have hW' := hW
  obtain ⟨p, q, hA0, hV, rfl, hfz, hnd⟩ := hW
  have hA : DataW.TrodAll enc Tryd.prog W 0 (fun _ => true) true Tryd.f3.params.toList args.toList ds p := hA0
  rw [Tryd.params3] at hA hval
  obtain ⟨v0, vs0, d0, ds0, p0, q0, hargs, rfl, rfl, h0, r0⟩ := trodAll_cons hA
  obtain ⟨rfl, rfl, rfl⟩ := trodAll_nil r0
  obtain rfl : args = #[v0] := by cases args; simp_all
  obtain ⟨rfl, rfl⟩ := trodVars_none hV
  have k0 := h0
  have lt0 : ∀ x ∈ p0, x.block < W.heap.size := by obtain ⟨m, hm⟩ := k0; exact DataW.trod_lt m _ _ _ hm
  obtain ⟨a0, rfl, _, _, w0⟩ := open_string Tryd.underlying9 (hval 0 9 v0 rfl rfl) h0
  clear hA0 hval0
  refine (Literals_any a0 W (std_of_laid hL)).mono fun e W' ⟨he, bel⟩ => ?_
  subst he
  exact ⟨_, rfl, _, _, _, [], _, [], hW', trodAll_mk1 (shut_bool Tryd.underlying4 _), (trodAll_cons_mk (Below.trod laidOut (by kernel_rfl) (of_decide_eq_true (by kernel_rfl)) k0 bel lt0) (trodAll_mk0)), rfl, bel.frame _, fun h => by cases h⟩

theorem over : Rows.VtextLiteralsSaid :=
  OpenClaim.holds_of_wide 3 Tryd.f3 rfl rfl rfl rfl rfl rfl rfl ⟨rfl, rfl, rfl, rfl, rfl⟩ rfl rfl rfl rfl rfl (by kernel_rfl) Tryd.func3 (by kernel_rfl)
    (of_decide_eq_true (by kernel_rfl)) (by unfold Func.isWrapper; first | (rw [if_pos (by decide +kernel)]; kernel_rfl) | (rw [if_neg (by decide +kernel)]; exact ⟨rfl, rfl⟩))
    (fun os started H enc _ => lifted os started H enc)

theorem proved : Rows.VtextLiteralsCardSaid :=
  Claim7.holds_tied_plain_at .later [] [.data, .data, .data, .sentinel, .sentinel] true (true, "eab9d920ed6c5f030f204400a7b94e6753780ddb893fd172108fb4e00f9cb594") true
    over (fun _ h => by cases h) (by kernel_rfl) (fun _ h => by cases h) vtextLiterals_row_tie rfl ⟨rfl, rfl⟩ (by kernel_rfl) rfl
    (fun f fn hf hfn => by
      obtain rfl : f = 3 := Option.some.inj ((show Tryd.prog.funcNamed "workflow/workflowlaw03.VtextLiterals" = some 3 by kernel_rfl).symm.trans hf) |>.symm
      obtain rfl : fn = Tryd.f3 := (Option.some.inj (Tryd.func3.symm.trans hfn)).symm
      exact ⟨by kernel_rfl, fun j t ht => by
        rw [Tryd.params3] at ht
        have h3 : t = 9 := by
          rcases j with _ | j
          · simpa using ht.symm
          · simp at ht
        subst h3
        exact (show Tryd.prog.wantsStandIn 9 = false by kernel_rfl)⟩)
    (by kernel_rfl)
end Go.Proofs.YtokeppimaffagaaDoor.vtextLiterals
