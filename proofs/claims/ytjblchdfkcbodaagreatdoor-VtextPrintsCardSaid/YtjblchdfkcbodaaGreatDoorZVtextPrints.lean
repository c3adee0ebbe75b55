/-
  VtextPrints returns true for every input, and its arguments read afterwards as they read before: the walk and what is nearest to it.
-/
import Derived.Test.YtjblchdfkcbodaaGreatDoorYVtextPrints
import Derived.Test.YtjblchdfkcbodaaGreatDoorBytes
import Derived.ProofKit
import Derived.OpenShut
import Derived.ShutString
import Derived.ChangeOld
import Derived.Below
import Derived.Test.YtjblchdfkcbodaaGreatDoorRows
import Derived.Stop.LaidErr
import Derived.Lib.LaidTab
import Derived.MakeChecks
import Derived.LaidMore
import Derived.LaidLaws
import Derived.Test.YtjblchdfkcbodaaGreatDoorCards
import Derived.Test.YtjblchdfkcbodaaGreatDoorTie
import Derived.Lay
import Derived.LaidOnce
import Derived.SevenTiedAt
namespace Go.Proofs.YtjblchdfkcbodaaGreatDoor
open Go.RowKit

set_option maxRecDepth 100000 in
set_option maxHeartbeats 8000000 in
theorem VtextPrints_walk (s : ByteArray) (x : VT) (v : Value) (w : World) (_ : s.size ≤ maxLen) (hv : Lies w (Lo w) x v) (hS : Std w) : Calls Tryz.prog 3 #[.string s, v] w fun e w' => e = .returned (.bool true) ∧ Below w.heap.size w w' := by
  have S0 := Lib.hid hS
  clear hS
  have hin := Lib.hid (txt_len9 x.size x (Nat.le_refl _) (lies_in x.size x v (Nat.le_refl _) hv))
  have HF := Lib.hid (fun (w' : World) (hb : Below w.heap.size w w') => Few_any (hv.below hb))
  have HP := Lib.hid (fun (w' : World) (hb : Below w.heap.size w w') (h : x.bw ≤ 6000) => Print_any (hv.below hb) (by have := hin.out; omega) (S0.out.on hb).tab)
  have HQ := Lib.hid (fun (w' : World) (hb : Below w.heap.size w w') (h : x.bw ≤ 6000) => refPrint_any (hv.below hb) h)
  have HBW : Hid (0 ≤ x.fw 6000 → x.bw ≤ 6000) := Lib.hid (fun h => by have := fw_bw h; omega)
  obtain ⟨k, i, t, its, ks⟩ := x
  obtain ⟨D, d, D', d', rfl, _, _, _, _, _, _, _, _, _⟩ := hv.open
  clear hv hin
  obtain ⟨w1, hw1⟩ : ∃ w1, w1 = w.alloc (.cells #[.int .i64 k, .int .i64 i, .string t, .slice D its.length d, .slice D' ks.length d'] 25) := ⟨_, rfl⟩
  have K1 : Hid (Bk w1 w.heap.size 25 #[.int .i64 k, .int .i64 i, .string t, .slice D its.length d, .slice D' ks.length d']) := Lib.hid (by rw [hw1]; exact Bk.new _ _ _)
  have B1 : Hid (Below w.heap.size w w1) := Lib.hid (by rw [hw1]; exact below_one _ _)
  have H1 := Lib.hid (HF.out w1 B1.out)
  have L1 := Lib.hid (lives_any (S0.out.on B1.out))
  have HW := Lib.hid hw1
  clear hw1 HF
  generalize VT.mk k i t its ks = x at *
  unfold vag at *
  generalize its.length = n1 at *
  generalize ks.length = n2 at *
  by_cases hbig : 6000 < s.size
  · have hb' : (6000 : Int) < (s.size : Int) := by omega
    go_enter Tryz.func3, Tryz.ntmps3
    go_wp2_with fail
    rw [← HW.out]
    refine (L1.out).mono ?_
    rintro _ w3 ⟨rfl, hb3⟩
    have B3 := Lib.hid (B1.out.trans (hb3.mono B1.out.size))
    clear hb3
    go_wp2
    go_ret
    exact ⟨rfl, B3.out⟩
  · have hb' : ¬ (6000 : Int) < (s.size : Int) := by omega
    have q0 := K1.out.cell 0
    have q1 := K1.out.cell 1
    have q2 := K1.out.cell 2
    have q3 := K1.out.cell 3
    have q4 := K1.out.cell 4
    rw [HW.out] at q0 q1 q2 q3 q4
    go_enter Tryz.func3, Tryz.ntmps3
    go_wp2_with fail
    rw [← HW.out]
    refine (H1.out).mono ?_
    rintro e0 w2 ⟨rfl, hb⟩
    have K2 := Lib.hid (K1.out.below hb K1.out.lt)
    have B2 := Lib.hid (B1.out.trans (hb.mono B1.out.size))
    clear hb K1 B1 H1 HW L1 q0 q1 q2 q3 q4
    by_cases hfew : x.fw 6000 < 0
    · go_wp2_with fail
      refine (lives_any (S0.out.on B2.out)).mono ?_
      rintro _ w3 ⟨rfl, hb3⟩
      have B3 := Lib.hid (B2.out.trans (hb3.mono B2.out.size))
      clear hb3
      go_wp2
      go_ret
      exact ⟨rfl, B3.out⟩
    · have hbw := HBW.out (by omega)
      have p0 := K2.out.cell 0
      have p1 := K2.out.cell 1
      have p2 := K2.out.cell 2
      have p3 := K2.out.cell 3
      have p4 := K2.out.cell 4
      go_wp2_with fail
      refine (HP.out w2 B2.out hbw).mono ?_
      rintro e0 w3 ⟨he0, hb3⟩
      have K3 := Lib.hid (K2.out.below hb3 K2.out.lt)
      have B3 := Lib.hid (B2.out.trans (hb3.mono B2.out.size))
      clear hb3 K2 B2 p0 p1 p2 p3 p4
      have p0 := K3.out.cell 0
      have p1 := K3.out.cell 1
      have p2 := K3.out.cell 2
      have p3 := K3.out.cell 3
      have p4 := K3.out.cell 4
      have R3 := Lib.hid (HQ.out w3 B3.out hbw)
      obtain ⟨T, c, hT⟩ : ∃ (T : ByteArray) (c : Int), (if x.right = true then #[Value.string ⟨x.txt.toArray⟩, .int .i64 0] else #[.string ⟨#[]⟩, .int .i64 2]) = #[.string T, .int .i64 c] := by
        cases x.right
        · exact ⟨⟨#[]⟩, 2, rfl⟩
        · exact ⟨_, 0, rfl⟩
      unfold PrtR at R3
      rw [hT] at he0 R3
      subst he0
      clear hT hbw HP HQ HBW
      go_wp2_with fail
      refine (R3.out).mono ?_
      rintro e0 w4 ⟨rfl, hb4⟩
      have B4 := Lib.hid (B3.out.trans (hb4.mono B3.out.size))
      clear hb4 K3 B3 R3 p0 p1 p2 p3 p4
      go_wp2_with fail
      refine (Quote_any s _ (by omega)).mono ?_
      rintro e0 w5 ⟨rfl, hb5⟩
      have B5 := Lib.hid (B4.out.trans (hb5.mono B4.out.size))
      clear hb5 B4
      go_wp2_with fail
      refine (refQuote_any s _ (by omega)).mono ?_
      rintro e0 w' ⟨rfl, rfl⟩
      go_wp2_with fail
      refine (lives_any (S0.out.on B5.out)).mono ?_
      rintro _ w6 ⟨rfl, hb6⟩
      have B6 := Lib.hid (B5.out.trans (hb6.mono B5.out.size))
      clear hb6 B5
      go_wp2
      go_ret
      exact ⟨rfl, B6.out⟩
end Go.Proofs.YtjblchdfkcbodaaGreatDoor
namespace Go.Proofs.YtjblchdfkcbodaaGreatDoor.opens
open Go.ChangeShapes Go.WideShapes Go.ChangeAt Go.RowKit

theorem int64 {a : Int} (h : (Lit.int .i64 a).wf = true) : -9223372036854775808 ≤ a ∧ a ≤ 9223372036854775807 := by
  simpa [Lit.wf, IntKind.min, IntKind.max, IntKind.signed, IntKind.bits] using h

/-- numbers that fit a byte, as bytes -/
theorem as_bytes : ∀ (zs : List Int), (∀ n ∈ zs, (Lit.int .u8 n).wf = true) → ∃ l : List UInt8, zs = l.map fun c => (c.toNat : Int)
  | [], _ => ⟨[], rfl⟩
  | z :: r, h => by
    obtain ⟨l, hl⟩ := as_bytes r fun n hn => h n (List.mem_cons_of_mem _ hn)
    have hz : 0 ≤ z ∧ z ≤ 255 := by simpa [Lit.wf, IntKind.min, IntKind.max, IntKind.signed, IntKind.bits] using h z List.mem_cons_self
    refine ⟨UInt8.ofNat z.toNat :: l, ?_⟩
    rw [List.map_cons, ← hl]
    congr 1
    have : (UInt8.ofNat z.toNat).toNat = z.toNat := by simp; omega
    rw [this]
    omega

section
variable {H : Type} {enc : TypeId × Value → H} {P : Program} {W : World} {base : Nat} {spare : Nat → Bool} {held : Bool}
/-- a slice of bytes that came in reads as a list -/
theorem bytes {r : Reach} {b0 : Nat} {t e : TypeId} {v : Value} {d : DataW H} {ps : List MemPlace} (ht : P.underlying t = some (.slice e)) (he : P.underlying e = some (.int .u8)) (hc : P.cellsOf e = 1)
    (hval : Value.okWide P W r b0 t v) (hd : DataW.Trod enc P W base spare held t v d ps) : ∃ A n c l, v = .slice A n c ∧ Rb W W.heap.size A n l ∧ n ≤ c ∧ c ≤ maxLen := by
  obtain ⟨A, n, c, rfl⟩ := okWide_slice ht hval
  obtain ⟨fuel, hf⟩ := hd
  rcases open_ints ht he hc hf with ⟨hcs, _⟩ | ⟨x, len, cap, zs, hcs, _, hl, hm, hz, _, hcell, hwz⟩
  · simp [Value.cells] at hcs
    obtain ⟨rfl, rfl, rfl⟩ := hcs
    exact ⟨none, 0, 0, [], rfl, ⟨rfl, fun h => absurd rfl h⟩, Nat.le_refl _, Nat.zero_le _⟩
  · simp [Value.cells] at hcs
    obtain ⟨rfl, rfl, rfl⟩ := hcs
    obtain ⟨l, hlz⟩ := as_bytes zs hwz
    have hlen : n ≤ l.length := by
      have h1 : zs.length = l.length := by rw [hlz, List.length_map]
      rw [← h1, hz]
      split <;> omega
    refine ⟨some x, n, c, l.take n, rfl, ⟨by rw [List.length_take]; omega, fun hne => ?_⟩, hl, hm⟩
    have hpos : 0 < zs.length := by
      rw [hlz, List.length_map]
      rcases Nat.eq_zero_or_pos n with h0 | h0
      · subst h0; simp at hne
      · omega
    obtain ⟨b, off, rfl, hcc⟩ := ints_at hcell hpos
    refine ⟨b, off, rfl, World.block_lt_of_cell? W _ (hcc 0 hpos), fun j c' hj => ?_⟩
    have hj2 : l[j]? = some c' := by
      rw [List.getElem?_take] at hj
      split at hj
      · exact hj
      · cases hj
    have hjl : j < zs.length := by rw [hlz, List.length_map]; exact (List.getElem?_eq_some_iff.1 hj2).1
    rw [hcc j hjl, hlz, List.getD_eq_getElem?_getD, List.getElem?_map, hj2]
    rfl
end
end Go.Proofs.YtjblchdfkcbodaaGreatDoor.opens
namespace Go.Proofs.YtjblchdfkcbodaaGreatDoor
open Go.RowKit Go.ChangeShapes

def laid5 : List (String × DataW Unit) := [("math/bits.deBruijn32tab", Rows.laid_math_bits_deBruijn32tab), ("math/bits.deBruijn64tab", Rows.laid_math_bits_deBruijn64tab), ("internal/strconv.uint64pow10", Rows.laid_internal_strconv_uint64pow10), ("strconv.ErrRange", Rows.laid_strconv_ErrRange), ("strconv.ErrSyntax", Rows.laid_strconv_ErrSyntax)]
theorem star : "*" ++ "errors.errorString" = "*errors.errorString" := by decide
theorem one_ptr (u : TypeId) (h : Tryz.prog.typeName? 3 u = some "*errors.errorString") : u = 122 :=
  typeName_ptr_named (nm := "errors.errorString") (by rw [star]; kernel_rfl) (by kernel_rfl) (by decide) u (by rw [star]; exact h)
theorem std_of_laid {W : World} (h : laidMetH Tryz.prog laid5 W) : Std W := by
  rw [MakeChecks.laidMetH_plain _ _ _ (by kernel_rfl)] at h
  have hT : laidMet Tryz.prog (("internal/strconv.uint64pow10", Lib.tabData .u64 Lib.pow10Tab) :: [("strconv.ErrRange", Rows.laid_strconv_ErrRange), ("strconv.ErrSyntax", Rows.laid_strconv_ErrSyntax)]) W := h.tail.tail
  have gT : Tryz.prog.globalNamed "internal/strconv.uint64pow10" = some 1 := by kernel_rfl
  have tab := Lib.tabIs_of_head gT (t := 107) (e := 85) (n := 20) (by kernel_rfl) (by kernel_rfl) (by kernel_rfl) (by kernel_rfl) (by kernel_rfl) hT
  have gR : Tryz.prog.globalNamed "strconv.ErrRange" = some 3 := by kernel_rfl
  have gS : Tryz.prog.globalNamed "strconv.ErrSyntax" = some 2 := by kernel_rfl
  obtain ⟨a0, _, hv0, _⟩ := laid_sentinel hT.tail gR (ti := 80) (by kernel_rfl) Tryz.underlying80 one_ptr Tryz.underlying122 Tryz.underlying124 rfl rfl Tryz.underlying9 (by kernel_rfl) (by kernel_rfl)
  obtain ⟨a1, _, hv1, _⟩ := laid_sentinel hT.tail.tail gS (ti := 80) (by kernel_rfl) Tryz.underlying80 one_ptr Tryz.underlying122 Tryz.underlying124 rfl rfl Tryz.underlying9 (by kernel_rfl) (by kernel_rfl)
  have c0 : W.cell? ⟨3, 0, none⟩ = some (.iface 122 (.pointer (some a0))) := World.var?_cell gR hv0 0
  have c1 : W.cell? ⟨2, 0, none⟩ = some (.iface 122 (.pointer (some a1))) := World.var?_cell gS hv1 0
  have l0 : 3 < W.heap.size := World.block_lt_of_cell? W _ c0
  have l1 : 2 < W.heap.size := World.block_lt_of_cell? W _ c1
  have lT : 1 < W.heap.size := World.block_lt_of_cell? W ⟨1, 0, none⟩ (World.var?_cell gT tab 0)
  refine ⟨⟨⟨_, _, c1⟩, ⟨_, _, c0⟩, by omega, by omega⟩, fun W' hb => ?_⟩
  unfold Lib.TabIs World.var? at *
  rw [gT] at tab ⊢
  simp only [Option.bind_some] at tab ⊢
  rw [hb.block _ lT]
  exact tab
end Go.Proofs.YtjblchdfkcbodaaGreatDoor
namespace Go.Proofs.YtjblchdfkcbodaaGreatDoor.vtextPrints
open Go.ChangeShapes Go.WideShapes Go.ChangeAt Go.RowKit
open Go.ChangeMaps (open_string)
set_option linter.unusedVariables false

theorem own : ownKnob Tryz.prog.godebug = none := by kernel_rfl
theorem laidOut : laidOutB Tryz.prog = true := by kernel_rfl

set_option maxRecDepth 100000 in
theorem lifted (os : Os) (started : os.Started) (H : Type) (enc : TypeId × Value → H) :
    ReturnsInHanded {} Tryz.checked os 3 .any (fun w args => (Rows.vtextPrintsSpec.pre enc Tryz.prog Tryz.f3 [] false w args ∧ laidMetH Tryz.prog laid5 w) ∧ sizedMet enc Tryz.prog Tryz.f3 (OpenSpec.ofChange Rows.vtextPrintsSpec) false w args)
      (Rows.vtextPrintsSpec.post enc Tryz.prog Tryz.f3 false true false false) := by
  refine returnsInHanded_of_change_and (C := Tryz.checked) (X := fun w _ => laidMetH Tryz.prog laid5 w) (fun _ _ _ hh h => h.of_heap hh) own started (by kernel_rfl) Tryz.func3
    (ChangeSpec.witness_shaped (enc := enc) (C := Tryz.checked) (os := os) (X := fun w _ => laidMetH Tryz.prog laid5 w) false (World.laidAll Tryz.prog os laid5) #[.string ByteArray.empty, .agg #[.int .i64 0, .int .i64 0, .string ByteArray.empty, .slice none 0 0, .slice none 0 0]] 8 (World.laidAll_os _ _ _)
      (World.shaped_of_ZipB (by kernel_rfl) (by kernel_rfl)) (by kernel_rfl) (by kernel_rfl) (by kernel_rfl)
      (by rw [MakeChecks.laidMetH_plain _ _ _ (by kernel_rfl)]; exact laidMet_laidAll _ (by kernel_rfl) (by kernel_rfl))) ?_
  intro W base args ds gs before hval0 hW hcnd _ hL _
  have hval : ∀ (j : Nat) t v, Tryz.f3.params[j]? = some t → args[j]? = some v → Value.okWide Tryz.prog W .any base t v := hval0
  have hW' := hW
  obtain ⟨p, q, hA0, hV, rfl, hfz, hnd⟩ := hW
  have hA : DataW.TrodAll enc Tryz.prog W 0 (fun _ => true) true Tryz.f3.params.toList args.toList ds p := hA0
  rw [Tryz.params3] at hA hval
  obtain ⟨v0, vs0, d0, ds0, p0, q0, hargs, rfl, rfl, h0, r0⟩ := trodAll_cons hA
  obtain ⟨v1, vs1, d1, ds1, p1, q1, rfl, rfl, rfl, h1, r1⟩ := trodAll_cons r0
  obtain ⟨rfl, rfl, rfl⟩ := trodAll_nil r1
  obtain rfl : args = #[v0, v1] := by cases args; simp_all
  obtain ⟨rfl, rfl⟩ := trodVars_none hV
  have k0 := h0
  have lt0 : ∀ x ∈ p0, x.block < W.heap.size := by obtain ⟨m, hm⟩ := k0; exact DataW.trod_lt m _ _ _ hm
  obtain ⟨a0, rfl, _, _, w0⟩ := open_string Tryz.underlying9 (hval 0 9 v0 rfl rfl) h0
  have k1 := h1
  have lt1 : ∀ x ∈ p1, x.block < W.heap.size := by obtain ⟨m, hm⟩ := k1; exact DataW.trod_lt m _ _ _ hm
  obtain ⟨x1, m1⟩ := opens.value (hval 1 25 v1 rfl rfl) h1
  clear hA0 hval0
  refine (VtextPrints_walk a0 x1 v1 W w0 m1 (std_of_laid hL)).mono fun e W' ⟨he, bel⟩ => ?_
  subst he
  exact ⟨_, rfl, _, _, _, [], _, [], hW', trodAll_mk1 (shut_bool Tryz.underlying4 _), (trodAll_cons_mk (Below.trod laidOut (by kernel_rfl) (of_decide_eq_true (by kernel_rfl)) k0 bel lt0) (trodAll_cons_mk (Below.trod laidOut (by kernel_rfl) (of_decide_eq_true (by kernel_rfl)) k1 bel lt1) (trodAll_mk0))), rfl, bel.frame _, fun h => by cases h⟩

theorem over : Rows.VtextPrintsSaid :=
  OpenClaim.holds_of_wide 3 Tryz.f3 rfl rfl rfl rfl rfl rfl rfl ⟨rfl, rfl, rfl, rfl, rfl⟩ rfl rfl rfl rfl rfl (by kernel_rfl) Tryz.func3 (by kernel_rfl)
    (of_decide_eq_true (by kernel_rfl)) (by unfold Func.isWrapper; first | (rw [if_pos (by decide +kernel)]; kernel_rfl) | (rw [if_neg (by decide +kernel)]; exact ⟨rfl, rfl⟩))
    (fun os started H enc _ => lifted os started H enc)

theorem proved : Rows.VtextPrintsCardSaid :=
  Claim7.holds_tied_plain_at .later [] [.data, .data, .data, .sentinel, .sentinel] true (true, "fe0d9424112cb371bb1f1ac3ea8c1ad4d7a81c9e75e0a1b0c539368b0408efe8") true
    over (fun _ h => by cases h) (by kernel_rfl) (fun _ h => by cases h) vtextPrints_row_tie rfl ⟨rfl, rfl⟩ (by kernel_rfl) rfl
    (fun f fn hf hfn => by
      obtain rfl : f = 3 := Option.some.inj ((show Tryz.prog.funcNamed "workflow/workflowlaw03.VtextPrints" = some 3 by kernel_rfl).symm.trans hf) |>.symm
      obtain rfl : fn = Tryz.f3 := (Option.some.inj (Tryz.func3.symm.trans hfn)).symm
      exact ⟨by kernel_rfl, fun j t ht => by
          rw [Tryz.params3] at ht
          have h3 : t = 9 ∨ t = 25 := by
            rcases j with _ | _ | j
            · have h4 : t = 9 := by simpa using ht.symm
              subst h4; decide
            · have h4 : t = 25 := by simpa using ht.symm
              subst h4; decide
            · simp at ht
          rcases h3 with rfl | rfl
          · exact (show Tryz.prog.wantsStandIn 9 = false by kernel_rfl)
          · exact (show Tryz.prog.wantsStandIn 25 = false by kernel_rfl)⟩)
    (by kernel_rfl)
end Go.Proofs.YtjblchdfkcbodaaGreatDoor.vtextPrints
