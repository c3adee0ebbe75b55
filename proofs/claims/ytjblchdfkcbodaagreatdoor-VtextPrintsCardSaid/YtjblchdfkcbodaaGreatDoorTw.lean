/-
  Parse's deferred function.
-/
import Derived.Test.YtjblchdfkcbodaaGreatDoorTv
import Derived.Defers
import Derived.Recover
import Derived.Laws.Pointers
namespace Go.Proofs.YtjblchdfkcbodaaGreatDoor
open Go.RowKit

/-- the walk's goal, shut: laid open by no unifier -/
structure WS (P : Program) (ops : Array Oper) (Q : Exit → Act → List Frame → World → Prop) (l : List Nat) (a : Act) (cs : List Frame) (w : World) : Prop where
  out : wpOpsS P ops Q l a cs w
theorem wpOpsS_step {P : Program} {ops : Array Oper} {Q : Exit → Act → List Frame → World → Prop} {i : Nat} {rest : List Nat} {a : Act} {cs : List Frame} {w : World}
    (h : ∀ K : Act → List Frame → World → Prop, (∀ a cs w, WS P ops Q rest a cs w → K a cs w) →
      match ops[i]? with
      | none => K a cs w
      | some o =>
        if Region.wanted o (yielded ops a.tmps) then
          match (execOp a.eval o).run P w with
          | .ok .recover w' =>
            match recoverD cs with
            | some (v, cs') => K (a.put o.dst v) cs' w'
            | none => K (a.put o.dst .nilIface) cs w'
          | r => o.upon P a (fun a' w' => K a' cs w') (fun e a' w' => Q e a' cs w') r
        else K (a.put o.dst undef) cs w) : WS P ops Q (i :: rest) a cs w := ⟨h (fun a cs w => wpOpsS P ops Q rest a cs w) (fun _ _ _ h => h.out)⟩
theorem WS.done {P : Program} {ops : Array Oper} {Q : Exit → Act → List Frame → World → Prop} {a : Act} {cs : List Frame} {w : World} (h : Q .normal a cs w) : WS P ops Q [] a cs w := ⟨h⟩
theorem wpOpsS_gen {P : Program} {ops : Array Oper} {Q : Exit → Act → List Frame → World → Prop} {l : List Nat} {a : Act} {cs : List Frame} {w : World}
    (h : ∀ Q' : Exit → Act → List Frame → World → Prop, (∀ e a cs w, Q e a cs w → Q' e a cs w) → WS P ops Q' l a cs w) : wpOpsS P ops Q l a cs w := (h Q (fun _ _ _ _ h => h)).out
theorem tm3 (a b c : Value) : (#[a, b, c] : Array Value) ++ Array.replicate (16 - (#[a, b, c] : Array Value).size) undef = #[a, b, c, undef, undef, undef, undef, undef, undef, undef, undef, undef, undef, undef, undef, undef] := rfl
theorem ta_nil (w : World) (X : TypeId) : (Instr.typeAssert .nilIface X 44 true).run Tryz.prog w = .ok (.tuple #[.agg #[.int .i64 0, .int .i64 0], .bool false]) w := by
  have hu := Tryz.underlying44
  have hz : (Tryz.prog.info? 44).map (·.zero) = some (some (.agg #[.int .i64 0, .int .i64 0])) := by kernel_rfl
  cases hi : Tryz.prog.info? 44 with
  | none => rw [hi] at hz; cases hz
  | some j =>
    rw [hi] at hz
    simp at hz
    simp [Instr.typeAssert, run_underlying hu, zeroValue, typeInfo, hi, hz]
theorem ta_hit (w : World) (X : TypeId) (v : Value) : (Instr.typeAssert (.iface 44 v) X 44 true).run Tryz.prog w = .ok (.tuple #[v, .bool true]) w := by
  have hu := Tryz.underlying44
  simp [Instr.typeAssert, run_underlying hu]

set_option maxRecDepth 100000 in
set_option maxHeartbeats 1000000 in
theorem catch_idle (q0 q1 q2 : Nat) (w : World) :
    CallsD Tryz.prog 22 #[.pointer (some ⟨q0, 0, none⟩), .pointer (some ⟨q1, 0, none⟩), .pointer (some ⟨q2, 0, none⟩)] .returning w fun e u' w' => e = .returned (.tuple #[]) ∧ u' = .returning ∧ Below w.heap.size w w' := by
  have hta := fun w => ta_nil w 20
  refine callsD_of_wpS Tryz.func22 rfl fun c₀ cs hu => ?_
  apply wpS_seq
  apply wpS_region
  simp only [Tryz.ntmps22]
  refine wpOpsS_gen (fun Q' hQ => ?_)
  change WS _ _ _ [0, 1, 2, 3, 4, 5, 6, 7] _ _ _
  rw [tm3]
  refine wpOpsS_step (fun K hK => ?_)
  simp [go_sem, recoverD, hu]
  refine hK _ _ _ ?_
  clear hK K
  refine wpOpsS_step (fun K hK => ?_)
  go_simp
  refine hK _ _ _ ?_
  clear hK K
  refine wpOpsS_step (fun K hK => ?_)
  go_simp
  refine hK _ _ _ ?_
  clear hK K
  refine wpOpsS_step (fun K hK => ?_)
  go_simp
  refine hK _ _ _ ?_
  clear hK K
  refine wpOpsS_step (fun K hK => ?_)
  go_simp
  refine hK _ _ _ ?_
  clear hK K
  refine wpOpsS_step (fun K hK => ?_)
  go_simp
  refine hK _ _ _ ?_
  clear hK K
  refine wpOpsS_step (fun K hK => ?_)
  go_simp
  refine hK _ _ _ ?_
  clear hK K
  refine wpOpsS_step (fun K hK => ?_)
  go_simp
  refine hK _ _ _ ?_
  clear hK K
  refine WS.done ?_
  refine hQ _ _ _ _ ?_
  clear hQ Q'
  show Exit.thenS _ _ _ _ _ _
  simp only [Exit.thenS]
  refine wpS_of_wp ?_
  go_wp2
  exact ⟨rfl, .returning, by cases c₀; simp_all, .tuple #[], results_none rfl _ _ _, rfl, rfl, (Below.refl _ _).alloc (Nat.le_refl _) _⟩
theorem frs_put5S {S : Nat → Prop} {w : World} {g o : Nat} {a b c d e : Value} (hg : S g) : FrS S w (put5 w g o a b c d e) :=
  ⟨put5_os, put5_tape, put5_output, by rw [put5_size]; exact Nat.le_refl _, fun i _ hn => put5_far (fun e => hn (by rw [e]; exact hg))⟩
/-- behind the deferred function, when a fault was caught -/
def Caught (q0 q1 q2 j : Nat) (c : Int) (w w' : World) : Prop :=
  Bk w' q0 25 #[.int .i64 0, .int .i64 0, .string ⟨#[]⟩, .slice none 0 0, .slice none 0 0] ∧ Bk w' q1 3 #[.int .i64 (j : Nat)] ∧ Bk w' q2 28 #[.int .i64 c] ∧ FrS (Three q0 q1 q2) w w'
set_option maxRecDepth 100000 in
set_option maxHeartbeats 1000000 in
theorem catch_fault (q0 q1 q2 j : Nat) (c : Int) (w : World) (x0 x1 x2 x3 x4 a1 a2 : Value) (n01 : q0 ≠ q1) (n02 : q0 ≠ q2) (n12 : q1 ≠ q2) (hq0 : Bk w q0 25 #[x0, x1, x2, x3, x4]) (hq1 : Bk w q1 3 #[a1]) (hq2 : Bk w q2 28 #[a2]) :
    CallsD Tryz.prog 22 #[.pointer (some ⟨q0, 0, none⟩), .pointer (some ⟨q1, 0, none⟩), .pointer (some ⟨q2, 0, none⟩)] (.panicking [{ v := .iface 44 (.agg #[.int .i64 (j : Nat), .int .i64 c]), recovered := false }]) w fun e u' w' =>
      e = .returned (.tuple #[]) ∧ u' = .panicking [{ v := .iface 44 (.agg #[.int .i64 (j : Nat), .int .i64 c]), recovered := true }] ∧ Caught q0 q1 q2 j c w w' := by
  have hta := fun w v => ta_hit w 20 v
  refine callsD_of_wpS Tryz.func22 rfl fun c₀ cs hu => ?_
  apply wpS_seq
  apply wpS_region
  simp only [Tryz.ntmps22]
  refine wpOpsS_gen (fun Q' hQ => ?_)
  change WS _ _ _ [0, 1, 2, 3, 4, 5, 6, 7] _ _ _
  rw [tm3]
  refine wpOpsS_step (fun K hK => ?_)
  simp [go_sem, recoverD, hu]
  refine hK _ _ _ ?_
  clear hK K
  refine wpOpsS_step (fun K hK => ?_)
  go_simp
  refine hK _ _ _ ?_
  clear hK K
  refine wpOpsS_step (fun K hK => ?_)
  go_simp
  refine hK _ _ _ ?_
  clear hK K
  refine wpOpsS_step (fun K hK => ?_)
  go_simp
  refine hK _ _ _ ?_
  clear hK K
  refine wpOpsS_step (fun K hK => ?_)
  go_simp
  refine hK _ _ _ ?_
  clear hK K
  refine wpOpsS_step (fun K hK => ?_)
  go_simp
  refine hK _ _ _ ?_
  clear hK K
  refine wpOpsS_step (fun K hK => ?_)
  go_simp
  refine hK _ _ _ ?_
  clear hK K
  refine wpOpsS_step (fun K hK => ?_)
  go_simp
  refine hK _ _ _ ?_
  clear hK K
  refine WS.done ?_
  refine hQ _ _ _ _ ?_
  clear hQ Q'
  show Exit.thenS _ _ _ _ _ _
  simp only [Exit.thenS]
  refine wpS_of_wp ?_
  have HQ0 := Lib.hid hq0
  have HQ1 := Lib.hid hq1
  have HQ2 := Lib.hid hq2
  clear hq0 hq1 hq2
  go_upto_region 2 with (fail)
  obtain ⟨w1, hw1⟩ : ∃ w1, w1 = w.alloc (.cells #[.int .i64 (j : Nat), .int .i64 c] 44) := ⟨_, rfl⟩
  have K0 : Hid (Bk w1 q0 25 #[x0, x1, x2, x3, x4]) := Lib.hid (by rw [hw1]; exact HQ0.out.alloc _)
  have K1 : Hid (Bk w1 q1 3 #[a1]) := Lib.hid (by rw [hw1]; exact HQ1.out.alloc _)
  have K2 : Hid (Bk w1 q2 28 #[a2]) := Lib.hid (by rw [hw1]; exact HQ2.out.alloc _)
  have KF : Hid (Bk w1 w.heap.size 44 #[.int .i64 (j : Nat), .int .i64 c]) := Lib.hid (by rw [hw1]; exact Bk.new _ _ _)
  have F1 : Hid (FrS (Three q0 q1 q2) w w1) := Lib.hid (by rw [hw1]; exact FrS.of_below ((Below.refl _ _).alloc (Nat.le_refl _) _))
  obtain ⟨f, hf⟩ : ∃ f, f = w.heap.size := ⟨_, rfl⟩
  have e0 : f ≠ q0 := by have := HQ0.out.lt; omega
  have e1 : f ≠ q1 := by have := HQ1.out.lt; omega
  have e2 : f ≠ q2 := by have := HQ2.out.lt; omega
  rw [← hf] at KF
  rw [← hw1, ← hf]
  clear hw1 hf
  have b0 := KF.out.cell 0
  have b1 := KF.out.cell 1
  change _ = some (Value.int .i64 (j : Nat)) at b0
  change _ = some (Value.int .i64 c) at b1
  have HN : Hid (∀ W, Dr w1 W → Calls Tryz.prog 23 #[] W fun e w' => e = .returned zeroV ∧ Below w1.heap.size w1 w') := Lib.hid (fun W hd => (Null_any W).mono (fun e w' h => ⟨h.1, by
    obtain ⟨k, rfl⟩ := hd
    exact ⟨h.2.os, h.2.tape, h.2.output, h.2.size, h.2.block⟩⟩))
  go_region_law (first
    | (go_simp; go_at_call 23; refine (HN.out _ (by first | exact Dr.drew _ | exact Dr.refl _)).mono ?_; rintro _ wN ⟨rfl, hbN⟩; unfold zeroV; have L0 := Lib.hid (K0.out.below hbN K0.out.lt); have L1 := Lib.hid (K1.out.below hbN K1.out.lt); have L2 := Lib.hid (K2.out.below hbN K2.out.lt); have LF := Lib.hid (KF.out.below hbN KF.out.lt); have g00 := L0.out.cell 0; have g01 := L0.out.cell 1; have g02 := L0.out.cell 2; have g03 := L0.out.cell 3; have g04 := L0.out.cell 4; have g10 := L1.out.cell 0; have g20 := L2.out.cell 0; have gf0 := LF.out.cell 0; have gf1 := LF.out.cell 1; have z00 := L0.out.frozen 0; have z01 := L0.out.frozen 1; have z02 := L0.out.frozen 2; have z03 := L0.out.frozen 3; have z04 := L0.out.frozen 4; have z10 := L1.out.frozen 0; have z20 := L2.out.frozen 0; have HBN := Lib.hid hbN; clear hbN))
  all_goals (
    obtain ⟨wf, hwf⟩ : ∃ wf, wf = ((put5 wN q0 0 (.int .i64 0) (.int .i64 0) (.string ⟨#[]⟩) (.slice none 0 0) (.slice none 0 0)).setCell ⟨q1, 0, none⟩ (.int .i64 (j : Nat))).setCell ⟨q2, 0, none⟩ (.int .i64 c) := ⟨_, rfl⟩
    have FIN : Hid (Caught q0 q1 q2 j c w wf) := Lib.hid (by
      rw [hwf]
      refine ⟨((put5_bk L0.out).far (p := ⟨q1, 0, none⟩) n01 _).far (p := ⟨q2, 0, none⟩) n02 _, ((put5_bk_far L1.out (Ne.symm n01)).put 0 (.int .i64 (j : Nat))).far (p := ⟨q2, 0, none⟩) n12 _, ((put5_bk_far L2.out (Ne.symm n02)).far (p := ⟨q1, 0, none⟩) (Ne.symm n12) _).put 0 (.int .i64 c), ?_⟩
      exact (((F1.out.trans (FrS.of_below HBN.out)).trans (frs_put5S (.inl rfl))).trans (FrS.of_grown (turned _ q1 0 _) (.inr (.inl rfl)))).trans (FrS.of_grown (turned _ q2 0 _) (.inr (.inr rfl))))
    go_wp2
    change bodyPostS _ _ _ _ _ _ _ _ (((put5 wN q0 0 (.int .i64 0) (.int .i64 0) (.string ⟨#[]⟩) (.slice none 0 0) (.slice none 0 0)).setCell ⟨q1, 0, none⟩ (.int .i64 (j : Nat))).setCell ⟨q2, 0, none⟩ (.int .i64 c))
    rw [← hwf]
    clear hwf
    exact ⟨rfl, .panicking [{ v := .iface 44 (.agg #[.int .i64 (j : Nat), .int .i64 c]), recovered := true }], rfl, .tuple #[], results_none rfl _ _ _, rfl, rfl, FIN.out⟩)
end Go.Proofs.YtjblchdfkcbodaaGreatDoor
