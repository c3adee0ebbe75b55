/-
  VtextPrints returns true for every input, and its arguments read afterwards as they read before: what it leans on.
-/
import Derived.Test.YtjblchdfkcbodaaGreatDoorUf
import Derived.Test.YtjblchdfkcbodaaGreatDoorUe
import Derived.Lib.AtoiAll
import Derived.Lib.ItoaNum
import Derived.Lib.ItoaMem
import Derived.Test.YtjblchdfkcbodaaGreatDoorTq
import Derived.Test.YtjblchdfkcbodaaGreatDoorTn
import Derived.Test.YtjblchdfkcbodaaGreatDoorTc
import Derived.Lib.ItoaLen
import Derived.Test.YtjblchdfkcbodaaGreatDoorVcp
import Derived.Test.YtjblchdfkcbodaaGreatDoorVsm
import Derived.Test.YtjblchdfkcbodaaGreatDoorVsr
import Derived.Test.YtjblchdfkcbodaaGreatDoorTb
import Derived.Laws.IdiomStrings
import Derived.Below
import Derived.Lib.Hide
import Derived.Lib.Walk
import Derived.Lib.QuietBelow
import Derived.Test.YtjblchdfkcbodaaGreatDoorVsz
import Derived.Test.YtjblchdfkcbodaaGreatDoorLies
import Derived.Test.YtjblchdfkcbodaaGreatDoorChecked
import Derived.ProofKit
import Derived.OpenShut
import Derived.ChangeOld
namespace Go.Proofs.YtjblchdfkcbodaaGreatDoor
open Go.RowKit

theorem itoa_ne (i : Int) : 1 ≤ (Lib.itoa i).length := by
  unfold Lib.itoa
  split
  · simp
  · have := dec_ne i.toNat
    exact List.length_pos_iff.2 this

set_option maxRecDepth 100000 in
set_option maxHeartbeats 2000000 in
set_option linter.unusedVariables false in
theorem pay_0 (i : Int) (t : ByteArray) (its : List VT) (ks : List ByteArray) (A : Option Addr) (c : Nat) (A' : Option Addr) (c' : Nat) (w : World) (base n0 c0 : Nat) (A0 : Option Addr) (l : List UInt8)
    (hi : -9223372036854775808 ≤ i ∧ i ≤ 9223372036854775807)
    (ho : w.ownsRow base 5 1 (.slice A0 n0 c0) n0 (l.map b8)) (hB : base ≤ w.heap.size) (hn : n0 + 4 * (VT.mk 0 i t its ks).txt.length ≤ 100000000) (hT : PowTab base w) :
    Calls Tryz.prog 18 #[.slice A0 n0 c0, vag 0 i t A its.length c A' ks.length c'] w (AppB base (.slice A0 n0 c0) w (l ++ (VT.mk 0 i t its ks).txt)) := by
  obtain ⟨ti, hti, hz, htz, hby⟩ := info_parts Tryz.infob
  rw [VT.txt_mk] at hn
  have HE := Lib.hid (VT.txt_mk 0 i t its ks)
  rw [if_neg (by decide), if_neg (by decide), if_neg (by decide), if_neg (by decide), if_neg (by decide)] at hn HE
  obtain ⟨w1, hw1⟩ : ∃ w1, w1 = w.alloc (.cells #[.int .i64 0, .int .i64 i, .string t, .slice A its.length c, .slice A' ks.length c'] 25) := ⟨_, rfl⟩
  have G1 : Hid (Grw w (Value.slice A0 n0 c0).ownBlock (Value.slice A0 n0 c0).ownBlock w1) := Lib.hid (by rw [hw1]; exact Grw.new (Grw.refl _ _))
  have O1 : Hid (w1.ownsRow base 5 1 (.slice A0 n0 c0) n0 (l.map b8)) := Lib.hid (by rw [hw1]; exact ho.alloc _)
  have B1 : Hid (base ≤ w1.heap.size) := Lib.hid (Nat.le_trans hB G1.out.1.size)
  have T1 : Hid (PowTab base w1) := Lib.hid (hT.on (Frm.of_grw G1.out ho hB).below)
  have HW := Lib.hid hw1

  clear ho hB hw1 hT hi
  unfold vag
  go_enter Tryz.func18, Tryz.ntmps18
  go_wp2_with (at_builtin; rw [← HW.out]; refine wpList_append_str_at rfl _ _ 38 9 rfl base 5 ti Tryz.underlying38 Tryz.underlying9 hti hz htz hby _ _ _ rfl O1.out ⟨#[110, 117, 108, 108]⟩ rfl ?_ ?_ ?_ ?_)
  · first | omega | (show n0 + 4 ≤ maxLen; unfold maxLen; simp at hn; omega)
  · first | omega | (show n0 + 4 ≤ _; simp at hn; omega)
  · exact B1.out
  · intro v3 w3 ho hg
    have FIN : Hid (AppB base (.slice A0 n0 c0) w (l ++ (VT.mk 0 i t its ks).txt) (.returned v3) w3) := Lib.hid (AppB.mk' (n := n0 + 4) (by rw [HE.out, List.map_append]; exact ho) (G1.out.trans hg))
    clear ho hg
    go_wp2
    go_ret
    exact FIN.out

set_option maxRecDepth 100000 in
set_option maxHeartbeats 2000000 in
set_option linter.unusedVariables false in
theorem pay_6 (i : Int) (t : ByteArray) (its : List VT) (ks : List ByteArray) (A : Option Addr) (c : Nat) (A' : Option Addr) (c' : Nat) (w : World) (base n0 c0 : Nat) (A0 : Option Addr) (l : List UInt8)
    (hi : -9223372036854775808 ≤ i ∧ i ≤ 9223372036854775807)
    (ho : w.ownsRow base 5 1 (.slice A0 n0 c0) n0 (l.map b8)) (hB : base ≤ w.heap.size) (hn : n0 + 4 * (VT.mk 6 i t its ks).txt.length ≤ 100000000) (hT : PowTab base w) :
    Calls Tryz.prog 18 #[.slice A0 n0 c0, vag 6 i t A its.length c A' ks.length c'] w (AppB base (.slice A0 n0 c0) w (l ++ (VT.mk 6 i t its ks).txt)) := by
  obtain ⟨ti, hti, hz, htz, hby⟩ := info_parts Tryz.infob
  rw [VT.txt_mk] at hn
  have HE := Lib.hid (VT.txt_mk 6 i t its ks)
  rw [if_neg (by decide), if_neg (by decide), if_neg (by decide), if_neg (by decide), if_neg (by decide)] at hn HE
  obtain ⟨w1, hw1⟩ : ∃ w1, w1 = w.alloc (.cells #[.int .i64 6, .int .i64 i, .string t, .slice A its.length c, .slice A' ks.length c'] 25) := ⟨_, rfl⟩
  have G1 : Hid (Grw w (Value.slice A0 n0 c0).ownBlock (Value.slice A0 n0 c0).ownBlock w1) := Lib.hid (by rw [hw1]; exact Grw.new (Grw.refl _ _))
  have O1 : Hid (w1.ownsRow base 5 1 (.slice A0 n0 c0) n0 (l.map b8)) := Lib.hid (by rw [hw1]; exact ho.alloc _)
  have B1 : Hid (base ≤ w1.heap.size) := Lib.hid (Nat.le_trans hB G1.out.1.size)
  have T1 : Hid (PowTab base w1) := Lib.hid (hT.on (Frm.of_grw G1.out ho hB).below)
  have HW := Lib.hid hw1

  clear ho hB hw1 hT hi
  unfold vag
  go_enter Tryz.func18, Tryz.ntmps18
  go_wp2_with (at_builtin; rw [← HW.out]; refine wpList_append_str_at rfl _ _ 38 9 rfl base 5 ti Tryz.underlying38 Tryz.underlying9 hti hz htz hby _ _ _ rfl O1.out ⟨#[110, 117, 108, 108]⟩ rfl ?_ ?_ ?_ ?_)
  · first | omega | (show n0 + 4 ≤ maxLen; unfold maxLen; simp at hn; omega)
  · first | omega | (show n0 + 4 ≤ _; simp at hn; omega)
  · exact B1.out
  · intro v3 w3 ho hg
    have FIN : Hid (AppB base (.slice A0 n0 c0) w (l ++ (VT.mk 6 i t its ks).txt) (.returned v3) w3) := Lib.hid (AppB.mk' (n := n0 + 4) (by rw [HE.out, List.map_append]; exact ho) (G1.out.trans hg))
    clear ho hg
    go_wp2
    go_ret
    exact FIN.out

set_option maxRecDepth 100000 in
set_option maxHeartbeats 2000000 in
set_option linter.unusedVariables false in
theorem pay_2 (i : Int) (t : ByteArray) (its : List VT) (ks : List ByteArray) (A : Option Addr) (c : Nat) (A' : Option Addr) (c' : Nat) (w : World) (base n0 c0 : Nat) (A0 : Option Addr) (l : List UInt8)
    (hi : -9223372036854775808 ≤ i ∧ i ≤ 9223372036854775807)
    (ho : w.ownsRow base 5 1 (.slice A0 n0 c0) n0 (l.map b8)) (hB : base ≤ w.heap.size) (hn : n0 + 4 * (VT.mk 2 i t its ks).txt.length ≤ 100000000) (hT : PowTab base w) :
    Calls Tryz.prog 18 #[.slice A0 n0 c0, vag 2 i t A its.length c A' ks.length c'] w (AppB base (.slice A0 n0 c0) w (l ++ (VT.mk 2 i t its ks).txt)) := by
  obtain ⟨ti, hti, hz, htz, hby⟩ := info_parts Tryz.infob
  rw [VT.txt_mk] at hn
  have HE := Lib.hid (VT.txt_mk 2 i t its ks)
  rw [if_neg (by decide), if_pos rfl] at hn HE
  obtain ⟨w1, hw1⟩ : ∃ w1, w1 = w.alloc (.cells #[.int .i64 2, .int .i64 i, .string t, .slice A its.length c, .slice A' ks.length c'] 25) := ⟨_, rfl⟩
  have G1 : Hid (Grw w (Value.slice A0 n0 c0).ownBlock (Value.slice A0 n0 c0).ownBlock w1) := Lib.hid (by rw [hw1]; exact Grw.new (Grw.refl _ _))
  have O1 : Hid (w1.ownsRow base 5 1 (.slice A0 n0 c0) n0 (l.map b8)) := Lib.hid (by rw [hw1]; exact ho.alloc _)
  have B1 : Hid (base ≤ w1.heap.size) := Lib.hid (Nat.le_trans hB G1.out.1.size)
  have T1 : Hid (PowTab base w1) := Lib.hid (hT.on (Frm.of_grw G1.out ho hB).below)
  have HW := Lib.hid hw1
  have hne := itoa_ne i
  have HC := Lib.hid (int_app i base A0 n0 c0 l w1 O1.out B1.out (by omega) hi.1 hi.2 T1.out)
  clear ho hB hw1 hT hi
  unfold vag
  go_enter Tryz.func18, Tryz.ntmps18
  go_wp2_with fail
  rw [← HW.out]
  refine (HC.out).mono ?_
  rintro _ w5 ⟨A5, n5, c5, rfl, hl5, h5, h6, O5, G5⟩
  go_wp2
  go_ret
  exact ⟨A5, n5, c5, rfl, Lib.hid (by rw [HE.out]; exact hl5.out), h5, h6, Lib.hid (by rw [HE.out]; exact O5.out), Lib.hid (G1.out.trans G5.out)⟩

set_option maxRecDepth 100000 in
set_option maxHeartbeats 2000000 in
set_option linter.unusedVariables false in
theorem pay_3 (i : Int) (t : ByteArray) (its : List VT) (ks : List ByteArray) (A : Option Addr) (c : Nat) (A' : Option Addr) (c' : Nat) (w : World) (base n0 c0 : Nat) (A0 : Option Addr) (l : List UInt8)
    (hi : -9223372036854775808 ≤ i ∧ i ≤ 9223372036854775807)
    (ho : w.ownsRow base 5 1 (.slice A0 n0 c0) n0 (l.map b8)) (hB : base ≤ w.heap.size) (hn : n0 + 4 * (VT.mk 3 i t its ks).txt.length ≤ 100000000) (hT : PowTab base w) :
    Calls Tryz.prog 18 #[.slice A0 n0 c0, vag 3 i t A its.length c A' ks.length c'] w (AppB base (.slice A0 n0 c0) w (l ++ (VT.mk 3 i t its ks).txt)) := by
  obtain ⟨ti, hti, hz, htz, hby⟩ := info_parts Tryz.infob
  rw [VT.txt_mk] at hn
  have HE := Lib.hid (VT.txt_mk 3 i t its ks)
  rw [if_neg (by decide), if_neg (by decide), if_pos rfl] at hn HE
  obtain ⟨w1, hw1⟩ : ∃ w1, w1 = w.alloc (.cells #[.int .i64 3, .int .i64 i, .string t, .slice A its.length c, .slice A' ks.length c'] 25) := ⟨_, rfl⟩
  have G1 : Hid (Grw w (Value.slice A0 n0 c0).ownBlock (Value.slice A0 n0 c0).ownBlock w1) := Lib.hid (by rw [hw1]; exact Grw.new (Grw.refl _ _))
  have O1 : Hid (w1.ownsRow base 5 1 (.slice A0 n0 c0) n0 (l.map b8)) := Lib.hid (by rw [hw1]; exact ho.alloc _)
  have B1 : Hid (base ≤ w1.heap.size) := Lib.hid (Nat.le_trans hB G1.out.1.size)
  have T1 : Hid (PowTab base w1) := Lib.hid (hT.on (Frm.of_grw G1.out ho hB).below)
  have HW := Lib.hid hw1
  have hq := quoL_len t.data.toList
  have hqs : t.data.toList.length = t.size := rfl
  have HC := Lib.hid (literal_app base A0 n0 c0 l t w1 O1.out B1.out (by omega))
  clear hq hqs
  clear ho hB hw1 hT hi
  unfold vag
  go_enter Tryz.func18, Tryz.ntmps18
  go_wp2_with fail
  rw [← HW.out]
  refine (HC.out).mono ?_
  rintro _ w5 ⟨A5, n5, c5, rfl, hl5, h5, h6, O5, G5⟩
  go_wp2
  go_ret
  exact ⟨A5, n5, c5, rfl, Lib.hid (by rw [HE.out]; exact hl5.out), h5, h6, Lib.hid (by rw [HE.out]; exact O5.out), Lib.hid (G1.out.trans G5.out)⟩

set_option maxRecDepth 100000 in
set_option maxHeartbeats 2000000 in
set_option linter.unusedVariables false in
theorem pay_1 (i : Int) (t : ByteArray) (its : List VT) (ks : List ByteArray) (A : Option Addr) (c : Nat) (A' : Option Addr) (c' : Nat) (w : World) (base n0 c0 : Nat) (A0 : Option Addr) (l : List UInt8)
    (hi : -9223372036854775808 ≤ i ∧ i ≤ 9223372036854775807)
    (ho : w.ownsRow base 5 1 (.slice A0 n0 c0) n0 (l.map b8)) (hB : base ≤ w.heap.size) (hn : n0 + 4 * (VT.mk 1 i t its ks).txt.length ≤ 100000000) (hT : PowTab base w) :
    Calls Tryz.prog 18 #[.slice A0 n0 c0, vag 1 i t A its.length c A' ks.length c'] w (AppB base (.slice A0 n0 c0) w (l ++ (VT.mk 1 i t its ks).txt)) := by
  obtain ⟨ti, hti, hz, htz, hby⟩ := info_parts Tryz.infob
  rw [VT.txt_mk] at hn
  have HE := Lib.hid (VT.txt_mk 1 i t its ks)
  rw [if_pos rfl] at hn HE
  obtain ⟨w1, hw1⟩ : ∃ w1, w1 = w.alloc (.cells #[.int .i64 1, .int .i64 i, .string t, .slice A its.length c, .slice A' ks.length c'] 25) := ⟨_, rfl⟩
  have G1 : Hid (Grw w (Value.slice A0 n0 c0).ownBlock (Value.slice A0 n0 c0).ownBlock w1) := Lib.hid (by rw [hw1]; exact Grw.new (Grw.refl _ _))
  have O1 : Hid (w1.ownsRow base 5 1 (.slice A0 n0 c0) n0 (l.map b8)) := Lib.hid (by rw [hw1]; exact ho.alloc _)
  have B1 : Hid (base ≤ w1.heap.size) := Lib.hid (Nat.le_trans hB G1.out.1.size)
  have T1 : Hid (PowTab base w1) := Lib.hid (hT.on (Frm.of_grw G1.out ho hB).below)
  have HW := Lib.hid hw1

  clear ho hB hw1 hT hi
  by_cases hb : i = 1
  · subst hb
    have HC := Lib.hid (bool_app true base A0 n0 c0 l w1 O1.out B1.out (by omega))
    have HE : Hid ((VT.mk 1 1 t its ks).txt = boolL true) := Lib.hid HE.out
    unfold vag
    go_enter Tryz.func18, Tryz.ntmps18
    go_wp2_with fail
    rw [← HW.out]
    refine (HC.out).mono ?_
    rintro _ w5 ⟨A5, n5, c5, rfl, hl5, h5, h6, O5, G5⟩
    go_wp2
    go_ret
    exact ⟨A5, n5, c5, rfl, Lib.hid (by rw [HE.out]; exact hl5.out), h5, h6, Lib.hid (by rw [HE.out]; exact O5.out), Lib.hid (G1.out.trans G5.out)⟩
  · have hne : (i == 1) = false := by rw [beq_eq_false_iff_ne]; exact hb
    have HC := Lib.hid (bool_app false base A0 n0 c0 l w1 O1.out B1.out (by omega))
    have HE : Hid ((VT.mk 1 i t its ks).txt = boolL false) := Lib.hid (by rw [HE.out, show decide (i = 1) = false by rw [decide_eq_false_iff_not]; exact hb])
    clear hb
    unfold vag
    go_enter Tryz.func18, Tryz.ntmps18
    go_wp2_with fail
    rw [← HW.out]
    refine (HC.out).mono ?_
    rintro _ w5 ⟨A5, n5, c5, rfl, hl5, h5, h6, O5, G5⟩
    go_wp2
    go_ret
    exact ⟨A5, n5, c5, rfl, Lib.hid (by rw [HE.out]; exact hl5.out), h5, h6, Lib.hid (by rw [HE.out]; exact O5.out), Lib.hid (G1.out.trans G5.out)⟩
end Go.Proofs.YtjblchdfkcbodaaGreatDoor
namespace Go.Proofs.YtjblchdfkcbodaaGreatDoor
open Go.RowKit

theorem step_append_b8_at {P : Program} {w : World} {ops : Array Oper} {o : Oper} {a : Act} {K : Act → World → Prop} {Q : Exit → Act → World → Prop} {E : Prop} (hgd : o.guard = none) (s x : Operand) (t : TypeId)
    (ho : o.op = .call { callee := .builtin .append, args := #[s, x], argTypes := #[t, t] })
    (base e : Nat) (i : TypeInfo) (z : Value) (ht : P.underlying t = some (.slice e)) (hi : P.info? e = some i) (hz : i.zero = some z)
    (hsize : i.size = 1) (hby : i.bytes = 1) (hzs : z.cells.size = 1)
    (v : Value) (n : Nat) (xs : List Value) (hs : a.eval s = v) (hown : w.ownsRow base e 1 v n xs)
    (B : Nat) (A : Addr) (m c : Nat) (l : List UInt8) (hx : a.eval x = .slice (some A) m c) (hr : Rb w B (some A) m l) (hl : l ≠ [])
    (hbytes : n + m ≤ 140737488355328) (hbase : base ≤ w.heap.size)
    (h : ∀ v' w', w'.ownsRow base e 1 v' (n + m) (xs ++ l.map b8) → Grw w v.ownBlock v'.ownBlock w' → K (a.put o.dst v') w') :
    if Region.wanted o (yielded ops a.tmps) = true then Oper.wp P o a w K Q else E := by
  obtain ⟨v', w', hrun, h2, h3⟩ := run_append_b8_at (P := P) w base t o.type e i z ht hi hz hsize hby hzs v n xs hown B A m c l hr hl hbytes hbase
  have hw : Region.wanted o (yielded ops a.tmps) = true := by simp [Region.wanted, hgd]
  rw [if_pos hw]
  unfold Oper.wp execOp
  simp only [ho, resolve, invoke, builtin, Sem.run_bind, Sem.run_pure, Result.andThen_ok, List.map_toArray, List.map_cons, List.map_nil, hs, hx, hrun]
  exact h v' w' h2 h3
theorem lit_a (w : World) (o p : Obj) : ((w.alloc o).alloc p).heap[w.heap.size]? = some o := by
  rw [Below.heap_alloc (w.alloc o) p w.heap.size (by rw [World.size_alloc]; omega)]
  exact heap_alloc_new w o
theorem lit_b (w : World) (o p : Obj) : ((w.alloc o).alloc p).heap[w.heap.size + 1]? = some p := by
  have := heap_alloc_new (w.alloc o) p
  rwa [World.size_alloc] at this
/-- a block of one byte, read as a row -/
theorem Rb.block {w : World} {b : Nat} {x : UInt8} (h : w.heap[b]? = some (.cells #[.int .u8 (x.toNat : Int)] 5 (0, 0))) : Rb w (b + 1) (some ⟨b, 0, none⟩) 1 [x] :=
  ⟨rfl, fun _ => ⟨b, 0, rfl, by omega, fun j c hj => by
    cases j with
    | zero =>
      simp at hj
      subst hj
      rw [cell_of_row w b (0 + 0) _ 5 (0, 0) h]
      rfl
    | succ j => simp at hj⟩⟩

set_option maxRecDepth 100000 in
set_option maxHeartbeats 4000000 in
set_option linter.unusedVariables false in
theorem pay_4 (m : Nat) (IH : Hid (TxtUpto m)) (i : Int) (t : ByteArray) (its : List VT) (ks : List ByteArray) (A : Option Addr) (c : Nat) (A' : Option Addr) (c' : Nat) (w : World) (base n0 c0 : Nat) (A0 : Option Addr) (l : List UInt8)
    (hL : LiesL w (fun b => b < base) A 0 its) (hS : LiesS w (fun b => b < base) A' ks) (hk : 4 = 5 → ks.length = its.length) (hkc : ks.length ≤ c') (hcm' : c' ≤ 9223372036854775807) (h1 : its.length ≤ c) (h2 : c ≤ 9223372036854775807) (hsz : sizes its ≤ m) (hw : alls okF its = true)
    (ho : w.ownsRow base 5 1 (.slice A0 n0 c0) n0 (l.map b8)) (hB : base ≤ w.heap.size) (hn : n0 + 4 * (VT.mk 4 i t its ks).txt.length ≤ 100000000) (hT : PowTab base w) :
    Calls Tryz.prog 18 #[.slice A0 n0 c0, vag 4 i t A its.length c A' ks.length c'] w (AppB base (.slice A0 n0 c0) w (l ++ (VT.mk 4 i t its ks).txt)) := by
  obtain ⟨ti, hti, hz, htz, hby⟩ := info_parts Tryz.infob
  have he : (VT.mk 4 i t its ks).txt = 91 :: (txts false true its ks ++ [93]) := by
    rw [VT.txt_mk, if_neg (by decide), if_neg (by decide), if_neg (by decide), if_pos rfl]
  rw [he] at hn ⊢
  have hnn : n0 + 8 + 4 * (txts false true its ks).length ≤ 100000000 := by simp at hn; omega
  clear he hn
  obtain ⟨w1, hw1⟩ : ∃ w1, w1 = w.alloc (.cells #[.int .i64 4, .int .i64 i, .string t, .slice A its.length c, .slice A' ks.length c'] 25) := ⟨_, rfl⟩
  have G1 : Hid (Grw w (Value.slice A0 n0 c0).ownBlock (Value.slice A0 n0 c0).ownBlock w1) := Lib.hid (by rw [hw1]; exact Grw.new (Grw.refl _ _))
  have O1 : Hid (w1.ownsRow base 5 1 (.slice A0 n0 c0) n0 (l.map b8)) := Lib.hid (by rw [hw1]; exact ho.alloc _)
  have P1 : Hid (Bk w1 w.heap.size 25 #[.int .i64 4, .int .i64 i, .string t, .slice A its.length c, .slice A' ks.length c']) := Lib.hid (by rw [hw1]; exact Bk.new _ _ _)
  have B1 : Hid (base ≤ w1.heap.size) := Lib.hid (Nat.le_trans hB G1.out.1.size)
  have F1 : Hid (Frm base w w1) := Lib.hid (Frm.of_grw G1.out ho hB)
  have NB : Hid (∀ b, (Value.slice A0 n0 c0).ownBlock = some b → b < w1.heap.size) := Lib.hid (fun b hb => (O1.out.lt b hb).2)
  have HCALL : Hid (∀ (W : World) (A2 : Option Addr) (n2 c2 : Nat) (L : List UInt8), Frm base w W → W.ownsRow base 5 1 (.slice A2 n2 c2) n2 (L.map b8) → base ≤ W.heap.size → n2 ≤ n0 + 1 → Calls Tryz.prog 39 #[.slice A2 n2 c2, vag 4 i t A its.length c A' ks.length c'] W (AppB base (.slice A2 n2 c2) W (L ++ txts false true its ks))) :=
    Lib.hid (fun W A2 n2 c2 L hf ho2 hb2 hn2 => elems_4 m IH i t its ks A c A' c' W base n2 c2 A2 L (hL.keep (fun p hp => hf.below.cell hp) (fun _ h => h)) h1 h2 hsz hw ho2 hb2 (by omega) (hT.on hf.below))
  have HW := Lib.hid hw1
  have SZ : Hid (w.heap.size < w1.heap.size) := Lib.hid P1.out.lt
  clear hL hS hk hw ho hB hT IH hw1
  have p0 := P1.out.cell 0
  have p1 := P1.out.cell 1
  have p2 := P1.out.cell 2
  have p3 := P1.out.cell 3
  have p4 := P1.out.cell 4
  rw [HW.out] at p0 p1 p2 p3 p4
  unfold vag at *
  go_enter Tryz.func18, Tryz.ntmps18
  go_upto_region 9 with (fail)
  rw [← HW.out]
  rw [← HW.out] at p0 p1 p2 p3 p4
  clear HW
  have sz1 : w.heap.size < w1.heap.size := SZ.out
  go_region_law (first | (refine step_append_b8_at rfl _ _ _ (by rfl) base 5 ti (.int .u8 0) Tryz.underlying38 hti hz htz hby rfl (.slice A0 n0 c0) n0 (l.map b8) (by rfl) (by first | exact (O1.out.alloc _).drew | exact O1.out.drew.alloc _ | exact O1.out.alloc _) (w1.heap.size + 1) ⟨w1.heap.size, 0, none⟩ 1 1 [91] (by rfl) (Rb.block (x := 91) (by first | exact heap_alloc_new w1 _ | exact heap_alloc_new w1.drew _)) (by simp) (by omega) (by have := B1.out; simp; omega) ?_; intro v3 w3 ho3 hg3; have G3' : Grw w1 (Value.slice A0 n0 c0).ownBlock v3.ownBlock w3 := (by first | exact Grw.new (Grw.drew hg3) | exact Grw.drew (Grw.new hg3) | exact Grw.new hg3); obtain ⟨A3, c3, rfl, h31, h32⟩ := own_form ho3; have O3 : Hid (w3.ownsRow base 5 1 (.slice A3 (n0 + 1) c3) (n0 + 1) ((l ++ [91]).map b8)) := Lib.hid (by rw [List.map_append]; exact ho3); have G3 := Lib.hid G3'; have F3 := Lib.hid (Frm.of_grw G3' O1.out B1.out); have FF3 := Lib.hid (F1.out.trans F3.out); have P3 := Lib.hid (F3.out.keep _ _ _ P1.out (by decide)); have false3 : Hid (base ≤ w3.heap.size) := Lib.hid (Nat.le_trans B1.out G3'.1.size); have q0 := P3.out.cell 0; have q1 := P3.out.cell 1; have q2 := P3.out.cell 2; have q3 := P3.out.cell 3; have q4 := P3.out.cell 4; have sz3 : w.heap.size < w3.heap.size := P3.out.lt; clear G3' ho3 hg3) | (refine step_append_b8_at rfl _ _ _ (by rfl) base 5 ti (.int .u8 0) Tryz.underlying38 hti hz htz hby rfl (.slice A0 n0 c0) n0 (l.map b8) (by rfl) (by first | exact ((O1.out.alloc _).alloc _).drew | exact (O1.out.drew.alloc _).alloc _ | exact (O1.out.alloc _).alloc _) (w1.heap.size + 1) ⟨w1.heap.size, 0, none⟩ 1 1 [91] (by rfl) (Rb.block (x := 91) (by first | exact lit_a w1 _ _ | exact lit_a w1.drew _ _)) (by simp) (by omega) (by have := B1.out; simp; omega) ?_; intro v3 w3 ho3 hg3; have G3' : Grw w1 (Value.slice A0 n0 c0).ownBlock v3.ownBlock w3 := (by first | exact Grw.new (Grw.new (Grw.drew hg3)) | exact Grw.drew (Grw.new (Grw.new hg3)) | exact Grw.new (Grw.new hg3)); have BK3 : Hid (w3.heap[w1.heap.size + 1]? = some (.cells #[.int .u8 93] 5 (0, 0)) ∧ v3.ownBlock ≠ some (w1.heap.size + 1)) := Lib.hid ⟨(hg3.1.block (w1.heap.size + 1) (by simp; try omega) (by intro e; have := NB.out _ e.symm; omega)).trans (by first | exact lit_b w1 _ _ | exact lit_b w1.drew _ _), by intro e; rcases hg3.2 _ e with h | h; have := NB.out _ h; omega; simp at h; omega⟩; obtain ⟨A3, c3, rfl, h31, h32⟩ := own_form ho3; have O3 : Hid (w3.ownsRow base 5 1 (.slice A3 (n0 + 1) c3) (n0 + 1) ((l ++ [91]).map b8)) := Lib.hid (by rw [List.map_append]; exact ho3); have G3 := Lib.hid G3'; have F3 := Lib.hid (Frm.of_grw G3' O1.out B1.out); have FF3 := Lib.hid (F1.out.trans F3.out); have P3 := Lib.hid (F3.out.keep _ _ _ P1.out (by decide)); have false3 : Hid (base ≤ w3.heap.size) := Lib.hid (Nat.le_trans B1.out G3'.1.size); have q0 := P3.out.cell 0; have q1 := P3.out.cell 1; have q2 := P3.out.cell 2; have q3 := P3.out.cell 3; have q4 := P3.out.cell 4; have sz3 : w.heap.size < w3.heap.size := P3.out.lt; clear G3' ho3 hg3) | (refine step_append_b8_at rfl _ _ _ (by rfl) base 5 ti (.int .u8 0) Tryz.underlying38 hti hz htz hby rfl (.slice A0 n0 c0) n0 (l.map b8) (by rfl) (by first | exact ((O1.out.alloc _).alloc _).drew | exact (O1.out.drew.alloc _).alloc _ | exact (O1.out.alloc _).alloc _) (w1.heap.size + 1 + 1) ⟨w1.heap.size + 1, 0, none⟩ 1 1 [91] (by rfl) (Rb.block (x := 91) (by first | exact lit_b w1 _ _ | exact lit_b w1.drew _ _)) (by simp) (by omega) (by have := B1.out; simp; omega) ?_; intro v3 w3 ho3 hg3; have G3' : Grw w1 (Value.slice A0 n0 c0).ownBlock v3.ownBlock w3 := (by first | exact Grw.new (Grw.new (Grw.drew hg3)) | exact Grw.drew (Grw.new (Grw.new hg3)) | exact Grw.new (Grw.new hg3)); have BK3 : Hid (w3.heap[w1.heap.size]? = some (.cells #[.int .u8 93] 5 (0, 0)) ∧ v3.ownBlock ≠ some (w1.heap.size)) := Lib.hid ⟨(hg3.1.block (w1.heap.size) (by simp; try omega) (by intro e; have := NB.out _ e.symm; omega)).trans (by first | exact lit_a w1 _ _ | exact lit_a w1.drew _ _), by intro e; rcases hg3.2 _ e with h | h; have := NB.out _ h; omega; simp at h; omega⟩; obtain ⟨A3, c3, rfl, h31, h32⟩ := own_form ho3; have O3 : Hid (w3.ownsRow base 5 1 (.slice A3 (n0 + 1) c3) (n0 + 1) ((l ++ [91]).map b8)) := Lib.hid (by rw [List.map_append]; exact ho3); have G3 := Lib.hid G3'; have F3 := Lib.hid (Frm.of_grw G3' O1.out B1.out); have FF3 := Lib.hid (F1.out.trans F3.out); have P3 := Lib.hid (F3.out.keep _ _ _ P1.out (by decide)); have false3 : Hid (base ≤ w3.heap.size) := Lib.hid (Nat.le_trans B1.out G3'.1.size); have q0 := P3.out.cell 0; have q1 := P3.out.cell 1; have q2 := P3.out.cell 2; have q3 := P3.out.cell 3; have q4 := P3.out.cell 4; have sz3 : w.heap.size < w3.heap.size := P3.out.lt; clear G3' ho3 hg3) | (go_simp; go_at_call 39; refine (HCALL.out _ A3 (n0 + 1) c3 (l ++ [91]) (by first | exact FF3.out | exact FF3.out.trans (Frm.of_below (below_one _ _) false3.out)) (by first | exact O3.out | exact O3.out.alloc _) (by first | exact false3.out | (rw [World.size_alloc]; exact Nat.le_succ_of_le false3.out)) (Nat.le_refl _)).mono ?_; rintro _ w4 ⟨A4, n4, c4, rfl, hl4, h41, h42, O4, G4⟩; have G34 : Hid (Grw w1 (Value.slice A0 n0 c0).ownBlock (Value.slice A4 n4 c4).ownBlock w4) := Lib.hid (by first | exact G3.out.trans G4.out | exact G3.out.trans (Grw.new G4.out)); have false4 : Hid (base ≤ w4.heap.size) := Lib.hid (Nat.le_trans B1.out G34.out.1.size); have hn4 : n4 ≤ 100000000 := (by have e1 := hl4.out; have e2 := own_len O1.out; simp at e1 e2; omega); first | (have BK4 : Hid (w4.heap[w1.heap.size + 1]? = some (.cells #[.int .u8 93] 5 (0, 0))) := Lib.hid ((G4.out.1.block (w1.heap.size + 1) (Nat.lt_of_not_le (fun hh => by have e := BK3.out.1; rw [Array.getElem?_eq_none hh] at e; cases e)) (Ne.symm BK3.out.2)).trans BK3.out.1)) | (have BK4 : Hid (w4.heap[w1.heap.size]? = some (.cells #[.int .u8 93] 5 (0, 0))) := Lib.hid ((G4.out.1.block w1.heap.size (Nat.lt_of_not_le (fun hh => by have e := BK3.out.1; rw [Array.getElem?_eq_none hh] at e; cases e)) (Ne.symm BK3.out.2)).trans BK3.out.1)) | (have BK4 : Hid (w4.heap[w3.heap.size]? = some (.cells #[.int .u8 93] 5 (0, 0))) := Lib.hid ((G4.out.1.block w3.heap.size (by simp) (by intro e; have := (O3.out.lt _ e.symm).2; omega)).trans (by first | exact heap_alloc_new w3 _ | exact heap_alloc_new w3.drew _))) | skip) | (refine step_append_b8_at rfl _ _ _ (by rfl) base 5 ti (.int .u8 0) Tryz.underlying38 hti hz htz hby rfl (.slice A4 n4 c4) n4 ((l ++ [91] ++ txts false true its ks).map b8) (by rfl) (by first | exact O4.out.alloc _) (w4.heap.size + 1) ⟨w4.heap.size, 0, none⟩ 1 1 [93] (by rfl) (Rb.block (x := 93) (by first | exact heap_alloc_new w4 _)) (by simp) (by omega) (by have := false4.out; first | exact this | (simp; omega)) ?_; intro v5 w5 ho5 hg5; have FIN : Hid (AppB base (.slice A0 n0 c0) w (l ++ 91 :: (txts false true its ks ++ [93])) (.returned v5) w5) := Lib.hid (AppB.mk' (n := n4 + 1) (by rw [show l ++ 91 :: (txts false true its ks ++ [93]) = (l ++ [91] ++ txts false true its ks) ++ [93] by simp, List.map_append]; exact ho5) (G1.out.trans (G34.out.trans (by first | exact hg5 | exact hg5.new)))); clear ho5 hg5) | (refine step_append_b8_at rfl _ _ _ (by rfl) base 5 ti (.int .u8 0) Tryz.underlying38 hti hz htz hby rfl (.slice A4 n4 c4) n4 ((l ++ [91] ++ txts false true its ks).map b8) (by rfl) (by first | exact O4.out) (w1.heap.size + 1 + 1) ⟨w1.heap.size + 1, 0, none⟩ 1 1 [93] (by rfl) (Rb.block (x := 93) (by first | exact BK4.out)) (by simp) (by omega) (by have := false4.out; first | exact this | (simp; omega)) ?_; intro v5 w5 ho5 hg5; have FIN : Hid (AppB base (.slice A0 n0 c0) w (l ++ 91 :: (txts false true its ks ++ [93])) (.returned v5) w5) := Lib.hid (AppB.mk' (n := n4 + 1) (by rw [show l ++ 91 :: (txts false true its ks ++ [93]) = (l ++ [91] ++ txts false true its ks) ++ [93] by simp, List.map_append]; exact ho5) (G1.out.trans (G34.out.trans (by first | exact hg5 | exact hg5.new)))); clear ho5 hg5) | (refine step_append_b8_at rfl _ _ _ (by rfl) base 5 ti (.int .u8 0) Tryz.underlying38 hti hz htz hby rfl (.slice A4 n4 c4) n4 ((l ++ [91] ++ txts false true its ks).map b8) (by rfl) (by first | exact O4.out) (w1.heap.size + 1) ⟨w1.heap.size, 0, none⟩ 1 1 [93] (by rfl) (Rb.block (x := 93) (by first | exact BK4.out)) (by simp) (by omega) (by have := false4.out; first | exact this | (simp; omega)) ?_; intro v5 w5 ho5 hg5; have FIN : Hid (AppB base (.slice A0 n0 c0) w (l ++ 91 :: (txts false true its ks ++ [93])) (.returned v5) w5) := Lib.hid (AppB.mk' (n := n4 + 1) (by rw [show l ++ 91 :: (txts false true its ks ++ [93]) = (l ++ [91] ++ txts false true its ks) ++ [93] by simp, List.map_append]; exact ho5) (G1.out.trans (G34.out.trans (by first | exact hg5 | exact hg5.new)))); clear ho5 hg5) | (refine step_append_b8_at rfl _ _ _ (by rfl) base 5 ti (.int .u8 0) Tryz.underlying38 hti hz htz hby rfl (.slice A4 n4 c4) n4 ((l ++ [91] ++ txts false true its ks).map b8) (by rfl) (by first | exact O4.out) (w3.heap.size + 1) ⟨w3.heap.size, 0, none⟩ 1 1 [93] (by rfl) (Rb.block (x := 93) (by first | exact BK4.out)) (by simp) (by omega) (by have := false4.out; first | exact this | (simp; omega)) ?_; intro v5 w5 ho5 hg5; have FIN : Hid (AppB base (.slice A0 n0 c0) w (l ++ 91 :: (txts false true its ks ++ [93])) (.returned v5) w5) := Lib.hid (AppB.mk' (n := n4 + 1) (by rw [show l ++ 91 :: (txts false true its ks ++ [93]) = (l ++ [91] ++ txts false true its ks) ++ [93] by simp, List.map_append]; exact ho5) (G1.out.trans (G34.out.trans (by first | exact hg5 | exact hg5.new)))); clear ho5 hg5))
  all_goals (
    try go_wp2
    go_ret
    exact FIN.out)
end Go.Proofs.YtjblchdfkcbodaaGreatDoor
namespace Go.Proofs.YtjblchdfkcbodaaGreatDoor
open Go.RowKit

set_option maxRecDepth 100000 in
set_option maxHeartbeats 4000000 in
set_option linter.unusedVariables false in
theorem pay_5 (m : Nat) (IH : Hid (TxtUpto m)) (i : Int) (t : ByteArray) (its : List VT) (ks : List ByteArray) (A : Option Addr) (c : Nat) (A' : Option Addr) (c' : Nat) (w : World) (base n0 c0 : Nat) (A0 : Option Addr) (l : List UInt8)
    (hL : LiesL w (fun b => b < base) A 0 its) (hS : LiesS w (fun b => b < base) A' ks) (hk : 5 = 5 → ks.length = its.length) (hkc : ks.length ≤ c') (hcm' : c' ≤ 9223372036854775807) (h1 : its.length ≤ c) (h2 : c ≤ 9223372036854775807) (hsz : sizes its ≤ m) (hw : alls okF its = true)
    (ho : w.ownsRow base 5 1 (.slice A0 n0 c0) n0 (l.map b8)) (hB : base ≤ w.heap.size) (hn : n0 + 4 * (VT.mk 5 i t its ks).txt.length ≤ 100000000) (hT : PowTab base w) :
    Calls Tryz.prog 18 #[.slice A0 n0 c0, vag 5 i t A its.length c A' ks.length c'] w (AppB base (.slice A0 n0 c0) w (l ++ (VT.mk 5 i t its ks).txt)) := by
  obtain ⟨ti, hti, hz, htz, hby⟩ := info_parts Tryz.infob
  have he : (VT.mk 5 i t its ks).txt = 123 :: (txts true true its ks ++ [125]) := by
    rw [VT.txt_mk, if_neg (by decide), if_neg (by decide), if_neg (by decide), if_neg (by decide), if_pos rfl]
  rw [he] at hn ⊢
  have hnn : n0 + 8 + 4 * (txts true true its ks).length ≤ 100000000 := by simp at hn; omega
  clear he hn
  obtain ⟨w1, hw1⟩ : ∃ w1, w1 = w.alloc (.cells #[.int .i64 5, .int .i64 i, .string t, .slice A its.length c, .slice A' ks.length c'] 25) := ⟨_, rfl⟩
  have G1 : Hid (Grw w (Value.slice A0 n0 c0).ownBlock (Value.slice A0 n0 c0).ownBlock w1) := Lib.hid (by rw [hw1]; exact Grw.new (Grw.refl _ _))
  have O1 : Hid (w1.ownsRow base 5 1 (.slice A0 n0 c0) n0 (l.map b8)) := Lib.hid (by rw [hw1]; exact ho.alloc _)
  have P1 : Hid (Bk w1 w.heap.size 25 #[.int .i64 5, .int .i64 i, .string t, .slice A its.length c, .slice A' ks.length c']) := Lib.hid (by rw [hw1]; exact Bk.new _ _ _)
  have B1 : Hid (base ≤ w1.heap.size) := Lib.hid (Nat.le_trans hB G1.out.1.size)
  have F1 : Hid (Frm base w w1) := Lib.hid (Frm.of_grw G1.out ho hB)
  have NB : Hid (∀ b, (Value.slice A0 n0 c0).ownBlock = some b → b < w1.heap.size) := Lib.hid (fun b hb => (O1.out.lt b hb).2)
  have HCALL : Hid (∀ (W : World) (A2 : Option Addr) (n2 c2 : Nat) (L : List UInt8), Frm base w W → W.ownsRow base 5 1 (.slice A2 n2 c2) n2 (L.map b8) → base ≤ W.heap.size → n2 ≤ n0 + 1 → Calls Tryz.prog 39 #[.slice A2 n2 c2, vag 5 i t A its.length c A' ks.length c'] W (AppB base (.slice A2 n2 c2) W (L ++ txts true true its ks))) :=
    Lib.hid (fun W A2 n2 c2 L hf ho2 hb2 hn2 => elems_5 m IH i t its ks A c A' c' W base n2 c2 A2 L (hL.keep (fun p hp => hf.below.cell hp) (fun _ h => h)) (hS.keep (fun p hp => hf.below.cell hp) (fun _ h => h)) (hk rfl) hkc hcm' h1 h2 hsz hw ho2 hb2 (by omega) (hT.on hf.below))
  have HW := Lib.hid hw1
  have SZ : Hid (w.heap.size < w1.heap.size) := Lib.hid P1.out.lt
  clear hL hS hk hw ho hB hT IH hw1
  have p0 := P1.out.cell 0
  have p1 := P1.out.cell 1
  have p2 := P1.out.cell 2
  have p3 := P1.out.cell 3
  have p4 := P1.out.cell 4
  rw [HW.out] at p0 p1 p2 p3 p4
  unfold vag at *
  go_enter Tryz.func18, Tryz.ntmps18
  go_upto_region 11 with (fail)
  rw [← HW.out]
  rw [← HW.out] at p0 p1 p2 p3 p4
  clear HW
  have sz1 : w.heap.size < w1.heap.size := SZ.out
  go_region_law (first | (refine step_append_b8_at rfl _ _ _ (by rfl) base 5 ti (.int .u8 0) Tryz.underlying38 hti hz htz hby rfl (.slice A0 n0 c0) n0 (l.map b8) (by rfl) (by first | exact (O1.out.alloc _).drew | exact O1.out.drew.alloc _ | exact O1.out.alloc _) (w1.heap.size + 1) ⟨w1.heap.size, 0, none⟩ 1 1 [123] (by rfl) (Rb.block (x := 123) (by first | exact heap_alloc_new w1 _ | exact heap_alloc_new w1.drew _)) (by simp) (by omega) (by have := B1.out; simp; omega) ?_; intro v3 w3 ho3 hg3; have G3' : Grw w1 (Value.slice A0 n0 c0).ownBlock v3.ownBlock w3 := (by first | exact Grw.new (Grw.drew hg3) | exact Grw.drew (Grw.new hg3) | exact Grw.new hg3); obtain ⟨A3, c3, rfl, h31, h32⟩ := own_form ho3; have O3 : Hid (w3.ownsRow base 5 1 (.slice A3 (n0 + 1) c3) (n0 + 1) ((l ++ [123]).map b8)) := Lib.hid (by rw [List.map_append]; exact ho3); have G3 := Lib.hid G3'; have F3 := Lib.hid (Frm.of_grw G3' O1.out B1.out); have FF3 := Lib.hid (F1.out.trans F3.out); have P3 := Lib.hid (F3.out.keep _ _ _ P1.out (by decide)); have true3 : Hid (base ≤ w3.heap.size) := Lib.hid (Nat.le_trans B1.out G3'.1.size); have q0 := P3.out.cell 0; have q1 := P3.out.cell 1; have q2 := P3.out.cell 2; have q3 := P3.out.cell 3; have q4 := P3.out.cell 4; have sz3 : w.heap.size < w3.heap.size := P3.out.lt; clear G3' ho3 hg3) | (refine step_append_b8_at rfl _ _ _ (by rfl) base 5 ti (.int .u8 0) Tryz.underlying38 hti hz htz hby rfl (.slice A0 n0 c0) n0 (l.map b8) (by rfl) (by first | exact ((O1.out.alloc _).alloc _).drew | exact (O1.out.drew.alloc _).alloc _ | exact (O1.out.alloc _).alloc _) (w1.heap.size + 1) ⟨w1.heap.size, 0, none⟩ 1 1 [123] (by rfl) (Rb.block (x := 123) (by first | exact lit_a w1 _ _ | exact lit_a w1.drew _ _)) (by simp) (by omega) (by have := B1.out; simp; omega) ?_; intro v3 w3 ho3 hg3; have G3' : Grw w1 (Value.slice A0 n0 c0).ownBlock v3.ownBlock w3 := (by first | exact Grw.new (Grw.new (Grw.drew hg3)) | exact Grw.drew (Grw.new (Grw.new hg3)) | exact Grw.new (Grw.new hg3)); have BK3 : Hid (w3.heap[w1.heap.size + 1]? = some (.cells #[.int .u8 125] 5 (0, 0)) ∧ v3.ownBlock ≠ some (w1.heap.size + 1)) := Lib.hid ⟨(hg3.1.block (w1.heap.size + 1) (by simp; try omega) (by intro e; have := NB.out _ e.symm; omega)).trans (by first | exact lit_b w1 _ _ | exact lit_b w1.drew _ _), by intro e; rcases hg3.2 _ e with h | h; have := NB.out _ h; omega; simp at h; omega⟩; obtain ⟨A3, c3, rfl, h31, h32⟩ := own_form ho3; have O3 : Hid (w3.ownsRow base 5 1 (.slice A3 (n0 + 1) c3) (n0 + 1) ((l ++ [123]).map b8)) := Lib.hid (by rw [List.map_append]; exact ho3); have G3 := Lib.hid G3'; have F3 := Lib.hid (Frm.of_grw G3' O1.out B1.out); have FF3 := Lib.hid (F1.out.trans F3.out); have P3 := Lib.hid (F3.out.keep _ _ _ P1.out (by decide)); have true3 : Hid (base ≤ w3.heap.size) := Lib.hid (Nat.le_trans B1.out G3'.1.size); have q0 := P3.out.cell 0; have q1 := P3.out.cell 1; have q2 := P3.out.cell 2; have q3 := P3.out.cell 3; have q4 := P3.out.cell 4; have sz3 : w.heap.size < w3.heap.size := P3.out.lt; clear G3' ho3 hg3) | (refine step_append_b8_at rfl _ _ _ (by rfl) base 5 ti (.int .u8 0) Tryz.underlying38 hti hz htz hby rfl (.slice A0 n0 c0) n0 (l.map b8) (by rfl) (by first | exact ((O1.out.alloc _).alloc _).drew | exact (O1.out.drew.alloc _).alloc _ | exact (O1.out.alloc _).alloc _) (w1.heap.size + 1 + 1) ⟨w1.heap.size + 1, 0, none⟩ 1 1 [123] (by rfl) (Rb.block (x := 123) (by first | exact lit_b w1 _ _ | exact lit_b w1.drew _ _)) (by simp) (by omega) (by have := B1.out; simp; omega) ?_; intro v3 w3 ho3 hg3; have G3' : Grw w1 (Value.slice A0 n0 c0).ownBlock v3.ownBlock w3 := (by first | exact Grw.new (Grw.new (Grw.drew hg3)) | exact Grw.drew (Grw.new (Grw.new hg3)) | exact Grw.new (Grw.new hg3)); have BK3 : Hid (w3.heap[w1.heap.size]? = some (.cells #[.int .u8 125] 5 (0, 0)) ∧ v3.ownBlock ≠ some (w1.heap.size)) := Lib.hid ⟨(hg3.1.block (w1.heap.size) (by simp; try omega) (by intro e; have := NB.out _ e.symm; omega)).trans (by first | exact lit_a w1 _ _ | exact lit_a w1.drew _ _), by intro e; rcases hg3.2 _ e with h | h; have := NB.out _ h; omega; simp at h; omega⟩; obtain ⟨A3, c3, rfl, h31, h32⟩ := own_form ho3; have O3 : Hid (w3.ownsRow base 5 1 (.slice A3 (n0 + 1) c3) (n0 + 1) ((l ++ [123]).map b8)) := Lib.hid (by rw [List.map_append]; exact ho3); have G3 := Lib.hid G3'; have F3 := Lib.hid (Frm.of_grw G3' O1.out B1.out); have FF3 := Lib.hid (F1.out.trans F3.out); have P3 := Lib.hid (F3.out.keep _ _ _ P1.out (by decide)); have true3 : Hid (base ≤ w3.heap.size) := Lib.hid (Nat.le_trans B1.out G3'.1.size); have q0 := P3.out.cell 0; have q1 := P3.out.cell 1; have q2 := P3.out.cell 2; have q3 := P3.out.cell 3; have q4 := P3.out.cell 4; have sz3 : w.heap.size < w3.heap.size := P3.out.lt; clear G3' ho3 hg3) | (go_simp; go_at_call 39; refine (HCALL.out _ A3 (n0 + 1) c3 (l ++ [123]) (by first | exact FF3.out | exact FF3.out.trans (Frm.of_below (below_one _ _) true3.out)) (by first | exact O3.out | exact O3.out.alloc _) (by first | exact true3.out | (rw [World.size_alloc]; exact Nat.le_succ_of_le true3.out)) (Nat.le_refl _)).mono ?_; rintro _ w4 ⟨A4, n4, c4, rfl, hl4, h41, h42, O4, G4⟩; have G34 : Hid (Grw w1 (Value.slice A0 n0 c0).ownBlock (Value.slice A4 n4 c4).ownBlock w4) := Lib.hid (by first | exact G3.out.trans G4.out | exact G3.out.trans (Grw.new G4.out)); have true4 : Hid (base ≤ w4.heap.size) := Lib.hid (Nat.le_trans B1.out G34.out.1.size); have hn4 : n4 ≤ 100000000 := (by have e1 := hl4.out; have e2 := own_len O1.out; simp at e1 e2; omega); first | (have BK4 : Hid (w4.heap[w1.heap.size + 1]? = some (.cells #[.int .u8 125] 5 (0, 0))) := Lib.hid ((G4.out.1.block (w1.heap.size + 1) (Nat.lt_of_not_le (fun hh => by have e := BK3.out.1; rw [Array.getElem?_eq_none hh] at e; cases e)) (Ne.symm BK3.out.2)).trans BK3.out.1)) | (have BK4 : Hid (w4.heap[w1.heap.size]? = some (.cells #[.int .u8 125] 5 (0, 0))) := Lib.hid ((G4.out.1.block w1.heap.size (Nat.lt_of_not_le (fun hh => by have e := BK3.out.1; rw [Array.getElem?_eq_none hh] at e; cases e)) (Ne.symm BK3.out.2)).trans BK3.out.1)) | (have BK4 : Hid (w4.heap[w3.heap.size]? = some (.cells #[.int .u8 125] 5 (0, 0))) := Lib.hid ((G4.out.1.block w3.heap.size (by simp) (by intro e; have := (O3.out.lt _ e.symm).2; omega)).trans (by first | exact heap_alloc_new w3 _ | exact heap_alloc_new w3.drew _))) | skip) | (refine step_append_b8_at rfl _ _ _ (by rfl) base 5 ti (.int .u8 0) Tryz.underlying38 hti hz htz hby rfl (.slice A4 n4 c4) n4 ((l ++ [123] ++ txts true true its ks).map b8) (by rfl) (by first | exact O4.out.alloc _) (w4.heap.size + 1) ⟨w4.heap.size, 0, none⟩ 1 1 [125] (by rfl) (Rb.block (x := 125) (by first | exact heap_alloc_new w4 _)) (by simp) (by omega) (by have := true4.out; first | exact this | (simp; omega)) ?_; intro v5 w5 ho5 hg5; have FIN : Hid (AppB base (.slice A0 n0 c0) w (l ++ 123 :: (txts true true its ks ++ [125])) (.returned v5) w5) := Lib.hid (AppB.mk' (n := n4 + 1) (by rw [show l ++ 123 :: (txts true true its ks ++ [125]) = (l ++ [123] ++ txts true true its ks) ++ [125] by simp, List.map_append]; exact ho5) (G1.out.trans (G34.out.trans (by first | exact hg5 | exact hg5.new)))); clear ho5 hg5) | (refine step_append_b8_at rfl _ _ _ (by rfl) base 5 ti (.int .u8 0) Tryz.underlying38 hti hz htz hby rfl (.slice A4 n4 c4) n4 ((l ++ [123] ++ txts true true its ks).map b8) (by rfl) (by first | exact O4.out) (w1.heap.size + 1 + 1) ⟨w1.heap.size + 1, 0, none⟩ 1 1 [125] (by rfl) (Rb.block (x := 125) (by first | exact BK4.out)) (by simp) (by omega) (by have := true4.out; first | exact this | (simp; omega)) ?_; intro v5 w5 ho5 hg5; have FIN : Hid (AppB base (.slice A0 n0 c0) w (l ++ 123 :: (txts true true its ks ++ [125])) (.returned v5) w5) := Lib.hid (AppB.mk' (n := n4 + 1) (by rw [show l ++ 123 :: (txts true true its ks ++ [125]) = (l ++ [123] ++ txts true true its ks) ++ [125] by simp, List.map_append]; exact ho5) (G1.out.trans (G34.out.trans (by first | exact hg5 | exact hg5.new)))); clear ho5 hg5) | (refine step_append_b8_at rfl _ _ _ (by rfl) base 5 ti (.int .u8 0) Tryz.underlying38 hti hz htz hby rfl (.slice A4 n4 c4) n4 ((l ++ [123] ++ txts true true its ks).map b8) (by rfl) (by first | exact O4.out) (w1.heap.size + 1) ⟨w1.heap.size, 0, none⟩ 1 1 [125] (by rfl) (Rb.block (x := 125) (by first | exact BK4.out)) (by simp) (by omega) (by have := true4.out; first | exact this | (simp; omega)) ?_; intro v5 w5 ho5 hg5; have FIN : Hid (AppB base (.slice A0 n0 c0) w (l ++ 123 :: (txts true true its ks ++ [125])) (.returned v5) w5) := Lib.hid (AppB.mk' (n := n4 + 1) (by rw [show l ++ 123 :: (txts true true its ks ++ [125]) = (l ++ [123] ++ txts true true its ks) ++ [125] by simp, List.map_append]; exact ho5) (G1.out.trans (G34.out.trans (by first | exact hg5 | exact hg5.new)))); clear ho5 hg5) | (refine step_append_b8_at rfl _ _ _ (by rfl) base 5 ti (.int .u8 0) Tryz.underlying38 hti hz htz hby rfl (.slice A4 n4 c4) n4 ((l ++ [123] ++ txts true true its ks).map b8) (by rfl) (by first | exact O4.out) (w3.heap.size + 1) ⟨w3.heap.size, 0, none⟩ 1 1 [125] (by rfl) (Rb.block (x := 125) (by first | exact BK4.out)) (by simp) (by omega) (by have := true4.out; first | exact this | (simp; omega)) ?_; intro v5 w5 ho5 hg5; have FIN : Hid (AppB base (.slice A0 n0 c0) w (l ++ 123 :: (txts true true its ks ++ [125])) (.returned v5) w5) := Lib.hid (AppB.mk' (n := n4 + 1) (by rw [show l ++ 123 :: (txts true true its ks ++ [125]) = (l ++ [123] ++ txts true true its ks) ++ [125] by simp, List.map_append]; exact ho5) (G1.out.trans (G34.out.trans (by first | exact hg5 | exact hg5.new)))); clear ho5 hg5))
  all_goals (
    try go_wp2
    go_ret
    exact FIN.out)
end Go.Proofs.YtjblchdfkcbodaaGreatDoor
namespace Go.Proofs.YtjblchdfkcbodaaGreatDoor
open Go.RowKit

theorem okF_kind {k i : Int} {t : ByteArray} {its : List VT} {ks : List ByteArray} (h : okF (.mk k i t its ks) = true) : 0 ≤ k ∧ k ≤ 6 := by
  by_cases hk : 0 ≤ k ∧ k ≤ 6
  · exact hk
  · unfold okF VT.k at h
    simp only [show ¬ k = 0 from by omega, show ¬ k = 1 from by omega, show ¬ k = 2 from by omega, show ¬ k = 3 from by omega, show ¬ k = 4 from by omega, show ¬ k = 5 from by omega, show ¬ k = 6 from by omega, if_false] at h
    cases h
theorem okF_keys {k i : Int} {t : ByteArray} {its : List VT} {ks : List ByteArray} (h : okF (.mk k i t its ks) = true) (hk : k = 5) : ks.length = its.length := by
  subst hk
  rw [okF_5] at h
  simp only [Bool.and_eq_true, decide_eq_true_eq] at h
  exact h.2.2.1
theorem txt_all (m : Nat) : TxtUpto m := by
  induction m with
  | zero => intro x _ _ _ _ _ _ _ h; have := size_pos x; omega
  | succ m ih =>
    intro x w v base n c A l hsz hw hv ho hB hn hT
    have IH := Lib.hid ih
    obtain ⟨k, i, t, its, ks⟩ := x
    obtain ⟨A1, c1, A', c', rfl, _, hi, _, h1, h2, hL, h3, h4, hS⟩ := hv.open
    rw [VT.size_mk] at hsz
    rw [VT.all_mk, Bool.and_eq_true] at hw
    have hk := okF_kind hw.1
    have hks := okF_keys hw.1
    obtain rfl | rfl | rfl | rfl | rfl | rfl | rfl : k = 0 ∨ k = 1 ∨ k = 2 ∨ k = 3 ∨ k = 4 ∨ k = 5 ∨ k = 6 := by omega
    · exact pay_0 i t its ks A1 c1 A' c' w base n c A l hi ho hB hn hT
    · exact pay_1 i t its ks A1 c1 A' c' w base n c A l hi ho hB hn hT
    · exact pay_2 i t its ks A1 c1 A' c' w base n c A l hi ho hB hn hT
    · exact pay_3 i t its ks A1 c1 A' c' w base n c A l hi ho hB hn hT
    · exact pay_4 m IH i t its ks A1 c1 A' c' w base n c A l hL hS (fun e => by omega) h3 h4 h1 h2 (by omega) hw.2 ho hB hn hT
    · exact pay_5 m IH i t its ks A1 c1 A' c' w base n c A l hL hS (fun _ => hks rfl) h3 h4 h1 h2 (by omega) hw.2 ho hB hn hT
    · exact pay_6 i t its ks A1 c1 A' c' w base n c A l hi ho hB hn hT

/-- what Print gives -/
def PrtR (x : VT) (w : World) (e : Ending) (w' : World) : Prop :=
  e = .returned (.tuple (if x.right = true then #[.string ⟨x.txt.toArray⟩, .int .i64 0] else #[.string ⟨#[]⟩, .int .i64 2])) ∧ Below w.heap.size w w'
theorem right_ok {x : VT} (h : x.right = true) : x.all okF = true := by
  unfold VT.right VT.wf at h
  rw [Bool.and_eq_true] at h
  exact h.1

set_option maxRecDepth 100000 in
set_option maxHeartbeats 4000000 in
theorem Print_any {x : VT} {v : Value} {w : World} (hv : Lies w (Lo w) x v) (hn : 4 * x.txt.length ≤ 100000000) (hT : PowTab w.heap.size w) :
    Calls Tryz.prog 9 #[v] w (PrtR x w) := by
  have HR := Lib.hid (fun (w' : World) (hb : Below w.heap.size w w') => valRight_any (hv.below hb))
  have HP := Lib.hid (fun (w' : World) (hb : Below w.heap.size w w') (hx : x.right = true) => txt_all x.size x w' v w.heap.size 0 0 none [] (Nat.le_refl _) (right_ok hx) (hv.keep (fun p hp => hb.cell hp) (fun _ h => h)) ⟨rfl, .inl ⟨rfl, rfl⟩⟩ hb.size (by omega) (hT.on hb))
  have HX : Hid (∀ (w' : World), Below w.heap.size w w' → PrtR x w (.returned (.tuple (if x.right = true then #[.string ⟨x.txt.toArray⟩, .int .i64 0] else #[.string ⟨#[]⟩, .int .i64 2]))) w') := Lib.hid (fun w' hb => ⟨rfl, hb⟩)
  obtain ⟨k, i, t, its, ks⟩ := x
  obtain ⟨A1, c1, A', c', rfl, _, _, _, _, _, _, _, _, _⟩ := hv.open
  clear hv hn hT
  generalize hx : VT.mk k i t its ks = x at *
  clear hx
  generalize hb : x.right = b at *
  obtain ⟨w1, hw1⟩ : ∃ w1, w1 = w.alloc (.cells #[.int .i64 k, .int .i64 i, .string t, .slice A1 its.length c1, .slice A' ks.length c'] 25) := ⟨_, rfl⟩
  have P1 : Hid (Bk w1 w.heap.size 25 #[.int .i64 k, .int .i64 i, .string t, .slice A1 its.length c1, .slice A' ks.length c']) := Lib.hid (by rw [hw1]; exact Bk.new _ _ _)
  have B1 : Hid (Below w.heap.size w w1) := Lib.hid (by rw [hw1]; exact below_one _ _)
  have R1 := Lib.hid (HR.out w1 B1.out)
  have HW := Lib.hid hw1
  have p0 := P1.out.cell 0
  have p1 := P1.out.cell 1
  have p2 := P1.out.cell 2
  have p3 := P1.out.cell 3
  have p4 := P1.out.cell 4
  rw [HW.out] at p0 p1 p2 p3 p4
  clear hw1 hb
  unfold vag at *
  go_enter Tryz.func9, Tryz.ntmps9
  go_wp2_with fail
  rw [← HW.out]
  refine (R1.out).mono ?_
  rintro e w2 ⟨rfl, hb2⟩
  have B2 : Hid (Below w.heap.size w w2) := Lib.hid (B1.out.trans (hb2.mono B1.out.size))
  have P2 := Lib.hid (P1.out.below hb2 P1.out.lt)
  clear hb2 p0 p1 p2 p3 p4
  cases b with
  | false =>
    have FIN := Lib.hid (HX.out w2 B2.out)
    clear HP HR R1 HX
    go_wp2
    go_ret2
    exact FIN.out
  | true =>
    have E2 := Lib.hid (HP.out w2 B2.out rfl)
    have p0 := P2.out.cell 0
    have p1 := P2.out.cell 1
    have p2 := P2.out.cell 2
    have p3 := P2.out.cell 3
    have p4 := P2.out.cell 4
    clear HP HR R1
    go_wp2_with fail
    refine (E2.out).mono ?_
    rintro e w5 ⟨A5, n5, c5, rfl, hl5, _, _, O5, G5⟩
    have B5 : Hid (Below w.heap.size w w5) := Lib.hid (B2.out.trans ((Below.refl _ _).grown G5.out.1 B2.out.size (fun k hk => by cases hk)))
    rw [List.nil_append] at O5
    have HS := run_str (P := Tryz.prog) (c := c5) 38 9 5 Tryz.underlying38 Tryz.underlying5 Tryz.underlying9 (Rb.of_own O5.out)
    have FIN := Lib.hid (HX.out w5 B5.out)
    clear p0 p1 p2 p3 p4 HX
    go_wp2
    go_ret2
    exact FIN.out
end Go.Proofs.YtjblchdfkcbodaaGreatDoor
namespace Go.Proofs.YtjblchdfkcbodaaGreatDoor
open Go.RowKit

/-- the first example's value -/
def exV : VT := .mk 5 0 ⟨#[]⟩ [.mk 4 0 ⟨#[]⟩ [nullT, .mk 1 1 ⟨#[]⟩ [] []] [], .mk 2 (-5) ⟨#[]⟩ [] []] [⟨#[97]⟩, ⟨#[98]⟩]
theorem ex_1 : parP [123, 34, 98, 34, 58, 32, 45, 53, 44, 32, 34, 97, 34, 32, 58, 91, 110, 117, 108, 108, 44, 116, 114, 117, 101, 93, 125] = .ok exV 27 := by kernel_rfl
theorem ex_2 : parP [123, 34, 97, 34, 58, 32, 48, 49, 125] = .err 7 3 := by kernel_rfl
theorem ex_3 : parP [123, 34, 97, 34, 58, 32, 49, 44, 32, 34, 97, 34, 58, 32, 50, 125] = .err 9 9 := by kernel_rfl
theorem ex_4 : parP [91, 49, 44] = .err 3 4 := by kernel_rfl
theorem ex_right : exV.right = true := by kernel_rfl
theorem itoa_5 : Lib.itoa (-5) = [45, 53] := by
  rw [show (-5 : Int) = -((5 : Nat) : Int) from rfl, Lib.itoa_neg 5 (by decide), Lib.decDigits, dif_pos (by decide)]
  rfl
theorem ex_txt : exV.txt = [123, 34, 97, 34, 58, 32, 91, 110, 117, 108, 108, 44, 32, 116, 114, 117, 101, 93, 44, 32, 34, 98, 34, 58, 32, 45, 53, 125] := by
  have h5 : (VT.mk 2 (-5) ⟨#[]⟩ [] []).txt = [45, 53] := by rw [VT.txt_mk, if_neg (by decide), if_pos rfl, itoa_5]
  unfold exV
  rw [VT.txt_mk, if_neg (by decide), if_neg (by decide), if_neg (by decide), if_neg (by decide), if_pos rfl, txts, txts, h5]
  rfl
theorem ex_quo : quoL [97, 10, 7] = [34, 97, 92, 110, 92, 120, 48, 55, 34] := by kernel_rfl
end Go.Proofs.YtjblchdfkcbodaaGreatDoor
namespace Go.Proofs.YtjblchdfkcbodaaGreatDoor
open Go.RowKit

/-- the world has what Parse and Print read of strconv -/
structure Std (w : World) : Prop where
  ev : Ev w w.heap.size
  tab : PowTab w.heap.size w
theorem Std.on {w w' : World} (h : Std w) (hb : Below w.heap.size w w') : Std w' := by
  obtain ⟨⟨a, b, h1⟩, ⟨c, d, h2⟩, h3, h4⟩ := h.ev
  have l1 := World.block_lt_of_cell? w _ h1
  have l2 := World.block_lt_of_cell? w _ h2
  have hs := hb.size
  refine ⟨⟨⟨a, b, by rw [hb.cell l1]; exact h1⟩, ⟨c, d, by rw [hb.cell l2]; exact h2⟩, fun e => ?_, fun e => ?_⟩, fun W hW => h.tab W (hb.trans (hW.mono hs))⟩
  · have l1' : 2 < w.heap.size := l1
    omega
  · have l2' : 3 < w.heap.size := l2
    omega
theorem par_1 {w : World} (h : Std w) : Calls Tryz.prog 13 #[.string ⟨#[123, 34, 98, 34, 58, 32, 45, 53, 44, 32, 34, 97, 34, 32, 58, 91, 110, 117, 108, 108, 44, 116, 114, 117, 101, 93, 125]⟩] w (ParR (.ok exV 27) w) := by
  rw [← ex_1]
  exact Parse_any ⟨#[123, 34, 98, 34, 58, 32, 45, 53, 44, 32, 34, 97, 34, 32, 58, 91, 110, 117, 108, 108, 44, 116, 114, 117, 101, 93, 125]⟩ w (by decide) h.ev
theorem par_2 {w : World} (h : Std w) : Calls Tryz.prog 13 #[.string ⟨#[123, 34, 97, 34, 58, 32, 48, 49, 125]⟩] w (ParR (.err 7 3) w) := by
  rw [← ex_2]
  exact Parse_any ⟨#[123, 34, 97, 34, 58, 32, 48, 49, 125]⟩ w (by decide) h.ev
theorem par_3 {w : World} (h : Std w) : Calls Tryz.prog 13 #[.string ⟨#[123, 34, 97, 34, 58, 32, 49, 44, 32, 34, 97, 34, 58, 32, 50, 125]⟩] w (ParR (.err 9 9) w) := by
  rw [← ex_3]
  exact Parse_any ⟨#[123, 34, 97, 34, 58, 32, 49, 44, 32, 34, 97, 34, 58, 32, 50, 125]⟩ w (by decide) h.ev
theorem par_4 {w : World} (h : Std w) : Calls Tryz.prog 13 #[.string ⟨#[91, 49, 44]⟩] w (ParR (.err 3 4) w) := by
  rw [← ex_4]
  exact Parse_any ⟨#[91, 49, 44]⟩ w (by decide) h.ev
theorem prt_1 {v : Value} {w : World} (hv : Lies w (Lo w) exV v) (h : Std w) : Calls Tryz.prog 9 #[v] w fun e w' => e = .returned (.tuple #[.string ⟨#[123, 34, 97, 34, 58, 32, 91, 110, 117, 108, 108, 44, 32, 116, 114, 117, 101, 93, 44, 32, 34, 98, 34, 58, 32, 45, 53, 125]⟩, .int .i64 0]) ∧ Below w.heap.size w w' := by
  refine (Print_any hv (by rw [ex_txt]; decide) h.tab).mono ?_
  rintro e w' ⟨rfl, hb⟩
  rw [if_pos ex_right, ex_txt]
  exact ⟨rfl, hb⟩
theorem quo_1 (w : World) : Calls Tryz.prog 11 #[.string ⟨#[97, 10, 7]⟩] w fun e w' => e = .returned (.string ⟨#[34, 97, 92, 110, 92, 120, 48, 55, 34]⟩) ∧ Below w.heap.size w w' := by
  refine (Quote_any ⟨#[97, 10, 7]⟩ w (by decide)).mono ?_
  rintro e w' ⟨rfl, hb⟩
  exact ⟨congrArg (fun x : List UInt8 => Ending.returned (.string ⟨x.toArray⟩)) ex_quo, hb⟩

set_option maxRecDepth 100000 in
set_option maxHeartbeats 4000000 in
theorem lives_any {w : World} (h : Std w) : Calls Tryz.prog 8 #[] w fun e w' => e = .returned (.bool true) ∧ Below w.heap.size w w' := by
  have S0 := Lib.hid h
  clear h
  go_enter Tryz.func8, Tryz.ntmps8
  go_wp2_with fail
  refine (par_1 S0.out).mono ?_
  rintro _ w1 ⟨hb1, ⟨k, i, t, A, m, c, A', m', c', x, j, rfl, hr, hl⟩ | ⟨j, c, hr, _⟩⟩
  case inr => exact absurd hr.out (by intro e; cases e)
  obtain ⟨rfl, rfl⟩ : exV = x ∧ _ = j := by have := hr.out; injection this with a b; exact ⟨a, b⟩
  clear hr
  go_wp2_with fail
  obtain ⟨w2, hw2⟩ : ∃ w2, w2 = w1.alloc (.cells #[.int .i64 k, .int .i64 i, .string t, .slice A m c, .slice A' m' c'] 25) := ⟨_, rfl⟩
  rw [← hw2]
  have hb12 : Below w1.heap.size w1 w2 := by rw [hw2]; exact below_one _ _
  have B2 : Hid (Below w.heap.size w w2) := Lib.hid (hb1.trans (hb12.mono hb1.size))
  have L2 := Lib.hid ((hl.out.keep (fun p hp => hb12.cell hp.2) (fun b hp => Nat.lt_of_lt_of_le hp.2 hb12.size) : Lies w2 (Lo w2) exV _))
  have HW := Lib.hid hw2
  clear hb1 hl hb12 hw2
  refine (prt_1 L2.out (S0.out.on B2.out)).mono ?_
  rintro _ w3 ⟨rfl, hb3⟩
  have B3 : Hid (Below w.heap.size w w3) := Lib.hid (B2.out.trans (hb3.mono B2.out.size))
  clear hb3
  go_wp2_with fail
  refine (par_2 (S0.out.on B3.out)).mono ?_
  rintro _ w4 ⟨hb4, ⟨k2, i2, t2, A2, m2, c2, A2', m2', c2', x2, j2, _, hr, _⟩ | ⟨j2, c2, hr, rfl⟩⟩
  · exact absurd hr.out (by intro e; cases e)
  obtain ⟨rfl, rfl⟩ : 7 = j2 ∧ (3 : Int) = c2 := by have := hr.out; injection this with a b; exact ⟨a, b⟩
  have B4 : Hid (Below w.heap.size w w4) := Lib.hid (B3.out.trans (hb4.mono B3.out.size))
  clear hb4 hr
  go_wp2_with fail
  refine (par_3 (S0.out.on (Below.alloc B4.out B4.out.size _))).mono ?_
  rintro _ w5 ⟨hb5, ⟨k2, i2, t2, A2, m2, c2, A2', m2', c2', x2, j2, _, hr, _⟩ | ⟨j2, c2, hr, rfl⟩⟩
  · exact absurd hr.out (by intro e; cases e)
  obtain ⟨rfl, rfl⟩ : 9 = j2 ∧ (9 : Int) = c2 := by have := hr.out; injection this with a b; exact ⟨a, b⟩
  have B5 : Hid (Below w.heap.size w w5) := Lib.hid ((Below.alloc B4.out B4.out.size _).trans (hb5.mono (Below.alloc B4.out B4.out.size _).size))
  clear hb5 hr
  go_wp2_with fail
  refine (par_4 (S0.out.on (Below.alloc B5.out B5.out.size _))).mono ?_
  rintro _ w6 ⟨hb6, ⟨k2, i2, t2, A2, m2, c2, A2', m2', c2', x2, j2, _, hr, _⟩ | ⟨j2, c2, hr, rfl⟩⟩
  · exact absurd hr.out (by intro e; cases e)
  obtain ⟨rfl, rfl⟩ : 3 = j2 ∧ (4 : Int) = c2 := by have := hr.out; injection this with a b; exact ⟨a, b⟩
  have B6 : Hid (Below w.heap.size w w6) := Lib.hid ((Below.alloc B5.out B5.out.size _).trans (hb6.mono (Below.alloc B5.out B5.out.size _).size))
  clear hb6 hr
  go_wp2_with fail
  refine (quo_1 _).mono ?_
  rintro _ w7 ⟨rfl, hb7⟩
  have B7 : Hid (Below w.heap.size w w7) := Lib.hid ((Below.alloc B6.out B6.out.size _).trans (hb7.mono (Below.alloc B6.out B6.out.size _).size))
  clear hb7
  go_wp2
  go_ret
  exact ⟨rfl, B7.out⟩
end Go.Proofs.YtjblchdfkcbodaaGreatDoor
namespace Go.Proofs.YtjblchdfkcbodaaGreatDoor
open Go.RowKit

theorem at_mid {α : Type} (pre e post : List α) (k : Nat) (h : k < e.length) : (pre ++ (e ++ post))[pre.length + k]? = e[k]? := by
  rw [List.getElem?_append_right (by omega), show pre.length + k - pre.length = k by omega, List.getElem?_append_left h]

theorem hx_all : ((List.range 16).all fun n => hxd (hxc n) && (hxv (hxc n) == n)) = true := by decide +kernel
theorem hxc_ok {n : Nat} (h : n < 16) : hxd (hxc n) = true ∧ hxv (hxc n) = n := by
  have := List.all_eq_true.1 hx_all n (List.mem_range.2 h)
  rw [Bool.and_eq_true, beq_iff_eq] at this
  exact this

theorem chr_esc (c : UInt8) (pre post : List UInt8) : chrP (pre ++ (escB c ++ post)) pre.length = .ok c (pre.length + (escB c).length) := by
  by_cases h1 : c = 34 ∨ c = 92
  · have HE : escB c = [92, c] := by unfold escB; rw [if_pos h1]
    rw [HE]
    unfold chrP
    rw [tkP_ok (c := 92) (by simp) (by decide)]
    show (if (92 : UInt8) = 92 then escP _ (pre.length + 1) else PR.ok 92 (pre.length + 1)) = _
    rw [if_pos rfl]
    unfold escP
    rw [tkP_ok (c := c) (by simp) (by rcases h1 with rfl | rfl <;> decide)]
    rcases h1 with rfl | rfl <;> rfl
  · by_cases h10 : c = 10
    · subst h10
      show chrP (pre ++ ([92, 110] ++ post)) pre.length = _
      unfold chrP
      rw [tkP_ok (c := 92) (by simp) (by decide)]
      show (if (92 : UInt8) = 92 then escP _ (pre.length + 1) else PR.ok 92 (pre.length + 1)) = _
      rw [if_pos rfl]
      unfold escP
      rw [tkP_ok (c := 110) (by simp) (by decide)]
      rfl
    · by_cases h9 : c = 9
      · subst h9
        show chrP (pre ++ ([92, 116] ++ post)) pre.length = _
        unfold chrP
        rw [tkP_ok (c := 92) (by simp) (by decide)]
        show (if (92 : UInt8) = 92 then escP _ (pre.length + 1) else PR.ok 92 (pre.length + 1)) = _
        rw [if_pos rfl]
        unfold escP
        rw [tkP_ok (c := 116) (by simp) (by decide)]
        rfl
      · cases hp : pln c with
        | true =>
          have HE : escB c = [c] := by unfold escB; rw [if_neg h1, if_neg h10, if_neg h9, hp]; rfl
          rw [HE]
          unfold chrP
          rw [tkP_ok (c := c) (by simp) hp]
          show (if c = 92 then escP _ (pre.length + 1) else _) = _
          rw [if_neg (fun e => h1 (.inr e))]
          rfl
        | false =>
          have HE : escB c = [92, 120, hxc (c.toNat / 16), hxc (c.toNat % 16)] := by unfold escB; rw [if_neg h1, if_neg h10, if_neg h9, hp]; rfl
          have hc : c.toNat < 256 := c.toNat_lt
          obtain ⟨d1, v1⟩ := hxc_ok (n := c.toNat / 16) (by omega)
          obtain ⟨d2, v2⟩ := hxc_ok (n := c.toNat % 16) (by omega)
          rw [HE]
          generalize hxc (c.toNat / 16) = x at *
          generalize hxc (c.toNat % 16) = y at *
          unfold chrP
          rw [tkP_ok (c := 92) (by simp) (by decide)]
          show (if (92 : UInt8) = 92 then escP _ (pre.length + 1) else PR.ok 92 (pre.length + 1)) = _
          rw [if_pos rfl]
          unfold escP
          rw [tkP_ok (c := 120) (by simp) (by decide)]
          rw [PR.bind_ok, if_neg (by decide), if_neg (by decide), if_pos rfl, tkP_ok (c := x) (at_mid pre [92, 120, x, y] post 2 (by simp)) d1, PR.bind_ok, tkP_ok (c := y) (at_mid pre [92, 120, x, y] post 3 (by simp)) d2, PR.bind_ok, v1, v2, show 16 * (c.toNat / 16) + c.toNat % 16 = c.toNat by omega, UInt8.ofNat_toNat]
          rfl
theorem escB_head (c : UInt8) : ∃ d r, escB c = d :: r ∧ d ≠ 34 := by
  unfold escB
  split
  · exact ⟨92, _, rfl, by decide⟩
  · rename_i h
    split
    · exact ⟨92, _, rfl, by decide⟩
    · split
      · exact ⟨92, _, rfl, by decide⟩
      · split
        · exact ⟨92, _, rfl, by decide⟩
        · exact ⟨c, _, rfl, fun e => h (.inl e)⟩
theorem litL_quo (a : Nat) (post : List UInt8) : ∀ (r pre o : List UInt8) (f : Nat), r.length < f →
    litL (pre ++ (r.flatMap escB ++ 34 :: post)) a f pre.length o = if (o ++ r).length ≤ 4096 then .ok (o ++ r) (pre.length + (r.flatMap escB).length + 1) else .err a 6
  | [], pre, o, f, hf => by
    obtain ⟨g, rfl⟩ : ∃ g, f = g + 1 := ⟨f - 1, by simp at hf; omega⟩
    rw [List.flatMap_nil, List.nil_append, litL_quote (by simp), List.append_nil]
    rfl
  | c :: r, pre, o, f, hf => by
    obtain ⟨g, rfl⟩ : ∃ g, f = g + 1 := ⟨f - 1, by simp at hf; omega⟩
    obtain ⟨d, q, hd, hq⟩ := escB_head c
    have a0 : (pre ++ ((c :: r).flatMap escB ++ 34 :: post))[pre.length]? = some d := by
      rw [List.flatMap_cons, List.append_assoc, hd]
      simp
    have hk := chr_esc c pre (r.flatMap escB ++ 34 :: post)
    rw [litL_char a0 hq, List.flatMap_cons, List.append_assoc, hk]
    have ih := litL_quo a post r (pre ++ escB c) (o ++ [c]) g (by simp at hf; omega)
    rw [List.length_append, List.append_assoc] at ih
    show litL _ a g (pre.length + (escB c).length) (o ++ [c]) = _
    rw [ih, List.append_assoc]
    simp only [List.singleton_append, List.length_append]
    rw [← Nat.add_assoc]
theorem parP_quo (r : List UInt8) : parP (32 :: quoL r) = if r.length ≤ 4096 then .ok (.mk 3 0 ⟨r.toArray⟩ [] []) (quoL r).length.succ else .err 1 6 := by
  have hL : (32 :: quoL r) = [32, 34] ++ (r.flatMap escB ++ 34 :: []) := rfl
  have hlen : (32 :: quoL r).length = 2 + (r.flatMap escB).length + 1 := by rw [hL]; simp; omega
  have hsk : skip (32 :: quoL r) 0 = 1 := by
    unfold skip
    rw [run_on (c := 32) (by rfl) (by decide), run_off (c := 34) (by rfl) (by decide)]
  have hr : r.length ≤ (r.flatMap escB).length := by
    have h1 := quoL_len r
    have h2 : (quoL r).length = (r.flatMap escB).length + 2 := by unfold quoL; simp
    omega
  have hq := litL_quo 1 [] r [32, 34] [] ((32 :: quoL r).length + 1) (by omega)
  rw [← hL, List.nil_append] at hq
  unfold parP
  rw [valP, hsk, tkP_ok (c := 34) (by rfl) (by decide)]
  show (if 1000 ≤ 0 then (PR.err 1 6 : PR (VT × Nat)) else bodP (valP (32 :: quoL r) 15) (32 :: quoL r) 34 2 1).bind _ = _
  rw [if_neg (by omega)]
  unfold bodP
  rw [if_neg (by decide), if_neg (by decide), if_neg (by decide), if_pos rfl]
  unfold litP
  show (((litL _ 1 _ 2 []).bind _).bind _).bind _ = _
  have hq' : litL (32 :: quoL r) 1 ((32 :: quoL r).length + 1) 2 [] = if r.length ≤ 4096 then .ok r (32 :: quoL r).length else .err 1 6 := hq.trans (by rw [hlen]; rfl)
  rw [hq']
  by_cases hb : r.length ≤ 4096
  · rw [if_pos hb, if_pos hb]
    show (if skip (32 :: quoL r) (32 :: quoL r).length = (32 :: quoL r).length then _ else _) = _
    have he : skip (32 :: quoL r) (32 :: quoL r).length = (32 :: quoL r).length := run_end (Nat.le_refl _)
    rw [if_pos he, he]
    rfl
  · rw [if_neg hb, if_neg hb]
    rfl
end Go.Proofs.YtjblchdfkcbodaaGreatDoor
namespace Go.Proofs.YtjblchdfkcbodaaGreatDoor
open Go

theorem par10_app (m : List UInt8) : ∀ (l : List UInt8) (a v : Nat), Lib.parseUint10 a l = .ok v → Lib.parseUint10 a (l ++ m) = Lib.parseUint10 v m
  | [], a, v, h => by
    simp only [Lib.parseUint10] at h
    injection h with h
    subst h; rfl
  | c :: r, a, v, h => by
    rw [List.cons_append]
    simp only [Lib.parseUint10] at h ⊢
    split at h
    · rename_i h1
      rw [if_pos h1]
      split at h
      · cases h
      · rename_i h2
        rw [if_neg h2]
        split at h
        · cases h
        · rename_i h3
          rw [if_neg h3]
          exact par10_app m r _ v h
    · cases h
theorem dig_nat (d : Nat) (h : d < 10) : (UInt8.ofNat (48 + d)).toNat = 48 + d := by
  rw [UInt8.toNat_ofNat']
  omega
theorem par10_dec (u : Nat) : u < 18446744073709551616 → Lib.parseUint10 0 (Lib.decDigits u) = .ok u := by
  induction u using Nat.strongRecOn with
  | ind u ih =>
    intro hu
    rw [Lib.decDigits]
    split
    · rename_i h
      simp only [Lib.parseUint10, dig_nat u h]
      rw [if_pos (by omega), if_neg (by omega), if_neg (by omega)]
      congr 1; omega
    · rename_i h
      rw [par10_app _ _ _ _ (ih (u / 10) (by omega) (by omega))]
      simp only [Lib.parseUint10, dig_nat (u % 10) (by omega)]
      rw [if_pos (by omega), if_neg (by omega), if_neg (by omega)]
      congr 1; omega
theorem dec_all (u : Nat) : ∀ c ∈ Lib.decDigits u, 48 ≤ c.toNat ∧ c.toNat ≤ 57 := by
  induction u using Nat.strongRecOn with
  | ind u ih =>
    intro c hc
    rw [Lib.decDigits] at hc
    split at hc
    · rename_i h
      rw [List.mem_singleton.1 hc, dig_nat u h]; omega
    · rename_i h
      rcases List.mem_append.1 hc with h1 | h1
      · exact ih (u / 10) (by omega) c h1
      · rw [List.mem_singleton.1 h1, dig_nat (u % 10) (by omega)]; omega
theorem dec_cons (u : Nat) : ∃ c r, Lib.decDigits u = c :: r := by
  rw [Lib.decDigits]
  split
  · exact ⟨_, _, rfl⟩
  · cases Lib.decDigits (u / 10) with
    | nil => exact ⟨_, _, rfl⟩
    | cons c r => exact ⟨_, _, rfl⟩
theorem atoi_dec {u : Nat} (h : u < 9223372036854775808) : Lib.atoiAll (Lib.decDigits u) = .ok (u : Int) := by
  obtain ⟨c, r, e⟩ := dec_cons u
  have hc := dec_all u c (by rw [e]; exact List.mem_cons_self)
  have hp := par10_dec u (by omega)
  rw [e] at hp ⊢
  unfold Lib.atoiAll
  simp only
  rw [if_neg (by omega), show Lib.parseMag (c :: r) = .ok u from by unfold Lib.parseMag; rw [if_neg (by simp)]; exact hp]
  simp only
  rw [if_neg (by omega), if_neg (by omega), if_neg (by omega)]
theorem atoi_neg {u : Nat} (h1 : 1 ≤ u) (h : u ≤ 9223372036854775808) : Lib.atoiAll (45 :: Lib.decDigits u) = .ok (-(u : Int)) := by
  obtain ⟨c, r, e⟩ := dec_cons u
  have hp := par10_dec u (by omega)
  unfold Lib.atoiAll
  simp only
  rw [if_pos (by decide), show Lib.parseMag (Lib.decDigits u) = .ok u from by unfold Lib.parseMag; rw [if_neg (by rw [e]; simp)]; exact hp]
  simp only
  rw [if_neg (by simp), if_neg (by omega), if_pos (by decide)]
theorem atoi_itoa {n : Int} (h0 : -9223372036854775808 ≤ n) (h1 : n ≤ 9223372036854775807) : Lib.atoiAll (Lib.itoa n) = .ok n := by
  by_cases h : n < 0
  · obtain ⟨u, rfl⟩ : ∃ u : Nat, n = -(u : Int) := ⟨n.natAbs, by omega⟩
    rw [Lib.itoa_neg u (by omega)]
    exact atoi_neg (by omega) (by omega)
  · obtain ⟨u, rfl⟩ : ∃ u : Nat, n = (u : Int) := ⟨n.natAbs, by omega⟩
    rw [Lib.itoa_nonneg]
    exact atoi_dec (by omega)

/-- digits read loosely -/
def loose (l : List UInt8) : Int := l.foldl (fun a c => 10 * a + (c.toNat : Int) - 48) 0
theorem loose_snoc (l : List UInt8) (c : UInt8) : loose (l ++ [c]) = 10 * loose l + (c.toNat : Int) - 48 := by
  unfold loose
  rw [List.foldl_append]; rfl
theorem loose_dec (u : Nat) : loose (Lib.decDigits u) = u := by
  induction u using Nat.strongRecOn with
  | ind u ih =>
    rw [Lib.decDigits]
    split
    · rename_i h
      show 10 * 0 + ((UInt8.ofNat (48 + u)).toNat : Int) - 48 = u
      rw [dig_nat u h]; omega
    · rename_i h
      rw [loose_snoc, ih (u / 10) (by omega), dig_nat (u % 10) (by omega)]
      omega

/-- the identifier of the run n -/
def runS (n : Int) : List UInt8 := if n < 1 then [] else 114 :: Lib.itoa n
/-- n stands for a run -/
def InR (n : Int) : Prop := 1 ≤ n ∧ n ≤ 9223372036854775807
theorem runS_dec {n : Int} (h : InR n) : runS n = 114 :: Lib.decDigits n.toNat := by
  have h1 := h.1
  unfold runS
  rw [if_neg (by omega)]
  unfold Lib.itoa
  rw [if_neg (by omega)]
theorem runS_atoi {n : Int} (h : InR n) : Lib.atoiAll ((runS n).drop 1) = .ok n := by
  obtain ⟨h1, h2⟩ := h
  rw [runS_dec ⟨h1, h2⟩, List.drop_one, List.tail_cons, atoi_dec (by omega)]
  congr 1; omega
theorem runS_loose {n : Int} (h : InR n) : loose ((runS n).drop 1) = n := by
  obtain ⟨h1, h2⟩ := h
  rw [runS_dec ⟨h1, h2⟩, List.drop_one, List.tail_cons, loose_dec]
  omega
theorem nd_le : ∀ (k u : Nat), u < 10 ^ (k + 1) → Lib.nDigits u ≤ k + 1
  | 0, u, h => by rw [Lib.nDigits_small (by simpa using h)]; omega
  | k + 1, u, h => by
    by_cases hu : u < 10
    · rw [Lib.nDigits_small hu]; omega
    · rw [Lib.nDigits_big hu]
      have := nd_le k (u / 10) (Nat.div_lt_of_lt_mul (by rw [Nat.pow_succ, Nat.mul_comm] at h; exact h))
      omega
theorem runS_len {n : Int} (h : InR n) : (runS n).length ≤ 20 := by
  obtain ⟨h1, h2⟩ := h
  rw [runS_dec ⟨h1, h2⟩, List.length_cons, Lib.decDigits_length]
  have := nd_le 18 n.toNat (by omega)
  omega
theorem runS_inj {n m : Int} (h : InR n) (hm : InR m) (e : runS n = runS m) : n = m := by
  have := runS_loose h
  rw [e, runS_loose hm] at this
  exact this.symm
/-- what Number gives -/
def NumP (l : List UInt8) (v : Int) (b : Bool) : Prop := (b = true ∧ InR v ∧ runS v = l) ∨ (b = false ∧ v = 0 ∧ ∀ n, InR n → runS n ≠ l)
theorem NumP.one {l : List UInt8} {v v' : Int} {b b' : Bool} (h : NumP l v b) (h' : NumP l v' b') : v = v' ∧ b = b' := by
  rcases h with ⟨rfl, h1, h2⟩ | ⟨rfl, rfl, h2⟩ <;> rcases h' with ⟨rfl, h3, h4⟩ | ⟨rfl, rfl, h4⟩
  · exact ⟨runS_inj h1 h3 (h2.trans h4.symm), rfl⟩
  · exact absurd h2 (h4 _ h1)
  · exact absurd h4 (h2 _ h3)
  · exact ⟨rfl, rfl⟩

/-- what Split gives -/
def SplP (l u v : List UInt8) (b : Bool) : Prop := (b = true ∧ l = u ++ 47 :: v ∧ (47 : UInt8) ∉ u ∧ (47 : UInt8) ∉ v) ∨ (b = false ∧ u = [] ∧ v = [] ∧ ∀ x y, l = x ++ 47 :: y → (47 : UInt8) ∉ x → (47 : UInt8) ∈ y)
theorem cut_one : ∀ {u u' v v' : List UInt8}, u ++ (47 : UInt8) :: v = u' ++ 47 :: v' → (47 : UInt8) ∉ u → (47 : UInt8) ∉ u' → u = u' ∧ v = v'
  | [], [], v, v', e, _, _ => by injection e with _ e; exact ⟨rfl, e⟩
  | [], c :: r, v, v', e, _, h => by
    injection e with e _
    exact absurd (by rw [← e]; exact List.mem_cons_self) h
  | c :: r, [], v, v', e, h, _ => by
    injection e with e _
    exact absurd (by rw [e]; exact List.mem_cons_self) h
  | c :: r, c' :: r', v, v', e, h, h' => by
    injection e with e1 e2
    obtain ⟨h1, h2⟩ := cut_one e2 (fun m => h (List.mem_cons_of_mem _ m)) (fun m => h' (List.mem_cons_of_mem _ m))
    exact ⟨by rw [e1, h1], h2⟩
theorem SplP.one {l u v u' v' : List UInt8} {b b' : Bool} (h : SplP l u v b) (h' : SplP l u' v' b') : u = u' ∧ v = v' ∧ b = b' := by
  rcases h with ⟨rfl, h1, h2, h3⟩ | ⟨rfl, rfl, rfl, h3⟩ <;> rcases h' with ⟨rfl, k1, k2, k3⟩ | ⟨rfl, rfl, rfl, k3⟩
  · obtain ⟨e1, e2⟩ := cut_one (h1.symm.trans k1) h2 k2
    exact ⟨e1, e2, rfl⟩
  · exact absurd (k3 _ _ h1 h2) h3
  · exact absurd (h3 _ _ k1 k2) k3
  · exact ⟨rfl, rfl, rfl⟩

/-- names -/
def digB (c : UInt8) : Bool := decide (48 ≤ c.toNat ∧ c.toNat ≤ 57)
def wordB (c : UInt8) : Bool := decide (97 ≤ c.toNat ∧ c.toNat ≤ 122) || decide (65 ≤ c.toNat ∧ c.toNat ≤ 90) || decide (c.toNat = 95) || digB c
def nameB (l : List UInt8) : Bool := decide (1 ≤ l.length ∧ l.length ≤ 64) && !(digB (l.headD 48)) && l.all wordB
end Go.Proofs.YtjblchdfkcbodaaGreatDoor
namespace Go.Proofs.YtjblchdfkcbodaaGreatDoor
open Go.RowKit

/-- every integer of a value fits -/
def inF (x : VT) : Bool := decide (-9223372036854775808 ≤ x.i) && decide (x.i ≤ 9223372036854775807)
theorem ba_size (s : ByteArray) : s.data.toList.length = s.size := rfl
/-- all that a payload is, but its depth and its number of nodes -/
def goodF (x : VT) : Bool := okF x && (shortF x && (noFut x && inF x))
theorem alls_mem {p : VT → Bool} {l : List VT} {x : VT} (h : alls p l = true) (hx : x ∈ l) : x.all p = true := by
  obtain ⟨j, hj, rfl⟩ := List.getElem_of_mem hx
  exact all_at h (List.getElem?_eq_getElem hj)
theorem depths_mem {l : List VT} {x : VT} (hx : x ∈ l) : x.depth ≤ depths l := by
  obtain ⟨j, hj, rfl⟩ := List.getElem_of_mem hx
  exact depth_at (List.getElem?_eq_getElem hj)
theorem len_sizes (l : List VT) : l.length ≤ sizes l := by
  have := sizes_room l 0
  simp [sizes] at this
  exact this
theorem ba_nil {t : ByteArray} (h : t.size = 0) : t = ⟨#[]⟩ := by
  cases t with
  | mk d => cases d with | mk l => simp [ByteArray.size] at h; subst h; rfl
theorem good_mk {k i : Int} {t : ByteArray} {its : List VT} {ks : List ByteArray} (h1 : okF (.mk k i t its ks) = true) (h2 : t.size ≤ 4096) (h2k : ∀ s ∈ ks, s.size ≤ 4096) (h3 : k ≠ 6) (h4 : -9223372036854775808 ≤ i) (h5 : i ≤ 9223372036854775807) (h6 : alls goodF its = true) : (VT.mk k i t its ks).all goodF = true := by
  rw [VT.all_mk, h6, Bool.and_true]
  unfold goodF
  rw [h1, Bool.true_and]
  have e1 : shortF (.mk k i t its ks) = true := by
    unfold shortF
    simp only [Bool.and_eq_true, decide_eq_true_eq, List.all_eq_true]
    exact ⟨h2, h2k⟩
  have e2 : noFut (.mk k i t its ks) = true := by
    unfold noFut
    simp only [decide_eq_true_eq]
    exact h3
  have e3 : inF (.mk k i t its ks) = true := by
    unfold inF
    simp only [Bool.and_eq_true, decide_eq_true_eq]
    exact ⟨h4, h5⟩
  rw [e1, e2, e3]
  rfl

theorem alls_of {p : VT → Bool} : ∀ {l : List VT}, (∀ x ∈ l, x.all p = true) → alls p l = true
  | [], _ => by simp [alls]
  | x :: r, h => by
    rw [alls, h x List.mem_cons_self, alls_of fun y hy => h y (List.mem_cons_of_mem _ hy)]
    rfl
theorem size_mem {l : List VT} {x : VT} (hx : x ∈ l) : x.size ≤ sizes l := by
  obtain ⟨j, hj, rfl⟩ := List.getElem_of_mem hx
  exact size_at (List.getElem?_eq_getElem hj)
theorem all_mono {p q : VT → Bool} (hpq : ∀ x, p x = true → q x = true) : ∀ (m : Nat) (x : VT), x.size ≤ m → x.all p = true → x.all q = true
  | 0, x, h, _ => by have := size_pos x; omega
  | m + 1, .mk k i t its ks, h, hp => by
    rw [VT.size_mk] at h
    rw [VT.all_mk, Bool.and_eq_true] at hp ⊢
    exact ⟨hpq _ hp.1, alls_of fun x hx => all_mono hpq m x (by have := size_mem hx; omega) (alls_mem hp.2 hx)⟩
theorem all_good : ∀ (m : Nat) (x : VT), x.size ≤ m → x.all okF = true → x.all shortF = true → x.all noFut = true → x.all inF = true → x.all goodF = true
  | 0, x, h, _, _, _, _ => by have := size_pos x; omega
  | m + 1, .mk k i t its ks, h, h1, h2, h3, h4 => by
    rw [VT.size_mk] at h
    rw [VT.all_mk, Bool.and_eq_true] at h1 h2 h3 h4 ⊢
    refine ⟨?_, alls_of fun x hx => all_good m x (by have := size_mem hx; omega) (alls_mem h1.2 hx) (alls_mem h2.2 hx) (alls_mem h3.2 hx) (alls_mem h4.2 hx)⟩
    unfold goodF
    rw [h1.1, h2.1, h3.1, h4.1]
    rfl
theorem lies_in {w : World} {R : Nat → Prop} : ∀ (m : Nat) (x : VT) (v : Value), x.size ≤ m → Lies w R x v → x.all inF = true
  | 0, x, _, h, _ => by have := size_pos x; omega
  | m + 1, .mk k i t its ks, v, h, hv => by
    rw [VT.size_mk] at h
    obtain ⟨A, c, A', c', _, _, hi, _, _, _, hl, _, _, _⟩ := hv.open
    rw [VT.all_mk, Bool.and_eq_true]
    refine ⟨?_, alls_of fun x hx => ?_⟩
    · unfold inF
      simp only [Bool.and_eq_true, decide_eq_true_eq]
      exact hi
    · obtain ⟨j, hj, rfl⟩ := List.getElem_of_mem hx
      obtain ⟨_, _, _, _, _, _, _, _, _, _, _, _, _, _, _, _, _, _, hxl⟩ := hl.at_ (List.getElem?_eq_getElem hj)
      exact lies_in m _ _ (by have := size_mem hx; omega) hxl
/-- a payload, by its parts -/
theorem right_parts {x : VT} (h : x.right = true) : x.all okF = true ∧ x.all shortF = true ∧ x.all noFut = true ∧ x.depth ≤ 16 ∧ x.size ≤ 1000 := by
  unfold VT.right VT.wf VT.within at h
  simp only [Bool.and_eq_true, decide_eq_true_eq] at h
  exact ⟨h.1, h.2.1.1, h.2.2, h.2.1.2.1, h.2.1.2.2⟩
theorem right_good {x : VT} (h : x.all goodF = true) (hd : x.depth ≤ 16) (hs : x.size ≤ 1000) : x.right = true := by
  have g1 : ∀ y, goodF y = true → okF y = true := fun y hy => by unfold goodF at hy; simp only [Bool.and_eq_true] at hy; exact hy.1
  have g2 : ∀ y, goodF y = true → shortF y = true := fun y hy => by unfold goodF at hy; simp only [Bool.and_eq_true] at hy; exact hy.2.1
  have g3 : ∀ y, goodF y = true → noFut y = true := fun y hy => by unfold goodF at hy; simp only [Bool.and_eq_true] at hy; exact hy.2.2.1
  have h1 := all_mono g1 _ x (Nat.le_refl _) h
  have h2 := all_mono g2 _ x (Nat.le_refl _) h
  have h3 := all_mono g3 _ x (Nat.le_refl _) h
  unfold VT.right VT.wf VT.within
  rw [h1, h2, h3, decide_eq_true hd, decide_eq_true hs]
  rfl
theorem short_keys {k i : Int} {t : ByteArray} {its : List VT} {ks : List ByteArray} (h : shortF (.mk k i t its ks) = true) : t.size ≤ 4096 ∧ ∀ s ∈ ks, s.size ≤ 4096 := by
  unfold shortF at h
  simp only [Bool.and_eq_true, decide_eq_true_eq, List.all_eq_true] at h
  exact h

theorem good_kind {k i : Int} {t : ByteArray} {its : List VT} {ks : List ByteArray} (h5 : okF (.mk k i t its ks) = true) (h3 : k ≠ 6) : k = 0 ∨ k = 1 ∨ k = 2 ∨ k = 3 ∨ k = 4 ∨ k = 5 := by
  unfold okF at h5
  have e : (VT.mk k i t its ks).k = k := rfl
  rw [e] at h5
  by_cases k0 : k = 0
  · exact Or.inl k0
  by_cases k1 : k = 1
  · exact Or.inr (Or.inl k1)
  by_cases k2 : k = 2
  · exact Or.inr (Or.inr (Or.inl k2))
  by_cases k3 : k = 3
  · exact Or.inr (Or.inr (Or.inr (Or.inl k3)))
  by_cases k4 : k = 4
  · exact Or.inr (Or.inr (Or.inr (Or.inr (Or.inl k4))))
  by_cases k5 : k = 5
  · exact Or.inr (Or.inr (Or.inr (Or.inr (Or.inr k5))))
  rw [if_neg k0, if_neg k1, if_neg k2, if_neg k3, if_neg k4, if_neg k5, if_neg h3] at h5
  cases h5

/-- what follows is no digit -/
def ND (l : List UInt8) : Prop := ∀ c r, l = c :: r → dig c = false
theorem nd_cons {c : UInt8} {r : List UInt8} (h : dig c = false) : ND (c :: r) := fun _ _ e => by injection e with e _; rw [← e]; exact h
theorem nd_nil : ND [] := fun _ _ e => by cases e
theorem at_pre {l pre post : List UInt8} {c : UInt8} (h : l = pre ++ c :: post) : l[pre.length]? = some c := by subst h; simp
theorem skip_at {l pre post : List UInt8} {c : UInt8} (h : l = pre ++ c :: post) (hb : blk c = false) : skip l pre.length = pre.length := run_off (at_pre h) hb
theorem run_all (p : UInt8 → Bool) : ∀ (mid pre post : List UInt8), (∀ c ∈ mid, p c = true) → (∀ c r, post = c :: r → p c = false) → run p (pre ++ (mid ++ post)) pre.length = pre.length + mid.length
  | [], pre, post, _, h => by
    cases post with
    | nil => exact run_end (by simp)
    | cons c r => exact run_off (c := c) (by simp) (h c r rfl)
  | c :: mid, pre, post, h1, h2 => by
    have e : pre ++ (c :: mid ++ post) = (pre ++ [c]) ++ (mid ++ post) := by simp
    rw [run_on (c := c) (by simp) (h1 c List.mem_cons_self)]
    have ih := run_all p mid (pre ++ [c]) post (fun x hx => h1 x (List.mem_cons_of_mem _ hx)) h2
    rw [← e, List.length_append, List.length_singleton] at ih
    rw [ih, List.length_cons]
    omega
theorem wrd_ok : ∀ (w pre post : List UInt8), wrdP (pre ++ (w ++ post)) w pre.length = .ok () (pre.length + w.length)
  | [], _, _ => rfl
  | c :: r, pre, post => by
    have e : pre ++ (c :: r ++ post) = (pre ++ [c]) ++ (r ++ post) := by simp
    rw [wrdP, tkP_ok (c := c) (by simp) (by simp), PR.bind_ok]
    have ih := wrd_ok r (pre ++ [c]) post
    rw [← e, List.length_append, List.length_singleton] at ih
    rw [ih, List.length_cons, show pre.length + 1 + r.length = pre.length + (r.length + 1) by omega]
theorem lit_ok (s : ByteArray) (pre post : List UInt8) (h : s.size ≤ 4096) : litP (pre ++ (s.data.toList.flatMap escB ++ 34 :: post)) pre.length = .ok s (pre.length + (s.data.toList.flatMap escB).length + 1) := by
  have hl : s.data.toList.length ≤ (s.data.toList.flatMap escB).length := by
    have h1 := quoL_len s.data.toList
    have h2 : (quoL s.data.toList).length = (s.data.toList.flatMap escB).length + 2 := by unfold quoL; simp
    omega
  unfold litP
  rw [litL_quo (pre.length - 1) post s.data.toList pre [] _ (by rw [List.length_append, List.length_append]; omega), List.nil_append, if_pos (by rw [ba_size]; exact h), PR.bind_ok]

theorem dig_nat' {c : UInt8} : dig c = decide (48 ≤ c.toNat ∧ c.toNat ≤ 57) := by
  unfold dig
  rw [Bool.eq_iff_iff, Bool.and_eq_true, decide_eq_true_iff, decide_eq_true_iff, decide_eq_true_iff, UInt8.le_iff_toNat_le, UInt8.le_iff_toNat_le]
  exact Iff.rfl
theorem dig1_nat {c : UInt8} : dig1 c = decide (49 ≤ c.toNat ∧ c.toNat ≤ 57) := by
  unfold dig1
  rw [Bool.eq_iff_iff, Bool.and_eq_true, decide_eq_true_iff, decide_eq_true_iff, decide_eq_true_iff, UInt8.le_iff_toNat_le, UInt8.le_iff_toNat_le]
  exact Iff.rfl
theorem dec_digs (u : Nat) : ∀ c ∈ Lib.decDigits u, dig c = true := fun c hc => by rw [dig_nat']; exact decide_eq_true (dec_all u c hc)
theorem dec_first (u : Nat) : 1 ≤ u → ∃ c r, Lib.decDigits u = c :: r ∧ 49 ≤ c.toNat ∧ c.toNat ≤ 57 := by
  induction u using Nat.strongRecOn with
  | ind u ih =>
    intro hu
    rw [Lib.decDigits]
    split
    · rename_i h
      exact ⟨_, [], rfl, by rw [dig_nat u h]; omega, by rw [dig_nat u h]; omega⟩
    · rename_i h
      obtain ⟨c, r, e, h1, h2⟩ := ih (u / 10) (by omega) (by omega)
      rw [e]
      exact ⟨c, _, rfl, h1, h2⟩
theorem dec_zero : Lib.decDigits 0 = [48] := by rw [Lib.decDigits, dif_pos (by decide)]; rfl
theorem slice_mid (pre m post : List UInt8) : ((pre ++ (m ++ post)).drop pre.length).take (pre.length + m.length - pre.length) = m := by
  rw [List.drop_left, show pre.length + m.length - pre.length = m.length by omega, List.take_left]
theorem num_ok {pre m post : List UInt8} {v : Int} (h : Lib.atoiAll m = .ok v) : numE (pre ++ (m ++ post)) pre.length (pre.length + m.length) = .ok v (pre.length + m.length) := by
  unfold numE
  rw [slice_mid, h]
/-- the first byte of an integer, and what is read behind it -/
theorem int_ok {v : Int} (h0 : -9223372036854775808 ≤ v) (h1 : v ≤ 9223372036854775807) {post : List UInt8} (hp : ND post) : ∃ c r, Lib.itoa v = c :: r ∧ (c = 45 ∨ dig c = true) ∧ ∀ pre, intP (pre ++ (Lib.itoa v ++ post)) c (pre.length + 1) = .ok v (pre.length + (Lib.itoa v).length) := by
  have ha := atoi_itoa h0 h1
  by_cases hn : v < 0
  · obtain ⟨u, rfl⟩ : ∃ u : Nat, v = -(u : Int) := ⟨v.natAbs, by omega⟩
    rw [Lib.itoa_neg u (by omega)] at ha ⊢
    refine ⟨45, _, rfl, .inl rfl, fun pre => ?_⟩
    obtain ⟨d, r, e, e1, e2⟩ := dec_first u (by omega)
    have hd := dec_digs u
    rw [e] at ha hd ⊢
    have hl : pre ++ (45 :: d :: r ++ post) = (pre ++ [45, d]) ++ (r ++ post) := by simp
    unfold intP
    rw [if_pos rfl, tkP_ok (c := d) (by rw [show pre ++ (45 :: d :: r ++ post) = (pre ++ [45]) ++ d :: (r ++ post) by simp, show pre.length + 1 = (pre ++ [45]).length by simp]; simp) (by rw [dig1_nat]; exact decide_eq_true ⟨e1, e2⟩), PR.bind_ok]
    have hr := run_all dig r (pre ++ [45, d]) post (fun c hc => hd c (List.mem_cons_of_mem _ hc)) hp
    rw [← hl] at hr
    rw [show pre.length + 1 + 1 = (pre ++ [45, d]).length by simp, hr, Nat.add_sub_cancel, show (pre ++ [45, d]).length + r.length = pre.length + (45 :: d :: r).length by simp; omega]
    exact num_ok ha
  · obtain ⟨u, rfl⟩ : ∃ u : Nat, v = (u : Int) := ⟨v.natAbs, by omega⟩
    rw [Lib.itoa_nonneg] at ha ⊢
    obtain ⟨c, r, e⟩ := dec_cons u
    have hd := dec_digs u
    have hz : c = 48 → r = [] := fun hc => by
      rcases Nat.eq_zero_or_pos u with h | h
      · subst h
        rw [dec_zero] at e
        injection e with _ e
        exact e.symm
      · obtain ⟨d, q, e', e1, _⟩ := dec_first u h
        rw [e'] at e
        injection e with e _
        subst e hc
        exact absurd e1 (by decide)
    rw [e] at ha hd ⊢
    have hc := hd c List.mem_cons_self
    refine ⟨c, r, rfl, .inr hc, fun pre => ?_⟩
    have hl : pre ++ (c :: r ++ post) = (pre ++ [c]) ++ (r ++ post) := by simp
    unfold intP
    rw [if_neg (fun e => by rw [e] at hc; exact absurd hc (by decide))]
    rw [if_neg]
    · have hr := run_all dig r (pre ++ [c]) post (fun c hc => hd c (List.mem_cons_of_mem _ hc)) hp
      rw [← hl] at hr
      rw [show pre.length + 1 = (pre ++ [c]).length by simp, hr, show (pre ++ [c]).length - 1 = pre.length by simp, show (pre ++ [c]).length + r.length = pre.length + (c :: r).length by simp; omega]
      exact num_ok ha
    · rintro ⟨h48, h⟩
      have hr := hz h48
      subst hr
      rw [hl, List.nil_append, show pre.length + 1 = (pre ++ [c]).length by simp] at h
      cases post with
      | nil => simp at h
      | cons d q =>
        rw [at_pre rfl] at h
        have := hp d q rfl
        simp only [Option.elim] at h
        rw [this] at h
        cases h
end Go.Proofs.YtjblchdfkcbodaaGreatDoor
namespace Go.Proofs.YtjblchdfkcbodaaGreatDoor
open Go.RowKit

/-- val reads the texts of these values in l -/
def RdsT (l : List UInt8) (val : Nat → Nat → PR (VT × Nat)) (x : VT) : Prop :=
  ∀ (pre post : List UInt8) (n i : Nat), l = pre ++ (x.txt ++ post) → ND post → skip l i = pre.length → n + x.size ≤ 1000 → val i n = .ok (x, n + x.size) (pre.length + x.txt.length)
/-- the first byte of a text -/
def Opens (l : List UInt8) : Prop := ∃ c r, l = c :: r ∧ sta c = true ∧ blk c = false ∧ c ≠ 93 ∧ c ≠ 125
theorem opens_dig {c : UInt8} (h : c = 45 ∨ dig c = true) : sta c = true ∧ blk c = false ∧ c ≠ 93 ∧ c ≠ 125 := by
  rcases h with rfl | h
  · decide
  · have h2 := h
    rw [dig_nat', decide_eq_true_iff] at h2
    refine ⟨by unfold sta; rw [h]; simp, ?_, fun e => by subst e; exact absurd h (by decide), fun e => by subst e; exact absurd h (by decide)⟩
    unfold blk
    rw [Bool.eq_false_iff]
    intro e
    simp only [Bool.or_eq_true, beq_iff_eq] at e
    rcases e with ((e | e) | e) | e <;> (subst e; exact absurd h (by decide))
theorem txt_opens (x : VT) (hg : x.all goodF = true) : Opens x.txt := by
  obtain ⟨k, i, t, its, ks⟩ := x
  rw [VT.all_mk, Bool.and_eq_true] at hg
  obtain ⟨hg, _⟩ := hg
  unfold goodF inF at hg
  simp only [Bool.and_eq_true, decide_eq_true_eq] at hg
  have h4a : -9223372036854775808 ≤ i := hg.2.2.2.1
  have h4b : i ≤ 9223372036854775807 := hg.2.2.2.2
  rw [VT.txt_mk]
  repeat' split
  · unfold boolL
    split
    · exact ⟨116, _, rfl, by decide⟩
    · exact ⟨102, _, rfl, by decide⟩
  · obtain ⟨c, r, e, h, _⟩ := int_ok h4a h4b nd_nil
    exact ⟨c, r, e, opens_dig h⟩
  · exact ⟨34, _, rfl, by decide⟩
  · exact ⟨91, _, rfl, by decide⟩
  · exact ⟨123, _, rfl, by decide⟩
  · exact ⟨110, _, rfl, by decide⟩
theorem Opens.skip {m pre post : List UInt8} (h : Opens m) : skip (pre ++ (m ++ post)) pre.length = pre.length := by
  obtain ⟨c, r, rfl, _, hb, _⟩ := h
  exact skip_at (c := c) (post := r ++ post) (by simp) hb
theorem quo_opens (s : List UInt8) : Opens (quoL s) := ⟨34, _, rfl, by decide⟩
theorem tk_at {p : UInt8 → Bool} {l pre post : List UInt8} {c : UInt8} (h : l = pre ++ c :: post) (hp : p c = true) : tkP p l pre.length = .ok c (pre.length + 1) := tkP_ok (at_pre h) hp

theorem more_list {val : Nat → Nat → PR (VT × Nat)} {l post : List UInt8} : ∀ (r : List VT) (x : VT) (pre : List UInt8) (acc : List VT) (n f i : Nat) (ks : List ByteArray),
    (∀ y ∈ x :: r, RdsT l val y ∧ Opens y.txt) → l = pre ++ (x.txt ++ (txts false false r ks ++ 93 :: post)) → skip l i = pre.length → n + sizes (x :: r) ≤ 1000 → r.length < f →
    moreP (elL val) 93 l f i (acc, n) = .ok (acc ++ x :: r, n + sizes (x :: r)) (pre.length + x.txt.length + (txts false false r ks).length + 1)
  | [], x, pre, acc, n, f, i, ks, hr, hl, hi, hn, hf => by
    obtain ⟨g, rfl⟩ : ∃ g, f = g + 1 := ⟨f - 1, by simp at hf; omega⟩
    obtain ⟨hx, ho⟩ := hr x List.mem_cons_self
    have hl2 : l = pre ++ (x.txt ++ 93 :: post) := by rw [hl]; simp [txts]
    have hv := hx pre (93 :: post) n pre.length hl2 (nd_cons (by decide)) (by rw [hl2]; exact ho.skip) (by simp [sizes] at hn; omega)
    have hl3 : l = (pre ++ x.txt) ++ 93 :: post := by rw [hl2]; simp
    have hs := skip_at hl3 (by decide)
    have ht := tk_at (p := fun x => x == 44 || x == 93) hl3 (by decide)
    rw [List.length_append] at hs ht
    rw [moreP, hi]
    unfold elL
    rw [hv, PR.bind_ok, PR.bind_ok, hs, ht, PR.bind_ok, if_neg (by decide)]
    simp [sizes, txts]
  | y :: r, x, pre, acc, n, f, i, ks, hr, hl, hi, hn, hf => by
    obtain ⟨g, rfl⟩ : ∃ g, f = g + 1 := ⟨f - 1, by simp at hf; omega⟩
    obtain ⟨hx, ho⟩ := hr x List.mem_cons_self
    obtain ⟨_, ho2⟩ := hr y (List.mem_cons_of_mem _ List.mem_cons_self)
    have ht0 : txts false false (y :: r) ks = [44, 32] ++ (y.txt ++ txts false false r ks.tail) := by rw [txts]; simp
    rw [ht0] at hl
    have hl2 : l = pre ++ (x.txt ++ 44 :: (32 :: (y.txt ++ (txts false false r ks.tail ++ 93 :: post)))) := by rw [hl]; simp
    have hsz : sizes (x :: y :: r) = x.size + sizes (y :: r) := by rw [sizes]
    have hv := hx pre _ n pre.length hl2 (nd_cons (by decide)) (by rw [hl2]; exact ho.skip) (by omega)
    have hl3 : l = (pre ++ x.txt) ++ 44 :: (32 :: (y.txt ++ (txts false false r ks.tail ++ 93 :: post))) := by rw [hl2]; simp
    have hs := skip_at hl3 (by decide)
    have ht := tk_at (p := fun x => x == 44 || x == 93) hl3 (by decide)
    rw [List.length_append] at hs ht
    have hl4 : l = (pre ++ x.txt ++ [44, 32]) ++ (y.txt ++ (txts false false r ks.tail ++ 93 :: post)) := by rw [hl2]; simp
    have hs4 : skip l (pre.length + x.txt.length + 1) = (pre ++ x.txt ++ [44, 32]).length := by
      have h32 : l[pre.length + x.txt.length + 1]? = some 32 := by
        have e : l = (pre ++ x.txt ++ [44]) ++ 32 :: (y.txt ++ (txts false false r ks.tail ++ 93 :: post)) := by rw [hl2]; simp
        have := at_pre e
        have e_1 : (pre ++ x.txt ++ [44]).length = pre.length + x.txt.length + 1 := by simp <;> omega
        rw [e_1] at this
        exact this
      have hk : skip l (pre ++ x.txt ++ [44, 32]).length = (pre ++ x.txt ++ [44, 32]).length := by
        rw [hl4]; exact ho2.skip
      have e_2 : (pre ++ x.txt ++ [44, 32]).length = pre.length + x.txt.length + 1 + 1 := by simp <;> omega
      rw [e_2] at hk ⊢
      unfold skip
      rw [run_on h32 (by decide)]
      exact hk
    have ih := more_list r y (pre ++ x.txt ++ [44, 32]) (acc ++ [x]) (n + x.size) g _ ks.tail (fun z hz => hr z (List.mem_cons_of_mem _ hz)) hl4 hs4 (by omega) (by simp at hf; omega)
    rw [moreP, hi]
    unfold elL at ih ⊢
    rw [hv, PR.bind_ok, PR.bind_ok, hs, ht, PR.bind_ok, if_pos rfl, ih, ht0, hsz]
    simp [Nat.add_assoc, Nat.add_left_comm]
    omega

theorem posOf_last {ks kr : List ByteArray} {t : ByteArray} (h : rising (ks ++ t :: kr) = true) : Pos ks t ks.length := by
  refine ⟨Nat.le_refl _, fun q hq => ?_, fun q h1 h2 => absurd h1 (by omega)⟩
  have := rising_lt h (i := q) (j := ks.length) hq (by simp)
  have e1 : (ks ++ t :: kr).getD q ByteArray.empty = ks.getD q ByteArray.empty := by
    rw [List.getD_eq_getElem?_getD, List.getElem?_append_left hq, List.getD_eq_getElem?_getD]
  have e2 : (ks ++ t :: kr).getD ks.length ByteArray.empty = t := by
    rw [List.getD_eq_getElem?_getD, List.getElem?_append_right (Nat.le_refl _)]; simp
  rw [e1, e2] at this
  exact this
theorem rising_front {a b : List ByteArray} (h : rising (a ++ b) = true) : rising a = true := by
  refine rising_of fun i hi => ?_
  have := rising_lt h (i := i) (j := i + 1) (by omega) (by rw [List.length_append]; omega)
  rw [List.getD_eq_getElem?_getD, List.getElem?_append_left (by omega), List.getD_eq_getElem?_getD, List.getElem?_append_left (by omega)] at this
  rw [List.getD_eq_getElem?_getD, List.getD_eq_getElem?_getD]
  exact this
theorem el_map {val : Nat → Nat → PR (VT × Nat)} {l pre post : List UInt8} {x : VT} {key : ByteArray} {ks kr : List ByteArray} {its : List VT} {n : Nat} (hx : RdsT l val x) (ho : Opens x.txt)
    (hl : l = pre ++ (quoL key.data.toList ++ 58 :: (32 :: (x.txt ++ post)))) (hp : ND post) (hk : key.size ≤ 4096) (hr : rising (ks ++ key :: kr) = true) (hi : its.length = ks.length) (hn : n + x.size ≤ 1000) :
    elM l val (ks, its, n) pre.length = .ok (ks ++ [key], its ++ [x], n + x.size) (pre.length + (quoL key.data.toList).length + 2 + x.txt.length) := by
  have hpos := posOf_last hr
  have hdup : (ks.any fun q => decide (q = key)) = false := by
    rw [found_eq (rising_front hr) hpos]
    unfold isAt
    rw [decide_eq_false (by omega)]; rfl
  have hq : (quoL key.data.toList).length = (key.data.toList.flatMap escB).length + 2 := by unfold quoL; simp
  have hl2 : l = pre ++ 34 :: (key.data.toList.flatMap escB ++ 34 :: (58 :: (32 :: (x.txt ++ post)))) := by rw [hl]; unfold quoL; simp
  have hl3 : l = (pre ++ [34]) ++ (key.data.toList.flatMap escB ++ 34 :: (58 :: (32 :: (x.txt ++ post)))) := by rw [hl2]; simp
  have hlit := lit_ok key (pre ++ [34]) (58 :: (32 :: (x.txt ++ post))) hk
  rw [← hl3, List.length_append, List.length_singleton] at hlit
  have hj : pre.length + 1 + (key.data.toList.flatMap escB).length + 1 = (pre ++ quoL key.data.toList).length := by rw [List.length_append, hq]; omega
  have hl4 : l = (pre ++ quoL key.data.toList) ++ 58 :: (32 :: (x.txt ++ post)) := by rw [hl]; simp
  have hs4 := skip_at hl4 (by decide)
  have ht4 := tk_at (p := fun x => x == 58) hl4 (by decide)
  have hl5 : l = (pre ++ quoL key.data.toList ++ [58, 32]) ++ (x.txt ++ post) := by rw [hl]; simp
  have hs5 : skip l ((pre ++ quoL key.data.toList).length + 1) = (pre ++ quoL key.data.toList ++ [58, 32]).length := by
    have e : l = (pre ++ quoL key.data.toList ++ [58]) ++ 32 :: (x.txt ++ post) := by rw [hl]; simp
    have h32 := at_pre e
    have e_3 : (pre ++ quoL key.data.toList ++ [58]).length = (pre ++ quoL key.data.toList).length + 1 := by simp <;> omega
    rw [e_3] at h32
    have hk : skip l (pre ++ quoL key.data.toList ++ [58, 32]).length = (pre ++ quoL key.data.toList ++ [58, 32]).length := by
      rw [hl5]; exact ho.skip
    have e_4 : (pre ++ quoL key.data.toList ++ [58, 32]).length = (pre ++ quoL key.data.toList).length + 1 + 1 := by simp <;> omega
    rw [e_4] at hk ⊢
    unfold skip
    rw [run_on h32 (by decide)]
    exact hk
  have hv := hx _ post n _ hl5 hp hs5 hn
  unfold elM
  rw [tk_at hl2 (by decide), PR.bind_ok, hlit, PR.bind_ok]
  simp only
  rw [hdup, if_neg (by decide), hj, hs4, ht4, PR.bind_ok, hv, PR.bind_ok, posOf_eq hpos]
  unfold insAt
  rw [List.take_length, List.drop_length, ← hi, List.take_length, List.drop_length]
  congr 1
  simp
  omega
theorem more_map {val : Nat → Nat → PR (VT × Nat)} {l post : List UInt8} : ∀ (r : List VT) (x : VT) (key : ByteArray) (kr : List ByteArray) (pre : List UInt8) (kacc : List ByteArray) (acc : List VT) (n f i : Nat),
    (∀ y ∈ x :: r, RdsT l val y ∧ Opens y.txt) → l = pre ++ (quoL key.data.toList ++ 58 :: (32 :: (x.txt ++ (txts true false r kr ++ 125 :: post)))) → skip l i = pre.length → n + sizes (x :: r) ≤ 1000 → r.length < f →
    rising (kacc ++ key :: kr) = true → acc.length = kacc.length → kr.length = r.length → (∀ s ∈ key :: kr, s.size ≤ 4096) →
    moreP (elM l val) 125 l f i (kacc, acc, n) = .ok (kacc ++ key :: kr, acc ++ x :: r, n + sizes (x :: r)) (pre.length + (quoL key.data.toList).length + 2 + x.txt.length + (txts true false r kr).length + 1)
  | [], x, key, kr, pre, kacc, acc, n, f, i, hr, hl, hi, hn, hf, hris, hlen, hkr, hks => by
    obtain ⟨g, rfl⟩ : ∃ g, f = g + 1 := ⟨f - 1, by simp at hf; omega⟩
    obtain rfl := List.eq_nil_of_length_eq_zero hkr
    obtain ⟨hx, ho⟩ := hr x List.mem_cons_self
    have hl2 : l = pre ++ (quoL key.data.toList ++ 58 :: (32 :: (x.txt ++ 125 :: post))) := by rw [hl]; simp [txts]
    have he := el_map hx ho hl2 (nd_cons (by decide)) (hks key List.mem_cons_self) hris hlen (by simp [sizes] at hn; omega)
    have hl3 : l = (pre ++ quoL key.data.toList ++ [58, 32] ++ x.txt) ++ 125 :: post := by rw [hl2]; simp
    have hs := skip_at hl3 (by decide)
    have ht := tk_at (p := fun x => x == 44 || x == 125) hl3 (by decide)
    have e_5 : (pre ++ quoL key.data.toList ++ [58, 32] ++ x.txt).length = pre.length + (quoL key.data.toList).length + 2 + x.txt.length := by simp <;> omega
    rw [e_5] at hs ht
    rw [moreP, hi, he, PR.bind_ok, hs, ht, PR.bind_ok, if_neg (by decide)]
    simp [sizes, txts]
  | y :: r, x, key, kr, pre, kacc, acc, n, f, i, hr, hl, hi, hn, hf, hris, hlen, hkr, hks => by
    obtain ⟨g, rfl⟩ : ∃ g, f = g + 1 := ⟨f - 1, by simp at hf; omega⟩
    obtain ⟨key2, kr, rfl⟩ : ∃ a b, kr = a :: b := by
      cases kr with
      | nil => simp at hkr
      | cons a b => exact ⟨a, b, rfl⟩
    obtain ⟨hx, ho⟩ := hr x List.mem_cons_self
    have ht0 : txts true false (y :: r) (key2 :: kr) = [44, 32] ++ (quoL key2.data.toList ++ 58 :: (32 :: (y.txt ++ txts true false r kr))) := by rw [txts]; simp
    rw [ht0] at hl
    have hl2 : l = pre ++ (quoL key.data.toList ++ 58 :: (32 :: (x.txt ++ 44 :: (32 :: (quoL key2.data.toList ++ 58 :: (32 :: (y.txt ++ (txts true false r kr ++ 125 :: post)))))))) := by rw [hl]; simp
    have hsz : sizes (x :: y :: r) = x.size + sizes (y :: r) := by rw [sizes]
    have he := el_map (n := n) hx ho hl2 (nd_cons (by decide)) (hks key List.mem_cons_self) hris hlen (by omega)
    have hl3 : l = (pre ++ quoL key.data.toList ++ [58, 32] ++ x.txt) ++ 44 :: (32 :: (quoL key2.data.toList ++ 58 :: (32 :: (y.txt ++ (txts true false r kr ++ 125 :: post))))) := by rw [hl2]; simp
    have hs := skip_at hl3 (by decide)
    have ht := tk_at (p := fun x => x == 44 || x == 125) hl3 (by decide)
    have hl4 : l = (pre ++ quoL key.data.toList ++ [58, 32] ++ x.txt ++ [44, 32]) ++ (quoL key2.data.toList ++ 58 :: (32 :: (y.txt ++ (txts true false r kr ++ 125 :: post)))) := by rw [hl2]; simp
    have hs4 : skip l ((pre ++ quoL key.data.toList ++ [58, 32] ++ x.txt).length + 1) = (pre ++ quoL key.data.toList ++ [58, 32] ++ x.txt ++ [44, 32]).length := by
      have e : l = (pre ++ quoL key.data.toList ++ [58, 32] ++ x.txt ++ [44]) ++ 32 :: (quoL key2.data.toList ++ 58 :: (32 :: (y.txt ++ (txts true false r kr ++ 125 :: post)))) := by rw [hl2]; simp
      have h32 := at_pre e
      have e_6 : (pre ++ quoL key.data.toList ++ [58, 32] ++ x.txt ++ [44]).length = (pre ++ quoL key.data.toList ++ [58, 32] ++ x.txt).length + 1 := by simp <;> omega
      rw [e_6] at h32
      have hk : skip l (pre ++ quoL key.data.toList ++ [58, 32] ++ x.txt ++ [44, 32]).length = (pre ++ quoL key.data.toList ++ [58, 32] ++ x.txt ++ [44, 32]).length := by
        rw [hl4]; exact (quo_opens _).skip
      have e_7 : (pre ++ quoL key.data.toList ++ [58, 32] ++ x.txt ++ [44, 32]).length = (pre ++ quoL key.data.toList ++ [58, 32] ++ x.txt).length + 1 + 1 := by simp <;> omega
      rw [e_7] at hk ⊢
      unfold skip
      rw [run_on h32 (by decide)]
      exact hk
    have ih := more_map r y key2 kr (pre ++ quoL key.data.toList ++ [58, 32] ++ x.txt ++ [44, 32]) (kacc ++ [key]) (acc ++ [x]) (n + x.size) g _ (fun z hz => hr z (List.mem_cons_of_mem _ hz)) hl4 hs4 (by omega) (by simp at hf; omega) (by simpa using hris) (by simpa using hlen) (by simpa using hkr) (fun s h => hks s (List.mem_cons_of_mem _ h))
    have hle : (pre ++ quoL key.data.toList ++ [58, 32] ++ x.txt).length = pre.length + (quoL key.data.toList).length + 2 + x.txt.length := by simp; omega
    rw [moreP, hi, he, PR.bind_ok, ← hle, hs, ht, PR.bind_ok, if_pos rfl, ih, ht0, hsz]
    simp [Nat.add_assoc, Nat.add_left_comm]
    omega

theorem elems_list {val : Nat → Nat → PR (VT × Nat)} {l pre post : List UInt8} {its : List VT} {ks : List ByteArray} {n : Nat} (hr : ∀ y ∈ its, RdsT l val y ∧ Opens y.txt) (hl : l = pre ++ (txts false true its ks ++ 93 :: post)) (hn : n + sizes its ≤ 1000) :
    elemsP (elL val) 93 l pre.length ([], n) = .ok (its, n + sizes its) (pre.length + (txts false true its ks).length + 1) := by
  cases its with
  | nil =>
    have hl2 : l = pre ++ 93 :: post := by rw [hl]; simp [txts]
    unfold elemsP
    rw [skip_at hl2 (by decide), at_pre hl2]
    simp [sizes, txts]
  | cons x r =>
    have ht0 : txts false true (x :: r) ks = x.txt ++ txts false false r ks.tail := by rw [txts]; simp
    rw [ht0] at hl ⊢
    have hl2 : l = pre ++ (x.txt ++ (txts false false r ks.tail ++ 93 :: post)) := by rw [hl]; simp
    obtain ⟨c, q, hc, _, hb, h93, _⟩ := (hr x List.mem_cons_self).2
    have hl3 : l = pre ++ c :: (q ++ (txts false false r ks.tail ++ 93 :: post)) := by rw [hl2, hc]; simp
    have hs := skip_at hl3 hb
    have hm := more_list r x pre [] n (l.length + 1) pre.length ks.tail hr hl2 hs hn (by
      have h1 := len_sizes (x :: r)
      have h2 : r.length ≤ (txts false false r ks.tail).length := by
        have : ∀ (r : List VT) (ks : List ByteArray), r.length ≤ (txts false false r ks).length := fun r => by
          induction r with
          | nil => intro ks; simp
          | cons y r ih => intro ks; rw [txts]; have := ih ks.tail; simp; omega
        exact this r _
      rw [hl2]; simp; omega)
    unfold elemsP
    rw [hs, at_pre hl3]
    show (if c = 93 then _ else _) = _
    rw [if_neg h93, hm]
    simp [Nat.add_assoc]
theorem elems_map {val : Nat → Nat → PR (VT × Nat)} {l pre post : List UInt8} {its : List VT} {ks : List ByteArray} {n : Nat} (hr : ∀ y ∈ its, RdsT l val y ∧ Opens y.txt) (hl : l = pre ++ (txts true true its ks ++ 125 :: post)) (hn : n + sizes its ≤ 1000)
    (hk : ks.length = its.length) (hris : rising ks = true) (hks : ∀ s ∈ ks, s.size ≤ 4096) :
    elemsP (elM l val) 125 l pre.length ([], [], n) = .ok (ks, its, n + sizes its) (pre.length + (txts true true its ks).length + 1) := by
  cases its with
  | nil =>
    obtain rfl := List.eq_nil_of_length_eq_zero hk
    have hl2 : l = pre ++ 125 :: post := by rw [hl]; simp [txts]
    unfold elemsP
    rw [skip_at hl2 (by decide), at_pre hl2]
    simp [sizes, txts]
  | cons x r =>
    obtain ⟨key, kr, rfl⟩ : ∃ a b, ks = a :: b := by
      cases ks with
      | nil => simp at hk
      | cons a b => exact ⟨a, b, rfl⟩
    have ht0 : txts true true (x :: r) (key :: kr) = quoL key.data.toList ++ 58 :: (32 :: (x.txt ++ txts true false r kr)) := by rw [txts]; simp
    rw [ht0] at hl ⊢
    have hl2 : l = pre ++ (quoL key.data.toList ++ 58 :: (32 :: (x.txt ++ (txts true false r kr ++ 125 :: post)))) := by rw [hl]; simp
    have hl3 : l = pre ++ 34 :: (key.data.toList.flatMap escB ++ 34 :: (58 :: (32 :: (x.txt ++ (txts true false r kr ++ 125 :: post))))) := by rw [hl2]; unfold quoL; simp
    have hs := skip_at hl3 (by decide)
    have hm := more_map r x key kr pre [] [] n (l.length + 1) pre.length hr hl2 hs hn (by
      have h2 : r.length ≤ (txts true false r kr).length := by
        have : ∀ (r : List VT) (ks : List ByteArray), r.length ≤ (txts true false r ks).length := fun r => by
          induction r with
          | nil => intro ks; simp
          | cons y r ih => intro ks; rw [txts]; have := ih ks.tail; simp; omega
        exact this r _
      rw [hl2]; simp; omega) hris rfl (by simpa using hk) hks
    unfold elemsP
    rw [hs, at_pre hl3]
    show (if (34 : UInt8) = 125 then _ else _) = _
    rw [if_neg (by decide), hm]
    simp [Nat.add_assoc]
    omega

theorem valP_txt {l : List UInt8} : ∀ (f : Nat) (x : VT), x.all goodF = true → x.depth ≤ f → RdsT l (valP l f) x
  | 0, x, _, hd => by have := depth_pos x; omega
  | f + 1, .mk k i t its ks, hg0, hd => by
    intro pre post n i0 hl hp hsk hn
    have hop := txt_opens _ hg0
    have hg := hg0
    rw [VT.all_mk, Bool.and_eq_true] at hg
    obtain ⟨hg, hgs⟩ := hg
    rw [VT.depth_mk] at hd
    rw [VT.size_mk] at hn ⊢
    unfold goodF at hg
    simp only [Bool.and_eq_true] at hg
    obtain ⟨h1, h2, h3, h4⟩ := hg
    have ih : ∀ y ∈ its, RdsT l (valP l f) y ∧ Opens y.txt := fun y hy =>
      ⟨valP_txt f y (alls_mem hgs hy) (by have := depths_mem hy; omega), txt_opens y (alls_mem hgs hy)⟩
    have h2' := short_keys h2
    clear h2
    obtain ⟨h2, h2k⟩ := h2'
    unfold inF at h4
    simp only [Bool.and_eq_true, decide_eq_true_eq] at h4
    have h4a : -9223372036854775808 ≤ i := h4.1
    have h4b : i ≤ 9223372036854775807 := h4.2
    unfold noFut at h3
    have h3 : k ≠ 6 := of_decide_eq_true h3
    have hk := good_kind h1 h3
    obtain ⟨c, q, hc, hst, hb, _, _⟩ := hop
    have hl1 : l = pre ++ c :: (q ++ post) := by rw [hl, hc]; simp
    rw [valP, hsk, tk_at hl1 hst, PR.bind_ok, if_neg (by omega)]
    have hi1 : pre.length + 1 = (pre ++ [c]).length := by simp
    have hl5 : l = (pre ++ [c]) ++ (q ++ post) := by rw [hl1]; simp
    rw [VT.txt_mk] at hc hl ⊢
    rcases hk with rfl | rfl | rfl | rfl | rfl | rfl
    · rw [okF_0] at h1
      simp only [Bool.and_eq_true, decide_eq_true_eq] at h1
      obtain ⟨rfl, ht, hi, hks⟩ := h1
      obtain rfl := ba_nil ht
      obtain rfl := List.eq_nil_of_length_eq_zero hi
      obtain rfl := List.eq_nil_of_length_eq_zero hks
      have hc' : [110, 117, 108, 108] = c :: q := hc
      injection hc' with e1 e2
      subst e1 e2
      have hw := wrd_ok [117, 108, 108] (pre ++ [110]) post
      rw [← hl5] at hw
      rw [hi1]
      unfold bodP
      rw [if_pos rfl, hw, PR.bind_ok]
      simp [sizes]
      rfl
    · rw [okF_1] at h1
      simp only [Bool.and_eq_true, Bool.or_eq_true, decide_eq_true_eq] at h1
      obtain ⟨h01, ht, hi, hks⟩ := h1
      obtain rfl := ba_nil ht
      obtain rfl := List.eq_nil_of_length_eq_zero hi
      obtain rfl := List.eq_nil_of_length_eq_zero hks
      rcases h01 with rfl | rfl
      · have hc' : [102, 97, 108, 115, 101] = c :: q := hc
        injection hc' with e1 e2
        subst e1 e2
        have hw := wrd_ok [97, 108, 115, 101] (pre ++ [102]) post
        rw [← hl5] at hw
        rw [hi1]
        unfold bodP
        rw [if_neg (by decide), if_neg (by decide), if_pos rfl, hw, PR.bind_ok]
        simp [sizes, boolL]
      · have hc' : [116, 114, 117, 101] = c :: q := hc
        injection hc' with e1 e2
        subst e1 e2
        have hw := wrd_ok [114, 117, 101] (pre ++ [116]) post
        rw [← hl5] at hw
        rw [hi1]
        unfold bodP
        rw [if_neg (by decide), if_pos rfl, hw, PR.bind_ok]
        simp [sizes, boolL]
    · rw [okF_2] at h1
      simp only [Bool.and_eq_true, decide_eq_true_eq] at h1
      obtain ⟨ht, hi, hks⟩ := h1
      obtain rfl := ba_nil ht
      obtain rfl := List.eq_nil_of_length_eq_zero hi
      obtain rfl := List.eq_nil_of_length_eq_zero hks
      have hc' : Lib.itoa i = c :: q := hc
      obtain ⟨c', q', e, hcd, hint⟩ := int_ok h4a h4b hp
      rw [hc'] at e
      injection e with e1 e2
      subst e1 e2
      have hl' : l = pre ++ (Lib.itoa i ++ post) := hl
      have hint := hint pre
      rw [← hl'] at hint
      have ho := opens_dig hcd
      have hx : c ≠ 110 ∧ c ≠ 116 ∧ c ≠ 102 ∧ c ≠ 34 ∧ c ≠ 91 ∧ c ≠ 123 := by
        rcases hcd with rfl | hcd
        · decide
        · refine ⟨?_, ?_, ?_, ?_, ?_, ?_⟩ <;> (rintro rfl; exact absurd hcd (by decide))
      obtain ⟨x1, x2, x3, x4, x5, x6⟩ := hx
      unfold bodP
      rw [if_neg x1, if_neg x2, if_neg x3, if_neg x4, if_neg x5, if_neg x6, hint, PR.bind_ok]
      simp [sizes]
    · rw [okF_3] at h1
      simp only [Bool.and_eq_true, decide_eq_true_eq] at h1
      obtain ⟨rfl, hi, hks⟩ := h1
      obtain rfl := List.eq_nil_of_length_eq_zero hi
      obtain rfl := List.eq_nil_of_length_eq_zero hks
      have hc' : 34 :: (t.data.toList.flatMap escB ++ [34]) = c :: q := hc
      injection hc' with e1 e2
      subst e1 e2
      have hlit := lit_ok t (pre ++ [34]) post h2
      have hl6 : l = (pre ++ [34]) ++ (t.data.toList.flatMap escB ++ 34 :: post) := by rw [hl5]; simp
      rw [← hl6] at hlit
      rw [hi1]
      unfold bodP
      rw [if_neg (by decide), if_neg (by decide), if_neg (by decide), if_pos rfl, hlit, PR.bind_ok]
      simp [sizes, quoL]
      omega
    · rw [okF_4] at h1
      simp only [Bool.and_eq_true, decide_eq_true_eq] at h1
      obtain ⟨rfl, ht, hks⟩ := h1
      obtain rfl := ba_nil ht
      obtain rfl := List.eq_nil_of_length_eq_zero hks
      have hc' : 91 :: (txts false true its [] ++ [93]) = c :: q := hc
      injection hc' with e1 e2
      subst e1 e2
      have hl6 : l = (pre ++ [91]) ++ (txts false true its [] ++ 93 :: post) := by rw [hl5]; simp
      have he := elems_list (n := n + 1) ih hl6 (by omega)
      rw [hi1]
      unfold bodP
      rw [if_neg (by decide), if_neg (by decide), if_neg (by decide), if_neg (by decide), if_pos rfl, he, PR.bind_ok]
      simp [Nat.add_assoc]
      omega
    · rw [okF_5] at h1
      simp only [Bool.and_eq_true, decide_eq_true_eq] at h1
      obtain ⟨rfl, ht, hkl, hris⟩ := h1
      obtain rfl := ba_nil ht
      have hc' : 123 :: (txts true true its ks ++ [125]) = c :: q := hc
      injection hc' with e1 e2
      subst e1 e2
      have hl6 : l = (pre ++ [123]) ++ (txts true true its ks ++ 125 :: post) := by rw [hl5]; simp
      have he := elems_map (n := n + 1) ih hl6 (by omega) hkl hris h2k
      rw [hi1]
      unfold bodP
      rw [if_neg (by decide), if_neg (by decide), if_neg (by decide), if_neg (by decide), if_neg (by decide), if_pos rfl, he, PR.bind_ok]
      simp [Nat.add_assoc]
      omega
theorem skip_all : ∀ (b pre : List UInt8), (∀ c ∈ b, blk c = true) → skip (pre ++ b) pre.length = (pre ++ b).length := fun b pre h => by
  have := run_all blk b pre [] h (fun _ _ e => by cases e)
  rw [List.append_nil] at this
  rw [List.length_append]
  exact this
/-- a payload's text, with blanks around it, is read as the payload -/
theorem par_txt {x : VT} (hg : x.all goodF = true) (hd : x.depth ≤ 16) (hs : x.size ≤ 1000) (a b : List UInt8) (ha : ∀ c ∈ a, blk c = true) (hb : ∀ c ∈ b, blk c = true) : parP (a ++ (x.txt ++ b)) = .ok x (a ++ (x.txt ++ b)).length := by
  have ho := txt_opens x hg
  have hsk : skip (a ++ (x.txt ++ b)) 0 = a.length := by
    obtain ⟨c, r, e, _, hbk, _⟩ := ho
    have := run_all blk a [] (x.txt ++ b) ha (fun d q e2 => by rw [e] at e2; injection e2 with e2 _; rw [← e2]; exact hbk)
    have e0 : skip (a ++ (x.txt ++ b)) 0 = run blk ([] ++ (a ++ (x.txt ++ b))) ([] : List UInt8).length := rfl
    rw [e0, this]
    simp
  have hnd : ND b := fun c r e => by
    have := hb c (by rw [e]; exact List.mem_cons_self)
    cases h : dig c with
    | false => rfl
    | true => have := (opens_dig (.inr h)).2.1; simp_all
  have hv := valP_txt (l := a ++ (x.txt ++ b)) 16 x hg hd a b 0 0 rfl hnd hsk (by omega)
  have he := skip_all b (a ++ x.txt) hb
  rw [List.append_assoc, List.length_append] at he
  unfold parP
  rw [hv, PR.bind_ok, he, if_pos rfl]
end Go.Proofs.YtjblchdfkcbodaaGreatDoor
namespace Go.Proofs.YtjblchdfkcbodaaGreatDoor
open Go.RowKit

/-! ### bytes and nodes -/
def klen (ks : List ByteArray) : Nat := (ks.map ByteArray.size).sum
mutual
def VT.bw : VT → Nat
  | .mk _ _ t its ks => 1 + t.size + klen ks + bws its
def bws : List VT → Nat
  | [] => 0
  | x :: r => x.bw + bws r
end
theorem VT.bw_mk (k i : Int) (t : ByteArray) (its : List VT) (ks : List ByteArray) : (VT.mk k i t its ks).bw = 1 + t.size + klen ks + bws its := by rw [VT.bw]
theorem bws_append (a b : List VT) : bws (a ++ b) = bws a + bws b := by
  induction a with
  | nil => simp [bws]
  | cons x r ih => simp [bws, ih]; omega
theorem klen_append (a b : List ByteArray) : klen (a ++ b) = klen a + klen b := by unfold klen; simp
theorem klen_cons (s : ByteArray) (r : List ByteArray) : klen (s :: r) = s.size + klen r := by unfold klen; simp
theorem ins_sizes (p : Nat) (x : VT) (l : List VT) : sizes (insAt p x l) = sizes l + x.size := by
  unfold insAt
  have := sizes_append (l.take p) (l.drop p)
  rw [List.take_append_drop] at this
  rw [sizes_append, sizes, this]; omega
theorem ins_bws (p : Nat) (x : VT) (l : List VT) : bws (insAt p x l) = bws l + x.bw := by
  unfold insAt
  have := bws_append (l.take p) (l.drop p)
  rw [List.take_append_drop] at this
  rw [bws_append, bws, this]; omega
theorem ins_klen (p : Nat) (s : ByteArray) (l : List ByteArray) : klen (insAt p s l) = klen l + s.size := by
  unfold insAt
  have := klen_append (l.take p) (l.drop p)
  rw [List.take_append_drop] at this
  rw [klen_append, klen_cons, this]; omega
theorem ins_depths (p : Nat) (x : VT) (l : List VT) : depths (insAt p x l) = max (depths l) x.depth := by
  unfold insAt
  have := depths_append (l.take p) (l.drop p)
  rw [List.take_append_drop] at this
  rw [depths_append, depths, this]; omega
theorem ins_mem {α : Type} {p : Nat} {x y : α} {l : List α} (h : y ∈ insAt p x l) : y = x ∨ y ∈ l := by
  unfold insAt at h
  rcases List.mem_append.1 h with h | h
  · exact .inr (List.mem_of_mem_take h)
  · rcases List.mem_cons.1 h with h | h
    · exact .inl h
    · exact .inr (List.mem_of_mem_drop h)
theorem ins_alls {q : VT → Bool} (p : Nat) {x : VT} {l : List VT} (hl : alls q l = true) (hx : x.all q = true) : alls q (insAt p x l) = true :=
  alls_of fun y hy => by
    rcases ins_mem hy with rfl | h
    · exact hx
    · exact alls_mem hl h
theorem pos_of {ks : List ByteArray} (hr : rising ks = true) (t : ByteArray) : Pos ks t (posOf ks t) := by
  have gen : ∀ l : List ByteArray, (∀ q, q < (l.takeWhile fun q => less q t).length → less (l.getD q ByteArray.empty) t = true) ∧ ((l.takeWhile fun q => less q t).length < l.length → less (l.getD (l.takeWhile fun q => less q t).length ByteArray.empty) t = false) ∧ (l.takeWhile fun q => less q t).length ≤ l.length := fun l => by
    induction l with
    | nil => exact ⟨fun q hq => by simp at hq, fun h => by simp at h, by simp⟩
    | cons a r ih =>
      obtain ⟨h1, h2, h3⟩ := ih
      cases ha : less a t with
      | true =>
        rw [List.takeWhile_cons, if_pos ha]
        refine ⟨fun q hq => ?_, fun h => ?_, by simpa using h3⟩
        · cases q with
          | zero => exact ha
          | succ q => rw [List.getD_cons_succ]; exact h1 q (by simpa using hq)
        · rw [List.length_cons, List.getD_cons_succ]; exact h2 (by simpa using h)
      | false =>
        rw [List.takeWhile_cons, if_neg (by rw [ha]; simp)]
        exact ⟨fun q hq => by simp at hq, fun _ => ha, by simp⟩
  obtain ⟨h1, h2, h3⟩ := gen ks
  refine ⟨h3, h1, fun q hq hl => ?_⟩
  have hp : (ks.takeWhile fun q => less q t).length < ks.length := by
    have : posOf ks t ≤ q := hq
    have e : posOf ks t = (ks.takeWhile fun q => less q t).length := rfl
    omega
  rcases Nat.lt_or_ge (ks.takeWhile fun q => less q t).length q with h | h
  · cases hc : less (ks.getD q ByteArray.empty) t with
    | false => rfl
    | true =>
      have h4 : less (ks.getD (ks.takeWhile fun q => less q t).length ByteArray.empty) t = true := bl_trans _ _ _ (rising_lt hr h hl) hc
      rw [h2 hp] at h4; cases h4
  · have e : q = (ks.takeWhile fun q => less q t).length := by
      have : posOf ks t ≤ q := hq
      have e : posOf ks t = (ks.takeWhile fun q => less q t).length := rfl
      omega
    rw [e]; exact h2 hp

/-! ### what is read -/
theorem litL_wt {l : List UInt8} {a : Nat} : ∀ {f i : Nat} {o r : List UInt8} {j : Nat}, litL l a f i o = .ok r j → i + r.length + 1 ≤ j + o.length ∧ r.length ≤ 4096
  | 0, _, _, _, _, e => by cases e
  | f + 1, i, o, r, j, e => by
    cases hc : l[i]? with
    | none => rw [litL_none (List.getElem?_eq_none_iff.1 hc)] at e; cases e
    | some c =>
      by_cases hq : c = 34
      · subst hq
        rw [litL_quote hc] at e
        split at e
        · injection e with e1 e2
          subst e1
          rename_i h
          exact ⟨by omega, h⟩
        · cases e
      · rw [litL_char hc hq] at e
        cases hx : chrP l i with
        | err j c => rw [hx, PR.bind_err] at e; cases e
        | ok y q =>
          rw [hx, PR.bind_ok] at e
          have h1 := (chrP_to hx).1
          have h2 := litL_wt e
          rw [List.length_append, List.length_singleton] at h2
          exact ⟨by omega, h2.2⟩
theorem bind_of {α β : Type} {r : PR α} {f : α → Nat → PR β} {b : β} {j : Nat} (h : r.bind f = .ok b j) : ∃ a k, r = .ok a k ∧ f a k = .ok b j := by
  cases r with
  | ok a k => exact ⟨a, k, rfl, h⟩
  | err k c => cases h
theorem litP_wt {l : List UInt8} {i j : Nat} {s : ByteArray} (h : litP l i = .ok s j) : i + s.size + 1 ≤ j ∧ s.size ≤ 4096 := by
  obtain ⟨o, k, h1, h2⟩ := bind_of h
  injection h2 with h2 h3
  subst h2 h3
  have h4 := litL_wt h1
  have e : (⟨o.toArray⟩ : ByteArray).size = o.length := by simp [ByteArray.size]
  rw [e]
  simp at h4
  omega
theorem intP_rg {l : List UInt8} {c : UInt8} {i j : Nat} {v : Int} (h : intP l c i = .ok v j) : (-9223372036854775808 ≤ v ∧ v ≤ 9223372036854775807) ∧ i ≤ j := by
  refine ⟨?_, intP_mono l c i v j h⟩
  have hn : ∀ {a k : Nat}, numE l a k = .ok v j → -9223372036854775808 ≤ v ∧ v ≤ 9223372036854775807 := fun {a k} e => by
    unfold numE at e
    split at e
    · rename_i x hx
      injection e with e _
      subst e
      exact Lib.atoiAll_bounds hx
    · cases e
  unfold intP at h
  split at h
  · obtain ⟨_, _, _, h2⟩ := bind_of h
    exact hn h2
  · split at h
    · cases h
    · exact hn h
theorem more_inv {σ : Type} {P : σ → Nat → Prop} {el : σ → Nat → PR σ} {e : UInt8} {l : List UInt8} (hm : ∀ s i j, P s i → i ≤ j → P s j) (he : ∀ s i s' j, P s i → el s i = .ok s' j → P s' j) : ∀ (f i : Nat) (s : σ) (s' : σ) (j : Nat), P s i → moreP el e l f i s = .ok s' j → P s' j
  | 0, _, _, _, _, _, h => by cases h
  | f + 1, i, s, s', j, hp, h => by
    rw [moreP] at h
    obtain ⟨s2, k, h1, h2⟩ := bind_of h
    obtain ⟨c, k2, h3, h4⟩ := bind_of h2
    have hp2 := he _ _ _ _ (hm _ _ _ hp (skip_ge l i)) h1
    have hk := tkP_mono _ _ _ _ _ h3
    have hk2 := skip_ge l k
    have hp3 := hm _ _ k2 hp2 (by omega)
    split at h4
    · exact more_inv hm he f k2 s2 s' j hp3 h4
    · injection h4 with e1 e2
      subst e1 e2
      exact hp3
theorem elems_inv {σ : Type} {P : σ → Nat → Prop} {el : σ → Nat → PR σ} {e : UInt8} {l : List UInt8} (hm : ∀ s i j, P s i → i ≤ j → P s j) (he : ∀ s i s' j, P s i → el s i = .ok s' j → P s' j) {i : Nat} {s s' : σ} {j : Nat} (hp : P s i) (h : elemsP el e l i s = .ok s' j) : P s' j := by
  unfold elemsP at h
  have hp2 := hm _ _ _ hp (skip_ge l i)
  split at h
  · cases h
  · split at h
    · injection h with e1 e2
      subst e1 e2
      exact hm _ _ _ hp2 (Nat.le_succ _)
    · exact more_inv hm he _ _ _ _ _ hp2 h

/-- what is known of a value that was read between i and j: so many nodes had begun, so many have -/
def Good (k n m i j : Nat) (x : VT) : Prop := x.all goodF = true ∧ x.depth ≤ k ∧ m = n + x.size ∧ m ≤ 1000 ∧ i + x.bw ≤ j
def PL (k n i : Nat) (s : List VT × Nat) (p : Nat) : Prop := alls goodF s.1 = true ∧ depths s.1 ≤ k ∧ s.2 = n + sizes s.1 ∧ s.2 ≤ 1000 ∧ i + bws s.1 ≤ p
def PM (k n i : Nat) (s : List ByteArray × List VT × Nat) (p : Nat) : Prop := alls goodF s.2.1 = true ∧ depths s.2.1 ≤ k ∧ s.2.2 = n + sizes s.2.1 ∧ s.2.2 ≤ 1000 ∧ i + bws s.2.1 + klen s.1 ≤ p ∧ s.1.length = s.2.1.length ∧ rising s.1 = true ∧ ∀ t ∈ s.1, t.size ≤ 4096

theorem val_good {l : List UInt8} : ∀ (k i n : Nat) (x : VT) (m j : Nat), valP l k i n = .ok (x, m) j → Good k n m i j x
  | 0, i, n, x, m, j, h => by
    rw [valP] at h
    obtain ⟨_, _, _, h2⟩ := bind_of h
    cases h2
  | k + 1, i, n, x, m, j, h => by
    rw [valP] at h
    obtain ⟨c, p, h1, h2⟩ := bind_of h
    have hs := skip_ge l i
    have hp := tkP_mono _ _ _ _ _ h1
    split at h2
    · cases h2
    rename_i hn
    unfold bodP at h2
    split at h2
    · obtain ⟨_, q, h3, h4⟩ := bind_of h2
      injection h4 with e1 e2
      injection e1 with e1 e3
      subst e1 e2 e3
      have := wrdP_mono _ _ _ _ _ h3
      exact ⟨by decide +kernel, by show 0 + 1 ≤ k + 1; omega, rfl, by omega, by show i + 1 ≤ q; omega⟩
    split at h2
    · obtain ⟨_, q, h3, h4⟩ := bind_of h2
      injection h4 with e1 e2
      injection e1 with e1 e3
      subst e1 e2 e3
      have := wrdP_mono _ _ _ _ _ h3
      exact ⟨by decide +kernel, by show 0 + 1 ≤ k + 1; omega, rfl, by omega, by show i + 1 ≤ q; omega⟩
    split at h2
    · obtain ⟨_, q, h3, h4⟩ := bind_of h2
      injection h4 with e1 e2
      injection e1 with e1 e3
      subst e1 e2 e3
      have := wrdP_mono _ _ _ _ _ h3
      exact ⟨by decide +kernel, by show 0 + 1 ≤ k + 1; omega, rfl, by omega, by show i + 1 ≤ q; omega⟩
    split at h2
    · obtain ⟨s, q, h3, h4⟩ := bind_of h2
      injection h4 with e1 e2
      injection e1 with e1 e3
      subst e1 e2 e3
      have hl := litP_wt h3
      refine ⟨good_mk rfl hl.2 (fun s hs => by cases hs) (by decide) (by decide) (by decide) (by simp [alls]), by show 0 + 1 ≤ k + 1; omega, rfl, by omega, ?_⟩
      rw [VT.bw_mk]
      simp [klen, bws]
      omega
    split at h2
    · obtain ⟨s, q, h3, h4⟩ := bind_of h2
      injection h4 with e1 e2
      injection e1 with e1 e3
      subst e1 e2 e3
      have hP : PL k (n + 1) p s q := elems_inv (P := PL k (n + 1) p) (fun s i j hp hij => ⟨hp.1, hp.2.1, hp.2.2.1, hp.2.2.2.1, Nat.le_trans hp.2.2.2.2 hij⟩) (fun s i s' j hp he => by
        obtain ⟨y, q2, h5, h6⟩ := bind_of he
        injection h6 with e1 e2
        subst e1 e2
        obtain ⟨x, m⟩ := y
        have hg := val_good k i s.2 x m q2 h5
        obtain ⟨g1, g2, g3, g4, g5⟩ := hg
        obtain ⟨p1, p2, p3, p4, p5⟩ := hp
        refine ⟨by rw [alls_append, p1, alls, g1]; simp [alls], ?_, ?_, g4, ?_⟩
        · rw [depths_append, depths, depths]; show max _ (max x.depth 0) ≤ k; omega
        · rw [sizes_append, sizes, sizes]; show m = n + 1 + (sizes s.1 + (x.size + 0)); omega
        · rw [bws_append, bws, bws]; show p + (bws s.1 + (x.bw + 0)) ≤ q2; omega) ⟨by simp [alls], by simp [depths], by simp [sizes], by show n + 1 ≤ 1000; omega, by simp [bws]⟩ h3
      obtain ⟨p1, p2, p3, p4, p5⟩ := hP
      refine ⟨good_mk rfl (by decide) (fun s hs => by cases hs) (by decide) (by decide) (by decide) p1, by rw [VT.depth_mk]; omega, by rw [VT.size_mk]; omega, p4, ?_⟩
      rw [VT.bw_mk]
      have : (⟨#[]⟩ : ByteArray).size = 0 := rfl
      simp only [klen, List.map_nil, List.sum_nil, this]
      omega
    split at h2
    · obtain ⟨s, q, h3, h4⟩ := bind_of h2
      injection h4 with e1 e2
      injection e1 with e1 e3
      subst e1 e2 e3
      have hP : PM k (n + 1) p s q := elems_inv (P := PM k (n + 1) p) (fun s i j hp hij => ⟨hp.1, hp.2.1, hp.2.2.1, hp.2.2.2.1, Nat.le_trans hp.2.2.2.2.1 hij, hp.2.2.2.2.2⟩) (fun s i s' j hp he => by
        unfold elM at he
        obtain ⟨_, q2, h5, he⟩ := bind_of he
        obtain ⟨key, q3, h6, he⟩ := bind_of he
        split at he
        · cases he
        rename_i hdup
        obtain ⟨_, q4, h7, he⟩ := bind_of he
        obtain ⟨y, q5, h8, he⟩ := bind_of he
        injection he with e1 e2
        subst e1 e2
        obtain ⟨x, m⟩ := y
        have hg := val_good k q4 s.2.2 x m q5 h8
        have m1 := tkP_mono _ _ _ _ _ h5
        have m2 := litP_wt h6
        have m3 := tkP_mono _ _ _ _ _ h7
        have m4 := skip_ge l q3
        obtain ⟨g1, g2, g3, g4, g5⟩ := hg
        obtain ⟨p1, p2, p3, p4, p5, p6, p7, p8⟩ := hp
        have hpos := pos_of p7 key
        have hat : isAt s.1 key (posOf s.1 key) = false := by
          rw [← found_eq p7 hpos]
          exact Bool.eq_false_iff.2 hdup
        refine ⟨ins_alls _ p1 g1, ?_, ?_, g4, ?_, ?_, rising_ins p7 hpos hat, fun t ht => ?_⟩
        · rw [ins_depths]; show max _ x.depth ≤ k; omega
        · rw [ins_sizes]; show m = n + 1 + (sizes s.2.1 + x.size); omega
        · rw [ins_bws, ins_klen]; show p + (bws s.2.1 + x.bw) + (klen s.1 + key.size) ≤ q5; omega
        · rw [ins_len hpos.1, ins_len (by rw [← p6]; exact hpos.1), p6]
        · rcases ins_mem ht with rfl | h
          · exact m2.2
          · exact p8 t h) ⟨by simp [alls], by simp [depths], by simp [sizes], by show n + 1 ≤ 1000; omega, by simp [bws, klen], rfl, rfl, fun t ht => by cases ht⟩ h3
      obtain ⟨p1, p2, p3, p4, p5, p6, p7, p8⟩ := hP
      refine ⟨good_mk (by rw [okF_5, decide_eq_true p6, p7]; rfl) (by decide) p8 (by decide) (by decide) (by decide) p1, by rw [VT.depth_mk]; omega, by rw [VT.size_mk]; omega, p4, ?_⟩
      rw [VT.bw_mk]
      have : (⟨#[]⟩ : ByteArray).size = 0 := rfl
      rw [this]
      omega
    · obtain ⟨v, q, h3, h4⟩ := bind_of h2
      injection h4 with e1 e2
      injection e1 with e1 e3
      subst e1 e2 e3
      have hv := intP_rg h3
      refine ⟨good_mk rfl (by decide) (fun s hs => by cases hs) (by decide) hv.1.1 hv.1.2 (by simp [alls]), by show 0 + 1 ≤ k + 1; omega, rfl, by omega, ?_⟩
      rw [VT.bw_mk]
      have : (⟨#[]⟩ : ByteArray).size = 0 := rfl
      simp only [klen, List.map_nil, List.sum_nil, this, bws]
      omega
/-- a text that is accepted: its payload -/
theorem par_good {l : List UInt8} {x : VT} {j : Nat} (h : parP l = .ok x j) : x.all goodF = true ∧ x.depth ≤ 16 ∧ x.size ≤ 1000 ∧ x.bw ≤ l.length := by
  unfold parP at h
  obtain ⟨y, q, h1, h2⟩ := bind_of h
  split at h2
  · rename_i he
    injection h2 with e1 _
    subst e1
    obtain ⟨x, m⟩ := y
    obtain ⟨g1, g2, g3, g4, g5⟩ := val_good 16 0 0 x m q h1
    have := skip_ge l q
    exact ⟨g1, g2, by show x.size ≤ 1000; omega, by show x.bw ≤ l.length; omega⟩
  · cases h2

/-! ### how long a text is -/
theorem quo_le (s : ByteArray) : (quoL s.data.toList).length ≤ 4 * s.size + 2 := by
  unfold quoL
  rw [List.length_cons, List.length_append]
  have : (s.data.toList.flatMap escB).length ≤ 4 * s.data.toList.length := by
    generalize s.data.toList = l
    induction l with
    | nil => simp
    | cons c r ih =>
      rw [List.flatMap_cons, List.length_append, List.length_cons]
      have := escB_len c
      omega
  have e : s.data.toList.length = s.size := rfl
  have e2 : ([34] : List UInt8).length = 1 := rfl
  omega
theorem txts_len {m : Bool} : ∀ (its : List VT) (ks : List ByteArray) (f : Bool), (∀ x ∈ its, x.txt.length + 8 ≤ 30 * x.bw) → (m = true → ks.length = its.length) → (txts m f its ks).length ≤ 30 * bws its + 4 * klen ks
  | [], _, _, _, _ => by simp [txts]
  | x :: r, ks, f, h, hk => by
    rw [txts, bws]
    have hx := h x List.mem_cons_self
    have hf : (if f = true then ([] : List UInt8) else [44, 32]).length ≤ 2 := by split <;> simp
    cases m with
    | false =>
      have ih := txts_len (m := false) r ks.tail false (fun y hy => h y (List.mem_cons_of_mem _ hy)) (fun e => by cases e)
      have ht : klen ks.tail ≤ klen ks := by cases ks with
        | nil => simp
        | cons a b => rw [klen_cons]; simp
      simp only [List.length_append]
      simp only [Bool.false_eq_true, if_false, List.length_nil]
      omega
    | true =>
      obtain ⟨key, kr, rfl⟩ : ∃ a b, ks = a :: b := by
        have := hk rfl
        cases ks with
        | nil => simp at this
        | cons a b => exact ⟨a, b, rfl⟩
      have ih := txts_len (m := true) r kr false (fun y hy => h y (List.mem_cons_of_mem _ hy)) (fun _ => by simpa using hk rfl)
      have hq := quo_le key
      rw [klen_cons]
      simp only [List.length_append, if_true, List.headD_cons, List.tail_cons, List.length_cons, List.length_nil]
      omega
theorem txt_len : ∀ (m : Nat) (x : VT), x.size ≤ m → x.all goodF = true → x.txt.length + 8 ≤ 30 * x.bw
  | 0, x, h, _ => by have := size_pos x; omega
  | m + 1, .mk k i t its ks, h, hg => by
    rw [VT.size_mk] at h
    rw [VT.all_mk, Bool.and_eq_true] at hg
    obtain ⟨hg, hgs⟩ := hg
    unfold goodF inF at hg
    simp only [Bool.and_eq_true, decide_eq_true_eq] at hg
    obtain ⟨h1, h2, h3, h4⟩ := hg
    have h4a : -9223372036854775808 ≤ i := h4.1
    have h4b : i ≤ 9223372036854775807 := h4.2
    have ih : ∀ x ∈ its, x.txt.length + 8 ≤ 30 * x.bw := fun x hx => txt_len m x (by have := size_mem hx; omega) (alls_mem hgs hx)
    rw [VT.txt_mk, VT.bw_mk]
    split
    · unfold boolL
      split <;> (simp only [List.length_cons, List.length_nil]; omega)
    · split
      · have : (Lib.itoa i).length ≤ 21 := Lib.itoa_length_le i h4a h4b
        omega
      · split
        · have := quo_le t
          omega
        · split
          · have := txts_len (m := false) its ks true ih (fun e => by cases e)
            simp only [List.length_append, List.length_cons, List.length_nil]
            omega
          · split
            · rename_i h5
              have := txts_len (m := true) its ks true ih (fun _ => by subst h5; rw [okF_5] at h1; simp only [Bool.and_eq_true, decide_eq_true_eq] at h1; exact h1.2.2.1)
              simp only [List.length_append, List.length_cons, List.length_nil]
              omega
            · simp only [List.length_cons, List.length_nil]
              omega
end Go.Proofs.YtjblchdfkcbodaaGreatDoor
namespace Go.Proofs.YtjblchdfkcbodaaGreatDoor

/-- two texts that agree below n -/
def Agr (n : Nat) (l l' : List UInt8) : Prop := ∀ i, i < n → l[i]? = l'[i]? ∧ i < l.length
theorem Agr.tk {n i : Nat} {l l' : List UInt8} (h : Agr n l l') (hi : i < n) (p : UInt8 → Bool) : tkP p l i = tkP p l' i := by
  unfold tkP
  rw [(h i hi).1]
theorem Agr.runEq {n : Nat} {l l' : List UInt8} (h : Agr n l l') (p : UInt8 → Bool) : ∀ (d i : Nat), run p l i = i + d → i + d < n → run p l' i = i + d
  | 0, i, hr, hn => by
    obtain ⟨he, hl⟩ := h i (by omega)
    obtain ⟨c, hc⟩ : ∃ c, l[i]? = some c := ⟨_, List.getElem?_eq_getElem hl⟩
    cases hp : p c with
    | true =>
      rw [run_on hc hp] at hr
      have := run_ge p l (i + 1)
      omega
    | false => exact run_off (he ▸ hc) hp
  | d + 1, i, hr, hn => by
    obtain ⟨he, hl⟩ := h i (by omega)
    obtain ⟨c, hc⟩ : ∃ c, l[i]? = some c := ⟨_, List.getElem?_eq_getElem hl⟩
    cases hp : p c with
    | true =>
      rw [run_on hc hp] at hr
      rw [run_on (he ▸ hc) hp]
      have := h.runEq p d (i + 1) (by omega) (by omega)
      omega
    | false =>
      rw [run_off hc hp] at hr
      omega
/-- what one text gives below n the other gives, from offset i on -/
structure Kp {α : Type} (n i : Nat) (r r' : PR α) : Prop where
  ok : ∀ a k, r = .ok a k → i ≤ k ∧ (k < n → r' = .ok a k)
  er : ∀ j, r = .err j 3 → i ≤ j ∧ (j < n → r' = .err j 3)
theorem Kp.same {α : Type} {n i : Nat} {r r' : PR α} (h1 : ∀ a k, r = .ok a k → i ≤ k) (h2 : ∀ j, r = .err j 3 → i ≤ j) (h : i < n → r' = r) : Kp n i r r' :=
  ⟨fun a k e => ⟨h1 a k e, fun hk => by rw [h (Nat.lt_of_le_of_lt (h1 a k e) hk), e]⟩, fun j e => ⟨h2 j e, fun hj => by rw [h (Nat.lt_of_le_of_lt (h2 j e) hj), e]⟩⟩
theorem Kp.okk {α : Type} {n i k : Nat} {a : α} (h : i ≤ k) : Kp n i (.ok a k) (.ok a k) := Kp.same (fun _ _ e => by injection e with _ e; omega) (fun _ e => by cases e) (fun _ => rfl)
theorem Kp.erk {α : Type} {n i k : Nat} {c : Int} (h : i ≤ k) : Kp n i (.err k c : PR α) (.err k c) := Kp.same (fun _ _ e => by cases e) (fun _ e => by injection e with e _; omega) (fun _ => rfl)
theorem Kp.no {α : Type} {n i k : Nat} {c : Int} {r' : PR α} (h : c ≠ 3) : Kp n i (.err k c : PR α) r' := ⟨fun _ _ e => (by cases e), fun _ e => (by injection e with _ e; exact absurd e h)⟩
theorem Kp.far {α : Type} {n i : Nat} {r r1 r' : PR α} (hn : n ≤ i) (h : Kp n i r r1) : Kp n i r r' :=
  ⟨fun a k e => ⟨(h.ok a k e).1, fun hk => absurd (h.ok a k e).1 (by omega)⟩, fun j e => ⟨(h.er j e).1, fun hj => absurd (h.er j e).1 (by omega)⟩⟩
theorem Kp.le {α : Type} {n i k : Nat} {r r' : PR α} (h : Kp n k r r') (hi : i ≤ k) : Kp n i r r' :=
  ⟨fun a m e => ⟨Nat.le_trans hi (h.ok a m e).1, (h.ok a m e).2⟩, fun j e => ⟨Nat.le_trans hi (h.er j e).1, (h.er j e).2⟩⟩
theorem Kp.bind {α β : Type} {n i : Nat} {r r' : PR α} {f f' : α → Nat → PR β} (h : Kp n i r r') (hf : ∀ a k, r = .ok a k → i ≤ k → Kp n k (f a k) (f' a k)) : Kp n i (r.bind f) (r'.bind f') := by
  cases hr : r with
  | ok a k =>
    have h1 := h.ok a k hr
    have h2 := hf a k hr h1.1
    rw [PR.bind_ok]
    refine ⟨fun b m e => ⟨Nat.le_trans h1.1 (h2.ok b m e).1, fun hm => ?_⟩, fun j e => ⟨Nat.le_trans h1.1 (h2.er j e).1, fun hj => ?_⟩⟩
    · rw [h1.2 (Nat.lt_of_le_of_lt (h2.ok b m e).1 hm), PR.bind_ok]; exact (h2.ok b m e).2 hm
    · rw [h1.2 (Nat.lt_of_le_of_lt (h2.er j e).1 hj), PR.bind_ok]; exact (h2.er j e).2 hj
  | err k c =>
    rw [PR.bind_err]
    refine ⟨fun b m e => (by cases e), fun j e => ?_⟩
    injection e with e1 e2
    subst e1 e2
    have h1 := h.er k hr
    exact ⟨h1.1, fun hj => by rw [h1.2 hj, PR.bind_err]⟩
section
variable {n : Nat} {l l' : List UInt8}
theorem Agr.tkK (h : Agr n l l') (p : UInt8 → Bool) (i : Nat) : Kp n i (tkP p l i) (tkP p l' i) := by
  refine Kp.same (fun a k e => Nat.le_of_succ_le (tkP_mono p l i a k e)) (fun j e => ?_) (fun hi => (h.tk hi p).symm)
  unfold tkP at e
  split at e
  · injection e with e _; omega
  · split at e
    · cases e
    · injection e with e _; omega
theorem Agr.escK (h : Agr n l l') (i : Nat) : Kp n i (escP l i) (escP l' i) := by
  unfold escP
  refine (h.tkK esq i).bind fun c k _ hk => ?_
  repeat' split
  · exact Kp.okk (Nat.le_refl _)
  · exact Kp.okk (Nat.le_refl _)
  · exact (h.tkK hxd k).bind fun a k2 _ hk2 => (h.tkK hxd k2).bind fun d k3 _ hk3 => Kp.okk (Nat.le_refl _)
  · exact Kp.okk (Nat.le_refl _)
theorem Agr.chrK (h : Agr n l l') (i : Nat) : Kp n i (chrP l i) (chrP l' i) := by
  unfold chrP
  refine (h.tkK pln i).bind fun c k _ hk => ?_
  split
  · exact h.escK k
  · exact Kp.okk (Nat.le_refl _)
theorem Agr.lt (h : Agr n l l') {i : Nat} (hi : i < n) : i < l'.length := by
  obtain ⟨e, hl⟩ := h i hi
  rw [List.getElem?_eq_getElem hl] at e
  exact (List.getElem?_eq_some_iff.1 e.symm).1
theorem Agr.litLK (h : Agr n l l') (a : Nat) : ∀ (f f' i : Nat) (o : List UInt8), l'.length + 1 ≤ f' + i → Kp n i (litL l a f i o) (litL l' a f' i o)
  | 0, f', i, o, _ => Kp.no (by decide)
  | f + 1, f', i, o, hf => by
    rcases Nat.lt_or_ge i n with hi | hi
    · obtain ⟨e, hl⟩ := h i hi
      have hl' := h.lt hi
      obtain ⟨g, rfl⟩ : ∃ g, f' = g + 1 := ⟨f' - 1, by omega⟩
      obtain ⟨c, hc⟩ : ∃ c, l[i]? = some c := ⟨_, List.getElem?_eq_getElem hl⟩
      have hc' : l'[i]? = some c := e ▸ hc
      by_cases hq : c = 34
      · subst hq
        rw [litL_quote hc, litL_quote hc']
        split
        · exact Kp.okk (by omega)
        · exact Kp.no (by decide)
      · rw [litL_char hc hq, litL_char hc' hq]
        exact (h.chrK i).bind fun x k hx hk => h.litLK a f g k _ (by have := (chrP_to hx).1; omega)
    · cases hc : l[i]? with
      | none => rw [litL_none (List.getElem?_eq_none_iff.1 hc)]; exact Kp.no (by decide)
      | some c =>
        by_cases hq : c = 34
        · subst hq
          rw [litL_quote hc]
          split
          · exact Kp.far hi (Kp.okk (n := n) (by omega))
          · exact Kp.no (by decide)
        · rw [litL_char hc hq]
          exact Kp.far hi ((h.chrK i).bind fun x k hx hk => h.litLK a f (l'.length + 1) k (o ++ [x]) (by omega))
theorem Agr.litK (h : Agr n l l') (i : Nat) : Kp n i (litP l i) (litP l' i) :=
  (h.litLK (i - 1) _ _ i [] (by omega)).bind fun _ _ _ _ => Kp.okk (Nat.le_refl _)
theorem Agr.wrdK (h : Agr n l l') : ∀ (w : List UInt8) (i : Nat), Kp n i (wrdP l w i) (wrdP l' w i)
  | [], _ => Kp.okk (Nat.le_refl _)
  | _ :: r, i => (h.tkK _ i).bind fun _ k _ _ => h.wrdK r k
theorem Agr.slice (h : Agr n l l') {a k : Nat} (hk : k ≤ n) : (l.drop a).take (k - a) = (l'.drop a).take (k - a) := by
  apply List.ext_getElem?
  intro q
  rw [List.getElem?_take, List.getElem?_take]
  split
  · rw [List.getElem?_drop, List.getElem?_drop]
    exact (h (a + q) (by omega)).1
  · rfl
theorem numE_er {a j k : Nat} : numE l a j ≠ .err k 3 := by
  unfold numE
  split
  · intro e; cases e
  · intro e; injection e with _ e; exact absurd e (by decide)
theorem numE_ok_at {a j k : Nat} {v : Int} (h : numE l a j = .ok v k) : k = j := by
  unfold numE at h
  split at h
  · injection h with _ h; exact h.symm
  · cases h
theorem Agr.numK (h : Agr n l l') (a j : Nat) : Kp n j (numE l a (run dig l j)) (numE l' a (run dig l' j)) := by
  refine ⟨fun v k e => ?_, fun k e => absurd e numE_er⟩
  have hk := numE_ok_at e
  have hg := run_ge dig l j
  refine ⟨by omega, fun hn => ?_⟩
  have hr : run dig l' j = run dig l j := by
    have := h.runEq dig (run dig l j - j) j (by omega) (by omega)
    omega
  rw [hr, ← e]
  unfold numE
  rw [h.slice (a := a) (k := run dig l j) (by omega)]
theorem Agr.intK (h : Agr n l l') (c : UInt8) (i : Nat) : Kp n i (intP l c i) (intP l' c i) := by
  unfold intP
  split
  · exact (h.tkK dig1 i).bind fun _ k _ _ => h.numK (i - 1) k
  · rcases Nat.lt_or_ge i n with hi | hi
    · rw [← (h i hi).1]
      split
      · exact Kp.erk (Nat.le_refl _)
      · exact h.numK (i - 1) i
    · split
      · exact Kp.far hi (Kp.erk (n := n) (Nat.le_refl _))
      · exact Kp.far hi (h.numK (i - 1) i)
theorem Agr.skipK {α : Type} (h : Agr n l l') {G G' : Nat → PR α} (hG : ∀ k, Kp n k (G k) (G' k)) (i : Nat) : Kp n i (G (skip l i)) (G' (skip l' i)) := by
  have hg := skip_ge l i
  rcases Nat.lt_or_ge (skip l i) n with hs | hs
  · have hr : skip l' i = skip l i := by
      have := h.runEq blk (skip l i - i) i (by show skip l i = _; omega) (by omega)
      show run blk l' i = _
      omega
    rw [hr]
    exact (hG _).le hg
  · exact (Kp.far hs (hG (skip l i))).le hg
theorem Agr.moreK {σ : Type} {el el' : σ → Nat → PR σ} (h : Agr n l l') (hel : ∀ s i, Kp n i (el s i) (el' s i)) (e : UInt8) : ∀ (f f' i : Nat) (s : σ), l'.length + 1 ≤ f' + i → Kp n i (moreP el e l f i s) (moreP el' e l' f' i s)
  | 0, _, _, _, _ => Kp.no (by decide)
  | f + 1, f', i, s, hf => by
    have main : ∀ g, l'.length ≤ g + i → Kp n i (moreP el e l (f + 1) i s) (moreP el' e l' (g + 1) i s) := fun g hg => by
      rw [moreP, moreP]
      have hE : ∀ k, Kp n k (el s k) (el' s k) := hel s
      refine (h.skipK hE i).bind fun s2 j hj hij => ?_
      have hT : ∀ k, Kp n k (tkP (fun x => x == 44 || x == e) l k) (tkP (fun x => x == 44 || x == e) l' k) := h.tkK _
      refine (h.skipK hT j).bind fun c j2 hj2 hjk => ?_
      have h3 := tkP_mono _ _ _ _ _ hj2
      have h4 := skip_ge l j
      split
      · exact h.moreK hel e f g j2 s2 (by omega)
      · exact Kp.okk (Nat.le_refl _)
    cases f' with
    | succ g => exact main g (by omega)
    | zero =>
      rcases Nat.lt_or_ge i n with hi | hi
      · have := h.lt hi; omega
      · exact Kp.far hi (main l'.length (by omega))
theorem Agr.elemsK {σ : Type} {el el' : σ → Nat → PR σ} (h : Agr n l l') (hel : ∀ s i, Kp n i (el s i) (el' s i)) (e : UInt8) (i : Nat) (s : σ) : Kp n i (elemsP el e l i s) (elemsP el' e l' i s) := by
  have H : ∀ k, Kp n k (match l[k]? with | none => .err k 4 | some c => if c = e then .ok s (k + 1) else moreP el e l (l.length + 1) k s) (match l'[k]? with | none => .err k 4 | some c => if c = e then .ok s (k + 1) else moreP el' e l' (l'.length + 1) k s) := fun k => by
    have M := h.moreK hel e (l.length + 1) (l'.length + 1) k s (by omega)
    rcases Nat.lt_or_ge k n with hk | hk
    · rw [← (h k hk).1]
      cases l[k]? with
      | none => exact Kp.no (by decide)
      | some c =>
        show Kp n k (if c = e then _ else _) (if c = e then _ else _)
        split
        · exact Kp.okk (by omega)
        · exact M
    · cases l[k]? with
      | none => exact Kp.no (by decide)
      | some c =>
        show Kp n k (if c = e then _ else _) _
        split
        · exact Kp.far hk (Kp.okk (n := n) (k := k + 1) (by omega))
        · exact Kp.far hk M
  exact h.skipK H i
theorem Agr.elLK {val val' : Nat → Nat → PR (VT × Nat)} (hv : ∀ i m, Kp n i (val i m) (val' i m)) (s : List VT × Nat) (i : Nat) : Kp n i (elL val s i) (elL val' s i) :=
  (hv i s.2).bind fun _ _ _ _ => Kp.okk (Nat.le_refl _)
theorem Agr.elMK (h : Agr n l l') {val val' : Nat → Nat → PR (VT × Nat)} (hv : ∀ i m, Kp n i (val i m) (val' i m)) (s : List ByteArray × List VT × Nat) (i : Nat) : Kp n i (elM l val s i) (elM l' val' s i) := by
  unfold elM
  refine (h.tkK _ i).bind fun _ j _ _ => (h.litK j).bind fun key j2 _ _ => ?_
  split
  · exact Kp.no (by decide)
  · have hT : ∀ k, Kp n k (tkP (fun x => x == 58) l k) (tkP (fun x => x == 58) l' k) := h.tkK _
    exact (h.skipK hT j2).bind fun _ j3 _ _ => (hv j3 s.2.2).bind fun _ _ _ _ => Kp.okk (Nat.le_refl _)
theorem Agr.bodK (h : Agr n l l') {val val' : Nat → Nat → PR (VT × Nat)} (hv : ∀ i m, Kp n i (val i m) (val' i m)) (c : UInt8) (i m : Nat) : Kp n i (bodP val l c i m) (bodP val' l' c i m) := by
  unfold bodP
  split
  · exact (h.wrdK _ i).bind fun _ _ _ _ => Kp.okk (Nat.le_refl _)
  · split
    · exact (h.wrdK _ i).bind fun _ _ _ _ => Kp.okk (Nat.le_refl _)
    · split
      · exact (h.wrdK _ i).bind fun _ _ _ _ => Kp.okk (Nat.le_refl _)
      · split
        · exact (h.litK i).bind fun _ _ _ _ => Kp.okk (Nat.le_refl _)
        · split
          · exact (h.elemsK (Agr.elLK hv) 93 i _).bind fun _ _ _ _ => Kp.okk (Nat.le_refl _)
          · split
            · exact (h.elemsK (h.elMK hv) 125 i _).bind fun _ _ _ _ => Kp.okk (Nat.le_refl _)
            · exact (h.intK c i).bind fun _ _ _ _ => Kp.okk (Nat.le_refl _)
theorem Agr.valK (h : Agr n l l') : ∀ (k i m : Nat), Kp n i (valP l k i m) (valP l' k i m)
  | 0, i, m => by
    rw [valP, valP]
    have H : ∀ q, Kp n q ((tkP sta l q).bind fun _ _ => (.err q 7 : PR (VT × Nat))) ((tkP sta l' q).bind fun _ _ => .err q 7) := fun q => (h.tkK sta q).bind fun _ _ _ _ => Kp.no (by decide)
    exact h.skipK H i
  | k + 1, i, m => by
    rw [valP, valP]
    have H : ∀ q, Kp n q ((tkP sta l q).bind fun c j => if 1000 ≤ m then .err q 6 else bodP (valP l k) l c j (m + 1)) ((tkP sta l' q).bind fun c j => if 1000 ≤ m then .err q 6 else bodP (valP l' k) l' c j (m + 1)) := fun q => (h.tkK sta q).bind fun c j _ _ => by
      split
      · exact Kp.no (by decide)
      · exact h.bodK (h.valK k) c j (m + 1)
    exact h.skipK H i
end
end Go.Proofs.YtjblchdfkcbodaaGreatDoor
namespace Go.Proofs.YtjblchdfkcbodaaGreatDoor

theorem par_same {l l' : List UInt8} {j : Nat} (h : Agr (j + 1) l l') (e : parP l = .err j 3) : parP l' = .err j 3 := by
  have K := h.valK 16 0 0
  unfold parP at e ⊢
  cases hv : valP l 16 0 0 with
  | err k c =>
    rw [hv, PR.bind_err] at e
    injection e with e1 e2
    subst e1 e2
    rw [(K.er k hv).2 (by omega), PR.bind_err]
  | ok x q =>
    rw [hv, PR.bind_ok] at e
    split at e
    · cases e
    · injection e with e1 _
      have hq := skip_ge l q
      rw [(K.ok x q hv).2 (by omega), PR.bind_ok]
      have hr : skip l' q = j := by
        have := h.runEq blk (j - q) q (by show skip l q = _; omega) (by omega)
        show run blk l' q = _
        omega
      have hl := h.lt (i := j) (by omega)
      rw [hr, if_neg (by omega)]

/-- a fault of form stands at a byte of the text -/
def E3 {α : Type} (l : List UInt8) (r : PR α) : Prop := ∀ j, r = .err j 3 → j < l.length
section
variable {l : List UInt8}
theorem E3.bind {α β : Type} {r : PR α} {f : α → Nat → PR β} (h : E3 l r) (hf : ∀ a k, E3 l (f a k)) : E3 l (r.bind f) := by
  intro j e
  cases hr : r with
  | ok a k => rw [hr, PR.bind_ok] at e; exact hf a k j e
  | err k c => rw [hr, PR.bind_err] at e; injection e with e1 e2; subst e1 e2; exact h k hr
theorem E3.ok {α : Type} {a : α} {k : Nat} : E3 l (.ok a k) := fun _ e => by cases e
theorem E3.no {α : Type} {k : Nat} {c : Int} (h : c ≠ 3) : E3 l (.err k c : PR α) := fun _ e => by injection e with _ e; exact absurd e h
theorem tk3 (p : UInt8 → Bool) (i : Nat) : E3 l (tkP p l i) := by
  intro j e
  unfold tkP at e
  split at e
  · injection e with _ e; exact absurd e (by decide)
  · rename_i c hc
    split at e
    · cases e
    · injection e with e _
      subst e
      exact (List.getElem?_eq_some_iff.1 hc).1
theorem esc3 (i : Nat) : E3 l (escP l i) := by
  unfold escP
  refine (tk3 esq i).bind fun c k => ?_
  repeat' split
  · exact E3.ok
  · exact E3.ok
  · exact (tk3 hxd k).bind fun a k2 => (tk3 hxd k2).bind fun d k3 => E3.ok
  · exact E3.ok
theorem chr3 (i : Nat) : E3 l (chrP l i) := by
  unfold chrP
  refine (tk3 pln i).bind fun c k => ?_
  split
  · exact esc3 k
  · exact E3.ok
theorem lit3 (a : Nat) : ∀ (f i : Nat) (o : List UInt8), E3 l (litL l a f i o)
  | 0, _, _ => E3.no (by decide)
  | f + 1, i, o => by
    cases hc : l[i]? with
    | none => rw [litL_none (List.getElem?_eq_none_iff.1 hc)]; exact E3.no (by decide)
    | some c =>
      by_cases hq : c = 34
      · subst hq
        rw [litL_quote hc]
        split
        · exact E3.ok
        · exact E3.no (by decide)
      · rw [litL_char hc hq]
        exact (chr3 i).bind fun x k => lit3 a f k _
theorem litP3 (i : Nat) : E3 l (litP l i) := (lit3 _ _ _ _).bind fun _ _ => E3.ok
theorem wrd3 : ∀ (w : List UInt8) (i : Nat), E3 l (wrdP l w i)
  | [], _ => E3.ok
  | _ :: r, i => (tk3 _ i).bind fun _ k => wrd3 r k
theorem int3 (c : UInt8) (i : Nat) : E3 l (intP l c i) := by
  have hn : ∀ a j, E3 l (numE l a j) := fun a j k e => absurd e numE_er
  unfold intP
  split
  · exact (tk3 dig1 i).bind fun _ k => hn _ _
  · split
    · rename_i h
      intro j e
      injection e with e _
      subst e
      cases hc : l[i]? with
      | none => rw [hc] at h; exact absurd h.2 (by decide)
      | some c => exact (List.getElem?_eq_some_iff.1 hc).1
    · exact hn _ _
theorem more3 {σ : Type} {el : σ → Nat → PR σ} (hel : ∀ s i, E3 l (el s i)) (e : UInt8) : ∀ (f i : Nat) (s : σ), E3 l (moreP el e l f i s)
  | 0, _, _ => E3.no (by decide)
  | f + 1, i, s => by
    rw [moreP]
    refine (hel s _).bind fun s2 j => (tk3 _ _).bind fun c j2 => ?_
    split
    · exact more3 hel e f j2 s2
    · exact E3.ok
theorem elems3 {σ : Type} {el : σ → Nat → PR σ} (hel : ∀ s i, E3 l (el s i)) (e : UInt8) (i : Nat) (s : σ) : E3 l (elemsP el e l i s) := by
  unfold elemsP
  split
  · exact E3.no (by decide)
  · split
    · exact E3.ok
    · exact more3 hel e _ _ _
theorem elM3 {val : Nat → Nat → PR (VT × Nat)} (hv : ∀ i m, E3 l (val i m)) (s : List ByteArray × List VT × Nat) (i : Nat) : E3 l (elM l val s i) := by
  unfold elM
  refine (tk3 _ i).bind fun _ j => (litP3 j).bind fun key j2 => ?_
  split
  · exact E3.no (by decide)
  · exact (tk3 _ _).bind fun _ j3 => (hv j3 s.2.2).bind fun _ _ => E3.ok
theorem bod3 {val : Nat → Nat → PR (VT × Nat)} (hv : ∀ i m, E3 l (val i m)) (c : UInt8) (i m : Nat) : E3 l (bodP val l c i m) := by
  have hL : ∀ (s : List VT × Nat) i, E3 l (elL val s i) := fun s i => (hv i s.2).bind fun _ _ => E3.ok
  unfold bodP
  split
  · exact (wrd3 _ i).bind fun _ _ => E3.ok
  · split
    · exact (wrd3 _ i).bind fun _ _ => E3.ok
    · split
      · exact (wrd3 _ i).bind fun _ _ => E3.ok
      · split
        · exact (litP3 i).bind fun _ _ => E3.ok
        · split
          · exact (elems3 hL 93 i _).bind fun _ _ => E3.ok
          · split
            · exact (elems3 (elM3 hv) 125 i _).bind fun _ _ => E3.ok
            · exact (int3 c i).bind fun _ _ => E3.ok
theorem val3 : ∀ (k i m : Nat), E3 l (valP l k i m)
  | 0, i, m => by
    rw [valP]
    exact (tk3 sta _).bind fun _ _ => E3.no (by decide)
  | k + 1, i, m => by
    rw [valP]
    refine (tk3 sta _).bind fun c j => ?_
    split
    · exact E3.no (by decide)
    · exact bod3 (val3 k) c j (m + 1)
end
end Go.Proofs.YtjblchdfkcbodaaGreatDoor
namespace Go.Proofs.YtjblchdfkcbodaaGreatDoor

/-- what begins within the text ends within it -/
def Bd {α : Type} (l : List UInt8) (i : Nat) (r : PR α) : Prop := i ≤ l.length → ∀ a k, r = .ok a k → k ≤ l.length
section
variable {l : List UInt8}
theorem Bd.bind {α β : Type} {i : Nat} {r : PR α} {f : α → Nat → PR β} (h : Bd l i r) (hf : ∀ a k, Bd l k (f a k)) : Bd l i (r.bind f) := by
  intro hi b k e
  cases hr : r with
  | ok a m => rw [hr, PR.bind_ok] at e; exact hf a m (h hi a m hr) b k e
  | err m c => rw [hr, PR.bind_err] at e; cases e
theorem Bd.ok {α : Type} {i : Nat} {a : α} : Bd l i (.ok a i) := fun hi _ _ e => by injection e with _ e; omega
theorem Bd.no {α : Type} {i k : Nat} {c : Int} : Bd l i (.err k c : PR α) := fun _ _ _ e => by cases e
theorem tkB (p : UInt8 → Bool) (i : Nat) : Bd l i (tkP p l i) := by
  intro _ a k e
  unfold tkP at e
  split at e
  · cases e
  · rename_i c hc
    split at e
    · injection e with _ e
      have := (List.getElem?_eq_some_iff.1 hc).1
      omega
    · cases e
theorem skipB {α : Type} {G : Nat → PR α} (hG : ∀ k, Bd l k (G k)) (i : Nat) : Bd l i (G (skip l i)) :=
  fun hi => hG _ (run_le blk l i hi)
theorem escB' (i : Nat) : Bd l i (escP l i) := by
  unfold escP
  refine (tkB esq i).bind fun c k => ?_
  repeat' split
  · exact Bd.ok
  · exact Bd.ok
  · exact (tkB hxd k).bind fun a k2 => (tkB hxd k2).bind fun d k3 => Bd.ok
  · exact Bd.ok
theorem chrB (i : Nat) : Bd l i (chrP l i) := by
  unfold chrP
  refine (tkB pln i).bind fun c k => ?_
  split
  · exact escB' k
  · exact Bd.ok
theorem litB (a : Nat) : ∀ (f i : Nat) (o : List UInt8), Bd l i (litL l a f i o)
  | 0, _, _ => Bd.no
  | f + 1, i, o => by
    cases hc : l[i]? with
    | none => rw [litL_none (List.getElem?_eq_none_iff.1 hc)]; exact Bd.no
    | some c =>
      have hl := (List.getElem?_eq_some_iff.1 hc).1
      by_cases hq : c = 34
      · subst hq
        rw [litL_quote hc]
        split
        · exact fun _ _ _ e => by injection e with _ e; omega
        · exact Bd.no
      · rw [litL_char hc hq]
        exact (chrB i).bind fun x k => litB a f k _
theorem litPB (i : Nat) : Bd l i (litP l i) := (litB _ _ _ _).bind fun _ _ => Bd.ok
theorem wrdB : ∀ (w : List UInt8) (i : Nat), Bd l i (wrdP l w i)
  | [], _ => Bd.ok
  | _ :: r, i => (tkB _ i).bind fun _ k => wrdB r k
theorem intB (c : UInt8) (i : Nat) : Bd l i (intP l c i) := by
  have hn : ∀ a j, Bd l j (numE l a (run dig l j)) := fun a j hj v k e => by
    rw [numE_ok_at e]
    exact run_le dig l j hj
  unfold intP
  split
  · exact (tkB dig1 i).bind fun _ k => hn _ _
  · split
    · exact Bd.no
    · exact hn _ _
theorem moreB {σ : Type} {el : σ → Nat → PR σ} (hel : ∀ s i, Bd l i (el s i)) (e : UInt8) : ∀ (f i : Nat) (s : σ), Bd l i (moreP el e l f i s)
  | 0, _, _ => Bd.no
  | f + 1, i, s => by
    rw [moreP]
    have hE : ∀ k, Bd l k (el s k) := hel s
    refine (skipB hE i).bind fun s2 j => ?_
    have hT : ∀ k, Bd l k (tkP (fun x => x == 44 || x == e) l k) := tkB _
    refine (skipB hT j).bind fun c j2 => ?_
    split
    · exact moreB hel e f j2 s2
    · exact Bd.ok
theorem elemsB {σ : Type} {el : σ → Nat → PR σ} (hel : ∀ s i, Bd l i (el s i)) (e : UInt8) (i : Nat) (s : σ) : Bd l i (elemsP el e l i s) := by
  have H : ∀ k, Bd l k (match l[k]? with | none => .err k 4 | some c => if c = e then .ok s (k + 1) else moreP el e l (l.length + 1) k s) := fun k => by
    cases hc : l[k]? with
    | none => exact Bd.no
    | some c =>
      have hl := (List.getElem?_eq_some_iff.1 hc).1
      show Bd l k (if c = e then _ else _)
      split
      · exact fun _ _ _ e => by injection e with _ e; omega
      · exact moreB hel e _ _ _
  exact skipB H i
theorem elMB {val : Nat → Nat → PR (VT × Nat)} (hv : ∀ i m, Bd l i (val i m)) (s : List ByteArray × List VT × Nat) (i : Nat) : Bd l i (elM l val s i) := by
  unfold elM
  refine (tkB _ i).bind fun _ j => (litPB j).bind fun key j2 => ?_
  split
  · exact Bd.no
  · have hT : ∀ k, Bd l k (tkP (fun x => x == 58) l k) := tkB _
    exact (skipB hT j2).bind fun _ j3 => (hv j3 s.2.2).bind fun _ _ => Bd.ok
theorem bodB {val : Nat → Nat → PR (VT × Nat)} (hv : ∀ i m, Bd l i (val i m)) (c : UInt8) (i m : Nat) : Bd l i (bodP val l c i m) := by
  have hL : ∀ (s : List VT × Nat) i, Bd l i (elL val s i) := fun s i => (hv i s.2).bind fun _ _ => Bd.ok
  unfold bodP
  split
  · exact (wrdB _ i).bind fun _ _ => Bd.ok
  · split
    · exact (wrdB _ i).bind fun _ _ => Bd.ok
    · split
      · exact (wrdB _ i).bind fun _ _ => Bd.ok
      · split
        · exact (litPB i).bind fun _ _ => Bd.ok
        · split
          · exact (elemsB hL 93 i _).bind fun _ _ => Bd.ok
          · split
            · exact (elemsB (elMB hv) 125 i _).bind fun _ _ => Bd.ok
            · exact (intB c i).bind fun _ _ => Bd.ok
theorem valB : ∀ (k i m : Nat), Bd l i (valP l k i m)
  | 0, i, m => by
    rw [valP]
    have H : ∀ q, Bd l q ((tkP sta l q).bind fun _ _ => (.err (skip l i) 7 : PR (VT × Nat))) := fun q => (tkB sta q).bind fun _ _ => Bd.no
    exact skipB H i
  | k + 1, i, m => by
    rw [valP]
    have H : ∀ q, Bd l q ((tkP sta l q).bind fun c j => if 1000 ≤ m then .err (skip l i) 6 else bodP (valP l k) l c j (m + 1)) := fun q => (tkB sta q).bind fun c j => by
      split
      · exact Bd.no
      · exact bodB (valB k) c j (m + 1)
    exact skipB H i
theorem par_lt {j : Nat} (e : parP l = .err j 3) : j < l.length := by
  unfold parP at e
  cases hv : valP l 16 0 0 with
  | err k c =>
    rw [hv, PR.bind_err] at e
    injection e with e1 e2
    subst e1 e2
    exact val3 16 0 0 k hv
  | ok x q =>
    have hq := valB 16 0 0 (Nat.zero_le _) x q hv
    have hs := run_le blk l q hq
    rw [hv, PR.bind_ok] at e
    split at e
    · cases e
    · rename_i hne
      injection e with e1 _
      have : skip l q ≤ l.length := hs
      omega
end
end Go.Proofs.YtjblchdfkcbodaaGreatDoor
namespace Go.Proofs.YtjblchdfkcbodaaGreatDoor

/-- an error's offset lies within the text, and its code is none that says all is well -/
def Eb {α : Type} (l : List UInt8) (i : Nat) (r : PR α) : Prop := i ≤ l.length → ∀ j c, r = .err j c → j ≤ l.length ∧ c ≠ 0
section
variable {l : List UInt8}
theorem Eb.bind {α β : Type} {i : Nat} {r : PR α} {f : α → Nat → PR β} (hb : Bd l i r) (h : Eb l i r) (hf : ∀ a k, Eb l k (f a k)) : Eb l i (r.bind f) := by
  intro hi j c e
  cases hr : r with
  | ok a m => rw [hr, PR.bind_ok] at e; exact hf a m (hb hi a m hr) j c e
  | err m d => rw [hr, PR.bind_err] at e; injection e with e1 e2; subst e1 e2; exact h hi m d hr
theorem Eb.ok {α : Type} {i k : Nat} {a : α} : Eb l i (.ok a k) := fun _ _ _ e => by cases e
theorem Eb.no {α : Type} {i k : Nat} {c : Int} (hk : i ≤ l.length → k ≤ l.length) (hc : c ≠ 0) : Eb l i (.err k c : PR α) := fun hi _ _ e => by injection e with e1 e2; subst e1 e2; exact ⟨hk hi, hc⟩
theorem tkE (p : UInt8 → Bool) (i : Nat) : Eb l i (tkP p l i) := by
  intro hi j c e
  unfold tkP at e
  split at e
  · injection e with e1 e2; subst e1 e2; exact ⟨hi, by decide⟩
  · split at e
    · cases e
    · injection e with e1 e2; subst e1 e2; exact ⟨hi, by decide⟩
theorem skipE {α : Type} {G : Nat → PR α} (hG : ∀ k, Eb l k (G k)) (i : Nat) : Eb l i (G (skip l i)) := fun hi => hG _ (run_le blk l i hi)
theorem escE (i : Nat) : Eb l i (escP l i) := by
  unfold escP
  refine (tkE esq i).bind (tkB esq i) fun c k => ?_
  repeat' split
  · exact Eb.ok
  · exact Eb.ok
  · exact (tkE hxd k).bind (tkB hxd k) fun a k2 => (tkE hxd k2).bind (tkB hxd k2) fun d k3 => Eb.ok
  · exact Eb.ok
theorem chrE (i : Nat) : Eb l i (chrP l i) := by
  unfold chrP
  refine (tkE pln i).bind (tkB pln i) fun c k => ?_
  split
  · exact escE k
  · exact Eb.ok
theorem litE (a : Nat) (ha : a ≤ l.length) : ∀ (f i : Nat) (o : List UInt8), Eb l i (litL l a f i o)
  | 0, _, _ => Eb.no (fun h => h) (by decide)
  | f + 1, i, o => by
    cases hc : l[i]? with
    | none => rw [litL_none (List.getElem?_eq_none_iff.1 hc)]; exact Eb.no (fun h => h) (by decide)
    | some c =>
      by_cases hq : c = 34
      · subst hq
        rw [litL_quote hc]
        split
        · exact Eb.ok
        · exact Eb.no (fun _ => ha) (by decide)
      · rw [litL_char hc hq]
        exact (chrE i).bind (chrB i) fun x k => litE a ha f k _
theorem litPE (i : Nat) : Eb l i (litP l i) := fun hi => ((litE (i - 1) (by omega) _ _ _).bind (litB _ _ _ _) fun _ _ => Eb.ok) hi
theorem wrdE : ∀ (w : List UInt8) (i : Nat), Eb l i (wrdP l w i)
  | [], _ => Eb.ok
  | _ :: r, i => (tkE _ i).bind (tkB _ i) fun _ k => wrdE r k
theorem intE (c : UInt8) (i : Nat) : Eb l i (intP l c i) := by
  intro hi
  have hn : ∀ j k, Eb l j (numE l (i - 1) k) := fun j k _ q c e => by
    unfold numE at e
    split at e
    · cases e
    · injection e with e1 e2; subst e1 e2; exact ⟨by omega, by decide⟩
  have hb : Bd l i (tkP dig1 l i) := tkB dig1 i
  have main : Eb l i (intP l c i) := by
    unfold intP
    split
    · exact (tkE dig1 i).bind (tkB dig1 i) fun _ k => hn _ _
    · split
      · exact Eb.no (fun h => h) (by decide)
      · exact hn _ _
  exact main hi
theorem moreE {σ : Type} {el : σ → Nat → PR σ} (hB : ∀ s i, Bd l i (el s i)) (hel : ∀ s i, Eb l i (el s i)) (e : UInt8) : ∀ (f i : Nat) (s : σ), Eb l i (moreP el e l f i s)
  | 0, _, _ => Eb.no (fun h => h) (by decide)
  | f + 1, i, s => by
    rw [moreP]
    have hE : ∀ k, Eb l k (el s k) := hel s
    have hE' : ∀ k, Bd l k (el s k) := hB s
    refine (skipE hE i).bind (skipB hE' i) fun s2 j => ?_
    have hT : ∀ k, Eb l k (tkP (fun x => x == 44 || x == e) l k) := tkE _
    have hT' : ∀ k, Bd l k (tkP (fun x => x == 44 || x == e) l k) := tkB _
    refine (skipE hT j).bind (skipB hT' j) fun c j2 => ?_
    split
    · exact moreE hB hel e f j2 s2
    · exact Eb.ok
theorem elemsE {σ : Type} {el : σ → Nat → PR σ} (hB : ∀ s i, Bd l i (el s i)) (hel : ∀ s i, Eb l i (el s i)) (e : UInt8) (i : Nat) (s : σ) : Eb l i (elemsP el e l i s) := by
  have H : ∀ k, Eb l k (match l[k]? with | none => .err k 4 | some c => if c = e then .ok s (k + 1) else moreP el e l (l.length + 1) k s) := fun k => by
    cases hc : l[k]? with
    | none => exact Eb.no (fun h => h) (by decide)
    | some c =>
      show Eb l k (if c = e then _ else _)
      split
      · exact Eb.ok
      · exact moreE hB hel e _ _ _
  exact skipE H i
theorem elME {val : Nat → Nat → PR (VT × Nat)} (hB : ∀ i m, Bd l i (val i m)) (hv : ∀ i m, Eb l i (val i m)) (s : List ByteArray × List VT × Nat) (i : Nat) : Eb l i (elM l val s i) := by
  intro hi
  have main : Eb l i (elM l val s i) := by
    unfold elM
    refine (tkE _ i).bind (tkB _ i) fun _ j => (litPE j).bind (litPB j) fun key j2 => ?_
    split
    · exact Eb.no (fun _ => hi) (by decide)
    · have hT : ∀ k, Eb l k (tkP (fun x => x == 58) l k) := tkE _
      have hT' : ∀ k, Bd l k (tkP (fun x => x == 58) l k) := tkB _
      exact (skipE hT j2).bind (skipB hT' j2) fun _ j3 => (hv j3 s.2.2).bind (hB j3 s.2.2) fun _ _ => Eb.ok
  exact main hi
theorem bodE {val : Nat → Nat → PR (VT × Nat)} (hB : ∀ i m, Bd l i (val i m)) (hv : ∀ i m, Eb l i (val i m)) (c : UInt8) (i m : Nat) : Eb l i (bodP val l c i m) := by
  have hL : ∀ (s : List VT × Nat) i, Eb l i (elL val s i) := fun s i => (hv i s.2).bind (hB i s.2) fun _ _ => Eb.ok
  have hL' : ∀ (s : List VT × Nat) i, Bd l i (elL val s i) := fun s i => (hB i s.2).bind fun _ _ => Bd.ok
  unfold bodP
  split
  · exact (wrdE _ i).bind (wrdB _ i) fun _ _ => Eb.ok
  · split
    · exact (wrdE _ i).bind (wrdB _ i) fun _ _ => Eb.ok
    · split
      · exact (wrdE _ i).bind (wrdB _ i) fun _ _ => Eb.ok
      · split
        · exact (litPE i).bind (litPB i) fun _ _ => Eb.ok
        · split
          · exact (elemsE hL' hL 93 i _).bind (elemsB hL' 93 i _) fun _ _ => Eb.ok
          · split
            · exact (elemsE (elMB hB) (elME hB hv) 125 i _).bind (elemsB (elMB hB) 125 i _) fun _ _ => Eb.ok
            · exact (intE c i).bind (intB c i) fun _ _ => Eb.ok
theorem valE : ∀ (k i m : Nat), Eb l i (valP l k i m)
  | 0, i, m => by
    rw [valP]
    have H : ∀ q, Eb l q ((tkP sta l q).bind fun _ _ => (.err q 7 : PR (VT × Nat))) := fun q hq => ((tkE sta q).bind (tkB sta q) fun _ _ => Eb.no (fun _ => hq) (by decide)) hq
    exact skipE H i
  | k + 1, i, m => by
    rw [valP]
    have H : ∀ q, Eb l q ((tkP sta l q).bind fun c j => if 1000 ≤ m then .err q 6 else bodP (valP l k) l c j (m + 1)) := fun q hq => ((tkE sta q).bind (tkB sta q) fun c j => by
      split
      · exact Eb.no (fun _ => hq) (by decide)
      · exact bodE (valB k) (valE k) c j (m + 1)) hq
    exact skipE H i
/-- where the error of a text stands -/
theorem par_err {j : Nat} {c : Int} (e : parP l = .err j c) : j ≤ l.length ∧ c ≠ 0 := by
  unfold parP at e
  cases hv : valP l 16 0 0 with
  | err k d =>
    rw [hv, PR.bind_err] at e
    injection e with e1 e2
    subst e1 e2
    exact valE 16 0 0 (Nat.zero_le _) k d hv
  | ok x q =>
    have hq := valB 16 0 0 (Nat.zero_le _) x q hv
    have hs := run_le blk l q hq
    rw [hv, PR.bind_ok] at e
    split at e
    · cases e
    · injection e with e1 e2
      subst e1 e2
      exact ⟨hs, by decide⟩
end
end Go.Proofs.YtjblchdfkcbodaaGreatDoor
namespace Go.Proofs.YtjblchdfkcbodaaGreatDoor
open Go.RowKit

theorem BelowBy.cell {w : World} {p : Addr} {v : Value} (h : w.cell? p = some v) : ∀ q : BelowBy w, q.val.cell? p = some v := fun q => (q.below.cell (World.block_lt_of_cell? w p h)).trans h
theorem cmps_drop {M : Bool} {xs ys : List VT} {ks ls : List ByteArray} {j : Nat} {x y : VT} (h1 : xs[j]? = some x) (h2 : ys[j]? = some y) :
    cmps M (xs.drop j) (ks.drop j) (ys.drop j) (ls.drop j) = thn (if M then cmpS (ks.getD j ByteArray.empty) (ls.getD j ByteArray.empty) else 0) (thn (x.cmp y) (cmps M (xs.drop (j + 1)) (ks.drop (j + 1)) (ys.drop (j + 1)) (ls.drop (j + 1)))) := by
  obtain ⟨hx, rfl⟩ := List.getElem?_eq_some_iff.1 h1
  obtain ⟨hy, rfl⟩ := List.getElem?_eq_some_iff.1 h2
  rw [List.drop_eq_getElem_cons hx, List.drop_eq_getElem_cons hy, cmps_cons, List.tail_drop, List.tail_drop]
  have e : ∀ l : List ByteArray, (l.drop j).headD ByteArray.empty = l.getD j ByteArray.empty := fun l => by
    rw [List.headD_eq_head?_getD, List.head?_drop, List.getD_eq_getElem?_getD]
  rw [e, e]
theorem cmps_end {M : Bool} {xs ys : List VT} {ks ls : List ByteArray} {j : Nat} (h : j = xs.length ∧ j ≤ ys.length ∨ j = ys.length ∧ j ≤ xs.length) : cmps M (xs.drop j) ks (ys.drop j) ls = cmpI (xs.length : Nat) (ys.length : Nat) := by
  rcases h with ⟨rfl, h⟩ | ⟨rfl, h⟩
  · rw [List.drop_length, cmps_nil, List.length_drop]
    unfold cmpI
    repeat' split <;> omega
  · rw [List.drop_length]
    cases hx : xs.drop ys.length with
    | nil =>
      have := congrArg List.length hx
      rw [List.length_drop, List.length_nil] at this
      rw [cmps_nil]
      unfold cmpI
      repeat' split <;> first | omega | simp at *
    | cons x r =>
      have := congrArg List.length hx
      rw [List.length_drop, List.length_cons] at this
      rw [cmps_out]
      unfold cmpI
      repeat' split <;> omega
theorem thn_ne {c d : Int} (h : c ≠ 0) : thn c d = c := by unfold thn; rw [if_neg h]
theorem thn_eq {c d : Int} (h : c = 0) : thn c d = d := by unfold thn; rw [if_pos h]

end Go.Proofs.YtjblchdfkcbodaaGreatDoor
namespace Go.Proofs.YtjblchdfkcbodaaGreatDoor
open Go.RowKit

end Go.Proofs.YtjblchdfkcbodaaGreatDoor
namespace Go.Proofs.YtjblchdfkcbodaaGreatDoor
open Go.RowKit

def RSameUpto (m : Nat) : Prop := ∀ (x y : VT) (w : World) (v u : Value), x.size ≤ m → Lies w (Lo w) x v → Lies w (Lo w) y u → Calls Tryz.prog 15 #[v, u] w (Gives (.bool (eqB x y)) w)

set_option maxRecDepth 100000 in
set_option maxHeartbeats 8000000 in
set_option linter.unusedVariables false in
theorem refSame_loop (m : Nat) (IH : Hid (RSameUpto m)) (k i : Int) (t : ByteArray) (its : List VT) (ks : List ByteArray) (A : Option Addr) (c : Nat) (A' : Option Addr) (c' : Nat) (jts : List VT) (ls : List ByteArray) (D : Option Addr) (e : Nat) (D' : Option Addr) (e' : Nat) (w : World)
    (hL : LiesL w (Lo w) A 0 its) (hM : LiesL w (Lo w) D 0 jts) (hS : LiesS w (Lo w) A' ks) (hT : LiesS w (Lo w) D' ls) (h1 : its.length ≤ c) (h2 : c ≤ 9223372036854775807) (h5 : ks.length ≤ c') (h6 : c' ≤ 9223372036854775807)
    (hsz : sizes its ≤ m) (hlen : its.length = jts.length) (hkl : ks.length = ls.length) :
    Calls Tryz.prog 15 #[vag k i t A its.length c A' ks.length c', vag k i t D jts.length e D' ls.length e'] w (Gives (.bool (eqB (VT.mk k i t its ks) (VT.mk k i t jts ls))) w) := by
  have HL := Lib.hid hL
  have HM := Lib.hid hM
  have HS := Lib.hid hS
  have HT := Lib.hid hT
  obtain ⟨n, hn⟩ : ∃ n, n = its.length := ⟨_, rfl⟩
  obtain ⟨nk, hnk⟩ : ∃ nk, nk = ks.length := ⟨_, rfl⟩
  have HN := Lib.hid (And.intro hn (hn.trans hlen))
  have HK := Lib.hid (And.intro hnk (hnk.trans hkl))
  obtain ⟨w2, hw2⟩ : ∃ w2, w2 = (w.alloc (.cells #[.int .i64 k, .int .i64 i, .string t, .slice A n c, .slice A' nk c'] 25)).alloc (.cells #[.int .i64 k, .int .i64 i, .string t, .slice D n e, .slice D' nk e'] 25) := ⟨_, rfl⟩
  have B2 : Hid (Below w.heap.size w w2) := Lib.hid (by rw [hw2]; exact (below_one _ _).trans (Below.alloc (Below.refl _ _) (by simp) _))
  have S2 : Hid (w.heap.size + 1 < w2.heap.size) := Lib.hid (by rw [hw2]; simp)
  have X1 : Hid (∀ j, w2.cell? ⟨w.heap.size, j, none⟩ = (#[.int .i64 k, .int .i64 i, .string t, .slice A n c, .slice A' nk c'] : Array Value)[j]?) := Lib.hid (fun j => by
    rw [hw2, World.cell?_alloc_lt _ _ _ (by simp), World.cell?_alloc_at _ _ _ _ rfl])
  have X2 : Hid (∀ j, w2.cell? ⟨w.heap.size + 1, j, none⟩ = (#[.int .i64 k, .int .i64 i, .string t, .slice D n e, .slice D' nk e'] : Array Value)[j]?) := Lib.hid (fun j => by
    rw [hw2, World.cell?_alloc_at _ _ _ _ (by simp)])
  have EY : Hid (ks = ls → its = jts → eqB (VT.mk k i t its ks) (VT.mk k i t jts ls) = true) := Lib.hid (fun h h' => eqB_true (by rw [h, h']))
  have E1 : Hid (ks ≠ ls → eqB (VT.mk k i t its ks) (VT.mk k i t jts ls) = false) := Lib.hid (fun h => eqB_false (fun q => h (by injection q)))
  have E2 : Hid (its ≠ jts → eqB (VT.mk k i t its ks) (VT.mk k i t jts ls) = false) := Lib.hid (fun h => eqB_false (fun q => h (by injection q)))
  have HW := Lib.hid hw2
  rw [← hnk, ← hn, ← HN.out.2, ← HK.out.2]
  rw [← hn] at h1
  rw [← hnk] at h5
  clear hL hM hS hT hw2 hn hnk hlen hkl
  unfold vag
  go_enter Tryz.func15, Tryz.ntmps15
  go_wp2
  rw [← HW.out]
  go_loopw [5] (fun s wr => ∃ j : Nat, j ≤ nk ∧ s = .int .i64 j ∧ Hid (ks.take j = ls.take j) ∧ Hid (Below w2.heap.size w2 wr)) (fun s _ => nk - (intOf s).toNat)
  case atStart => exact ⟨0, by omega, rfl, Lib.hid rfl, Lib.hid (Below.refl _ _)⟩
  case round =>
    obtain ⟨j, hjn, rfl, hr, hb⟩ := hrel
    have b4 := (hb.out.cell (p := ⟨w.heap.size, 4, none⟩) (by have := S2.out; show w.heap.size < _; omega)).trans (X1.out 4)
    have b4' := (hb.out.cell (p := ⟨w.heap.size + 1, 4, none⟩) S2.out).trans (X2.out 4)
    change _ = some (Value.slice A' nk c') at b4
    change _ = some (Value.slice D' nk e') at b4'
    by_cases hlt : j < nk
    · have hj1 : j < ks.length := by have := HK.out.1; omega
      have hj2 : j < ls.length := by have := HK.out.2; omega
      have g1 : ks[j]? = some (ks.getD j ByteArray.empty) := by rw [List.getD_eq_getElem?_getD, List.getElem?_eq_getElem hj1]; rfl
      have g2 : ls[j]? = some (ls.getD j ByteArray.empty) := by rw [List.getD_eq_getElem?_getD, List.getElem?_eq_getElem hj2]; rfl
      obtain ⟨_, g, o, rfl, hg, f0⟩ := HS.out j _ g1
      obtain ⟨_, g', o', rfl, hg', f1⟩ := HT.out j _ g2
      have HB := Lib.hid (below_next B2.out hb.out)
      rw [← HB.out.cell (p := ⟨g, o + j, none⟩) hg] at f0
      rw [← HB.out.cell (p := ⟨g', o' + j, none⟩) hg'] at f1
      have hy := fun h => take_same g1 g2 hr.out h
      have hno := fun h => at_same g1 g2 h
      generalize ks.getD j ByteArray.empty = s at *
      generalize ls.getD j ByteArray.empty = s' at *
      have HY := Lib.hid hy
      have HNN := Lib.hid hno
      clear hy hno g1 g2
      by_cases hst : s = s'
      · have HR := Lib.hid (HY.out hst)
        subst hst
        go_wp2_with fail
        go_quiet (fail)
        have HB2 := Lib.hid (below_drew hb.out nq)
        go_wp2
        go_roundw
        case rel => exact ⟨j + 1, by omega, by go_num, HR, HB2⟩
        case measure => simp [intOf]; omega
      · have HR := Lib.hid (E1.out (HNN.out hst))
        have t1 : (s.toList == s'.toList) = false := by rw [beq_eq_false_iff_ne]; exact fun q => hst (str_inj q)
        clear hst
        go_wp2_with fail
        go_quiet (fail)
        go_wp2
        go_ret
        exact ⟨ret_bool HR.out.symm, below_next B2.out (below_drew hb.out nq)⟩
    · obtain rfl : j = nk := by omega
      have HKS : Hid (ks = ls) := Lib.hid (by
        have := hr.out
        rwa [HK.out.1, List.take_length, ← HK.out.1, HK.out.2, List.take_length] at this)
      go_wp2
      obtain ⟨w6, hw6⟩ : ∃ w6, w6 = wr := ⟨_, rfl⟩
      have HB6 : Hid (Below w2.heap.size w2 w6) := Lib.hid (by rw [hw6]; exact hb.out)
      rw [← hw6]
      clear b4 b4'
      clear hw6 hb hr
      go_loopw [6] (fun s wr => ∃ j : Nat, j ≤ n ∧ s = .int .i64 j ∧ Hid (its.take j = jts.take j) ∧ Hid (Below w2.heap.size w2 wr)) (fun s _ => n - (intOf s).toNat)
      case atStart => exact ⟨0, by omega, rfl, Lib.hid rfl, HB6⟩
      case round =>
        obtain ⟨j, hjn, rfl, hr, hb⟩ := hrel
        have b3 := (hb.out.cell (p := ⟨w.heap.size, 3, none⟩) (by have := S2.out; show w.heap.size < _; omega)).trans (X1.out 3)
        have b3' := (hb.out.cell (p := ⟨w.heap.size + 1, 3, none⟩) S2.out).trans (X2.out 3)
        change _ = some (Value.slice A n c) at b3
        change _ = some (Value.slice D n e) at b3'
        by_cases hlt : j < n
        · have g1 := List.getElem?_eq_getElem (l := its) (i := j) (by have := HN.out.1; omega)
          have g2 := List.getElem?_eq_getElem (l := jts) (i := j) (by have := HN.out.2; omega)
          obtain ⟨g, o, k1, i1, t1, B, n1, c1, B', n2, c2, rfl, hg, e0, e1, e2, e3, e4, hx⟩ := (HL.out).at_ g1
          obtain ⟨g', o', k3, i3, t3, E, n3, c3, E', n4, c4, rfl, hg', d0, d1, d2, d3, d4, hy⟩ := (HM.out).at_ g2
          have hle := size_at g1
          have HB := Lib.hid (below_next B2.out hb.out)
          have hyes := fun h => take_same g1 g2 hr.out h
          have hno := fun h => at_same g1 g2 h
          generalize its[j]'(by have := HN.out.1; omega) = x at *
          generalize jts[j]'(by have := HN.out.2; omega) = y at *
          have cc := fun (q : Nat) => HB.out.cell (p := ⟨g, q, none⟩) hg
          have cc' := fun (q : Nat) => HB.out.cell (p := ⟨g', q, none⟩) hg'
          rw [Nat.zero_add] at e0 e1 e2 e3 e4 d0 d1 d2 d3 d4
          rw [← cc] at e0 e1 e2 e3 e4
          rw [← cc'] at d0 d1 d2 d3 d4
          have HCC : Hid (∀ q : BelowBy wr, Calls Tryz.prog 15 #[vag k1 i1 t1 B n1 c1 B' n2 c2, vag k3 i3 t3 E n3 c3 E' n4 c4] q.val (Gives (.bool (eqB x y)) q.val)) := Lib.hid (fun q =>
            IH.out x y q.val _ _ (by omega) ((hx.below HB.out).below q.below) ((hy.below HB.out).below q.below))
          unfold vag at HCC
          have HY := Lib.hid hyes
          have HNN := Lib.hid hno
          have z3 := BelowBy.cell b3
          have z3' := BelowBy.cell b3'
          have q0 := BelowBy.cell e0
          have q1 := BelowBy.cell e1
          have q2 := BelowBy.cell e2
          have q3 := BelowBy.cell e3
          have q4 := BelowBy.cell e4
          have r0 := BelowBy.cell d0
          have r1 := BelowBy.cell d1
          have r2 := BelowBy.cell d2
          have r3 := BelowBy.cell d3
          have r4 := BelowBy.cell d4
          clear hx hy cc cc' hyes hno g1 g2 hle e0 e1 e2 e3 e4 d0 d1 d2 d3 d4
          go_wp2_with fail
          refine wp_region_gives (by kernel_rfl) (by kernel_rfl) ?_
          repeat (quiet_step ((go_at_call 15; exact gives_by (HCC.out _))))
          refine wpQuiet_nil ?_
          intro _ hw'
          obtain ⟨q, rfl⟩ := hw'
          obtain ⟨wq, hwq⟩ : ∃ wq, wq = q.val := ⟨_, rfl⟩
          have HQ : Hid (Below w2.heap.size w2 wq) := Lib.hid (by rw [hwq]; exact below_next hb.out q.below)
          rw [← hwq]
          clear hwq z3 z3' q0 q1 q2 q3 q4 r0 r1 r2 r3 r4 HCC b3 b3'
          by_cases hxy : x = y
          · have HR := Lib.hid (HY.out hxy)
            rw [eqB_true hxy]
            clear hxy
            go_wp2
            go_roundw
            case rel => exact ⟨j + 1, by omega, by go_num, HR, HQ⟩
            case measure => simp [intOf]; omega
          · have HR := Lib.hid (E2.out (HNN.out hxy))
            rw [eqB_false hxy]
            clear hxy
            go_wp2
            go_ret
            exact ⟨ret_bool HR.out.symm, below_next B2.out HQ.out⟩
        · have HR := Lib.hid (EY.out HKS.out (by
            have := hr.out
            rwa [show j = n by omega, HN.out.1, List.take_length, ← HN.out.1, HN.out.2, List.take_length] at this))
          go_wp2
          go_ret
          exact ⟨ret_bool HR.out.symm, below_next B2.out hb.out⟩

set_option maxRecDepth 100000 in
set_option maxHeartbeats 4000000 in
theorem refSame_all (m : Nat) : RSameUpto m := by
  induction m with
  | zero => intro x _ _ _ _ h; have := size_pos x; omega
  | succ m ih =>
    intro x y w v u hsz hv hu
    have IH := Lib.hid ih
    clear ih
    obtain ⟨k, i, t, its, ks⟩ := x
    obtain ⟨k', i', t', jts, ls⟩ := y
    obtain ⟨A, c, A', c', rfl, _, _, _, h1, h2, hL, h3, h4, hS⟩ := hv.open
    obtain ⟨D, e, D', e', rfl, _, _, _, _, _, hM, _, _, hT⟩ := hu.open
    rw [VT.size_mk] at hsz
    have BB : Hid (∀ (o o' : Obj), Below w.heap.size w ((w.alloc o).alloc o')) := Lib.hid (fun o o' => (below_one _ _).trans (Below.alloc (Below.refl _ _) (by simp) _))
    by_cases q1 : k = k'
    · subst q1
      by_cases q2 : i = i'
      · subst q2
        by_cases q3 : t = t'
        · subst q3
          by_cases q4 : its.length = jts.length
          · by_cases q5 : ks.length = ls.length
            · exact refSame_loop m IH k i t its ks A c A' c' jts ls D e D' e' w hL hM hS hT h1 h2 h3 h4 (by omega) q4 q5
            · have HR : Hid (eqB (VT.mk k i t its ks) (VT.mk k i t jts ls) = false) := Lib.hid (eqB_false (fun q => q5 (by injection q; simp [*])))
              have f4 : (((its.length : Nat) : Int) != ((jts.length : Nat) : Int)) = false := by rw [bne_eq_false_iff_eq]; omega
              have f5 : (((ks.length : Nat) : Int) != ((ls.length : Nat) : Int)) = true := by rw [bne_iff_ne]; omega
              clear hv hu hL hM hS hT q4 q5
              unfold vag
              go_enter Tryz.func15, Tryz.ntmps15
              go_wp2
              go_ret
              exact ⟨ret_bool HR.out.symm, BB.out _ _⟩
          · have HR : Hid (eqB (VT.mk k i t its ks) (VT.mk k i t jts ls) = false) := Lib.hid (eqB_false (fun q => q4 (by injection q; simp [*])))
            have f4 : (((its.length : Nat) : Int) != ((jts.length : Nat) : Int)) = true := by rw [bne_iff_ne]; omega
            clear hv hu hL hM hS hT q4
            unfold vag
            go_enter Tryz.func15, Tryz.ntmps15
            go_wp2
            go_ret
            exact ⟨ret_bool HR.out.symm, BB.out _ _⟩
        · have HR : Hid (eqB (VT.mk k i t its ks) (VT.mk k i t' jts ls) = false) := Lib.hid (eqB_false (fun q => q3 (by injection q)))
          have f3 : (t.toList == t'.toList) = false := by rw [beq_eq_false_iff_ne]; exact fun q => q3 (str_inj q)
          clear hv hu hL hM hS hT q3
          unfold vag
          go_enter Tryz.func15, Tryz.ntmps15
          go_wp2
          go_ret
          exact ⟨ret_bool HR.out.symm, BB.out _ _⟩
      · have HR : Hid (eqB (VT.mk k i t its ks) (VT.mk k i' t' jts ls) = false) := Lib.hid (eqB_false (fun q => q2 (by injection q)))
        have f2 : (i != i') = true := by rw [bne_iff_ne]; exact q2
        clear hv hu hL hM hS hT q2
        unfold vag
        go_enter Tryz.func15, Tryz.ntmps15
        go_wp2
        go_ret
        exact ⟨ret_bool HR.out.symm, BB.out _ _⟩
    · have HR : Hid (eqB (VT.mk k i t its ks) (VT.mk k' i' t' jts ls) = false) := Lib.hid (eqB_false (fun q => q1 (by injection q)))
      have f1 : (k != k') = true := by rw [bne_iff_ne]; exact q1
      clear hv hu hL hM hS hT q1
      unfold vag
      go_enter Tryz.func15, Tryz.ntmps15
      go_wp2
      go_ret
      exact ⟨ret_bool HR.out.symm, BB.out _ _⟩
theorem refSame_any {x y : VT} {v u : Value} {w : World} (h : Lies w (Lo w) x v) (h' : Lies w (Lo w) y u) : Calls Tryz.prog 15 #[v, u] w (Gives (.bool (eqB x y)) w) := refSame_all x.size x y w v u (Nat.le_refl _) h h'
end Go.Proofs.YtjblchdfkcbodaaGreatDoor
namespace Go.Proofs.YtjblchdfkcbodaaGreatDoor
open Go.RowKit

/-- a string of these bytes -/
theorem str_size (l : List UInt8) : (⟨l.toArray⟩ : ByteArray).size = l.length := by simp [ByteArray.size]
theorem str_list (l : List UInt8) : (⟨l.toArray⟩ : ByteArray).data.toList = l := by simp
/-- what Parse says of a payload's text -/
theorem par_back {x : VT} {w : World} (h : Std w) (hg : x.all goodF = true) (hd : x.depth ≤ 16) (hs : x.size ≤ 1000) (hb : x.bw ≤ 6000) :
    Calls Tryz.prog 13 #[.string ⟨x.txt.toArray⟩] w (ParR (.ok x x.txt.length) w) := by
  have hl := txt_len x.size x (Nat.le_refl _) hg
  have := Parse_any ⟨x.txt.toArray⟩ w (by rw [str_size]; omega) h.ev
  rw [str_list] at this
  have e := par_txt hg hd hs [] [] (fun _ h => by cases h) (fun _ h => by cases h)
  rw [List.nil_append, List.append_nil] at e
  rw [e] at this
  exact this
/-- what Print says of a payload -/
theorem prt_good {x : VT} {v : Value} {w : World} (h : Std w) (hv : Lies w (Lo w) x v) (hg : x.all goodF = true) (hd : x.depth ≤ 16) (hs : x.size ≤ 1000) (hb : x.bw ≤ 6000) :
    Calls Tryz.prog 9 #[v] w fun e w' => e = .returned (.tuple #[.string ⟨x.txt.toArray⟩, .int .i64 0]) ∧ Below w.heap.size w w' := by
  have hl := txt_len x.size x (Nat.le_refl _) hg
  have hr := right_good hg hd hs
  refine (Print_any hv (by omega) h.tab).mono fun e w' ⟨he, hb⟩ => ⟨?_, hb⟩
  rw [he, if_pos hr]
theorem right_yes {x : VT} {v : Value} {w : World} (hv : Lies w (Lo w) x v) (hg : x.all goodF = true) (hd : x.depth ≤ 16) (hs : x.size ≤ 1000) : Calls Tryz.prog 16 #[v] w (Gives (.bool true) w) := by
  have := refRight_any (by omega) hv
  rw [right_good hg hd hs] at this
  exact this
theorem same_yes {x : VT} {v u : Value} {w : World} (h : Lies w (Lo w) x v) (h' : Lies w (Lo w) x u) : Calls Tryz.prog 15 #[v, u] w (Gives (.bool true) w) := by
  have := refSame_any h h'
  rw [eqB_true rfl] at this
  exact this

set_option maxRecDepth 100000 in
set_option maxHeartbeats 8000000 in
theorem Canonical_any (s : ByteArray) (w : World) (hS : Std w) : Calls Tryz.prog 6 #[.string s] w fun e w' => e = .returned (.bool true) ∧ Below w.heap.size w w' := by
  have S0 := Lib.hid hS
  clear hS
  by_cases hbig : 6000 < s.size
  · have hb' : (6000 : Int) < (s.size : Int) := by omega
    have HLV := Lib.hid (lives_any S0.out)
    go_enter Tryz.func6, Tryz.ntmps6
    go_wp2_with fail
    refine (HLV.out).mono ?_
    rintro _ w1 ⟨rfl, hb1⟩
    have B1 := Lib.hid hb1
    clear hb1
    go_wp2
    go_ret
    exact ⟨rfl, B1.out⟩
  · have hb' : ¬ (6000 : Int) < (s.size : Int) := by omega
    have hl : s.data.toList.length = s.size := by simp
    go_enter Tryz.func6, Tryz.ntmps6
    go_wp2_with fail
    refine (Parse_any s w (by omega) S0.out.ev).mono ?_
    rintro _ w1 ⟨hb1, ⟨k, i, t, A, m, c, A', m', c', x, j, rfl, hr, hl1⟩ | ⟨j, c, hr, rfl⟩⟩
    · obtain ⟨hg, hd, hs, hbw⟩ := par_good hr.out
      have G := Lib.hid (And.intro hg (And.intro hd (And.intro hs (show x.bw ≤ 6000 by omega))))
      clear hr hg hd hs hbw
      go_wp2_with fail
      obtain ⟨w2, hw2⟩ : ∃ w2, w2 = w1.alloc (.cells #[.int .i64 k, .int .i64 i, .string t, .slice A m c, .slice A' m' c'] 25) := ⟨_, rfl⟩
      obtain ⟨b1, hb1'⟩ : ∃ b1, b1 = w1.heap.size := ⟨_, rfl⟩
      rw [← hw2]
      have hb12 : Below w1.heap.size w1 w2 := by rw [hw2]; exact below_one _ _
      have K2 : Bk w2 b1 25 #[.int .i64 k, .int .i64 i, .string t, .slice A m c, .slice A' m' c'] := by rw [hw2, hb1']; exact Bk.new _ _ _
      have B2 : Hid (Below w.heap.size w w2) := Lib.hid (hb1.trans (hb12.mono hb1.size))
      have L2 := Lib.hid ((hl1.out.keep (fun p hp => hb12.cell hp.2) (fun b hp => Nat.lt_of_lt_of_le hp.2 hb12.size) : Lies w2 (Lo w2) x _))
      rw [← hb1']
      clear hb1 hl1 hb12 hw2 hb1'
      refine (prt_good (S0.out.on B2.out) L2.out G.out.1 G.out.2.1 G.out.2.2.1 G.out.2.2.2).mono ?_
      rintro _ w3 ⟨rfl, hb3⟩
      have K3 := K2.below hb3 K2.lt
      have L3 := Lib.hid (L2.out.below hb3)
      have B3 : Hid (Below w.heap.size w w3) := Lib.hid (B2.out.trans (hb3.mono B2.out.size))
      clear hb3 K2 L2 B2
      go_wp2_with fail
      refine (par_back (S0.out.on B3.out) G.out.1 G.out.2.1 G.out.2.2.1 G.out.2.2.2).mono ?_
      rintro _ w4 ⟨hb4, ⟨k4, i4, t4, A4, m4, c4, A4', m4', c4', x4, j4, rfl, hr, hl4⟩ | ⟨j4, c4, hr, _⟩⟩
      case inr => exact absurd hr.out (by intro e; cases e)
      obtain ⟨rfl, _⟩ : x = x4 ∧ _ = j4 := by have := hr.out; injection this with a b; exact ⟨a, b⟩
      have K4 := K3.below hb4 K3.lt
      have L4 := Lib.hid (L3.out.below hb4)
      have B4 : Hid (Below w.heap.size w w4) := Lib.hid (B3.out.trans (hb4.mono B3.out.size))
      clear hr K3 L3 B3
      go_wp2_with fail
      obtain ⟨w5, hw5⟩ : ∃ w5, w5 = w4.alloc (.cells #[.int .i64 k4, .int .i64 i4, .string t4, .slice A4 m4 c4, .slice A4' m4' c4'] 25) := ⟨_, rfl⟩
      obtain ⟨b2, hb2'⟩ : ∃ b2, b2 = w4.heap.size := ⟨_, rfl⟩
      rw [← hw5]
      have hb45 : Below w4.heap.size w4 w5 := by rw [hw5]; exact below_one _ _
      have K5 := K4.below hb45 K4.lt
      have L5 := Lib.hid (L4.out.below hb45)
      have M5 : Bk w5 b2 25 #[.int .i64 k4, .int .i64 i4, .string t4, .slice A4 m4 c4, .slice A4' m4' c4'] := by rw [hw5, hb2']; exact Bk.new _ _ _
      have B5 : Hid (Below w.heap.size w w5) := Lib.hid (B4.out.trans (hb45.mono B4.out.size))
      have N5 := Lib.hid ((hl4.out.keep (fun p hp => hb45.cell hp.2) (fun b hp => Nat.lt_of_lt_of_le hp.2 hb45.size) : Lies w5 (Lo w5) x _))
      rw [← hb2']
      clear hb4 hl4 hb45 hw5 hb2' K4 L4 B4
      refine (prt_good (S0.out.on B5.out) N5.out G.out.1 G.out.2.1 G.out.2.2.1 G.out.2.2.2).mono ?_
      rintro _ w6 ⟨rfl, hb6⟩
      have K6 := Lib.hid (K5.below hb6 K5.lt)
      have L6 := Lib.hid (L5.out.below hb6)
      have M6 := Lib.hid (M5.below hb6 M5.lt)
      have N6 := Lib.hid (N5.out.below hb6)
      have B6 : Hid (Below w.heap.size w w6) := Lib.hid (B5.out.trans (hb6.mono B5.out.size))
      clear hb6 K5 L5 M5 N5 B5
      have p0 := K6.out.cell 0
      have p1 := K6.out.cell 1
      have p2 := K6.out.cell 2
      have p3 := K6.out.cell 3
      have p4 := K6.out.cell 4
      go_wp2_with fail
      refine (right_yes L6.out G.out.1 G.out.2.1 G.out.2.2.1).mono ?_
      rintro _ w7 ⟨rfl, hb7⟩
      have K7 := Lib.hid (K6.out.below hb7 K6.out.lt)
      have L7 := Lib.hid (L6.out.below hb7)
      have M7 := Lib.hid (M6.out.below hb7 M6.out.lt)
      have N7 := Lib.hid (N6.out.below hb7)
      have B7 : Hid (Below w.heap.size w w7) := Lib.hid (B6.out.trans (hb7.mono B6.out.size))
      clear hb7 K6 L6 M6 N6 B6 p0 p1 p2 p3 p4
      have p0 := K7.out.cell 0
      have p1 := K7.out.cell 1
      have p2 := K7.out.cell 2
      have p3 := K7.out.cell 3
      have p4 := K7.out.cell 4
      have q0 := M7.out.cell 0
      have q1 := M7.out.cell 1
      have q2 := M7.out.cell 2
      have q3 := M7.out.cell 3
      have q4 := M7.out.cell 4
      go_wp2_with fail
      refine (same_yes L7.out N7.out).mono ?_
      rintro _ w8 ⟨rfl, hb8⟩
      have B8 : Hid (Below w.heap.size w w8) := Lib.hid (B7.out.trans (hb8.mono B7.out.size))
      clear hb8 K7 L7 M7 N7 B7 p0 p1 p2 p3 p4 q0 q1 q2 q3 q4
      go_wp2_with fail
      refine (lives_any (S0.out.on B8.out)).mono ?_
      rintro _ w9 ⟨rfl, hb9⟩
      have B9 : Hid (Below w.heap.size w w9) := Lib.hid (B8.out.trans (hb9.mono B8.out.size))
      clear hb9 B8
      go_wp2
      go_ret
      exact ⟨rfl, B9.out⟩
    · have hp := par_err hr.out
      have hj : (j : Int) ≤ (s.size : Int) := by omega
      have hc := hp.2
      have B1 := Lib.hid hb1
      clear hb1 hr hp
      go_wp2_with fail
      refine (lives_any (S0.out.on (Below.alloc B1.out B1.out.size _))).mono ?_
      rintro _ w2 ⟨rfl, hb2⟩
      have B2 : Hid (Below w.heap.size w w2) := Lib.hid ((Below.alloc B1.out B1.out.size _).trans (hb2.mono (Below.alloc B1.out B1.out.size _).size))
      clear hb2
      go_wp2
      go_ret
      exact ⟨rfl, B2.out⟩
theorem VtextCanonical_walk (s : ByteArray) (w : World) (_ : s.size ≤ maxLen) (h : Std w) : Calls Tryz.prog 6 #[.string s] w fun e w' => e = .returned (.bool true) ∧ Below w.heap.size w w' := Canonical_any s w h
end Go.Proofs.YtjblchdfkcbodaaGreatDoor
namespace Go.Proofs.YtjblchdfkcbodaaGreatDoor
open Go.RowKit

theorem Rb.lit9 (w : World) (t : TypeId) (l : List UInt8) : Rb (w.alloc (.cells (l.map b8).toArray t)) (w.heap.size + 1) (some ⟨w.heap.size, 0, none⟩) l.length l := by
  refine ⟨rfl, fun _ => ⟨w.heap.size, 0, rfl, by omega, fun j d hj => ?_⟩⟩
  rw [Nat.zero_add, World.cell?_alloc_at _ _ _ _ rfl]
  simp [hj]
/-- one byte as a string -/
theorem conv_one (w : World) (c : UInt8) : (convert 38 9 (.slice (some ⟨w.heap.size, 0, none⟩) 1 1)).run Tryz.prog (w.alloc (.cells #[.int .u8 (c.toNat : Int)] 5)) = .ok (.string ⟨#[c]⟩) (w.alloc (.cells #[.int .u8 (c.toNat : Int)] 5)) :=
  run_str (P := Tryz.prog) (c := 1) 38 9 5 Tryz.underlying38 Tryz.underlying5 Tryz.underlying9 (Rb.lit9 w 5 [c])
theorem conv_dig (w : World) (u : Nat) : (convert 38 9 (.slice (some ⟨w.heap.size, 0, none⟩) 1 1)).run Tryz.prog (w.alloc (.cells #[.int .u8 (48 + (u : Int) % 10)] 5)) = .ok (.string ⟨#[UInt8.ofNat (48 + u % 10)]⟩) (w.alloc (.cells #[.int .u8 (48 + (u : Int) % 10)] 5)) := by
  have h := conv_one w (UInt8.ofNat (48 + u % 10))
  rw [dig_nat _ (Nat.mod_lt _ (by decide)), show ((48 + u % 10 : Nat) : Int) = 48 + (u : Int) % 10 by omega] at h
  exact h
theorem dec_small {u : Nat} (h : u < 10) : Lib.decDigits u = [UInt8.ofNat (48 + u % 10)] := by
  rw [Lib.decDigits, dif_pos h, Nat.mod_eq_of_lt h]
theorem dec_big {u : Nat} (h : ¬ u < 10) : Lib.decDigits u = Lib.decDigits (u / 10) ++ [UInt8.ofNat (48 + u % 10)] := by
  rw [Lib.decDigits, dif_neg h]
theorem ret_str9 {a b : List UInt8} (h : a = b) : Ending.returned (.string ⟨a.toArray⟩) = .returned (.string ⟨b.toArray⟩) := by rw [h]
theorem dec_len9 (u : Nat) (h : u ≤ 9223372036854775808) : (Lib.decDigits u).length ≤ 19 := by
  rw [Lib.decDigits_length]
  exact nd_le 18 u (by omega)
theorem str_app9 (a b : List UInt8) : (⟨a.toArray⟩ : ByteArray) ++ (⟨b.toArray⟩ : ByteArray) = ⟨(a ++ b).toArray⟩ := by
  apply ByteArray.ext
  rw [ByteArray.data_append]
  simp

set_option maxRecDepth 100000 in
set_option maxHeartbeats 1000000 in
theorem digits_any (u : Nat) : ∀ (w : World), u ≤ 9223372036854775808 → Calls Tryz.prog 66 #[.int .i64 (-(u : Int))] w fun e w' => e = .returned (.string ⟨(Lib.decDigits u).toArray⟩) ∧ Below w.heap.size w w' := by
  induction u using Nat.strongRecOn with
  | ind u ih =>
    intro w hu
    have kc := conv_dig w u
    obtain ⟨c, hc⟩ : ∃ c, c = UInt8.ofNat (48 + u % 10) := ⟨_, rfl⟩
    rw [← hc] at kc
    by_cases hs : u < 10
    · have HS : Hid (Lib.decDigits u = [c]) := Lib.hid (by rw [hc]; exact dec_small hs)
      clear hc
      clear ih
      go_enter Tryz.func66, Tryz.ntmps66
      go_wp2_with fail
      go_ret
      exact ⟨ret_str9 HS.out.symm, (Below.refl _ _).alloc (Nat.le_refl _) _⟩
    · have HS : Hid (Lib.decDigits u = Lib.decDigits (u / 10) ++ [c]) := Lib.hid (by rw [hc]; exact dec_big hs)
      clear hc
      have HI := Lib.hid (fun W => ih (u / 10) (by omega) W (by omega))
      have hsz : ¬ 9223372036854775807 < (Lib.decDigits (u / 10)).length + 1 := by have := dec_len9 (u / 10) (by omega); omega
      have hq : Int.tdiv (-(u : Int)) 10 = -((u / 10 : Nat) : Int) := by rw [Int.neg_tdiv]; rfl
      clear ih
      go_enter Tryz.func66, Tryz.ntmps66
      go_wp2_with fail
      refine (HI.out _).mono ?_
      rintro e w' ⟨rfl, hb⟩
      have HB : Hid (Below w.heap.size w w') := Lib.hid (((Below.refl _ _).alloc (Nat.le_refl _) _).trans (hb.mono (by simp)))
      clear hb
      go_wp2_with fail
      go_ret
      exact ⟨by rw [HS.out]; exact congrArg (fun x => Ending.returned (.string x)) (str_app9 _ _), HB.out⟩

theorem itoa_neg9 {n : Int} (h : n < 0) : Lib.itoa n = 45 :: Lib.decDigits n.natAbs := by unfold Lib.itoa; rw [if_pos h]
theorem itoa_pos9 {n : Int} (h : ¬ n < 0) : Lib.itoa n = Lib.decDigits n.natAbs := by unfold Lib.itoa; rw [if_neg h]; congr 1; omega
set_option maxRecDepth 100000 in
set_option maxHeartbeats 1000000 in
theorem refDec_any (n : Int) (w : World) (h0 : -9223372036854775808 ≤ n) (h1 : n ≤ 9223372036854775807) : Calls Tryz.prog 40 #[.int .i64 n] w fun e w' => e = .returned (.string ⟨(Lib.itoa n).toArray⟩) ∧ Below w.heap.size w w' := by
  have HI := Lib.hid (digits_any n.natAbs)
  have hb : n.natAbs ≤ 9223372036854775808 := by omega
  have hsz : ¬ 9223372036854775807 < 1 + (Lib.decDigits n.natAbs).length := by have := dec_len9 n.natAbs hb; omega
  by_cases hn : n < 0
  · have HS := Lib.hid (itoa_neg9 hn)
    have hq : n = -((n.natAbs : Nat) : Int) := by omega
    generalize n.natAbs = u at *
    subst hq
    go_enter Tryz.func40, Tryz.ntmps40
    go_wp2_with fail
    refine (HI.out _ hb).mono ?_
    rintro e w' ⟨rfl, hb⟩
    have HB := Lib.hid hb
    clear hb
    go_wp2_with fail
    go_ret
    exact ⟨by rw [HS.out]; exact congrArg (fun x => Ending.returned (.string x)) (str_app9 [45] _), HB.out⟩
  · have HS := Lib.hid (itoa_pos9 hn)
    have hq : n = ((n.natAbs : Nat) : Int) := by omega
    generalize n.natAbs = u at *
    subst hq
    go_enter Tryz.func40, Tryz.ntmps40
    go_wp2_with fail
    refine (HI.out _ hb).mono ?_
    rintro e w' ⟨rfl, hb⟩
    have HB := Lib.hid hb
    clear hb
    go_wp2_with fail
    go_ret
    exact ⟨ret_str9 HS.out.symm, HB.out⟩
end Go.Proofs.YtjblchdfkcbodaaGreatDoor
namespace Go.Proofs.YtjblchdfkcbodaaGreatDoor
open Go.RowKit

theorem rhex_any (n : Nat) (w : World) (hn : n < 16) : Calls Tryz.prog 21 #[.int .i64 n] w fun e w' => e = .returned (.string ⟨#[hxc n]⟩) ∧ w = w' := by
  have hx : (⟨#[48, 49, 50, 51, 52, 53, 54, 55, 56, 57, 97, 98, 99, 100, 101, 102]⟩ : ByteArray).extract n (n + 1) = ⟨#[hxc n]⟩ := by
    rw [ext_one ⟨#[48, 49, 50, 51, 52, 53, 54, 55, 56, 57, 97, 98, 99, 100, 101, 102]⟩ n hn, hx_char n hn]
  go_enter Tryz.func21, Tryz.ntmps21
  go_wp2_with fail
  go_ret
  exact ⟨rfl, rfl⟩
theorem flat_take {s : ByteArray} {k : Nat} (h : k < s.size) : (s.data.toList.take (k + 1)).flatMap escB = (s.data.toList.take k).flatMap escB ++ escB s[k] := by
  rw [List.take_succ_eq_append_getElem (by simpa using h), List.flatMap_append]
  simp
  rfl
theorem escB_1 {c : UInt8} (h : c = 34 ∨ c = 92) : escB c = [92, c] := by unfold escB; rw [if_pos h]
theorem escB_10 : escB 10 = [92, 110] := rfl
theorem escB_9 : escB 9 = [92, 116] := rfl
theorem escB_p {c : UInt8} (h1 : ¬(c = 34 ∨ c = 92)) (h2 : c ≠ 10) (h3 : c ≠ 9) (hp : 32 ≤ c.toNat ∧ c.toNat ≤ 126) : escB c = [c] := by
  have : pln c = true := by
    unfold pln
    rw [Bool.and_eq_true, decide_eq_true_iff, decide_eq_true_iff, UInt8.le_iff_toNat_le, UInt8.le_iff_toNat_le]
    exact hp
  unfold escB
  rw [if_neg h1, if_neg h2, if_neg h3, this]; rfl
theorem escB_x {c : UInt8} (h1 : ¬(c = 34 ∨ c = 92)) (h2 : c ≠ 10) (h3 : c ≠ 9) (hp : ¬(32 ≤ c.toNat ∧ c.toNat ≤ 126)) : escB c = [92, 120, hxc (c.toNat / 16), hxc (c.toNat % 16)] := by
  have : pln c = false := by
    rw [Bool.eq_false_iff]
    unfold pln
    intro e
    rw [Bool.and_eq_true, decide_eq_true_iff, decide_eq_true_iff, UInt8.le_iff_toNat_le, UInt8.le_iff_toNat_le] at e
    exact hp e
  unfold escB
  rw [if_neg h1, if_neg h2, if_neg h3, this]; rfl
theorem u8_eqb {c : UInt8} {n : Nat} (hn : n < 256) : (((c.toNat : Int)) == (n : Int)) = decide (c = UInt8.ofNat n) := by
  rw [Bool.eq_iff_iff, beq_iff_eq, decide_eq_true_iff]
  constructor
  · intro e; apply UInt8.toNat_inj.1; rw [UInt8.toNat_ofNat']; omega
  · intro e; rw [e, UInt8.toNat_ofNat']; omega

/-- the loop's string behind k bytes -/
def QLen (L : List UInt8) (k : Nat) : Prop := L.length ≤ 4 * k + 1
set_option maxHeartbeats 4000000 in
set_option maxRecDepth 100000 in
theorem refQuote_any (s : ByteArray) (w : World) (hs : s.size ≤ 100000) : Calls Tryz.prog 12 #[.string s] w fun e w' => e = .returned (.string ⟨(quoL s.data.toList).toArray⟩) ∧ w = w' := by
  have hl : s.data.toList.length = s.size := by simp
  go_enter Tryz.func12, Tryz.ntmps12
  go_wp2
  go_loop [3, 4] (fun o i => ∃ k : Nat, k ≤ s.size ∧ i = .int .i64 k ∧ ∃ L : List UInt8, o = .string ⟨L.toArray⟩ ∧ L.length ≤ 4 * k + 1 ∧ Hid (L = 34 :: (s.data.toList.take k).flatMap escB)) (fun _ i => s.size - (intOf i).toNat)
  case atStart => exact ⟨0, Nat.zero_le _, rfl, [34], rfl, by simp, Lib.hid (by simp)⟩
  case round =>
    obtain ⟨k, hk, rfl, L, rfl, hL, HL⟩ := hrel
    by_cases hlt : k < s.size
    · have hx : s.extract k (k + 1) = ⟨#[s[k]]⟩ := ext_one s k hlt
      have hb : s[k].toNat < 256 := s[k].toNat_lt
      have HF := Lib.hid (flat_take hlt)
      have z1 : ¬ 9223372036854775807 < L.length + 1 := by omega
      have z2 : ¬ 9223372036854775807 < L.length + 1 + 1 := by omega
      have z3 : ¬ 9223372036854775807 < L.length + 2 := by omega
      have z4 : ¬ 9223372036854775807 < L.length + 2 + 1 := by omega
      have z5 : ¬ 9223372036854775807 < L.length + 2 + 1 + 1 := by omega
      have hd1 : s[k].toNat / 16 < 16 := by omega
      have hd2 : s[k].toNat % 16 < 16 := by omega
      have hn : ∀ n : Nat, n < 256 → s[k] ≠ UInt8.ofNat n → s[k].toNat ≠ n := fun n hn h e => h (UInt8.toNat_inj.1 (by rw [UInt8.toNat_ofNat']; omega))
      by_cases h34 : s[k].toNat = 34
      · have HE : Hid (escB s[k] = [92, s[k]]) := Lib.hid (escB_1 (.inl (UInt8.toNat_inj.1 h34)))
        have t34 : ((s[k].toNat : Int) == 34) = true := by rw [beq_iff_eq]; omega
        go_wp2_with fail
        go_round
        case rel => exact ⟨k + 1, by omega, by go_num, L ++ ([92] ++ [s[k]]), by rw [← List.append_assoc, ← str_app9, ← str_app9], by simp; omega, Lib.hid (by rw [HL.out, HF.out, HE.out]; simp)⟩
        case measure => simp [intOf]; omega
      by_cases h92 : s[k].toNat = 92
      · have HE : Hid (escB s[k] = [92, s[k]]) := Lib.hid (escB_1 (.inr (UInt8.toNat_inj.1 h92)))
        have t34 : ((s[k].toNat : Int) == 34) = false := by rw [beq_eq_false_iff_ne]; omega
        have t92 : ((s[k].toNat : Int) == 92) = true := by rw [beq_iff_eq]; omega
        go_wp2_with fail
        go_round
        case rel => exact ⟨k + 1, by omega, by go_num, L ++ ([92] ++ [s[k]]), by rw [← List.append_assoc, ← str_app9, ← str_app9], by simp; omega, Lib.hid (by rw [HL.out, HF.out, HE.out]; simp)⟩
        case measure => simp [intOf]; omega
      have hq : ¬(s[k] = 34 ∨ s[k] = 92) := by rintro (e | e) <;> (rw [e] at h34 h92; first | exact h34 rfl | exact h92 rfl)
      by_cases h10 : s[k].toNat = 10
      · have HE : Hid (escB s[k] = [92, 110]) := Lib.hid (by rw [show s[k] = 10 from UInt8.toNat_inj.1 h10]; rfl)
        have t34 : ((s[k].toNat : Int) == 34) = false := by rw [beq_eq_false_iff_ne]; omega
        have t92 : ((s[k].toNat : Int) == 92) = false := by rw [beq_eq_false_iff_ne]; omega
        have t10 : ((s[k].toNat : Int) == 10) = true := by rw [beq_iff_eq]; omega
        go_wp2_with fail
        go_round
        case rel => exact ⟨k + 1, by omega, by go_num, L ++ [92, 110], by rw [← str_app9], by simp; omega, Lib.hid (by rw [HL.out, HF.out, HE.out]; simp)⟩
        case measure => simp [intOf]; omega
      by_cases h9 : s[k].toNat = 9
      · have HE : Hid (escB s[k] = [92, 116]) := Lib.hid (by rw [show s[k] = 9 from UInt8.toNat_inj.1 h9]; rfl)
        have t34 : ((s[k].toNat : Int) == 34) = false := by rw [beq_eq_false_iff_ne]; omega
        have t92 : ((s[k].toNat : Int) == 92) = false := by rw [beq_eq_false_iff_ne]; omega
        have t10 : ((s[k].toNat : Int) == 10) = false := by rw [beq_eq_false_iff_ne]; omega
        have t9 : ((s[k].toNat : Int) == 9) = true := by rw [beq_iff_eq]; omega
        go_wp2_with fail
        go_round
        case rel => exact ⟨k + 1, by omega, by go_num, L ++ [92, 116], by rw [← str_app9], by simp; omega, Lib.hid (by rw [HL.out, HF.out, HE.out]; simp)⟩
        case measure => simp [intOf]; omega
      have hq10 : s[k] ≠ 10 := fun e => h10 (by rw [e]; rfl)
      have hq9 : s[k] ≠ 9 := fun e => h9 (by rw [e]; rfl)
      by_cases hp : 32 ≤ s[k].toNat ∧ s[k].toNat ≤ 126
      · have HE := Lib.hid (escB_p hq hq10 hq9 hp)
        obtain ⟨hp1, hp2⟩ := hp
        have u1 : ¬ (s[k].toNat : Int) < 32 := by omega
        have u2 : ¬ (126 : Int) < (s[k].toNat : Int) := by omega
        have t34 : ((s[k].toNat : Int) == 34) = false := by rw [beq_eq_false_iff_ne]; omega
        have t92 : ((s[k].toNat : Int) == 92) = false := by rw [beq_eq_false_iff_ne]; omega
        have t10 : ((s[k].toNat : Int) == 10) = false := by rw [beq_eq_false_iff_ne]; omega
        have t9 : ((s[k].toNat : Int) == 9) = false := by rw [beq_eq_false_iff_ne]; omega
        go_wp2_with fail
        go_round
        case rel => exact ⟨k + 1, by omega, by go_num, L ++ [s[k]], by rw [← str_app9], by simp; omega, Lib.hid (by rw [HL.out, HF.out, HE.out]; simp)⟩
        case measure => simp [intOf]; omega
      · have HE := Lib.hid (escB_x hq hq10 hq9 hp)
        have q1 : Int.tdiv (s[k].toNat : Int) 16 = ((s[k].toNat / 16 : Nat) : Int) := rfl
        have q2 : Int.tmod (s[k].toNat : Int) 16 = ((s[k].toNat % 16 : Nat) : Int) := rfl
        have t34 : ((s[k].toNat : Int) == 34) = false := by rw [beq_eq_false_iff_ne]; omega
        have t92 : ((s[k].toNat : Int) == 92) = false := by rw [beq_eq_false_iff_ne]; omega
        have t10 : ((s[k].toNat : Int) == 10) = false := by rw [beq_eq_false_iff_ne]; omega
        have t9 : ((s[k].toNat : Int) == 9) = false := by rw [beq_eq_false_iff_ne]; omega
        have X1 := Lib.hid (fun W => rhex_any (s[k].toNat / 16) W hd1)
        have X2 := Lib.hid (fun W => rhex_any (s[k].toNat % 16) W hd2)
        rcases (by omega : s[k].toNat < 32 ∨ (¬ s[k].toNat < 32 ∧ 126 < s[k].toNat)) with u1 | ⟨u1, u2⟩
        all_goals (
          go_wp2_with fail
          refine (X1.out _).mono ?_
          rintro e w' ⟨rfl, rfl⟩
          go_wp2_with fail
          refine (X2.out _).mono ?_
          rintro e w' ⟨rfl, rfl⟩
          go_wp2_with fail
          go_round
          case rel => exact ⟨k + 1, by omega, by go_num, L ++ ([92, 120] ++ ([hxc (s[k].toNat / 16)] ++ [hxc (s[k].toNat % 16)])), by rw [← List.append_assoc, ← List.append_assoc, ← str_app9, ← str_app9, ← str_app9], by simp; omega, Lib.hid (by rw [HL.out, HF.out, HE.out]; simp)⟩
          case measure => simp [intOf]; omega)
    · have HE : Hid (34 :: (s.data.toList.flatMap escB ++ [34]) = L ++ [34]) := Lib.hid (by rw [HL.out, List.take_of_length_le (by rw [hl]; omega)]; rfl)
      have z1 : ¬ 9223372036854775807 < L.length + 1 := by omega
      go_wp2_with fail
      go_ret
      exact ⟨congrArg (fun x => Ending.returned (.string x)) ((str_app9 L [34]).trans (congrArg (fun l : List UInt8 => (⟨l.toArray⟩ : ByteArray)) HE.out.symm)), rfl⟩
end Go.Proofs.YtjblchdfkcbodaaGreatDoor
namespace Go.Proofs.YtjblchdfkcbodaaGreatDoor
open Go.RowKit Go.Sort

def RTxt (m : Nat) : Prop := ∀ (x : VT) (w : World) (v : Value), x.size ≤ m → x.all goodF = true → x.bw ≤ 6000 → Lies w (Lo w) x v → Calls Tryz.prog 19 #[v] w (Gives (.string ⟨x.txt.toArray⟩) w)
theorem bw_at {l : List VT} {j : Nat} {x : VT} (h : l[j]? = some x) : x.bw ≤ bws l := by
  have hj := (List.getElem?_eq_some_iff.1 h).1
  have := bws_append (l.take j) (l.drop j)
  rw [List.take_append_drop] at this
  obtain ⟨hi, rfl⟩ := List.getElem?_eq_some_iff.1 h
  rw [List.drop_eq_getElem_cons hi, bws] at this
  omega

set_option maxRecDepth 100000 in
set_option maxHeartbeats 4000000 in
theorem rtxt_4 (m : Nat) (IH : Hid (RTxt m)) (i : Int) (t : ByteArray) (its : List VT) (ks : List ByteArray) (w : World) (v : Value) (hsz : sizes its ≤ m) (hg : alls goodF its = true) (hbw : bws its ≤ 6000)
    (htx : (txts false true its ks).length ≤ 180000) (hv : Lies w (Lo w) (.mk 4 i t its ks) v) : Calls Tryz.prog 19 #[v] w (Gives (.string ⟨(91 :: (txts false true its ks ++ [93])).toArray⟩) w) := by
  obtain ⟨A, c, A', c', rfl, hk, hi, ht, hlc, hcm, hL, hkc, hcm', hS⟩ := hv.open
  have HL := Lib.hid hL
  have HG := Lib.hid hg
  have HT0 := Lib.hid (fun j => txts_take_len false true its ks j)
  clear hS hL hv hg
  obtain ⟨n, hn⟩ : ∃ n, n = its.length := ⟨_, rfl⟩
  rw [← hn] at hlc ⊢
  have HN := Lib.hid hn
  clear hn
  generalize ks.length = nk at *
  unfold vag
  go_enter Tryz.func19, Tryz.ntmps19
  go_wp2
  obtain ⟨w1, hw1⟩ : ∃ w1, w1 = w.alloc (.cells #[.int .i64 4, .int .i64 i, .string t, .slice A n c, .slice A' nk c'] 25) := ⟨_, rfl⟩
  have B0 : Hid (Below w.heap.size w w1) := Lib.hid (by rw [hw1]; exact below_one _ _)
  have S1 : Hid (w.heap.size < w1.heap.size) := Lib.hid (by rw [hw1]; simp)
  have C3 : Hid (w1.cell? ⟨w.heap.size, 3, none⟩ = some (.slice A n c)) := Lib.hid (by rw [hw1, World.cell?_alloc_at _ _ _ _ rfl]; rfl)
  rw [← hw1]
  have HW := Lib.hid hw1
  clear hw1
  go_loopw [3, 4] (fun r t wr => ∃ j : Nat, j ≤ n ∧ t = .int .i64 j ∧ ∃ L : List UInt8, r = .string ⟨L.toArray⟩ ∧ L.length ≤ 180000 ∧ Hid (L = txts false true (its.take j) ks) ∧ Hid (Below w1.heap.size w1 wr)) (fun _ t _ => n - (intOf t).toNat)
  case atStart => exact ⟨0, by omega, rfl, [], rfl, by simp, Lib.hid (by simp [txts]), Lib.hid (Below.refl _ _)⟩
  case round =>
    obtain ⟨j, hjn, rfl, L, rfl, hLn, HL2, hb⟩ := hrel
    have C3' := (hb.out.cell (p := ⟨w.heap.size, 3, none⟩) S1.out).trans C3.out
    by_cases hlt : j < n
    · have hjl : j < its.length := by rw [← HN.out]; exact hlt
      obtain ⟨g, o, k', i', t', B, n', c1, B', n1, c2, rfl, hg, e0, e1, e2, e3, e4, hx⟩ := (HL.out).at_ (j := j) (x := its[j]) (List.getElem?_eq_getElem _)
      have HT := Lib.hid (txts_take (m := false) (f := true) (ks := ks) (List.getElem?_eq_getElem hjl))
      rw [← HL2.out] at HT
      have hle := size_at (List.getElem?_eq_getElem hjl)
      have hlb := bw_at (List.getElem?_eq_getElem hjl)
      have hgx := all_at HG.out (List.getElem?_eq_getElem hjl)
      have hlen := HT0.out (j + 1)
      rw [HT.out] at hlen
      simp only [List.length_append] at hlen
      have hb' : Below w.heap.size w wr := B0.out.trans (hb.out.mono (by have := S1.out; omega))
      have cc := fun (q : Nat) => hb'.cell (p := ⟨g, q, none⟩) hg
      rw [Nat.zero_add] at e0 e1 e2 e3 e4
      rw [← cc] at e0 e1 e2 e3 e4
      have HC := Lib.hid (IH.out its[j] wr _ (by omega) hgx (by omega) (hx.below hb'))
      generalize its[j] = x at *
      clear hx hb' cc HL2 hgx hle hlb
      unfold vag at HC
      rcases Nat.eq_zero_or_pos j with h0 | h0
      · have HT' : Hid (txts false true (its.take (j + 1)) ks = L ++ x.txt) := Lib.hid (by rw [HT.out, decide_eq_true h0]; simp)
        have hl2 : L.length + x.txt.length ≤ 180000 := by rw [decide_eq_true h0] at hlen; simp at hlen; omega
        have z3 : ¬ (0 : Int) < (j : Int) := by omega
        have z1 : ¬ 9223372036854775807 < L.length + x.txt.length := by omega
        clear HT hlen h0
        go_wp2_with fail
        refine (HC.out).mono ?_
        rintro e w' ⟨rfl, hb2⟩
        have HB2 := Lib.hid (hb.out.trans (hb2.mono hb.out.size))
        clear hb2
        go_wp2
        go_roundw
        case rel => exact ⟨j + 1, by omega, by go_num, L ++ x.txt, by rw [← str_app9], by simp; omega, Lib.hid HT'.out.symm, HB2⟩
        case measure => simp [intOf]; omega
      · have HT' : Hid (txts false true (its.take (j + 1)) ks = L ++ ([44, 32] ++ x.txt)) := Lib.hid (by rw [HT.out, decide_eq_false (by omega)]; simp)
        have hl2 : L.length + 2 + x.txt.length ≤ 180000 := by rw [decide_eq_false (by omega)] at hlen; simp at hlen; omega
        have z1 : ¬ 9223372036854775807 < L.length + 2 := by omega
        have z2 : ¬ 9223372036854775807 < L.length + 2 + x.txt.length := by omega
        have z3 : (0 : Int) < (j : Int) := by omega
        clear HT hlen
        go_wp2_with fail
        refine (HC.out).mono ?_
        rintro e w' ⟨rfl, hb2⟩
        have HB2 := Lib.hid (hb.out.trans (hb2.mono hb.out.size))
        clear hb2
        go_wp2
        go_roundw
        case rel => exact ⟨j + 1, by omega, by go_num, L ++ ([44, 32] ++ x.txt), by rw [← List.append_assoc, ← str_app9, ← str_app9], by simp; omega, Lib.hid HT'.out.symm, HB2⟩
        case measure => simp [intOf]; omega
    · have HE : Hid (txts false true its ks = L) := Lib.hid (by rw [HL2.out, List.take_of_length_le (by rw [← HN.out]; omega)])
      have z1 : ¬ 9223372036854775807 < 1 + L.length := by omega
      have z2 : ¬ 9223372036854775807 < 1 + L.length + 1 := by omega
      go_wp2
      go_ret
      refine ⟨?_, B0.out.trans (hb.out.mono (by have := S1.out; omega))⟩
      rw [HE.out]
      exact congrArg (fun x => Ending.returned (.string x)) ((congrArg (fun q => q ++ (⟨#[93]⟩ : ByteArray)) (str_app9 [91] L)).trans (str_app9 ([91] ++ L) [93]))

set_option maxRecDepth 100000 in
set_option maxHeartbeats 8000000 in
theorem rtxt_5 (m : Nat) (IH : Hid (RTxt m)) (i : Int) (t : ByteArray) (its : List VT) (ks : List ByteArray) (w : World) (v : Value) (hsz : sizes its ≤ m) (hg : alls goodF its = true) (hbw : bws its ≤ 6000) (hkl : ks.length = its.length) (hks : ∀ s ∈ ks, s.size ≤ 4096)
    (htx : (txts true true its ks).length ≤ 180000) (hv : Lies w (Lo w) (.mk 5 i t its ks) v) : Calls Tryz.prog 19 #[v] w (Gives (.string ⟨(123 :: (txts true true its ks ++ [125])).toArray⟩) w) := by
  obtain ⟨A, c, A', c', rfl, hk, hi, ht, hlc, hcm, hL, hkc, hcm', hS⟩ := hv.open
  have HL := Lib.hid hL
  have HS := Lib.hid hS
  have HG := Lib.hid hg
  have HKS := Lib.hid hks
  have HT0 := Lib.hid (fun j => txts_take_len true true its ks j)
  clear hS hL hv hg hks
  rw [hkl] at hkc ⊢
  have HKL := Lib.hid hkl
  clear hkl
  obtain ⟨n, hn⟩ : ∃ n, n = its.length := ⟨_, rfl⟩
  rw [← hn] at hlc hkc ⊢
  have HN := Lib.hid hn
  clear hn
  unfold vag
  go_enter Tryz.func19, Tryz.ntmps19
  go_wp2
  obtain ⟨w1, hw1⟩ : ∃ w1, w1 = w.alloc (.cells #[.int .i64 5, .int .i64 i, .string t, .slice A n c, .slice A' n c'] 25) := ⟨_, rfl⟩
  have B0 : Hid (Below w.heap.size w w1) := Lib.hid (by rw [hw1]; exact below_one _ _)
  have S1 : Hid (w.heap.size < w1.heap.size) := Lib.hid (by rw [hw1]; simp)
  have C3 : Hid (w1.cell? ⟨w.heap.size, 3, none⟩ = some (.slice A n c)) := Lib.hid (by rw [hw1, World.cell?_alloc_at _ _ _ _ rfl]; rfl)
  have C4 : Hid (w1.cell? ⟨w.heap.size, 4, none⟩ = some (.slice A' n c')) := Lib.hid (by rw [hw1, World.cell?_alloc_at _ _ _ _ rfl]; rfl)
  rw [← hw1]
  have HW := Lib.hid hw1
  clear hw1
  go_loopw [3, 5] (fun r t wr => ∃ j : Nat, j ≤ n ∧ t = .int .i64 j ∧ ∃ L : List UInt8, r = .string ⟨L.toArray⟩ ∧ L.length ≤ 180000 ∧ Hid (L = txts true true (its.take j) ks) ∧ Hid (Below w1.heap.size w1 wr)) (fun _ t _ => n - (intOf t).toNat)
  case atStart => exact ⟨0, by omega, rfl, [], rfl, by simp, Lib.hid (by simp [txts]), Lib.hid (Below.refl _ _)⟩
  case round =>
    obtain ⟨j, hjn, rfl, L, rfl, hLn, HL2, hb⟩ := hrel
    have C3' := (hb.out.cell (p := ⟨w.heap.size, 3, none⟩) S1.out).trans C3.out
    have C4' := (hb.out.cell (p := ⟨w.heap.size, 4, none⟩) S1.out).trans C4.out
    by_cases hlt : j < n
    · have hjl : j < its.length := by rw [← HN.out]; exact hlt
      have hjk : j < ks.length := by rw [HKL.out]; exact hjl
      obtain ⟨h0k, gk, ok, rfl, hgk, hck⟩ := HS.out j _ (List.getElem?_eq_getElem hjk)
      obtain ⟨g, o, k', i', t', B, n', c1, B', n1, c2, rfl, hg, e0, e1, e2, e3, e4, hx⟩ := (HL.out).at_ (j := j) (x := its[j]) (List.getElem?_eq_getElem _)
      have HT := Lib.hid (txts_take (m := true) (f := true) (ks := ks) (List.getElem?_eq_getElem hjl))
      rw [← HL2.out] at HT
      have hkd : ks.getD j ByteArray.empty = ks[j] := by rw [List.getD_eq_getElem?_getD, List.getElem?_eq_getElem hjk]; rfl
      rw [hkd] at HT
      have hk4 := HKS.out ks[j] (List.getElem_mem _)
      have hle := size_at (List.getElem?_eq_getElem hjl)
      have hlb := bw_at (List.getElem?_eq_getElem hjl)
      have hgx := all_at HG.out (List.getElem?_eq_getElem hjl)
      have hlen := HT0.out (j + 1)
      rw [HT.out] at hlen
      simp only [List.length_append] at hlen
      have hb' : Below w.heap.size w wr := B0.out.trans (hb.out.mono (by have := S1.out; omega))
      have cc := fun (q : Nat) => hb'.cell (p := ⟨g, q, none⟩) hg
      rw [Nat.zero_add] at e0 e1 e2 e3 e4
      rw [← cc] at e0 e1 e2 e3 e4
      rw [← hb'.cell (p := ⟨gk, ok + j, none⟩) hgk] at hck
      have HC := Lib.hid (fun W (hW : Below wr.heap.size wr W) => IH.out its[j] W _ (by omega) hgx (by omega) (hx.below (hb'.trans (hW.mono hb'.size))))
      have HQ := Lib.hid (fun W => refQuote_any ks[j] W (by omega))
      generalize its[j] = x at *
      generalize ks[j] = key at *
      clear hx hb' cc HL2 hgx hle hlb hkd
      unfold vag at HC
      have k3 := cell_regrown C3'
      have k4 := cell_regrown C4'
      have k5 := cell_regrown hck
      have k6 := cell_regrown e0
      have k7 := cell_regrown e1
      have k8 := cell_regrown e2
      have k9 := cell_regrown e3
      have k10 := cell_regrown e4
      have cQ : ∀ d os, Calls Tryz.prog 12 #[.string key] (grow (redrawn wr d) os) fun e w'' => e = .returned (.string ⟨(quoL key.data.toList).toArray⟩) ∧ ∃ p : Regrown, w'' = grow (redrawn wr p.d) p.os := fun d os => (HQ.out _).mono fun e w'' h => ⟨h.1, ⟨d, os⟩, h.2.symm⟩
      have cE := fun d os => Calls.regrown_of (HC.out _ (below_regrown wr d os))
      generalize quoL key.data.toList = Q at *
      rcases Nat.eq_zero_or_pos j with h0 | h0
      · have HT' : Hid (txts true true (its.take (j + 1)) ks = L ++ (Q ++ ([58, 32] ++ x.txt))) := Lib.hid (by rw [HT.out, decide_eq_true h0]; simp)
        have hl2 : L.length + Q.length + 2 + x.txt.length ≤ 180000 := by rw [decide_eq_true h0] at hlen; simp at hlen; omega
        have z6 : ¬ (0 : Int) < (j : Int) := by omega
        have z1 : ¬ 9223372036854775807 < L.length + Q.length := by omega
        have z2 : ¬ 9223372036854775807 < L.length + Q.length + 2 := by omega
        have z3 : ¬ 9223372036854775807 < L.length + Q.length + 2 + x.txt.length := by omega
        clear HT hlen h0
        go_wp2_with fail
        refine wp_region_quiet_below (by kernel_rfl) (by kernel_rfl) ?_
        repeat (quiet_step (first | exact cQ _ _ | exact cE _ _))
        refine wpQuiet_nil ?_
        intro _ hw'
        obtain ⟨⟨dq, osq⟩, hw''⟩ := hw'
        subst hw''
        have HB2 := Lib.hid (hb.out.trans ((below_regrown wr dq osq).mono hb.out.size))
        go_wp2
        go_roundw
        case rel => exact ⟨j + 1, by omega, by go_num, L ++ (Q ++ ([58, 32] ++ x.txt)), by rw [← List.append_assoc, ← List.append_assoc, ← str_app9, ← str_app9, ← str_app9], by simp; omega, Lib.hid HT'.out.symm, HB2⟩
        case measure => simp [intOf]; omega
      · have HT' : Hid (txts true true (its.take (j + 1)) ks = L ++ ([44, 32] ++ (Q ++ ([58, 32] ++ x.txt)))) := Lib.hid (by rw [HT.out, decide_eq_false (by omega)]; simp)
        have hl2 : L.length + 2 + Q.length + 2 + x.txt.length ≤ 180000 := by rw [decide_eq_false (by omega)] at hlen; simp at hlen; omega
        have z1 : ¬ 9223372036854775807 < L.length + 2 := by omega
        have z2 : ¬ 9223372036854775807 < L.length + 2 + Q.length := by omega
        have z4 : ¬ 9223372036854775807 < L.length + 2 + Q.length + 2 := by omega
        have z5 : ¬ 9223372036854775807 < L.length + 2 + Q.length + 2 + x.txt.length := by omega
        have z3 : (0 : Int) < (j : Int) := by omega
        clear HT hlen
        go_wp2_with fail
        refine wp_region_quiet_below (by kernel_rfl) (by kernel_rfl) ?_
        repeat (quiet_step (first | exact cQ _ _ | exact cE _ _))
        refine wpQuiet_nil ?_
        intro _ hw'
        obtain ⟨⟨dq, osq⟩, hw''⟩ := hw'
        subst hw''
        have HB2 := Lib.hid (hb.out.trans ((below_regrown wr dq osq).mono hb.out.size))
        go_wp2
        go_roundw
        case rel => exact ⟨j + 1, by omega, by go_num, L ++ ([44, 32] ++ (Q ++ ([58, 32] ++ x.txt))), by rw [← List.append_assoc, ← List.append_assoc, ← List.append_assoc, ← str_app9, ← str_app9, ← str_app9, ← str_app9], by simp; omega, Lib.hid HT'.out.symm, HB2⟩
        case measure => simp [intOf]; omega
    · have HE : Hid (txts true true its ks = L) := Lib.hid (by rw [HL2.out, List.take_of_length_le (by rw [← HN.out]; omega)])
      have z1 : ¬ 9223372036854775807 < 1 + L.length := by omega
      have z2 : ¬ 9223372036854775807 < 1 + L.length + 1 := by omega
      go_wp2
      go_ret
      refine ⟨?_, B0.out.trans (hb.out.mono (by have := S1.out; omega))⟩
      rw [HE.out]
      exact congrArg (fun x => Ending.returned (.string x)) ((congrArg (fun q => q ++ (⟨#[125]⟩ : ByteArray)) (str_app9 [123] L)).trans (str_app9 ([123] ++ L) [125]))

set_option maxRecDepth 100000 in
set_option maxHeartbeats 4000000 in
theorem rtxt_all (m : Nat) : RTxt m := by
  induction m with
  | zero => intro x _ _ h; have := size_pos x; omega
  | succ m ih =>
    intro x w v hsz hg0 hbw hv
    have hlen := txt_len x.size x (Nat.le_refl _) hg0
    obtain ⟨k, i, t, its, ks⟩ := x
    rw [VT.size_mk] at hsz
    have hg := hg0
    rw [VT.all_mk, Bool.and_eq_true] at hg
    obtain ⟨hg, hgs⟩ := hg
    unfold goodF at hg
    simp only [Bool.and_eq_true] at hg
    obtain ⟨h1, h2, h3, h4⟩ := hg
    have h2' := short_keys h2
    clear h2
    obtain ⟨h2, h2k⟩ := h2'
    unfold inF at h4
    simp only [Bool.and_eq_true, decide_eq_true_eq] at h4
    have h4a : -9223372036854775808 ≤ i := h4.1
    have h4b : i ≤ 9223372036854775807 := h4.2
    unfold noFut at h3
    have h3 : k ≠ 6 := of_decide_eq_true h3
    have hk := good_kind h1 h3
    have hbw2 := hbw
    rw [VT.bw_mk] at hbw2
    rw [VT.txt_mk] at hlen ⊢
    rcases hk with rfl | rfl | rfl | rfl | rfl | rfl
    · rw [if_neg (by decide), if_neg (by decide), if_neg (by decide), if_neg (by decide), if_neg (by decide)]
      obtain ⟨A, c, A', c', rfl, _, _, _, _, _, _, _, _, _⟩ := hv.open
      clear hv hlen
      generalize its.length = n1 at *
      generalize ks.length = n2 at *
      unfold vag
      go_enter Tryz.func19, Tryz.ntmps19
      go_wp2
      go_ret
      exact ⟨rfl, below_one _ _⟩
    · rw [okF_1] at h1
      simp only [Bool.and_eq_true, Bool.or_eq_true, decide_eq_true_eq] at h1
      have h01 := h1.1
      rw [if_pos rfl]
      obtain ⟨A, c, A', c', rfl, _, _, _, _, _, _, _, _, _⟩ := hv.open
      clear hv hlen h1
      generalize its.length = n1 at *
      generalize ks.length = n2 at *
      unfold vag
      rcases h01 with rfl | rfl
      all_goals (
        go_enter Tryz.func19, Tryz.ntmps19
        go_wp2
        go_ret
        exact ⟨rfl, below_one _ _⟩)
    · rw [if_neg (by decide), if_pos rfl]
      obtain ⟨A, c, A', c', rfl, _, _, _, _, _, _, _, _, _⟩ := hv.open
      clear hv hlen
      generalize its.length = n1 at *
      generalize ks.length = n2 at *
      unfold vag
      go_enter Tryz.func19, Tryz.ntmps19
      go_wp2_with fail
      refine (refDec_any i _ h4a h4b).mono ?_
      rintro e w' ⟨rfl, hb⟩
      have HB := Lib.hid (below_via (Below.refl w.heap.size w) hb)
      clear hb
      go_wp2
      go_ret
      exact ⟨rfl, HB.out⟩
    · rw [if_neg (by decide), if_neg (by decide), if_pos rfl]
      obtain ⟨A, c, A', c', rfl, _, _, _, _, _, _, _, _, _⟩ := hv.open
      clear hv hlen
      generalize its.length = n1 at *
      generalize ks.length = n2 at *
      unfold vag
      go_enter Tryz.func19, Tryz.ntmps19
      go_wp2_with fail
      refine (refQuote_any t _ (by omega)).mono ?_
      rintro e w' ⟨rfl, rfl⟩
      go_wp2
      go_ret
      exact ⟨rfl, below_one _ _⟩
    · rw [if_neg (by decide), if_neg (by decide), if_neg (by decide), if_pos rfl]
      rw [if_neg (by decide), if_neg (by decide), if_neg (by decide), if_pos rfl] at hlen
      simp only [List.length_cons, List.length_append] at hlen
      exact rtxt_4 m (Lib.hid ih) i t its ks w v (by omega) hgs (by omega) (by omega) hv
    · rw [if_neg (by decide), if_neg (by decide), if_neg (by decide), if_neg (by decide), if_pos rfl]
      rw [if_neg (by decide), if_neg (by decide), if_neg (by decide), if_neg (by decide), if_pos rfl] at hlen
      simp only [List.length_cons, List.length_append] at hlen
      rw [okF_5] at h1
      simp only [Bool.and_eq_true, decide_eq_true_eq] at h1
      exact rtxt_5 m (Lib.hid ih) i t its ks w v (by omega) hgs (by omega) h1.2.2.1 h2k (by omega) hv
end Go.Proofs.YtjblchdfkcbodaaGreatDoor
namespace Go.Proofs.YtjblchdfkcbodaaGreatDoor
open Go.RowKit

def fks : List ByteArray → Int → Int
  | [], n => n
  | s :: r, n => if n < 0 then n else fks r (n - s.size)
mutual
def VT.fw : VT → Int → Int
  | .mk _ _ t its ks, n => fws its (fks ks (n - 1 - t.size))
def fws : List VT → Int → Int
  | [], n => n
  | x :: r, n => if n < 0 then n else fws r (x.fw n)
end
theorem VT.fw_mk (k i : Int) (t : ByteArray) (its : List VT) (ks : List ByteArray) (n : Int) : (VT.mk k i t its ks).fw n = fws its (fks ks (n - 1 - t.size)) := by rw [VT.fw]
theorem fks_neg {l : List ByteArray} {n : Int} (h : n < 0) : fks l n = n := by
  cases l with
  | nil => rfl
  | cons x r => rw [fks, if_pos h]
theorem fws_neg {l : List VT} {n : Int} (h : n < 0) : fws l n = n := by
  cases l with
  | nil => rw [fws]
  | cons x r => rw [fws, if_pos h]
theorem fks_append (a b : List ByteArray) (n : Int) : fks (a ++ b) n = fks b (fks a n) := by
  induction a generalizing n with
  | nil => rfl
  | cons x r ih =>
    rw [List.cons_append, fks, fks]
    split
    · rw [fks_neg (by assumption)]
    · rw [ih]
theorem fws_append (a b : List VT) (n : Int) : fws (a ++ b) n = fws b (fws a n) := by
  induction a generalizing n with
  | nil => simp [fws]
  | cons x r ih =>
    rw [List.cons_append, fws, fws]
    split
    · rw [fws_neg (by assumption)]
    · rw [ih]
theorem fks_take {l : List ByteArray} {j : Nat} {s : ByteArray} {n : Int} (h : l[j]? = some s) (hn : 0 ≤ fks (l.take j) n) : fks (l.take (j + 1)) n = fks (l.take j) n - s.size := by
  rw [List.take_add_one, h, fks_append]
  simp only [Option.toList_some, fks]
  rw [if_neg (by omega)]
theorem fws_take {l : List VT} {j : Nat} {x : VT} {n : Int} (h : l[j]? = some x) (hn : 0 ≤ fws (l.take j) n) : fws (l.take (j + 1)) n = x.fw (fws (l.take j) n) := by
  rw [List.take_add_one, h, fws_append]
  simp only [Option.toList_some, fws]
  rw [if_neg (by omega)]
theorem fks_stop {l : List ByteArray} {j : Nat} {n : Int} (hn : fks (l.take j) n < 0) : fks l n = fks (l.take j) n := by
  have := fks_append (l.take j) (l.drop j) n
  rw [List.take_append_drop] at this
  rw [this, fks_neg hn]
theorem fws_stop {l : List VT} {j : Nat} {n : Int} (hn : fws (l.take j) n < 0) : fws l n = fws (l.take j) n := by
  have := fws_append (l.take j) (l.drop j) n
  rw [List.take_append_drop] at this
  rw [this, fws_neg hn]
theorem fks_le : ∀ (l : List ByteArray) (n : Int), fks l n ≤ n
  | [], n => by simp [fks]
  | s :: r, n => by
    rw [fks]
    split
    · exact Int.le_refl _
    · have := fks_le r (n - s.size)
      omega
mutual
theorem VT.fw_le : ∀ (x : VT) (n : Int), x.fw n ≤ n
  | .mk k i t its ks, n => by
    rw [VT.fw_mk]
    have h1 := fws_le its (fks ks (n - 1 - t.size))
    have h2 := fks_le ks (n - 1 - t.size)
    omega
theorem fws_le : ∀ (l : List VT) (n : Int), fws l n ≤ n
  | [], n => by simp [fws]
  | x :: r, n => by
    rw [fws]
    split
    · exact Int.le_refl _
    · have h1 := fws_le r (x.fw n)
      have h2 := VT.fw_le x n
      omega
end
theorem fks_sum : ∀ (l : List ByteArray) (n : Int), 0 ≤ fks l n → fks l n = n - klen l
  | [], n, _ => by simp [fks, klen]
  | s :: r, n, h => by
    rw [fks] at h ⊢
    split at h
    · omega
    · rw [if_neg (by assumption), klen_cons, fks_sum r _ h]
      omega
mutual
theorem VT.fw_sum : ∀ (x : VT) (n : Int), 0 ≤ x.fw n → x.fw n = n - x.bw
  | .mk k i t its ks, n, h => by
    rw [VT.fw_mk] at h ⊢
    have h1 := fws_sum its _ h
    have h2 := fws_le its (fks ks (n - 1 - t.size))
    rw [h1, VT.bw_mk, fks_sum ks _ (by omega)]
    omega
theorem fws_sum : ∀ (l : List VT) (n : Int), 0 ≤ fws l n → fws l n = n - bws l
  | [], n, _ => by simp [fws, bws]
  | x :: r, n, h => by
    rw [fws] at h ⊢
    split at h
    · omega
    · rw [if_neg (by assumption), bws]
      have h1 := fws_sum r _ h
      have h3 := fws_le r (x.fw n)
      have h2 := VT.fw_sum x n (by omega)
      omega
end
/-- few enough: so many bytes and nodes at most -/
theorem fw_bw {x : VT} {n : Int} (h : 0 ≤ x.fw n) : (x.bw : Int) ≤ n := by
  have := VT.fw_sum x n h
  omega
end Go.Proofs.YtjblchdfkcbodaaGreatDoor
namespace Go.Proofs.YtjblchdfkcbodaaGreatDoor
open Go.RowKit

theorem ret_i64' {a b : Int} (h : a = b) : Ending.returned (.int .i64 a) = .returned (.int .i64 b) := by rw [h]

set_option maxHeartbeats 2000000 in
theorem Few_all (m : Nat) : ∀ (x : VT) (w : World) (v : Value) (b : Int), x.size ≤ m → 0 ≤ b → b ≤ 6000 → Lies w (Lo w) x v → Calls Tryz.prog 7 #[v, .int .i64 b] w (Gives (.int .i64 (x.fw b)) w) := by
  induction m with
  | zero => intro x _ _ _ h; have := size_pos x; omega
  | succ m ih =>
    intro x w v b hsz hb0 hb1 hv
    obtain ⟨k, i, t, its, ks⟩ := x
    obtain ⟨A, c, A', c', rfl, hk, hi, ht, hlc, hcm, hL, hkc, hcm', hS⟩ := hv.open
    rw [VT.size_mk] at hsz
    have HL := Lib.hid hL
    have HS := Lib.hid hS
    have IH := Lib.hid ih
    have hlen : its.length ≤ sizes its := by have := sizes_room its 0; simp [sizes] at this; omega
    rw [VT.fw_mk]
    obtain ⟨r0, hr0⟩ : ∃ r0 : Int, r0 = b - 1 - t.size := ⟨_, rfl⟩
    have hr1 : r0 ≤ 6000 := by omega
    rw [← hr0]
    clear hS hL ih hv
    obtain ⟨n, hn⟩ : ∃ n, n = its.length := ⟨_, rfl⟩
    rw [← hn] at hlc hlen ⊢
    have HN := Lib.hid hn
    clear hn
    obtain ⟨nk, hnk⟩ : ∃ nk, nk = ks.length := ⟨_, rfl⟩
    rw [← hnk] at hkc ⊢
    have HK := Lib.hid hnk
    clear hnk
    unfold vag
    go_enter Tryz.func7, Tryz.ntmps7
    go_wp2
    obtain ⟨w1, hw1⟩ : ∃ w1, w1 = w.alloc (.cells #[.int .i64 k, .int .i64 i, .string t, .slice A n c, .slice A' nk c'] 25) := ⟨_, rfl⟩
    have B0 : Hid (Below w.heap.size w w1) := Lib.hid (by rw [hw1]; exact below_one _ _)
    have S1 : Hid (w.heap.size < w1.heap.size) := Lib.hid (by rw [hw1]; simp)
    have C3 : Hid (w1.cell? ⟨w.heap.size, 3, none⟩ = some (.slice A n c)) := Lib.hid (by rw [hw1, World.cell?_alloc_at _ _ _ _ rfl]; rfl)
    have C4 : Hid (w1.cell? ⟨w.heap.size, 4, none⟩ = some (.slice A' nk c')) := Lib.hid (by rw [hw1, World.cell?_alloc_at _ _ _ _ rfl]; rfl)
    rw [← hw1]
    have HW := Lib.hid hw1
    clear hw1
    go_loop [1, 5] (fun r t => ∃ j : Nat, j ≤ nk ∧ t = .int .i64 j ∧ ∃ z : Int, r = .int .i64 z ∧ z ≤ 6000 ∧ Hid (z = fks (ks.take j) r0)) (fun _ t => nk - (intOf t).toNat)
    case atStart => exact ⟨0, by omega, rfl, r0, by first | rfl | (rw [hr0]) | go_num, hr1, Lib.hid rfl⟩
    case round =>
      obtain ⟨j, hjn, rfl, z, rfl, hz, HZ⟩ := hrel
      have c4 := C4.out
      by_cases hlt : j < nk ∧ 0 ≤ z
      · obtain ⟨hlt, hz0⟩ := hlt
        have hjl : j < ks.length := by rw [← HK.out]; exact hlt
        obtain ⟨h0, g, o, rfl, hg, hc⟩ := HS.out j _ (List.getElem?_eq_getElem hjl)
        have HT := Lib.hid (fks_take (n := r0) (List.getElem?_eq_getElem hjl) (by rw [← HZ.out]; exact hz0))
        rw [← HZ.out] at HT
        have HLE : Hid (fks (ks.take (j + 1)) r0 ≤ r0) := Lib.hid (fks_le _ _)
        rw [← B0.out.cell (p := ⟨g, o + j, none⟩) hg] at hc
        generalize ks[j] = key at *
        clear HZ
        go_wp2
        go_round
        case rel => exact ⟨j + 1, by omega, by go_num, z - key.size, by go_num, by have := Int.natCast_nonneg key.size; omega, Lib.hid HT.out.symm⟩
        case measure => simp [intOf]; omega
      · have HE : Hid (z = fks ks r0) := Lib.hid (by
          rcases Nat.lt_or_ge j nk with h1 | h1
          · rw [fks_stop (j := j) (by rw [← HZ.out]; omega)]; exact HZ.out
          · rw [HZ.out, List.take_of_length_le (by rw [← HK.out]; exact h1)])
        clear HZ
        have hcase : ¬ j < nk ∨ (j < nk ∧ ¬ 0 ≤ z) := by omega
        clear hlt
        rcases hcase with hlt | ⟨hlt, hz0⟩
        all_goals (
          go_wp2
          go_loopw [1, 6] (fun r t wr => ∃ j : Nat, j ≤ n ∧ t = .int .i64 j ∧ ∃ z : Int, r = .int .i64 z ∧ z ≤ 6000 ∧ Hid (z = fws (its.take j) (fks ks r0)) ∧ Hid (Below w1.heap.size w1 wr)) (fun _ t _ => n - (intOf t).toNat)
          case atStart => exact ⟨0, by omega, rfl, z, rfl, hz, Lib.hid (by rw [HE.out]; simp [fws]), Lib.hid (Below.refl _ _)⟩
          case round =>
            obtain ⟨j2, hjn2, rfl, z2, rfl, hz2, HZ2, hb⟩ := hrel
            have C3' := (hb.out.cell (p := ⟨w.heap.size, 3, none⟩) S1.out).trans C3.out
            by_cases hlt2 : j2 < n ∧ 0 ≤ z2
            · obtain ⟨hlt2, hz20⟩ := hlt2
              have hjl : j2 < its.length := by rw [← HN.out]; exact hlt2
              obtain ⟨g, o, k', i', t', B, n', c1, B', n1, c2, rfl, hg, e0, e1, e2, e3, e4, hx⟩ := (HL.out).at_ (j := j2) (x := its[j2]) (List.getElem?_eq_getElem _)
              have HT := Lib.hid (fws_take (n := fks ks r0) (List.getElem?_eq_getElem hjl) (by rw [← HZ2.out]; exact hz20))
              rw [← HZ2.out] at HT
              have hle := size_at (List.getElem?_eq_getElem hjl)
              have hb' : Below w.heap.size w wr := B0.out.trans (hb.out.mono (by have := S1.out; omega))
              have cc := fun (q : Nat) => hb'.cell (p := ⟨g, q, none⟩) hg
              rw [Nat.zero_add] at e0 e1 e2 e3 e4
              rw [← cc] at e0 e1 e2 e3 e4
              have HC := Lib.hid (IH.out its[j2] wr _ z2 (by omega) hz20 hz2 (hx.below hb'))
              have HLE := Lib.hid (VT.fw_le its[j2] z2)
              generalize its[j2] = x at *
              clear hx hb' cc HZ2 c4
              unfold vag at HC
              go_wp2_with fail
              refine (HC.out).mono ?_
              rintro e w' ⟨rfl, hb2⟩
              have HB2 := Lib.hid (hb.out.trans (hb2.mono hb.out.size))
              have hle2 := HLE.out
              clear hb2
              go_wp2
              go_roundw
              case rel => exact ⟨j2 + 1, by omega, by go_num, _, rfl, by omega, Lib.hid HT.out.symm, HB2⟩
              case measure => simp [intOf]; omega
            · have HE2 : Hid (z2 = fws its (fks ks r0)) := Lib.hid (by
                rcases Nat.lt_or_ge j2 n with h1 | h1
                · rw [fws_stop (j := j2) (by rw [← HZ2.out]; omega)]; exact HZ2.out
                · rw [HZ2.out, List.take_of_length_le (by rw [← HN.out]; exact h1)])
              clear HZ2
              have hcase : ¬ j2 < n ∨ (j2 < n ∧ ¬ 0 ≤ z2) := by omega
              clear hlt2
              rcases hcase with hlt2 | ⟨hlt2, hz20⟩
              all_goals (
                go_wp2
                go_ret
                exact ⟨ret_i64' (by first | exact HE2.out | (rw [← hr0]; exact HE2.out) | (rw [HE2.out, hr0])), B0.out.trans (hb.out.mono (by have := S1.out; omega))⟩))
theorem Few_any {x : VT} {w : World} {v : Value} (hv : Lies w (Lo w) x v) : Calls Tryz.prog 7 #[v, .int .i64 6000] w (Gives (.int .i64 (x.fw 6000)) w) := Few_all x.size x w v 6000 (Nat.le_refl _) (by decide) (by decide) hv
mutual
theorem VT.size_bw : ∀ (x : VT), x.size ≤ x.bw
  | .mk k i t its ks => by
    rw [VT.size_mk, VT.bw_mk]
    have := sizes_bw its
    omega
theorem sizes_bw : ∀ (l : List VT), sizes l ≤ bws l
  | [] => by simp [sizes, bws]
  | x :: r => by
    rw [sizes, bws]
    have h1 := VT.size_bw x
    have h2 := sizes_bw r
    omega
end
end Go.Proofs.YtjblchdfkcbodaaGreatDoor
namespace Go.Proofs.YtjblchdfkcbodaaGreatDoor.opens
open Go.ChangeShapes Go.WideShapes Go.ChangeAt Go.RowKit Go.Deep

theorem Tryz.vcells : Tryz.prog.cellsOf 25 = 5 := by kernel_rfl
theorem Tryz.icells : Tryz.prog.cellsOf 3 = 1 := by kernel_rfl
theorem Tryz.scells : Tryz.prog.cellsOf 9 = 1 := by kernel_rfl
theorem Tryz.lcells : Tryz.prog.cellsOf 22 = 1 := by kernel_rfl
theorem Tryz.kcells : Tryz.prog.cellsOf 23 = 1 := by kernel_rfl

theorem ints64 {a : Int} (h : (Lit.int .i64 a).wf = true) : -9223372036854775808 ≤ a ∧ a ≤ 9223372036854775807 := by
  simpa [Lit.wf, IntKind.min, IntKind.max, IntKind.signed, IntKind.bits] using h

theorem spot_zero {w : World} {a : Addr} {v : Value} (h : w.cell? (a.add 0) = some v) : a.spot = none := by
  have h1 := World.cell?_spot h
  simpa [Addr.add] using h1
section
variable {H : Type} {enc : TypeId × Value → H} {W : World} {base : Nat} {spare : Nat → Bool} {held : Bool}
theorem strs_lie {n : Nat} {cs : List Value} {y : DataW H × List MemPlace} (h : DataW.trod enc Tryz.prog W base spare held n 23 cs = some y) :
    ∃ A m c ks, cs = [.slice A m c] ∧ ks.length = m ∧ m ≤ c ∧ c ≤ 9223372036854775807 ∧ LiesS W (Lo W) A ks := by
  rcases open_strings Tryz.underlying23 Tryz.underlying9 Tryz.scells h with ⟨rfl, _⟩ | ⟨a, len, cap, ss, rfl, _, hl, hm, hss, _, hc, hsz⟩
  · exact ⟨none, 0, 0, [], rfl, rfl, Nat.le_refl _, by omega, LiesS.none_⟩
  · unfold maxLen at hm hsz
    have hle : len ≤ ss.length := by rw [hss]; split <;> omega
    refine ⟨some a, len, cap, ss.take len, rfl, by rw [List.length_take]; omega, hl, hm, fun j s hj => ?_⟩
    have hj' : ss[j]? = some s := by
      rw [List.getElem?_take] at hj
      split at hj
      · exact hj
      · cases hj
    have hlt := (List.getElem?_eq_some_iff.1 hj').1
    have h1 := hc j hlt
    rw [List.getD_eq_getElem?_getD, hj'] at h1
    have hspot := spot_zero (hc 0 (by omega))
    obtain ⟨g, o, spot⟩ := a
    have hspot : spot = none := hspot
    subst hspot
    rw [Addr.add_lit] at h1
    exact ⟨hsz s (List.mem_of_getElem? hj'), g, o, rfl, World.block_lt_of_cell? W _ h1, h1⟩

set_option maxRecDepth 100000 in
theorem value_lies : ∀ (fuel : Nat) (cs : List Value) (y : DataW H × List MemPlace), DataW.trod enc Tryz.prog W base spare held fuel 25 cs = some y →
    ∃ (x : VT) (a b s p q : Value), cs = [a, b, s, p, q] ∧ Lies W (Lo W) x (.agg #[a, b, s, p, q]) := by
  intro fuel
  induction fuel using Nat.strongRecOn with
  | ind fuel ih =>
    intro cs y h
    obtain ⟨xs, n, rfl, _, hl, hx, hf⟩ := DataW.trod_struct Tryz.underlying25 h
    rw [Tryz.vcells] at hl
    match cs, hl with
    | [a, b, s, p, q], _ =>
      match xs, hx with
      | [x0, x1, x2, x3, x4], _ =>
        have f0 := hf 0 _ rfl
        have f1 := hf 1 _ rfl
        have f2 := hf 2 _ rfl
        have f3 := hf 3 _ rfl
        have f4 := hf 4 _ rfl
        change DataW.trod enc Tryz.prog W base spare held n 3 (([a, b, s, p, q].drop 0).take (Tryz.prog.cellsOf 3)) = some x0 at f0
        rw [Tryz.icells] at f0
        change DataW.trod enc Tryz.prog W base spare held n 3 (([a, b, s, p, q].drop 1).take (Tryz.prog.cellsOf 3)) = some x1 at f1
        rw [Tryz.icells] at f1
        change DataW.trod enc Tryz.prog W base spare held n 9 (([a, b, s, p, q].drop 2).take (Tryz.prog.cellsOf 9)) = some x2 at f2
        rw [Tryz.scells] at f2
        change DataW.trod enc Tryz.prog W base spare held n 22 (([a, b, s, p, q].drop 3).take (Tryz.prog.cellsOf 22)) = some x3 at f3
        rw [Tryz.lcells] at f3
        change DataW.trod enc Tryz.prog W base spare held n 23 (([a, b, s, p, q].drop 4).take (Tryz.prog.cellsOf 23)) = some x4 at f4
        rw [Tryz.kcells] at f4
        change DataW.trod enc Tryz.prog W base spare held n 3 [a] = some x0 at f0
        change DataW.trod enc Tryz.prog W base spare held n 3 [b] = some x1 at f1
        change DataW.trod enc Tryz.prog W base spare held n 9 [s] = some x2 at f2
        change DataW.trod enc Tryz.prog W base spare held n 22 [p] = some x3 at f3
        change DataW.trod enc Tryz.prog W base spare held n 23 [q] = some x4 at f4
        obtain ⟨k, hk, _, wk⟩ := DataW.trod_int Tryz.underlying3 f0
        obtain ⟨i, hi, _, wi⟩ := DataW.trod_int Tryz.underlying3 f1
        obtain ⟨t, ht, _, wt⟩ := DataW.trod_string Tryz.underlying9 f2
        obtain ⟨Ak, mk, ck, ks, hks, hkl, hkc, hkm, hS⟩ := strs_lie f4
        simp only [List.cons.injEq, and_true] at hk hi ht hks
        subst hk hi ht hks hkl
        unfold maxLen at wt
        rcases DataW.trod_slice Tryz.underlying22 f3 with ⟨hp, _⟩ | ⟨ad, len, cap, elems, rest, n', rfl, hp, _, _, hlc, hcm, _, hel, _⟩
        · simp only [List.cons.injEq, and_true] at hp
          subst hp
          refine ⟨.mk k i t [] ks, _, _, _, _, _, rfl, ?_⟩
          rw [Lies]
          exact ⟨none, 0, Ak, ck, rfl, ints64 wk, ints64 wi, wt, Nat.le_refl _, by omega, LiesL.none_, hkc, hkm, hS⟩
        · simp only [List.cons.injEq, and_true] at hp
          subst hp
          unfold maxLen at hcm
          rename_i hlen
          have each : ∀ j, ∃ (x : VT), j < len → ∃ a b s p q, W.cell? (ad.add (j * 5)) = some a ∧ W.cell? ((ad.add (j * 5)).add 1) = some b ∧ W.cell? ((ad.add (j * 5)).add 2) = some s ∧ W.cell? ((ad.add (j * 5)).add 3) = some p ∧ W.cell? ((ad.add (j * 5)).add 4) = some q ∧
              Lies W (Lo W) x (.agg #[a, b, s, p, q]) := by
            intro j
            by_cases hj : j < len
            · have h1 := hel j hj
              rw [Tryz.vcells] at h1
              have h2 : elems[j]? = some (elems[j]'(by omega)) := List.getElem?_eq_getElem _
              rw [h2] at h1
              obtain ⟨cs', hc1, hc2⟩ := Option.bind_eq_some_iff.1 h1
              obtain ⟨x, a, b, s, p, q, rfl, hxl⟩ := ih n' (by omega) cs' _ hc2
              obtain ⟨_, _, h3⟩ := World.cells?_some hc1
              have e0 := h3 0 (by omega)
              have e1 := h3 1 (by omega)
              have e2 := h3 2 (by omega)
              have e3 := h3 3 (by omega)
              have e4 := h3 4 (by omega)
              have ez : (ad.add (j * 5)).add 0 = ad.add (j * 5) := by simp [Addr.add]
              rw [ez] at e0
              exact ⟨x, fun _ => ⟨a, b, s, p, q, e0, e1, e2, e3, e4, hxl⟩⟩
            · exact ⟨default, fun h => absurd h hj⟩
          obtain ⟨f, hf⟩ := Classical.axiomOfChoice each
          have hll : ((List.range len).map f).length = len := by simp
          refine ⟨.mk k i t ((List.range len).map f) ks, _, _, _, _, _, rfl, ?_⟩
          rw [Lies, hll]
          refine ⟨some ad, cap, Ak, ck, rfl, ints64 wk, ints64 wi, wt, hlc, hcm, LiesL.of_at (fun j x hj => ?_), hkc, hkm, hS⟩
          rw [List.getElem?_map] at hj
          have hjl : j < len := by
            rcases Nat.lt_or_ge j len with h | h
            · exact h
            · rw [List.getElem?_eq_none (by simpa using h)] at hj; cases hj
          rw [List.getElem?_range hjl] at hj
          simp at hj
          subst hj
          obtain ⟨a0, b0, s0, p0, q0, z0, _⟩ := hf 0 (by omega)
          have hspot := spot_zero (a := ad) (by simpa using z0)
          obtain ⟨a, b, s, p, q, e0, e1, e2, e3, e4, hxl⟩ := hf j hjl
          obtain ⟨g, o, spot⟩ := ad
          have hspot : spot = none := hspot
          subst hspot
          rw [Addr.add_lit] at e0 e1 e2 e3 e4
          rw [Addr.add_lit] at e1 e2 e3 e4
          rw [Nat.zero_add]
          exact ⟨g, o, a, b, s, p, q, rfl, World.block_lt_of_cell? W _ e0, e0, e1, e2, e3, e4, hxl⟩

set_option maxRecDepth 100000 in
theorem value {r : Reach} {b0 : Nat} {v : Value} {d : DataW H} {ps : List MemPlace} (hval : Value.okWide Tryz.prog W r b0 25 v) (hd : DataW.Trod enc Tryz.prog W base spare held 25 v d ps) :
    ∃ x : VT, Lies W (Lo W) x v := by
  obtain ⟨cs, rfl, _⟩ := okWide_struct Tryz.underlying25 hval
  obtain ⟨fuel, hf⟩ := hd
  obtain ⟨x, a, b, s, p, q, hcs, hx⟩ := value_lies fuel _ _ hf
  refine ⟨x, ?_⟩
  have : cs = #[a, b, s, p, q] := by
    apply Array.toList_inj.1
    simpa [Value.cells] using hcs
  rw [this]
  exact hx
end
end Go.Proofs.YtjblchdfkcbodaaGreatDoor.opens
namespace Go.Proofs.YtjblchdfkcbodaaGreatDoor
open Go.RowKit

theorem txts_len9 {m : Bool} : ∀ (its : List VT) (ks : List ByteArray) (f : Bool), (∀ x ∈ its, x.txt.length + 8 ≤ 30 * x.bw) → (txts m f its ks).length ≤ 30 * bws its + 4 * klen ks
  | [], _, _, _ => by simp [txts]
  | x :: r, ks, f, h => by
    rw [txts, bws]
    have hx := h x List.mem_cons_self
    have hf : (if f = true then ([] : List UInt8) else [44, 32]).length ≤ 2 := by split <;> simp
    have ih := txts_len9 (m := m) r ks.tail false (fun y hy => h y (List.mem_cons_of_mem _ hy))
    have hq : (if m = true then quoL (ks.headD ByteArray.empty).data.toList ++ [58, 32] else []).length + 4 * klen ks.tail ≤ 4 * klen ks + 4 := by
      cases ks with
      | nil =>
        split
        · have := quo_le ByteArray.empty
          have e : ByteArray.empty.size = 0 := rfl
          rw [e] at this
          simp only [List.headD_nil, List.tail_nil, List.length_append, List.length_cons, List.length_nil]
          omega
        · simp only [List.tail_nil, List.length_nil]; omega
      | cons a b =>
        rw [klen_cons]
        split
        · have := quo_le a
          simp only [List.headD_cons, List.tail_cons, List.length_append, List.length_cons, List.length_nil]
          omega
        · simp only [List.tail_cons, List.length_nil]; omega
    simp only [List.length_append] at hq ⊢
    omega
theorem txt_len9 : ∀ (m : Nat) (x : VT), x.size ≤ m → x.all inF = true → x.txt.length + 8 ≤ 30 * x.bw
  | 0, x, h, _ => by have := size_pos x; omega
  | m + 1, .mk k i t its ks, h, hg => by
    rw [VT.size_mk] at h
    rw [VT.all_mk, Bool.and_eq_true] at hg
    obtain ⟨h4, hgs⟩ := hg
    unfold inF at h4
    simp only [Bool.and_eq_true, decide_eq_true_eq] at h4
    have h4a : -9223372036854775808 ≤ i := h4.1
    have h4b : i ≤ 9223372036854775807 := h4.2
    have ih : ∀ x ∈ its, x.txt.length + 8 ≤ 30 * x.bw := fun x hx => txt_len9 m x (by have := size_mem hx; omega) (alls_mem hgs hx)
    rw [VT.txt_mk, VT.bw_mk]
    split
    · unfold boolL
      split <;> (simp only [List.length_cons, List.length_nil]; omega)
    · split
      · have : (Lib.itoa i).length ≤ 21 := Lib.itoa_length_le i h4a h4b
        omega
      · split
        · have := quo_le t
          omega
        · split
          · have := txts_len9 (m := false) its ks true ih
            simp only [List.length_append, List.length_cons, List.length_nil]
            omega
          · split
            · have := txts_len9 (m := true) its ks true ih
              simp only [List.length_append, List.length_cons, List.length_nil]
              omega
            · simp only [List.length_cons, List.length_nil]
              omega

set_option maxRecDepth 100000 in
set_option maxHeartbeats 4000000 in
theorem refPrint_any {x : VT} {v : Value} {w : World} (hv : Lies w (Lo w) x v) (hb : x.bw ≤ 6000) : Calls Tryz.prog 10 #[v] w (PrtR x w) := by
  have hsb := VT.size_bw x
  have hin := lies_in x.size x v (Nat.le_refl _) hv
  have HR := Lib.hid (fun (w' : World) (hb : Below w.heap.size w w') => refRight_any (by omega) (hv.below hb))
  have HP := Lib.hid (fun (w' : World) (hb' : Below w.heap.size w w') (hx : x.right = true) => rtxt_all x.size x w' v (Nat.le_refl _) (by
    obtain ⟨h1, h2, h3, h4, h5⟩ := right_parts hx
    exact all_good x.size x (Nat.le_refl _) h1 h2 h3 hin) hb (hv.below hb'))
  have HX : Hid (∀ (w' : World), Below w.heap.size w w' → PrtR x w (.returned (.tuple (if x.right = true then #[.string ⟨x.txt.toArray⟩, .int .i64 0] else #[.string ⟨#[]⟩, .int .i64 2]))) w') := Lib.hid (fun w' hb => ⟨rfl, hb⟩)
  obtain ⟨k, i, t, its, ks⟩ := x
  obtain ⟨A1, c1, A', c', rfl, _, _, _, _, _, _, _, _, _⟩ := hv.open
  clear hv hin hsb
  generalize hx : VT.mk k i t its ks = x at *
  clear hx
  generalize hb : x.right = b at *
  obtain ⟨w1, hw1⟩ : ∃ w1, w1 = w.alloc (.cells #[.int .i64 k, .int .i64 i, .string t, .slice A1 its.length c1, .slice A' ks.length c'] 25) := ⟨_, rfl⟩
  have P1 : Hid (Bk w1 w.heap.size 25 #[.int .i64 k, .int .i64 i, .string t, .slice A1 its.length c1, .slice A' ks.length c']) := Lib.hid (by rw [hw1]; exact Bk.new _ _ _)
  have B1 : Hid (Below w.heap.size w w1) := Lib.hid (by rw [hw1]; exact below_one _ _)
  have R1 := Lib.hid (HR.out w1 B1.out)
  have HW := Lib.hid hw1
  clear hw1
  unfold vag at *
  generalize its.length = n1 at *
  generalize ks.length = n2 at *
  go_enter Tryz.func10, Tryz.ntmps10
  go_wp2_with fail
  rw [← HW.out]
  refine (R1.out).mono ?_
  rintro e0 w2 ⟨rfl, hb2⟩
  have P2 := Lib.hid (P1.out.below hb2 P1.out.lt)
  have B2 := Lib.hid (B1.out.trans (hb2.mono B1.out.size))
  clear hb2 P1 B1 R1 HW
  have p0 := P2.out.cell 0
  have p1 := P2.out.cell 1
  have p2 := P2.out.cell 2
  have p3 := P2.out.cell 3
  have p4 := P2.out.cell 4
  cases b with
  | false =>
    go_wp2
    go_ret2
    exact HX.out w2 B2.out
  | true =>
    have T2 := Lib.hid (HP.out w2 B2.out rfl)
    go_wp2_with fail
    refine (T2.out).mono ?_
    rintro e0 w3 ⟨rfl, hb3⟩
    have B3 := Lib.hid (B2.out.trans (hb3.mono B2.out.size))
    clear hb3
    go_wp2
    go_ret2
    exact HX.out w3 B3.out
end Go.Proofs.YtjblchdfkcbodaaGreatDoor
