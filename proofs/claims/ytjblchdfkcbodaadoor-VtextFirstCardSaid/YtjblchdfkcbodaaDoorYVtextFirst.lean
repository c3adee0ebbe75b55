/-
  VtextFirst returns true for every input, and its arguments read afterwards as they read before: what it leans on.
-/
import Derived.Test.YtjblchdfkcbodaaDoorUf
import Derived.Test.YtjblchdfkcbodaaDoorTn
import Derived.Test.YtjblchdfkcbodaaDoorTc
namespace Go.Proofs.YtjblchdfkcbodaaDoor
open Go.RowKit

theorem itoa_ne (i : Int) : 1 ≤ (Lib.itoa i).length := by
  unfold Lib.itoa
  split
  · simp
  · have := dec_ne i.toNat
    exact List.length_pos_iff.2 this

set_option maxRecDepth 100000 in
set_option maxHeartbeats 2000000 in
set_option linter.unusedVariables false in
theorem pay_0 (i : Int) (t : ByteArray) (its : List VT) (ks : List ByteArray) (A : Option Addr) (c : Nat) (A' : Option Addr) (c' : Nat) (w : World) (base n0 c0 : Nat) (A0 : Option Addr) (l : List UInt8)
    (hi : -9223372036854775808 ≤ i ∧ i ≤ 9223372036854775807)
    (ho : w.ownsRow base 5 1 (.slice A0 n0 c0) n0 (l.map b8)) (hB : base ≤ w.heap.size) (hn : n0 + 4 * (VT.mk 0 i t its ks).txt.length ≤ 100000000) (hT : PowTab base w) :
    Calls Tryd.prog 16 #[.slice A0 n0 c0, vag 0 i t A its.length c A' ks.length c'] w (AppB base (.slice A0 n0 c0) w (l ++ (VT.mk 0 i t its ks).txt)) := by
  obtain ⟨ti, hti, hz, htz, hby⟩ := info_parts Tryd.infob
  rw [VT.txt_mk] at hn
  have HE := Lib.hid (VT.txt_mk 0 i t its ks)
  rw [if_neg (by decide), if_neg (by decide), if_neg (by decide), if_neg (by decide), if_neg (by decide)] at hn HE
  obtain ⟨w1, hw1⟩ : ∃ w1, w1 = w.alloc (.cells #[.int .i64 0, .int .i64 i, .string t, .slice A its.length c, .slice A' ks.length c'] 26) := ⟨_, rfl⟩
  have G1 : Hid (Grw w (Value.slice A0 n0 c0).ownBlock (Value.slice A0 n0 c0).ownBlock w1) := Lib.hid (by rw [hw1]; exact Grw.new (Grw.refl _ _))
  have O1 : Hid (w1.ownsRow base 5 1 (.slice A0 n0 c0) n0 (l.map b8)) := Lib.hid (by rw [hw1]; exact ho.alloc _)
  have B1 : Hid (base ≤ w1.heap.size) := Lib.hid (Nat.le_trans hB G1.out.1.size)
  have T1 : Hid (PowTab base w1) := Lib.hid (hT.on (Frm.of_grw G1.out ho hB).below)
  have HW := Lib.hid hw1

  clear ho hB hw1 hT hi
  unfold vag
  go_enter Tryd.func16, Tryd.ntmps16
  go_wp2_with (at_builtin; rw [← HW.out]; refine wpList_append_str_at rfl _ _ 43 9 rfl base 5 ti Tryd.underlying43 Tryd.underlying9 hti hz htz hby _ _ _ rfl O1.out ⟨#[110, 117, 108, 108]⟩ rfl ?_ ?_ ?_ ?_)
  · first | omega | (show n0 + 4 ≤ maxLen; unfold maxLen; simp at hn; omega)
  · first | omega | (show n0 + 4 ≤ _; simp at hn; omega)
  · exact B1.out
  · intro v3 w3 ho hg
    have FIN : Hid (AppB base (.slice A0 n0 c0) w (l ++ (VT.mk 0 i t its ks).txt) (.returned v3) w3) := Lib.hid (AppB.mk' (n := n0 + 4) (by rw [HE.out, List.map_append]; exact ho) (G1.out.trans hg))
    clear ho hg
    go_wp2
    go_ret
    exact FIN.out

set_option maxRecDepth 100000 in
set_option maxHeartbeats 2000000 in
set_option linter.unusedVariables false in
theorem pay_6 (i : Int) (t : ByteArray) (its : List VT) (ks : List ByteArray) (A : Option Addr) (c : Nat) (A' : Option Addr) (c' : Nat) (w : World) (base n0 c0 : Nat) (A0 : Option Addr) (l : List UInt8)
    (hi : -9223372036854775808 ≤ i ∧ i ≤ 9223372036854775807)
    (ho : w.ownsRow base 5 1 (.slice A0 n0 c0) n0 (l.map b8)) (hB : base ≤ w.heap.size) (hn : n0 + 4 * (VT.mk 6 i t its ks).txt.length ≤ 100000000) (hT : PowTab base w) :
    Calls Tryd.prog 16 #[.slice A0 n0 c0, vag 6 i t A its.length c A' ks.length c'] w (AppB base (.slice A0 n0 c0) w (l ++ (VT.mk 6 i t its ks).txt)) := by
  obtain ⟨ti, hti, hz, htz, hby⟩ := info_parts Tryd.infob
  rw [VT.txt_mk] at hn
  have HE := Lib.hid (VT.txt_mk 6 i t its ks)
  rw [if_neg (by decide), if_neg (by decide), if_neg (by decide), if_neg (by decide), if_neg (by decide)] at hn HE
  obtain ⟨w1, hw1⟩ : ∃ w1, w1 = w.alloc (.cells #[.int .i64 6, .int .i64 i, .string t, .slice A its.length c, .slice A' ks.length c'] 26) := ⟨_, rfl⟩
  have G1 : Hid (Grw w (Value.slice A0 n0 c0).ownBlock (Value.slice A0 n0 c0).ownBlock w1) := Lib.hid (by rw [hw1]; exact Grw.new (Grw.refl _ _))
  have O1 : Hid (w1.ownsRow base 5 1 (.slice A0 n0 c0) n0 (l.map b8)) := Lib.hid (by rw [hw1]; exact ho.alloc _)
  have B1 : Hid (base ≤ w1.heap.size) := Lib.hid (Nat.le_trans hB G1.out.1.size)
  have T1 : Hid (PowTab base w1) := Lib.hid (hT.on (Frm.of_grw G1.out ho hB).below)
  have HW := Lib.hid hw1

  clear ho hB hw1 hT hi
  unfold vag
  go_enter Tryd.func16, Tryd.ntmps16
  go_wp2_with (at_builtin; rw [← HW.out]; refine wpList_append_str_at rfl _ _ 43 9 rfl base 5 ti Tryd.underlying43 Tryd.underlying9 hti hz htz hby _ _ _ rfl O1.out ⟨#[110, 117, 108, 108]⟩ rfl ?_ ?_ ?_ ?_)
  · first | omega | (show n0 + 4 ≤ maxLen; unfold maxLen; simp at hn; omega)
  · first | omega | (show n0 + 4 ≤ _; simp at hn; omega)
  · exact B1.out
  · intro v3 w3 ho hg
    have FIN : Hid (AppB base (.slice A0 n0 c0) w (l ++ (VT.mk 6 i t its ks).txt) (.returned v3) w3) := Lib.hid (AppB.mk' (n := n0 + 4) (by rw [HE.out, List.map_append]; exact ho) (G1.out.trans hg))
    clear ho hg
    go_wp2
    go_ret
    exact FIN.out

set_option maxRecDepth 100000 in
set_option maxHeartbeats 2000000 in
set_option linter.unusedVariables false in
theorem pay_2 (i : Int) (t : ByteArray) (its : List VT) (ks : List ByteArray) (A : Option Addr) (c : Nat) (A' : Option Addr) (c' : Nat) (w : World) (base n0 c0 : Nat) (A0 : Option Addr) (l : List UInt8)
    (hi : -9223372036854775808 ≤ i ∧ i ≤ 9223372036854775807)
    (ho : w.ownsRow base 5 1 (.slice A0 n0 c0) n0 (l.map b8)) (hB : base ≤ w.heap.size) (hn : n0 + 4 * (VT.mk 2 i t its ks).txt.length ≤ 100000000) (hT : PowTab base w) :
    Calls Tryd.prog 16 #[.slice A0 n0 c0, vag 2 i t A its.length c A' ks.length c'] w (AppB base (.slice A0 n0 c0) w (l ++ (VT.mk 2 i t its ks).txt)) := by
  obtain ⟨ti, hti, hz, htz, hby⟩ := info_parts Tryd.infob
  rw [VT.txt_mk] at hn
  have HE := Lib.hid (VT.txt_mk 2 i t its ks)
  rw [if_neg (by decide), if_pos rfl] at hn HE
  obtain ⟨w1, hw1⟩ : ∃ w1, w1 = w.alloc (.cells #[.int .i64 2, .int .i64 i, .string t, .slice A its.length c, .slice A' ks.length c'] 26) := ⟨_, rfl⟩
  have G1 : Hid (Grw w (Value.slice A0 n0 c0).ownBlock (Value.slice A0 n0 c0).ownBlock w1) := Lib.hid (by rw [hw1]; exact Grw.new (Grw.refl _ _))
  have O1 : Hid (w1.ownsRow base 5 1 (.slice A0 n0 c0) n0 (l.map b8)) := Lib.hid (by rw [hw1]; exact ho.alloc _)
  have B1 : Hid (base ≤ w1.heap.size) := Lib.hid (Nat.le_trans hB G1.out.1.size)
  have T1 : Hid (PowTab base w1) := Lib.hid (hT.on (Frm.of_grw G1.out ho hB).below)
  have HW := Lib.hid hw1
  have hne := itoa_ne i
  have HC := Lib.hid (int_app i base A0 n0 c0 l w1 O1.out B1.out (by omega) hi.1 hi.2 T1.out)
  clear ho hB hw1 hT hi
  unfold vag
  go_enter Tryd.func16, Tryd.ntmps16
  go_wp2_with fail
  rw [← HW.out]
  refine (HC.out).mono ?_
  rintro _ w5 ⟨A5, n5, c5, rfl, hl5, h5, h6, O5, G5⟩
  go_wp2
  go_ret
  exact ⟨A5, n5, c5, rfl, Lib.hid (by rw [HE.out]; exact hl5.out), h5, h6, Lib.hid (by rw [HE.out]; exact O5.out), Lib.hid (G1.out.trans G5.out)⟩

set_option maxRecDepth 100000 in
set_option maxHeartbeats 2000000 in
set_option linter.unusedVariables false in
theorem pay_3 (i : Int) (t : ByteArray) (its : List VT) (ks : List ByteArray) (A : Option Addr) (c : Nat) (A' : Option Addr) (c' : Nat) (w : World) (base n0 c0 : Nat) (A0 : Option Addr) (l : List UInt8)
    (hi : -9223372036854775808 ≤ i ∧ i ≤ 9223372036854775807)
    (ho : w.ownsRow base 5 1 (.slice A0 n0 c0) n0 (l.map b8)) (hB : base ≤ w.heap.size) (hn : n0 + 4 * (VT.mk 3 i t its ks).txt.length ≤ 100000000) (hT : PowTab base w) :
    Calls Tryd.prog 16 #[.slice A0 n0 c0, vag 3 i t A its.length c A' ks.length c'] w (AppB base (.slice A0 n0 c0) w (l ++ (VT.mk 3 i t its ks).txt)) := by
  obtain ⟨ti, hti, hz, htz, hby⟩ := info_parts Tryd.infob
  rw [VT.txt_mk] at hn
  have HE := Lib.hid (VT.txt_mk 3 i t its ks)
  rw [if_neg (by decide), if_neg (by decide), if_pos rfl] at hn HE
  obtain ⟨w1, hw1⟩ : ∃ w1, w1 = w.alloc (.cells #[.int .i64 3, .int .i64 i, .string t, .slice A its.length c, .slice A' ks.length c'] 26) := ⟨_, rfl⟩
  have G1 : Hid (Grw w (Value.slice A0 n0 c0).ownBlock (Value.slice A0 n0 c0).ownBlock w1) := Lib.hid (by rw [hw1]; exact Grw.new (Grw.refl _ _))
  have O1 : Hid (w1.ownsRow base 5 1 (.slice A0 n0 c0) n0 (l.map b8)) := Lib.hid (by rw [hw1]; exact ho.alloc _)
  have B1 : Hid (base ≤ w1.heap.size) := Lib.hid (Nat.le_trans hB G1.out.1.size)
  have T1 : Hid (PowTab base w1) := Lib.hid (hT.on (Frm.of_grw G1.out ho hB).below)
  have HW := Lib.hid hw1
  have hq := quoL_len t.data.toList
  have hqs : t.data.toList.length = t.size := rfl
  have HC := Lib.hid (literal_app base A0 n0 c0 l t w1 O1.out B1.out (by omega))
  clear hq hqs
  clear ho hB hw1 hT hi
  unfold vag
  go_enter Tryd.func16, Tryd.ntmps16
  go_wp2_with fail
  rw [← HW.out]
  refine (HC.out).mono ?_
  rintro _ w5 ⟨A5, n5, c5, rfl, hl5, h5, h6, O5, G5⟩
  go_wp2
  go_ret
  exact ⟨A5, n5, c5, rfl, Lib.hid (by rw [HE.out]; exact hl5.out), h5, h6, Lib.hid (by rw [HE.out]; exact O5.out), Lib.hid (G1.out.trans G5.out)⟩

set_option maxRecDepth 100000 in
set_option maxHeartbeats 2000000 in
set_option linter.unusedVariables false in
theorem pay_1 (i : Int) (t : ByteArray) (its : List VT) (ks : List ByteArray) (A : Option Addr) (c : Nat) (A' : Option Addr) (c' : Nat) (w : World) (base n0 c0 : Nat) (A0 : Option Addr) (l : List UInt8)
    (hi : -9223372036854775808 ≤ i ∧ i ≤ 9223372036854775807)
    (ho : w.ownsRow base 5 1 (.slice A0 n0 c0) n0 (l.map b8)) (hB : base ≤ w.heap.size) (hn : n0 + 4 * (VT.mk 1 i t its ks).txt.length ≤ 100000000) (hT : PowTab base w) :
    Calls Tryd.prog 16 #[.slice A0 n0 c0, vag 1 i t A its.length c A' ks.length c'] w (AppB base (.slice A0 n0 c0) w (l ++ (VT.mk 1 i t its ks).txt)) := by
  obtain ⟨ti, hti, hz, htz, hby⟩ := info_parts Tryd.infob
  rw [VT.txt_mk] at hn
  have HE := Lib.hid (VT.txt_mk 1 i t its ks)
  rw [if_pos rfl] at hn HE
  obtain ⟨w1, hw1⟩ : ∃ w1, w1 = w.alloc (.cells #[.int .i64 1, .int .i64 i, .string t, .slice A its.length c, .slice A' ks.length c'] 26) := ⟨_, rfl⟩
  have G1 : Hid (Grw w (Value.slice A0 n0 c0).ownBlock (Value.slice A0 n0 c0).ownBlock w1) := Lib.hid (by rw [hw1]; exact Grw.new (Grw.refl _ _))
  have O1 : Hid (w1.ownsRow base 5 1 (.slice A0 n0 c0) n0 (l.map b8)) := Lib.hid (by rw [hw1]; exact ho.alloc _)
  have B1 : Hid (base ≤ w1.heap.size) := Lib.hid (Nat.le_trans hB G1.out.1.size)
  have T1 : Hid (PowTab base w1) := Lib.hid (hT.on (Frm.of_grw G1.out ho hB).below)
  have HW := Lib.hid hw1

  clear ho hB hw1 hT hi
  by_cases hb : i = 1
  · subst hb
    have HC := Lib.hid (bool_app true base A0 n0 c0 l w1 O1.out B1.out (by omega))
    have HE : Hid ((VT.mk 1 1 t its ks).txt = boolL true) := Lib.hid HE.out
    unfold vag
    go_enter Tryd.func16, Tryd.ntmps16
    go_wp2_with fail
    rw [← HW.out]
    refine (HC.out).mono ?_
    rintro _ w5 ⟨A5, n5, c5, rfl, hl5, h5, h6, O5, G5⟩
    go_wp2
    go_ret
    exact ⟨A5, n5, c5, rfl, Lib.hid (by rw [HE.out]; exact hl5.out), h5, h6, Lib.hid (by rw [HE.out]; exact O5.out), Lib.hid (G1.out.trans G5.out)⟩
  · have hne : (i == 1) = false := by rw [beq_eq_false_iff_ne]; exact hb
    have HC := Lib.hid (bool_app false base A0 n0 c0 l w1 O1.out B1.out (by omega))
    have HE : Hid ((VT.mk 1 i t its ks).txt = boolL false) := Lib.hid (by rw [HE.out, show decide (i = 1) = false by rw [decide_eq_false_iff_not]; exact hb])
    clear hb
    unfold vag
    go_enter Tryd.func16, Tryd.ntmps16
    go_wp2_with fail
    rw [← HW.out]
    refine (HC.out).mono ?_
    rintro _ w5 ⟨A5, n5, c5, rfl, hl5, h5, h6, O5, G5⟩
    go_wp2
    go_ret
    exact ⟨A5, n5, c5, rfl, Lib.hid (by rw [HE.out]; exact hl5.out), h5, h6, Lib.hid (by rw [HE.out]; exact O5.out), Lib.hid (G1.out.trans G5.out)⟩
end Go.Proofs.YtjblchdfkcbodaaDoor
namespace Go.Proofs.YtjblchdfkcbodaaDoor
open Go.RowKit

theorem step_append_b8_at {P : Program} {w : World} {ops : Array Oper} {o : Oper} {a : Act} {K : Act → World → Prop} {Q : Exit → Act → World → Prop} {E : Prop} (hgd : o.guard = none) (s x : Operand) (t : TypeId)
    (ho : o.op = .call { callee := .builtin .append, args := #[s, x], argTypes := #[t, t] })
    (base e : Nat) (i : TypeInfo) (z : Value) (ht : P.underlying t = some (.slice e)) (hi : P.info? e = some i) (hz : i.zero = some z)
    (hsize : i.size = 1) (hby : i.bytes = 1) (hzs : z.cells.size = 1)
    (v : Value) (n : Nat) (xs : List Value) (hs : a.eval s = v) (hown : w.ownsRow base e 1 v n xs)
    (B : Nat) (A : Addr) (m c : Nat) (l : List UInt8) (hx : a.eval x = .slice (some A) m c) (hr : Rb w B (some A) m l) (hl : l ≠ [])
    (hbytes : n + m ≤ 140737488355328) (hbase : base ≤ w.heap.size)
    (h : ∀ v' w', w'.ownsRow base e 1 v' (n + m) (xs ++ l.map b8) → Grw w v.ownBlock v'.ownBlock w' → K (a.put o.dst v') w') :
    if Region.wanted o (yielded ops a.tmps) = true then Oper.wp P o a w K Q else E := by
  obtain ⟨v', w', hrun, h2, h3⟩ := run_append_b8_at (P := P) w base t o.type e i z ht hi hz hsize hby hzs v n xs hown B A m c l hr hl hbytes hbase
  have hw : Region.wanted o (yielded ops a.tmps) = true := by simp [Region.wanted, hgd]
  rw [if_pos hw]
  unfold Oper.wp execOp
  simp only [ho, resolve, invoke, builtin, Sem.run_bind, Sem.run_pure, Result.andThen_ok, List.map_toArray, List.map_cons, List.map_nil, hs, hx, hrun]
  exact h v' w' h2 h3
theorem lit_a (w : World) (o p : Obj) : ((w.alloc o).alloc p).heap[w.heap.size]? = some o := by
  rw [Below.heap_alloc (w.alloc o) p w.heap.size (by rw [World.size_alloc]; omega)]
  exact heap_alloc_new w o
theorem lit_b (w : World) (o p : Obj) : ((w.alloc o).alloc p).heap[w.heap.size + 1]? = some p := by
  have := heap_alloc_new (w.alloc o) p
  rwa [World.size_alloc] at this
/-- a block of one byte, read as a row -/
theorem Rb.block {w : World} {b : Nat} {x : UInt8} (h : w.heap[b]? = some (.cells #[.int .u8 (x.toNat : Int)] 5 (0, 0))) : Rb w (b + 1) (some ⟨b, 0, none⟩) 1 [x] :=
  ⟨rfl, fun _ => ⟨b, 0, rfl, by omega, fun j c hj => by
    cases j with
    | zero =>
      simp at hj
      subst hj
      rw [cell_of_row w b (0 + 0) _ 5 (0, 0) h]
      rfl
    | succ j => simp at hj⟩⟩

set_option maxRecDepth 100000 in
set_option maxHeartbeats 4000000 in
set_option linter.unusedVariables false in
theorem pay_4 (m : Nat) (IH : Hid (TxtUpto m)) (i : Int) (t : ByteArray) (its : List VT) (ks : List ByteArray) (A : Option Addr) (c : Nat) (A' : Option Addr) (c' : Nat) (w : World) (base n0 c0 : Nat) (A0 : Option Addr) (l : List UInt8)
    (hL : LiesL w (fun b => b < base) A 0 its) (hS : LiesS w (fun b => b < base) A' ks) (hk : 4 = 5 → ks.length = its.length) (hkc : ks.length ≤ c') (hcm' : c' ≤ 9223372036854775807) (h1 : its.length ≤ c) (h2 : c ≤ 9223372036854775807) (hsz : sizes its ≤ m) (hw : alls okF its = true)
    (ho : w.ownsRow base 5 1 (.slice A0 n0 c0) n0 (l.map b8)) (hB : base ≤ w.heap.size) (hn : n0 + 4 * (VT.mk 4 i t its ks).txt.length ≤ 100000000) (hT : PowTab base w) :
    Calls Tryd.prog 16 #[.slice A0 n0 c0, vag 4 i t A its.length c A' ks.length c'] w (AppB base (.slice A0 n0 c0) w (l ++ (VT.mk 4 i t its ks).txt)) := by
  obtain ⟨ti, hti, hz, htz, hby⟩ := info_parts Tryd.infob
  have he : (VT.mk 4 i t its ks).txt = 91 :: (txts false true its ks ++ [93]) := by
    rw [VT.txt_mk, if_neg (by decide), if_neg (by decide), if_neg (by decide), if_pos rfl]
  rw [he] at hn ⊢
  have hnn : n0 + 8 + 4 * (txts false true its ks).length ≤ 100000000 := by simp at hn; omega
  clear he hn
  obtain ⟨w1, hw1⟩ : ∃ w1, w1 = w.alloc (.cells #[.int .i64 4, .int .i64 i, .string t, .slice A its.length c, .slice A' ks.length c'] 26) := ⟨_, rfl⟩
  have G1 : Hid (Grw w (Value.slice A0 n0 c0).ownBlock (Value.slice A0 n0 c0).ownBlock w1) := Lib.hid (by rw [hw1]; exact Grw.new (Grw.refl _ _))
  have O1 : Hid (w1.ownsRow base 5 1 (.slice A0 n0 c0) n0 (l.map b8)) := Lib.hid (by rw [hw1]; exact ho.alloc _)
  have P1 : Hid (Bk w1 w.heap.size 26 #[.int .i64 4, .int .i64 i, .string t, .slice A its.length c, .slice A' ks.length c']) := Lib.hid (by rw [hw1]; exact Bk.new _ _ _)
  have B1 : Hid (base ≤ w1.heap.size) := Lib.hid (Nat.le_trans hB G1.out.1.size)
  have F1 : Hid (Frm base w w1) := Lib.hid (Frm.of_grw G1.out ho hB)
  have NB : Hid (∀ b, (Value.slice A0 n0 c0).ownBlock = some b → b < w1.heap.size) := Lib.hid (fun b hb => (O1.out.lt b hb).2)
  have HCALL : Hid (∀ (W : World) (A2 : Option Addr) (n2 c2 : Nat) (L : List UInt8), Frm base w W → W.ownsRow base 5 1 (.slice A2 n2 c2) n2 (L.map b8) → base ≤ W.heap.size → n2 ≤ n0 + 1 → Calls Tryd.prog 33 #[.slice A2 n2 c2, vag 4 i t A its.length c A' ks.length c'] W (AppB base (.slice A2 n2 c2) W (L ++ txts false true its ks))) :=
    Lib.hid (fun W A2 n2 c2 L hf ho2 hb2 hn2 => elems_4 m IH i t its ks A c A' c' W base n2 c2 A2 L (hL.keep (fun p hp => hf.below.cell hp) (fun _ h => h)) h1 h2 hsz hw ho2 hb2 (by omega) (hT.on hf.below))
  have HW := Lib.hid hw1
  have SZ : Hid (w.heap.size < w1.heap.size) := Lib.hid P1.out.lt
  clear hL hS hk hw ho hB hT IH hw1
  have p0 := P1.out.cell 0
  have p1 := P1.out.cell 1
  have p2 := P1.out.cell 2
  have p3 := P1.out.cell 3
  have p4 := P1.out.cell 4
  rw [HW.out] at p0 p1 p2 p3 p4
  unfold vag at *
  go_enter Tryd.func16, Tryd.ntmps16
  go_upto_region 9 with (fail)
  rw [← HW.out]
  rw [← HW.out] at p0 p1 p2 p3 p4
  clear HW
  have sz1 : w.heap.size < w1.heap.size := SZ.out
  go_region_law (first | (refine step_append_b8_at rfl _ _ _ (by rfl) base 5 ti (.int .u8 0) Tryd.underlying43 hti hz htz hby rfl (.slice A0 n0 c0) n0 (l.map b8) (by rfl) (by first | exact (O1.out.alloc _).drew | exact O1.out.drew.alloc _ | exact O1.out.alloc _) (w1.heap.size + 1) ⟨w1.heap.size, 0, none⟩ 1 1 [91] (by rfl) (Rb.block (x := 91) (by first | exact heap_alloc_new w1 _ | exact heap_alloc_new w1.drew _)) (by simp) (by omega) (by have := B1.out; simp; omega) ?_; intro v3 w3 ho3 hg3; have G3' : Grw w1 (Value.slice A0 n0 c0).ownBlock v3.ownBlock w3 := (by first | exact Grw.new (Grw.drew hg3) | exact Grw.drew (Grw.new hg3) | exact Grw.new hg3); obtain ⟨A3, c3, rfl, h31, h32⟩ := own_form ho3; have O3 : Hid (w3.ownsRow base 5 1 (.slice A3 (n0 + 1) c3) (n0 + 1) ((l ++ [91]).map b8)) := Lib.hid (by rw [List.map_append]; exact ho3); have G3 := Lib.hid G3'; have F3 := Lib.hid (Frm.of_grw G3' O1.out B1.out); have FF3 := Lib.hid (F1.out.trans F3.out); have P3 := Lib.hid (F3.out.keep _ _ _ P1.out (by decide)); have false3 : Hid (base ≤ w3.heap.size) := Lib.hid (Nat.le_trans B1.out G3'.1.size); have q0 := P3.out.cell 0; have q1 := P3.out.cell 1; have q2 := P3.out.cell 2; have q3 := P3.out.cell 3; have q4 := P3.out.cell 4; have sz3 : w.heap.size < w3.heap.size := P3.out.lt; clear G3' ho3 hg3) | (refine step_append_b8_at rfl _ _ _ (by rfl) base 5 ti (.int .u8 0) Tryd.underlying43 hti hz htz hby rfl (.slice A0 n0 c0) n0 (l.map b8) (by rfl) (by first | exact ((O1.out.alloc _).alloc _).drew | exact (O1.out.drew.alloc _).alloc _ | exact (O1.out.alloc _).alloc _) (w1.heap.size + 1) ⟨w1.heap.size, 0, none⟩ 1 1 [91] (by rfl) (Rb.block (x := 91) (by first | exact lit_a w1 _ _ | exact lit_a w1.drew _ _)) (by simp) (by omega) (by have := B1.out; simp; omega) ?_; intro v3 w3 ho3 hg3; have G3' : Grw w1 (Value.slice A0 n0 c0).ownBlock v3.ownBlock w3 := (by first | exact Grw.new (Grw.new (Grw.drew hg3)) | exact Grw.drew (Grw.new (Grw.new hg3)) | exact Grw.new (Grw.new hg3)); have BK3 : Hid (w3.heap[w1.heap.size + 1]? = some (.cells #[.int .u8 93] 5 (0, 0)) ∧ v3.ownBlock ≠ some (w1.heap.size + 1)) := Lib.hid ⟨(hg3.1.block (w1.heap.size + 1) (by simp; try omega) (by intro e; have := NB.out _ e.symm; omega)).trans (by first | exact lit_b w1 _ _ | exact lit_b w1.drew _ _), by intro e; rcases hg3.2 _ e with h | h; have := NB.out _ h; omega; simp at h; omega⟩; obtain ⟨A3, c3, rfl, h31, h32⟩ := own_form ho3; have O3 : Hid (w3.ownsRow base 5 1 (.slice A3 (n0 + 1) c3) (n0 + 1) ((l ++ [91]).map b8)) := Lib.hid (by rw [List.map_append]; exact ho3); have G3 := Lib.hid G3'; have F3 := Lib.hid (Frm.of_grw G3' O1.out B1.out); have FF3 := Lib.hid (F1.out.trans F3.out); have P3 := Lib.hid (F3.out.keep _ _ _ P1.out (by decide)); have false3 : Hid (base ≤ w3.heap.size) := Lib.hid (Nat.le_trans B1.out G3'.1.size); have q0 := P3.out.cell 0; have q1 := P3.out.cell 1; have q2 := P3.out.cell 2; have q3 := P3.out.cell 3; have q4 := P3.out.cell 4; have sz3 : w.heap.size < w3.heap.size := P3.out.lt; clear G3' ho3 hg3) | (refine step_append_b8_at rfl _ _ _ (by rfl) base 5 ti (.int .u8 0) Tryd.underlying43 hti hz htz hby rfl (.slice A0 n0 c0) n0 (l.map b8) (by rfl) (by first | exact ((O1.out.alloc _).alloc _).drew | exact (O1.out.drew.alloc _).alloc _ | exact (O1.out.alloc _).alloc _) (w1.heap.size + 1 + 1) ⟨w1.heap.size + 1, 0, none⟩ 1 1 [91] (by rfl) (Rb.block (x := 91) (by first | exact lit_b w1 _ _ | exact lit_b w1.drew _ _)) (by simp) (by omega) (by have := B1.out; simp; omega) ?_; intro v3 w3 ho3 hg3; have G3' : Grw w1 (Value.slice A0 n0 c0).ownBlock v3.ownBlock w3 := (by first | exact Grw.new (Grw.new (Grw.drew hg3)) | exact Grw.drew (Grw.new (Grw.new hg3)) | exact Grw.new (Grw.new hg3)); have BK3 : Hid (w3.heap[w1.heap.size]? = some (.cells #[.int .u8 93] 5 (0, 0)) ∧ v3.ownBlock ≠ some (w1.heap.size)) := Lib.hid ⟨(hg3.1.block (w1.heap.size) (by simp; try omega) (by intro e; have := NB.out _ e.symm; omega)).trans (by first | exact lit_a w1 _ _ | exact lit_a w1.drew _ _), by intro e; rcases hg3.2 _ e with h | h; have := NB.out _ h; omega; simp at h; omega⟩; obtain ⟨A3, c3, rfl, h31, h32⟩ := own_form ho3; have O3 : Hid (w3.ownsRow base 5 1 (.slice A3 (n0 + 1) c3) (n0 + 1) ((l ++ [91]).map b8)) := Lib.hid (by rw [List.map_append]; exact ho3); have G3 := Lib.hid G3'; have F3 := Lib.hid (Frm.of_grw G3' O1.out B1.out); have FF3 := Lib.hid (F1.out.trans F3.out); have P3 := Lib.hid (F3.out.keep _ _ _ P1.out (by decide)); have false3 : Hid (base ≤ w3.heap.size) := Lib.hid (Nat.le_trans B1.out G3'.1.size); have q0 := P3.out.cell 0; have q1 := P3.out.cell 1; have q2 := P3.out.cell 2; have q3 := P3.out.cell 3; have q4 := P3.out.cell 4; have sz3 : w.heap.size < w3.heap.size := P3.out.lt; clear G3' ho3 hg3) | (go_simp; go_at_call 33; refine (HCALL.out _ A3 (n0 + 1) c3 (l ++ [91]) (by first | exact FF3.out | exact FF3.out.trans (Frm.of_below (below_one _ _) false3.out)) (by first | exact O3.out | exact O3.out.alloc _) (by first | exact false3.out | (rw [World.size_alloc]; exact Nat.le_succ_of_le false3.out)) (Nat.le_refl _)).mono ?_; rintro _ w4 ⟨A4, n4, c4, rfl, hl4, h41, h42, O4, G4⟩; have G34 : Hid (Grw w1 (Value.slice A0 n0 c0).ownBlock (Value.slice A4 n4 c4).ownBlock w4) := Lib.hid (by first | exact G3.out.trans G4.out | exact G3.out.trans (Grw.new G4.out)); have false4 : Hid (base ≤ w4.heap.size) := Lib.hid (Nat.le_trans B1.out G34.out.1.size); have hn4 : n4 ≤ 100000000 := (by have e1 := hl4.out; have e2 := own_len O1.out; simp at e1 e2; omega); first | (have BK4 : Hid (w4.heap[w1.heap.size + 1]? = some (.cells #[.int .u8 93] 5 (0, 0))) := Lib.hid ((G4.out.1.block (w1.heap.size + 1) (Nat.lt_of_not_le (fun hh => by have e := BK3.out.1; rw [Array.getElem?_eq_none hh] at e; cases e)) (Ne.symm BK3.out.2)).trans BK3.out.1)) | (have BK4 : Hid (w4.heap[w1.heap.size]? = some (.cells #[.int .u8 93] 5 (0, 0))) := Lib.hid ((G4.out.1.block w1.heap.size (Nat.lt_of_not_le (fun hh => by have e := BK3.out.1; rw [Array.getElem?_eq_none hh] at e; cases e)) (Ne.symm BK3.out.2)).trans BK3.out.1)) | (have BK4 : Hid (w4.heap[w3.heap.size]? = some (.cells #[.int .u8 93] 5 (0, 0))) := Lib.hid ((G4.out.1.block w3.heap.size (by simp) (by intro e; have := (O3.out.lt _ e.symm).2; omega)).trans (by first | exact heap_alloc_new w3 _ | exact heap_alloc_new w3.drew _))) | skip) | (refine step_append_b8_at rfl _ _ _ (by rfl) base 5 ti (.int .u8 0) Tryd.underlying43 hti hz htz hby rfl (.slice A4 n4 c4) n4 ((l ++ [91] ++ txts false true its ks).map b8) (by rfl) (by first | exact O4.out.alloc _) (w4.heap.size + 1) ⟨w4.heap.size, 0, none⟩ 1 1 [93] (by rfl) (Rb.block (x := 93) (by first | exact heap_alloc_new w4 _)) (by simp) (by omega) (by have := false4.out; first | exact this | (simp; omega)) ?_; intro v5 w5 ho5 hg5; have FIN : Hid (AppB base (.slice A0 n0 c0) w (l ++ 91 :: (txts false true its ks ++ [93])) (.returned v5) w5) := Lib.hid (AppB.mk' (n := n4 + 1) (by rw [show l ++ 91 :: (txts false true its ks ++ [93]) = (l ++ [91] ++ txts false true its ks) ++ [93] by simp, List.map_append]; exact ho5) (G1.out.trans (G34.out.trans (by first | exact hg5 | exact hg5.new)))); clear ho5 hg5) | (refine step_append_b8_at rfl _ _ _ (by rfl) base 5 ti (.int .u8 0) Tryd.underlying43 hti hz htz hby rfl (.slice A4 n4 c4) n4 ((l ++ [91] ++ txts false true its ks).map b8) (by rfl) (by first | exact O4.out) (w1.heap.size + 1 + 1) ⟨w1.heap.size + 1, 0, none⟩ 1 1 [93] (by rfl) (Rb.block (x := 93) (by first | exact BK4.out)) (by simp) (by omega) (by have := false4.out; first | exact this | (simp; omega)) ?_; intro v5 w5 ho5 hg5; have FIN : Hid (AppB base (.slice A0 n0 c0) w (l ++ 91 :: (txts false true its ks ++ [93])) (.returned v5) w5) := Lib.hid (AppB.mk' (n := n4 + 1) (by rw [show l ++ 91 :: (txts false true its ks ++ [93]) = (l ++ [91] ++ txts false true its ks) ++ [93] by simp, List.map_append]; exact ho5) (G1.out.trans (G34.out.trans (by first | exact hg5 | exact hg5.new)))); clear ho5 hg5) | (refine step_append_b8_at rfl _ _ _ (by rfl) base 5 ti (.int .u8 0) Tryd.underlying43 hti hz htz hby rfl (.slice A4 n4 c4) n4 ((l ++ [91] ++ txts false true its ks).map b8) (by rfl) (by first | exact O4.out) (w1.heap.size + 1) ⟨w1.heap.size, 0, none⟩ 1 1 [93] (by rfl) (Rb.block (x := 93) (by first | exact BK4.out)) (by simp) (by omega) (by have := false4.out; first | exact this | (simp; omega)) ?_; intro v5 w5 ho5 hg5; have FIN : Hid (AppB base (.slice A0 n0 c0) w (l ++ 91 :: (txts false true its ks ++ [93])) (.returned v5) w5) := Lib.hid (AppB.mk' (n := n4 + 1) (by rw [show l ++ 91 :: (txts false true its ks ++ [93]) = (l ++ [91] ++ txts false true its ks) ++ [93] by simp, List.map_append]; exact ho5) (G1.out.trans (G34.out.trans (by first | exact hg5 | exact hg5.new)))); clear ho5 hg5) | (refine step_append_b8_at rfl _ _ _ (by rfl) base 5 ti (.int .u8 0) Tryd.underlying43 hti hz htz hby rfl (.slice A4 n4 c4) n4 ((l ++ [91] ++ txts false true its ks).map b8) (by rfl) (by first | exact O4.out) (w3.heap.size + 1) ⟨w3.heap.size, 0, none⟩ 1 1 [93] (by rfl) (Rb.block (x := 93) (by first | exact BK4.out)) (by simp) (by omega) (by have := false4.out; first | exact this | (simp; omega)) ?_; intro v5 w5 ho5 hg5; have FIN : Hid (AppB base (.slice A0 n0 c0) w (l ++ 91 :: (txts false true its ks ++ [93])) (.returned v5) w5) := Lib.hid (AppB.mk' (n := n4 + 1) (by rw [show l ++ 91 :: (txts false true its ks ++ [93]) = (l ++ [91] ++ txts false true its ks) ++ [93] by simp, List.map_append]; exact ho5) (G1.out.trans (G34.out.trans (by first | exact hg5 | exact hg5.new)))); clear ho5 hg5))
  all_goals (
    try go_wp2
    go_ret
    exact FIN.out)
end Go.Proofs.YtjblchdfkcbodaaDoor
namespace Go.Proofs.YtjblchdfkcbodaaDoor
open Go.RowKit

set_option maxRecDepth 100000 in
set_option maxHeartbeats 4000000 in
set_option linter.unusedVariables false in
theorem pay_5 (m : Nat) (IH : Hid (TxtUpto m)) (i : Int) (t : ByteArray) (its : List VT) (ks : List ByteArray) (A : Option Addr) (c : Nat) (A' : Option Addr) (c' : Nat) (w : World) (base n0 c0 : Nat) (A0 : Option Addr) (l : List UInt8)
    (hL : LiesL w (fun b => b < base) A 0 its) (hS : LiesS w (fun b => b < base) A' ks) (hk : 5 = 5 → ks.length = its.length) (hkc : ks.length ≤ c') (hcm' : c' ≤ 9223372036854775807) (h1 : its.length ≤ c) (h2 : c ≤ 9223372036854775807) (hsz : sizes its ≤ m) (hw : alls okF its = true)
    (ho : w.ownsRow base 5 1 (.slice A0 n0 c0) n0 (l.map b8)) (hB : base ≤ w.heap.size) (hn : n0 + 4 * (VT.mk 5 i t its ks).txt.length ≤ 100000000) (hT : PowTab base w) :
    Calls Tryd.prog 16 #[.slice A0 n0 c0, vag 5 i t A its.length c A' ks.length c'] w (AppB base (.slice A0 n0 c0) w (l ++ (VT.mk 5 i t its ks).txt)) := by
  obtain ⟨ti, hti, hz, htz, hby⟩ := info_parts Tryd.infob
  have he : (VT.mk 5 i t its ks).txt = 123 :: (txts true true its ks ++ [125]) := by
    rw [VT.txt_mk, if_neg (by decide), if_neg (by decide), if_neg (by decide), if_neg (by decide), if_pos rfl]
  rw [he] at hn ⊢
  have hnn : n0 + 8 + 4 * (txts true true its ks).length ≤ 100000000 := by simp at hn; omega
  clear he hn
  obtain ⟨w1, hw1⟩ : ∃ w1, w1 = w.alloc (.cells #[.int .i64 5, .int .i64 i, .string t, .slice A its.length c, .slice A' ks.length c'] 26) := ⟨_, rfl⟩
  have G1 : Hid (Grw w (Value.slice A0 n0 c0).ownBlock (Value.slice A0 n0 c0).ownBlock w1) := Lib.hid (by rw [hw1]; exact Grw.new (Grw.refl _ _))
  have O1 : Hid (w1.ownsRow base 5 1 (.slice A0 n0 c0) n0 (l.map b8)) := Lib.hid (by rw [hw1]; exact ho.alloc _)
  have P1 : Hid (Bk w1 w.heap.size 26 #[.int .i64 5, .int .i64 i, .string t, .slice A its.length c, .slice A' ks.length c']) := Lib.hid (by rw [hw1]; exact Bk.new _ _ _)
  have B1 : Hid (base ≤ w1.heap.size) := Lib.hid (Nat.le_trans hB G1.out.1.size)
  have F1 : Hid (Frm base w w1) := Lib.hid (Frm.of_grw G1.out ho hB)
  have NB : Hid (∀ b, (Value.slice A0 n0 c0).ownBlock = some b → b < w1.heap.size) := Lib.hid (fun b hb => (O1.out.lt b hb).2)
  have HCALL : Hid (∀ (W : World) (A2 : Option Addr) (n2 c2 : Nat) (L : List UInt8), Frm base w W → W.ownsRow base 5 1 (.slice A2 n2 c2) n2 (L.map b8) → base ≤ W.heap.size → n2 ≤ n0 + 1 → Calls Tryd.prog 33 #[.slice A2 n2 c2, vag 5 i t A its.length c A' ks.length c'] W (AppB base (.slice A2 n2 c2) W (L ++ txts true true its ks))) :=
    Lib.hid (fun W A2 n2 c2 L hf ho2 hb2 hn2 => elems_5 m IH i t its ks A c A' c' W base n2 c2 A2 L (hL.keep (fun p hp => hf.below.cell hp) (fun _ h => h)) (hS.keep (fun p hp => hf.below.cell hp) (fun _ h => h)) (hk rfl) hkc hcm' h1 h2 hsz hw ho2 hb2 (by omega) (hT.on hf.below))
  have HW := Lib.hid hw1
  have SZ : Hid (w.heap.size < w1.heap.size) := Lib.hid P1.out.lt
  clear hL hS hk hw ho hB hT IH hw1
  have p0 := P1.out.cell 0
  have p1 := P1.out.cell 1
  have p2 := P1.out.cell 2
  have p3 := P1.out.cell 3
  have p4 := P1.out.cell 4
  rw [HW.out] at p0 p1 p2 p3 p4
  unfold vag at *
  go_enter Tryd.func16, Tryd.ntmps16
  go_upto_region 11 with (fail)
  rw [← HW.out]
  rw [← HW.out] at p0 p1 p2 p3 p4
  clear HW
  have sz1 : w.heap.size < w1.heap.size := SZ.out
  go_region_law (first | (refine step_append_b8_at rfl _ _ _ (by rfl) base 5 ti (.int .u8 0) Tryd.underlying43 hti hz htz hby rfl (.slice A0 n0 c0) n0 (l.map b8) (by rfl) (by first | exact (O1.out.alloc _).drew | exact O1.out.drew.alloc _ | exact O1.out.alloc _) (w1.heap.size + 1) ⟨w1.heap.size, 0, none⟩ 1 1 [123] (by rfl) (Rb.block (x := 123) (by first | exact heap_alloc_new w1 _ | exact heap_alloc_new w1.drew _)) (by simp) (by omega) (by have := B1.out; simp; omega) ?_; intro v3 w3 ho3 hg3; have G3' : Grw w1 (Value.slice A0 n0 c0).ownBlock v3.ownBlock w3 := (by first | exact Grw.new (Grw.drew hg3) | exact Grw.drew (Grw.new hg3) | exact Grw.new hg3); obtain ⟨A3, c3, rfl, h31, h32⟩ := own_form ho3; have O3 : Hid (w3.ownsRow base 5 1 (.slice A3 (n0 + 1) c3) (n0 + 1) ((l ++ [123]).map b8)) := Lib.hid (by rw [List.map_append]; exact ho3); have G3 := Lib.hid G3'; have F3 := Lib.hid (Frm.of_grw G3' O1.out B1.out); have FF3 := Lib.hid (F1.out.trans F3.out); have P3 := Lib.hid (F3.out.keep _ _ _ P1.out (by decide)); have true3 : Hid (base ≤ w3.heap.size) := Lib.hid (Nat.le_trans B1.out G3'.1.size); have q0 := P3.out.cell 0; have q1 := P3.out.cell 1; have q2 := P3.out.cell 2; have q3 := P3.out.cell 3; have q4 := P3.out.cell 4; have sz3 : w.heap.size < w3.heap.size := P3.out.lt; clear G3' ho3 hg3) | (refine step_append_b8_at rfl _ _ _ (by rfl) base 5 ti (.int .u8 0) Tryd.underlying43 hti hz htz hby rfl (.slice A0 n0 c0) n0 (l.map b8) (by rfl) (by first | exact ((O1.out.alloc _).alloc _).drew | exact (O1.out.drew.alloc _).alloc _ | exact (O1.out.alloc _).alloc _) (w1.heap.size + 1) ⟨w1.heap.size, 0, none⟩ 1 1 [123] (by rfl) (Rb.block (x := 123) (by first | exact lit_a w1 _ _ | exact lit_a w1.drew _ _)) (by simp) (by omega) (by have := B1.out; simp; omega) ?_; intro v3 w3 ho3 hg3; have G3' : Grw w1 (Value.slice A0 n0 c0).ownBlock v3.ownBlock w3 := (by first | exact Grw.new (Grw.new (Grw.drew hg3)) | exact Grw.drew (Grw.new (Grw.new hg3)) | exact Grw.new (Grw.new hg3)); have BK3 : Hid (w3.heap[w1.heap.size + 1]? = some (.cells #[.int .u8 125] 5 (0, 0)) ∧ v3.ownBlock ≠ some (w1.heap.size + 1)) := Lib.hid ⟨(hg3.1.block (w1.heap.size + 1) (by simp; try omega) (by intro e; have := NB.out _ e.symm; omega)).trans (by first | exact lit_b w1 _ _ | exact lit_b w1.drew _ _), by intro e; rcases hg3.2 _ e with h | h; have := NB.out _ h; omega; simp at h; omega⟩; obtain ⟨A3, c3, rfl, h31, h32⟩ := own_form ho3; have O3 : Hid (w3.ownsRow base 5 1 (.slice A3 (n0 + 1) c3) (n0 + 1) ((l ++ [123]).map b8)) := Lib.hid (by rw [List.map_append]; exact ho3); have G3 := Lib.hid G3'; have F3 := Lib.hid (Frm.of_grw G3' O1.out B1.out); have FF3 := Lib.hid (F1.out.trans F3.out); have P3 := Lib.hid (F3.out.keep _ _ _ P1.out (by decide)); have true3 : Hid (base ≤ w3.heap.size) := Lib.hid (Nat.le_trans B1.out G3'.1.size); have q0 := P3.out.cell 0; have q1 := P3.out.cell 1; have q2 := P3.out.cell 2; have q3 := P3.out.cell 3; have q4 := P3.out.cell 4; have sz3 : w.heap.size < w3.heap.size := P3.out.lt; clear G3' ho3 hg3) | (refine step_append_b8_at rfl _ _ _ (by rfl) base 5 ti (.int .u8 0) Tryd.underlying43 hti hz htz hby rfl (.slice A0 n0 c0) n0 (l.map b8) (by rfl) (by first | exact ((O1.out.alloc _).alloc _).drew | exact (O1.out.drew.alloc _).alloc _ | exact (O1.out.alloc _).alloc _) (w1.heap.size + 1 + 1) ⟨w1.heap.size + 1, 0, none⟩ 1 1 [123] (by rfl) (Rb.block (x := 123) (by first | exact lit_b w1 _ _ | exact lit_b w1.drew _ _)) (by simp) (by omega) (by have := B1.out; simp; omega) ?_; intro v3 w3 ho3 hg3; have G3' : Grw w1 (Value.slice A0 n0 c0).ownBlock v3.ownBlock w3 := (by first | exact Grw.new (Grw.new (Grw.drew hg3)) | exact Grw.drew (Grw.new (Grw.new hg3)) | exact Grw.new (Grw.new hg3)); have BK3 : Hid (w3.heap[w1.heap.size]? = some (.cells #[.int .u8 125] 5 (0, 0)) ∧ v3.ownBlock ≠ some (w1.heap.size)) := Lib.hid ⟨(hg3.1.block (w1.heap.size) (by simp; try omega) (by intro e; have := NB.out _ e.symm; omega)).trans (by first | exact lit_a w1 _ _ | exact lit_a w1.drew _ _), by intro e; rcases hg3.2 _ e with h | h; have := NB.out _ h; omega; simp at h; omega⟩; obtain ⟨A3, c3, rfl, h31, h32⟩ := own_form ho3; have O3 : Hid (w3.ownsRow base 5 1 (.slice A3 (n0 + 1) c3) (n0 + 1) ((l ++ [123]).map b8)) := Lib.hid (by rw [List.map_append]; exact ho3); have G3 := Lib.hid G3'; have F3 := Lib.hid (Frm.of_grw G3' O1.out B1.out); have FF3 := Lib.hid (F1.out.trans F3.out); have P3 := Lib.hid (F3.out.keep _ _ _ P1.out (by decide)); have true3 : Hid (base ≤ w3.heap.size) := Lib.hid (Nat.le_trans B1.out G3'.1.size); have q0 := P3.out.cell 0; have q1 := P3.out.cell 1; have q2 := P3.out.cell 2; have q3 := P3.out.cell 3; have q4 := P3.out.cell 4; have sz3 : w.heap.size < w3.heap.size := P3.out.lt; clear G3' ho3 hg3) | (go_simp; go_at_call 33; refine (HCALL.out _ A3 (n0 + 1) c3 (l ++ [123]) (by first | exact FF3.out | exact FF3.out.trans (Frm.of_below (below_one _ _) true3.out)) (by first | exact O3.out | exact O3.out.alloc _) (by first | exact true3.out | (rw [World.size_alloc]; exact Nat.le_succ_of_le true3.out)) (Nat.le_refl _)).mono ?_; rintro _ w4 ⟨A4, n4, c4, rfl, hl4, h41, h42, O4, G4⟩; have G34 : Hid (Grw w1 (Value.slice A0 n0 c0).ownBlock (Value.slice A4 n4 c4).ownBlock w4) := Lib.hid (by first | exact G3.out.trans G4.out | exact G3.out.trans (Grw.new G4.out)); have true4 : Hid (base ≤ w4.heap.size) := Lib.hid (Nat.le_trans B1.out G34.out.1.size); have hn4 : n4 ≤ 100000000 := (by have e1 := hl4.out; have e2 := own_len O1.out; simp at e1 e2; omega); first | (have BK4 : Hid (w4.heap[w1.heap.size + 1]? = some (.cells #[.int .u8 125] 5 (0, 0))) := Lib.hid ((G4.out.1.block (w1.heap.size + 1) (Nat.lt_of_not_le (fun hh => by have e := BK3.out.1; rw [Array.getElem?_eq_none hh] at e; cases e)) (Ne.symm BK3.out.2)).trans BK3.out.1)) | (have BK4 : Hid (w4.heap[w1.heap.size]? = some (.cells #[.int .u8 125] 5 (0, 0))) := Lib.hid ((G4.out.1.block w1.heap.size (Nat.lt_of_not_le (fun hh => by have e := BK3.out.1; rw [Array.getElem?_eq_none hh] at e; cases e)) (Ne.symm BK3.out.2)).trans BK3.out.1)) | (have BK4 : Hid (w4.heap[w3.heap.size]? = some (.cells #[.int .u8 125] 5 (0, 0))) := Lib.hid ((G4.out.1.block w3.heap.size (by simp) (by intro e; have := (O3.out.lt _ e.symm).2; omega)).trans (by first | exact heap_alloc_new w3 _ | exact heap_alloc_new w3.drew _))) | skip) | (refine step_append_b8_at rfl _ _ _ (by rfl) base 5 ti (.int .u8 0) Tryd.underlying43 hti hz htz hby rfl (.slice A4 n4 c4) n4 ((l ++ [123] ++ txts true true its ks).map b8) (by rfl) (by first | exact O4.out.alloc _) (w4.heap.size + 1) ⟨w4.heap.size, 0, none⟩ 1 1 [125] (by rfl) (Rb.block (x := 125) (by first | exact heap_alloc_new w4 _)) (by simp) (by omega) (by have := true4.out; first | exact this | (simp; omega)) ?_; intro v5 w5 ho5 hg5; have FIN : Hid (AppB base (.slice A0 n0 c0) w (l ++ 123 :: (txts true true its ks ++ [125])) (.returned v5) w5) := Lib.hid (AppB.mk' (n := n4 + 1) (by rw [show l ++ 123 :: (txts true true its ks ++ [125]) = (l ++ [123] ++ txts true true its ks) ++ [125] by simp, List.map_append]; exact ho5) (G1.out.trans (G34.out.trans (by first | exact hg5 | exact hg5.new)))); clear ho5 hg5) | (refine step_append_b8_at rfl _ _ _ (by rfl) base 5 ti (.int .u8 0) Tryd.underlying43 hti hz htz hby rfl (.slice A4 n4 c4) n4 ((l ++ [123] ++ txts true true its ks).map b8) (by rfl) (by first | exact O4.out) (w1.heap.size + 1 + 1) ⟨w1.heap.size + 1, 0, none⟩ 1 1 [125] (by rfl) (Rb.block (x := 125) (by first | exact BK4.out)) (by simp) (by omega) (by have := true4.out; first | exact this | (simp; omega)) ?_; intro v5 w5 ho5 hg5; have FIN : Hid (AppB base (.slice A0 n0 c0) w (l ++ 123 :: (txts true true its ks ++ [125])) (.returned v5) w5) := Lib.hid (AppB.mk' (n := n4 + 1) (by rw [show l ++ 123 :: (txts true true its ks ++ [125]) = (l ++ [123] ++ txts true true its ks) ++ [125] by simp, List.map_append]; exact ho5) (G1.out.trans (G34.out.trans (by first | exact hg5 | exact hg5.new)))); clear ho5 hg5) | (refine step_append_b8_at rfl _ _ _ (by rfl) base 5 ti (.int .u8 0) Tryd.underlying43 hti hz htz hby rfl (.slice A4 n4 c4) n4 ((l ++ [123] ++ txts true true its ks).map b8) (by rfl) (by first | exact O4.out) (w1.heap.size + 1) ⟨w1.heap.size, 0, none⟩ 1 1 [125] (by rfl) (Rb.block (x := 125) (by first | exact BK4.out)) (by simp) (by omega) (by have := true4.out; first | exact this | (simp; omega)) ?_; intro v5 w5 ho5 hg5; have FIN : Hid (AppB base (.slice A0 n0 c0) w (l ++ 123 :: (txts true true its ks ++ [125])) (.returned v5) w5) := Lib.hid (AppB.mk' (n := n4 + 1) (by rw [show l ++ 123 :: (txts true true its ks ++ [125]) = (l ++ [123] ++ txts true true its ks) ++ [125] by simp, List.map_append]; exact ho5) (G1.out.trans (G34.out.trans (by first | exact hg5 | exact hg5.new)))); clear ho5 hg5) | (refine step_append_b8_at rfl _ _ _ (by rfl) base 5 ti (.int .u8 0) Tryd.underlying43 hti hz htz hby rfl (.slice A4 n4 c4) n4 ((l ++ [123] ++ txts true true its ks).map b8) (by rfl) (by first | exact O4.out) (w3.heap.size + 1) ⟨w3.heap.size, 0, none⟩ 1 1 [125] (by rfl) (Rb.block (x := 125) (by first | exact BK4.out)) (by simp) (by omega) (by have := true4.out; first | exact this | (simp; omega)) ?_; intro v5 w5 ho5 hg5; have FIN : Hid (AppB base (.slice A0 n0 c0) w (l ++ 123 :: (txts true true its ks ++ [125])) (.returned v5) w5) := Lib.hid (AppB.mk' (n := n4 + 1) (by rw [show l ++ 123 :: (txts true true its ks ++ [125]) = (l ++ [123] ++ txts true true its ks) ++ [125] by simp, List.map_append]; exact ho5) (G1.out.trans (G34.out.trans (by first | exact hg5 | exact hg5.new)))); clear ho5 hg5))
  all_goals (
    try go_wp2
    go_ret
    exact FIN.out)
end Go.Proofs.YtjblchdfkcbodaaDoor
namespace Go.Proofs.YtjblchdfkcbodaaDoor
open Go.RowKit

theorem okF_kind {k i : Int} {t : ByteArray} {its : List VT} {ks : List ByteArray} (h : okF (.mk k i t its ks) = true) : 0 ≤ k ∧ k ≤ 6 := by
  by_cases hk : 0 ≤ k ∧ k ≤ 6
  · exact hk
  · unfold okF VT.k at h
    simp only [show ¬ k = 0 from by omega, show ¬ k = 1 from by omega, show ¬ k = 2 from by omega, show ¬ k = 3 from by omega, show ¬ k = 4 from by omega, show ¬ k = 5 from by omega, show ¬ k = 6 from by omega, if_false] at h
    cases h
theorem okF_keys {k i : Int} {t : ByteArray} {its : List VT} {ks : List ByteArray} (h : okF (.mk k i t its ks) = true) (hk : k = 5) : ks.length = its.length := by
  subst hk
  rw [okF_5] at h
  simp only [Bool.and_eq_true, decide_eq_true_eq] at h
  exact h.2.2.1
theorem txt_all (m : Nat) : TxtUpto m := by
  induction m with
  | zero => intro x _ _ _ _ _ _ _ h; have := size_pos x; omega
  | succ m ih =>
    intro x w v base n c A l hsz hw hv ho hB hn hT
    have IH := Lib.hid ih
    obtain ⟨k, i, t, its, ks⟩ := x
    obtain ⟨A1, c1, A', c', rfl, _, hi, _, h1, h2, hL, h3, h4, hS⟩ := hv.open
    rw [VT.size_mk] at hsz
    rw [VT.all_mk, Bool.and_eq_true] at hw
    have hk := okF_kind hw.1
    have hks := okF_keys hw.1
    obtain rfl | rfl | rfl | rfl | rfl | rfl | rfl : k = 0 ∨ k = 1 ∨ k = 2 ∨ k = 3 ∨ k = 4 ∨ k = 5 ∨ k = 6 := by omega
    · exact pay_0 i t its ks A1 c1 A' c' w base n c A l hi ho hB hn hT
    · exact pay_1 i t its ks A1 c1 A' c' w base n c A l hi ho hB hn hT
    · exact pay_2 i t its ks A1 c1 A' c' w base n c A l hi ho hB hn hT
    · exact pay_3 i t its ks A1 c1 A' c' w base n c A l hi ho hB hn hT
    · exact pay_4 m IH i t its ks A1 c1 A' c' w base n c A l hL hS (fun e => by omega) h3 h4 h1 h2 (by omega) hw.2 ho hB hn hT
    · exact pay_5 m IH i t its ks A1 c1 A' c' w base n c A l hL hS (fun _ => hks rfl) h3 h4 h1 h2 (by omega) hw.2 ho hB hn hT
    · exact pay_6 i t its ks A1 c1 A' c' w base n c A l hi ho hB hn hT

/-- what Print gives -/
def PrtR (x : VT) (w : World) (e : Ending) (w' : World) : Prop :=
  e = .returned (.tuple (if x.right = true then #[.string ⟨x.txt.toArray⟩, .int .i64 0] else #[.string ⟨#[]⟩, .int .i64 2])) ∧ Below w.heap.size w w'
theorem right_ok {x : VT} (h : x.right = true) : x.all okF = true := by
  unfold VT.right VT.wf at h
  rw [Bool.and_eq_true] at h
  exact h.1

set_option maxRecDepth 100000 in
set_option maxHeartbeats 4000000 in
theorem Print_any {x : VT} {v : Value} {w : World} (hv : Lies w (Lo w) x v) (hn : 4 * x.txt.length ≤ 100000000) (hT : PowTab w.heap.size w) :
    Calls Tryd.prog 8 #[v] w (PrtR x w) := by
  have HR := Lib.hid (fun (w' : World) (hb : Below w.heap.size w w') => valRight_any (hv.below hb))
  have HP := Lib.hid (fun (w' : World) (hb : Below w.heap.size w w') (hx : x.right = true) => txt_all x.size x w' v w.heap.size 0 0 none [] (Nat.le_refl _) (right_ok hx) (hv.keep (fun p hp => hb.cell hp) (fun _ h => h)) ⟨rfl, .inl ⟨rfl, rfl⟩⟩ hb.size (by omega) (hT.on hb))
  have HX : Hid (∀ (w' : World), Below w.heap.size w w' → PrtR x w (.returned (.tuple (if x.right = true then #[.string ⟨x.txt.toArray⟩, .int .i64 0] else #[.string ⟨#[]⟩, .int .i64 2]))) w') := Lib.hid (fun w' hb => ⟨rfl, hb⟩)
  obtain ⟨k, i, t, its, ks⟩ := x
  obtain ⟨A1, c1, A', c', rfl, _, _, _, _, _, _, _, _, _⟩ := hv.open
  clear hv hn hT
  generalize hx : VT.mk k i t its ks = x at *
  clear hx
  generalize hb : x.right = b at *
  obtain ⟨w1, hw1⟩ : ∃ w1, w1 = w.alloc (.cells #[.int .i64 k, .int .i64 i, .string t, .slice A1 its.length c1, .slice A' ks.length c'] 26) := ⟨_, rfl⟩
  have P1 : Hid (Bk w1 w.heap.size 26 #[.int .i64 k, .int .i64 i, .string t, .slice A1 its.length c1, .slice A' ks.length c']) := Lib.hid (by rw [hw1]; exact Bk.new _ _ _)
  have B1 : Hid (Below w.heap.size w w1) := Lib.hid (by rw [hw1]; exact below_one _ _)
  have R1 := Lib.hid (HR.out w1 B1.out)
  have HW := Lib.hid hw1
  have p0 := P1.out.cell 0
  have p1 := P1.out.cell 1
  have p2 := P1.out.cell 2
  have p3 := P1.out.cell 3
  have p4 := P1.out.cell 4
  rw [HW.out] at p0 p1 p2 p3 p4
  clear hw1 hb
  unfold vag at *
  go_enter Tryd.func8, Tryd.ntmps8
  go_wp2_with fail
  rw [← HW.out]
  refine (R1.out).mono ?_
  rintro e w2 ⟨rfl, hb2⟩
  have B2 : Hid (Below w.heap.size w w2) := Lib.hid (B1.out.trans (hb2.mono B1.out.size))
  have P2 := Lib.hid (P1.out.below hb2 P1.out.lt)
  clear hb2 p0 p1 p2 p3 p4
  cases b with
  | false =>
    have FIN := Lib.hid (HX.out w2 B2.out)
    clear HP HR R1 HX
    go_wp2
    go_ret2
    exact FIN.out
  | true =>
    have E2 := Lib.hid (HP.out w2 B2.out rfl)
    have p0 := P2.out.cell 0
    have p1 := P2.out.cell 1
    have p2 := P2.out.cell 2
    have p3 := P2.out.cell 3
    have p4 := P2.out.cell 4
    clear HP HR R1
    go_wp2_with fail
    refine (E2.out).mono ?_
    rintro e w5 ⟨A5, n5, c5, rfl, hl5, _, _, O5, G5⟩
    have B5 : Hid (Below w.heap.size w w5) := Lib.hid (B2.out.trans ((Below.refl _ _).grown G5.out.1 B2.out.size (fun k hk => by cases hk)))
    rw [List.nil_append] at O5
    have HS := run_str (P := Tryd.prog) (c := c5) 43 9 5 Tryd.underlying43 Tryd.underlying5 Tryd.underlying9 (Rb.of_own O5.out)
    have FIN := Lib.hid (HX.out w5 B5.out)
    clear p0 p1 p2 p3 p4 HX
    go_wp2
    go_ret2
    exact FIN.out
end Go.Proofs.YtjblchdfkcbodaaDoor
namespace Go.Proofs.YtjblchdfkcbodaaDoor
open Go.RowKit

/-- the first example's value -/
def exV : VT := .mk 5 0 ⟨#[]⟩ [.mk 4 0 ⟨#[]⟩ [nullT, .mk 1 1 ⟨#[]⟩ [] []] [], .mk 2 (-5) ⟨#[]⟩ [] []] [⟨#[97]⟩, ⟨#[98]⟩]
theorem ex_1 : parP [123, 34, 98, 34, 58, 32, 45, 53, 44, 32, 34, 97, 34, 32, 58, 91, 110, 117, 108, 108, 44, 116, 114, 117, 101, 93, 125] = .ok exV 27 := by kernel_rfl
theorem ex_2 : parP [123, 34, 97, 34, 58, 32, 48, 49, 125] = .err 7 3 := by kernel_rfl
theorem ex_3 : parP [123, 34, 97, 34, 58, 32, 49, 44, 32, 34, 97, 34, 58, 32, 50, 125] = .err 9 9 := by kernel_rfl
theorem ex_4 : parP [91, 49, 44] = .err 3 4 := by kernel_rfl
theorem ex_right : exV.right = true := by kernel_rfl
theorem itoa_5 : Lib.itoa (-5) = [45, 53] := by
  rw [show (-5 : Int) = -((5 : Nat) : Int) from rfl, Lib.itoa_neg 5 (by decide), Lib.decDigits, dif_pos (by decide)]
  rfl
theorem ex_txt : exV.txt = [123, 34, 97, 34, 58, 32, 91, 110, 117, 108, 108, 44, 32, 116, 114, 117, 101, 93, 44, 32, 34, 98, 34, 58, 32, 45, 53, 125] := by
  have h5 : (VT.mk 2 (-5) ⟨#[]⟩ [] []).txt = [45, 53] := by rw [VT.txt_mk, if_neg (by decide), if_pos rfl, itoa_5]
  unfold exV
  rw [VT.txt_mk, if_neg (by decide), if_neg (by decide), if_neg (by decide), if_neg (by decide), if_pos rfl, txts, txts, h5]
  rfl
theorem ex_quo : quoL [97, 10, 7] = [34, 97, 92, 110, 92, 120, 48, 55, 34] := by kernel_rfl
end Go.Proofs.YtjblchdfkcbodaaDoor
namespace Go.Proofs.YtjblchdfkcbodaaDoor
open Go.RowKit

/-- the world has what Parse and Print read of strconv -/
structure Std (w : World) : Prop where
  ev : Ev w w.heap.size
  tab : PowTab w.heap.size w
theorem Std.on {w w' : World} (h : Std w) (hb : Below w.heap.size w w') : Std w' := by
  obtain ⟨⟨a, b, h1⟩, ⟨c, d, h2⟩, h3, h4⟩ := h.ev
  have l1 := World.block_lt_of_cell? w _ h1
  have l2 := World.block_lt_of_cell? w _ h2
  have hs := hb.size
  refine ⟨⟨⟨a, b, by rw [hb.cell l1]; exact h1⟩, ⟨c, d, by rw [hb.cell l2]; exact h2⟩, fun e => ?_, fun e => ?_⟩, fun W hW => h.tab W (hb.trans (hW.mono hs))⟩
  · have l1' : 1 < w.heap.size := l1
    omega
  · have l2' : 2 < w.heap.size := l2
    omega
theorem par_1 {w : World} (h : Std w) : Calls Tryd.prog 6 #[.string ⟨#[123, 34, 98, 34, 58, 32, 45, 53, 44, 32, 34, 97, 34, 32, 58, 91, 110, 117, 108, 108, 44, 116, 114, 117, 101, 93, 125]⟩] w (ParR (.ok exV 27) w) := by
  rw [← ex_1]
  exact Parse_any ⟨#[123, 34, 98, 34, 58, 32, 45, 53, 44, 32, 34, 97, 34, 32, 58, 91, 110, 117, 108, 108, 44, 116, 114, 117, 101, 93, 125]⟩ w (by decide) h.ev
theorem par_2 {w : World} (h : Std w) : Calls Tryd.prog 6 #[.string ⟨#[123, 34, 97, 34, 58, 32, 48, 49, 125]⟩] w (ParR (.err 7 3) w) := by
  rw [← ex_2]
  exact Parse_any ⟨#[123, 34, 97, 34, 58, 32, 48, 49, 125]⟩ w (by decide) h.ev
theorem par_3 {w : World} (h : Std w) : Calls Tryd.prog 6 #[.string ⟨#[123, 34, 97, 34, 58, 32, 49, 44, 32, 34, 97, 34, 58, 32, 50, 125]⟩] w (ParR (.err 9 9) w) := by
  rw [← ex_3]
  exact Parse_any ⟨#[123, 34, 97, 34, 58, 32, 49, 44, 32, 34, 97, 34, 58, 32, 50, 125]⟩ w (by decide) h.ev
theorem par_4 {w : World} (h : Std w) : Calls Tryd.prog 6 #[.string ⟨#[91, 49, 44]⟩] w (ParR (.err 3 4) w) := by
  rw [← ex_4]
  exact Parse_any ⟨#[91, 49, 44]⟩ w (by decide) h.ev
theorem prt_1 {v : Value} {w : World} (hv : Lies w (Lo w) exV v) (h : Std w) : Calls Tryd.prog 8 #[v] w fun e w' => e = .returned (.tuple #[.string ⟨#[123, 34, 97, 34, 58, 32, 91, 110, 117, 108, 108, 44, 32, 116, 114, 117, 101, 93, 44, 32, 34, 98, 34, 58, 32, 45, 53, 125]⟩, .int .i64 0]) ∧ Below w.heap.size w w' := by
  refine (Print_any hv (by rw [ex_txt]; decide) h.tab).mono ?_
  rintro e w' ⟨rfl, hb⟩
  rw [if_pos ex_right, ex_txt]
  exact ⟨rfl, hb⟩
theorem quo_1 (w : World) : Calls Tryd.prog 7 #[.string ⟨#[97, 10, 7]⟩] w fun e w' => e = .returned (.string ⟨#[34, 97, 92, 110, 92, 120, 48, 55, 34]⟩) ∧ Below w.heap.size w w' := by
  refine (Quote_any ⟨#[97, 10, 7]⟩ w (by decide)).mono ?_
  rintro e w' ⟨rfl, hb⟩
  exact ⟨congrArg (fun x : List UInt8 => Ending.returned (.string ⟨x.toArray⟩)) ex_quo, hb⟩

set_option maxRecDepth 100000 in
set_option maxHeartbeats 4000000 in
theorem lives_any {w : World} (h : Std w) : Calls Tryd.prog 5 #[] w fun e w' => e = .returned (.bool true) ∧ Below w.heap.size w w' := by
  have S0 := Lib.hid h
  clear h
  go_enter Tryd.func5, Tryd.ntmps5
  go_wp2_with fail
  refine (par_1 S0.out).mono ?_
  rintro _ w1 ⟨hb1, ⟨k, i, t, A, m, c, A', m', c', x, j, rfl, hr, hl⟩ | ⟨j, c, hr, _⟩⟩
  case inr => exact absurd hr.out (by intro e; cases e)
  obtain ⟨rfl, rfl⟩ : exV = x ∧ _ = j := by have := hr.out; injection this with a b; exact ⟨a, b⟩
  clear hr
  go_wp2_with fail
  obtain ⟨w2, hw2⟩ : ∃ w2, w2 = w1.alloc (.cells #[.int .i64 k, .int .i64 i, .string t, .slice A m c, .slice A' m' c'] 26) := ⟨_, rfl⟩
  rw [← hw2]
  have hb12 : Below w1.heap.size w1 w2 := by rw [hw2]; exact below_one _ _
  have B2 : Hid (Below w.heap.size w w2) := Lib.hid (hb1.trans (hb12.mono hb1.size))
  have L2 := Lib.hid ((hl.out.keep (fun p hp => hb12.cell hp.2) (fun b hp => Nat.lt_of_lt_of_le hp.2 hb12.size) : Lies w2 (Lo w2) exV _))
  have HW := Lib.hid hw2
  clear hb1 hl hb12 hw2
  refine (prt_1 L2.out (S0.out.on B2.out)).mono ?_
  rintro _ w3 ⟨rfl, hb3⟩
  have B3 : Hid (Below w.heap.size w w3) := Lib.hid (B2.out.trans (hb3.mono B2.out.size))
  clear hb3
  go_wp2_with fail
  refine (par_2 (S0.out.on B3.out)).mono ?_
  rintro _ w4 ⟨hb4, ⟨k2, i2, t2, A2, m2, c2, A2', m2', c2', x2, j2, _, hr, _⟩ | ⟨j2, c2, hr, rfl⟩⟩
  · exact absurd hr.out (by intro e; cases e)
  obtain ⟨rfl, rfl⟩ : 7 = j2 ∧ (3 : Int) = c2 := by have := hr.out; injection this with a b; exact ⟨a, b⟩
  have B4 : Hid (Below w.heap.size w w4) := Lib.hid (B3.out.trans (hb4.mono B3.out.size))
  clear hb4 hr
  go_wp2_with fail
  refine (par_3 (S0.out.on (Below.alloc B4.out B4.out.size _))).mono ?_
  rintro _ w5 ⟨hb5, ⟨k2, i2, t2, A2, m2, c2, A2', m2', c2', x2, j2, _, hr, _⟩ | ⟨j2, c2, hr, rfl⟩⟩
  · exact absurd hr.out (by intro e; cases e)
  obtain ⟨rfl, rfl⟩ : 9 = j2 ∧ (9 : Int) = c2 := by have := hr.out; injection this with a b; exact ⟨a, b⟩
  have B5 : Hid (Below w.heap.size w w5) := Lib.hid ((Below.alloc B4.out B4.out.size _).trans (hb5.mono (Below.alloc B4.out B4.out.size _).size))
  clear hb5 hr
  go_wp2_with fail
  refine (par_4 (S0.out.on (Below.alloc B5.out B5.out.size _))).mono ?_
  rintro _ w6 ⟨hb6, ⟨k2, i2, t2, A2, m2, c2, A2', m2', c2', x2, j2, _, hr, _⟩ | ⟨j2, c2, hr, rfl⟩⟩
  · exact absurd hr.out (by intro e; cases e)
  obtain ⟨rfl, rfl⟩ : 3 = j2 ∧ (4 : Int) = c2 := by have := hr.out; injection this with a b; exact ⟨a, b⟩
  have B6 : Hid (Below w.heap.size w w6) := Lib.hid ((Below.alloc B5.out B5.out.size _).trans (hb6.mono (Below.alloc B5.out B5.out.size _).size))
  clear hb6 hr
  go_wp2_with fail
  refine (quo_1 _).mono ?_
  rintro _ w7 ⟨rfl, hb7⟩
  have B7 : Hid (Below w.heap.size w w7) := Lib.hid ((Below.alloc B6.out B6.out.size _).trans (hb7.mono (Below.alloc B6.out B6.out.size _).size))
  clear hb7
  go_wp2
  go_ret
  exact ⟨rfl, B7.out⟩
end Go.Proofs.YtjblchdfkcbodaaDoor
namespace Go.Proofs.YtjblchdfkcbodaaDoor

/-- two texts that agree below n -/
def Agr (n : Nat) (l l' : List UInt8) : Prop := ∀ i, i < n → l[i]? = l'[i]? ∧ i < l.length
theorem Agr.tk {n i : Nat} {l l' : List UInt8} (h : Agr n l l') (hi : i < n) (p : UInt8 → Bool) : tkP p l i = tkP p l' i := by
  unfold tkP
  rw [(h i hi).1]
theorem Agr.runEq {n : Nat} {l l' : List UInt8} (h : Agr n l l') (p : UInt8 → Bool) : ∀ (d i : Nat), run p l i = i + d → i + d < n → run p l' i = i + d
  | 0, i, hr, hn => by
    obtain ⟨he, hl⟩ := h i (by omega)
    obtain ⟨c, hc⟩ : ∃ c, l[i]? = some c := ⟨_, List.getElem?_eq_getElem hl⟩
    cases hp : p c with
    | true =>
      rw [run_on hc hp] at hr
      have := run_ge p l (i + 1)
      omega
    | false => exact run_off (he ▸ hc) hp
  | d + 1, i, hr, hn => by
    obtain ⟨he, hl⟩ := h i (by omega)
    obtain ⟨c, hc⟩ : ∃ c, l[i]? = some c := ⟨_, List.getElem?_eq_getElem hl⟩
    cases hp : p c with
    | true =>
      rw [run_on hc hp] at hr
      rw [run_on (he ▸ hc) hp]
      have := h.runEq p d (i + 1) (by omega) (by omega)
      omega
    | false =>
      rw [run_off hc hp] at hr
      omega
/-- what one text gives below n the other gives, from offset i on -/
structure Kp {α : Type} (n i : Nat) (r r' : PR α) : Prop where
  ok : ∀ a k, r = .ok a k → i ≤ k ∧ (k < n → r' = .ok a k)
  er : ∀ j, r = .err j 3 → i ≤ j ∧ (j < n → r' = .err j 3)
theorem Kp.same {α : Type} {n i : Nat} {r r' : PR α} (h1 : ∀ a k, r = .ok a k → i ≤ k) (h2 : ∀ j, r = .err j 3 → i ≤ j) (h : i < n → r' = r) : Kp n i r r' :=
  ⟨fun a k e => ⟨h1 a k e, fun hk => by rw [h (Nat.lt_of_le_of_lt (h1 a k e) hk), e]⟩, fun j e => ⟨h2 j e, fun hj => by rw [h (Nat.lt_of_le_of_lt (h2 j e) hj), e]⟩⟩
theorem Kp.okk {α : Type} {n i k : Nat} {a : α} (h : i ≤ k) : Kp n i (.ok a k) (.ok a k) := Kp.same (fun _ _ e => by injection e with _ e; omega) (fun _ e => by cases e) (fun _ => rfl)
theorem Kp.erk {α : Type} {n i k : Nat} {c : Int} (h : i ≤ k) : Kp n i (.err k c : PR α) (.err k c) := Kp.same (fun _ _ e => by cases e) (fun _ e => by injection e with e _; omega) (fun _ => rfl)
theorem Kp.no {α : Type} {n i k : Nat} {c : Int} {r' : PR α} (h : c ≠ 3) : Kp n i (.err k c : PR α) r' := ⟨fun _ _ e => (by cases e), fun _ e => (by injection e with _ e; exact absurd e h)⟩
theorem Kp.far {α : Type} {n i : Nat} {r r1 r' : PR α} (hn : n ≤ i) (h : Kp n i r r1) : Kp n i r r' :=
  ⟨fun a k e => ⟨(h.ok a k e).1, fun hk => absurd (h.ok a k e).1 (by omega)⟩, fun j e => ⟨(h.er j e).1, fun hj => absurd (h.er j e).1 (by omega)⟩⟩
theorem Kp.le {α : Type} {n i k : Nat} {r r' : PR α} (h : Kp n k r r') (hi : i ≤ k) : Kp n i r r' :=
  ⟨fun a m e => ⟨Nat.le_trans hi (h.ok a m e).1, (h.ok a m e).2⟩, fun j e => ⟨Nat.le_trans hi (h.er j e).1, (h.er j e).2⟩⟩
theorem Kp.bind {α β : Type} {n i : Nat} {r r' : PR α} {f f' : α → Nat → PR β} (h : Kp n i r r') (hf : ∀ a k, r = .ok a k → i ≤ k → Kp n k (f a k) (f' a k)) : Kp n i (r.bind f) (r'.bind f') := by
  cases hr : r with
  | ok a k =>
    have h1 := h.ok a k hr
    have h2 := hf a k hr h1.1
    rw [PR.bind_ok]
    refine ⟨fun b m e => ⟨Nat.le_trans h1.1 (h2.ok b m e).1, fun hm => ?_⟩, fun j e => ⟨Nat.le_trans h1.1 (h2.er j e).1, fun hj => ?_⟩⟩
    · rw [h1.2 (Nat.lt_of_le_of_lt (h2.ok b m e).1 hm), PR.bind_ok]; exact (h2.ok b m e).2 hm
    · rw [h1.2 (Nat.lt_of_le_of_lt (h2.er j e).1 hj), PR.bind_ok]; exact (h2.er j e).2 hj
  | err k c =>
    rw [PR.bind_err]
    refine ⟨fun b m e => (by cases e), fun j e => ?_⟩
    injection e with e1 e2
    subst e1 e2
    have h1 := h.er k hr
    exact ⟨h1.1, fun hj => by rw [h1.2 hj, PR.bind_err]⟩
section
variable {n : Nat} {l l' : List UInt8}
theorem Agr.tkK (h : Agr n l l') (p : UInt8 → Bool) (i : Nat) : Kp n i (tkP p l i) (tkP p l' i) := by
  refine Kp.same (fun a k e => Nat.le_of_succ_le (tkP_mono p l i a k e)) (fun j e => ?_) (fun hi => (h.tk hi p).symm)
  unfold tkP at e
  split at e
  · injection e with e _; omega
  · split at e
    · cases e
    · injection e with e _; omega
theorem Agr.escK (h : Agr n l l') (i : Nat) : Kp n i (escP l i) (escP l' i) := by
  unfold escP
  refine (h.tkK esq i).bind fun c k _ hk => ?_
  repeat' split
  · exact Kp.okk (Nat.le_refl _)
  · exact Kp.okk (Nat.le_refl _)
  · exact (h.tkK hxd k).bind fun a k2 _ hk2 => (h.tkK hxd k2).bind fun d k3 _ hk3 => Kp.okk (Nat.le_refl _)
  · exact Kp.okk (Nat.le_refl _)
theorem Agr.chrK (h : Agr n l l') (i : Nat) : Kp n i (chrP l i) (chrP l' i) := by
  unfold chrP
  refine (h.tkK pln i).bind fun c k _ hk => ?_
  split
  · exact h.escK k
  · exact Kp.okk (Nat.le_refl _)
theorem Agr.lt (h : Agr n l l') {i : Nat} (hi : i < n) : i < l'.length := by
  obtain ⟨e, hl⟩ := h i hi
  rw [List.getElem?_eq_getElem hl] at e
  exact (List.getElem?_eq_some_iff.1 e.symm).1
theorem Agr.litLK (h : Agr n l l') (a : Nat) : ∀ (f f' i : Nat) (o : List UInt8), l'.length + 1 ≤ f' + i → Kp n i (litL l a f i o) (litL l' a f' i o)
  | 0, f', i, o, _ => Kp.no (by decide)
  | f + 1, f', i, o, hf => by
    rcases Nat.lt_or_ge i n with hi | hi
    · obtain ⟨e, hl⟩ := h i hi
      have hl' := h.lt hi
      obtain ⟨g, rfl⟩ : ∃ g, f' = g + 1 := ⟨f' - 1, by omega⟩
      obtain ⟨c, hc⟩ : ∃ c, l[i]? = some c := ⟨_, List.getElem?_eq_getElem hl⟩
      have hc' : l'[i]? = some c := e ▸ hc
      by_cases hq : c = 34
      · subst hq
        rw [litL_quote hc, litL_quote hc']
        split
        · exact Kp.okk (by omega)
        · exact Kp.no (by decide)
      · rw [litL_char hc hq, litL_char hc' hq]
        exact (h.chrK i).bind fun x k hx hk => h.litLK a f g k _ (by have := (chrP_to hx).1; omega)
    · cases hc : l[i]? with
      | none => rw [litL_none (List.getElem?_eq_none_iff.1 hc)]; exact Kp.no (by decide)
      | some c =>
        by_cases hq : c = 34
        · subst hq
          rw [litL_quote hc]
          split
          · exact Kp.far hi (Kp.okk (n := n) (by omega))
          · exact Kp.no (by decide)
        · rw [litL_char hc hq]
          exact Kp.far hi ((h.chrK i).bind fun x k hx hk => h.litLK a f (l'.length + 1) k (o ++ [x]) (by omega))
theorem Agr.litK (h : Agr n l l') (i : Nat) : Kp n i (litP l i) (litP l' i) :=
  (h.litLK (i - 1) _ _ i [] (by omega)).bind fun _ _ _ _ => Kp.okk (Nat.le_refl _)
theorem Agr.wrdK (h : Agr n l l') : ∀ (w : List UInt8) (i : Nat), Kp n i (wrdP l w i) (wrdP l' w i)
  | [], _ => Kp.okk (Nat.le_refl _)
  | _ :: r, i => (h.tkK _ i).bind fun _ k _ _ => h.wrdK r k
theorem Agr.slice (h : Agr n l l') {a k : Nat} (hk : k ≤ n) : (l.drop a).take (k - a) = (l'.drop a).take (k - a) := by
  apply List.ext_getElem?
  intro q
  rw [List.getElem?_take, List.getElem?_take]
  split
  · rw [List.getElem?_drop, List.getElem?_drop]
    exact (h (a + q) (by omega)).1
  · rfl
theorem numE_er {a j k : Nat} : numE l a j ≠ .err k 3 := by
  unfold numE
  split
  · intro e; cases e
  · intro e; injection e with _ e; exact absurd e (by decide)
theorem numE_ok_at {a j k : Nat} {v : Int} (h : numE l a j = .ok v k) : k = j := by
  unfold numE at h
  split at h
  · injection h with _ h; exact h.symm
  · cases h
theorem Agr.numK (h : Agr n l l') (a j : Nat) : Kp n j (numE l a (run dig l j)) (numE l' a (run dig l' j)) := by
  refine ⟨fun v k e => ?_, fun k e => absurd e numE_er⟩
  have hk := numE_ok_at e
  have hg := run_ge dig l j
  refine ⟨by omega, fun hn => ?_⟩
  have hr : run dig l' j = run dig l j := by
    have := h.runEq dig (run dig l j - j) j (by omega) (by omega)
    omega
  rw [hr, ← e]
  unfold numE
  rw [h.slice (a := a) (k := run dig l j) (by omega)]
theorem Agr.intK (h : Agr n l l') (c : UInt8) (i : Nat) : Kp n i (intP l c i) (intP l' c i) := by
  unfold intP
  split
  · exact (h.tkK dig1 i).bind fun _ k _ _ => h.numK (i - 1) k
  · rcases Nat.lt_or_ge i n with hi | hi
    · rw [← (h i hi).1]
      split
      · exact Kp.erk (Nat.le_refl _)
      · exact h.numK (i - 1) i
    · split
      · exact Kp.far hi (Kp.erk (n := n) (Nat.le_refl _))
      · exact Kp.far hi (h.numK (i - 1) i)
theorem Agr.skipK {α : Type} (h : Agr n l l') {G G' : Nat → PR α} (hG : ∀ k, Kp n k (G k) (G' k)) (i : Nat) : Kp n i (G (skip l i)) (G' (skip l' i)) := by
  have hg := skip_ge l i
  rcases Nat.lt_or_ge (skip l i) n with hs | hs
  · have hr : skip l' i = skip l i := by
      have := h.runEq blk (skip l i - i) i (by show skip l i = _; omega) (by omega)
      show run blk l' i = _
      omega
    rw [hr]
    exact (hG _).le hg
  · exact (Kp.far hs (hG (skip l i))).le hg
theorem Agr.moreK {σ : Type} {el el' : σ → Nat → PR σ} (h : Agr n l l') (hel : ∀ s i, Kp n i (el s i) (el' s i)) (e : UInt8) : ∀ (f f' i : Nat) (s : σ), l'.length + 1 ≤ f' + i → Kp n i (moreP el e l f i s) (moreP el' e l' f' i s)
  | 0, _, _, _, _ => Kp.no (by decide)
  | f + 1, f', i, s, hf => by
    have main : ∀ g, l'.length ≤ g + i → Kp n i (moreP el e l (f + 1) i s) (moreP el' e l' (g + 1) i s) := fun g hg => by
      rw [moreP, moreP]
      have hE : ∀ k, Kp n k (el s k) (el' s k) := hel s
      refine (h.skipK hE i).bind fun s2 j hj hij => ?_
      have hT : ∀ k, Kp n k (tkP (fun x => x == 44 || x == e) l k) (tkP (fun x => x == 44 || x == e) l' k) := h.tkK _
      refine (h.skipK hT j).bind fun c j2 hj2 hjk => ?_
      have h3 := tkP_mono _ _ _ _ _ hj2
      have h4 := skip_ge l j
      split
      · exact h.moreK hel e f g j2 s2 (by omega)
      · exact Kp.okk (Nat.le_refl _)
    cases f' with
    | succ g => exact main g (by omega)
    | zero =>
      rcases Nat.lt_or_ge i n with hi | hi
      · have := h.lt hi; omega
      · exact Kp.far hi (main l'.length (by omega))
theorem Agr.elemsK {σ : Type} {el el' : σ → Nat → PR σ} (h : Agr n l l') (hel : ∀ s i, Kp n i (el s i) (el' s i)) (e : UInt8) (i : Nat) (s : σ) : Kp n i (elemsP el e l i s) (elemsP el' e l' i s) := by
  have H : ∀ k, Kp n k (match l[k]? with | none => .err k 4 | some c => if c = e then .ok s (k + 1) else moreP el e l (l.length + 1) k s) (match l'[k]? with | none => .err k 4 | some c => if c = e then .ok s (k + 1) else moreP el' e l' (l'.length + 1) k s) := fun k => by
    have M := h.moreK hel e (l.length + 1) (l'.length + 1) k s (by omega)
    rcases Nat.lt_or_ge k n with hk | hk
    · rw [← (h k hk).1]
      cases l[k]? with
      | none => exact Kp.no (by decide)
      | some c =>
        show Kp n k (if c = e then _ else _) (if c = e then _ else _)
        split
        · exact Kp.okk (by omega)
        · exact M
    · cases l[k]? with
      | none => exact Kp.no (by decide)
      | some c =>
        show Kp n k (if c = e then _ else _) _
        split
        · exact Kp.far hk (Kp.okk (n := n) (k := k + 1) (by omega))
        · exact Kp.far hk M
  exact h.skipK H i
theorem Agr.elLK {val val' : Nat → Nat → PR (VT × Nat)} (hv : ∀ i m, Kp n i (val i m) (val' i m)) (s : List VT × Nat) (i : Nat) : Kp n i (elL val s i) (elL val' s i) :=
  (hv i s.2).bind fun _ _ _ _ => Kp.okk (Nat.le_refl _)
theorem Agr.elMK (h : Agr n l l') {val val' : Nat → Nat → PR (VT × Nat)} (hv : ∀ i m, Kp n i (val i m) (val' i m)) (s : List ByteArray × List VT × Nat) (i : Nat) : Kp n i (elM l val s i) (elM l' val' s i) := by
  unfold elM
  refine (h.tkK _ i).bind fun _ j _ _ => (h.litK j).bind fun key j2 _ _ => ?_
  split
  · exact Kp.no (by decide)
  · have hT : ∀ k, Kp n k (tkP (fun x => x == 58) l k) (tkP (fun x => x == 58) l' k) := h.tkK _
    exact (h.skipK hT j2).bind fun _ j3 _ _ => (hv j3 s.2.2).bind fun _ _ _ _ => Kp.okk (Nat.le_refl _)
theorem Agr.bodK (h : Agr n l l') {val val' : Nat → Nat → PR (VT × Nat)} (hv : ∀ i m, Kp n i (val i m) (val' i m)) (c : UInt8) (i m : Nat) : Kp n i (bodP val l c i m) (bodP val' l' c i m) := by
  unfold bodP
  split
  · exact (h.wrdK _ i).bind fun _ _ _ _ => Kp.okk (Nat.le_refl _)
  · split
    · exact (h.wrdK _ i).bind fun _ _ _ _ => Kp.okk (Nat.le_refl _)
    · split
      · exact (h.wrdK _ i).bind fun _ _ _ _ => Kp.okk (Nat.le_refl _)
      · split
        · exact (h.litK i).bind fun _ _ _ _ => Kp.okk (Nat.le_refl _)
        · split
          · exact (h.elemsK (Agr.elLK hv) 93 i _).bind fun _ _ _ _ => Kp.okk (Nat.le_refl _)
          · split
            · exact (h.elemsK (h.elMK hv) 125 i _).bind fun _ _ _ _ => Kp.okk (Nat.le_refl _)
            · exact (h.intK c i).bind fun _ _ _ _ => Kp.okk (Nat.le_refl _)
theorem Agr.valK (h : Agr n l l') : ∀ (k i m : Nat), Kp n i (valP l k i m) (valP l' k i m)
  | 0, i, m => by
    rw [valP, valP]
    have H : ∀ q, Kp n q ((tkP sta l q).bind fun _ _ => (.err q 7 : PR (VT × Nat))) ((tkP sta l' q).bind fun _ _ => .err q 7) := fun q => (h.tkK sta q).bind fun _ _ _ _ => Kp.no (by decide)
    exact h.skipK H i
  | k + 1, i, m => by
    rw [valP, valP]
    have H : ∀ q, Kp n q ((tkP sta l q).bind fun c j => if 1000 ≤ m then .err q 6 else bodP (valP l k) l c j (m + 1)) ((tkP sta l' q).bind fun c j => if 1000 ≤ m then .err q 6 else bodP (valP l' k) l' c j (m + 1)) := fun q => (h.tkK sta q).bind fun c j _ _ => by
      split
      · exact Kp.no (by decide)
      · exact h.bodK (h.valK k) c j (m + 1)
    exact h.skipK H i
end
end Go.Proofs.YtjblchdfkcbodaaDoor
namespace Go.Proofs.YtjblchdfkcbodaaDoor

theorem par_same {l l' : List UInt8} {j : Nat} (h : Agr (j + 1) l l') (e : parP l = .err j 3) : parP l' = .err j 3 := by
  have K := h.valK 16 0 0
  unfold parP at e ⊢
  cases hv : valP l 16 0 0 with
  | err k c =>
    rw [hv, PR.bind_err] at e
    injection e with e1 e2
    subst e1 e2
    rw [(K.er k hv).2 (by omega), PR.bind_err]
  | ok x q =>
    rw [hv, PR.bind_ok] at e
    split at e
    · cases e
    · injection e with e1 _
      have hq := skip_ge l q
      rw [(K.ok x q hv).2 (by omega), PR.bind_ok]
      have hr : skip l' q = j := by
        have := h.runEq blk (j - q) q (by show skip l q = _; omega) (by omega)
        show run blk l' q = _
        omega
      have hl := h.lt (i := j) (by omega)
      rw [hr, if_neg (by omega)]

/-- a fault of form stands at a byte of the text -/
def E3 {α : Type} (l : List UInt8) (r : PR α) : Prop := ∀ j, r = .err j 3 → j < l.length
section
variable {l : List UInt8}
theorem E3.bind {α β : Type} {r : PR α} {f : α → Nat → PR β} (h : E3 l r) (hf : ∀ a k, E3 l (f a k)) : E3 l (r.bind f) := by
  intro j e
  cases hr : r with
  | ok a k => rw [hr, PR.bind_ok] at e; exact hf a k j e
  | err k c => rw [hr, PR.bind_err] at e; injection e with e1 e2; subst e1 e2; exact h k hr
theorem E3.ok {α : Type} {a : α} {k : Nat} : E3 l (.ok a k) := fun _ e => by cases e
theorem E3.no {α : Type} {k : Nat} {c : Int} (h : c ≠ 3) : E3 l (.err k c : PR α) := fun _ e => by injection e with _ e; exact absurd e h
theorem tk3 (p : UInt8 → Bool) (i : Nat) : E3 l (tkP p l i) := by
  intro j e
  unfold tkP at e
  split at e
  · injection e with _ e; exact absurd e (by decide)
  · rename_i c hc
    split at e
    · cases e
    · injection e with e _
      subst e
      exact (List.getElem?_eq_some_iff.1 hc).1
theorem esc3 (i : Nat) : E3 l (escP l i) := by
  unfold escP
  refine (tk3 esq i).bind fun c k => ?_
  repeat' split
  · exact E3.ok
  · exact E3.ok
  · exact (tk3 hxd k).bind fun a k2 => (tk3 hxd k2).bind fun d k3 => E3.ok
  · exact E3.ok
theorem chr3 (i : Nat) : E3 l (chrP l i) := by
  unfold chrP
  refine (tk3 pln i).bind fun c k => ?_
  split
  · exact esc3 k
  · exact E3.ok
theorem lit3 (a : Nat) : ∀ (f i : Nat) (o : List UInt8), E3 l (litL l a f i o)
  | 0, _, _ => E3.no (by decide)
  | f + 1, i, o => by
    cases hc : l[i]? with
    | none => rw [litL_none (List.getElem?_eq_none_iff.1 hc)]; exact E3.no (by decide)
    | some c =>
      by_cases hq : c = 34
      · subst hq
        rw [litL_quote hc]
        split
        · exact E3.ok
        · exact E3.no (by decide)
      · rw [litL_char hc hq]
        exact (chr3 i).bind fun x k => lit3 a f k _
theorem litP3 (i : Nat) : E3 l (litP l i) := (lit3 _ _ _ _).bind fun _ _ => E3.ok
theorem wrd3 : ∀ (w : List UInt8) (i : Nat), E3 l (wrdP l w i)
  | [], _ => E3.ok
  | _ :: r, i => (tk3 _ i).bind fun _ k => wrd3 r k
theorem int3 (c : UInt8) (i : Nat) : E3 l (intP l c i) := by
  have hn : ∀ a j, E3 l (numE l a j) := fun a j k e => absurd e numE_er
  unfold intP
  split
  · exact (tk3 dig1 i).bind fun _ k => hn _ _
  · split
    · rename_i h
      intro j e
      injection e with e _
      subst e
      cases hc : l[i]? with
      | none => rw [hc] at h; exact absurd h.2 (by decide)
      | some c => exact (List.getElem?_eq_some_iff.1 hc).1
    · exact hn _ _
theorem more3 {σ : Type} {el : σ → Nat → PR σ} (hel : ∀ s i, E3 l (el s i)) (e : UInt8) : ∀ (f i : Nat) (s : σ), E3 l (moreP el e l f i s)
  | 0, _, _ => E3.no (by decide)
  | f + 1, i, s => by
    rw [moreP]
    refine (hel s _).bind fun s2 j => (tk3 _ _).bind fun c j2 => ?_
    split
    · exact more3 hel e f j2 s2
    · exact E3.ok
theorem elems3 {σ : Type} {el : σ → Nat → PR σ} (hel : ∀ s i, E3 l (el s i)) (e : UInt8) (i : Nat) (s : σ) : E3 l (elemsP el e l i s) := by
  unfold elemsP
  split
  · exact E3.no (by decide)
  · split
    · exact E3.ok
    · exact more3 hel e _ _ _
theorem elM3 {val : Nat → Nat → PR (VT × Nat)} (hv : ∀ i m, E3 l (val i m)) (s : List ByteArray × List VT × Nat) (i : Nat) : E3 l (elM l val s i) := by
  unfold elM
  refine (tk3 _ i).bind fun _ j => (litP3 j).bind fun key j2 => ?_
  split
  · exact E3.no (by decide)
  · exact (tk3 _ _).bind fun _ j3 => (hv j3 s.2.2).bind fun _ _ => E3.ok
theorem bod3 {val : Nat → Nat → PR (VT × Nat)} (hv : ∀ i m, E3 l (val i m)) (c : UInt8) (i m : Nat) : E3 l (bodP val l c i m) := by
  have hL : ∀ (s : List VT × Nat) i, E3 l (elL val s i) := fun s i => (hv i s.2).bind fun _ _ => E3.ok
  unfold bodP
  split
  · exact (wrd3 _ i).bind fun _ _ => E3.ok
  · split
    · exact (wrd3 _ i).bind fun _ _ => E3.ok
    · split
      · exact (wrd3 _ i).bind fun _ _ => E3.ok
      · split
        · exact (litP3 i).bind fun _ _ => E3.ok
        · split
          · exact (elems3 hL 93 i _).bind fun _ _ => E3.ok
          · split
            · exact (elems3 (elM3 hv) 125 i _).bind fun _ _ => E3.ok
            · exact (int3 c i).bind fun _ _ => E3.ok
theorem val3 : ∀ (k i m : Nat), E3 l (valP l k i m)
  | 0, i, m => by
    rw [valP]
    exact (tk3 sta _).bind fun _ _ => E3.no (by decide)
  | k + 1, i, m => by
    rw [valP]
    refine (tk3 sta _).bind fun c j => ?_
    split
    · exact E3.no (by decide)
    · exact bod3 (val3 k) c j (m + 1)
end
end Go.Proofs.YtjblchdfkcbodaaDoor
namespace Go.Proofs.YtjblchdfkcbodaaDoor

/-- what begins within the text ends within it -/
def Bd {α : Type} (l : List UInt8) (i : Nat) (r : PR α) : Prop := i ≤ l.length → ∀ a k, r = .ok a k → k ≤ l.length
section
variable {l : List UInt8}
theorem Bd.bind {α β : Type} {i : Nat} {r : PR α} {f : α → Nat → PR β} (h : Bd l i r) (hf : ∀ a k, Bd l k (f a k)) : Bd l i (r.bind f) := by
  intro hi b k e
  cases hr : r with
  | ok a m => rw [hr, PR.bind_ok] at e; exact hf a m (h hi a m hr) b k e
  | err m c => rw [hr, PR.bind_err] at e; cases e
theorem Bd.ok {α : Type} {i : Nat} {a : α} : Bd l i (.ok a i) := fun hi _ _ e => by injection e with _ e; omega
theorem Bd.no {α : Type} {i k : Nat} {c : Int} : Bd l i (.err k c : PR α) := fun _ _ _ e => by cases e
theorem tkB (p : UInt8 → Bool) (i : Nat) : Bd l i (tkP p l i) := by
  intro _ a k e
  unfold tkP at e
  split at e
  · cases e
  · rename_i c hc
    split at e
    · injection e with _ e
      have := (List.getElem?_eq_some_iff.1 hc).1
      omega
    · cases e
theorem skipB {α : Type} {G : Nat → PR α} (hG : ∀ k, Bd l k (G k)) (i : Nat) : Bd l i (G (skip l i)) :=
  fun hi => hG _ (run_le blk l i hi)
theorem escB' (i : Nat) : Bd l i (escP l i) := by
  unfold escP
  refine (tkB esq i).bind fun c k => ?_
  repeat' split
  · exact Bd.ok
  · exact Bd.ok
  · exact (tkB hxd k).bind fun a k2 => (tkB hxd k2).bind fun d k3 => Bd.ok
  · exact Bd.ok
theorem chrB (i : Nat) : Bd l i (chrP l i) := by
  unfold chrP
  refine (tkB pln i).bind fun c k => ?_
  split
  · exact escB' k
  · exact Bd.ok
theorem litB (a : Nat) : ∀ (f i : Nat) (o : List UInt8), Bd l i (litL l a f i o)
  | 0, _, _ => Bd.no
  | f + 1, i, o => by
    cases hc : l[i]? with
    | none => rw [litL_none (List.getElem?_eq_none_iff.1 hc)]; exact Bd.no
    | some c =>
      have hl := (List.getElem?_eq_some_iff.1 hc).1
      by_cases hq : c = 34
      · subst hq
        rw [litL_quote hc]
        split
        · exact fun _ _ _ e => by injection e with _ e; omega
        · exact Bd.no
      · rw [litL_char hc hq]
        exact (chrB i).bind fun x k => litB a f k _
theorem litPB (i : Nat) : Bd l i (litP l i) := (litB _ _ _ _).bind fun _ _ => Bd.ok
theorem wrdB : ∀ (w : List UInt8) (i : Nat), Bd l i (wrdP l w i)
  | [], _ => Bd.ok
  | _ :: r, i => (tkB _ i).bind fun _ k => wrdB r k
theorem intB (c : UInt8) (i : Nat) : Bd l i (intP l c i) := by
  have hn : ∀ a j, Bd l j (numE l a (run dig l j)) := fun a j hj v k e => by
    rw [numE_ok_at e]
    exact run_le dig l j hj
  unfold intP
  split
  · exact (tkB dig1 i).bind fun _ k => hn _ _
  · split
    · exact Bd.no
    · exact hn _ _
theorem moreB {σ : Type} {el : σ → Nat → PR σ} (hel : ∀ s i, Bd l i (el s i)) (e : UInt8) : ∀ (f i : Nat) (s : σ), Bd l i (moreP el e l f i s)
  | 0, _, _ => Bd.no
  | f + 1, i, s => by
    rw [moreP]
    have hE : ∀ k, Bd l k (el s k) := hel s
    refine (skipB hE i).bind fun s2 j => ?_
    have hT : ∀ k, Bd l k (tkP (fun x => x == 44 || x == e) l k) := tkB _
    refine (skipB hT j).bind fun c j2 => ?_
    split
    · exact moreB hel e f j2 s2
    · exact Bd.ok
theorem elemsB {σ : Type} {el : σ → Nat → PR σ} (hel : ∀ s i, Bd l i (el s i)) (e : UInt8) (i : Nat) (s : σ) : Bd l i (elemsP el e l i s) := by
  have H : ∀ k, Bd l k (match l[k]? with | none => .err k 4 | some c => if c = e then .ok s (k + 1) else moreP el e l (l.length + 1) k s) := fun k => by
    cases hc : l[k]? with
    | none => exact Bd.no
    | some c =>
      have hl := (List.getElem?_eq_some_iff.1 hc).1
      show Bd l k (if c = e then _ else _)
      split
      · exact fun _ _ _ e => by injection e with _ e; omega
      · exact moreB hel e _ _ _
  exact skipB H i
theorem elMB {val : Nat → Nat → PR (VT × Nat)} (hv : ∀ i m, Bd l i (val i m)) (s : List ByteArray × List VT × Nat) (i : Nat) : Bd l i (elM l val s i) := by
  unfold elM
  refine (tkB _ i).bind fun _ j => (litPB j).bind fun key j2 => ?_
  split
  · exact Bd.no
  · have hT : ∀ k, Bd l k (tkP (fun x => x == 58) l k) := tkB _
    exact (skipB hT j2).bind fun _ j3 => (hv j3 s.2.2).bind fun _ _ => Bd.ok
theorem bodB {val : Nat → Nat → PR (VT × Nat)} (hv : ∀ i m, Bd l i (val i m)) (c : UInt8) (i m : Nat) : Bd l i (bodP val l c i m) := by
  have hL : ∀ (s : List VT × Nat) i, Bd l i (elL val s i) := fun s i => (hv i s.2).bind fun _ _ => Bd.ok
  unfold bodP
  split
  · exact (wrdB _ i).bind fun _ _ => Bd.ok
  · split
    · exact (wrdB _ i).bind fun _ _ => Bd.ok
    · split
      · exact (wrdB _ i).bind fun _ _ => Bd.ok
      · split
        · exact (litPB i).bind fun _ _ => Bd.ok
        · split
          · exact (elemsB hL 93 i _).bind fun _ _ => Bd.ok
          · split
            · exact (elemsB (elMB hv) 125 i _).bind fun _ _ => Bd.ok
            · exact (intB c i).bind fun _ _ => Bd.ok
theorem valB : ∀ (k i m : Nat), Bd l i (valP l k i m)
  | 0, i, m => by
    rw [valP]
    have H : ∀ q, Bd l q ((tkP sta l q).bind fun _ _ => (.err (skip l i) 7 : PR (VT × Nat))) := fun q => (tkB sta q).bind fun _ _ => Bd.no
    exact skipB H i
  | k + 1, i, m => by
    rw [valP]
    have H : ∀ q, Bd l q ((tkP sta l q).bind fun c j => if 1000 ≤ m then .err (skip l i) 6 else bodP (valP l k) l c j (m + 1)) := fun q => (tkB sta q).bind fun c j => by
      split
      · exact Bd.no
      · exact bodB (valB k) c j (m + 1)
    exact skipB H i
theorem par_lt {j : Nat} (e : parP l = .err j 3) : j < l.length := by
  unfold parP at e
  cases hv : valP l 16 0 0 with
  | err k c =>
    rw [hv, PR.bind_err] at e
    injection e with e1 e2
    subst e1 e2
    exact val3 16 0 0 k hv
  | ok x q =>
    have hq := valB 16 0 0 (Nat.zero_le _) x q hv
    have hs := run_le blk l q hq
    rw [hv, PR.bind_ok] at e
    split at e
    · cases e
    · rename_i hne
      injection e with e1 _
      have : skip l q ≤ l.length := hs
      omega
end
end Go.Proofs.YtjblchdfkcbodaaDoor
namespace Go.Proofs.YtjblchdfkcbodaaDoor

/-- what stands at the end of a text of n bytes -/
def End {α : Type} (n : Nat) (r : PR α) : Prop := r = .err n 4 ∨ ∃ a, r = .ok a n
/-- what a text gives up to n, and what its first n bytes alone give -/
structure Ct {α : Type} (n i : Nat) (r r' : PR α) : Prop where
  ok : ∀ a k, r = .ok a k → i ≤ k ∧ (k ≤ n → r' = .ok a k)
  er : ∀ j, r = .err j 3 → i ≤ j ∧ (j = n → End n r')
theorem Ct.okk {α : Type} {n i k : Nat} {a : α} (h : i ≤ k) : Ct n i (.ok a k) (.ok a k) := ⟨fun _ _ e => (by injection e with e1 e; subst e1 e; exact ⟨h, fun _ => rfl⟩), fun _ e => (by cases e)⟩
theorem Ct.no {α : Type} {n i k : Nat} {c : Int} {r' : PR α} (h : c ≠ 3) : Ct n i (.err k c : PR α) r' := ⟨fun _ _ e => (by cases e), fun _ e => (by injection e with _ e; exact absurd e h)⟩
theorem Ct.far {α : Type} {n i : Nat} {r r1 r' : PR α} (hn : n < i) (h : Ct n i r r1) : Ct n i r r' :=
  ⟨fun a k e => ⟨(h.ok a k e).1, fun hk => absurd (h.ok a k e).1 (by omega)⟩, fun j e => ⟨(h.er j e).1, fun hj => absurd (h.er j e).1 (by omega)⟩⟩
theorem Ct.le {α : Type} {n i k : Nat} {r r' : PR α} (h : Ct n k r r') (hi : i ≤ k) : Ct n i r r' :=
  ⟨fun a m e => ⟨Nat.le_trans hi (h.ok a m e).1, (h.ok a m e).2⟩, fun j e => ⟨Nat.le_trans hi (h.er j e).1, (h.er j e).2⟩⟩
theorem Ct.bind {α β : Type} {n i : Nat} {r r' : PR α} {f f' : α → Nat → PR β} (h : Ct n i r r') (hf : ∀ a k, r = .ok a k → i ≤ k → Ct n k (f a k) (f' a k)) (he : ∀ a, r = .err n 3 → r' = .ok a n → End n (f' a n)) : Ct n i (r.bind f) (r'.bind f') := by
  cases hr : r with
  | ok a k =>
    have h1 := h.ok a k hr
    have h2 := hf a k hr h1.1
    rw [PR.bind_ok]
    refine ⟨fun b m e => ⟨Nat.le_trans h1.1 (h2.ok b m e).1, fun hm => ?_⟩, fun j e => ⟨Nat.le_trans h1.1 (h2.er j e).1, fun hj => ?_⟩⟩
    · rw [h1.2 (Nat.le_trans (h2.ok b m e).1 hm), PR.bind_ok]; exact (h2.ok b m e).2 hm
    · rw [h1.2 (hj ▸ (h2.er j e).1), PR.bind_ok]; exact (h2.er j e).2 hj
  | err k c =>
    rw [PR.bind_err]
    refine ⟨fun b m e => (by cases e), fun j e => ?_⟩
    injection e with e1 e2
    subst e1 e2
    have h1 := h.er k hr
    refine ⟨h1.1, fun hj => ?_⟩
    rcases h1.2 hj with h2 | ⟨a, h2⟩
    · rw [h2, PR.bind_err]; exact .inl rfl
    · rw [h2, PR.bind_ok]; exact he a (by rw [hr, hj]) h2
theorem Ct.edge {α : Type} {n i : Nat} {r r' : PR α} (hn : n ≤ i) (h1 : ∀ a k, r = .ok a k → i < k) (h2 : ∀ j, r = .err j 3 → i ≤ j) (h3 : i = n → End n r') : Ct n i r r' :=
  ⟨fun a k e => ⟨Nat.le_of_lt (h1 a k e), fun hk => absurd (h1 a k e) (by omega)⟩, fun j e => ⟨h2 j e, fun hj => h3 (by have := h2 j e; omega)⟩⟩
theorem End.bind {α β : Type} {n : Nat} {r : PR α} {f : α → Nat → PR β} (h : r = .err n 4) : End n (r.bind f) := by rw [h, PR.bind_err]; exact .inl rfl
theorem End.ok {α : Type} {n : Nat} {a : α} : End n (.ok a n) := .inr ⟨a, rfl⟩
section
variable {n : Nat} {l l' : List UInt8}
/-- l' is the first n bytes of l -/
structure Cut (n : Nat) (l l' : List UInt8) : Prop where
  agr : Agr n l l'
  len : l'.length = n
theorem Cut.gone (h : Cut n l l') {i : Nat} (hi : n ≤ i) : l'[i]? = none := List.getElem?_eq_none (by rw [h.len]; exact hi)
theorem Cut.tkN (h : Cut n l l') (p : UInt8 → Bool) : tkP p l' n = .err n 4 := tkP_none (by rw [h.len]; exact Nat.le_refl _)
theorem Cut.skipN (h : Cut n l l') : skip l' n = n := run_end (by rw [h.len]; exact Nat.le_refl _)
theorem Cut.tkC (h : Cut n l l') (p : UInt8 → Bool) (i : Nat) : Ct n i (tkP p l i) (tkP p l' i) := by
  have K := h.agr.tkK p i
  refine ⟨fun a k e => ⟨(K.ok a k e).1, fun hk => ?_⟩, fun j e => ⟨(K.er j e).1, fun hj => ?_⟩⟩
  · have := tkP_mono p l i a k e
    rw [← h.agr.tk (i := i) (by omega) p, e]
  · subst hj
    have hij := (K.er j e).1
    have : j = i := by
      unfold tkP at e
      split at e
      · injection e with e _; exact e.symm
      · split at e
        · cases e
        · injection e with e _; exact e.symm
    subst this
    exact .inl (h.tkN p)
theorem Cut.runC (h : Cut n l l') (p : UInt8 → Bool) {i : Nat} (hr : run p l i ≤ n) : run p l' i = run p l i := by
  have hg := run_ge p l i
  rcases Nat.lt_or_ge (run p l i) n with hs | hs
  · have := h.agr.runEq p (run p l i - i) i (by omega) (by omega)
    omega
  · -- the run reaches the cut
    have he : run p l i = n := by omega
    have key : ∀ d i, i + d = n → run p l i = n → run p l' i = n := by
      intro d
      induction d with
      | zero => intro i hi _; obtain rfl : i = n := by omega
                exact run_end (by rw [h.len]; exact Nat.le_refl _)
      | succ d ih =>
        intro i hi hr
        obtain ⟨e, hl⟩ := h.agr i (by omega)
        obtain ⟨c, hc⟩ : ∃ c, l[i]? = some c := ⟨_, List.getElem?_eq_getElem hl⟩
        cases hp : p c with
        | true => rw [run_on (e ▸ hc) hp]; exact ih (i + 1) (by omega) (by rw [← run_on hc hp]; exact hr)
        | false => rw [run_off hc hp] at hr; omega
    rw [he]
    exact key (n - i) i (by omega) he
theorem Cut.skipC {α : Type} (h : Cut n l l') {G G' : Nat → PR α} (hG : ∀ k, Ct n k (G k) (G' k)) (i : Nat) : Ct n i (G (skip l i)) (G' (skip l' i)) := by
  have hg := skip_ge l i
  rcases Nat.lt_or_ge n (skip l i) with hs | hs
  · exact (Ct.far hs (hG (skip l i))).le hg
  · have hr : skip l' i = skip l i := h.runC blk hs
    rw [hr]
    exact (hG _).le hg
theorem Cut.sym (h : Cut n l l') : Agr n l' l := fun i hi => ⟨(h.agr i hi).1.symm, by rw [h.len]; exact hi⟩
theorem Cut.tkX (h : Cut n l l') {p : UInt8 → Bool} {i : Nat} {c : UInt8} (e : tkP p l' i = .ok c n) : tkP p l i = .ok c n := by
  have := tkP_mono p l' i c n e
  rw [← e]
  exact h.agr.tk (by omega) p
theorem Cut.tkNo (h : Cut n l l') {p : UInt8 → Bool} {i : Nat} {c : UInt8} {P : Prop} (e : tkP p l i = .err n 3) (e' : tkP p l' i = .ok c n) : P := by
  rw [h.tkX e'] at e; cases e
theorem Cut.skipX (h : Cut n l l') {p : UInt8 → Bool} {j : Nat} {c : UInt8} {P : Prop} (e : tkP p l (skip l j) = .err n 3) (e' : tkP p l' (skip l' j) = .ok c n) : P := by
  have h1 := tkP_mono p l' _ c n e'
  have h2 := skip_ge l' j
  have hr : skip l j = skip l' j := by
    have := h.sym.runEq blk (skip l' j - j) j (by show skip l' j = _; omega) (by omega)
    show run blk l j = _
    omega
  rw [hr] at e
  exact h.tkNo e e'

/-- what is read of the shorter text is read of the longer -/
def Px {α : Type} (r' r : PR α) : Prop := ∀ a k, r' = .ok a k → r = .ok a k
theorem Px.bind {α β : Type} {r r' : PR α} {f f' : α → Nat → PR β} (h : Px r' r) (hf : ∀ a k, r' = .ok a k → Px (f' a k) (f a k)) : Px (r'.bind f') (r.bind f) := by
  intro b m e
  cases hr : r' with
  | ok a k => rw [hr, PR.bind_ok] at e; rw [h a k hr, PR.bind_ok]; exact hf a k hr b m e
  | err k c => rw [hr, PR.bind_err] at e; cases e
theorem Px.rfl {α : Type} {r : PR α} : Px r r := fun _ _ e => e
theorem Cut.byte (h : Cut n l l') {i : Nat} {c : UInt8} (e : l'[i]? = some c) : l[i]? = some c := by
  have hi := (List.getElem?_eq_some_iff.1 e).1
  rw [h.len] at hi
  rw [(h.agr i hi).1]; exact e
theorem Cut.tkPx (h : Cut n l l') (p : UInt8 → Bool) (i : Nat) : Px (tkP p l' i) (tkP p l i) := by
  intro a k e
  unfold tkP at e ⊢
  split at e
  · cases e
  · rename_i c hc
    rw [h.byte hc]
    exact e
theorem Cut.escPx (h : Cut n l l') (i : Nat) : Px (escP l' i) (escP l i) := by
  unfold escP
  refine (h.tkPx esq i).bind fun c k _ => ?_
  repeat' split
  · exact Px.rfl
  · exact Px.rfl
  · exact (h.tkPx hxd k).bind fun a k2 _ => (h.tkPx hxd k2).bind fun d k3 _ => Px.rfl
  · exact Px.rfl
theorem Cut.chrPx (h : Cut n l l') (i : Nat) : Px (chrP l' i) (chrP l i) := by
  unfold chrP
  refine (h.tkPx pln i).bind fun c k _ => ?_
  split
  · exact h.escPx k
  · exact Px.rfl
theorem Cut.litLx (h : Cut n l l') (a : Nat) : ∀ (f' f i : Nat) (o : List UInt8), l.length + 1 ≤ f + i → Px (litL l' a f' i o) (litL l a f i o)
  | 0, _, _, _, _ => fun _ _ e => by cases e
  | f' + 1, f, i, o, hf => by
    cases hc' : l'[i]? with
    | none => rw [litL_none (List.getElem?_eq_none_iff.1 hc')]; intro _ _ e; cases e
    | some c =>
      have hc := h.byte hc'
      have hl := (List.getElem?_eq_some_iff.1 hc).1
      obtain ⟨g, rfl⟩ : ∃ g, f = g + 1 := ⟨f - 1, by omega⟩
      by_cases hq : c = 34
      · subst hq
        rw [litL_quote hc, litL_quote hc']
        exact Px.rfl
      · rw [litL_char hc hq, litL_char hc' hq]
        exact (h.chrPx i).bind fun x k hx => h.litLx a f' g k _ (by have := (chrP_to hx).1; omega)
theorem Cut.litPx (h : Cut n l l') (i : Nat) : Px (litP l' i) (litP l i) := (h.litLx _ _ _ i [] (by omega)).bind fun _ _ _ => Px.rfl

theorem Cut.escC (h : Cut n l l') (i : Nat) : Ct n i (escP l i) (escP l' i) := by
  unfold escP
  refine (h.tkC esq i).bind (fun c k _ hk => ?_) (fun _ e e' => h.tkNo e e')
  repeat' split
  · exact Ct.okk (Nat.le_refl _)
  · exact Ct.okk (Nat.le_refl _)
  · exact (h.tkC hxd k).bind (fun a k2 _ hk2 => (h.tkC hxd k2).bind (fun d k3 _ hk3 => Ct.okk (Nat.le_refl _)) (fun _ e e' => h.tkNo e e')) (fun _ e e' => h.tkNo e e')
  · exact Ct.okk (Nat.le_refl _)
theorem Cut.chrC (h : Cut n l l') (i : Nat) : Ct n i (chrP l i) (chrP l' i) := by
  unfold chrP
  refine (h.tkC pln i).bind (fun c k _ hk => ?_) (fun _ e e' => h.tkNo e e')
  split
  · exact h.escC k
  · exact Ct.okk (Nat.le_refl _)
theorem litL_lt {l : List UInt8} {a : Nat} : ∀ {f i : Nat} {o x : List UInt8} {k : Nat}, litL l a f i o = .ok x k → i < k
  | 0, _, _, _, _, e => by cases e
  | f + 1, i, o, x, k, e => by
    cases hc : l[i]? with
    | none => rw [litL_none (List.getElem?_eq_none_iff.1 hc)] at e; cases e
    | some c =>
      by_cases hq : c = 34
      · subst hq
        rw [litL_quote hc] at e
        split at e
        · injection e with _ e; omega
        · cases e
      · rw [litL_char hc hq] at e
        cases hx : chrP l i with
        | err j c => rw [hx, PR.bind_err] at e; cases e
        | ok y j =>
          rw [hx, PR.bind_ok] at e
          have h1 := (chrP_to hx).1
          have h2 := litL_mono l a f j _ x k e
          omega
theorem Cut.litLC (h : Cut n l l') (a : Nat) : ∀ (f f' i : Nat) (o : List UInt8), l'.length + 1 ≤ f' + i → Ct n i (litL l a f i o) (litL l' a f' i o)
  | 0, _, _, _, _ => Ct.no (by decide)
  | f + 1, f', i, o, hf => by
    rcases Nat.lt_or_ge i n with hi | hi
    · obtain ⟨e, hl⟩ := h.agr i hi
      have hl' := h.agr.lt hi
      obtain ⟨g, rfl⟩ : ∃ g, f' = g + 1 := ⟨f' - 1, by omega⟩
      obtain ⟨c, hc⟩ : ∃ c, l[i]? = some c := ⟨_, List.getElem?_eq_getElem hl⟩
      have hc' : l'[i]? = some c := e ▸ hc
      by_cases hq : c = 34
      · subst hq
        rw [litL_quote hc, litL_quote hc']
        split
        · exact Ct.okk (by omega)
        · exact Ct.no (by decide)
      · rw [litL_char hc hq, litL_char hc' hq]
        exact (h.chrC i).bind (fun x k hx hk => h.litLC a f g k _ (by have := (chrP_to hx).1; omega)) (fun x _ _ => .inl (litL_none (by rw [h.len]; exact Nat.le_refl _)))
    · exact Ct.edge hi (fun _ _ e => litL_lt e) (fun j e => ((h.agr.litLK a (f + 1) (l'.length + 1) i o (by omega)).er j e).1) (fun e => .inl (by subst e; exact litL_none (by rw [h.len]; exact Nat.le_refl _)))
theorem Cut.litC (h : Cut n l l') (i : Nat) : Ct n i (litP l i) (litP l' i) :=
  (h.litLC (i - 1) _ _ i [] (by omega)).bind (fun _ _ _ _ => Ct.okk (Nat.le_refl _)) (fun _ _ _ => End.ok)
theorem Cut.wrdC (h : Cut n l l') : ∀ (w : List UInt8) (i : Nat), Ct n i (wrdP l w i) (wrdP l' w i)
  | [], _ => Ct.okk (Nat.le_refl _)
  | _ :: r, i => (h.tkC _ i).bind (fun _ k _ _ => h.wrdC r k) (fun _ e e' => h.tkNo e e')
theorem Cut.numC (h : Cut n l l') (a j : Nat) : Ct n j (numE l a (run dig l j)) (numE l' a (run dig l' j)) := by
  refine ⟨fun v k e => ?_, fun k e => absurd e numE_er⟩
  have hk := numE_ok_at e
  have hg := run_ge dig l j
  refine ⟨by omega, fun hn => ?_⟩
  rw [h.runC dig (by omega), ← e]
  unfold numE
  rw [h.agr.slice (a := a) (k := run dig l j) (by omega)]
theorem num_zero {l : List UInt8} {n : Nat} (hn : 1 ≤ n) (hl : l.length = n) (hc : l[n - 1]? = some 48) : numE l (n - 1) (run dig l n) = .ok 0 n := by
  rw [run_end (by omega)]
  have : (l.drop (n - 1)).take (n - (n - 1)) = [48] := by
    obtain ⟨hi, hv⟩ := List.getElem?_eq_some_iff.1 hc
    rw [List.drop_eq_getElem_cons hi, hv, show n - (n - 1) = 0 + 1 by omega, List.take_succ_cons, List.take_zero]
  unfold numE
  rw [this]
  rfl
theorem Cut.intC (h : Cut n l l') (c : UInt8) (i : Nat) (hi1 : 1 ≤ i) (hc : l[i - 1]? = some c) : Ct n i (intP l c i) (intP l' c i) := by
  unfold intP
  split
  · exact (h.tkC dig1 i).bind (fun _ k _ _ => h.numC (i - 1) k) (fun _ e e' => h.tkNo e e')
  · rcases Nat.lt_or_ge i n with hi | hi
    · rw [← (h.agr i hi).1]
      split
      · exact ⟨fun _ _ e => (by cases e), fun j e => (by injection e with e _; exact ⟨by omega, fun _ => by omega⟩)⟩
      · exact h.numC (i - 1) i
    · rw [h.gone hi]
      have hno : ¬ (c = 48 ∧ Option.elim (none : Option UInt8) false dig = true) := fun e => absurd e.2 (by decide)
      rw [if_neg hno]
      split
      · rename_i h48
        refine ⟨fun _ _ e => (by cases e), fun j e => ?_⟩
        injection e with e _
        refine ⟨by omega, fun hj => ?_⟩
        obtain rfl : i = n := by omega
        rw [num_zero hi1 h.len (by rw [← (h.agr (i - 1) (by omega)).1, hc, h48.1])]
        exact End.ok
      · exact h.numC (i - 1) i
theorem Cut.moreC {σ : Type} {el el' : σ → Nat → PR σ} (h : Cut n l l') (hel : ∀ s i, Ct n i (el s i) (el' s i)) (e : UInt8) : ∀ (f f' i : Nat) (s : σ), l'.length + 1 ≤ f' + i → Ct n i (moreP el e l f i s) (moreP el' e l' f' i s)
  | 0, _, _, _, _ => Ct.no (by decide)
  | f + 1, f', i, s, hf => by
    have main : ∀ g, l'.length ≤ g + i → Ct n i (moreP el e l (f + 1) i s) (moreP el' e l' (g + 1) i s) := fun g hg => by
      rw [moreP, moreP]
      have hE : ∀ k, Ct n k (el s k) (el' s k) := hel s
      refine (h.skipC hE i).bind (fun s2 j hj hij => ?_) (fun s2 _ _ => by rw [h.skipN]; exact End.bind (h.tkN _))
      have hT : ∀ k, Ct n k (tkP (fun x => x == 44 || x == e) l k) (tkP (fun x => x == 44 || x == e) l' k) := h.tkC _
      refine (h.skipC hT j).bind (fun c j2 hj2 hjk => ?_) (fun _ e1 e2 => h.skipX e1 e2)
      have h3 := tkP_mono _ _ _ _ _ hj2
      have h4 := skip_ge l j
      split
      · exact h.moreC hel e f g j2 s2 (by omega)
      · exact Ct.okk (Nat.le_refl _)
    cases f' with
    | succ g => exact main g (by omega)
    | zero => exact Ct.far (by have := h.len; omega) (main l'.length (by omega))
theorem moreP_lt {σ : Type} {el : σ → Nat → PR σ} (hm : ∀ s i, (el s i).Mono i) {e : UInt8} {l : List UInt8} {f i k : Nat} {s t : σ} (h : moreP el e l f i s = .ok t k) : i < k := by
  cases f with
  | zero => cases h
  | succ f =>
    rw [moreP] at h
    have h0 := skip_ge l i
    cases h1 : el s (skip l i) with
    | err _ _ => rw [h1, PR.bind_err] at h; cases h
    | ok s2 j =>
      rw [h1, PR.bind_ok] at h
      have h2 := hm _ _ _ _ h1
      have h3 := skip_ge l j
      cases h4 : tkP (fun x => x == 44 || x == e) l (skip l j) with
      | err _ _ => rw [h4, PR.bind_err] at h; cases h
      | ok c j2 =>
        rw [h4, PR.bind_ok] at h
        have h5 := tkP_mono _ _ _ _ _ h4
        split at h
        · have := moreP_mono hm e l f j2 s2 t k h
          omega
        · injection h with _ h
          omega
theorem Cut.elemsC {σ : Type} {el el' : σ → Nat → PR σ} (h : Cut n l l') (hel : ∀ s i, Ct n i (el s i) (el' s i)) (hm : ∀ s i, (el s i).Mono i) (e : UInt8) (i : Nat) (s : σ) : Ct n i (elemsP el e l i s) (elemsP el' e l' i s) := by
  have H : ∀ k, Ct n k (match l[k]? with | none => .err k 4 | some c => if c = e then .ok s (k + 1) else moreP el e l (l.length + 1) k s) (match l'[k]? with | none => .err k 4 | some c => if c = e then .ok s (k + 1) else moreP el' e l' (l'.length + 1) k s) := fun k => by
    have M := h.moreC hel e (l.length + 1) (l'.length + 1) k s (by omega)
    rcases Nat.lt_or_ge k n with hk | hk
    · rw [← (h.agr k hk).1]
      cases l[k]? with
      | none => exact Ct.no (by decide)
      | some c =>
        show Ct n k (if c = e then _ else _) (if c = e then _ else _)
        split
        · exact Ct.okk (by omega)
        · exact M
    · have hE : k = n → End n (match l'[k]? with | none => .err k 4 | some c => if c = e then .ok s (k + 1) else moreP el' e l' (l'.length + 1) k s) := fun e => by
        subst e
        rw [h.gone (Nat.le_refl _)]
        exact .inl rfl
      cases l[k]? with
      | none => exact Ct.no (by decide)
      | some c =>
        show Ct n k (if c = e then _ else _) _
        split
        · exact Ct.edge hk (fun _ _ e => by injection e with _ e; omega) (fun _ e => by cases e) hE
        · exact Ct.edge hk (fun _ _ e => moreP_lt hm e) (fun j e => (M.er j e).1) hE
  exact h.skipC H i
theorem Cut.elLC {val val' : Nat → Nat → PR (VT × Nat)} (hv : ∀ i m, Ct n i (val i m) (val' i m)) (s : List VT × Nat) (i : Nat) : Ct n i (elL val s i) (elL val' s i) :=
  (hv i s.2).bind (fun _ _ _ _ => Ct.okk (Nat.le_refl _)) (fun _ _ _ => End.ok)
theorem Cut.elMC (h : Cut n l l') {val val' : Nat → Nat → PR (VT × Nat)} (hv : ∀ i m, Ct n i (val i m) (val' i m)) (s : List ByteArray × List VT × Nat) (i : Nat) : Ct n i (elM l val s i) (elM l' val' s i) := by
  unfold elM
  refine (h.tkC _ i).bind (fun _ j _ _ => (h.litC j).bind (fun key j2 _ _ => ?_) (fun key e e' => by rw [h.litPx j key n e'] at e; cases e)) (fun _ e e' => h.tkNo e e')
  split
  · exact Ct.no (by decide)
  · have hT : ∀ k, Ct n k (tkP (fun x => x == 58) l k) (tkP (fun x => x == 58) l' k) := h.tkC _
    exact (h.skipC hT j2).bind (fun _ j3 _ _ => (hv j3 s.2.2).bind (fun _ _ _ _ => Ct.okk (Nat.le_refl _)) (fun _ _ _ => End.ok)) (fun _ e1 e2 => h.skipX e1 e2)
theorem Cut.bodC (h : Cut n l l') {val val' : Nat → Nat → PR (VT × Nat)} (hv : ∀ i m, Ct n i (val i m) (val' i m)) (hm : ∀ i m, (val i m).Mono i) (c : UInt8) (i m : Nat) (hi1 : 1 ≤ i) (hc : l[i - 1]? = some c) : Ct n i (bodP val l c i m) (bodP val' l' c i m) := by
  unfold bodP
  split
  · exact (h.wrdC _ i).bind (fun _ _ _ _ => Ct.okk (Nat.le_refl _)) (fun _ _ _ => End.ok)
  · split
    · exact (h.wrdC _ i).bind (fun _ _ _ _ => Ct.okk (Nat.le_refl _)) (fun _ _ _ => End.ok)
    · split
      · exact (h.wrdC _ i).bind (fun _ _ _ _ => Ct.okk (Nat.le_refl _)) (fun _ _ _ => End.ok)
      · split
        · exact (h.litC i).bind (fun _ _ _ _ => Ct.okk (Nat.le_refl _)) (fun _ _ _ => End.ok)
        · split
          · exact (h.elemsC (Cut.elLC hv) (elL_mono hm) 93 i _).bind (fun _ _ _ _ => Ct.okk (Nat.le_refl _)) (fun _ _ _ => End.ok)
          · split
            · exact (h.elemsC (h.elMC hv) (elM_mono hm) 125 i _).bind (fun _ _ _ _ => Ct.okk (Nat.le_refl _)) (fun _ _ _ => End.ok)
            · exact (h.intC c i hi1 hc).bind (fun _ _ _ _ => Ct.okk (Nat.le_refl _)) (fun _ _ _ => End.ok)
theorem tkP_at {p : UInt8 → Bool} {l : List UInt8} {i j : Nat} {c : UInt8} (e : tkP p l i = .ok c j) : j = i + 1 ∧ l[i]? = some c := by
  unfold tkP at e
  split at e
  · cases e
  · rename_i d hd
    split at e
    · injection e with e1 e2
      subst e1
      exact ⟨e2.symm, hd⟩
    · cases e
theorem Cut.valC (h : Cut n l l') : ∀ (k i m : Nat), Ct n i (valP l k i m) (valP l' k i m)
  | 0, i, m => by
    rw [valP, valP]
    have H : ∀ q, Ct n q ((tkP sta l q).bind fun _ _ => (.err q 7 : PR (VT × Nat))) ((tkP sta l' q).bind fun _ _ => .err q 7) := fun q => (h.tkC sta q).bind (fun _ _ _ _ => Ct.no (by decide)) (fun _ e e' => h.tkNo e e')
    exact h.skipC H i
  | k + 1, i, m => by
    rw [valP, valP]
    have H : ∀ q, Ct n q ((tkP sta l q).bind fun c j => if 1000 ≤ m then .err q 6 else bodP (valP l k) l c j (m + 1)) ((tkP sta l' q).bind fun c j => if 1000 ≤ m then .err q 6 else bodP (valP l' k) l' c j (m + 1)) := fun q => (h.tkC sta q).bind (fun c j hj _ => by
      obtain ⟨hq, hc⟩ := tkP_at hj
      split
      · exact Ct.no (by decide)
      · exact h.bodC (h.valC k) (valP_mono l k) c j (m + 1) (by omega) (by rw [hq, Nat.add_sub_cancel]; exact hc)) (fun _ e e' => h.tkNo e e')
    exact h.skipC H i
end
/-- what is read of the text up to its first fault of form -/
theorem par_cut {l : List UInt8} {n : Nat} (e : parP l = .err n 3) : (∃ x, parP (l.take n) = .ok x n) ∨ parP (l.take n) = .err n 4 := by
  have hn := par_lt e
  have hl : (l.take n).length = n := by rw [List.length_take]; omega
  have h : Cut n l (l.take n) := ⟨fun i hi => ⟨by rw [List.getElem?_take, if_pos hi], by omega⟩, hl⟩
  have K := h.valC 16 0 0
  unfold parP at e ⊢
  cases hv : valP l 16 0 0 with
  | err k c =>
    rw [hv, PR.bind_err] at e
    injection e with e1 e2
    subst e1 e2
    rcases (K.er k hv).2 rfl with h2 | ⟨a, h2⟩
    · right
      rw [h2, PR.bind_err]
    · left
      rw [h2, PR.bind_ok, h.skipN, if_pos hl.symm]
      exact ⟨_, rfl⟩
  | ok x q =>
    rw [hv, PR.bind_ok] at e
    split at e
    · cases e
    · injection e with e1 _
      have hq := skip_ge l q
      have hr : skip (l.take n) q = skip l q := h.runC blk (by show skip l q ≤ n; omega)
      left
      rw [(K.ok x q hv).2 (by omega), PR.bind_ok, hr, e1, if_pos hl.symm]
      exact ⟨_, rfl⟩
end Go.Proofs.YtjblchdfkcbodaaDoor
