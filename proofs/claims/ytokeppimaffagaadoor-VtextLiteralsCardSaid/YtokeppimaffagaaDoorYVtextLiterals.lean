/-
  VtextLiterals returns true for every input, and its arguments read afterwards as they read before: what it leans on.
-/
import Derived.Test.YtokeppimaffagaaDoorUf
import Derived.Test.YtokeppimaffagaaDoorUe
namespace Go.Proofs.YtokeppimaffagaaDoor
open Go.RowKit

theorem itoa_ne (i : Int) : 1 ≤ (Lib.itoa i).length := by
  unfold Lib.itoa
  split
  · simp
  · have := dec_ne i.toNat
    exact List.length_pos_iff.2 this

set_option maxRecDepth 100000 in
set_option maxHeartbeats 2000000 in
set_option linter.unusedVariables false in
theorem pay_0 (i : Int) (t : ByteArray) (its : List VT) (ks : List ByteArray) (A : Option Addr) (c : Nat) (A' : Option Addr) (c' : Nat) (w : World) (base n0 c0 : Nat) (A0 : Option Addr) (l : List UInt8)
    (hi : -9223372036854775808 ≤ i ∧ i ≤ 9223372036854775807)
    (ho : w.ownsRow base 5 1 (.slice A0 n0 c0) n0 (l.map b8)) (hB : base ≤ w.heap.size) (hn : n0 + 4 * (VT.mk 0 i t its ks).txt.length ≤ 100000000) (hT : PowTab base w) :
    Calls Tryd.prog 16 #[.slice A0 n0 c0, vag 0 i t A its.length c A' ks.length c'] w (AppB base (.slice A0 n0 c0) w (l ++ (VT.mk 0 i t its ks).txt)) := by
  obtain ⟨ti, hti, hz, htz, hby⟩ := info_parts Tryd.infob
  rw [VT.txt_mk] at hn
  have HE := Lib.hid (VT.txt_mk 0 i t its ks)
  rw [if_neg (by decide), if_neg (by decide), if_neg (by decide), if_neg (by decide), if_neg (by decide)] at hn HE
  obtain ⟨w1, hw1⟩ : ∃ w1, w1 = w.alloc (.cells #[.int .i64 0, .int .i64 i, .string t, .slice A its.length c, .slice A' ks.length c'] 26) := ⟨_, rfl⟩
  have G1 : Hid (Grw w (Value.slice A0 n0 c0).ownBlock (Value.slice A0 n0 c0).ownBlock w1) := Lib.hid (by rw [hw1]; exact Grw.new (Grw.refl _ _))
  have O1 : Hid (w1.ownsRow base 5 1 (.slice A0 n0 c0) n0 (l.map b8)) := Lib.hid (by rw [hw1]; exact ho.alloc _)
  have B1 : Hid (base ≤ w1.heap.size) := Lib.hid (Nat.le_trans hB G1.out.1.size)
  have T1 : Hid (PowTab base w1) := Lib.hid (hT.on (Frm.of_grw G1.out ho hB).below)
  have HW := Lib.hid hw1

  clear ho hB hw1 hT hi
  unfold vag
  go_enter Tryd.func16, Tryd.ntmps16
  go_wp2_with (at_builtin; rw [← HW.out]; refine wpList_append_str_at rfl _ _ 43 9 rfl base 5 ti Tryd.underlying43 Tryd.underlying9 hti hz htz hby _ _ _ rfl O1.out ⟨#[110, 117, 108, 108]⟩ rfl ?_ ?_ ?_ ?_)
  · first | omega | (show n0 + 4 ≤ maxLen; unfold maxLen; simp at hn; omega)
  · first | omega | (show n0 + 4 ≤ _; simp at hn; omega)
  · exact B1.out
  · intro v3 w3 ho hg
    have FIN : Hid (AppB base (.slice A0 n0 c0) w (l ++ (VT.mk 0 i t its ks).txt) (.returned v3) w3) := Lib.hid (AppB.mk' (n := n0 + 4) (by rw [HE.out, List.map_append]; exact ho) (G1.out.trans hg))
    clear ho hg
    go_wp2
    go_ret
    exact FIN.out

set_option maxRecDepth 100000 in
set_option maxHeartbeats 2000000 in
set_option linter.unusedVariables false in
theorem pay_6 (i : Int) (t : ByteArray) (its : List VT) (ks : List ByteArray) (A : Option Addr) (c : Nat) (A' : Option Addr) (c' : Nat) (w : World) (base n0 c0 : Nat) (A0 : Option Addr) (l : List UInt8)
    (hi : -9223372036854775808 ≤ i ∧ i ≤ 9223372036854775807)
    (ho : w.ownsRow base 5 1 (.slice A0 n0 c0) n0 (l.map b8)) (hB : base ≤ w.heap.size) (hn : n0 + 4 * (VT.mk 6 i t its ks).txt.length ≤ 100000000) (hT : PowTab base w) :
    Calls Tryd.prog 16 #[.slice A0 n0 c0, vag 6 i t A its.length c A' ks.length c'] w (AppB base (.slice A0 n0 c0) w (l ++ (VT.mk 6 i t its ks).txt)) := by
  obtain ⟨ti, hti, hz, htz, hby⟩ := info_parts Tryd.infob
  rw [VT.txt_mk] at hn
  have HE := Lib.hid (VT.txt_mk 6 i t its ks)
  rw [if_neg (by decide), if_neg (by decide), if_neg (by decide), if_neg (by decide), if_neg (by decide)] at hn HE
  obtain ⟨w1, hw1⟩ : ∃ w1, w1 = w.alloc (.cells #[.int .i64 6, .int .i64 i, .string t, .slice A its.length c, .slice A' ks.length c'] 26) := ⟨_, rfl⟩
  have G1 : Hid (Grw w (Value.slice A0 n0 c0).ownBlock (Value.slice A0 n0 c0).ownBlock w1) := Lib.hid (by rw [hw1]; exact Grw.new (Grw.refl _ _))
  have O1 : Hid (w1.ownsRow base 5 1 (.slice A0 n0 c0) n0 (l.map b8)) := Lib.hid (by rw [hw1]; exact ho.alloc _)
  have B1 : Hid (base ≤ w1.heap.size) := Lib.hid (Nat.le_trans hB G1.out.1.size)
  have T1 : Hid (PowTab base w1) := Lib.hid (hT.on (Frm.of_grw G1.out ho hB).below)
  have HW := Lib.hid hw1

  clear ho hB hw1 hT hi
  unfold vag
  go_enter Tryd.func16, Tryd.ntmps16
  go_wp2_with (at_builtin; rw [← HW.out]; refine wpList_append_str_at rfl _ _ 43 9 rfl base 5 ti Tryd.underlying43 Tryd.underlying9 hti hz htz hby _ _ _ rfl O1.out ⟨#[110, 117, 108, 108]⟩ rfl ?_ ?_ ?_ ?_)
  · first | omega | (show n0 + 4 ≤ maxLen; unfold maxLen; simp at hn; omega)
  · first | omega | (show n0 + 4 ≤ _; simp at hn; omega)
  · exact B1.out
  · intro v3 w3 ho hg
    have FIN : Hid (AppB base (.slice A0 n0 c0) w (l ++ (VT.mk 6 i t its ks).txt) (.returned v3) w3) := Lib.hid (AppB.mk' (n := n0 + 4) (by rw [HE.out, List.map_append]; exact ho) (G1.out.trans hg))
    clear ho hg
    go_wp2
    go_ret
    exact FIN.out

set_option maxRecDepth 100000 in
set_option maxHeartbeats 2000000 in
set_option linter.unusedVariables false in
theorem pay_2 (i : Int) (t : ByteArray) (its : List VT) (ks : List ByteArray) (A : Option Addr) (c : Nat) (A' : Option Addr) (c' : Nat) (w : World) (base n0 c0 : Nat) (A0 : Option Addr) (l : List UInt8)
    (hi : -9223372036854775808 ≤ i ∧ i ≤ 9223372036854775807)
    (ho : w.ownsRow base 5 1 (.slice A0 n0 c0) n0 (l.map b8)) (hB : base ≤ w.heap.size) (hn : n0 + 4 * (VT.mk 2 i t its ks).txt.length ≤ 100000000) (hT : PowTab base w) :
    Calls Tryd.prog 16 #[.slice A0 n0 c0, vag 2 i t A its.length c A' ks.length c'] w (AppB base (.slice A0 n0 c0) w (l ++ (VT.mk 2 i t its ks).txt)) := by
  obtain ⟨ti, hti, hz, htz, hby⟩ := info_parts Tryd.infob
  rw [VT.txt_mk] at hn
  have HE := Lib.hid (VT.txt_mk 2 i t its ks)
  rw [if_neg (by decide), if_pos rfl] at hn HE
  obtain ⟨w1, hw1⟩ : ∃ w1, w1 = w.alloc (.cells #[.int .i64 2, .int .i64 i, .string t, .slice A its.length c, .slice A' ks.length c'] 26) := ⟨_, rfl⟩
  have G1 : Hid (Grw w (Value.slice A0 n0 c0).ownBlock (Value.slice A0 n0 c0).ownBlock w1) := Lib.hid (by rw [hw1]; exact Grw.new (Grw.refl _ _))
  have O1 : Hid (w1.ownsRow base 5 1 (.slice A0 n0 c0) n0 (l.map b8)) := Lib.hid (by rw [hw1]; exact ho.alloc _)
  have B1 : Hid (base ≤ w1.heap.size) := Lib.hid (Nat.le_trans hB G1.out.1.size)
  have T1 : Hid (PowTab base w1) := Lib.hid (hT.on (Frm.of_grw G1.out ho hB).below)
  have HW := Lib.hid hw1
  have hne := itoa_ne i
  have HC := Lib.hid (int_app i base A0 n0 c0 l w1 O1.out B1.out (by omega) hi.1 hi.2 T1.out)
  clear ho hB hw1 hT hi
  unfold vag
  go_enter Tryd.func16, Tryd.ntmps16
  go_wp2_with fail
  rw [← HW.out]
  refine (HC.out).mono ?_
  rintro _ w5 ⟨A5, n5, c5, rfl, hl5, h5, h6, O5, G5⟩
  go_wp2
  go_ret
  exact ⟨A5, n5, c5, rfl, Lib.hid (by rw [HE.out]; exact hl5.out), h5, h6, Lib.hid (by rw [HE.out]; exact O5.out), Lib.hid (G1.out.trans G5.out)⟩

set_option maxRecDepth 100000 in
set_option maxHeartbeats 2000000 in
set_option linter.unusedVariables false in
theorem pay_3 (i : Int) (t : ByteArray) (its : List VT) (ks : List ByteArray) (A : Option Addr) (c : Nat) (A' : Option Addr) (c' : Nat) (w : World) (base n0 c0 : Nat) (A0 : Option Addr) (l : List UInt8)
    (hi : -9223372036854775808 ≤ i ∧ i ≤ 9223372036854775807)
    (ho : w.ownsRow base 5 1 (.slice A0 n0 c0) n0 (l.map b8)) (hB : base ≤ w.heap.size) (hn : n0 + 4 * (VT.mk 3 i t its ks).txt.length ≤ 100000000) (hT : PowTab base w) :
    Calls Tryd.prog 16 #[.slice A0 n0 c0, vag 3 i t A its.length c A' ks.length c'] w (AppB base (.slice A0 n0 c0) w (l ++ (VT.mk 3 i t its ks).txt)) := by
  obtain ⟨ti, hti, hz, htz, hby⟩ := info_parts Tryd.infob
  rw [VT.txt_mk] at hn
  have HE := Lib.hid (VT.txt_mk 3 i t its ks)
  rw [if_neg (by decide), if_neg (by decide), if_pos rfl] at hn HE
  obtain ⟨w1, hw1⟩ : ∃ w1, w1 = w.alloc (.cells #[.int .i64 3, .int .i64 i, .string t, .slice A its.length c, .slice A' ks.length c'] 26) := ⟨_, rfl⟩
  have G1 : Hid (Grw w (Value.slice A0 n0 c0).ownBlock (Value.slice A0 n0 c0).ownBlock w1) := Lib.hid (by rw [hw1]; exact Grw.new (Grw.refl _ _))
  have O1 : Hid (w1.ownsRow base 5 1 (.slice A0 n0 c0) n0 (l.map b8)) := Lib.hid (by rw [hw1]; exact ho.alloc _)
  have B1 : Hid (base ≤ w1.heap.size) := Lib.hid (Nat.le_trans hB G1.out.1.size)
  have T1 : Hid (PowTab base w1) := Lib.hid (hT.on (Frm.of_grw G1.out ho hB).below)
  have HW := Lib.hid hw1
  have hq := quoL_len t.data.toList
  have hqs : t.data.toList.length = t.size := rfl
  have HC := Lib.hid (literal_app base A0 n0 c0 l t w1 O1.out B1.out (by omega))
  clear hq hqs
  clear ho hB hw1 hT hi
  unfold vag
  go_enter Tryd.func16, Tryd.ntmps16
  go_wp2_with fail
  rw [← HW.out]
  refine (HC.out).mono ?_
  rintro _ w5 ⟨A5, n5, c5, rfl, hl5, h5, h6, O5, G5⟩
  go_wp2
  go_ret
  exact ⟨A5, n5, c5, rfl, Lib.hid (by rw [HE.out]; exact hl5.out), h5, h6, Lib.hid (by rw [HE.out]; exact O5.out), Lib.hid (G1.out.trans G5.out)⟩

set_option maxRecDepth 100000 in
set_option maxHeartbeats 2000000 in
set_option linter.unusedVariables false in
theorem pay_1 (i : Int) (t : ByteArray) (its : List VT) (ks : List ByteArray) (A : Option Addr) (c : Nat) (A' : Option Addr) (c' : Nat) (w : World) (base n0 c0 : Nat) (A0 : Option Addr) (l : List UInt8)
    (hi : -9223372036854775808 ≤ i ∧ i ≤ 9223372036854775807)
    (ho : w.ownsRow base 5 1 (.slice A0 n0 c0) n0 (l.map b8)) (hB : base ≤ w.heap.size) (hn : n0 + 4 * (VT.mk 1 i t its ks).txt.length ≤ 100000000) (hT : PowTab base w) :
    Calls Tryd.prog 16 #[.slice A0 n0 c0, vag 1 i t A its.length c A' ks.length c'] w (AppB base (.slice A0 n0 c0) w (l ++ (VT.mk 1 i t its ks).txt)) := by
  obtain ⟨ti, hti, hz, htz, hby⟩ := info_parts Tryd.infob
  rw [VT.txt_mk] at hn
  have HE := Lib.hid (VT.txt_mk 1 i t its ks)
  rw [if_pos rfl] at hn HE
  obtain ⟨w1, hw1⟩ : ∃ w1, w1 = w.alloc (.cells #[.int .i64 1, .int .i64 i, .string t, .slice A its.length c, .slice A' ks.length c'] 26) := ⟨_, rfl⟩
  have G1 : Hid (Grw w (Value.slice A0 n0 c0).ownBlock (Value.slice A0 n0 c0).ownBlock w1) := Lib.hid (by rw [hw1]; exact Grw.new (Grw.refl _ _))
  have O1 : Hid (w1.ownsRow base 5 1 (.slice A0 n0 c0) n0 (l.map b8)) := Lib.hid (by rw [hw1]; exact ho.alloc _)
  have B1 : Hid (base ≤ w1.heap.size) := Lib.hid (Nat.le_trans hB G1.out.1.size)
  have T1 : Hid (PowTab base w1) := Lib.hid (hT.on (Frm.of_grw G1.out ho hB).below)
  have HW := Lib.hid hw1

  clear ho hB hw1 hT hi
  by_cases hb : i = 1
  · subst hb
    have HC := Lib.hid (bool_app true base A0 n0 c0 l w1 O1.out B1.out (by omega))
    have HE : Hid ((VT.mk 1 1 t its ks).txt = boolL true) := Lib.hid HE.out
    unfold vag
    go_enter Tryd.func16, Tryd.ntmps16
    go_wp2_with fail
    rw [← HW.out]
    refine (HC.out).mono ?_
    rintro _ w5 ⟨A5, n5, c5, rfl, hl5, h5, h6, O5, G5⟩
    go_wp2
    go_ret
    exact ⟨A5, n5, c5, rfl, Lib.hid (by rw [HE.out]; exact hl5.out), h5, h6, Lib.hid (by rw [HE.out]; exact O5.out), Lib.hid (G1.out.trans G5.out)⟩
  · have hne : (i == 1) = false := by rw [beq_eq_false_iff_ne]; exact hb
    have HC := Lib.hid (bool_app false base A0 n0 c0 l w1 O1.out B1.out (by omega))
    have HE : Hid ((VT.mk 1 i t its ks).txt = boolL false) := Lib.hid (by rw [HE.out, show decide (i = 1) = false by rw [decide_eq_false_iff_not]; exact hb])
    clear hb
    unfold vag
    go_enter Tryd.func16, Tryd.ntmps16
    go_wp2_with fail
    rw [← HW.out]
    refine (HC.out).mono ?_
    rintro _ w5 ⟨A5, n5, c5, rfl, hl5, h5, h6, O5, G5⟩
    go_wp2
    go_ret
    exact ⟨A5, n5, c5, rfl, Lib.hid (by rw [HE.out]; exact hl5.out), h5, h6, Lib.hid (by rw [HE.out]; exact O5.out), Lib.hid (G1.out.trans G5.out)⟩
end Go.Proofs.YtokeppimaffagaaDoor
namespace Go.Proofs.YtokeppimaffagaaDoor
open Go.RowKit

theorem step_append_b8_at {P : Program} {w : World} {ops : Array Oper} {o : Oper} {a : Act} {K : Act → World → Prop} {Q : Exit → Act → World → Prop} {E : Prop} (hgd : o.guard = none) (s x : Operand) (t : TypeId)
    (ho : o.op = .call { callee := .builtin .append, args := #[s, x], argTypes := #[t, t] })
    (base e : Nat) (i : TypeInfo) (z : Value) (ht : P.underlying t = some (.slice e)) (hi : P.info? e = some i) (hz : i.zero = some z)
    (hsize : i.size = 1) (hby : i.bytes = 1) (hzs : z.cells.size = 1)
    (v : Value) (n : Nat) (xs : List Value) (hs : a.eval s = v) (hown : w.ownsRow base e 1 v n xs)
    (B : Nat) (A : Addr) (m c : Nat) (l : List UInt8) (hx : a.eval x = .slice (some A) m c) (hr : Rb w B (some A) m l) (hl : l ≠ [])
    (hbytes : n + m ≤ 140737488355328) (hbase : base ≤ w.heap.size)
    (h : ∀ v' w', w'.ownsRow base e 1 v' (n + m) (xs ++ l.map b8) → Grw w v.ownBlock v'.ownBlock w' → K (a.put o.dst v') w') :
    if Region.wanted o (yielded ops a.tmps) = true then Oper.wp P o a w K Q else E := by
  obtain ⟨v', w', hrun, h2, h3⟩ := run_append_b8_at (P := P) w base t o.type e i z ht hi hz hsize hby hzs v n xs hown B A m c l hr hl hbytes hbase
  have hw : Region.wanted o (yielded ops a.tmps) = true := by simp [Region.wanted, hgd]
  rw [if_pos hw]
  unfold Oper.wp execOp
  simp only [ho, resolve, invoke, builtin, Sem.run_bind, Sem.run_pure, Result.andThen_ok, List.map_toArray, List.map_cons, List.map_nil, hs, hx, hrun]
  exact h v' w' h2 h3
theorem lit_a (w : World) (o p : Obj) : ((w.alloc o).alloc p).heap[w.heap.size]? = some o := by
  rw [Below.heap_alloc (w.alloc o) p w.heap.size (by rw [World.size_alloc]; omega)]
  exact heap_alloc_new w o
theorem lit_b (w : World) (o p : Obj) : ((w.alloc o).alloc p).heap[w.heap.size + 1]? = some p := by
  have := heap_alloc_new (w.alloc o) p
  rwa [World.size_alloc] at this
/-- a block of one byte, read as a row -/
theorem Rb.block {w : World} {b : Nat} {x : UInt8} (h : w.heap[b]? = some (.cells #[.int .u8 (x.toNat : Int)] 5 (0, 0))) : Rb w (b + 1) (some ⟨b, 0, none⟩) 1 [x] :=
  ⟨rfl, fun _ => ⟨b, 0, rfl, by omega, fun j c hj => by
    cases j with
    | zero =>
      simp at hj
      subst hj
      rw [cell_of_row w b (0 + 0) _ 5 (0, 0) h]
      rfl
    | succ j => simp at hj⟩⟩

set_option maxRecDepth 100000 in
set_option maxHeartbeats 4000000 in
set_option linter.unusedVariables false in
theorem pay_4 (m : Nat) (IH : Hid (TxtUpto m)) (i : Int) (t : ByteArray) (its : List VT) (ks : List ByteArray) (A : Option Addr) (c : Nat) (A' : Option Addr) (c' : Nat) (w : World) (base n0 c0 : Nat) (A0 : Option Addr) (l : List UInt8)
    (hL : LiesL w (fun b => b < base) A 0 its) (hS : LiesS w (fun b => b < base) A' ks) (hk : 4 = 5 → ks.length = its.length) (hkc : ks.length ≤ c') (hcm' : c' ≤ 9223372036854775807) (h1 : its.length ≤ c) (h2 : c ≤ 9223372036854775807) (hsz : sizes its ≤ m) (hw : alls okF its = true)
    (ho : w.ownsRow base 5 1 (.slice A0 n0 c0) n0 (l.map b8)) (hB : base ≤ w.heap.size) (hn : n0 + 4 * (VT.mk 4 i t its ks).txt.length ≤ 100000000) (hT : PowTab base w) :
    Calls Tryd.prog 16 #[.slice A0 n0 c0, vag 4 i t A its.length c A' ks.length c'] w (AppB base (.slice A0 n0 c0) w (l ++ (VT.mk 4 i t its ks).txt)) := by
  obtain ⟨ti, hti, hz, htz, hby⟩ := info_parts Tryd.infob
  have he : (VT.mk 4 i t its ks).txt = 91 :: (txts false true its ks ++ [93]) := by
    rw [VT.txt_mk, if_neg (by decide), if_neg (by decide), if_neg (by decide), if_pos rfl]
  rw [he] at hn ⊢
  have hnn : n0 + 8 + 4 * (txts false true its ks).length ≤ 100000000 := by simp at hn; omega
  clear he hn
  obtain ⟨w1, hw1⟩ : ∃ w1, w1 = w.alloc (.cells #[.int .i64 4, .int .i64 i, .string t, .slice A its.length c, .slice A' ks.length c'] 26) := ⟨_, rfl⟩
  have G1 : Hid (Grw w (Value.slice A0 n0 c0).ownBlock (Value.slice A0 n0 c0).ownBlock w1) := Lib.hid (by rw [hw1]; exact Grw.new (Grw.refl _ _))
  have O1 : Hid (w1.ownsRow base 5 1 (.slice A0 n0 c0) n0 (l.map b8)) := Lib.hid (by rw [hw1]; exact ho.alloc _)
  have P1 : Hid (Bk w1 w.heap.size 26 #[.int .i64 4, .int .i64 i, .string t, .slice A its.length c, .slice A' ks.length c']) := Lib.hid (by rw [hw1]; exact Bk.new _ _ _)
  have B1 : Hid (base ≤ w1.heap.size) := Lib.hid (Nat.le_trans hB G1.out.1.size)
  have F1 : Hid (Frm base w w1) := Lib.hid (Frm.of_grw G1.out ho hB)
  have NB : Hid (∀ b, (Value.slice A0 n0 c0).ownBlock = some b → b < w1.heap.size) := Lib.hid (fun b hb => (O1.out.lt b hb).2)
  have HCALL : Hid (∀ (W : World) (A2 : Option Addr) (n2 c2 : Nat) (L : List UInt8), Frm base w W → W.ownsRow base 5 1 (.slice A2 n2 c2) n2 (L.map b8) → base ≤ W.heap.size → n2 ≤ n0 + 1 → Calls Tryd.prog 33 #[.slice A2 n2 c2, vag 4 i t A its.length c A' ks.length c'] W (AppB base (.slice A2 n2 c2) W (L ++ txts false true its ks))) :=
    Lib.hid (fun W A2 n2 c2 L hf ho2 hb2 hn2 => elems_4 m IH i t its ks A c A' c' W base n2 c2 A2 L (hL.keep (fun p hp => hf.below.cell hp) (fun _ h => h)) h1 h2 hsz hw ho2 hb2 (by omega) (hT.on hf.below))
  have HW := Lib.hid hw1
  have SZ : Hid (w.heap.size < w1.heap.size) := Lib.hid P1.out.lt
  clear hL hS hk hw ho hB hT IH hw1
  have p0 := P1.out.cell 0
  have p1 := P1.out.cell 1
  have p2 := P1.out.cell 2
  have p3 := P1.out.cell 3
  have p4 := P1.out.cell 4
  rw [HW.out] at p0 p1 p2 p3 p4
  unfold vag at *
  go_enter Tryd.func16, Tryd.ntmps16
  go_upto_region 9 with (fail)
  rw [← HW.out]
  rw [← HW.out] at p0 p1 p2 p3 p4
  clear HW
  have sz1 : w.heap.size < w1.heap.size := SZ.out
  go_region_law (first | (refine step_append_b8_at rfl _ _ _ (by rfl) base 5 ti (.int .u8 0) Tryd.underlying43 hti hz htz hby rfl (.slice A0 n0 c0) n0 (l.map b8) (by rfl) (by first | exact (O1.out.alloc _).drew | exact O1.out.drew.alloc _ | exact O1.out.alloc _) (w1.heap.size + 1) ⟨w1.heap.size, 0, none⟩ 1 1 [91] (by rfl) (Rb.block (x := 91) (by first | exact heap_alloc_new w1 _ | exact heap_alloc_new w1.drew _)) (by simp) (by omega) (by have := B1.out; simp; omega) ?_; intro v3 w3 ho3 hg3; have G3' : Grw w1 (Value.slice A0 n0 c0).ownBlock v3.ownBlock w3 := (by first | exact Grw.new (Grw.drew hg3) | exact Grw.drew (Grw.new hg3) | exact Grw.new hg3); obtain ⟨A3, c3, rfl, h31, h32⟩ := own_form ho3; have O3 : Hid (w3.ownsRow base 5 1 (.slice A3 (n0 + 1) c3) (n0 + 1) ((l ++ [91]).map b8)) := Lib.hid (by rw [List.map_append]; exact ho3); have G3 := Lib.hid G3'; have F3 := Lib.hid (Frm.of_grw G3' O1.out B1.out); have FF3 := Lib.hid (F1.out.trans F3.out); have P3 := Lib.hid (F3.out.keep _ _ _ P1.out (by decide)); have false3 : Hid (base ≤ w3.heap.size) := Lib.hid (Nat.le_trans B1.out G3'.1.size); have q0 := P3.out.cell 0; have q1 := P3.out.cell 1; have q2 := P3.out.cell 2; have q3 := P3.out.cell 3; have q4 := P3.out.cell 4; have sz3 : w.heap.size < w3.heap.size := P3.out.lt; clear G3' ho3 hg3) | (refine step_append_b8_at rfl _ _ _ (by rfl) base 5 ti (.int .u8 0) Tryd.underlying43 hti hz htz hby rfl (.slice A0 n0 c0) n0 (l.map b8) (by rfl) (by first | exact ((O1.out.alloc _).alloc _).drew | exact (O1.out.drew.alloc _).alloc _ | exact (O1.out.alloc _).alloc _) (w1.heap.size + 1) ⟨w1.heap.size, 0, none⟩ 1 1 [91] (by rfl) (Rb.block (x := 91) (by first | exact lit_a w1 _ _ | exact lit_a w1.drew _ _)) (by simp) (by omega) (by have := B1.out; simp; omega) ?_; intro v3 w3 ho3 hg3; have G3' : Grw w1 (Value.slice A0 n0 c0).ownBlock v3.ownBlock w3 := (by first | exact Grw.new (Grw.new (Grw.drew hg3)) | exact Grw.drew (Grw.new (Grw.new hg3)) | exact Grw.new (Grw.new hg3)); have BK3 : Hid (w3.heap[w1.heap.size + 1]? = some (.cells #[.int .u8 93] 5 (0, 0)) ∧ v3.ownBlock ≠ some (w1.heap.size + 1)) := Lib.hid ⟨(hg3.1.block (w1.heap.size + 1) (by simp; try omega) (by intro e; have := NB.out _ e.symm; omega)).trans (by first | exact lit_b w1 _ _ | exact lit_b w1.drew _ _), by intro e; rcases hg3.2 _ e with h | h; have := NB.out _ h; omega; simp at h; omega⟩; obtain ⟨A3, c3, rfl, h31, h32⟩ := own_form ho3; have O3 : Hid (w3.ownsRow base 5 1 (.slice A3 (n0 + 1) c3) (n0 + 1) ((l ++ [91]).map b8)) := Lib.hid (by rw [List.map_append]; exact ho3); have G3 := Lib.hid G3'; have F3 := Lib.hid (Frm.of_grw G3' O1.out B1.out); have FF3 := Lib.hid (F1.out.trans F3.out); have P3 := Lib.hid (F3.out.keep _ _ _ P1.out (by decide)); have false3 : Hid (base ≤ w3.heap.size) := Lib.hid (Nat.le_trans B1.out G3'.1.size); have q0 := P3.out.cell 0; have q1 := P3.out.cell 1; have q2 := P3.out.cell 2; have q3 := P3.out.cell 3; have q4 := P3.out.cell 4; have sz3 : w.heap.size < w3.heap.size := P3.out.lt; clear G3' ho3 hg3) | (refine step_append_b8_at rfl _ _ _ (by rfl) base 5 ti (.int .u8 0) Tryd.underlying43 hti hz htz hby rfl (.slice A0 n0 c0) n0 (l.map b8) (by rfl) (by first | exact ((O1.out.alloc _).alloc _).drew | exact (O1.out.drew.alloc _).alloc _ | exact (O1.out.alloc _).alloc _) (w1.heap.size + 1 + 1) ⟨w1.heap.size + 1, 0, none⟩ 1 1 [91] (by rfl) (Rb.block (x := 91) (by first | exact lit_b w1 _ _ | exact lit_b w1.drew _ _)) (by simp) (by omega) (by have := B1.out; simp; omega) ?_; intro v3 w3 ho3 hg3; have G3' : Grw w1 (Value.slice A0 n0 c0).ownBlock v3.ownBlock w3 := (by first | exact Grw.new (Grw.new (Grw.drew hg3)) | exact Grw.drew (Grw.new (Grw.new hg3)) | exact Grw.new (Grw.new hg3)); have BK3 : Hid (w3.heap[w1.heap.size]? = some (.cells #[.int .u8 93] 5 (0, 0)) ∧ v3.ownBlock ≠ some (w1.heap.size)) := Lib.hid ⟨(hg3.1.block (w1.heap.size) (by simp; try omega) (by intro e; have := NB.out _ e.symm; omega)).trans (by first | exact lit_a w1 _ _ | exact lit_a w1.drew _ _), by intro e; rcases hg3.2 _ e with h | h; have := NB.out _ h; omega; simp at h; omega⟩; obtain ⟨A3, c3, rfl, h31, h32⟩ := own_form ho3; have O3 : Hid (w3.ownsRow base 5 1 (.slice A3 (n0 + 1) c3) (n0 + 1) ((l ++ [91]).map b8)) := Lib.hid (by rw [List.map_append]; exact ho3); have G3 := Lib.hid G3'; have F3 := Lib.hid (Frm.of_grw G3' O1.out B1.out); have FF3 := Lib.hid (F1.out.trans F3.out); have P3 := Lib.hid (F3.out.keep _ _ _ P1.out (by decide)); have false3 : Hid (base ≤ w3.heap.size) := Lib.hid (Nat.le_trans B1.out G3'.1.size); have q0 := P3.out.cell 0; have q1 := P3.out.cell 1; have q2 := P3.out.cell 2; have q3 := P3.out.cell 3; have q4 := P3.out.cell 4; have sz3 : w.heap.size < w3.heap.size := P3.out.lt; clear G3' ho3 hg3) | (go_simp; go_at_call 33; refine (HCALL.out _ A3 (n0 + 1) c3 (l ++ [91]) (by first | exact FF3.out | exact FF3.out.trans (Frm.of_below (below_one _ _) false3.out)) (by first | exact O3.out | exact O3.out.alloc _) (by first | exact false3.out | (rw [World.size_alloc]; exact Nat.le_succ_of_le false3.out)) (Nat.le_refl _)).mono ?_; rintro _ w4 ⟨A4, n4, c4, rfl, hl4, h41, h42, O4, G4⟩; have G34 : Hid (Grw w1 (Value.slice A0 n0 c0).ownBlock (Value.slice A4 n4 c4).ownBlock w4) := Lib.hid (by first | exact G3.out.trans G4.out | exact G3.out.trans (Grw.new G4.out)); have false4 : Hid (base ≤ w4.heap.size) := Lib.hid (Nat.le_trans B1.out G34.out.1.size); have hn4 : n4 ≤ 100000000 := (by have e1 := hl4.out; have e2 := own_len O1.out; simp at e1 e2; omega); first | (have BK4 : Hid (w4.heap[w1.heap.size + 1]? = some (.cells #[.int .u8 93] 5 (0, 0))) := Lib.hid ((G4.out.1.block (w1.heap.size + 1) (Nat.lt_of_not_le (fun hh => by have e := BK3.out.1; rw [Array.getElem?_eq_none hh] at e; cases e)) (Ne.symm BK3.out.2)).trans BK3.out.1)) | (have BK4 : Hid (w4.heap[w1.heap.size]? = some (.cells #[.int .u8 93] 5 (0, 0))) := Lib.hid ((G4.out.1.block w1.heap.size (Nat.lt_of_not_le (fun hh => by have e := BK3.out.1; rw [Array.getElem?_eq_none hh] at e; cases e)) (Ne.symm BK3.out.2)).trans BK3.out.1)) | (have BK4 : Hid (w4.heap[w3.heap.size]? = some (.cells #[.int .u8 93] 5 (0, 0))) := Lib.hid ((G4.out.1.block w3.heap.size (by simp) (by intro e; have := (O3.out.lt _ e.symm).2; omega)).trans (by first | exact heap_alloc_new w3 _ | exact heap_alloc_new w3.drew _))) | skip) | (refine step_append_b8_at rfl _ _ _ (by rfl) base 5 ti (.int .u8 0) Tryd.underlying43 hti hz htz hby rfl (.slice A4 n4 c4) n4 ((l ++ [91] ++ txts false true its ks).map b8) (by rfl) (by first | exact O4.out.alloc _) (w4.heap.size + 1) ⟨w4.heap.size, 0, none⟩ 1 1 [93] (by rfl) (Rb.block (x := 93) (by first | exact heap_alloc_new w4 _)) (by simp) (by omega) (by have := false4.out; first | exact this | (simp; omega)) ?_; intro v5 w5 ho5 hg5; have FIN : Hid (AppB base (.slice A0 n0 c0) w (l ++ 91 :: (txts false true its ks ++ [93])) (.returned v5) w5) := Lib.hid (AppB.mk' (n := n4 + 1) (by rw [show l ++ 91 :: (txts false true its ks ++ [93]) = (l ++ [91] ++ txts false true its ks) ++ [93] by simp, List.map_append]; exact ho5) (G1.out.trans (G34.out.trans (by first | exact hg5 | exact hg5.new)))); clear ho5 hg5) | (refine step_append_b8_at rfl _ _ _ (by rfl) base 5 ti (.int .u8 0) Tryd.underlying43 hti hz htz hby rfl (.slice A4 n4 c4) n4 ((l ++ [91] ++ txts false true its ks).map b8) (by rfl) (by first | exact O4.out) (w1.heap.size + 1 + 1) ⟨w1.heap.size + 1, 0, none⟩ 1 1 [93] (by rfl) (Rb.block (x := 93) (by first | exact BK4.out)) (by simp) (by omega) (by have := false4.out; first | exact this | (simp; omega)) ?_; intro v5 w5 ho5 hg5; have FIN : Hid (AppB base (.slice A0 n0 c0) w (l ++ 91 :: (txts false true its ks ++ [93])) (.returned v5) w5) := Lib.hid (AppB.mk' (n := n4 + 1) (by rw [show l ++ 91 :: (txts false true its ks ++ [93]) = (l ++ [91] ++ txts false true its ks) ++ [93] by simp, List.map_append]; exact ho5) (G1.out.trans (G34.out.trans (by first | exact hg5 | exact hg5.new)))); clear ho5 hg5) | (refine step_append_b8_at rfl _ _ _ (by rfl) base 5 ti (.int .u8 0) Tryd.underlying43 hti hz htz hby rfl (.slice A4 n4 c4) n4 ((l ++ [91] ++ txts false true its ks).map b8) (by rfl) (by first | exact O4.out) (w1.heap.size + 1) ⟨w1.heap.size, 0, none⟩ 1 1 [93] (by rfl) (Rb.block (x := 93) (by first | exact BK4.out)) (by simp) (by omega) (by have := false4.out; first | exact this | (simp; omega)) ?_; intro v5 w5 ho5 hg5; have FIN : Hid (AppB base (.slice A0 n0 c0) w (l ++ 91 :: (txts false true its ks ++ [93])) (.returned v5) w5) := Lib.hid (AppB.mk' (n := n4 + 1) (by rw [show l ++ 91 :: (txts false true its ks ++ [93]) = (l ++ [91] ++ txts false true its ks) ++ [93] by simp, List.map_append]; exact ho5) (G1.out.trans (G34.out.trans (by first | exact hg5 | exact hg5.new)))); clear ho5 hg5) | (refine step_append_b8_at rfl _ _ _ (by rfl) base 5 ti (.int .u8 0) Tryd.underlying43 hti hz htz hby rfl (.slice A4 n4 c4) n4 ((l ++ [91] ++ txts false true its ks).map b8) (by rfl) (by first | exact O4.out) (w3.heap.size + 1) ⟨w3.heap.size, 0, none⟩ 1 1 [93] (by rfl) (Rb.block (x := 93) (by first | exact BK4.out)) (by simp) (by omega) (by have := false4.out; first | exact this | (simp; omega)) ?_; intro v5 w5 ho5 hg5; have FIN : Hid (AppB base (.slice A0 n0 c0) w (l ++ 91 :: (txts false true its ks ++ [93])) (.returned v5) w5) := Lib.hid (AppB.mk' (n := n4 + 1) (by rw [show l ++ 91 :: (txts false true its ks ++ [93]) = (l ++ [91] ++ txts false true its ks) ++ [93] by simp, List.map_append]; exact ho5) (G1.out.trans (G34.out.trans (by first | exact hg5 | exact hg5.new)))); clear ho5 hg5))
  all_goals (
    try go_wp2
    go_ret
    exact FIN.out)
end Go.Proofs.YtokeppimaffagaaDoor
namespace Go.Proofs.YtokeppimaffagaaDoor
open Go.RowKit

set_option maxRecDepth 100000 in
set_option maxHeartbeats 4000000 in
set_option linter.unusedVariables false in
theorem pay_5 (m : Nat) (IH : Hid (TxtUpto m)) (i : Int) (t : ByteArray) (its : List VT) (ks : List ByteArray) (A : Option Addr) (c : Nat) (A' : Option Addr) (c' : Nat) (w : World) (base n0 c0 : Nat) (A0 : Option Addr) (l : List UInt8)
    (hL : LiesL w (fun b => b < base) A 0 its) (hS : LiesS w (fun b => b < base) A' ks) (hk : 5 = 5 → ks.length = its.length) (hkc : ks.length ≤ c') (hcm' : c' ≤ 9223372036854775807) (h1 : its.length ≤ c) (h2 : c ≤ 9223372036854775807) (hsz : sizes its ≤ m) (hw : alls okF its = true)
    (ho : w.ownsRow base 5 1 (.slice A0 n0 c0) n0 (l.map b8)) (hB : base ≤ w.heap.size) (hn : n0 + 4 * (VT.mk 5 i t its ks).txt.length ≤ 100000000) (hT : PowTab base w) :
    Calls Tryd.prog 16 #[.slice A0 n0 c0, vag 5 i t A its.length c A' ks.length c'] w (AppB base (.slice A0 n0 c0) w (l ++ (VT.mk 5 i t its ks).txt)) := by
  obtain ⟨ti, hti, hz, htz, hby⟩ := info_parts Tryd.infob
  have he : (VT.mk 5 i t its ks).txt = 123 :: (txts true true its ks ++ [125]) := by
    rw [VT.txt_mk, if_neg (by decide), if_neg (by decide), if_neg (by decide), if_neg (by decide), if_pos rfl]
  rw [he] at hn ⊢
  have hnn : n0 + 8 + 4 * (txts true true its ks).length ≤ 100000000 := by simp at hn; omega
  clear he hn
  obtain ⟨w1, hw1⟩ : ∃ w1, w1 = w.alloc (.cells #[.int .i64 5, .int .i64 i, .string t, .slice A its.length c, .slice A' ks.length c'] 26) := ⟨_, rfl⟩
  have G1 : Hid (Grw w (Value.slice A0 n0 c0).ownBlock (Value.slice A0 n0 c0).ownBlock w1) := Lib.hid (by rw [hw1]; exact Grw.new (Grw.refl _ _))
  have O1 : Hid (w1.ownsRow base 5 1 (.slice A0 n0 c0) n0 (l.map b8)) := Lib.hid (by rw [hw1]; exact ho.alloc _)
  have P1 : Hid (Bk w1 w.heap.size 26 #[.int .i64 5, .int .i64 i, .string t, .slice A its.length c, .slice A' ks.length c']) := Lib.hid (by rw [hw1]; exact Bk.new _ _ _)
  have B1 : Hid (base ≤ w1.heap.size) := Lib.hid (Nat.le_trans hB G1.out.1.size)
  have F1 : Hid (Frm base w w1) := Lib.hid (Frm.of_grw G1.out ho hB)
  have NB : Hid (∀ b, (Value.slice A0 n0 c0).ownBlock = some b → b < w1.heap.size) := Lib.hid (fun b hb => (O1.out.lt b hb).2)
  have HCALL : Hid (∀ (W : World) (A2 : Option Addr) (n2 c2 : Nat) (L : List UInt8), Frm base w W → W.ownsRow base 5 1 (.slice A2 n2 c2) n2 (L.map b8) → base ≤ W.heap.size → n2 ≤ n0 + 1 → Calls Tryd.prog 33 #[.slice A2 n2 c2, vag 5 i t A its.length c A' ks.length c'] W (AppB base (.slice A2 n2 c2) W (L ++ txts true true its ks))) :=
    Lib.hid (fun W A2 n2 c2 L hf ho2 hb2 hn2 => elems_5 m IH i t its ks A c A' c' W base n2 c2 A2 L (hL.keep (fun p hp => hf.below.cell hp) (fun _ h => h)) (hS.keep (fun p hp => hf.below.cell hp) (fun _ h => h)) (hk rfl) hkc hcm' h1 h2 hsz hw ho2 hb2 (by omega) (hT.on hf.below))
  have HW := Lib.hid hw1
  have SZ : Hid (w.heap.size < w1.heap.size) := Lib.hid P1.out.lt
  clear hL hS hk hw ho hB hT IH hw1
  have p0 := P1.out.cell 0
  have p1 := P1.out.cell 1
  have p2 := P1.out.cell 2
  have p3 := P1.out.cell 3
  have p4 := P1.out.cell 4
  rw [HW.out] at p0 p1 p2 p3 p4
  unfold vag at *
  go_enter Tryd.func16, Tryd.ntmps16
  go_upto_region 11 with (fail)
  rw [← HW.out]
  rw [← HW.out] at p0 p1 p2 p3 p4
  clear HW
  have sz1 : w.heap.size < w1.heap.size := SZ.out
  go_region_law (first | (refine step_append_b8_at rfl _ _ _ (by rfl) base 5 ti (.int .u8 0) Tryd.underlying43 hti hz htz hby rfl (.slice A0 n0 c0) n0 (l.map b8) (by rfl) (by first | exact (O1.out.alloc _).drew | exact O1.out.drew.alloc _ | exact O1.out.alloc _) (w1.heap.size + 1) ⟨w1.heap.size, 0, none⟩ 1 1 [123] (by rfl) (Rb.block (x := 123) (by first | exact heap_alloc_new w1 _ | exact heap_alloc_new w1.drew _)) (by simp) (by omega) (by have := B1.out; simp; omega) ?_; intro v3 w3 ho3 hg3; have G3' : Grw w1 (Value.slice A0 n0 c0).ownBlock v3.ownBlock w3 := (by first | exact Grw.new (Grw.drew hg3) | exact Grw.drew (Grw.new hg3) | exact Grw.new hg3); obtain ⟨A3, c3, rfl, h31, h32⟩ := own_form ho3; have O3 : Hid (w3.ownsRow base 5 1 (.slice A3 (n0 + 1) c3) (n0 + 1) ((l ++ [123]).map b8)) := Lib.hid (by rw [List.map_append]; exact ho3); have G3 := Lib.hid G3'; have F3 := Lib.hid (Frm.of_grw G3' O1.out B1.out); have FF3 := Lib.hid (F1.out.trans F3.out); have P3 := Lib.hid (F3.out.keep _ _ _ P1.out (by decide)); have true3 : Hid (base ≤ w3.heap.size) := Lib.hid (Nat.le_trans B1.out G3'.1.size); have q0 := P3.out.cell 0; have q1 := P3.out.cell 1; have q2 := P3.out.cell 2; have q3 := P3.out.cell 3; have q4 := P3.out.cell 4; have sz3 : w.heap.size < w3.heap.size := P3.out.lt; clear G3' ho3 hg3) | (refine step_append_b8_at rfl _ _ _ (by rfl) base 5 ti (.int .u8 0) Tryd.underlying43 hti hz htz hby rfl (.slice A0 n0 c0) n0 (l.map b8) (by rfl) (by first | exact ((O1.out.alloc _).alloc _).drew | exact (O1.out.drew.alloc _).alloc _ | exact (O1.out.alloc _).alloc _) (w1.heap.size + 1) ⟨w1.heap.size, 0, none⟩ 1 1 [123] (by rfl) (Rb.block (x := 123) (by first | exact lit_a w1 _ _ | exact lit_a w1.drew _ _)) (by simp) (by omega) (by have := B1.out; simp; omega) ?_; intro v3 w3 ho3 hg3; have G3' : Grw w1 (Value.slice A0 n0 c0).ownBlock v3.ownBlock w3 := (by first | exact Grw.new (Grw.new (Grw.drew hg3)) | exact Grw.drew (Grw.new (Grw.new hg3)) | exact Grw.new (Grw.new hg3)); have BK3 : Hid (w3.heap[w1.heap.size + 1]? = some (.cells #[.int .u8 125] 5 (0, 0)) ∧ v3.ownBlock ≠ some (w1.heap.size + 1)) := Lib.hid ⟨(hg3.1.block (w1.heap.size + 1) (by simp; try omega) (by intro e; have := NB.out _ e.symm; omega)).trans (by first | exact lit_b w1 _ _ | exact lit_b w1.drew _ _), by intro e; rcases hg3.2 _ e with h | h; have := NB.out _ h; omega; simp at h; omega⟩; obtain ⟨A3, c3, rfl, h31, h32⟩ := own_form ho3; have O3 : Hid (w3.ownsRow base 5 1 (.slice A3 (n0 + 1) c3) (n0 + 1) ((l ++ [123]).map b8)) := Lib.hid (by rw [List.map_append]; exact ho3); have G3 := Lib.hid G3'; have F3 := Lib.hid (Frm.of_grw G3' O1.out B1.out); have FF3 := Lib.hid (F1.out.trans F3.out); have P3 := Lib.hid (F3.out.keep _ _ _ P1.out (by decide)); have true3 : Hid (base ≤ w3.heap.size) := Lib.hid (Nat.le_trans B1.out G3'.1.size); have q0 := P3.out.cell 0; have q1 := P3.out.cell 1; have q2 := P3.out.cell 2; have q3 := P3.out.cell 3; have q4 := P3.out.cell 4; have sz3 : w.heap.size < w3.heap.size := P3.out.lt; clear G3' ho3 hg3) | (refine step_append_b8_at rfl _ _ _ (by rfl) base 5 ti (.int .u8 0) Tryd.underlying43 hti hz htz hby rfl (.slice A0 n0 c0) n0 (l.map b8) (by rfl) (by first | exact ((O1.out.alloc _).alloc _).drew | exact (O1.out.drew.alloc _).alloc _ | exact (O1.out.alloc _).alloc _) (w1.heap.size + 1 + 1) ⟨w1.heap.size + 1, 0, none⟩ 1 1 [123] (by rfl) (Rb.block (x := 123) (by first | exact lit_b w1 _ _ | exact lit_b w1.drew _ _)) (by simp) (by omega) (by have := B1.out; simp; omega) ?_; intro v3 w3 ho3 hg3; have G3' : Grw w1 (Value.slice A0 n0 c0).ownBlock v3.ownBlock w3 := (by first | exact Grw.new (Grw.new (Grw.drew hg3)) | exact Grw.drew (Grw.new (Grw.new hg3)) | exact Grw.new (Grw.new hg3)); have BK3 : Hid (w3.heap[w1.heap.size]? = some (.cells #[.int .u8 125] 5 (0, 0)) ∧ v3.ownBlock ≠ some (w1.heap.size)) := Lib.hid ⟨(hg3.1.block (w1.heap.size) (by simp; try omega) (by intro e; have := NB.out _ e.symm; omega)).trans (by first | exact lit_a w1 _ _ | exact lit_a w1.drew _ _), by intro e; rcases hg3.2 _ e with h | h; have := NB.out _ h; omega; simp at h; omega⟩; obtain ⟨A3, c3, rfl, h31, h32⟩ := own_form ho3; have O3 : Hid (w3.ownsRow base 5 1 (.slice A3 (n0 + 1) c3) (n0 + 1) ((l ++ [123]).map b8)) := Lib.hid (by rw [List.map_append]; exact ho3); have G3 := Lib.hid G3'; have F3 := Lib.hid (Frm.of_grw G3' O1.out B1.out); have FF3 := Lib.hid (F1.out.trans F3.out); have P3 := Lib.hid (F3.out.keep _ _ _ P1.out (by decide)); have true3 : Hid (base ≤ w3.heap.size) := Lib.hid (Nat.le_trans B1.out G3'.1.size); have q0 := P3.out.cell 0; have q1 := P3.out.cell 1; have q2 := P3.out.cell 2; have q3 := P3.out.cell 3; have q4 := P3.out.cell 4; have sz3 : w.heap.size < w3.heap.size := P3.out.lt; clear G3' ho3 hg3) | (go_simp; go_at_call 33; refine (HCALL.out _ A3 (n0 + 1) c3 (l ++ [123]) (by first | exact FF3.out | exact FF3.out.trans (Frm.of_below (below_one _ _) true3.out)) (by first | exact O3.out | exact O3.out.alloc _) (by first | exact true3.out | (rw [World.size_alloc]; exact Nat.le_succ_of_le true3.out)) (Nat.le_refl _)).mono ?_; rintro _ w4 ⟨A4, n4, c4, rfl, hl4, h41, h42, O4, G4⟩; have G34 : Hid (Grw w1 (Value.slice A0 n0 c0).ownBlock (Value.slice A4 n4 c4).ownBlock w4) := Lib.hid (by first | exact G3.out.trans G4.out | exact G3.out.trans (Grw.new G4.out)); have true4 : Hid (base ≤ w4.heap.size) := Lib.hid (Nat.le_trans B1.out G34.out.1.size); have hn4 : n4 ≤ 100000000 := (by have e1 := hl4.out; have e2 := own_len O1.out; simp at e1 e2; omega); first | (have BK4 : Hid (w4.heap[w1.heap.size + 1]? = some (.cells #[.int .u8 125] 5 (0, 0))) := Lib.hid ((G4.out.1.block (w1.heap.size + 1) (Nat.lt_of_not_le (fun hh => by have e := BK3.out.1; rw [Array.getElem?_eq_none hh] at e; cases e)) (Ne.symm BK3.out.2)).trans BK3.out.1)) | (have BK4 : Hid (w4.heap[w1.heap.size]? = some (.cells #[.int .u8 125] 5 (0, 0))) := Lib.hid ((G4.out.1.block w1.heap.size (Nat.lt_of_not_le (fun hh => by have e := BK3.out.1; rw [Array.getElem?_eq_none hh] at e; cases e)) (Ne.symm BK3.out.2)).trans BK3.out.1)) | (have BK4 : Hid (w4.heap[w3.heap.size]? = some (.cells #[.int .u8 125] 5 (0, 0))) := Lib.hid ((G4.out.1.block w3.heap.size (by simp) (by intro e; have := (O3.out.lt _ e.symm).2; omega)).trans (by first | exact heap_alloc_new w3 _ | exact heap_alloc_new w3.drew _))) | skip) | (refine step_append_b8_at rfl _ _ _ (by rfl) base 5 ti (.int .u8 0) Tryd.underlying43 hti hz htz hby rfl (.slice A4 n4 c4) n4 ((l ++ [123] ++ txts true true its ks).map b8) (by rfl) (by first | exact O4.out.alloc _) (w4.heap.size + 1) ⟨w4.heap.size, 0, none⟩ 1 1 [125] (by rfl) (Rb.block (x := 125) (by first | exact heap_alloc_new w4 _)) (by simp) (by omega) (by have := true4.out; first | exact this | (simp; omega)) ?_; intro v5 w5 ho5 hg5; have FIN : Hid (AppB base (.slice A0 n0 c0) w (l ++ 123 :: (txts true true its ks ++ [125])) (.returned v5) w5) := Lib.hid (AppB.mk' (n := n4 + 1) (by rw [show l ++ 123 :: (txts true true its ks ++ [125]) = (l ++ [123] ++ txts true true its ks) ++ [125] by simp, List.map_append]; exact ho5) (G1.out.trans (G34.out.trans (by first | exact hg5 | exact hg5.new)))); clear ho5 hg5) | (refine step_append_b8_at rfl _ _ _ (by rfl) base 5 ti (.int .u8 0) Tryd.underlying43 hti hz htz hby rfl (.slice A4 n4 c4) n4 ((l ++ [123] ++ txts true true its ks).map b8) (by rfl) (by first | exact O4.out) (w1.heap.size + 1 + 1) ⟨w1.heap.size + 1, 0, none⟩ 1 1 [125] (by rfl) (Rb.block (x := 125) (by first | exact BK4.out)) (by simp) (by omega) (by have := true4.out; first | exact this | (simp; omega)) ?_; intro v5 w5 ho5 hg5; have FIN : Hid (AppB base (.slice A0 n0 c0) w (l ++ 123 :: (txts true true its ks ++ [125])) (.returned v5) w5) := Lib.hid (AppB.mk' (n := n4 + 1) (by rw [show l ++ 123 :: (txts true true its ks ++ [125]) = (l ++ [123] ++ txts true true its ks) ++ [125] by simp, List.map_append]; exact ho5) (G1.out.trans (G34.out.trans (by first | exact hg5 | exact hg5.new)))); clear ho5 hg5) | (refine step_append_b8_at rfl _ _ _ (by rfl) base 5 ti (.int .u8 0) Tryd.underlying43 hti hz htz hby rfl (.slice A4 n4 c4) n4 ((l ++ [123] ++ txts true true its ks).map b8) (by rfl) (by first | exact O4.out) (w1.heap.size + 1) ⟨w1.heap.size, 0, none⟩ 1 1 [125] (by rfl) (Rb.block (x := 125) (by first | exact BK4.out)) (by simp) (by omega) (by have := true4.out; first | exact this | (simp; omega)) ?_; intro v5 w5 ho5 hg5; have FIN : Hid (AppB base (.slice A0 n0 c0) w (l ++ 123 :: (txts true true its ks ++ [125])) (.returned v5) w5) := Lib.hid (AppB.mk' (n := n4 + 1) (by rw [show l ++ 123 :: (txts true true its ks ++ [125]) = (l ++ [123] ++ txts true true its ks) ++ [125] by simp, List.map_append]; exact ho5) (G1.out.trans (G34.out.trans (by first | exact hg5 | exact hg5.new)))); clear ho5 hg5) | (refine step_append_b8_at rfl _ _ _ (by rfl) base 5 ti (.int .u8 0) Tryd.underlying43 hti hz htz hby rfl (.slice A4 n4 c4) n4 ((l ++ [123] ++ txts true true its ks).map b8) (by rfl) (by first | exact O4.out) (w3.heap.size + 1) ⟨w3.heap.size, 0, none⟩ 1 1 [125] (by rfl) (Rb.block (x := 125) (by first | exact BK4.out)) (by simp) (by omega) (by have := true4.out; first | exact this | (simp; omega)) ?_; intro v5 w5 ho5 hg5; have FIN : Hid (AppB base (.slice A0 n0 c0) w (l ++ 123 :: (txts true true its ks ++ [125])) (.returned v5) w5) := Lib.hid (AppB.mk' (n := n4 + 1) (by rw [show l ++ 123 :: (txts true true its ks ++ [125]) = (l ++ [123] ++ txts true true its ks) ++ [125] by simp, List.map_append]; exact ho5) (G1.out.trans (G34.out.trans (by first | exact hg5 | exact hg5.new)))); clear ho5 hg5))
  all_goals (
    try go_wp2
    go_ret
    exact FIN.out)
end Go.Proofs.YtokeppimaffagaaDoor
namespace Go.Proofs.YtokeppimaffagaaDoor
open Go.RowKit

theorem okF_kind {k i : Int} {t : ByteArray} {its : List VT} {ks : List ByteArray} (h : okF (.mk k i t its ks) = true) : 0 ≤ k ∧ k ≤ 6 := by
  by_cases hk : 0 ≤ k ∧ k ≤ 6
  · exact hk
  · unfold okF VT.k at h
    simp only [show ¬ k = 0 from by omega, show ¬ k = 1 from by omega, show ¬ k = 2 from by omega, show ¬ k = 3 from by omega, show ¬ k = 4 from by omega, show ¬ k = 5 from by omega, show ¬ k = 6 from by omega, if_false] at h
    cases h
theorem okF_keys {k i : Int} {t : ByteArray} {its : List VT} {ks : List ByteArray} (h : okF (.mk k i t its ks) = true) (hk : k = 5) : ks.length = its.length := by
  subst hk
  rw [okF_5] at h
  simp only [Bool.and_eq_true, decide_eq_true_eq] at h
  exact h.2.2.1
theorem txt_all (m : Nat) : TxtUpto m := by
  induction m with
  | zero => intro x _ _ _ _ _ _ _ h; have := size_pos x; omega
  | succ m ih =>
    intro x w v base n c A l hsz hw hv ho hB hn hT
    have IH := Lib.hid ih
    obtain ⟨k, i, t, its, ks⟩ := x
    obtain ⟨A1, c1, A', c', rfl, _, hi, _, h1, h2, hL, h3, h4, hS⟩ := hv.open
    rw [VT.size_mk] at hsz
    rw [VT.all_mk, Bool.and_eq_true] at hw
    have hk := okF_kind hw.1
    have hks := okF_keys hw.1
    obtain rfl | rfl | rfl | rfl | rfl | rfl | rfl : k = 0 ∨ k = 1 ∨ k = 2 ∨ k = 3 ∨ k = 4 ∨ k = 5 ∨ k = 6 := by omega
    · exact pay_0 i t its ks A1 c1 A' c' w base n c A l hi ho hB hn hT
    · exact pay_1 i t its ks A1 c1 A' c' w base n c A l hi ho hB hn hT
    · exact pay_2 i t its ks A1 c1 A' c' w base n c A l hi ho hB hn hT
    · exact pay_3 i t its ks A1 c1 A' c' w base n c A l hi ho hB hn hT
    · exact pay_4 m IH i t its ks A1 c1 A' c' w base n c A l hL hS (fun e => by omega) h3 h4 h1 h2 (by omega) hw.2 ho hB hn hT
    · exact pay_5 m IH i t its ks A1 c1 A' c' w base n c A l hL hS (fun _ => hks rfl) h3 h4 h1 h2 (by omega) hw.2 ho hB hn hT
    · exact pay_6 i t its ks A1 c1 A' c' w base n c A l hi ho hB hn hT

/-- what Print gives -/
def PrtR (x : VT) (w : World) (e : Ending) (w' : World) : Prop :=
  e = .returned (.tuple (if x.right = true then #[.string ⟨x.txt.toArray⟩, .int .i64 0] else #[.string ⟨#[]⟩, .int .i64 2])) ∧ Below w.heap.size w w'
theorem right_ok {x : VT} (h : x.right = true) : x.all okF = true := by
  unfold VT.right VT.wf at h
  rw [Bool.and_eq_true] at h
  exact h.1

set_option maxRecDepth 100000 in
set_option maxHeartbeats 4000000 in
theorem Print_any {x : VT} {v : Value} {w : World} (hv : Lies w (Lo w) x v) (hn : 4 * x.txt.length ≤ 100000000) (hT : PowTab w.heap.size w) :
    Calls Tryd.prog 8 #[v] w (PrtR x w) := by
  have HR := Lib.hid (fun (w' : World) (hb : Below w.heap.size w w') => valRight_any (hv.below hb))
  have HP := Lib.hid (fun (w' : World) (hb : Below w.heap.size w w') (hx : x.right = true) => txt_all x.size x w' v w.heap.size 0 0 none [] (Nat.le_refl _) (right_ok hx) (hv.keep (fun p hp => hb.cell hp) (fun _ h => h)) ⟨rfl, .inl ⟨rfl, rfl⟩⟩ hb.size (by omega) (hT.on hb))
  have HX : Hid (∀ (w' : World), Below w.heap.size w w' → PrtR x w (.returned (.tuple (if x.right = true then #[.string ⟨x.txt.toArray⟩, .int .i64 0] else #[.string ⟨#[]⟩, .int .i64 2]))) w') := Lib.hid (fun w' hb => ⟨rfl, hb⟩)
  obtain ⟨k, i, t, its, ks⟩ := x
  obtain ⟨A1, c1, A', c', rfl, _, _, _, _, _, _, _, _, _⟩ := hv.open
  clear hv hn hT
  generalize hx : VT.mk k i t its ks = x at *
  clear hx
  generalize hb : x.right = b at *
  obtain ⟨w1, hw1⟩ : ∃ w1, w1 = w.alloc (.cells #[.int .i64 k, .int .i64 i, .string t, .slice A1 its.length c1, .slice A' ks.length c'] 26) := ⟨_, rfl⟩
  have P1 : Hid (Bk w1 w.heap.size 26 #[.int .i64 k, .int .i64 i, .string t, .slice A1 its.length c1, .slice A' ks.length c']) := Lib.hid (by rw [hw1]; exact Bk.new _ _ _)
  have B1 : Hid (Below w.heap.size w w1) := Lib.hid (by rw [hw1]; exact below_one _ _)
  have R1 := Lib.hid (HR.out w1 B1.out)
  have HW := Lib.hid hw1
  have p0 := P1.out.cell 0
  have p1 := P1.out.cell 1
  have p2 := P1.out.cell 2
  have p3 := P1.out.cell 3
  have p4 := P1.out.cell 4
  rw [HW.out] at p0 p1 p2 p3 p4
  clear hw1 hb
  unfold vag at *
  go_enter Tryd.func8, Tryd.ntmps8
  go_wp2_with fail
  rw [← HW.out]
  refine (R1.out).mono ?_
  rintro e w2 ⟨rfl, hb2⟩
  have B2 : Hid (Below w.heap.size w w2) := Lib.hid (B1.out.trans (hb2.mono B1.out.size))
  have P2 := Lib.hid (P1.out.below hb2 P1.out.lt)
  clear hb2 p0 p1 p2 p3 p4
  cases b with
  | false =>
    have FIN := Lib.hid (HX.out w2 B2.out)
    clear HP HR R1 HX
    go_wp2
    go_ret2
    exact FIN.out
  | true =>
    have E2 := Lib.hid (HP.out w2 B2.out rfl)
    have p0 := P2.out.cell 0
    have p1 := P2.out.cell 1
    have p2 := P2.out.cell 2
    have p3 := P2.out.cell 3
    have p4 := P2.out.cell 4
    clear HP HR R1
    go_wp2_with fail
    refine (E2.out).mono ?_
    rintro e w5 ⟨A5, n5, c5, rfl, hl5, _, _, O5, G5⟩
    have B5 : Hid (Below w.heap.size w w5) := Lib.hid (B2.out.trans ((Below.refl _ _).grown G5.out.1 B2.out.size (fun k hk => by cases hk)))
    rw [List.nil_append] at O5
    have HS := run_str (P := Tryd.prog) (c := c5) 43 9 5 Tryd.underlying43 Tryd.underlying5 Tryd.underlying9 (Rb.of_own O5.out)
    have FIN := Lib.hid (HX.out w5 B5.out)
    clear p0 p1 p2 p3 p4 HX
    go_wp2
    go_ret2
    exact FIN.out
end Go.Proofs.YtokeppimaffagaaDoor
namespace Go.Proofs.YtokeppimaffagaaDoor
open Go.RowKit

/-- the first example's value -/
def exV : VT := .mk 5 0 ⟨#[]⟩ [.mk 4 0 ⟨#[]⟩ [nullT, .mk 1 1 ⟨#[]⟩ [] []] [], .mk 2 (-5) ⟨#[]⟩ [] []] [⟨#[97]⟩, ⟨#[98]⟩]
theorem ex_1 : parP [123, 34, 98, 34, 58, 32, 45, 53, 44, 32, 34, 97, 34, 32, 58, 91, 110, 117, 108, 108, 44, 116, 114, 117, 101, 93, 125] = .ok exV 27 := by kernel_rfl
theorem ex_2 : parP [123, 34, 97, 34, 58, 32, 48, 49, 125] = .err 7 3 := by kernel_rfl
theorem ex_3 : parP [123, 34, 97, 34, 58, 32, 49, 44, 32, 34, 97, 34, 58, 32, 50, 125] = .err 9 9 := by kernel_rfl
theorem ex_4 : parP [91, 49, 44] = .err 3 4 := by kernel_rfl
theorem ex_right : exV.right = true := by kernel_rfl
theorem itoa_5 : Lib.itoa (-5) = [45, 53] := by
  rw [show (-5 : Int) = -((5 : Nat) : Int) from rfl, Lib.itoa_neg 5 (by decide), Lib.decDigits, dif_pos (by decide)]
  rfl
theorem ex_txt : exV.txt = [123, 34, 97, 34, 58, 32, 91, 110, 117, 108, 108, 44, 32, 116, 114, 117, 101, 93, 44, 32, 34, 98, 34, 58, 32, 45, 53, 125] := by
  have h5 : (VT.mk 2 (-5) ⟨#[]⟩ [] []).txt = [45, 53] := by rw [VT.txt_mk, if_neg (by decide), if_pos rfl, itoa_5]
  unfold exV
  rw [VT.txt_mk, if_neg (by decide), if_neg (by decide), if_neg (by decide), if_neg (by decide), if_pos rfl, txts, txts, h5]
  rfl
theorem ex_quo : quoL [97, 10, 7] = [34, 97, 92, 110, 92, 120, 48, 55, 34] := by kernel_rfl
end Go.Proofs.YtokeppimaffagaaDoor
namespace Go.Proofs.YtokeppimaffagaaDoor
open Go.RowKit

/-- the world has what Parse and Print read of strconv -/
structure Std (w : World) : Prop where
  ev : Ev w w.heap.size
  tab : PowTab w.heap.size w
theorem Std.on {w w' : World} (h : Std w) (hb : Below w.heap.size w w') : Std w' := by
  obtain ⟨⟨a, b, h1⟩, ⟨c, d, h2⟩, h3, h4⟩ := h.ev
  have l1 := World.block_lt_of_cell? w _ h1
  have l2 := World.block_lt_of_cell? w _ h2
  have hs := hb.size
  refine ⟨⟨⟨a, b, by rw [hb.cell l1]; exact h1⟩, ⟨c, d, by rw [hb.cell l2]; exact h2⟩, fun e => ?_, fun e => ?_⟩, fun W hW => h.tab W (hb.trans (hW.mono hs))⟩
  · have l1' : 1 < w.heap.size := l1
    omega
  · have l2' : 2 < w.heap.size := l2
    omega
theorem par_1 {w : World} (h : Std w) : Calls Tryd.prog 6 #[.string ⟨#[123, 34, 98, 34, 58, 32, 45, 53, 44, 32, 34, 97, 34, 32, 58, 91, 110, 117, 108, 108, 44, 116, 114, 117, 101, 93, 125]⟩] w (ParR (.ok exV 27) w) := by
  rw [← ex_1]
  exact Parse_any ⟨#[123, 34, 98, 34, 58, 32, 45, 53, 44, 32, 34, 97, 34, 32, 58, 91, 110, 117, 108, 108, 44, 116, 114, 117, 101, 93, 125]⟩ w (by decide) h.ev
theorem par_2 {w : World} (h : Std w) : Calls Tryd.prog 6 #[.string ⟨#[123, 34, 97, 34, 58, 32, 48, 49, 125]⟩] w (ParR (.err 7 3) w) := by
  rw [← ex_2]
  exact Parse_any ⟨#[123, 34, 97, 34, 58, 32, 48, 49, 125]⟩ w (by decide) h.ev
theorem par_3 {w : World} (h : Std w) : Calls Tryd.prog 6 #[.string ⟨#[123, 34, 97, 34, 58, 32, 49, 44, 32, 34, 97, 34, 58, 32, 50, 125]⟩] w (ParR (.err 9 9) w) := by
  rw [← ex_3]
  exact Parse_any ⟨#[123, 34, 97, 34, 58, 32, 49, 44, 32, 34, 97, 34, 58, 32, 50, 125]⟩ w (by decide) h.ev
theorem par_4 {w : World} (h : Std w) : Calls Tryd.prog 6 #[.string ⟨#[91, 49, 44]⟩] w (ParR (.err 3 4) w) := by
  rw [← ex_4]
  exact Parse_any ⟨#[91, 49, 44]⟩ w (by decide) h.ev
theorem prt_1 {v : Value} {w : World} (hv : Lies w (Lo w) exV v) (h : Std w) : Calls Tryd.prog 8 #[v] w fun e w' => e = .returned (.tuple #[.string ⟨#[123, 34, 97, 34, 58, 32, 91, 110, 117, 108, 108, 44, 32, 116, 114, 117, 101, 93, 44, 32, 34, 98, 34, 58, 32, 45, 53, 125]⟩, .int .i64 0]) ∧ Below w.heap.size w w' := by
  refine (Print_any hv (by rw [ex_txt]; decide) h.tab).mono ?_
  rintro e w' ⟨rfl, hb⟩
  rw [if_pos ex_right, ex_txt]
  exact ⟨rfl, hb⟩
theorem quo_1 (w : World) : Calls Tryd.prog 7 #[.string ⟨#[97, 10, 7]⟩] w fun e w' => e = .returned (.string ⟨#[34, 97, 92, 110, 92, 120, 48, 55, 34]⟩) ∧ Below w.heap.size w w' := by
  refine (Quote_any ⟨#[97, 10, 7]⟩ w (by decide)).mono ?_
  rintro e w' ⟨rfl, hb⟩
  exact ⟨congrArg (fun x : List UInt8 => Ending.returned (.string ⟨x.toArray⟩)) ex_quo, hb⟩

set_option maxRecDepth 100000 in
set_option maxHeartbeats 4000000 in
theorem lives_any {w : World} (h : Std w) : Calls Tryd.prog 5 #[] w fun e w' => e = .returned (.bool true) ∧ Below w.heap.size w w' := by
  have S0 := Lib.hid h
  clear h
  go_enter Tryd.func5, Tryd.ntmps5
  go_wp2_with fail
  refine (par_1 S0.out).mono ?_
  rintro _ w1 ⟨hb1, ⟨k, i, t, A, m, c, A', m', c', x, j, rfl, hr, hl⟩ | ⟨j, c, hr, _⟩⟩
  case inr => exact absurd hr.out (by intro e; cases e)
  obtain ⟨rfl, rfl⟩ : exV = x ∧ _ = j := by have := hr.out; injection this with a b; exact ⟨a, b⟩
  clear hr
  go_wp2_with fail
  obtain ⟨w2, hw2⟩ : ∃ w2, w2 = w1.alloc (.cells #[.int .i64 k, .int .i64 i, .string t, .slice A m c, .slice A' m' c'] 26) := ⟨_, rfl⟩
  rw [← hw2]
  have hb12 : Below w1.heap.size w1 w2 := by rw [hw2]; exact below_one _ _
  have B2 : Hid (Below w.heap.size w w2) := Lib.hid (hb1.trans (hb12.mono hb1.size))
  have L2 := Lib.hid ((hl.out.keep (fun p hp => hb12.cell hp.2) (fun b hp => Nat.lt_of_lt_of_le hp.2 hb12.size) : Lies w2 (Lo w2) exV _))
  have HW := Lib.hid hw2
  clear hb1 hl hb12 hw2
  refine (prt_1 L2.out (S0.out.on B2.out)).mono ?_
  rintro _ w3 ⟨rfl, hb3⟩
  have B3 : Hid (Below w.heap.size w w3) := Lib.hid (B2.out.trans (hb3.mono B2.out.size))
  clear hb3
  go_wp2_with fail
  refine (par_2 (S0.out.on B3.out)).mono ?_
  rintro _ w4 ⟨hb4, ⟨k2, i2, t2, A2, m2, c2, A2', m2', c2', x2, j2, _, hr, _⟩ | ⟨j2, c2, hr, rfl⟩⟩
  · exact absurd hr.out (by intro e; cases e)
  obtain ⟨rfl, rfl⟩ : 7 = j2 ∧ (3 : Int) = c2 := by have := hr.out; injection this with a b; exact ⟨a, b⟩
  have B4 : Hid (Below w.heap.size w w4) := Lib.hid (B3.out.trans (hb4.mono B3.out.size))
  clear hb4 hr
  go_wp2_with fail
  refine (par_3 (S0.out.on (Below.alloc B4.out B4.out.size _))).mono ?_
  rintro _ w5 ⟨hb5, ⟨k2, i2, t2, A2, m2, c2, A2', m2', c2', x2, j2, _, hr, _⟩ | ⟨j2, c2, hr, rfl⟩⟩
  · exact absurd hr.out (by intro e; cases e)
  obtain ⟨rfl, rfl⟩ : 9 = j2 ∧ (9 : Int) = c2 := by have := hr.out; injection this with a b; exact ⟨a, b⟩
  have B5 : Hid (Below w.heap.size w w5) := Lib.hid ((Below.alloc B4.out B4.out.size _).trans (hb5.mono (Below.alloc B4.out B4.out.size _).size))
  clear hb5 hr
  go_wp2_with fail
  refine (par_4 (S0.out.on (Below.alloc B5.out B5.out.size _))).mono ?_
  rintro _ w6 ⟨hb6, ⟨k2, i2, t2, A2, m2, c2, A2', m2', c2', x2, j2, _, hr, _⟩ | ⟨j2, c2, hr, rfl⟩⟩
  · exact absurd hr.out (by intro e; cases e)
  obtain ⟨rfl, rfl⟩ : 3 = j2 ∧ (4 : Int) = c2 := by have := hr.out; injection this with a b; exact ⟨a, b⟩
  have B6 : Hid (Below w.heap.size w w6) := Lib.hid ((Below.alloc B5.out B5.out.size _).trans (hb6.mono (Below.alloc B5.out B5.out.size _).size))
  clear hb6 hr
  go_wp2_with fail
  refine (quo_1 _).mono ?_
  rintro _ w7 ⟨rfl, hb7⟩
  have B7 : Hid (Below w.heap.size w w7) := Lib.hid ((Below.alloc B6.out B6.out.size _).trans (hb7.mono (Below.alloc B6.out B6.out.size _).size))
  clear hb7
  go_wp2
  go_ret
  exact ⟨rfl, B7.out⟩
end Go.Proofs.YtokeppimaffagaaDoor
namespace Go.Proofs.YtokeppimaffagaaDoor
open Go.RowKit

theorem at_mid {α : Type} (pre e post : List α) (k : Nat) (h : k < e.length) : (pre ++ (e ++ post))[pre.length + k]? = e[k]? := by
  rw [List.getElem?_append_right (by omega), show pre.length + k - pre.length = k by omega, List.getElem?_append_left h]

theorem hx_all : ((List.range 16).all fun n => hxd (hxc n) && (hxv (hxc n) == n)) = true := by decide +kernel
theorem hxc_ok {n : Nat} (h : n < 16) : hxd (hxc n) = true ∧ hxv (hxc n) = n := by
  have := List.all_eq_true.1 hx_all n (List.mem_range.2 h)
  rw [Bool.and_eq_true, beq_iff_eq] at this
  exact this

theorem chr_esc (c : UInt8) (pre post : List UInt8) : chrP (pre ++ (escB c ++ post)) pre.length = .ok c (pre.length + (escB c).length) := by
  by_cases h1 : c = 34 ∨ c = 92
  · have HE : escB c = [92, c] := by unfold escB; rw [if_pos h1]
    rw [HE]
    unfold chrP
    rw [tkP_ok (c := 92) (by simp) (by decide)]
    show (if (92 : UInt8) = 92 then escP _ (pre.length + 1) else PR.ok 92 (pre.length + 1)) = _
    rw [if_pos rfl]
    unfold escP
    rw [tkP_ok (c := c) (by simp) (by rcases h1 with rfl | rfl <;> decide)]
    rcases h1 with rfl | rfl <;> rfl
  · by_cases h10 : c = 10
    · subst h10
      show chrP (pre ++ ([92, 110] ++ post)) pre.length = _
      unfold chrP
      rw [tkP_ok (c := 92) (by simp) (by decide)]
      show (if (92 : UInt8) = 92 then escP _ (pre.length + 1) else PR.ok 92 (pre.length + 1)) = _
      rw [if_pos rfl]
      unfold escP
      rw [tkP_ok (c := 110) (by simp) (by decide)]
      rfl
    · by_cases h9 : c = 9
      · subst h9
        show chrP (pre ++ ([92, 116] ++ post)) pre.length = _
        unfold chrP
        rw [tkP_ok (c := 92) (by simp) (by decide)]
        show (if (92 : UInt8) = 92 then escP _ (pre.length + 1) else PR.ok 92 (pre.length + 1)) = _
        rw [if_pos rfl]
        unfold escP
        rw [tkP_ok (c := 116) (by simp) (by decide)]
        rfl
      · cases hp : pln c with
        | true =>
          have HE : escB c = [c] := by unfold escB; rw [if_neg h1, if_neg h10, if_neg h9, hp]; rfl
          rw [HE]
          unfold chrP
          rw [tkP_ok (c := c) (by simp) hp]
          show (if c = 92 then escP _ (pre.length + 1) else _) = _
          rw [if_neg (fun e => h1 (.inr e))]
          rfl
        | false =>
          have HE : escB c = [92, 120, hxc (c.toNat / 16), hxc (c.toNat % 16)] := by unfold escB; rw [if_neg h1, if_neg h10, if_neg h9, hp]; rfl
          have hc : c.toNat < 256 := c.toNat_lt
          obtain ⟨d1, v1⟩ := hxc_ok (n := c.toNat / 16) (by omega)
          obtain ⟨d2, v2⟩ := hxc_ok (n := c.toNat % 16) (by omega)
          rw [HE]
          generalize hxc (c.toNat / 16) = x at *
          generalize hxc (c.toNat % 16) = y at *
          unfold chrP
          rw [tkP_ok (c := 92) (by simp) (by decide)]
          show (if (92 : UInt8) = 92 then escP _ (pre.length + 1) else PR.ok 92 (pre.length + 1)) = _
          rw [if_pos rfl]
          unfold escP
          rw [tkP_ok (c := 120) (by simp) (by decide)]
          rw [PR.bind_ok, if_neg (by decide), if_neg (by decide), if_pos rfl, tkP_ok (c := x) (at_mid pre [92, 120, x, y] post 2 (by simp)) d1, PR.bind_ok, tkP_ok (c := y) (at_mid pre [92, 120, x, y] post 3 (by simp)) d2, PR.bind_ok, v1, v2, show 16 * (c.toNat / 16) + c.toNat % 16 = c.toNat by omega, UInt8.ofNat_toNat]
          rfl
theorem escB_head (c : UInt8) : ∃ d r, escB c = d :: r ∧ d ≠ 34 := by
  unfold escB
  split
  · exact ⟨92, _, rfl, by decide⟩
  · rename_i h
    split
    · exact ⟨92, _, rfl, by decide⟩
    · split
      · exact ⟨92, _, rfl, by decide⟩
      · split
        · exact ⟨92, _, rfl, by decide⟩
        · exact ⟨c, _, rfl, fun e => h (.inl e)⟩
theorem litL_quo (a : Nat) (post : List UInt8) : ∀ (r pre o : List UInt8) (f : Nat), r.length < f →
    litL (pre ++ (r.flatMap escB ++ 34 :: post)) a f pre.length o = if (o ++ r).length ≤ 4096 then .ok (o ++ r) (pre.length + (r.flatMap escB).length + 1) else .err a 6
  | [], pre, o, f, hf => by
    obtain ⟨g, rfl⟩ : ∃ g, f = g + 1 := ⟨f - 1, by simp at hf; omega⟩
    rw [List.flatMap_nil, List.nil_append, litL_quote (by simp), List.append_nil]
    rfl
  | c :: r, pre, o, f, hf => by
    obtain ⟨g, rfl⟩ : ∃ g, f = g + 1 := ⟨f - 1, by simp at hf; omega⟩
    obtain ⟨d, q, hd, hq⟩ := escB_head c
    have a0 : (pre ++ ((c :: r).flatMap escB ++ 34 :: post))[pre.length]? = some d := by
      rw [List.flatMap_cons, List.append_assoc, hd]
      simp
    have hk := chr_esc c pre (r.flatMap escB ++ 34 :: post)
    rw [litL_char a0 hq, List.flatMap_cons, List.append_assoc, hk]
    have ih := litL_quo a post r (pre ++ escB c) (o ++ [c]) g (by simp at hf; omega)
    rw [List.length_append, List.append_assoc] at ih
    show litL _ a g (pre.length + (escB c).length) (o ++ [c]) = _
    rw [ih, List.append_assoc]
    simp only [List.singleton_append, List.length_append]
    rw [← Nat.add_assoc]
theorem parP_quo (r : List UInt8) : parP (32 :: quoL r) = if r.length ≤ 4096 then .ok (.mk 3 0 ⟨r.toArray⟩ [] []) (quoL r).length.succ else .err 1 6 := by
  have hL : (32 :: quoL r) = [32, 34] ++ (r.flatMap escB ++ 34 :: []) := rfl
  have hlen : (32 :: quoL r).length = 2 + (r.flatMap escB).length + 1 := by rw [hL]; simp; omega
  have hsk : skip (32 :: quoL r) 0 = 1 := by
    unfold skip
    rw [run_on (c := 32) (by rfl) (by decide), run_off (c := 34) (by rfl) (by decide)]
  have hr : r.length ≤ (r.flatMap escB).length := by
    have h1 := quoL_len r
    have h2 : (quoL r).length = (r.flatMap escB).length + 2 := by unfold quoL; simp
    omega
  have hq := litL_quo 1 [] r [32, 34] [] ((32 :: quoL r).length + 1) (by omega)
  rw [← hL, List.nil_append] at hq
  unfold parP
  rw [valP, hsk, tkP_ok (c := 34) (by rfl) (by decide)]
  show (if 1000 ≤ 0 then (PR.err 1 6 : PR (VT × Nat)) else bodP (valP (32 :: quoL r) 15) (32 :: quoL r) 34 2 1).bind _ = _
  rw [if_neg (by omega)]
  unfold bodP
  rw [if_neg (by decide), if_neg (by decide), if_neg (by decide), if_pos rfl]
  unfold litP
  show (((litL _ 1 _ 2 []).bind _).bind _).bind _ = _
  have hq' : litL (32 :: quoL r) 1 ((32 :: quoL r).length + 1) 2 [] = if r.length ≤ 4096 then .ok r (32 :: quoL r).length else .err 1 6 := hq.trans (by rw [hlen]; rfl)
  rw [hq']
  by_cases hb : r.length ≤ 4096
  · rw [if_pos hb, if_pos hb]
    show (if skip (32 :: quoL r) (32 :: quoL r).length = (32 :: quoL r).length then _ else _) = _
    have he : skip (32 :: quoL r) (32 :: quoL r).length = (32 :: quoL r).length := run_end (Nat.le_refl _)
    rw [if_pos he, he]
    rfl
  · rw [if_neg hb, if_neg hb]
    rfl
end Go.Proofs.YtokeppimaffagaaDoor
