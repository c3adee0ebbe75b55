/-
  The reference's parser: literal.
-/
import Derived.Test.YtlgmhhimbabkjaaGreatDoorRe
namespace Go.Proofs.YtlgmhhimbabkjaaGreatDoor
open Go.RowKit

/-- what literal gives back: the string; or the fault -/
def LitR (r : PR ByteArray) (p : Nat) (s : ByteArray) (n : Nat) (w : World) (e : Ending) (w' : World) : Prop :=
  (∃ t j, Hid (r = .ok t j) ∧ e = .returned (.string t) ∧ Rn w' p s j n ∧ FrS (One p) w w') ∨ ∃ j c t, Hid (r = .err j c) ∧ e = .returned (.string t) ∧ Bad w' p s j c ∧ FrS (One p) w w'
theorem wrap_rg (x : Int) : -9223372036854775808 ≤ wrap64 x ∧ wrap64 x ≤ 9223372036854775807 := by
  unfold wrap64
  omega
theorem Bad.step {w : World} {p : Nat} {s : ByteArray} {j : Nat} {c i n : Int} (h : Sb w p s i n j c) (hc : c ≠ 0) (k : Int) (hk : -9223372036854775808 ≤ k ∧ k ≤ 9223372036854775807) : Bad (w.setCell ⟨p, 1, none⟩ (.int .i64 k)) p s j c := ⟨k, n, h.to k, hc, hk.1, hk.2⟩

section
variable {w : World} {p : Nat} {s : ByteArray} {i n : Nat}
set_option maxRecDepth 100000 in
set_option maxHeartbeats 8000000 in
theorem rliteral_any (h : Rn w p s i n) (hi : i < s.size) :
    Calls Tryz.prog 54 #[.pointer (some ⟨p, 0, none⟩)] w (LitR (litP s.data.toList (i + 1)) p s n w) := by
  obtain ⟨ti, hti, hz, hsz, hb⟩ := info_parts Tryz.infob
  have H1 := h.2.2.1
  have hp := h.1.lt
  have c1 := h.1.cell 1
  have f1 := h.1.frozen 1
  have HP := Lib.hid (h.to (i + 1) hi)
  have HF := Lib.hid (FrS.one w p 1 (.int .i64 ((i + 1 : Nat) : Int)))
  clear h
  go_enter Tryz.func54, Tryz.ntmps54
  go_wp2_with fail
  have e1 : ((i + 1 : Nat) : Int) = (i : Int) + 1 := by omega
  rw [e1] at HP HF
  generalize w.setCell ⟨p, 1, none⟩ (.int .i64 ((i : Int) + 1)) = w1 at *
  clear c1 f1 e1
  go_loopg [4] (s.size + 2) (fun gh sv wr => ∃ (o : List UInt8) (A : Option Addr) (c k : Nat), sv = .slice A k c ∧ k ≤ c ∧ c ≤ 9223372036854775807 ∧ Hid (o.length = k) ∧ k ≤ 2000000 ∧ Hid (FrS (One p) w wr) ∧ Hid (wr.ownsRow w.heap.size 5 1 (.slice A k c) k (o.map b8)) ∧
      ((∃ j : Nat, s.size + 2 ≤ gh + j ∧ k ≤ j ∧ j ≤ s.size ∧ Hid (Rn wr p s j n) ∧ Hid (litL s.data.toList i (gh - 1) j o = litL s.data.toList i (s.data.toList.length + 1) (i + 1) [])) ∨ ∃ j e, Hid (Bad wr p s j e) ∧ Hid (litP s.data.toList (i + 1) = .err j e)))
  case atStart => exact ⟨[], none, 0, 0, rfl, by omega, by omega, Lib.hid rfl, by omega, HF, Lib.hid ⟨rfl, .inl ⟨rfl, rfl⟩⟩, .inl ⟨i + 1, by omega, by omega, hi, HP, Lib.hid (by rw [list_len]; rfl)⟩⟩
  case round =>
    obtain ⟨o, A, c, k, rfl, hkc, hcm, HO, hk2, HFj, HW, ⟨j, hg, hkj, hj, HJ, HR⟩ | ⟨j, e, HB, HE⟩⟩ := hrel
    · obtain ⟨f, rfl⟩ : ∃ f, gk = f + 1 + 1 := ⟨gk - 2, by omega⟩
      go_wp2_with fail
      refine (rpeek_run HJ.out).mono ?_
      rintro _ w2 (⟨x, hx, rfl, hd⟩ | ⟨hend, rfl, hbad, hf⟩)
      · have HX := Lib.hid hx
        have hjl := at_lt hx
        have HP2 := Lib.hid (HJ.out.dr hd)
        have HF2 := Lib.hid (HFj.out.trans hd.frs)
        have HW2 := Lib.hid (own_frs HW.out (hd.frs (S := One p)) (fun b e => by rw [show b = p from e]; exact hp))
        have c1 := HP2.out.1.cell 1
        have c4 := HP2.out.1.cell 4
        clear hx hd
        by_cases hq : x.toNat = 34
        · have hx34 : x = 34 := UInt8.toNat_inj.1 hq
          have ht : ((x.toNat : Int) == 34) = true := by rw [hq]; rfl
          have HL : Hid (litP s.data.toList (i + 1) = if k ≤ 4096 then .ok ⟨o.toArray⟩ (j + 1) else .err i 6) := Lib.hid (by
            unfold litP
            rw [Nat.add_sub_cancel, ← HR.out, Nat.add_sub_cancel, litL_quote (by rw [← hx34]; exact HX.out), HO.out]
            split <;> rfl)
          have f1 := HP2.out.1.frozen 1
          have HP3 := Lib.hid (HP2.out.to (j + 1) hjl)
          have HF3 := Lib.hid (HF2.out.trans (FrS.one w2 p 1 (.int .i64 ((j + 1 : Nat) : Int))))
          have HW3 := Lib.hid (own_frs HW2.out (FrS.one w2 p 1 (.int .i64 ((j + 1 : Nat) : Int))) (fun b e => by rw [show b = p from e]; exact hp))
          have e1 : ((j + 1 : Nat) : Int) = (j : Int) + 1 := by omega
          rw [e1] at HP3 HF3 HW3
          by_cases hk4 : k ≤ 4096
          · have HE : Hid (litP s.data.toList (i + 1) = .ok ⟨o.toArray⟩ (j + 1)) := Lib.hid (by rw [HL.out, if_pos hk4])
            have hk5 : ¬ (4096 : Int) < (k : Int) := by omega
            have HS := run_str (P := Tryz.prog) (c := c) 38 9 5 Tryz.underlying38 Tryz.underlying5 Tryz.underlying9 (Rb.of_own HW3.out)
            clear hk4 hq hx34
            go_wp2
            go_ret
            exact .inl ⟨_, _, HE, rfl, HP3.out, HF3.out⟩
          · have HE : Hid (litP s.data.toList (i + 1) = .err i 6) := Lib.hid (by rw [HL.out, if_neg hk4])
            have hk5 : (4096 : Int) < (k : Int) := by omega
            clear hk4 hq hx34
            go_wp2_with fail
            generalize w2.setCell ⟨p, 1, none⟩ (.int .i64 ((j : Int) + 1)) = w3 at *
            refine (fail_run HP3.out.1 _ 6).mono ?_
            rintro _ w4 ⟨rfl, hbb, hff⟩
            have HB := Lib.hid hbb
            have HF4 := Lib.hid (HF3.out.trans hff)
            have HW4 := own_frs HW3.out hff (fun b e => by rw [show b = p from e]; exact hp)
            have HS := run_str (P := Tryz.prog) (c := c) 38 9 5 Tryz.underlying38 Tryz.underlying5 Tryz.underlying9 (Rb.of_own HW4)
            clear hbb hff HW4 c1 c4 f1 e1
            go_wp2
            go_ret
            exact .inr ⟨_, _, _, HE, rfl, ⟨_, _, HB.out, by decide, by omega, by omega⟩, HF4.out⟩
        have hx34 : x ≠ 34 := fun e => hq (by rw [e]; rfl)
        have ht : ((x.toNat : Int) == 34) = false := by rw [beq_eq_false_iff_ne]; omega
        have HL : Hid (litL s.data.toList i (f + 1) j o = (chrP s.data.toList j).bind fun y q => litL s.data.toList i f q (o ++ [y])) := Lib.hid (litL_char HX.out hx34)
        have HR1 : Hid (litL s.data.toList i (f + 1) j o = litL s.data.toList i (s.data.toList.length + 1) (i + 1) []) := Lib.hid (by rw [← HR.out, Nat.add_sub_cancel])
        have hxl : x.toNat < 256 := x.toNat_lt
        clear HR
        by_cases hpl : 32 ≤ x.toNat ∧ x.toNat ≤ 126
        · have HPL : Hid (pln x = true) := Lib.hid (by unfold pln; rw [Bool.and_eq_true, decide_eq_true_iff, decide_eq_true_iff, UInt8.le_iff_toNat_le, UInt8.le_iff_toNat_le]; exact hpl)
          obtain ⟨hp1, hp2⟩ := hpl
          have u1 : ¬ (x.toNat : Int) < 32 := by omega
          have u2 : ¬ (126 : Int) < (x.toNat : Int) := by omega
          by_cases h92 : x.toNat = 92
          · have t92 : ((x.toNat : Int) == 92) = true := by rw [h92]; rfl
            have HC : Hid (chrP s.data.toList j = escP s.data.toList (j + 1)) := Lib.hid (by
              unfold chrP
              rw [tkP_ok HX.out HPL.out, PR.bind_ok, if_pos (UInt8.toNat_inj.1 h92)])
            clear h92 hq hx34
            go_wp2_with fail
            refine (escape_any HP2.out hjl).mono ?_
            rintro _ w3 (⟨y, q, hr, rfl, hrn, hfr⟩ | ⟨q, e, hr, rfl, hbad, hfr⟩)
            · have HP3 := Lib.hid hrn
              have HF3 := Lib.hid (HF2.out.trans hfr)
              have HW3 := Lib.hid (own_frs HW2.out hfr (fun b e => by rw [show b = p from e]; exact hp))
              have hq3 : j < q + 1 ∧ q + 1 ≤ s.size := by
                have := chrP_to (HC.out.trans hr)
                rw [list_len] at this
                exact this
              have hj2 := hq3.2
              have hq4 := hq3.1
              have HR2 : Hid (litL s.data.toList i (f + 1 - 1) (q + 1) (o ++ [y]) = litL s.data.toList i (s.data.toList.length + 1) (i + 1) []) := Lib.hid (by rw [Nat.add_sub_cancel, ← HR1.out, HL.out, HC.out, hr]; rfl)
              clear hr hrn hfr c1 c4 hq3
              have HY := Lib.hid (Rb.one w3 5 (y.toNat : Int) y rfl)
              have HBs := Lib.hid HF3.out.size
              go_wp2_with (at_builtin; refine wpList_append_b8 rfl _ _ 38 rfl w.heap.size 5 ti (.int .u8 0) Tryz.underlying38 hti hz hsz hb rfl _ k (o.map b8) rfl (HW3.out.alloc _) (w3.heap.size + 1) (some ⟨w3.heap.size, 0, none⟩) 1 1 [y] rfl HY.out ?_ ?_ ?_)
              · omega
              · rw [World.size_alloc]; have := HBs.out; omega
              · intro v5 w5 ho hg5
                obtain ⟨A5, c5, rfl, he1, he2⟩ := own_form ho
                have HO5 : Hid (w5.ownsRow w.heap.size 5 1 (.slice A5 (k + 1) c5) (k + 1) ((o ++ [y]).map b8)) := Lib.hid (by rw [List.map_append]; exact ho)
                have hbase := own_base HW3.out
                have hk5 : ∀ (t : TypeId) (cs : Array Value), Bk w3 p t cs → Bk w5 p t cs := fun t cs hbk => Bk.grown (Bk.alloc hbk _) hg5 (fun e => by have := hbase p e.symm; omega)
                have HF5 : Hid (FrS (One p) w w5) := Lib.hid (HF3.out.next ((FrS.of_below ((Below.refl _ _).alloc (Nat.le_refl _) _)).trans (FrS.of_row (S := fun b => (Value.slice A k c).ownBlock = some b) hg5 (fun q h => h))) (fun b hb e => by have := hbase b e; omega))
                have HL5 : Hid ((o ++ [y]).length = k + 1) := Lib.hid (by rw [List.length_append, HO.out]; rfl)
                have he3 : c5 ≤ 9223372036854775807 := by unfold maxLen at he2; omega
                clear ho hg5 hbase
                have HP5 : Hid (Rn w5 p s q n) := Lib.hid (HP3.out.bk (hk5 _ _ HP3.out.1))
                have c1 := HP5.out.1.cell 1
                have f1 := HP5.out.1.frozen 1
                have HP6 := Lib.hid (HP5.out.to (q + 1) hj2)
                have HF6 := Lib.hid (HF5.out.trans (FrS.one w5 p 1 (.int .i64 ((q + 1 : Nat) : Int))))
                have HO6 := Lib.hid (own_frs HO5.out (FrS.one w5 p 1 (.int .i64 ((q + 1 : Nat) : Int))) (fun b e => by rw [show b = p from e]; exact hp))
                have e1 : ((q + 1 : Nat) : Int) = (q : Int) + 1 := by omega
                rw [e1] at HP6 HF6 HO6
                clear hk5 HP5 HF5
                go_wp2
                generalize w5.setCell ⟨p, 1, none⟩ (.int .i64 ((q : Int) + 1)) = w6 at *
                go_roundg (f + 1)
                case measure => omega
                case rel => exact ⟨_, A5, c5, k + 1, rfl, he1, he3, HL5, by omega, HF6, HO6, .inl ⟨q + 1, by omega, by omega, hj2, HP6, HR2⟩⟩
            · have HB3 := Lib.hid hbad
              have HF3 := Lib.hid (HF2.out.trans hfr)
              have HW3 := Lib.hid (own_frs HW2.out hfr (fun b e => by rw [show b = p from e]; exact hp))
              have HE : Hid (litP s.data.toList (i + 1) = .err q e) := Lib.hid (by
                unfold litP
                rw [Nat.add_sub_cancel, ← HR1.out, HL.out, HC.out, hr]; rfl)
              obtain ⟨i3, n3, hb3, he0, _, _⟩ := hbad
              clear hr hfr c1 c4
              have HY := Lib.hid (Rb.one w3 5 ((0 : UInt8).toNat : Int) (0 : UInt8) rfl)
              have HBs := Lib.hid HF3.out.size
              go_wp2_with (at_builtin; refine wpList_append_b8 rfl _ _ 38 rfl w.heap.size 5 ti (.int .u8 0) Tryz.underlying38 hti hz hsz hb rfl _ k (o.map b8) rfl (HW3.out.alloc _) (w3.heap.size + 1) (some ⟨w3.heap.size, 0, none⟩) 1 1 [(0 : UInt8)] rfl HY.out ?_ ?_ ?_)
              · omega
              · rw [World.size_alloc]; have := HBs.out; omega
              · intro v5 w5 ho hg5
                obtain ⟨A5, c5, rfl, he1, he2⟩ := own_form ho
                have HO5 : Hid (w5.ownsRow w.heap.size 5 1 (.slice A5 (k + 1) c5) (k + 1) ((o ++ [(0 : UInt8)]).map b8)) := Lib.hid (by rw [List.map_append]; exact ho)
                have hbase := own_base HW3.out
                have hk5 : ∀ (t : TypeId) (cs : Array Value), Bk w3 p t cs → Bk w5 p t cs := fun t cs hbk => Bk.grown (Bk.alloc hbk _) hg5 (fun e => by have := hbase p e.symm; omega)
                have HF5 : Hid (FrS (One p) w w5) := Lib.hid (HF3.out.next ((FrS.of_below ((Below.refl _ _).alloc (Nat.le_refl _) _)).trans (FrS.of_row (S := fun b => (Value.slice A k c).ownBlock = some b) hg5 (fun q h => h))) (fun b hb e => by have := hbase b e; omega))
                have HL5 : Hid ((o ++ [(0 : UInt8)]).length = k + 1) := Lib.hid (by rw [List.length_append, HO.out]; rfl)
                have he3 : c5 ≤ 9223372036854775807 := by unfold maxLen at he2; omega
                clear ho hg5 hbase
                have HB5 := hk5 _ _ hb3
                have c1 := HB5.cell 1
                have f1 := HB5.frozen 1
                have HB6 := Lib.hid (Bad.step HB5 he0 (wrap64 (i3 + 1)) (wrap_rg _))
                have HF6 := Lib.hid (HF5.out.trans (FrS.one w5 p 1 (.int .i64 (wrap64 (i3 + 1)))))
                have HO6 := Lib.hid (own_frs HO5.out (FrS.one w5 p 1 (.int .i64 (wrap64 (i3 + 1)))) (fun b e => by rw [show b = p from e]; exact hp))
                clear hk5 HF5 HB5
                go_wp2
                generalize w5.setCell ⟨p, 1, none⟩ (.int .i64 (wrap64 (i3 + 1))) = w6 at *
                go_roundg (f + 1)
                case measure => omega
                case rel => exact ⟨_, A5, c5, k + 1, rfl, he1, he3, HL5, by omega, HF6, HO6, .inr ⟨q, e, HB6, HE⟩⟩
          · have t92 : ((x.toNat : Int) == 92) = false := by rw [beq_eq_false_iff_ne]; omega
            have HC : Hid (chrP s.data.toList j = .ok x (j + 1)) := Lib.hid (by
              unfold chrP
              rw [tkP_ok HX.out HPL.out, PR.bind_ok, if_neg (fun e => h92 (by rw [e]; rfl))])
            have hj2 := hjl
            have HR2 : Hid (litL s.data.toList i (f + 1 - 1) (j + 1) (o ++ [x]) = litL s.data.toList i (s.data.toList.length + 1) (i + 1) []) := Lib.hid (by rw [Nat.add_sub_cancel, ← HR1.out, HL.out, HC.out]; rfl)
            clear h92 hq hx34 c1
            have HY := Lib.hid (Rb.one w2 5 (x.toNat : Int) x rfl)
            have HBs := Lib.hid HF2.out.size
            go_wp2_with (at_builtin; refine wpList_append_b8 rfl _ _ 38 rfl w.heap.size 5 ti (.int .u8 0) Tryz.underlying38 hti hz hsz hb rfl _ k (o.map b8) rfl (HW2.out.alloc _) (w2.heap.size + 1) (some ⟨w2.heap.size, 0, none⟩) 1 1 [x] rfl HY.out ?_ ?_ ?_)
            · omega
            · rw [World.size_alloc]; have := HBs.out; omega
            · intro v5 w5 ho hg5
              obtain ⟨A5, c5, rfl, he1, he2⟩ := own_form ho
              have HO5 : Hid (w5.ownsRow w.heap.size 5 1 (.slice A5 (k + 1) c5) (k + 1) ((o ++ [x]).map b8)) := Lib.hid (by rw [List.map_append]; exact ho)
              have hbase := own_base HW2.out
              have hk5 : ∀ (t : TypeId) (cs : Array Value), Bk w2 p t cs → Bk w5 p t cs := fun t cs hbk => Bk.grown (Bk.alloc hbk _) hg5 (fun e => by have := hbase p e.symm; omega)
              have HF5 : Hid (FrS (One p) w w5) := Lib.hid (HF2.out.next ((FrS.of_below ((Below.refl _ _).alloc (Nat.le_refl _) _)).trans (FrS.of_row (S := fun b => (Value.slice A k c).ownBlock = some b) hg5 (fun q h => h))) (fun b hb e => by have := hbase b e; omega))
              have HL5 : Hid ((o ++ [x]).length = k + 1) := Lib.hid (by rw [List.length_append, HO.out]; rfl)
              have he3 : c5 ≤ 9223372036854775807 := by unfold maxLen at he2; omega
              clear ho hg5 hbase
              have HP5 : Hid (Rn w5 p s j n) := Lib.hid (HP2.out.bk (hk5 _ _ HP2.out.1))
              have c1 := HP5.out.1.cell 1
              have f1 := HP5.out.1.frozen 1
              have HP6 := Lib.hid (HP5.out.to (j + 1) hj2)
              have HF6 := Lib.hid (HF5.out.trans (FrS.one w5 p 1 (.int .i64 ((j + 1 : Nat) : Int))))
              have HO6 := Lib.hid (own_frs HO5.out (FrS.one w5 p 1 (.int .i64 ((j + 1 : Nat) : Int))) (fun b e => by rw [show b = p from e]; exact hp))
              have e1 : ((j + 1 : Nat) : Int) = (j : Int) + 1 := by omega
              rw [e1] at HP6 HF6 HO6
              clear hk5 HP5 HF5
              go_wp2
              generalize w5.setCell ⟨p, 1, none⟩ (.int .i64 ((j : Int) + 1)) = w6 at *
              go_roundg (f + 1)
              case measure => omega
              case rel => exact ⟨_, A5, c5, k + 1, rfl, he1, he3, HL5, by omega, HF6, HO6, .inl ⟨j + 1, by omega, by omega, hj2, HP6, HR2⟩⟩
        · have HE : Hid (litP s.data.toList (i + 1) = .err j 3) := Lib.hid (by
            unfold litP
            rw [Nat.add_sub_cancel, ← HR1.out, HL.out]
            unfold chrP
            rw [tkP_no HX.out]
            · rfl
            · rw [Bool.eq_false_iff]
              unfold pln
              intro e
              rw [Bool.and_eq_true, decide_eq_true_iff, decide_eq_true_iff, UInt8.le_iff_toNat_le, UInt8.le_iff_toNat_le] at e
              exact hpl e)
          have hcase : (x.toNat : Int) < 32 ∨ (¬ (x.toNat : Int) < 32 ∧ (126 : Int) < (x.toNat : Int)) := by omega
          clear hpl hq hx34
          rcases hcase with u1 | ⟨u1, u2⟩
          all_goals (
            go_wp2_with fail
            refine (fail_run HP2.out.1 _ 3).mono ?_
            rintro _ w3 ⟨rfl, hbb, hff⟩
            have HB := Lib.hid hbb
            have HF3 := Lib.hid (HF2.out.trans hff)
            clear hbb hff c1 c4
            go_wp2
            go_ret
            exact .inr ⟨_, _, _, HE, rfl, ⟨_, _, HB.out, by decide, by omega, by omega⟩, HF3.out⟩)
      · have HE : Hid (litP s.data.toList (i + 1) = .err j 4) := Lib.hid (by unfold litP; rw [Nat.add_sub_cancel, ← HR.out, litL_none hend]; rfl)
        have HB := Lib.hid hbad
        have HF2 := Lib.hid (HFj.out.trans hf)
        obtain ⟨i2, n2, hb2, _, _, _⟩ := hbad
        have c4 := hb2.cell 4
        clear hf hend hb2
        go_wp2_with fail
        go_ret
        exact .inr ⟨_, _, _, HE, rfl, HB.out, HF2.out⟩
    · obtain ⟨i2, n2, hb2, he0, _, _⟩ := HB.out
      go_wp2_with fail
      refine (rpeek_bad HB.out).mono ?_
      rintro _ w2 ⟨rfl, hd⟩
      have c4 := (hd.bk hb2).cell 4
      have HB2 := Lib.hid (HB.out.dr hd)
      have HF2 := Lib.hid (HFj.out.trans hd.frs)
      have he1 : (e == 0) = false := beq_eq_false_iff_ne.2 he0
      have he2 : (e != 0) = true := by rw [bne_iff_ne]; exact he0
      clear hd hb2
      go_wp2_with fail
      go_ret
      exact .inr ⟨_, _, _, HE, rfl, HB2.out, HF2.out⟩
end
end Go.Proofs.YtlgmhhimbabkjaaGreatDoor
