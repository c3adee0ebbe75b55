/-
  Contract of literal, of the reference. (gen_kx.py)
-/
import Derived.Test.YtemdcgeopaphaaaDoorKu
namespace Go.Proofs.YtemdcgeopaphaaaDoor
open Go.RowKit

/-- what the reference's literal hands back -/
def litV : TR → Value
  | .ok _ t _ n => .tuple #[strV t, .int .i64 (n : Nat), .int .i64 0]
  | .err e => .tuple #[.string ⟨#[]⟩, .int .i64 0, .int .i64 e]
theorem ret_lit {a b : TR} (h : a = b) : Ending.returned (litV a) = .returned (litV b) := by rw [h]
theorem chr_pln {c : UInt8} {r : List UInt8} (h : plnT c = true) : chrC (c :: r) = .ok c 1 := if_pos h
theorem chr_no {c : UInt8} {r : List UInt8} (h : plnT c = false) (h2 : c ≠ 92) : chrC (c :: r) = .err 3 := by
  show (if plnT c = true then CR.ok c 1 else if c = 92 then escC r else .err 3) = .err 3
  rw [if_neg (by rw [h]; decide), if_neg h2]
theorem chr_esc92 {r : List UInt8} : chrC (92 :: r) = escC r := rfl
theorem pln_yes {c : UInt8} (h1 : 32 ≤ c.toNat) (h2 : c.toNat ≤ 126) (h3 : c.toNat ≠ 34) (h4 : c.toNat ≠ 92) : plnT c = true := by
  rw [pln_nat, decide_eq_true ⟨h1, h2⟩, decide_eq_false h3, decide_eq_false h4]; rfl
theorem pln_out {c : UInt8} (h : ¬ (32 ≤ c.toNat ∧ c.toNat ≤ 126)) : plnT c = false := by
  rw [pln_nat, decide_eq_false h]; rfl
set_option maxRecDepth 100000 in
set_option maxHeartbeats 16000000 in
theorem rliteral_any (t : ByteArray) (w : World) (h1 : 1 ≤ t.size) (hz : t.size ≤ 1000000) :
    Calls Tryd.prog 40 #[.string t] w fun e w' => e = .returned (litV (litT t.data.toList)) ∧ Below w.heap.size w w' := by
  obtain ⟨ti, hti, hz8, hsz, hb8⟩ := info_parts Tryd.infob
  have hl : t.data.toList.length = t.size := by simp
  go_enter Tryd.func40, Tryd.ntmps40
  go_wp2_with fail
  go_loopg [5, 6] (t.size + 1) (fun gh sv iv wr => ∃ (i k c : Nat) (A : Option Addr) (o : List UInt8), sv = .slice A k c ∧ iv = .int .i64 i ∧ i ≤ t.size ∧ t.size + 2 ≤ gh + i ∧ k ≤ i ∧ k ≤ c ∧ c ≤ 9223372036854775807 ∧ Hid (o.length = k) ∧
    Hid (Below w.heap.size w wr) ∧ Hid (wr.ownsRow w.heap.size 5 1 (.slice A k c) k (o.map b8)) ∧ Hid (litG t.data.toList gh i o = litT t.data.toList))
  case atStart => exact ⟨1, 0, 0, none, [], rfl, rfl, h1, by omega, by omega, by omega, by omega, Lib.hid rfl, Lib.hid (Below.refl _ _), Lib.hid (World.ownsRow_nil _ _ _ _), Lib.hid (by unfold litT; rw [hl])⟩
  case round =>
    obtain ⟨i, k, c, A, o, rfl, rfl, hi, hg, hki, hkc, hcm, HO, HB, HW, HR⟩ := hrel
    obtain ⟨f, rfl⟩ : ∃ f, gk = f + 1 := ⟨gk - 1, by omega⟩
    by_cases hlt : i < t.size
    · have HX := Lib.hid (in_at hlt)
      have hxl := t[i].toNat_lt
      have hd0 := drop_at hlt
      have HD := Lib.hid hd0
      clear hd0
      by_cases h34 : t[i].toNat = 34
      · have t34 : ((t[i].toNat : Int) == 34) = true := by rw [beq_iff_eq]; omega
        have HL : Hid (litT t.data.toList = if 4096 < o.length then .err 6 else .ok 4 o 0 (i + 1)) := Lib.hid (by rw [← HR.out, lit_quo HX.out (eq_nat.2 h34)])
        clear h34
        by_cases h4 : 4096 < k
        · have h4i : (4096 : Int) < (k : Int) := by omega
          have HE : Hid (litT t.data.toList = .err 6) := Lib.hid (by rw [HL.out, HO.out, if_pos h4])
          go_wp2_with fail
          go_ret3
          exact ⟨ret_lit HE.out.symm, HB.out⟩
        · have HE : Hid (litT t.data.toList = .ok 4 o 0 (i + 1)) := Lib.hid (by rw [HL.out, HO.out, if_neg h4])
          have h4i : ¬ (4096 : Int) < (k : Int) := by omega
          have HS := run_str (P := Tryd.prog) (c := c) 44 9 5 Tryd.underlying44 Tryd.underlying5 Tryd.underlying9 (Rb.of_own HW.out)
          go_wp2_with fail
          go_ret3
          exact ⟨by rw [HE.out]; rfl, HB.out⟩
      have t34 : ((t[i].toNat : Int) == 34) = false := by rw [beq_eq_false_iff_ne]; omega
      have HN34 : Hid (t[i] ≠ 34) := Lib.hid (fun e => h34 (eq_nat.1 e))
      by_cases h32 : 32 ≤ t[i].toNat ∧ t[i].toNat ≤ 126
      case neg =>
        have H32 := Lib.hid h32
        have HC : Hid (chrC (t.data.toList.drop i) = .err 3) := Lib.hid (by rw [HD.out]; exact chr_no (pln_out H32.out) (fun e => by have := eq_nat.1 e; have := H32.out; have e9 : (92 : UInt8).toNat = 92 := rfl; omega))
        have HE : Hid (litT t.data.toList = .err 3) := Lib.hid (by rw [← HR.out, lit_bad HX.out HN34.out HC.out])
        by_cases hlo : t[i].toNat < 32
        · have g1 : (t[i].toNat : Int) < 32 := by omega
          clear h34 h32 hlo
          go_wp2_with fail
          go_ret3
          exact ⟨ret_lit HE.out.symm, HB.out⟩
        · have g1 : ¬ (t[i].toNat : Int) < 32 := by omega
          have g2 : (126 : Int) < (t[i].toNat : Int) := by omega
          clear h34 h32 hlo
          go_wp2_with fail
          go_ret3
          exact ⟨ret_lit HE.out.symm, HB.out⟩
      case pos =>
        obtain ⟨hlo, hhi⟩ := h32
        have g1 : ¬ (t[i].toNat : Int) < 32 := by omega
        have g2 : ¬ (126 : Int) < (t[i].toNat : Int) := by omega
        by_cases h92 : t[i].toNat = 92
        case neg =>
          have HP := Lib.hid (pln_yes hlo hhi h34 h92)
          have t92 : ((t[i].toNat : Int) == 92) = false := by rw [beq_eq_false_iff_ne]; omega
          have t92n : ((t[i].toNat : Int) != 92) = true := by rw [bne_iff_ne]; omega
          clear hlo hhi h34 h92
          have HR2 : Hid (litG t.data.toList f (i + 1) (o ++ [t[i]]) = litT t.data.toList) := Lib.hid (by rw [← HR.out, lit_chr HX.out HN34.out (by rw [HD.out]; exact chr_pln HP.out)])
          have HRB := Lib.hid (fun (V : World) => Rb.lit V 5 [t[i]])
          have HK1 : Hid (k + 1 ≤ 140737488355328) := Lib.hid (by omega)
          go_wp2_with (at_builtin; refine wpList_append_b8 rfl _ _ 44 rfl w.heap.size 5 ti (.int .u8 0) Tryd.underlying44 hti hz8 hsz hb8 rfl _ k (o.map b8) rfl (HW.out.alloc _) (wr.heap.size + 1) (some ⟨wr.heap.size, 0, none⟩) 1 1 [t[i]] rfl (HRB.out wr) ?_ ?_ ?_)
          · have := HK1.out; omega
          · have := HB.out.size; first | omega | (rw [World.size_alloc]; omega)
          · intro v5 w5 ho hg5
            obtain ⟨A5, c5, rfl, he1, he2⟩ := own_form ho
            have HW5 : Hid (w5.ownsRow w.heap.size 5 1 (.slice A5 (k + 1) c5) (k + 1) ((o ++ [t[i]]).map b8)) := Lib.hid (by rw [List.map_append]; exact ho)
            have HL5 : Hid ((o ++ [t[i]]).length = k + 1) := Lib.hid (by rw [List.length_append, HO.out]; rfl)
            have HB5 : Hid (Below w.heap.size w w5) := Lib.hid (by
              have hA : Below w.heap.size w (wr.alloc (.cells (List.toArray ([t[i]].map b8)) 5)) := Below.alloc HB.out HB.out.size _
              exact hA.grown hg5 hA.size (own_lt HW.out))
            have he3 : c5 ≤ 9223372036854775807 := by unfold maxLen at he2; omega
            clear ho hg5
            go_wp2_with fail
            go_roundg f
            case measure => omega
            case rel => exact ⟨i + 1, k + 1, c5, A5, o ++ [t[i]], rfl, by go_num, by omega, by omega, by omega, he1, he3, HL5, HB5, HW5, HR2⟩
        case pos =>
          have t92 : ((t[i].toNat : Int) == 92) = true := by rw [beq_iff_eq]; omega
          have t92n : ((t[i].toNat : Int) != 92) = false := by rw [bne_eq_false_iff_eq]; omega
          have HC : Hid (chrC (t.data.toList.drop i) = escC (t.data.toList.drop (i + 1))) := Lib.hid (by rw [HD.out, show t[i] = 92 from eq_nat.2 h92]; rfl)
          clear hlo hhi h34 h92
          by_cases hs1 : i + 1 < t.size
          case neg =>
            have g3 : (t.size : Int) ≤ (i : Int) + 1 := by omega
            have HE : Hid (litT t.data.toList = .err 4) := Lib.hid (by rw [← HR.out, lit_bad HX.out HN34.out (by rw [HC.out, List.drop_of_length_le (by rw [hl]; omega)]; rfl)])
            go_wp2_with fail
            go_ret3
            exact ⟨ret_lit HE.out.symm, HB.out⟩
          case pos =>
            have g3 : ¬ (t.size : Int) ≤ (i : Int) + 1 := by omega
            have g3b : (i : Int) + 1 < (t.size : Int) := by omega
            have hd1 := drop_at hs1
            have HD1 := Lib.hid hd1
            have hxl1 := t[i + 1].toNat_lt
            clear hd1
            by_cases a1 : t[i + 1].toNat = 34
            · have t1 : ((t[i + 1].toNat : Int) == 34) = true := by rw [beq_iff_eq]; omega
              have HQ : Hid (chrC (t.data.toList.drop i) = .ok t[i + 1] 2) := Lib.hid (by rw [HC.out, HD1.out]; exact if_pos (.inl (eq_nat.2 a1)))
              clear a1
              have HR2 : Hid (litG t.data.toList f (i + 2) (o ++ [t[i + 1]]) = litT t.data.toList) := Lib.hid (by rw [← HR.out, lit_chr HX.out HN34.out HQ.out])
              have HRB := Lib.hid (fun (V : World) => Rb.lit V 5 [t[i + 1]])
              have HK1 : Hid (k + 1 ≤ 140737488355328) := Lib.hid (by omega)
              go_wp2_with (at_builtin; refine wpList_append_b8 rfl _ _ 44 rfl w.heap.size 5 ti (.int .u8 0) Tryd.underlying44 hti hz8 hsz hb8 rfl _ k (o.map b8) rfl (HW.out.alloc _) (wr.heap.size + 1) (some ⟨wr.heap.size, 0, none⟩) 1 1 [t[i + 1]] rfl (HRB.out wr) ?_ ?_ ?_)
              · have := HK1.out; omega
              · have := HB.out.size; first | omega | (rw [World.size_alloc]; omega)
              · intro v5 w5 ho hg5
                obtain ⟨A5, c5, rfl, he1, he2⟩ := own_form ho
                have HW5 : Hid (w5.ownsRow w.heap.size 5 1 (.slice A5 (k + 1) c5) (k + 1) ((o ++ [t[i + 1]]).map b8)) := Lib.hid (by rw [List.map_append]; exact ho)
                have HL5 : Hid ((o ++ [t[i + 1]]).length = k + 1) := Lib.hid (by rw [List.length_append, HO.out]; rfl)
                have HB5 : Hid (Below w.heap.size w w5) := Lib.hid (by
                  have hA : Below w.heap.size w (wr.alloc (.cells (List.toArray ([t[i + 1]].map b8)) 5)) := Below.alloc HB.out HB.out.size _
                  exact hA.grown hg5 hA.size (own_lt HW.out))
                have he3 : c5 ≤ 9223372036854775807 := by unfold maxLen at he2; omega
                clear ho hg5
                go_wp2_with fail
                go_roundg f
                case measure => omega
                case rel => exact ⟨i + 2, k + 1, c5, A5, o ++ [t[i + 1]], rfl, by go_num, by omega, by omega, by omega, he1, he3, HL5, HB5, HW5, HR2⟩
            have t1 : ((t[i + 1].toNat : Int) == 34) = false := by rw [beq_eq_false_iff_ne]; omega
            by_cases a2 : t[i + 1].toNat = 92
            · have t2 : ((t[i + 1].toNat : Int) == 92) = true := by rw [beq_iff_eq]; omega
              have HQ : Hid (chrC (t.data.toList.drop i) = .ok t[i + 1] 2) := Lib.hid (by rw [HC.out, HD1.out]; exact if_pos (.inr (eq_nat.2 a2)))
              clear a1 a2
              have HR2 : Hid (litG t.data.toList f (i + 2) (o ++ [t[i + 1]]) = litT t.data.toList) := Lib.hid (by rw [← HR.out, lit_chr HX.out HN34.out HQ.out])
              have HRB := Lib.hid (fun (V : World) => Rb.lit V 5 [t[i + 1]])
              have HK1 : Hid (k + 1 ≤ 140737488355328) := Lib.hid (by omega)
              go_wp2_with (at_builtin; refine wpList_append_b8 rfl _ _ 44 rfl w.heap.size 5 ti (.int .u8 0) Tryd.underlying44 hti hz8 hsz hb8 rfl _ k (o.map b8) rfl (HW.out.alloc _) (wr.heap.size + 1) (some ⟨wr.heap.size, 0, none⟩) 1 1 [t[i + 1]] rfl (HRB.out wr) ?_ ?_ ?_)
              · have := HK1.out; omega
              · have := HB.out.size; first | omega | (rw [World.size_alloc]; omega)
              · intro v5 w5 ho hg5
                obtain ⟨A5, c5, rfl, he1, he2⟩ := own_form ho
                have HW5 : Hid (w5.ownsRow w.heap.size 5 1 (.slice A5 (k + 1) c5) (k + 1) ((o ++ [t[i + 1]]).map b8)) := Lib.hid (by rw [List.map_append]; exact ho)
                have HL5 : Hid ((o ++ [t[i + 1]]).length = k + 1) := Lib.hid (by rw [List.length_append, HO.out]; rfl)
                have HB5 : Hid (Below w.heap.size w w5) := Lib.hid (by
                  have hA : Below w.heap.size w (wr.alloc (.cells (List.toArray ([t[i + 1]].map b8)) 5)) := Below.alloc HB.out HB.out.size _
                  exact hA.grown hg5 hA.size (own_lt HW.out))
                have he3 : c5 ≤ 9223372036854775807 := by unfold maxLen at he2; omega
                clear ho hg5
                go_wp2_with fail
                go_roundg f
                case measure => omega
                case rel => exact ⟨i + 2, k + 1, c5, A5, o ++ [t[i + 1]], rfl, by go_num, by omega, by omega, by omega, he1, he3, HL5, HB5, HW5, HR2⟩
            have t2 : ((t[i + 1].toNat : Int) == 92) = false := by rw [beq_eq_false_iff_ne]; omega
            have NO : Hid (¬ (t[i + 1] = 34 ∨ t[i + 1] = 92)) := Lib.hid (by rintro (h | h); exact a1 (eq_nat.1 h); exact a2 (eq_nat.1 h))
            clear a1 a2
            by_cases a3 : t[i + 1].toNat = 110
            · have t3 : ((t[i + 1].toNat : Int) == 110) = true := by rw [beq_iff_eq]; omega
              have HQ : Hid (chrC (t.data.toList.drop i) = .ok 10 2) := Lib.hid (by rw [HC.out, HD1.out]; unfold escC; simp only; rw [if_neg NO.out, if_pos (eq_nat.2 a3)])
              clear a3
              have HR2 : Hid (litG t.data.toList f (i + 2) (o ++ [(10 : UInt8)]) = litT t.data.toList) := Lib.hid (by rw [← HR.out, lit_chr HX.out HN34.out HQ.out])
              have HRB := Lib.hid (fun (V : World) => Rb.lit V 5 [(10 : UInt8)])
              have HK1 : Hid (k + 1 ≤ 140737488355328) := Lib.hid (by omega)
              go_wp2_with (at_builtin; refine wpList_append_b8 rfl _ _ 44 rfl w.heap.size 5 ti (.int .u8 0) Tryd.underlying44 hti hz8 hsz hb8 rfl _ k (o.map b8) rfl (HW.out.alloc _) (wr.heap.size + 1) (some ⟨wr.heap.size, 0, none⟩) 1 1 [(10 : UInt8)] rfl (HRB.out wr) ?_ ?_ ?_)
              · have := HK1.out; omega
              · have := HB.out.size; first | omega | (rw [World.size_alloc]; omega)
              · intro v5 w5 ho hg5
                obtain ⟨A5, c5, rfl, he1, he2⟩ := own_form ho
                have HW5 : Hid (w5.ownsRow w.heap.size 5 1 (.slice A5 (k + 1) c5) (k + 1) ((o ++ [(10 : UInt8)]).map b8)) := Lib.hid (by rw [List.map_append]; exact ho)
                have HL5 : Hid ((o ++ [(10 : UInt8)]).length = k + 1) := Lib.hid (by rw [List.length_append, HO.out]; rfl)
                have HB5 : Hid (Below w.heap.size w w5) := Lib.hid (by
                  have hA : Below w.heap.size w (wr.alloc (.cells (List.toArray ([(10 : UInt8)].map b8)) 5)) := Below.alloc HB.out HB.out.size _
                  exact hA.grown hg5 hA.size (own_lt HW.out))
                have he3 : c5 ≤ 9223372036854775807 := by unfold maxLen at he2; omega
                clear ho hg5
                go_wp2_with fail
                go_roundg f
                case measure => omega
                case rel => exact ⟨i + 2, k + 1, c5, A5, o ++ [(10 : UInt8)], rfl, by go_num, by omega, by omega, by omega, he1, he3, HL5, HB5, HW5, HR2⟩
            have t3 : ((t[i + 1].toNat : Int) == 110) = false := by rw [beq_eq_false_iff_ne]; omega
            have N3 : Hid (¬ t[i + 1] = 110) := Lib.hid (fun h => a3 (eq_nat.1 h))
            clear a3
            by_cases a4 : t[i + 1].toNat = 116
            · have t4 : ((t[i + 1].toNat : Int) == 116) = true := by rw [beq_iff_eq]; omega
              have HQ : Hid (chrC (t.data.toList.drop i) = .ok 9 2) := Lib.hid (by rw [HC.out, HD1.out]; unfold escC; simp only; rw [if_neg NO.out, if_neg N3.out, if_pos (eq_nat.2 a4)])
              clear a4
              have HR2 : Hid (litG t.data.toList f (i + 2) (o ++ [(9 : UInt8)]) = litT t.data.toList) := Lib.hid (by rw [← HR.out, lit_chr HX.out HN34.out HQ.out])
              have HRB := Lib.hid (fun (V : World) => Rb.lit V 5 [(9 : UInt8)])
              have HK1 : Hid (k + 1 ≤ 140737488355328) := Lib.hid (by omega)
              go_wp2_with (at_builtin; refine wpList_append_b8 rfl _ _ 44 rfl w.heap.size 5 ti (.int .u8 0) Tryd.underlying44 hti hz8 hsz hb8 rfl _ k (o.map b8) rfl (HW.out.alloc _) (wr.heap.size + 1) (some ⟨wr.heap.size, 0, none⟩) 1 1 [(9 : UInt8)] rfl (HRB.out wr) ?_ ?_ ?_)
              · have := HK1.out; omega
              · have := HB.out.size; first | omega | (rw [World.size_alloc]; omega)
              · intro v5 w5 ho hg5
                obtain ⟨A5, c5, rfl, he1, he2⟩ := own_form ho
                have HW5 : Hid (w5.ownsRow w.heap.size 5 1 (.slice A5 (k + 1) c5) (k + 1) ((o ++ [(9 : UInt8)]).map b8)) := Lib.hid (by rw [List.map_append]; exact ho)
                have HL5 : Hid ((o ++ [(9 : UInt8)]).length = k + 1) := Lib.hid (by rw [List.length_append, HO.out]; rfl)
                have HB5 : Hid (Below w.heap.size w w5) := Lib.hid (by
                  have hA : Below w.heap.size w (wr.alloc (.cells (List.toArray ([(9 : UInt8)].map b8)) 5)) := Below.alloc HB.out HB.out.size _
                  exact hA.grown hg5 hA.size (own_lt HW.out))
                have he3 : c5 ≤ 9223372036854775807 := by unfold maxLen at he2; omega
                clear ho hg5
                go_wp2_with fail
                go_roundg f
                case measure => omega
                case rel => exact ⟨i + 2, k + 1, c5, A5, o ++ [(9 : UInt8)], rfl, by go_num, by omega, by omega, by omega, he1, he3, HL5, HB5, HW5, HR2⟩
            have t4 : ((t[i + 1].toNat : Int) == 116) = false := by rw [beq_eq_false_iff_ne]; omega
            have N4 : Hid (¬ t[i + 1] = 116) := Lib.hid (fun h => a4 (eq_nat.1 h))
            clear a4
            by_cases a5 : t[i + 1].toNat = 120
            case neg =>
              have t5 : ((t[i + 1].toNat : Int) == 120) = false := by rw [beq_eq_false_iff_ne]; omega
              have HQ : Hid (chrC (t.data.toList.drop i) = .err 3) := Lib.hid (by rw [HC.out, HD1.out]; unfold escC; simp only; rw [if_neg NO.out, if_neg N3.out, if_neg N4.out, if_neg (fun h => a5 (eq_nat.1 h))])
              clear a5
              have HE : Hid (litT t.data.toList = .err 3) := Lib.hid (by rw [← HR.out, lit_bad HX.out HN34.out HQ.out])
              go_wp2_with fail
              go_ret3
              exact ⟨ret_lit HE.out.symm, HB.out⟩
            case pos =>
              have t5 : ((t[i + 1].toNat : Int) == 120) = true := by rw [beq_iff_eq]; omega
              have HQ : Hid (chrC (t.data.toList.drop i) = hexC (t.data.toList.drop (i + 1 + 1))) := Lib.hid (by rw [HC.out, HD1.out]; unfold escC; simp only; rw [if_neg NO.out, if_neg N3.out, if_neg N4.out, if_pos (eq_nat.2 a5)])
              clear a5
              by_cases hs2 : i + 2 < t.size
              case neg =>
                have g4 : (t.size : Int) ≤ (i : Int) + 2 := by omega
                have HE : Hid (litT t.data.toList = .err 4) := Lib.hid (by rw [← HR.out, lit_bad HX.out HN34.out (by rw [HQ.out, List.drop_of_length_le (by rw [hl]; omega)]; rfl)])
                go_wp2_with fail
                refine wp_loop_rounds 1 ?_
                rw [rounds_succ]
                go_wp2_with fail
                go_ret3
                exact ⟨ret_lit HE.out.symm, HB.out⟩
              case pos =>
                have g4 : ¬ (t.size : Int) ≤ (i : Int) + 2 := by omega
                have g4b : (i : Int) + 2 < (t.size : Int) := by omega
                have hd2 := drop_at hs2
                have HD2 := Lib.hid hd2
                clear hd2
                have RH2 := Lib.hid (fun V => rhex_any t[i + 2] V)
                cases hA : hexT t[i + 2] with
                | false =>
                  have HE : Hid (litT t.data.toList = .err 3) := Lib.hid (by rw [← HR.out, lit_bad HX.out HN34.out (by rw [HQ.out, HD2.out]; unfold hexC; simp only [hA]; rfl)])
                  rw [hA] at RH2
                  go_wp2_with fail
                  refine wp_loop_rounds 1 ?_
                  rw [rounds_succ]
                  go_wp2_with fail
                  refine (RH2.out _).mono ?_
                  rintro _ _ ⟨rfl, rfl⟩
                  go_wp2_with fail
                  go_ret3
                  exact ⟨ret_lit HE.out.symm, HB.out⟩
                | true =>
                  have ha := hex_lt hA
                  rw [hA] at RH2
                  have ha0 : ¬ (hexV t[i + 2] : Int) < 0 := by omega
                  by_cases hs3 : i + 3 < t.size
                  case neg =>
                    have g5 : (t.size : Int) ≤ (i : Int) + 3 := by omega
                    have HE : Hid (litT t.data.toList = .err 4) := Lib.hid (by rw [← HR.out, lit_bad HX.out HN34.out (by rw [HQ.out, HD2.out, List.drop_of_length_le (l := t.data.toList) (i := i + 2 + 1) (by rw [hl]; omega)]; unfold hexC; simp only [hA]; rfl)])
                    go_wp2_with fail
                    refine wp_loop_rounds 2 ?_
                    rw [rounds_succ]
                    go_wp2_with fail
                    refine (RH2.out _).mono ?_
                    rintro _ _ ⟨rfl, rfl⟩
                    go_wp2_with fail
                    refine (RH2.out _).mono ?_
                    rintro _ _ ⟨rfl, rfl⟩
                    go_wp2_with fail
                    rw [rounds_succ]
                    go_wp2_with fail
                    go_ret3
                    exact ⟨ret_lit HE.out.symm, HB.out⟩
                  case pos =>
                    have g5 : ¬ (t.size : Int) ≤ (i : Int) + 3 := by omega
                    have g5b : (i : Int) + 3 < (t.size : Int) := by omega
                    have hd3 := drop_at hs3
                    have HD3 := Lib.hid hd3
                    clear hd3
                    have RH3 := Lib.hid (fun V => rhex_any t[i + 3] V)
                    cases hB : hexT t[i + 3] with
                    | false =>
                      have HE : Hid (litT t.data.toList = .err 3) := Lib.hid (by rw [← HR.out, lit_bad HX.out HN34.out (by rw [HQ.out, HD2.out, HD3.out]; unfold hexC; simp only [hA, hB]; rfl)])
                      rw [hB] at RH3
                      go_wp2_with fail
                      refine wp_loop_rounds 2 ?_
                      rw [rounds_succ]
                      go_wp2_with fail
                      refine (RH2.out _).mono ?_
                      rintro _ _ ⟨rfl, rfl⟩
                      go_wp2_with fail
                      refine (RH2.out _).mono ?_
                      rintro _ _ ⟨rfl, rfl⟩
                      go_wp2_with fail
                      rw [rounds_succ]
                      go_wp2_with fail
                      refine (RH3.out _).mono ?_
                      rintro _ _ ⟨rfl, rfl⟩
                      go_wp2_with fail
                      go_ret3
                      exact ⟨ret_lit HE.out.symm, HB.out⟩
                    | true =>
                      have hb := hex_lt hB
                      obtain ⟨xb, hxb⟩ : ∃ xb : UInt8, xb = UInt8.ofNat (16 * hexV t[i + 2] + hexV t[i + 3]) := ⟨_, rfl⟩
                      have hxn : xb.toNat = 16 * hexV t[i + 2] + hexV t[i + 3] := by rw [hxb, UInt8.toNat_ofNat', Nat.mod_eq_of_lt (by omega)]
                      have HQ4 : Hid (chrC (t.data.toList.drop i) = .ok xb 4) := Lib.hid (by rw [HQ.out, HD2.out, HD3.out]; unfold hexC; simp only [hA, hB]; rw [hxb]; rfl)
                      have hxv : 16 * (hexV t[i + 2] : Int) + (hexV t[i + 3] : Int) = (xb.toNat : Int) := by omega
                      have hx4 := xb.toNat_lt
                      clear hxb hxn
                      rw [hB] at RH3
                      have hb0 : ¬ (hexV t[i + 3] : Int) < 0 := by omega
                      go_wp2_with fail
                      refine wp_loop_rounds 3 ?_
                      rw [rounds_succ]
                      go_wp2_with fail
                      refine (RH2.out _).mono ?_
                      rintro _ wr ⟨rfl, rfl⟩
                      go_wp2_with fail
                      refine (RH2.out _).mono ?_
                      rintro _ wr ⟨rfl, rfl⟩
                      go_wp2_with fail
                      rw [rounds_succ]
                      go_wp2_with fail
                      refine (RH3.out _).mono ?_
                      rintro _ wr ⟨rfl, rfl⟩
                      go_wp2_with fail
                      refine (RH3.out _).mono ?_
                      rintro _ wr ⟨rfl, rfl⟩
                      go_wp2_with fail
                      rw [rounds_succ]
                      have HR2 : Hid (litG t.data.toList f (i + 4) (o ++ [xb]) = litT t.data.toList) := Lib.hid (by rw [← HR.out, lit_chr HX.out HN34.out HQ4.out])
                      have HRB := Lib.hid (fun (V : World) => Rb.lit V 5 [xb])
                      have HK1 : Hid (k + 1 ≤ 140737488355328) := Lib.hid (by omega)
                      go_wp2_with (at_builtin; refine wpList_append_b8 rfl _ _ 44 rfl w.heap.size 5 ti (.int .u8 0) Tryd.underlying44 hti hz8 hsz hb8 rfl _ k (o.map b8) rfl (HW.out.alloc _) (wr.heap.size + 1) (some ⟨wr.heap.size, 0, none⟩) 1 1 [xb] rfl (HRB.out wr) ?_ ?_ ?_)
                      · have := HK1.out; omega
                      · have := HB.out.size; first | omega | (rw [World.size_alloc]; omega)
                      · intro v5 w5 ho hg5
                        obtain ⟨A5, c5, rfl, he1, he2⟩ := own_form ho
                        have HW5 : Hid (w5.ownsRow w.heap.size 5 1 (.slice A5 (k + 1) c5) (k + 1) ((o ++ [xb]).map b8)) := Lib.hid (by rw [List.map_append]; exact ho)
                        have HL5 : Hid ((o ++ [xb]).length = k + 1) := Lib.hid (by rw [List.length_append, HO.out]; rfl)
                        have HB5 : Hid (Below w.heap.size w w5) := Lib.hid (by
                          have hA : Below w.heap.size w (wr.alloc (.cells (List.toArray ([xb].map b8)) 5)) := Below.alloc HB.out HB.out.size _
                          exact hA.grown hg5 hA.size (own_lt HW.out))
                        have he3 : c5 ≤ 9223372036854775807 := by unfold maxLen at he2; omega
                        clear ho hg5
                        go_wp2_with fail
                        go_roundg f
                        case measure => omega
                        case rel => exact ⟨i + 4, k + 1, c5, A5, o ++ [xb], rfl, by go_num, by omega, by omega, by omega, he1, he3, HL5, HB5, HW5, HR2⟩
    · have HE : Hid (litT t.data.toList = .err 4) := Lib.hid (by rw [← HR.out, lit_end (by omega)])
      have hni : ¬ (i : Int) < (t.size : Int) := by omega
      go_wp2_with fail
      go_ret3
      exact ⟨ret_lit HE.out.symm, HB.out⟩
end Go.Proofs.YtemdcgeopaphaaaDoor
