/-
  Contract of Scan, of the reference. (gen_kja.py)
-/
import Derived.Test.YtemdcgeopaphaaaDoorKw
import Derived.Deep.AppendLies
namespace Go.Proofs.YtemdcgeopaphaaaDoor
open Go.RowKit

theorem skp_yes {t : ByteArray} {i : Nat} (h : i < t.size) (hb : blkT t[i] = true) : skpT t.data.toList i = skpT t.data.toList (i + 1) := by
  unfold skpT
  rw [drop_at h, spn_yes _ hb]; omega
theorem skp_no {t : ByteArray} {i : Nat} (h : i < t.size) (hb : blkT t[i] = false) : skpT t.data.toList i = i := by
  unfold skpT
  rw [drop_at h, spn_no _ hb]; rfl
theorem skp_all {t : ByteArray} {i : Nat} (h : ¬ i < t.size) : skpT t.data.toList i = i := by
  unfold skpT
  rw [List.drop_of_length_le (by simp; omega)]; rfl
theorem blk_of (c : UInt8) (a b d : Bool) (h1 : decide (c.toNat = 32) = a) (h2 : decide (c.toNat = 9) = b) (h3 : decide (c.toNat = 10) = d) : blkT c = (a || b || d) := by
  have e : ∀ k : UInt8, (c == k) = decide (c.toNat = k.toNat) := fun k => by
    rw [Bool.eq_iff_iff, beq_iff_eq, decide_eq_true_iff]
    exact ⟨fun e => by rw [e], fun e => UInt8.toNat_inj.1 e⟩
  unfold blkT
  rw [e, e, e, ← h1, ← h2, ← h3]
  rfl
set_option maxRecDepth 100000 in
set_option maxHeartbeats 8000000 in
theorem rScan_any (t : ByteArray) (w : World) (hz : t.size ≤ 1000000) :
    Calls Tryd.prog 12 #[.string t] w (ScnR (scanT t.data.toList) w) := by
  obtain ⟨iT, hiT, hzT, hsT, hbT⟩ := info_parts Tryd.infoT
  have hl : t.data.toList.length = t.size := by simp
  by_cases hbig : 16384 < t.size
  · have hbi : (16384 : Int) < (t.size : Int) := by omega
    have HR : Hid (scanT t.data.toList = .err 0 6) := Lib.hid (by unfold scanT; rw [if_pos (by omega)])
    go_enter Tryd.func12, Tryd.ntmps12
    go_wp2_with fail
    go_ret3
    exact ⟨Below.refl _ _, .inr ⟨0, 6, HR.out, rfl⟩⟩
  have hbi : ¬ (16384 : Int) < (t.size : Int) := by omega
  have HR0 : Hid (scanT t.data.toList = scanG t.data.toList (t.size + 1) (skpT t.data.toList 0) []) := Lib.hid (by unfold scanT; rw [if_neg (by omega), hl])
  go_enter Tryd.func12, Tryd.ntmps12
  go_wp2_with fail
  go_loopw [5, 6] (fun sv iv wr => ∃ (gh i m c : Nat) (A : Option Addr) (o : List Tok), sv = .slice A m c ∧ iv = .int .i64 i ∧ i ≤ t.size ∧ t.size + 1 ≤ gh + i ∧ m ≤ i ∧ Hid (o.length = m) ∧
    Hid (Below w.heap.size w wr) ∧ Hid (wr.ownsRow w.heap.size 30 4 (.slice A m c) m (o.flatMap tokC)) ∧ Hid (scanG t.data.toList gh (skpT t.data.toList i) o = scanT t.data.toList)) (fun _ iv _ => t.size - (intOf iv).toNat)
  case atStart => exact ⟨t.size + 1, 0, 0, 0, none, [], rfl, rfl, Nat.zero_le _, by omega, by omega, Lib.hid rfl, Lib.hid (Below.refl _ _), Lib.hid (World.ownsRow_nil _ _ _ _), Lib.hid HR0.out.symm⟩
  case round =>
    obtain ⟨gk, i, m, c, A, o, rfl, rfl, hi, hg, hmi, HO, HB, HW, HR⟩ := hrel
    obtain ⟨f, rfl⟩ : ∃ f, gk = f + 1 := ⟨gk - 1, by omega⟩
    by_cases hlt : i < t.size
    · have hli : (i : Int) ≤ (t.size : Int) := by omega
      have hti := t[i].toNat_lt
      by_cases s32 : t[i].toNat = 32
      · have t32 : ((t[i].toNat : Int) == 32) = true := by rw [beq_iff_eq]; omega
        have s9 : True := trivial
        have s10 : True := trivial
        have HBK : Hid (scanG t.data.toList (f + 1) (skpT t.data.toList (i + 1)) o = scanT t.data.toList) := Lib.hid (by rw [← HR.out, skp_yes hlt ((blk_of t[i] true _ _ (decide_eq_true s32) rfl rfl).trans rfl)])
        clear s32 s9 s10
        go_wp2_with fail
        go_roundw
        case rel => exact ⟨f + 1, i + 1, m, c, A, o, rfl, by go_num, hlt, by omega, by omega, HO, HB, HW, HBK⟩
        case measure => simp [intOf]; omega
      have t32 : ((t[i].toNat : Int) == 32) = false := by rw [beq_eq_false_iff_ne]; omega
      by_cases s9 : t[i].toNat = 9
      · have t9 : ((t[i].toNat : Int) == 9) = true := by rw [beq_iff_eq]; omega
        have s10 : True := trivial
        have HBK : Hid (scanG t.data.toList (f + 1) (skpT t.data.toList (i + 1)) o = scanT t.data.toList) := Lib.hid (by rw [← HR.out, skp_yes hlt ((blk_of t[i] false true _ (decide_eq_false s32) (decide_eq_true s9) rfl).trans rfl)])
        clear s32 s9 s10
        go_wp2_with fail
        go_roundw
        case rel => exact ⟨f + 1, i + 1, m, c, A, o, rfl, by go_num, hlt, by omega, by omega, HO, HB, HW, HBK⟩
        case measure => simp [intOf]; omega
      have t9 : ((t[i].toNat : Int) == 9) = false := by rw [beq_eq_false_iff_ne]; omega
      by_cases s10 : t[i].toNat = 10
      · have t10 : ((t[i].toNat : Int) == 10) = true := by rw [beq_iff_eq]; omega
        have HBK : Hid (scanG t.data.toList (f + 1) (skpT t.data.toList (i + 1)) o = scanT t.data.toList) := Lib.hid (by rw [← HR.out, skp_yes hlt ((blk_of t[i] false false true (decide_eq_false s32) (decide_eq_false s9) (decide_eq_true s10)).trans rfl)])
        clear s32 s9 s10
        go_wp2_with fail
        go_roundw
        case rel => exact ⟨f + 1, i + 1, m, c, A, o, rfl, by go_num, hlt, by omega, by omega, HO, HB, HW, HBK⟩
        case measure => simp [intOf]; omega
      have t10 : ((t[i].toNat : Int) == 10) = false := by rw [beq_eq_false_iff_ne]; omega
      have HRN : Hid (scanG t.data.toList (f + 1) i o = scanT t.data.toList) := Lib.hid (by rw [← HR.out, skp_no hlt ((blk_of t[i] false false false (decide_eq_false s32) (decide_eq_false s9) (decide_eq_false s10)).trans rfl)])
      clear s32 s9 s10
      have HN := Lib.hid (rone_any (t.extract i t.size) wr (by rw [ByteArray.size_extract]; omega) (by have := ext_size t i t.size; omega))
      rw [ext_from] at HN
      cases h1 : oneT (t.data.toList.drop i) with
      | err e =>
        have HRE : Hid (scanT t.data.toList = .err i e) := Lib.hid (by rw [← HRN.out, scan_err (by omega) h1])
        have e0 : (e == 0) = false := beq_eq_false_iff_ne.2 (oneT_ne h1)
        have e0n : (e != 0) = true := bne_iff_ne.2 (oneT_ne h1)
        rw [h1] at HN
        clear h1
        go_wp2_with fail
        refine (HN.out).mono ?_
        rintro _ w3 ⟨rfl, hb3⟩
        have B3 := Lib.hid (lnk HB.out hb3)
        clear hb3 HN
        unfold tokV
        go_wp2_with fail
        go_ret3
        exact ⟨Below.alloc B3.out B3.out.size _, .inr ⟨i, e, HRE.out, rfl⟩⟩
      | ok k tx v n =>
        have hn := oneT_n h1
        have hn2 : i + n ≤ t.size := by
          have := hn.2
          rw [List.length_drop, hl] at this
          omega
        have hn1 := hn.1
        have HR2 : Hid (scanG t.data.toList f (skpT t.data.toList (i + n)) (o ++ [⟨k, i, tx, v⟩]) = scanT t.data.toList) := Lib.hid (by rw [← HRN.out, scan_ok (by omega) h1])
        rw [h1] at HN
        clear h1 hn
        go_wp2_with fail
        refine (HN.out).mono ?_
        rintro _ w3 ⟨rfl, hb3⟩
        have B3 := Lib.hid (lnk HB.out hb3)
        have W3 := Lib.hid (own_bel HW.out hb3)
        clear hb3 HN
        obtain ⟨st, hst⟩ : ∃ st : ByteArray, strV tx = .string st := ⟨_, rfl⟩
        have HST := Lib.hid hst
        have hv : tokV (.ok k tx v n) = .tuple #[.agg #[.int .i64 k, .int .i64 0, .string st, .int .i64 v], .int .i64 (n : Nat), .int .i64 0] := by
          show Value.tuple #[.agg #[.int .i64 k, .int .i64 0, strV tx, .int .i64 v], .int .i64 (n : Nat), .int .i64 0] = _
          rw [hst]
        rw [hv]
        clear hst hv
        go_upto_region 12 with (fail)
        obtain ⟨w4, hw4⟩ : ∃ w4, w4 = w3.alloc (.cells #[.int .i64 k, .int .i64 (i : Nat), .string st, .int .i64 v] 30) := ⟨_, rfl⟩
        have hb4 : Below w3.heap.size w3 w4 := by rw [hw4]; exact (Below.refl _ _).alloc (Nat.le_refl _) _
        have K4 : Hid (Bk w4 w3.heap.size 30 #[.int .i64 k, .int .i64 (i : Nat), .string st, .int .i64 v]) := Lib.hid (by rw [hw4]; exact Bk.new _ _ _)
        have B4 := Lib.hid (lnk B3.out hb4)
        have W4 := Lib.hid (own_bel W3.out hb4)
        have SZ4 : Hid (w.heap.size ≤ w4.heap.size) := Lib.hid B4.out.size
        rw [← hw4]
        clear hw4 hb4
        have p0 := K4.out.cell 0
        have p1 := K4.out.cell 1
        have p2 := K4.out.cell 2
        have p3 := K4.out.cell 3
        have hm9 : m ≤ 1000000 := by omega
        go_wp2_with (at_builtin; refine wpList_append_own _ rfl (.tmp 49) (.tmp 51) 23 rfl w.heap.size 30 iT (.agg #[.int .i64 0, .int .i64 0, .string ByteArray.empty, .int .i64 0]) 4 40 Tryd.underlying23 hiT hzT hsT hbT rfl (by decide) _ (m) _ rfl (W4.out.alloc _) ⟨w4.heap.size, 0, none⟩ 1 1 [.int .i64 k, .int .i64 (i : Nat), .string st, .int .i64 v] rfl (by rfl) (new_alloc (cs := #[.int .i64 k, .int .i64 (i : Nat), .string st, .int .i64 v]) (t := 30) (by rfl)) (by simp [Value.oneCell']) (by unfold maxLen; omega) (by omega) (by have := SZ4.out; simp; omega) ?_)
        intro v5 w5 hown hgr _
        obtain ⟨A5, c5, rfl, _, _⟩ := own_formN hown
        have W5 : Hid (w5.ownsRow w.heap.size 30 4 (.slice A5 (m + 1) c5) (m + 1) ((o ++ [(⟨k, i, tx, v⟩ : Tok)]).flatMap tokC)) := Lib.hid (by
          rw [List.flatMap_append]
          simp only [List.flatMap_cons, List.flatMap_nil, List.append_nil]
          unfold tokC
          rw [HST.out]
          exact hown)
        have B5 : Hid (Below w.heap.size w w5) := Lib.hid (by
          have hA : Below w.heap.size w (w4.alloc (.cells #[.int .i64 k, .int .i64 (i : Nat), .string st, .int .i64 v] 30)) := Below.alloc B4.out B4.out.size _
          exact hA.grown hgr hA.size (fun b hb => (W4.out.lt b hb).1))
        have HO5 : Hid ((o ++ [(⟨k, i, tx, v⟩ : Tok)]).length = m + 1) := Lib.hid (by rw [List.length_append, HO.out]; rfl)
        clear hown hgr p0 p1 p2 p3 K4 B4 W4 B3 W3
        go_wp2_with fail
        go_roundw
        case rel => exact ⟨f, i + n, m + 1, c5, A5, _, rfl, by go_num, hn2, by omega, by omega, HO5, B5, W5, HR2⟩
        case measure => simp [intOf]; omega
    · have HRE : Hid (scanT t.data.toList = .ok (o ++ [endT t.size])) := Lib.hid (by rw [← HR.out, skp_all hlt, scan_end (by omega), hl])
      have hli : ¬ (i : Int) < (t.size : Int) := by omega
      have SZ4 : Hid (w.heap.size ≤ wr.heap.size) := Lib.hid HB.out.size
      have hm9 : m ≤ 1000000 := by omega
      go_wp2_with (at_builtin; refine wpList_append_own _ rfl (.tmp 56) (.tmp 60) 23 rfl w.heap.size 30 iT (.agg #[.int .i64 0, .int .i64 0, .string ByteArray.empty, .int .i64 0]) 4 40 Tryd.underlying23 hiT hzT hsT hbT rfl (by decide) _ (m) _ rfl (HW.out.alloc _) ⟨wr.heap.size, 0, none⟩ 1 1 [.int .i64 0, .int .i64 (t.size : Nat), .string ⟨#[]⟩, .int .i64 0] rfl (by rfl) (new_alloc (cs := #[.int .i64 0, .int .i64 (t.size : Nat), .string ⟨#[]⟩, .int .i64 0]) (t := 30) (by rfl)) (by simp [Value.oneCell']) (by unfold maxLen; omega) (by omega) (by have := SZ4.out; simp; omega) ?_)
      intro v5 w5 hown hgr _
      obtain ⟨A5, c5, rfl, _, _⟩ := own_formN hown
      have W5 : Hid (w5.ownsRow w.heap.size 30 4 (.slice A5 (m + 1) c5) (m + 1) ((o ++ [endT t.size]).flatMap tokC)) := Lib.hid (by
        rw [List.flatMap_append]
        simp only [List.flatMap_cons, List.flatMap_nil, List.append_nil]
        exact hown)
      have B5 : Hid (Below w.heap.size w w5) := Lib.hid (by
        have hA : Below w.heap.size w (wr.alloc (.cells #[.int .i64 0, .int .i64 (t.size : Nat), .string ⟨#[]⟩, .int .i64 0] 30)) := Below.alloc HB.out HB.out.size _
        exact hA.grown hgr hA.size (fun b hb => (HW.out.lt b hb).1))
      have HO5 : Hid ((o ++ [endT t.size]).length = m + 1) := Lib.hid (by rw [List.length_append, HO.out]; rfl)
      clear hown hgr
      go_wp2_with fail
      go_ret3
      refine ⟨B5.out, .inl ⟨_, A5, c5, HRE.out, by rw [HO5.out]; rfl, by rw [HO5.out]; exact W5.out⟩⟩
end Go.Proofs.YtemdcgeopaphaaaDoor
