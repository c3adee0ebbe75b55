/-
  With of the reference. (Written by gen_wt.py.)
-/
import Derived.Test.YtidinbeanaifmaaVwo
import Derived.Deep.RegionLaw
import Derived.Deep.LoopGhost
import Derived.Deep.CutRange
namespace Go.Proofs.Ytidinbeanaifmaa
open Go.RowKit

set_option maxRecDepth 100000 in
set_option maxHeartbeats 16000000 in
theorem refWith_any (k i : Int) (t : ByteArray) (its : List VT) (ks : List ByteArray) (A : Option Addr) (c : Nat) (A' : Option Addr) (c' : Nat) (key : ByteArray) (x : VT) (kx ix : Int) (tx : ByteArray) (D : Option Addr) (nx cx : Nat) (D' : Option Addr) (mx dx : Nat) (w : World) (R : Nat → Prop) (hR : ∀ b, R b → b < w.heap.size)
    (hL : LiesL w R A 0 its) (hS : LiesS w R A' ks) (hlen : ks.length ≤ its.length) (h1 : its.length ≤ c) (h2 : c ≤ 9223372036854775807) (_ : ks.length ≤ c') (_ : c' ≤ 9223372036854775807) (hn : ks.length ≤ 1000000)
    (hkey : key.size ≤ 9223372036854775807) (hx : Lies w R x (.agg #[.int .i64 kx, .int .i64 ix, .string tx, .slice D nx cx, .slice D' mx dx])) :
    Calls Try.prog 63 #[vag k i t A its.length c A' ks.length c', .string key, .agg #[.int .i64 kx, .int .i64 ix, .string tx, .slice D nx cx, .slice D' mx dx]] w (MakesR R (mapT (withL key x (ks.zip its))) w) := by
  obtain ⟨iS, hiS, hzS, hsS, hbS⟩ := info_parts Try.infoS
  obtain ⟨iV, hiV, hzV, hsV, hbV⟩ := info_parts Try.infoV
  obtain ⟨w4, hw4⟩ : ∃ w4, w4 = (((w.alloc (.cells #[.int .i64 k, .int .i64 i, .string t, .slice A its.length c, .slice A' ks.length c'] 26)).alloc (.cells #[.int .i64 kx, .int .i64 ix, .string tx, .slice D nx cx, .slice D' mx dx] 26)).alloc (.cells #[.int .i64 0, .int .i64 0, .string ⟨#[]⟩, .slice none 0 0, .slice none 0 0] 26)).alloc (.cells #[.int .i64 5, .int .i64 0, .string ⟨#[]⟩, .slice none 0 0, .slice none 0 0] 26) := ⟨_, rfl⟩
  have HZ0 : Hid (w4.heap.size = w.heap.size + 1 + 1 + 1 + 1) := Lib.hid (by rw [hw4]; simp)
  have HZ : Hid (w.heap.size + 1 + 1 + 1 < w4.heap.size) := Lib.hid (by have := HZ0.out; omega)
  have B4 : Hid (Below w.heap.size w w4) := Lib.hid (by rw [hw4]; exact (((below_one _ _).trans (Below.alloc (Below.refl _ _) (by simp) _)).trans (Below.alloc (Below.refl _ _) (by simp; omega) _)).trans (Below.alloc (Below.refl _ _) (by simp; omega) _))
  have V4 : Hid (Bk w4 w.heap.size 26 #[.int .i64 k, .int .i64 i, .string t, .slice A its.length c, .slice A' ks.length c']) := Lib.hid (by rw [hw4]; exact (((Bk.new _ _ _).alloc _).alloc _).alloc _)
  have X4 : Hid (Bk w4 (w.heap.size + 1) 26 #[.int .i64 kx, .int .i64 ix, .string tx, .slice D nx cx, .slice D' mx dx]) := Lib.hid (by rw [hw4]; exact (Bk.alloc (by have := Bk.new (w.alloc (.cells #[.int .i64 k, .int .i64 i, .string t, .slice A its.length c, .slice A' ks.length c'] 26)) 26 #[.int .i64 kx, .int .i64 ix, .string tx, .slice D nx cx, .slice D' mx dx]; simpa using this) _).alloc _)
  have R4 : Hid (Bk w4 (w.heap.size + 1 + 1) 26 #[.int .i64 0, .int .i64 0, .string ⟨#[]⟩, .slice none 0 0, .slice none 0 0]) := Lib.hid (by rw [hw4]; exact Bk.alloc (by have := Bk.new ((w.alloc (.cells #[.int .i64 k, .int .i64 i, .string t, .slice A its.length c, .slice A' ks.length c'] 26)).alloc (.cells #[.int .i64 kx, .int .i64 ix, .string tx, .slice D nx cx, .slice D' mx dx] 26)) 26 #[.int .i64 0, .int .i64 0, .string ⟨#[]⟩, .slice none 0 0, .slice none 0 0]; simpa using this) _)
  have O4 : Hid (OutR w R w4.heap.size (w.heap.size + 1 + 1 + 1) [] 0 none 0 none 0 w4) := Lib.hid ⟨rfl, by rw [hw4]; have := Bk.new (((w.alloc (.cells #[.int .i64 k, .int .i64 i, .string t, .slice A its.length c, .slice A' ks.length c'] 26)).alloc (.cells #[.int .i64 kx, .int .i64 ix, .string tx, .slice D nx cx, .slice D' mx dx] 26)).alloc (.cells #[.int .i64 0, .int .i64 0, .string ⟨#[]⟩, .slice none 0 0, .slice none 0 0] 26)) 26 #[.int .i64 5, .int .i64 0, .string ⟨#[]⟩, .slice none 0 0, .slice none 0 0]; simpa using this, ⟨[], rfl, World.ownsRow_nil _ _ _ _⟩, World.ownsRow_nil _ _ _ _⟩
  have HW := Lib.hid hw4
  have HL := Lib.hid hL
  have HS := Lib.hid hS
  have HXX := Lib.hid (show Lies w R (key, x).2 _ from hx)
  have HKS := Lib.hid (And.intro hkey hS.sizes)
  have HRR := Lib.hid hR
  clear hw4 hL hS hx hkey hR
  unfold vag
  go_enter Try.func63, Try.ntmps63
  go_wp2_with fail
  rw [← HW.out]
  go_loopg [8, 9] ks.length (fun gh dn iv wr => ∃ (j : Nat) (d : Bool) (ps : List (ByteArray × VT)) (n : Nat) (AI : Option Addr) (cI : Nat) (AK : Option Addr) (cK : Nat), j ≤ ks.length ∧ gh = ks.length - j ∧ dn = .bool d ∧ iv = .int .i64 j ∧
    Hid (foldW key x ((ks.zip its).take j) = (d, ps)) ∧ Hid (OutR w R w4.heap.size (w.heap.size + 1 + 1 + 1) ps n AI cI AK cK wr) ∧ Hid (w4.grownBy wr (some (w.heap.size + 1 + 1 + 1))))
  case atStart => exact ⟨0, false, [], 0, none, 0, none, 0, by omega, rfl, rfl, rfl, Lib.hid rfl, O4, Lib.hid (World.grownBy.refl _ _)⟩
  case round =>
    obtain ⟨j, d, ps, n, AI, cI, AK, cK, hjn, rfl, rfl, rfl, HF, HO, HG⟩ := hrel
    have hpl : n ≤ 2 * j := by
      have h := foldW_len key x ((ks.zip its).take j)
      rw [HF.out] at h
      have h2 : ((ks.zip its).take j).length ≤ j := List.length_take_le _ _
      have h3 := HO.out.len
      simp only at h
      omega
    have VR := Lib.hid (V4.out.grown HG.out (by intro e; injection e with e; omega))
    have BR : Hid (Below w.heap.size w wr) := Lib.hid (B4.out.grown HG.out (by have := HZ.out; omega) (fun q hq => by injection hq with hq; omega))
    have a4 := VR.out.cell 4
    by_cases hlt : j < ks.length
    · have hji : j < its.length := by omega
      have g1 := List.getElem?_eq_getElem (l := ks) (i := j) hlt
      have g2 := List.getElem?_eq_getElem (l := its) (i := j) hji
      obtain ⟨hkz, gk, ok, rfl, hgk, ek⟩ := HS.out j _ g1
      obtain ⟨gi, oi, k', i', t', E, n1, c1, E', n2, c2, rfl, hgi, e0, e1, e2, e3, e4, hy⟩ := (HL.out).at_ g2
      have htk : (ks.zip its).take (j + 1) = (ks.zip its).take j ++ [(ks[j]'hlt, its[j]'hji)] := by
        rw [List.take_add_one, (List.getElem?_zip_eq_some (z := (ks[j]'hlt, its[j]'hji))).2 ⟨g1, g2⟩]
        rfl
      have hst := foldW_snoc key x ((ks.zip its).take j) (ks[j]'hlt, its[j]'hji)
      rw [← htk, HF.out] at hst
      generalize ks[j]'hlt = kj at *
      generalize its[j]'hji = y at *
      rw [Nat.zero_add] at e0 e1 e2 e3 e4
      have EI := Lib.hid (And.intro e0 (And.intro e1 (And.intro e2 (And.intro e3 e4))))
      have EK := Lib.hid ek
      have GKL := Lib.hid (HRR.out _ hgk)
      have GIL := Lib.hid (HRR.out _ hgi)
      have HYY := Lib.hid (show Lies w R (kj, y).2 (.agg #[.int .i64 k', .int .i64 i', .string t', .slice E n1 c1, .slice E' n2 c2]) from hy)
      have HST := Lib.hid hst
      have HJ : Hid (j + 1 ≤ ks.length) := Lib.hid hlt
      change _ = some (Value.slice (some ⟨gk, ok, none⟩) ks.length c') at a4
      have ekr := (BR.out.cell (p := ⟨gk, ok + j, none⟩) GKL.out).trans EK.out
      clear htk hst hy hkz e0 e1 e2 e3 e4 ek hgk hgi g1 g2
      cases d with
      | true =>
        rcases str_ways kj key with hw0 | hw0 | hw0
        · obtain ⟨b1, b2, b4, b5, b0⟩ := hw0
          have m1 : (kj.toList != key.toList) = true := by rw [bne, b2]; rfl
          have RES := Lib.hid (HST.out.trans (stepW_less (p := (kj, y)) b0 b1 true))
          clear b0
          have BS7 : Hid (w4.heap.size ≤ wr.heap.size) := Lib.hid HG.out.size
          have HK7 := Lib.hid HO.out.kys
          have VK7 := Lib.hid (V4.out.grown HG.out (by intro e; injection e with e; omega))
          have BW7 : Hid (Below w.heap.size w wr) := Lib.hid (B4.out.grown HG.out (by have := HZ.out; omega) (fun q hq => by injection hq with hq; omega))
          have LT7 : Hid (w.heap.size < wr.heap.size ∧ w.heap.size + 1 + 1 + 1 < wr.heap.size ∧ gk < wr.heap.size) := Lib.hid (by have := HZ.out; have := BS7.out; have := BW7.out.size; have : gk < w.heap.size := GKL.out; exact ⟨by omega, by omega, by omega⟩)
          have o4 := HO.out.blk.cell 4
          change _ = some (Value.slice AK n cK) at o4
          have f4 := HO.out.blk.frozen 4
          have v4 := VK7.out.cell 4
          change _ = some (Value.slice (some ⟨gk, ok, none⟩) ks.length c') at v4
          have ek := (BW7.out.cell (p := ⟨gk, ok + j, none⟩) GKL.out).trans EK.out
          have lt1 := LT7.out.1
          have lt2 := LT7.out.2.1
          have lt3 := LT7.out.2.2
          go_wp2_with fail
          go_cut [] from 11 to 67 (fun wx => ∃ (AK2 : Option Addr) (cK2 : Nat), Hid (MidR w R w4.heap.size (w.heap.size + 1 + 1 + 1) ps (kj, y) n AI cI AK2 cK2 wx) ∧ Hid (w4.grownBy wx (some (w.heap.size + 1 + 1 + 1))))
          case first =>
            go_region_law (first
              | (refine step_append_lies _ (by rfl) _ _ _ (by rfl) w4.heap.size 9 iS _ 1 16 Try.underlying22 hiS hzS hsS hbS rfl (by omega) (Value.slice AK n cK) n (ps.map fun p => Value.string p.1) (by rfl) (by first | exact HK7.out.alloc _ | exact (HK7.out.alloc _).drew | exact HK7.out.drew.alloc _) ⟨wr.heap.size, 0, none⟩ 1 1 [.string kj] (by rfl) (by rfl) (World.news_of_block (cs := #[.string kj]) (t := 9) (fr := (0, 0)) (heap_alloc_new wr _)) (by simp [Value.oneCell']) (by omega) (by unfold maxLen; omega) (by omega) (by have := BS7.out; simp; omega) (wr.heap.size + 1) (by simp) ?_; intro g2 cap w1 hown1 hgrow hat hlt; have HGW : Hid (wr.grownBy w1 (Value.slice AK n cK).ownBlock) := Lib.hid (by refine grownBy_trans ?_ hgrow; exact ⟨rfl, rfl, rfl, by simp, fun b hb _ => Below.heap_alloc wr _ b hb⟩); have B1 := Lib.hid (HO.out.blk.grown HGW.out (below_row HK7.out HZ.out)); have q3 := B1.out.cell 3; have q4 := B1.out.cell 4; have p3 := B1.out.frozen 3; have p4 := B1.out.frozen 4))
            all_goals (
              have MM := Lib.hid (OutR.key (p := (kj, y)) HO.out HGW.out hown1 HZ.out)
              have MG := Lib.hid (out_grown (i := 4) (u := .slice (some ⟨g2, 0, none⟩) (n + 1) cap) HG.out HO.out.kys HGW.out)
              clear hown1 hgrow hat hlt
              go_wp2_with fail
              go_meet
              exact ⟨some ⟨g2, 0, none⟩, cap, MM, MG⟩)
          case rest =>
            obtain ⟨AK7, cK7, MM7, MG7⟩ := hcut
            clear o4 f4 v4 ek lt1 lt2 lt3
            have BT7 : Hid (w4.heap.size ≤ wc.heap.size) := Lib.hid MG7.out.size
            have VL7 := Lib.hid (V4.out.grown MG7.out (by intro e; injection e with e; omega))
            have BX7 : Hid (Below w.heap.size w wc) := Lib.hid (B4.out.grown MG7.out (by have := HZ.out; omega) (fun q hq => by injection hq with hq; omega))
            have LU7 : Hid (w.heap.size < wc.heap.size ∧ w.heap.size + 1 + 1 + 1 < wc.heap.size ∧ gi < wc.heap.size) := Lib.hid (by have := HZ.out; have := BT7.out; have := BX7.out.size; have : gi < w.heap.size := GIL.out; exact ⟨by omega, by omega, by omega⟩)
            obtain ⟨cs7, hcs, hi⟩ := MM7.out.its
            have CS7 := Lib.hid hcs
            have HI7 := Lib.hid hi
            clear hcs hi
            have o3 := MM7.out.blk.cell 3
            change _ = some (Value.slice AI n cI) at o3
            have f3 := MM7.out.blk.frozen 3
            have v3 := VL7.out.cell 3
            change _ = some (Value.slice (some ⟨gi, oi, none⟩) its.length c) at v3
            have cc := fun (q : Nat) => BX7.out.cell (p := ⟨gi, q, none⟩) GIL.out
            have e0 := (cc _).trans EI.out.1
            have e1 := (cc _).trans EI.out.2.1
            have e2 := (cc _).trans EI.out.2.2.1
            have e3 := (cc _).trans EI.out.2.2.2.1
            have e4 := (cc _).trans EI.out.2.2.2.2
            have lt1 := LU7.out.1
            have lt2 := LU7.out.2.1
            have lt3 := LU7.out.2.2
            clear cc
            go_wp2_with fail
            go_region_law (first
              | (refine step_append_lies _ (by rfl) _ _ _ (by rfl) w4.heap.size 26 iV _ 5 80 Try.underlying23 hiV hzV hsV hbV rfl (by omega) (Value.slice AI n cI) n cs7 (by rfl) (by first | exact HI7.out.alloc _ | exact (HI7.out.alloc _).drew | exact HI7.out.drew.alloc _) ⟨wc.heap.size, 0, none⟩ 1 1 [.int .i64 k', .int .i64 i', .string t', .slice E n1 c1, .slice E' n2 c2] (by rfl) (by rfl) (World.news_of_block (cs := #[.int .i64 k', .int .i64 i', .string t', .slice E n1 c1, .slice E' n2 c2]) (t := 26) (fr := (0, 0)) (heap_alloc_new wc _)) (by simp [Value.oneCell']) (by omega) (by unfold maxLen; omega) (by omega) (by have := BT7.out; simp; omega) (wc.heap.size + 1) (by simp) ?_; intro g2 cap w1 hown1 hgrow hat hlt; have HGW : Hid (wc.grownBy w1 (Value.slice AI n cI).ownBlock) := Lib.hid (by refine grownBy_trans ?_ hgrow; exact ⟨rfl, rfl, rfl, by simp, fun b hb _ => Below.heap_alloc wc _ b hb⟩); have B1 := Lib.hid (MM7.out.blk.grown HGW.out (below_row HI7.out HZ.out)); have q3 := B1.out.cell 3; have q4 := B1.out.cell 4; have p3 := B1.out.frozen 3; have p4 := B1.out.frozen 4))
            all_goals (
              have H9 := Lib.hid (MidR.item MM7.out CS7.out HI7.out HYY.out HGW.out hown1 HZ.out)
              have G9 := Lib.hid (out_grown (i := 3) (u := .slice (some ⟨g2, 0, none⟩) (n + 1) cap) MG7.out HI7.out HGW.out)
              clear hown1 hgrow hat hlt o3 v3 e0 e1 e2 e3 e4 lt1 lt2 lt3 f3
              go_wp2
              go_roundg (ks.length - (j + 1))
              case measure => have := HJ.out; omega
              case rel => exact ⟨j + 1, _, ps ++ [(kj, y)], n + 1, some ⟨g2, 0, none⟩, cap, AK7, cK7, HJ.out, rfl, rfl, by go_num, RES, H9, G9⟩)
        · obtain ⟨b0, b1, b3, b4, b5⟩ := hw0
          have m1 : (kj.toList != key.toList) = false := by rw [bne, b3]; rfl
          have RES := Lib.hid (HST.out.trans (stepW_eq_done (p := (kj, y)) b0))
          clear b0
          go_wp2_with fail
          go_roundg (ks.length - (j + 1))
          case measure => have := HJ.out; omega
          case rel => exact ⟨j + 1, _, _, n, AI, cI, AK, cK, HJ.out, rfl, rfl, by go_num, RES, HO, HG⟩
        · obtain ⟨b1, b2, b4, b5, b0⟩ := hw0
          have m1 : (kj.toList != key.toList) = true := by rw [bne, b2]; rfl
          have RES := Lib.hid (HST.out.trans (stepW_done (p := (kj, y)) b0))
          clear b0
          have BS7 : Hid (w4.heap.size ≤ wr.heap.size) := Lib.hid HG.out.size
          have HK7 := Lib.hid HO.out.kys
          have VK7 := Lib.hid (V4.out.grown HG.out (by intro e; injection e with e; omega))
          have BW7 : Hid (Below w.heap.size w wr) := Lib.hid (B4.out.grown HG.out (by have := HZ.out; omega) (fun q hq => by injection hq with hq; omega))
          have LT7 : Hid (w.heap.size < wr.heap.size ∧ w.heap.size + 1 + 1 + 1 < wr.heap.size ∧ gk < wr.heap.size) := Lib.hid (by have := HZ.out; have := BS7.out; have := BW7.out.size; have : gk < w.heap.size := GKL.out; exact ⟨by omega, by omega, by omega⟩)
          have o4 := HO.out.blk.cell 4
          change _ = some (Value.slice AK n cK) at o4
          have f4 := HO.out.blk.frozen 4
          have v4 := VK7.out.cell 4
          change _ = some (Value.slice (some ⟨gk, ok, none⟩) ks.length c') at v4
          have ek := (BW7.out.cell (p := ⟨gk, ok + j, none⟩) GKL.out).trans EK.out
          have lt1 := LT7.out.1
          have lt2 := LT7.out.2.1
          have lt3 := LT7.out.2.2
          go_wp2_with fail
          go_cut [] from 11 to 67 (fun wx => ∃ (AK2 : Option Addr) (cK2 : Nat), Hid (MidR w R w4.heap.size (w.heap.size + 1 + 1 + 1) ps (kj, y) n AI cI AK2 cK2 wx) ∧ Hid (w4.grownBy wx (some (w.heap.size + 1 + 1 + 1))))
          case first =>
            go_region_law (first
              | (refine step_append_lies _ (by rfl) _ _ _ (by rfl) w4.heap.size 9 iS _ 1 16 Try.underlying22 hiS hzS hsS hbS rfl (by omega) (Value.slice AK n cK) n (ps.map fun p => Value.string p.1) (by rfl) (by first | exact HK7.out.alloc _ | exact (HK7.out.alloc _).drew | exact HK7.out.drew.alloc _) ⟨wr.heap.size, 0, none⟩ 1 1 [.string kj] (by rfl) (by rfl) (World.news_of_block (cs := #[.string kj]) (t := 9) (fr := (0, 0)) (heap_alloc_new wr _)) (by simp [Value.oneCell']) (by omega) (by unfold maxLen; omega) (by omega) (by have := BS7.out; simp; omega) (wr.heap.size + 1) (by simp) ?_; intro g2 cap w1 hown1 hgrow hat hlt; have HGW : Hid (wr.grownBy w1 (Value.slice AK n cK).ownBlock) := Lib.hid (by refine grownBy_trans ?_ hgrow; exact ⟨rfl, rfl, rfl, by simp, fun b hb _ => Below.heap_alloc wr _ b hb⟩); have B1 := Lib.hid (HO.out.blk.grown HGW.out (below_row HK7.out HZ.out)); have q3 := B1.out.cell 3; have q4 := B1.out.cell 4; have p3 := B1.out.frozen 3; have p4 := B1.out.frozen 4))
            all_goals (
              have MM := Lib.hid (OutR.key (p := (kj, y)) HO.out HGW.out hown1 HZ.out)
              have MG := Lib.hid (out_grown (i := 4) (u := .slice (some ⟨g2, 0, none⟩) (n + 1) cap) HG.out HO.out.kys HGW.out)
              clear hown1 hgrow hat hlt
              go_wp2_with fail
              go_meet
              exact ⟨some ⟨g2, 0, none⟩, cap, MM, MG⟩)
          case rest =>
            obtain ⟨AK7, cK7, MM7, MG7⟩ := hcut
            clear o4 f4 v4 ek lt1 lt2 lt3
            have BT7 : Hid (w4.heap.size ≤ wc.heap.size) := Lib.hid MG7.out.size
            have VL7 := Lib.hid (V4.out.grown MG7.out (by intro e; injection e with e; omega))
            have BX7 : Hid (Below w.heap.size w wc) := Lib.hid (B4.out.grown MG7.out (by have := HZ.out; omega) (fun q hq => by injection hq with hq; omega))
            have LU7 : Hid (w.heap.size < wc.heap.size ∧ w.heap.size + 1 + 1 + 1 < wc.heap.size ∧ gi < wc.heap.size) := Lib.hid (by have := HZ.out; have := BT7.out; have := BX7.out.size; have : gi < w.heap.size := GIL.out; exact ⟨by omega, by omega, by omega⟩)
            obtain ⟨cs7, hcs, hi⟩ := MM7.out.its
            have CS7 := Lib.hid hcs
            have HI7 := Lib.hid hi
            clear hcs hi
            have o3 := MM7.out.blk.cell 3
            change _ = some (Value.slice AI n cI) at o3
            have f3 := MM7.out.blk.frozen 3
            have v3 := VL7.out.cell 3
            change _ = some (Value.slice (some ⟨gi, oi, none⟩) its.length c) at v3
            have cc := fun (q : Nat) => BX7.out.cell (p := ⟨gi, q, none⟩) GIL.out
            have e0 := (cc _).trans EI.out.1
            have e1 := (cc _).trans EI.out.2.1
            have e2 := (cc _).trans EI.out.2.2.1
            have e3 := (cc _).trans EI.out.2.2.2.1
            have e4 := (cc _).trans EI.out.2.2.2.2
            have lt1 := LU7.out.1
            have lt2 := LU7.out.2.1
            have lt3 := LU7.out.2.2
            clear cc
            go_wp2_with fail
            go_region_law (first
              | (refine step_append_lies _ (by rfl) _ _ _ (by rfl) w4.heap.size 26 iV _ 5 80 Try.underlying23 hiV hzV hsV hbV rfl (by omega) (Value.slice AI n cI) n cs7 (by rfl) (by first | exact HI7.out.alloc _ | exact (HI7.out.alloc _).drew | exact HI7.out.drew.alloc _) ⟨wc.heap.size, 0, none⟩ 1 1 [.int .i64 k', .int .i64 i', .string t', .slice E n1 c1, .slice E' n2 c2] (by rfl) (by rfl) (World.news_of_block (cs := #[.int .i64 k', .int .i64 i', .string t', .slice E n1 c1, .slice E' n2 c2]) (t := 26) (fr := (0, 0)) (heap_alloc_new wc _)) (by simp [Value.oneCell']) (by omega) (by unfold maxLen; omega) (by omega) (by have := BT7.out; simp; omega) (wc.heap.size + 1) (by simp) ?_; intro g2 cap w1 hown1 hgrow hat hlt; have HGW : Hid (wc.grownBy w1 (Value.slice AI n cI).ownBlock) := Lib.hid (by refine grownBy_trans ?_ hgrow; exact ⟨rfl, rfl, rfl, by simp, fun b hb _ => Below.heap_alloc wc _ b hb⟩); have B1 := Lib.hid (MM7.out.blk.grown HGW.out (below_row HI7.out HZ.out)); have q3 := B1.out.cell 3; have q4 := B1.out.cell 4; have p3 := B1.out.frozen 3; have p4 := B1.out.frozen 4))
            all_goals (
              have H9 := Lib.hid (MidR.item MM7.out CS7.out HI7.out HYY.out HGW.out hown1 HZ.out)
              have G9 := Lib.hid (out_grown (i := 3) (u := .slice (some ⟨g2, 0, none⟩) (n + 1) cap) MG7.out HI7.out HGW.out)
              clear hown1 hgrow hat hlt o3 v3 e0 e1 e2 e3 e4 lt1 lt2 lt3 f3
              go_wp2
              go_roundg (ks.length - (j + 1))
              case measure => have := HJ.out; omega
              case rel => exact ⟨j + 1, _, ps ++ [(kj, y)], n + 1, some ⟨g2, 0, none⟩, cap, AK7, cK7, HJ.out, rfl, rfl, by go_num, RES, H9, G9⟩)
      | false =>
        rcases str_ways kj key with hw0 | hw0 | hw0
        · obtain ⟨b1, b2, b4, b5, b0⟩ := hw0
          have m1 : (kj.toList != key.toList) = true := by rw [bne, b2]; rfl
          have RES := Lib.hid (HST.out.trans (stepW_less (p := (kj, y)) b0 b1 false))
          clear b0
          have BS7 : Hid (w4.heap.size ≤ wr.heap.size) := Lib.hid HG.out.size
          have HK7 := Lib.hid HO.out.kys
          have VK7 := Lib.hid (V4.out.grown HG.out (by intro e; injection e with e; omega))
          have BW7 : Hid (Below w.heap.size w wr) := Lib.hid (B4.out.grown HG.out (by have := HZ.out; omega) (fun q hq => by injection hq with hq; omega))
          have LT7 : Hid (w.heap.size < wr.heap.size ∧ w.heap.size + 1 + 1 + 1 < wr.heap.size ∧ gk < wr.heap.size) := Lib.hid (by have := HZ.out; have := BS7.out; have := BW7.out.size; have : gk < w.heap.size := GKL.out; exact ⟨by omega, by omega, by omega⟩)
          have o4 := HO.out.blk.cell 4
          change _ = some (Value.slice AK n cK) at o4
          have f4 := HO.out.blk.frozen 4
          have v4 := VK7.out.cell 4
          change _ = some (Value.slice (some ⟨gk, ok, none⟩) ks.length c') at v4
          have ek := (BW7.out.cell (p := ⟨gk, ok + j, none⟩) GKL.out).trans EK.out
          have lt1 := LT7.out.1
          have lt2 := LT7.out.2.1
          have lt3 := LT7.out.2.2
          go_wp2_with fail
          go_cut [] from 11 to 67 (fun wx => ∃ (AK2 : Option Addr) (cK2 : Nat), Hid (MidR w R w4.heap.size (w.heap.size + 1 + 1 + 1) ps (kj, y) n AI cI AK2 cK2 wx) ∧ Hid (w4.grownBy wx (some (w.heap.size + 1 + 1 + 1))))
          case first =>
            go_region_law (first
              | (refine step_append_lies _ (by rfl) _ _ _ (by rfl) w4.heap.size 9 iS _ 1 16 Try.underlying22 hiS hzS hsS hbS rfl (by omega) (Value.slice AK n cK) n (ps.map fun p => Value.string p.1) (by rfl) (by first | exact HK7.out.alloc _ | exact (HK7.out.alloc _).drew | exact HK7.out.drew.alloc _) ⟨wr.heap.size, 0, none⟩ 1 1 [.string kj] (by rfl) (by rfl) (World.news_of_block (cs := #[.string kj]) (t := 9) (fr := (0, 0)) (heap_alloc_new wr _)) (by simp [Value.oneCell']) (by omega) (by unfold maxLen; omega) (by omega) (by have := BS7.out; simp; omega) (wr.heap.size + 1) (by simp) ?_; intro g2 cap w1 hown1 hgrow hat hlt; have HGW : Hid (wr.grownBy w1 (Value.slice AK n cK).ownBlock) := Lib.hid (by refine grownBy_trans ?_ hgrow; exact ⟨rfl, rfl, rfl, by simp, fun b hb _ => Below.heap_alloc wr _ b hb⟩); have B1 := Lib.hid (HO.out.blk.grown HGW.out (below_row HK7.out HZ.out)); have q3 := B1.out.cell 3; have q4 := B1.out.cell 4; have p3 := B1.out.frozen 3; have p4 := B1.out.frozen 4))
            all_goals (
              have MM := Lib.hid (OutR.key (p := (kj, y)) HO.out HGW.out hown1 HZ.out)
              have MG := Lib.hid (out_grown (i := 4) (u := .slice (some ⟨g2, 0, none⟩) (n + 1) cap) HG.out HO.out.kys HGW.out)
              clear hown1 hgrow hat hlt
              go_wp2_with fail
              go_meet
              exact ⟨some ⟨g2, 0, none⟩, cap, MM, MG⟩)
          case rest =>
            obtain ⟨AK7, cK7, MM7, MG7⟩ := hcut
            clear o4 f4 v4 ek lt1 lt2 lt3
            have BT7 : Hid (w4.heap.size ≤ wc.heap.size) := Lib.hid MG7.out.size
            have VL7 := Lib.hid (V4.out.grown MG7.out (by intro e; injection e with e; omega))
            have BX7 : Hid (Below w.heap.size w wc) := Lib.hid (B4.out.grown MG7.out (by have := HZ.out; omega) (fun q hq => by injection hq with hq; omega))
            have LU7 : Hid (w.heap.size < wc.heap.size ∧ w.heap.size + 1 + 1 + 1 < wc.heap.size ∧ gi < wc.heap.size) := Lib.hid (by have := HZ.out; have := BT7.out; have := BX7.out.size; have : gi < w.heap.size := GIL.out; exact ⟨by omega, by omega, by omega⟩)
            obtain ⟨cs7, hcs, hi⟩ := MM7.out.its
            have CS7 := Lib.hid hcs
            have HI7 := Lib.hid hi
            clear hcs hi
            have o3 := MM7.out.blk.cell 3
            change _ = some (Value.slice AI n cI) at o3
            have f3 := MM7.out.blk.frozen 3
            have v3 := VL7.out.cell 3
            change _ = some (Value.slice (some ⟨gi, oi, none⟩) its.length c) at v3
            have cc := fun (q : Nat) => BX7.out.cell (p := ⟨gi, q, none⟩) GIL.out
            have e0 := (cc _).trans EI.out.1
            have e1 := (cc _).trans EI.out.2.1
            have e2 := (cc _).trans EI.out.2.2.1
            have e3 := (cc _).trans EI.out.2.2.2.1
            have e4 := (cc _).trans EI.out.2.2.2.2
            have lt1 := LU7.out.1
            have lt2 := LU7.out.2.1
            have lt3 := LU7.out.2.2
            clear cc
            go_wp2_with fail
            go_region_law (first
              | (refine step_append_lies _ (by rfl) _ _ _ (by rfl) w4.heap.size 26 iV _ 5 80 Try.underlying23 hiV hzV hsV hbV rfl (by omega) (Value.slice AI n cI) n cs7 (by rfl) (by first | exact HI7.out.alloc _ | exact (HI7.out.alloc _).drew | exact HI7.out.drew.alloc _) ⟨wc.heap.size, 0, none⟩ 1 1 [.int .i64 k', .int .i64 i', .string t', .slice E n1 c1, .slice E' n2 c2] (by rfl) (by rfl) (World.news_of_block (cs := #[.int .i64 k', .int .i64 i', .string t', .slice E n1 c1, .slice E' n2 c2]) (t := 26) (fr := (0, 0)) (heap_alloc_new wc _)) (by simp [Value.oneCell']) (by omega) (by unfold maxLen; omega) (by omega) (by have := BT7.out; simp; omega) (wc.heap.size + 1) (by simp) ?_; intro g2 cap w1 hown1 hgrow hat hlt; have HGW : Hid (wc.grownBy w1 (Value.slice AI n cI).ownBlock) := Lib.hid (by refine grownBy_trans ?_ hgrow; exact ⟨rfl, rfl, rfl, by simp, fun b hb _ => Below.heap_alloc wc _ b hb⟩); have B1 := Lib.hid (MM7.out.blk.grown HGW.out (below_row HI7.out HZ.out)); have q3 := B1.out.cell 3; have q4 := B1.out.cell 4; have p3 := B1.out.frozen 3; have p4 := B1.out.frozen 4))
            all_goals (
              have H9 := Lib.hid (MidR.item MM7.out CS7.out HI7.out HYY.out HGW.out hown1 HZ.out)
              have G9 := Lib.hid (out_grown (i := 3) (u := .slice (some ⟨g2, 0, none⟩) (n + 1) cap) MG7.out HI7.out HGW.out)
              clear hown1 hgrow hat hlt o3 v3 e0 e1 e2 e3 e4 lt1 lt2 lt3 f3
              go_wp2
              go_roundg (ks.length - (j + 1))
              case measure => have := HJ.out; omega
              case rel => exact ⟨j + 1, _, ps ++ [(kj, y)], n + 1, some ⟨g2, 0, none⟩, cap, AK7, cK7, HJ.out, rfl, rfl, by go_num, RES, H9, G9⟩)
        · obtain ⟨b0, b1, b3, b4, b5⟩ := hw0
          have m1 : (kj.toList != key.toList) = false := by rw [bne, b3]; rfl
          have RES := Lib.hid (HST.out.trans (stepW_eq_new (p := (kj, y)) b0))
          clear b0
          have BS6 : Hid (w4.heap.size ≤ wr.heap.size ∧ w.heap.size + 1 + 1 + 1 < w4.heap.size) := Lib.hid (And.intro HG.out.size HZ.out)
          have hk6 := HO.out.kys
          have HK6 := Lib.hid hk6
          clear hk6
          have y3 := HO.out.blk.cell 3
          have y4 := HO.out.blk.cell 4
          change _ = some (Value.slice AI n cI) at y3
          change _ = some (Value.slice AK n cK) at y4
          go_wp2_with (at_builtin; refine wpList_append_own _ rfl (.tmp 30) (.tmp 32) 22 rfl w4.heap.size 9 iS (.string ByteArray.empty) 1 16 Try.underlying22 hiS hzS hsS hbS rfl (by decide) _ n _ rfl (HK6.out.alloc _) ⟨wr.heap.size, 0, none⟩ 1 1 [.string key] rfl (by rfl) (news_alloc (cs := #[.string key]) (t := 9) (by rfl)) (by simp [Value.oneCell']) (by unfold maxLen; omega) (by omega) (by have := BS6.out.1; simp; omega) ?_)
          · intro v5 w6a hown hg _
            obtain ⟨AK6, cK6, rfl, _, _⟩ := own_form hown
            have hgr : wr.grownBy w6a (Value.slice AK n cK).ownBlock := grownBy_trans (World.grownBy_alloc _ _ _) hg
            have MM6 := Lib.hid (OutR.key (p := (key, x)) HO.out hgr hown BS6.out.2)
            have MG6 := Lib.hid (out_grown (i := 4) (u := .slice AK6 (n + 1) cK6) HG.out HO.out.kys hgr)
            have BK6 := Lib.hid (HO.out.blk.grown hgr (below_row HO.out.kys BS6.out.2))
            have GA6 := Lib.hid (grown_low HG.out hgr (fun q hq => (HO.out.kys.lt q hq).1))
            have XA6 := Lib.hid (X4.out.grown GA6.out (by intro e; injection e with e; omega))
            have AS6 : Hid (w4.heap.size ≤ w6a.heap.size) := Lib.hid GA6.out.size
            clear y3 y4 hown hg hgr
            have y3 := BK6.out.cell 3
            have y4 := BK6.out.cell 4
            have z3 := BK6.out.frozen 3
            have z4 := BK6.out.frozen 4
            change _ = some (Value.slice AI n cI) at y3
            change _ = some (Value.slice AK n cK) at y4
            have x0 := XA6.out.cell 0
            change _ = some (Value.int .i64 kx) at x0
            have x1 := XA6.out.cell 1
            change _ = some (Value.int .i64 ix) at x1
            have x2 := XA6.out.cell 2
            change _ = some (Value.string tx) at x2
            have x3 := XA6.out.cell 3
            change _ = some (Value.slice D nx cx) at x3
            have x4 := XA6.out.cell 4
            change _ = some (Value.slice D' mx dx) at x4
            obtain ⟨cs6, hcs, hi⟩ := MM6.out.its
            have CS6 := Lib.hid hcs
            have HI6 := Lib.hid hi
            clear hcs hi
            go_wp2_with (at_builtin; refine wpList_append_own _ rfl (.tmp 36) (.tmp 38) 23 rfl w4.heap.size 26 iV (.agg #[.int .i64 0, .int .i64 0, .string ByteArray.empty, .slice none 0 0, .slice none 0 0]) 5 80 Try.underlying23 hiV hzV hsV hbV rfl (by decide) _ n _ rfl (HI6.out.alloc _) ⟨w6a.heap.size, 0, none⟩ 1 1 [.int .i64 kx, .int .i64 ix, .string tx, .slice D nx cx, .slice D' mx dx] rfl (by rfl) (news_alloc (cs := #[.int .i64 kx, .int .i64 ix, .string tx, .slice D nx cx, .slice D' mx dx]) (t := 26) (by simp [World.setCell])) (by simp [Value.oneCell']) (by unfold maxLen; omega) (by omega) (by have := AS6.out; simp [World.setCell]; omega) ?_)
            · intro v7 w6b hown hg _
              obtain ⟨AI6, cI6, rfl, _, _⟩ := own_formN hown
              have hgr : (w6a.setCell ⟨w.heap.size + 1 + 1 + 1, 4, none⟩ (.slice AK6 (n + 1) cK6)).grownBy w6b (Value.slice AI n cI).ownBlock := grownBy_trans (World.grownBy_alloc _ _ _) hg
              have H6 := Lib.hid (MidR.item MM6.out CS6.out HI6.out HXX.out hgr hown BS6.out.2)
              have G6 := Lib.hid (out_grown (i := 3) (u := .slice AI6 (n + 1) cI6) MG6.out HI6.out hgr)
              have BL6 := Lib.hid (MM6.out.blk.grown hgr (below_row HI6.out BS6.out.2))
              clear y3 y4 z3 z4 x0 x1 x2 x3 x4 hown hg hgr
              have z3 := BL6.out.frozen 3
              have y3 := BL6.out.cell 3
              change _ = some (Value.slice AI n cI) at y3
              go_upto_region 10 with fail
              obtain ⟨w6, hw6⟩ : ∃ w6, w6 = w6b.setCell ⟨w.heap.size + 1 + 1 + 1, 3, none⟩ (.slice AI6 (n + 1) cI6) := ⟨_, rfl⟩
              rw [← hw6] at H6 G6 ⊢
              clear hw6 y3 z3
              have V6 := Lib.hid (V4.out.grown G6.out (by intro e; injection e with e; omega))
              have B6 : Hid (Below w.heap.size w w6) := Lib.hid (B4.out.grown G6.out (by have := HZ.out; omega) (fun q hq => by injection hq with hq; omega))
              have a6 := V6.out.cell 4
              change _ = some (Value.slice (some ⟨gk, ok, none⟩) ks.length c') at a6
              have ek6 := (B6.out.cell (p := ⟨gk, ok + j, none⟩) GKL.out).trans EK.out
              clear a4 ekr
              go_wp2_with fail
              go_roundg (ks.length - (j + 1))
              case measure => have := HJ.out; omega
              case rel => exact ⟨j + 1, _, _, n + 1, AI6, cI6, AK6, cK6, HJ.out, rfl, rfl, by go_num, RES, H6, G6⟩
        · obtain ⟨b1, b2, b4, b5, b0⟩ := hw0
          have m1 : (kj.toList != key.toList) = true := by rw [bne, b2]; rfl
          have RES := Lib.hid (HST.out.trans (stepW_new (p := (kj, y)) b0 b1))
          clear b0
          have BS6 : Hid (w4.heap.size ≤ wr.heap.size ∧ w.heap.size + 1 + 1 + 1 < w4.heap.size) := Lib.hid (And.intro HG.out.size HZ.out)
          have hk6 := HO.out.kys
          have HK6 := Lib.hid hk6
          clear hk6
          have y3 := HO.out.blk.cell 3
          have y4 := HO.out.blk.cell 4
          change _ = some (Value.slice AI n cI) at y3
          change _ = some (Value.slice AK n cK) at y4
          go_wp2_with (at_builtin; refine wpList_append_own _ rfl (.tmp 30) (.tmp 32) 22 rfl w4.heap.size 9 iS (.string ByteArray.empty) 1 16 Try.underlying22 hiS hzS hsS hbS rfl (by decide) _ n _ rfl (HK6.out.alloc _) ⟨wr.heap.size, 0, none⟩ 1 1 [.string key] rfl (by rfl) (news_alloc (cs := #[.string key]) (t := 9) (by rfl)) (by simp [Value.oneCell']) (by unfold maxLen; omega) (by omega) (by have := BS6.out.1; simp; omega) ?_)
          · intro v5 w6a hown hg _
            obtain ⟨AK6, cK6, rfl, _, _⟩ := own_form hown
            have hgr : wr.grownBy w6a (Value.slice AK n cK).ownBlock := grownBy_trans (World.grownBy_alloc _ _ _) hg
            have MM6 := Lib.hid (OutR.key (p := (key, x)) HO.out hgr hown BS6.out.2)
            have MG6 := Lib.hid (out_grown (i := 4) (u := .slice AK6 (n + 1) cK6) HG.out HO.out.kys hgr)
            have BK6 := Lib.hid (HO.out.blk.grown hgr (below_row HO.out.kys BS6.out.2))
            have GA6 := Lib.hid (grown_low HG.out hgr (fun q hq => (HO.out.kys.lt q hq).1))
            have XA6 := Lib.hid (X4.out.grown GA6.out (by intro e; injection e with e; omega))
            have AS6 : Hid (w4.heap.size ≤ w6a.heap.size) := Lib.hid GA6.out.size
            clear y3 y4 hown hg hgr
            have y3 := BK6.out.cell 3
            have y4 := BK6.out.cell 4
            have z3 := BK6.out.frozen 3
            have z4 := BK6.out.frozen 4
            change _ = some (Value.slice AI n cI) at y3
            change _ = some (Value.slice AK n cK) at y4
            have x0 := XA6.out.cell 0
            change _ = some (Value.int .i64 kx) at x0
            have x1 := XA6.out.cell 1
            change _ = some (Value.int .i64 ix) at x1
            have x2 := XA6.out.cell 2
            change _ = some (Value.string tx) at x2
            have x3 := XA6.out.cell 3
            change _ = some (Value.slice D nx cx) at x3
            have x4 := XA6.out.cell 4
            change _ = some (Value.slice D' mx dx) at x4
            obtain ⟨cs6, hcs, hi⟩ := MM6.out.its
            have CS6 := Lib.hid hcs
            have HI6 := Lib.hid hi
            clear hcs hi
            go_wp2_with (at_builtin; refine wpList_append_own _ rfl (.tmp 36) (.tmp 38) 23 rfl w4.heap.size 26 iV (.agg #[.int .i64 0, .int .i64 0, .string ByteArray.empty, .slice none 0 0, .slice none 0 0]) 5 80 Try.underlying23 hiV hzV hsV hbV rfl (by decide) _ n _ rfl (HI6.out.alloc _) ⟨w6a.heap.size, 0, none⟩ 1 1 [.int .i64 kx, .int .i64 ix, .string tx, .slice D nx cx, .slice D' mx dx] rfl (by rfl) (news_alloc (cs := #[.int .i64 kx, .int .i64 ix, .string tx, .slice D nx cx, .slice D' mx dx]) (t := 26) (by simp [World.setCell])) (by simp [Value.oneCell']) (by unfold maxLen; omega) (by omega) (by have := AS6.out; simp [World.setCell]; omega) ?_)
            · intro v7 w6b hown hg _
              obtain ⟨AI6, cI6, rfl, _, _⟩ := own_formN hown
              have hgr : (w6a.setCell ⟨w.heap.size + 1 + 1 + 1, 4, none⟩ (.slice AK6 (n + 1) cK6)).grownBy w6b (Value.slice AI n cI).ownBlock := grownBy_trans (World.grownBy_alloc _ _ _) hg
              have H6 := Lib.hid (MidR.item MM6.out CS6.out HI6.out HXX.out hgr hown BS6.out.2)
              have G6 := Lib.hid (out_grown (i := 3) (u := .slice AI6 (n + 1) cI6) MG6.out HI6.out hgr)
              have BL6 := Lib.hid (MM6.out.blk.grown hgr (below_row HI6.out BS6.out.2))
              clear y3 y4 z3 z4 x0 x1 x2 x3 x4 hown hg hgr
              have z3 := BL6.out.frozen 3
              have y3 := BL6.out.cell 3
              change _ = some (Value.slice AI n cI) at y3
              go_upto_region 10 with fail
              obtain ⟨w6, hw6⟩ : ∃ w6, w6 = w6b.setCell ⟨w.heap.size + 1 + 1 + 1, 3, none⟩ (.slice AI6 (n + 1) cI6) := ⟨_, rfl⟩
              rw [← hw6] at H6 G6 ⊢
              clear hw6 y3 z3
              have V6 := Lib.hid (V4.out.grown G6.out (by intro e; injection e with e; omega))
              have B6 : Hid (Below w.heap.size w w6) := Lib.hid (B4.out.grown G6.out (by have := HZ.out; omega) (fun q hq => by injection hq with hq; omega))
              have a6 := V6.out.cell 4
              change _ = some (Value.slice (some ⟨gk, ok, none⟩) ks.length c') at a6
              have ek6 := (B6.out.cell (p := ⟨gk, ok + j, none⟩) GKL.out).trans EK.out
              clear a4 ekr
              go_wp2_with fail
              clear a6 ek6
              have BS7 : Hid (w4.heap.size ≤ w6.heap.size) := Lib.hid G6.out.size
              have HK7 := Lib.hid H6.out.kys
              have VK7 := Lib.hid (V4.out.grown G6.out (by intro e; injection e with e; omega))
              have BW7 : Hid (Below w.heap.size w w6) := Lib.hid (B4.out.grown G6.out (by have := HZ.out; omega) (fun q hq => by injection hq with hq; omega))
              have LT7 : Hid (w.heap.size < w6.heap.size ∧ w.heap.size + 1 + 1 + 1 < w6.heap.size ∧ gk < w6.heap.size) := Lib.hid (by have := HZ.out; have := BS7.out; have := BW7.out.size; have : gk < w.heap.size := GKL.out; exact ⟨by omega, by omega, by omega⟩)
              have o4 := H6.out.blk.cell 4
              change _ = some (Value.slice AK6 (n + 1) cK6) at o4
              have f4 := H6.out.blk.frozen 4
              have v4 := VK7.out.cell 4
              change _ = some (Value.slice (some ⟨gk, ok, none⟩) ks.length c') at v4
              have ek := (BW7.out.cell (p := ⟨gk, ok + j, none⟩) GKL.out).trans EK.out
              have lt1 := LT7.out.1
              have lt2 := LT7.out.2.1
              have lt3 := LT7.out.2.2
              go_wp2_with fail
              go_cut [] from 11 to 67 (fun wx => ∃ (AK2 : Option Addr) (cK2 : Nat), Hid (MidR w R w4.heap.size (w.heap.size + 1 + 1 + 1) (ps ++ [(key, x)]) (kj, y) (n + 1) AI6 cI6 AK2 cK2 wx) ∧ Hid (w4.grownBy wx (some (w.heap.size + 1 + 1 + 1))))
              case first =>
                go_region_law (first
                  | (refine step_append_lies _ (by rfl) _ _ _ (by rfl) w4.heap.size 9 iS _ 1 16 Try.underlying22 hiS hzS hsS hbS rfl (by omega) (Value.slice AK6 (n + 1) cK6) (n + 1) ((ps ++ [(key, x)]).map fun p => Value.string p.1) (by rfl) (by first | exact HK7.out.alloc _ | exact (HK7.out.alloc _).drew | exact HK7.out.drew.alloc _) ⟨w6.heap.size, 0, none⟩ 1 1 [.string kj] (by rfl) (by rfl) (World.news_of_block (cs := #[.string kj]) (t := 9) (fr := (0, 0)) (heap_alloc_new w6 _)) (by simp [Value.oneCell']) (by omega) (by unfold maxLen; omega) (by omega) (by have := BS7.out; simp; omega) (w6.heap.size + 1) (by simp) ?_; intro g2 cap w1 hown1 hgrow hat hlt; have HGW : Hid (w6.grownBy w1 (Value.slice AK6 (n + 1) cK6).ownBlock) := Lib.hid (by refine grownBy_trans ?_ hgrow; exact ⟨rfl, rfl, rfl, by simp, fun b hb _ => Below.heap_alloc w6 _ b hb⟩); have B1 := Lib.hid (H6.out.blk.grown HGW.out (below_row HK7.out HZ.out)); have q3 := B1.out.cell 3; have q4 := B1.out.cell 4; have p3 := B1.out.frozen 3; have p4 := B1.out.frozen 4))
                all_goals (
                  have MM := Lib.hid (OutR.key (p := (kj, y)) H6.out HGW.out hown1 HZ.out)
                  have MG := Lib.hid (out_grown (i := 4) (u := .slice (some ⟨g2, 0, none⟩) ((n + 1) + 1) cap) G6.out H6.out.kys HGW.out)
                  clear hown1 hgrow hat hlt
                  go_wp2_with fail
                  go_meet
                  exact ⟨some ⟨g2, 0, none⟩, cap, MM, MG⟩)
              case rest =>
                obtain ⟨AK7, cK7, MM7, MG7⟩ := hcut
                clear o4 f4 v4 ek lt1 lt2 lt3
                have BT7 : Hid (w4.heap.size ≤ wc.heap.size) := Lib.hid MG7.out.size
                have VL7 := Lib.hid (V4.out.grown MG7.out (by intro e; injection e with e; omega))
                have BX7 : Hid (Below w.heap.size w wc) := Lib.hid (B4.out.grown MG7.out (by have := HZ.out; omega) (fun q hq => by injection hq with hq; omega))
                have LU7 : Hid (w.heap.size < wc.heap.size ∧ w.heap.size + 1 + 1 + 1 < wc.heap.size ∧ gi < wc.heap.size) := Lib.hid (by have := HZ.out; have := BT7.out; have := BX7.out.size; have : gi < w.heap.size := GIL.out; exact ⟨by omega, by omega, by omega⟩)
                obtain ⟨cs7, hcs, hi⟩ := MM7.out.its
                have CS7 := Lib.hid hcs
                have HI7 := Lib.hid hi
                clear hcs hi
                have o3 := MM7.out.blk.cell 3
                change _ = some (Value.slice AI6 (n + 1) cI6) at o3
                have f3 := MM7.out.blk.frozen 3
                have v3 := VL7.out.cell 3
                change _ = some (Value.slice (some ⟨gi, oi, none⟩) its.length c) at v3
                have cc := fun (q : Nat) => BX7.out.cell (p := ⟨gi, q, none⟩) GIL.out
                have e0 := (cc _).trans EI.out.1
                have e1 := (cc _).trans EI.out.2.1
                have e2 := (cc _).trans EI.out.2.2.1
                have e3 := (cc _).trans EI.out.2.2.2.1
                have e4 := (cc _).trans EI.out.2.2.2.2
                have lt1 := LU7.out.1
                have lt2 := LU7.out.2.1
                have lt3 := LU7.out.2.2
                clear cc
                go_wp2_with fail
                go_region_law (first
                  | (refine step_append_lies _ (by rfl) _ _ _ (by rfl) w4.heap.size 26 iV _ 5 80 Try.underlying23 hiV hzV hsV hbV rfl (by omega) (Value.slice AI6 (n + 1) cI6) (n + 1) cs7 (by rfl) (by first | exact HI7.out.alloc _ | exact (HI7.out.alloc _).drew | exact HI7.out.drew.alloc _) ⟨wc.heap.size, 0, none⟩ 1 1 [.int .i64 k', .int .i64 i', .string t', .slice E n1 c1, .slice E' n2 c2] (by rfl) (by rfl) (World.news_of_block (cs := #[.int .i64 k', .int .i64 i', .string t', .slice E n1 c1, .slice E' n2 c2]) (t := 26) (fr := (0, 0)) (heap_alloc_new wc _)) (by simp [Value.oneCell']) (by omega) (by unfold maxLen; omega) (by omega) (by have := BT7.out; simp; omega) (wc.heap.size + 1) (by simp) ?_; intro g2 cap w1 hown1 hgrow hat hlt; have HGW : Hid (wc.grownBy w1 (Value.slice AI6 (n + 1) cI6).ownBlock) := Lib.hid (by refine grownBy_trans ?_ hgrow; exact ⟨rfl, rfl, rfl, by simp, fun b hb _ => Below.heap_alloc wc _ b hb⟩); have B1 := Lib.hid (MM7.out.blk.grown HGW.out (below_row HI7.out HZ.out)); have q3 := B1.out.cell 3; have q4 := B1.out.cell 4; have p3 := B1.out.frozen 3; have p4 := B1.out.frozen 4))
                all_goals (
                  have H9 := Lib.hid (MidR.item MM7.out CS7.out HI7.out HYY.out HGW.out hown1 HZ.out)
                  have G9 := Lib.hid (out_grown (i := 3) (u := .slice (some ⟨g2, 0, none⟩) ((n + 1) + 1) cap) MG7.out HI7.out HGW.out)
                  clear hown1 hgrow hat hlt o3 v3 e0 e1 e2 e3 e4 lt1 lt2 lt3 f3
                  go_wp2
                  go_roundg (ks.length - (j + 1))
                  case measure => have := HJ.out; omega
                  case rel => exact ⟨j + 1, _, (ps ++ [(key, x)]) ++ [(kj, y)], (n + 1) + 1, some ⟨g2, 0, none⟩, cap, AK7, cK7, HJ.out, rfl, rfl, by go_num, RES, H9, G9⟩)
    · obtain rfl : j = ks.length := by omega
      have HE : Hid (foldW key x (ks.zip its) = (d, ps)) := Lib.hid (by have := HF.out; rwa [List.take_of_length_le (by rw [List.length_zip]; omega)] at this)
      clear HF hlt
      change _ = some (Value.slice A' ks.length c') at a4
      cases d with
      | true =>
        have HWL : Hid (withL key x (ks.zip its) = ps) := Lib.hid (by unfold withL; rw [HE.out]; rfl)
        have RZ := Lib.hid (R4.out.grown HG.out (by intro e; injection e with e; omega))
        have BZ : Hid (Below w.heap.size w wr) := Lib.hid (B4.out.grown HG.out (by have := HZ.out; omega) (fun q hq => by injection hq with hq; omega))
        have o0 := HO.out.blk.cell 0
        have o1 := HO.out.blk.cell 1
        have o2 := HO.out.blk.cell 2
        have o3 := HO.out.blk.cell 3
        have o4 := HO.out.blk.cell 4
        have r0 := RZ.out.cell 0
        have r1 := RZ.out.cell 1
        have r2 := RZ.out.cell 2
        have r3 := RZ.out.cell 3
        have r4 := RZ.out.cell 4
        have f0 := RZ.out.frozen 0
        have f1 := RZ.out.frozen 1
        have f2 := RZ.out.frozen 2
        have f3 := RZ.out.frozen 3
        have f4 := RZ.out.frozen 4
        go_wp2
        obtain ⟨wf, hwf⟩ : ∃ wf, wf = ((((wr.setCell ⟨w.heap.size + 1 + 1, 0, none⟩ (.int .i64 5)).setCell ⟨w.heap.size + 1 + 1, 1, none⟩ (.int .i64 0)).setCell ⟨w.heap.size + 1 + 1, 2, none⟩ (.string ⟨#[]⟩)).setCell ⟨w.heap.size + 1 + 1, 3, none⟩ (.slice AI n cI)).setCell ⟨w.heap.size + 1 + 1, 4, none⟩ (.slice AK n cK) := ⟨_, rfl⟩
        have QF : Hid (Bk wf (w.heap.size + 1 + 1) 26 #[.int .i64 5, .int .i64 0, .string ⟨#[]⟩, .slice AI n cI, .slice AK n cK]) := Lib.hid (by rw [hwf]; exact ((((RZ.out.put 0 _).put 1 _).put 2 _).put 3 _).put 4 _)
        have SF : Hid (∀ b, b ≠ w.heap.size + 1 + 1 → wf.heap[b]? = wr.heap[b]?) := Lib.hid (fun b hb => by
          rw [hwf]; exact ((((Below.heap_setCell _ _ _ _ hb).trans (Below.heap_setCell _ _ _ _ hb)).trans (Below.heap_setCell _ _ _ _ hb)).trans (Below.heap_setCell _ _ _ _ hb)).trans (Below.heap_setCell _ _ _ _ hb))
        have ZF : Hid (wf.heap.size = wr.heap.size) := Lib.hid (by rw [hwf]; simp [World.setCell])
        have BF : Hid (Below w.heap.size w wf) := Lib.hid (by
          rw [hwf]
          exact ((((BZ.out.setCell (p := ⟨w.heap.size + 1 + 1, 0, none⟩) (by show w.heap.size ≤ w.heap.size + 1 + 1; omega) _).setCell (p := ⟨w.heap.size + 1 + 1, 1, none⟩) (by show w.heap.size ≤ w.heap.size + 1 + 1; omega) _).setCell (p := ⟨w.heap.size + 1 + 1, 2, none⟩) (by show w.heap.size ≤ w.heap.size + 1 + 1; omega) _).setCell (p := ⟨w.heap.size + 1 + 1, 3, none⟩) (by show w.heap.size ≤ w.heap.size + 1 + 1; omega) _).setCell (p := ⟨w.heap.size + 1 + 1, 4, none⟩) (by show w.heap.size ≤ w.heap.size + 1 + 1; omega) _)
        rw [← hwf]
        refine bodyPost_ret (results_cell_row rfl _ _ (w.heap.size + 1 + 1) 26 _ (0, 0) _ rfl QF.out Try.underlying26 rfl (by kernel_rfl)) rfl ?_
        rw [HWL.out]
        refine ⟨_, rfl, OutR.lies (B := w4.heap.size) (g := w.heap.size + 1 + 1 + 1) (wr := wf) ?_ HRR.out (by have := HZ.out; omega) BF.out ?_, BF.out⟩
        · obtain ⟨csz, hcz, hiz⟩ := HO.out.its
          have hge : w4.heap.size ≤ wr.heap.size := HG.out.size
          exact ⟨HO.out.len, (SF.out _ (by omega)).trans HO.out.blk, ⟨csz, hcz, own_same (lo := w4.heap.size) hiz (fun b h1 _ => SF.out b (by have := HZ.out; omega))⟩, own_same (lo := w4.heap.size) HO.out.kys (fun b h1 _ => SF.out b (by have := HZ.out; omega))⟩
        · intro p hp
          have h5 : p ∈ withL key x (ks.zip its) := by rw [HWL.out]; exact hp
          exact withL_keys HKS.out.1 (fun q hq => HKS.out.2 q.1 (List.of_mem_zip (a := q.1) (b := q.2) hq).1) p h5
      | false =>
        have HWL : Hid (withL key x (ks.zip its) = ps ++ [(key, x)]) := Lib.hid (by unfold withL; rw [HE.out]; rfl)
        have BS6 : Hid (w4.heap.size ≤ wr.heap.size ∧ w.heap.size + 1 + 1 + 1 < w4.heap.size) := Lib.hid (And.intro HG.out.size HZ.out)
        have hk6 := HO.out.kys
        have HK6 := Lib.hid hk6
        clear hk6
        have y3 := HO.out.blk.cell 3
        have y4 := HO.out.blk.cell 4
        change _ = some (Value.slice AI n cI) at y3
        change _ = some (Value.slice AK n cK) at y4
        go_wp2_with (at_builtin; refine wpList_append_own _ rfl (.tmp 71) (.tmp 73) 22 rfl w4.heap.size 9 iS (.string ByteArray.empty) 1 16 Try.underlying22 hiS hzS hsS hbS rfl (by decide) _ n _ rfl (HK6.out.alloc _) ⟨wr.heap.size, 0, none⟩ 1 1 [.string key] rfl (by rfl) (news_alloc (cs := #[.string key]) (t := 9) (by rfl)) (by simp [Value.oneCell']) (by unfold maxLen; omega) (by omega) (by have := BS6.out.1; simp; omega) ?_)
        · intro v5 w6a hown hg _
          obtain ⟨AK6, cK6, rfl, _, _⟩ := own_form hown
          have hgr : wr.grownBy w6a (Value.slice AK n cK).ownBlock := grownBy_trans (World.grownBy_alloc _ _ _) hg
          have MM6 := Lib.hid (OutR.key (p := (key, x)) HO.out hgr hown BS6.out.2)
          have MG6 := Lib.hid (out_grown (i := 4) (u := .slice AK6 (n + 1) cK6) HG.out HO.out.kys hgr)
          have BK6 := Lib.hid (HO.out.blk.grown hgr (below_row HO.out.kys BS6.out.2))
          have GA6 := Lib.hid (grown_low HG.out hgr (fun q hq => (HO.out.kys.lt q hq).1))
          have XA6 := Lib.hid (X4.out.grown GA6.out (by intro e; injection e with e; omega))
          have AS6 : Hid (w4.heap.size ≤ w6a.heap.size) := Lib.hid GA6.out.size
          clear y3 y4 hown hg hgr
          have y3 := BK6.out.cell 3
          have y4 := BK6.out.cell 4
          have z3 := BK6.out.frozen 3
          have z4 := BK6.out.frozen 4
          change _ = some (Value.slice AI n cI) at y3
          change _ = some (Value.slice AK n cK) at y4
          have x0 := XA6.out.cell 0
          change _ = some (Value.int .i64 kx) at x0
          have x1 := XA6.out.cell 1
          change _ = some (Value.int .i64 ix) at x1
          have x2 := XA6.out.cell 2
          change _ = some (Value.string tx) at x2
          have x3 := XA6.out.cell 3
          change _ = some (Value.slice D nx cx) at x3
          have x4 := XA6.out.cell 4
          change _ = some (Value.slice D' mx dx) at x4
          obtain ⟨cs6, hcs, hi⟩ := MM6.out.its
          have CS6 := Lib.hid hcs
          have HI6 := Lib.hid hi
          clear hcs hi
          go_wp2_with (at_builtin; refine wpList_append_own _ rfl (.tmp 77) (.tmp 79) 23 rfl w4.heap.size 26 iV (.agg #[.int .i64 0, .int .i64 0, .string ByteArray.empty, .slice none 0 0, .slice none 0 0]) 5 80 Try.underlying23 hiV hzV hsV hbV rfl (by decide) _ n _ rfl (HI6.out.alloc _) ⟨w6a.heap.size, 0, none⟩ 1 1 [.int .i64 kx, .int .i64 ix, .string tx, .slice D nx cx, .slice D' mx dx] rfl (by rfl) (news_alloc (cs := #[.int .i64 kx, .int .i64 ix, .string tx, .slice D nx cx, .slice D' mx dx]) (t := 26) (by simp [World.setCell])) (by simp [Value.oneCell']) (by unfold maxLen; omega) (by omega) (by have := AS6.out; simp [World.setCell]; omega) ?_)
          · intro v7 w6b hown hg _
            obtain ⟨AI6, cI6, rfl, _, _⟩ := own_formN hown
            have hgr : (w6a.setCell ⟨w.heap.size + 1 + 1 + 1, 4, none⟩ (.slice AK6 (n + 1) cK6)).grownBy w6b (Value.slice AI n cI).ownBlock := grownBy_trans (World.grownBy_alloc _ _ _) hg
            have H6 := Lib.hid (MidR.item MM6.out CS6.out HI6.out HXX.out hgr hown BS6.out.2)
            have G6 := Lib.hid (out_grown (i := 3) (u := .slice AI6 (n + 1) cI6) MG6.out HI6.out hgr)
            have BL6 := Lib.hid (MM6.out.blk.grown hgr (below_row HI6.out BS6.out.2))
            clear y3 y4 z3 z4 x0 x1 x2 x3 x4 hown hg hgr
            have z3 := BL6.out.frozen 3
            have y3 := BL6.out.cell 3
            change _ = some (Value.slice AI n cI) at y3
            go_upto_region 16 with fail
            obtain ⟨w6, hw6⟩ : ∃ w6, w6 = w6b.setCell ⟨w.heap.size + 1 + 1 + 1, 3, none⟩ (.slice AI6 (n + 1) cI6) := ⟨_, rfl⟩
            rw [← hw6] at H6 G6 ⊢
            clear hw6 y3 z3
            clear a4
            have RZ := Lib.hid (R4.out.grown G6.out (by intro e; injection e with e; omega))
            have BZ : Hid (Below w.heap.size w w6) := Lib.hid (B4.out.grown G6.out (by have := HZ.out; omega) (fun q hq => by injection hq with hq; omega))
            have o0 := H6.out.blk.cell 0
            have o1 := H6.out.blk.cell 1
            have o2 := H6.out.blk.cell 2
            have o3 := H6.out.blk.cell 3
            have o4 := H6.out.blk.cell 4
            have r0 := RZ.out.cell 0
            have r1 := RZ.out.cell 1
            have r2 := RZ.out.cell 2
            have r3 := RZ.out.cell 3
            have r4 := RZ.out.cell 4
            have f0 := RZ.out.frozen 0
            have f1 := RZ.out.frozen 1
            have f2 := RZ.out.frozen 2
            have f3 := RZ.out.frozen 3
            have f4 := RZ.out.frozen 4
            go_wp2
            obtain ⟨wf, hwf⟩ : ∃ wf, wf = ((((w6.setCell ⟨w.heap.size + 1 + 1, 0, none⟩ (.int .i64 5)).setCell ⟨w.heap.size + 1 + 1, 1, none⟩ (.int .i64 0)).setCell ⟨w.heap.size + 1 + 1, 2, none⟩ (.string ⟨#[]⟩)).setCell ⟨w.heap.size + 1 + 1, 3, none⟩ (.slice AI6 (n + 1) cI6)).setCell ⟨w.heap.size + 1 + 1, 4, none⟩ (.slice AK6 (n + 1) cK6) := ⟨_, rfl⟩
            have QF : Hid (Bk wf (w.heap.size + 1 + 1) 26 #[.int .i64 5, .int .i64 0, .string ⟨#[]⟩, .slice AI6 (n + 1) cI6, .slice AK6 (n + 1) cK6]) := Lib.hid (by rw [hwf]; exact ((((RZ.out.put 0 _).put 1 _).put 2 _).put 3 _).put 4 _)
            have SF : Hid (∀ b, b ≠ w.heap.size + 1 + 1 → wf.heap[b]? = w6.heap[b]?) := Lib.hid (fun b hb => by
              rw [hwf]; exact ((((Below.heap_setCell _ _ _ _ hb).trans (Below.heap_setCell _ _ _ _ hb)).trans (Below.heap_setCell _ _ _ _ hb)).trans (Below.heap_setCell _ _ _ _ hb)).trans (Below.heap_setCell _ _ _ _ hb))
            have ZF : Hid (wf.heap.size = w6.heap.size) := Lib.hid (by rw [hwf]; simp [World.setCell])
            have BF : Hid (Below w.heap.size w wf) := Lib.hid (by
              rw [hwf]
              exact ((((BZ.out.setCell (p := ⟨w.heap.size + 1 + 1, 0, none⟩) (by show w.heap.size ≤ w.heap.size + 1 + 1; omega) _).setCell (p := ⟨w.heap.size + 1 + 1, 1, none⟩) (by show w.heap.size ≤ w.heap.size + 1 + 1; omega) _).setCell (p := ⟨w.heap.size + 1 + 1, 2, none⟩) (by show w.heap.size ≤ w.heap.size + 1 + 1; omega) _).setCell (p := ⟨w.heap.size + 1 + 1, 3, none⟩) (by show w.heap.size ≤ w.heap.size + 1 + 1; omega) _).setCell (p := ⟨w.heap.size + 1 + 1, 4, none⟩) (by show w.heap.size ≤ w.heap.size + 1 + 1; omega) _)
            rw [← hwf]
            refine bodyPost_ret (results_cell_row rfl _ _ (w.heap.size + 1 + 1) 26 _ (0, 0) _ rfl QF.out Try.underlying26 rfl (by kernel_rfl)) rfl ?_
            rw [HWL.out]
            refine ⟨_, rfl, OutR.lies (B := w4.heap.size) (g := w.heap.size + 1 + 1 + 1) (wr := wf) ?_ HRR.out (by have := HZ.out; omega) BF.out ?_, BF.out⟩
            · obtain ⟨csz, hcz, hiz⟩ := H6.out.its
              have hge : w4.heap.size ≤ w6.heap.size := G6.out.size
              exact ⟨H6.out.len, (SF.out _ (by omega)).trans H6.out.blk, ⟨csz, hcz, own_same (lo := w4.heap.size) hiz (fun b h1 _ => SF.out b (by have := HZ.out; omega))⟩, own_same (lo := w4.heap.size) H6.out.kys (fun b h1 _ => SF.out b (by have := HZ.out; omega))⟩
            · intro p hp
              have h5 : p ∈ withL key x (ks.zip its) := by rw [HWL.out]; exact hp
              exact withL_keys HKS.out.1 (fun q hq => HKS.out.2 q.1 (List.of_mem_zip (a := q.1) (b := q.2) hq).1) p h5
end Go.Proofs.Ytidinbeanaifmaa
