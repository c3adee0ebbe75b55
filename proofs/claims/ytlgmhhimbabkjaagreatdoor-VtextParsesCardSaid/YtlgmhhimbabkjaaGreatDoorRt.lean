/-
  The reference's parser: put. (gen_rput.py)
-/
import Derived.Test.YtlgmhhimbabkjaaGreatDoorRm
import Derived.Test.YtlgmhhimbabkjaaGreatDoorRk
import Derived.Test.YtlgmhhimbabkjaaGreatDoorVcq
import Derived.Deep.LoopGhost
namespace Go.Proofs.YtlgmhhimbabkjaaGreatDoor
open Go.RowKit

theorem gro_low {a b c : World} {r r' : Option Nat} (h : a.grownBy b r) (k : b.grownBy c r') (hr : ∀ q, r' = some q → a.heap.size ≤ q) : a.grownBy c r :=
  ⟨k.os.trans h.os, k.tape.trans h.tape, k.output.trans h.output, Nat.le_trans h.size k.size, fun i hi hn => (k.block i (Nat.lt_of_lt_of_le hi h.size) (fun e => by have := hr i e.symm; omega)).trans (h.block i hi hn)⟩
theorem new_alloc {w : World} {cs : Array Value} {t : TypeId} {H : Nat} (h : w.heap.size = H) : ∀ (j : Nat) (u : Value), cs.toList[j]? = some u → (w.alloc (.cells cs t)).cell? ((⟨H, 0, none⟩ : Addr).add j) = some u := by
  subst h
  exact World.news_of_block (heap_alloc_new w _)
/-- two rows under way: items and keys; what the items hold lies in w -/
structure PutR (w : World) (R : Nat → Prop) (B : Nat) (iv : List VT) (kv : List ByteArray) (n m : Nat) (AI : Option Addr) (cI : Nat) (AK : Option Addr) (cK : Nat) (wr : World) : Prop where
  leni : iv.length = n
  lenk : kv.length = m
  its : ∃ cs, LiesC w R iv cs ∧ wr.ownsRow B 25 5 (.slice AI n cI) n cs
  kys : wr.ownsRow B 9 1 (.slice AK m cK) m (kv.map Value.string)
section
variable {R : Nat → Prop} {w wr w5 : World} {B n m : Nat} {iv : List VT} {kv : List ByteArray} {AI AK AI2 AK2 : Option Addr} {cI cK cI2 cK2 : Nat}
theorem PutR.key {key : ByteArray} (h : PutR w R B iv kv n m AI cI AK cK wr) (hg : wr.grownBy w5 (Value.slice AK m cK).ownBlock)
    (hown : w5.ownsRow B 9 1 (.slice AK2 (m + 1) cK2) (m + 1) (kv.map Value.string ++ [.string key])) : PutR w R B iv (kv ++ [key]) n (m + 1) AI cI AK2 cK2 w5 := by
  obtain ⟨cs, hcs, hi⟩ := h.its
  refine ⟨h.leni, by rw [List.length_append, h.lenk]; rfl, ⟨cs, hcs, hi.kept hg (own_ne hi h.kys (by decide))⟩, ?_⟩
  rw [List.map_append]
  exact hown
theorem PutR.item {x : VT} {a b s y z : Value} {cs : List Value} (h : PutR w R B iv kv n m AI cI AK cK wr) (hcs : LiesC w R iv cs) (hi : wr.ownsRow B 25 5 (.slice AI n cI) n cs)
    (hx : Lies w R x (.agg #[a, b, s, y, z])) (hg : wr.grownBy w5 (Value.slice AI n cI).ownBlock)
    (hown : w5.ownsRow B 25 5 (.slice AI2 (n + 1) cI2) (n + 1) (cs ++ [a, b, s, y, z])) : PutR w R B (iv ++ [x]) kv (n + 1) m AI2 cI2 AK cK w5 :=
  ⟨by rw [List.length_append, h.leni]; rfl, h.lenk, ⟨cs ++ [a, b, s, y, z], LiesC.append hcs ⟨a, b, s, y, z, [], rfl, hx, rfl⟩, hown⟩, h.kys.kept hg (own_ne h.kys hi (by decide))⟩
theorem midP_len0 {α : Type} {P j : Nat} {y : α} {l : List α} (h : ¬ P < j) : (midP P j y l).length ≤ j := by
  unfold midP
  rw [if_neg h, List.length_take]
  omega
theorem own_list {w : World} {lo : Nat} {e : TypeId} {size n : Nat} {v : Value} {xs ys : List Value} (h : w.ownsRow lo e size v n xs) (hy : xs = ys) : w.ownsRow lo e size v n ys := hy ▸ h
theorem PutR.cast {iv2 : List VT} {kv2 : List ByteArray} (h : PutR w R B iv kv n m AI cI AK cK wr) (e1 : iv = iv2) (e2 : kv = kv2) : PutR w R B iv2 kv2 n m AI cI AK cK wr := by
  subst e1 e2
  exact h
theorem PutR.same (h : PutR w R B iv kv n m AI cI AK cK wr) (hs : SameFrom B wr w5) : PutR w R B iv kv n m AI cI AK cK w5 := by
  obtain ⟨cs, hcs, hi⟩ := h.its
  exact ⟨h.leni, h.lenk, ⟨cs, hcs, own_same hi hs⟩, own_same h.kys hs⟩
theorem PutR.lies (h : PutR w R B iv kv n m AI cI AK cK wr) (hR : ∀ b, R b → b < w.heap.size) (hB : w.heap.size ≤ B) (hb : Below w.heap.size w wr) (hs : ∀ k ∈ kv, k.size ≤ 9223372036854775807) :
    Lies wr (fun b => R b ∨ New w wr b) (.mk 5 0 ⟨#[]⟩ iv kv) (.agg #[.int .i64 5, .int .i64 0, .string ⟨#[]⟩, .slice AI n cI, .slice AK m cK]) := by
  obtain ⟨cs, hcs, hi⟩ := h.its
  have hl := h.leni
  have hl2 := h.lenk
  subst hl hl2
  rw [Lies]
  have hk := own_bounds h.kys
  have hi' := own_bounds hi
  refine ⟨AI, cI, AK, cK, rfl, by omega, by omega, by decide, hi'.1, hi'.2, ?_, hk.1, hk.2, ?_⟩
  · exact (hcs.keep (R' := fun b => R b ∨ New w wr b) (fun p hp => hb.cell (hR _ hp)) (fun b h => Or.inl h)).ownR (fun g h1 h2 => Or.inr ⟨by omega, h2⟩) rfl hi
  · exact strs_ownR (base := B) hs (fun g h1 h2 => Or.inr ⟨by omega, h2⟩) rfl h.kys
end
set_option maxRecDepth 100000 in
set_option maxHeartbeats 16000000 in
theorem put_any (k z : Int) (t : ByteArray) (its : List VT) (ks : List ByteArray) (A : Option Addr) (c : Nat) (A' : Option Addr) (c' : Nat) (key : ByteArray) (x : VT) (kx ix : Int) (tx : ByteArray) (D : Option Addr) (nx cx : Nat) (D' : Option Addr) (mx dx : Nat) (w : World) (R : Nat → Prop) (hR : ∀ b, R b → b < w.heap.size)
    (hL : LiesL w R A 0 its) (hS : LiesS w R A' ks) (hlen : ks.length = its.length) (h1 : its.length ≤ c) (h2 : c ≤ 9223372036854775807) (_ : ks.length ≤ c') (_ : c' ≤ 9223372036854775807) (hn : ks.length ≤ 1000000)
    (hkey : key.size ≤ 9223372036854775807) (hx : Lies w R x (.agg #[.int .i64 kx, .int .i64 ix, .string tx, .slice D nx cx, .slice D' mx dx])) (hno : ∀ q ∈ ks, q ≠ key) :
    Calls Tryz.prog 84 #[.agg #[.int .i64 k, .int .i64 z, .string t, .slice A its.length c, .slice A' ks.length c'], .string key, .agg #[.int .i64 kx, .int .i64 ix, .string tx, .slice D nx cx, .slice D' mx dx]] w (fun e w' => ∃ v, e = .returned (.tuple #[v, .bool true]) ∧ Lies w' (fun b => R b ∨ New w w' b) (.mk 5 0 ⟨#[]⟩ (insAt (posOf ks key) x its) (insAt (posOf ks key) key ks)) v ∧ Below w.heap.size w w') := by
  obtain ⟨iS, hiS, hzS, hsS, hbS⟩ := info_parts Tryz.infoS
  obtain ⟨iV, hiV, hzV, hsV, hbV⟩ := info_parts Tryz.infoV
  obtain ⟨w4, hw4⟩ : ∃ w4, w4 = ((w.alloc (.cells #[.int .i64 k, .int .i64 z, .string t, .slice A its.length c, .slice A' ks.length c'] 25)).alloc (.cells #[.int .i64 kx, .int .i64 ix, .string tx, .slice D nx cx, .slice D' mx dx] 25)).alloc (.cells #[.int .i64 0, .int .i64 0, .string ⟨#[]⟩, .slice none 0 0, .slice none 0 0] 25) := ⟨_, rfl⟩
  have HZ : Hid (w4.heap.size = w.heap.size + 1 + 1 + 1) := Lib.hid (by rw [hw4]; simp)
  have B4 : Hid (Below w.heap.size w w4) := Lib.hid (by rw [hw4]; exact ((below_one _ _).trans (Below.alloc (Below.refl _ _) (by simp) _)).trans (Below.alloc (Below.refl _ _) (by simp; omega) _))
  have V4 : Hid (Bk w4 w.heap.size 25 #[.int .i64 k, .int .i64 z, .string t, .slice A its.length c, .slice A' ks.length c']) := Lib.hid (by rw [hw4]; exact ((Bk.new _ _ _).alloc _).alloc _)
  have X4 : Hid (Bk w4 (w.heap.size + 1) 25 #[.int .i64 kx, .int .i64 ix, .string tx, .slice D nx cx, .slice D' mx dx]) := Lib.hid (by rw [hw4]; exact Bk.alloc (by have := Bk.new (w.alloc (.cells #[.int .i64 k, .int .i64 z, .string t, .slice A its.length c, .slice A' ks.length c'] 25)) 25 #[.int .i64 kx, .int .i64 ix, .string tx, .slice D nx cx, .slice D' mx dx]; simpa using this) _)
  have R4 : Hid (Bk w4 (w.heap.size + 1 + 1) 25 #[.int .i64 0, .int .i64 0, .string ⟨#[]⟩, .slice none 0 0, .slice none 0 0]) := Lib.hid (by rw [hw4]; have := Bk.new ((w.alloc (.cells #[.int .i64 k, .int .i64 z, .string t, .slice A its.length c, .slice A' ks.length c'] 25)).alloc (.cells #[.int .i64 kx, .int .i64 ix, .string tx, .slice D nx cx, .slice D' mx dx] 25)) 25 #[.int .i64 0, .int .i64 0, .string ⟨#[]⟩, .slice none 0 0, .slice none 0 0]; simpa using this)
  have O4 : Hid (PutR w R w4.heap.size [] [] 0 0 none 0 none 0 w4) := Lib.hid ⟨rfl, rfl, ⟨[], rfl, World.ownsRow_nil _ _ _ _⟩, World.ownsRow_nil _ _ _ _⟩
  have HW := Lib.hid hw4
  have HL := Lib.hid hL
  have HS := Lib.hid hS
  have HXX := Lib.hid hx
  have HKS := Lib.hid (And.intro hkey hS.sizes)
  have HRR := Lib.hid hR
  have HNO := Lib.hid hno
  have HLEN := Lib.hid hlen
  have HPL := Lib.hid (posOf_le ks key)
  have HPT := Lib.hid (fun (j : Nat) (a : ByteArray) (h : ks[j]? = some a) (hn : a ≠ key) => put_test (j := j) h hn)
  generalize posOf ks key = P at *
  clear hw4 hL hS hx hkey hR hno hlen
  go_enter Tryz.func84, Tryz.ntmps84
  go_wp2_with fail
  rw [← HW.out]
  go_loopg [8, 9, 10, 11] ks.length (fun gh kv iv dn jv wr => ∃ (j : Nat) (d : Bool) (n m : Nat) (AI : Option Addr) (cI : Nat) (AK : Option Addr) (cK : Nat), j ≤ ks.length ∧ gh = ks.length - j ∧ kv = .slice AK m cK ∧ iv = .slice AI n cI ∧ dn = .bool d ∧ jv = .int .i64 j ∧ n ≤ j + 1 ∧ m ≤ j + 1 ∧
    Hid (d = decide (P < j)) ∧ Hid (PutR w R w4.heap.size (midP P j x its) (midP P j key ks) n m AI cI AK cK wr) ∧ Hid (w4.grownBy wr none))
  case atStart => exact ⟨0, false, 0, 0, none, 0, none, 0, by omega, rfl, rfl, rfl, rfl, rfl, by omega, by omega, Lib.hid (by rw [decide_eq_false (by omega)]), Lib.hid (O4.out.cast midP_zero.symm midP_zero.symm), Lib.hid (World.grownBy.refl _ _)⟩
  case round =>
    obtain ⟨j, d, n, m, AI, cI, AK, cK, hjn, rfl, rfl, rfl, rfl, rfl, hnj, hmj, HD, HO, HG⟩ := hrel
    have VR := Lib.hid (V4.out.grown HG.out (by intro e; cases e))
    have BR : Hid (Below w.heap.size w wr) := Lib.hid (B4.out.grown HG.out (by have := HZ.out; omega) (fun q hq => by cases hq))
    have a4 := VR.out.cell 4
    change _ = some (Value.slice A' ks.length c') at a4
    by_cases hlt : j < ks.length
    · have hji : j < its.length := by have := HLEN.out; omega
      have g1 := List.getElem?_eq_getElem (l := ks) (i := j) hlt
      have g2 := List.getElem?_eq_getElem (l := its) (i := j) hji
      obtain ⟨hkz, gk, ok, rfl, hgk, ek⟩ := HS.out j _ g1
      obtain ⟨gi, oi, k', i', t', E, n1, c1, E', n2, c2, rfl, hgi, e0, e1, e2, e3, e4, hy⟩ := (HL.out).at_ g2
      have G1 := Lib.hid g1
      have G2 := Lib.hid g2
      have hmem : ks[j]'hlt ∈ ks := List.getElem_mem _
      have hne := HNO.out _ hmem
      have hpt := HPT.out j _ g1 hne
      generalize ks[j]'hlt = kj at *
      generalize its[j]'hji = y at *
      rw [Nat.zero_add] at e0 e1 e2 e3 e4
      have EI := Lib.hid (And.intro e0 (And.intro e1 (And.intro e2 (And.intro e3 e4))))
      have EK := Lib.hid ek
      have GKL := Lib.hid (HRR.out _ hgk)
      have GIL := Lib.hid (HRR.out _ hgi)
      have HYY := Lib.hid hy
      have HPJ := Lib.hid hpt
      have HTR : Hid (Op.bytesLess kj.toList key.toList = !Op.bytesLess key.toList kj.toList) := Lib.hid (less_tri hne)
      have HJ : Hid (j + 1 ≤ ks.length) := Lib.hid hlt
      have b1 : (kj.toList == key.toList) = false := by rw [beq_eq_false_iff_ne]; exact fun e => hne (str_inj e)
      have ekr := (BR.out.cell (p := ⟨gk, ok + j, none⟩) GKL.out).trans EK.out
      clear hy hkz e0 e1 e2 e3 e4 ek hgk hgi g1 g2 hmem hne hpt
      cases d with
      | true =>
        have HPj : Hid (P < j) := Lib.hid (of_decide_eq_true HD.out.symm)
        have Kq1 := Lib.hid HO.out.kys
        have Sq1 : Hid (w4.heap.size ≤ wr.heap.size) := Lib.hid HG.out.size
        go_wp2_with (at_builtin; refine wpList_append_own _ rfl (.tmp 46) (.tmp 52) 23 rfl w4.heap.size 9 iS (.string ByteArray.empty) 1 16 Tryz.underlying23 hiS hzS hsS hbS rfl (by decide) _ (m) _ rfl (Kq1.out.alloc _) ⟨wr.heap.size, 0, none⟩ 1 1 [.string kj] rfl (by rfl) (new_alloc (cs := #[.string kj]) (t := 9) (by rfl)) (by simp [Value.oneCell']) (by unfold maxLen; omega) (by omega) (by have := Sq1.out; simp; omega) ?_)
        intro vq1 wq1 hown hg _
        obtain ⟨Aq1, cq1, rfl, _, _⟩ := own_form hown
        have hgr : wr.grownBy wq1 (Value.slice AK (m) cK).ownBlock := grownBy_trans (World.grownBy_alloc _ _ _) hg
        have Hq1 := Lib.hid (HO.out.key (key := kj) hgr (own_list hown (by simp)))
        have Gq1 := Lib.hid (gro_low HG.out hgr (fun q hq => (HO.out.kys.lt q hq).1))
        clear hown hg hgr
        clear a4 ekr
        have VV := Lib.hid (V4.out.grown Gq1.out (by intro e; cases e))
        have BB : Hid (Below w.heap.size w wq1) := Lib.hid (B4.out.grown Gq1.out (by have := HZ.out; omega) (fun q hq => by cases hq))
        have a3 := VV.out.cell 3
        change _ = some (Value.slice (some ⟨gi, oi, none⟩) its.length c) at a3
        have cc := fun (q : Nat) => BB.out.cell (p := ⟨gi, q, none⟩) GIL.out
        have e0 := (cc _).trans EI.out.1
        have e1 := (cc _).trans EI.out.2.1
        have e2 := (cc _).trans EI.out.2.2.1
        have e3 := (cc _).trans EI.out.2.2.2.1
        have e4 := (cc _).trans EI.out.2.2.2.2
        clear cc
        obtain ⟨csq2, hcs, hi⟩ := Hq1.out.its
        have Cq2 := Lib.hid hcs
        have Kq2 := Lib.hid hi
        clear hcs hi
        have Sq2 : Hid (w4.heap.size ≤ wq1.heap.size) := Lib.hid Gq1.out.size
        go_wp2_with (at_builtin; refine wpList_append_own _ rfl (.tmp 54) (.tmp 60) 22 rfl w4.heap.size 25 iV (.agg #[.int .i64 0, .int .i64 0, .string ByteArray.empty, .slice none 0 0, .slice none 0 0]) 5 80 Tryz.underlying22 hiV hzV hsV hbV rfl (by decide) _ (n) _ rfl (Kq2.out.alloc _) ⟨wq1.heap.size, 0, none⟩ 1 1 [.int .i64 k', .int .i64 i', .string t', .slice E n1 c1, .slice E' n2 c2] rfl (by rfl) (new_alloc (cs := #[.int .i64 k', .int .i64 i', .string t', .slice E n1 c1, .slice E' n2 c2]) (t := 25) (by rfl)) (by simp [Value.oneCell']) (by unfold maxLen; omega) (by omega) (by have := Sq2.out; simp; omega) ?_)
        intro vq2 wq2 hown hg _
        obtain ⟨Aq2, cq2, rfl, _, _⟩ := own_formN hown
        have hgr : wq1.grownBy wq2 (Value.slice AI (n) cI).ownBlock := grownBy_trans (World.grownBy_alloc _ _ _) hg
        have Hq2 := Lib.hid (Hq1.out.item Cq2.out Kq2.out HYY.out hgr hown)
        have Gq2 := Lib.hid (gro_low Gq1.out hgr (fun q hq => (Kq2.out.lt q hq).1))
        clear hown hg hgr
        clear a3 e0 e1 e2 e3 e4
        have hnm : Hid (n ≤ j + 1 ∧ m ≤ j + 1) := Lib.hid ⟨hnj, hmj⟩
        go_wp2
        go_roundg (ks.length - (j + 1))
        case measure => have := HJ.out; omega
        case rel => exact ⟨j + 1, _, _, _, _, _, _, _, HJ.out, rfl, rfl, rfl, rfl, by go_num, by omega, by omega, Lib.hid (by rw [decide_eq_true (by have := HPj.out; omega)]), Lib.hid (Hq2.out.cast (midP_high HPj.out G2.out).symm (midP_high HPj.out G1.out).symm), Gq2⟩
      | false =>
        have HPj : Hid (¬ P < j) := Lib.hid (of_decide_eq_false HD.out.symm)
        have HPK := Lib.hid (HPJ.out HPj.out)
        have hn0 : n ≤ j := by have h5 := HO.out.leni; have := midP_len0 (y := x) (l := its) HPj.out; omega
        have hm0 : m ≤ j := by have h5 := HO.out.lenk; have := midP_len0 (y := key) (l := ks) HPj.out; omega
        by_cases hjP : j = P
        · have b4 : Op.bytesLess key.toList kj.toList = true := by have := HPK.out; rw [decide_eq_true hjP] at this; exact this
          have b5 : Op.bytesLess kj.toList key.toList = false := by rw [HTR.out, b4]; rfl
          have HJP := Lib.hid hjP
          clear hjP
          have Kq3 := Lib.hid HO.out.kys
          have Sq3 : Hid (w4.heap.size ≤ wr.heap.size) := Lib.hid HG.out.size
          go_wp2_with (at_builtin; refine wpList_append_own _ rfl (.tmp 38) (.tmp 40) 23 rfl w4.heap.size 9 iS (.string ByteArray.empty) 1 16 Tryz.underlying23 hiS hzS hsS hbS rfl (by decide) _ (m) _ rfl (Kq3.out.alloc _) ⟨wr.heap.size, 0, none⟩ 1 1 [.string key] rfl (by rfl) (new_alloc (cs := #[.string key]) (t := 9) (by rfl)) (by simp [Value.oneCell']) (by unfold maxLen; omega) (by omega) (by have := Sq3.out; simp; omega) ?_)
          intro vq3 wq3 hown hg _
          obtain ⟨Aq3, cq3, rfl, _, _⟩ := own_form hown
          have hgr : wr.grownBy wq3 (Value.slice AK (m) cK).ownBlock := grownBy_trans (World.grownBy_alloc _ _ _) hg
          have Hq3 := Lib.hid (HO.out.key (key := key) hgr (own_list hown (by simp)))
          have Gq3 := Lib.hid (gro_low HG.out hgr (fun q hq => (HO.out.kys.lt q hq).1))
          clear hown hg hgr
          have XX := Lib.hid (X4.out.grown Gq3.out (by intro e; cases e))
          have x0 := XX.out.cell 0
          have x1 := XX.out.cell 1
          have x2 := XX.out.cell 2
          have x3 := XX.out.cell 3
          have x4 := XX.out.cell 4
          change _ = some (Value.int .i64 kx) at x0
          change _ = some (Value.int .i64 ix) at x1
          change _ = some (Value.string tx) at x2
          change _ = some (Value.slice D nx cx) at x3
          change _ = some (Value.slice D' mx dx) at x4
          obtain ⟨csq4, hcs, hi⟩ := Hq3.out.its
          have Cq4 := Lib.hid hcs
          have Kq4 := Lib.hid hi
          clear hcs hi
          have Sq4 : Hid (w4.heap.size ≤ wq3.heap.size) := Lib.hid Gq3.out.size
          go_wp2_with (at_builtin; refine wpList_append_own _ rfl (.tmp 42) (.tmp 44) 22 rfl w4.heap.size 25 iV (.agg #[.int .i64 0, .int .i64 0, .string ByteArray.empty, .slice none 0 0, .slice none 0 0]) 5 80 Tryz.underlying22 hiV hzV hsV hbV rfl (by decide) _ (n) _ rfl (Kq4.out.alloc _) ⟨wq3.heap.size, 0, none⟩ 1 1 [.int .i64 kx, .int .i64 ix, .string tx, .slice D nx cx, .slice D' mx dx] rfl (by rfl) (new_alloc (cs := #[.int .i64 kx, .int .i64 ix, .string tx, .slice D nx cx, .slice D' mx dx]) (t := 25) (by rfl)) (by simp [Value.oneCell']) (by unfold maxLen; omega) (by omega) (by have := Sq4.out; simp; omega) ?_)
          intro vq4 wq4 hown hg _
          obtain ⟨Aq4, cq4, rfl, _, _⟩ := own_formN hown
          have hgr : wq3.grownBy wq4 (Value.slice AI (n) cI).ownBlock := grownBy_trans (World.grownBy_alloc _ _ _) hg
          have Hq4 := Lib.hid (Hq3.out.item Cq4.out Kq4.out HXX.out hgr hown)
          have Gq4 := Lib.hid (gro_low Gq3.out hgr (fun q hq => (Kq4.out.lt q hq).1))
          clear hown hg hgr
          clear x0 x1 x2 x3 x4
          clear a4 ekr
          have VV := Lib.hid (V4.out.grown Gq4.out (by intro e; cases e))
          have BB : Hid (Below w.heap.size w wq4) := Lib.hid (B4.out.grown Gq4.out (by have := HZ.out; omega) (fun q hq => by cases hq))
          have a4 := VV.out.cell 4
          change _ = some (Value.slice (some ⟨gk, ok, none⟩) ks.length c') at a4
          have ekr := (BB.out.cell (p := ⟨gk, ok + j, none⟩) GKL.out).trans EK.out
          have Kq5 := Lib.hid Hq4.out.kys
          have Sq5 : Hid (w4.heap.size ≤ wq4.heap.size) := Lib.hid Gq4.out.size
          go_wp2_with (at_builtin; refine wpList_append_own _ rfl (.tmp 46) (.tmp 52) 23 rfl w4.heap.size 9 iS (.string ByteArray.empty) 1 16 Tryz.underlying23 hiS hzS hsS hbS rfl (by decide) _ (m + 1) _ rfl (Kq5.out.alloc _) ⟨wq4.heap.size, 0, none⟩ 1 1 [.string kj] rfl (by rfl) (new_alloc (cs := #[.string kj]) (t := 9) (by rfl)) (by simp [Value.oneCell']) (by unfold maxLen; omega) (by omega) (by have := Sq5.out; simp; omega) ?_)
          intro vq5 wq5 hown hg _
          obtain ⟨Aq5, cq5, rfl, _, _⟩ := own_form hown
          have hgr : wq4.grownBy wq5 (Value.slice Aq3 (m + 1) cq3).ownBlock := grownBy_trans (World.grownBy_alloc _ _ _) hg
          have Hq5 := Lib.hid (Hq4.out.key (key := kj) hgr (own_list hown (by simp)))
          have Gq5 := Lib.hid (gro_low Gq4.out hgr (fun q hq => (Hq4.out.kys.lt q hq).1))
          clear hown hg hgr
          clear a4 ekr
          have VV := Lib.hid (V4.out.grown Gq5.out (by intro e; cases e))
          have BB : Hid (Below w.heap.size w wq5) := Lib.hid (B4.out.grown Gq5.out (by have := HZ.out; omega) (fun q hq => by cases hq))
          have a3 := VV.out.cell 3
          change _ = some (Value.slice (some ⟨gi, oi, none⟩) its.length c) at a3
          have cc := fun (q : Nat) => BB.out.cell (p := ⟨gi, q, none⟩) GIL.out
          have e0 := (cc _).trans EI.out.1
          have e1 := (cc _).trans EI.out.2.1
          have e2 := (cc _).trans EI.out.2.2.1
          have e3 := (cc _).trans EI.out.2.2.2.1
          have e4 := (cc _).trans EI.out.2.2.2.2
          clear cc
          obtain ⟨csq6, hcs, hi⟩ := Hq5.out.its
          have Cq6 := Lib.hid hcs
          have Kq6 := Lib.hid hi
          clear hcs hi
          have Sq6 : Hid (w4.heap.size ≤ wq5.heap.size) := Lib.hid Gq5.out.size
          go_wp2_with (at_builtin; refine wpList_append_own _ rfl (.tmp 54) (.tmp 60) 22 rfl w4.heap.size 25 iV (.agg #[.int .i64 0, .int .i64 0, .string ByteArray.empty, .slice none 0 0, .slice none 0 0]) 5 80 Tryz.underlying22 hiV hzV hsV hbV rfl (by decide) _ (n + 1) _ rfl (Kq6.out.alloc _) ⟨wq5.heap.size, 0, none⟩ 1 1 [.int .i64 k', .int .i64 i', .string t', .slice E n1 c1, .slice E' n2 c2] rfl (by rfl) (new_alloc (cs := #[.int .i64 k', .int .i64 i', .string t', .slice E n1 c1, .slice E' n2 c2]) (t := 25) (by rfl)) (by simp [Value.oneCell']) (by unfold maxLen; omega) (by omega) (by have := Sq6.out; simp; omega) ?_)
          intro vq6 wq6 hown hg _
          obtain ⟨Aq6, cq6, rfl, _, _⟩ := own_formN hown
          have hgr : wq5.grownBy wq6 (Value.slice Aq4 (n + 1) cq4).ownBlock := grownBy_trans (World.grownBy_alloc _ _ _) hg
          have Hq6 := Lib.hid (Hq5.out.item Cq6.out Kq6.out HYY.out hgr hown)
          have Gq6 := Lib.hid (gro_low Gq5.out hgr (fun q hq => (Kq6.out.lt q hq).1))
          clear hown hg hgr
          clear a3 e0 e1 e2 e3 e4
          go_wp2
          go_roundg (ks.length - (j + 1))
          case measure => have := HJ.out; omega
          case rel => exact ⟨j + 1, _, _, _, _, _, _, _, HJ.out, rfl, rfl, rfl, rfl, by go_num, by omega, by omega, Lib.hid (by rw [decide_eq_true (by have := HJP.out; omega)]), Lib.hid (Hq6.out.cast (by have := HJP.out; subst this; exact (midP_at G2.out).symm) (by have := HJP.out; subst this; exact (midP_at G1.out).symm)), Gq6⟩
        · have b4 : Op.bytesLess key.toList kj.toList = false := by have := HPK.out; rw [decide_eq_false hjP] at this; exact this
          have b5 : Op.bytesLess kj.toList key.toList = true := by rw [HTR.out, b4]; rfl
          have HJP : Hid (j < P) := Lib.hid (by have := HPj.out; omega)
          clear hjP
          have Kq7 := Lib.hid HO.out.kys
          have Sq7 : Hid (w4.heap.size ≤ wr.heap.size) := Lib.hid HG.out.size
          go_wp2_with (at_builtin; refine wpList_append_own _ rfl (.tmp 46) (.tmp 52) 23 rfl w4.heap.size 9 iS (.string ByteArray.empty) 1 16 Tryz.underlying23 hiS hzS hsS hbS rfl (by decide) _ (m) _ rfl (Kq7.out.alloc _) ⟨wr.heap.size, 0, none⟩ 1 1 [.string kj] rfl (by rfl) (new_alloc (cs := #[.string kj]) (t := 9) (by rfl)) (by simp [Value.oneCell']) (by unfold maxLen; omega) (by omega) (by have := Sq7.out; simp; omega) ?_)
          intro vq7 wq7 hown hg _
          obtain ⟨Aq7, cq7, rfl, _, _⟩ := own_form hown
          have hgr : wr.grownBy wq7 (Value.slice AK (m) cK).ownBlock := grownBy_trans (World.grownBy_alloc _ _ _) hg
          have Hq7 := Lib.hid (HO.out.key (key := kj) hgr (own_list hown (by simp)))
          have Gq7 := Lib.hid (gro_low HG.out hgr (fun q hq => (HO.out.kys.lt q hq).1))
          clear hown hg hgr
          clear a4 ekr
          have VV := Lib.hid (V4.out.grown Gq7.out (by intro e; cases e))
          have BB : Hid (Below w.heap.size w wq7) := Lib.hid (B4.out.grown Gq7.out (by have := HZ.out; omega) (fun q hq => by cases hq))
          have a3 := VV.out.cell 3
          change _ = some (Value.slice (some ⟨gi, oi, none⟩) its.length c) at a3
          have cc := fun (q : Nat) => BB.out.cell (p := ⟨gi, q, none⟩) GIL.out
          have e0 := (cc _).trans EI.out.1
          have e1 := (cc _).trans EI.out.2.1
          have e2 := (cc _).trans EI.out.2.2.1
          have e3 := (cc _).trans EI.out.2.2.2.1
          have e4 := (cc _).trans EI.out.2.2.2.2
          clear cc
          obtain ⟨csq8, hcs, hi⟩ := Hq7.out.its
          have Cq8 := Lib.hid hcs
          have Kq8 := Lib.hid hi
          clear hcs hi
          have Sq8 : Hid (w4.heap.size ≤ wq7.heap.size) := Lib.hid Gq7.out.size
          go_wp2_with (at_builtin; refine wpList_append_own _ rfl (.tmp 54) (.tmp 60) 22 rfl w4.heap.size 25 iV (.agg #[.int .i64 0, .int .i64 0, .string ByteArray.empty, .slice none 0 0, .slice none 0 0]) 5 80 Tryz.underlying22 hiV hzV hsV hbV rfl (by decide) _ (n) _ rfl (Kq8.out.alloc _) ⟨wq7.heap.size, 0, none⟩ 1 1 [.int .i64 k', .int .i64 i', .string t', .slice E n1 c1, .slice E' n2 c2] rfl (by rfl) (new_alloc (cs := #[.int .i64 k', .int .i64 i', .string t', .slice E n1 c1, .slice E' n2 c2]) (t := 25) (by rfl)) (by simp [Value.oneCell']) (by unfold maxLen; omega) (by omega) (by have := Sq8.out; simp; omega) ?_)
          intro vq8 wq8 hown hg _
          obtain ⟨Aq8, cq8, rfl, _, _⟩ := own_formN hown
          have hgr : wq7.grownBy wq8 (Value.slice AI (n) cI).ownBlock := grownBy_trans (World.grownBy_alloc _ _ _) hg
          have Hq8 := Lib.hid (Hq7.out.item Cq8.out Kq8.out HYY.out hgr hown)
          have Gq8 := Lib.hid (gro_low Gq7.out hgr (fun q hq => (Kq8.out.lt q hq).1))
          clear hown hg hgr
          clear a3 e0 e1 e2 e3 e4
          go_wp2
          go_roundg (ks.length - (j + 1))
          case measure => have := HJ.out; omega
          case rel => exact ⟨j + 1, _, _, _, _, _, _, _, HJ.out, rfl, rfl, rfl, rfl, by go_num, by omega, by omega, Lib.hid (by rw [decide_eq_false (by have := HJP.out; omega)]), Lib.hid (Hq8.out.cast (midP_low HJP.out G2.out).symm (midP_low HJP.out G1.out).symm), Gq8⟩
    · obtain rfl : j = ks.length := by omega
      clear hlt
      cases d with
      | true =>
        have HPj : Hid (P < ks.length) := Lib.hid (of_decide_eq_true HD.out.symm)
        have RZ := Lib.hid (R4.out.grown HG.out (by intro e; cases e))
        have BZ : Hid (Below w.heap.size w wr) := Lib.hid (B4.out.grown HG.out (by have := HZ.out; omega) (fun q hq => by cases hq))
        have f0 := RZ.out.frozen 0
        have f1 := RZ.out.frozen 1
        have f2 := RZ.out.frozen 2
        have f3 := RZ.out.frozen 3
        have f4 := RZ.out.frozen 4
        have r0 := RZ.out.cell 0
        have r1 := RZ.out.cell 1
        have r2 := RZ.out.cell 2
        have r3 := RZ.out.cell 3
        have r4 := RZ.out.cell 4
        go_wp2
        obtain ⟨wf, hwf⟩ : ∃ wf, wf = put5 wr (w.heap.size + 1 + 1) 0 (.int .i64 5) (.int .i64 0) (.string ⟨#[]⟩) (.slice AI (n) cI) (.slice AK (m) cK) := ⟨_, rfl⟩
        have QF : Hid (Bk wf (w.heap.size + 1 + 1) 25 #[.int .i64 5, .int .i64 0, .string ⟨#[]⟩, .slice AI (n) cI, .slice AK (m) cK]) := Lib.hid (by rw [hwf]; exact put5_bk RZ.out)
        have BF : Hid (Below w.heap.size w wf) := Lib.hid (by
          rw [hwf]
          exact ⟨put5_os.trans BZ.out.os, put5_tape.trans BZ.out.tape, put5_output.trans BZ.out.output, by rw [put5_size]; exact BZ.out.size, fun b hb => (put5_far (by omega)).trans (BZ.out.block b hb)⟩)
        have HF := Lib.hid ((HO.out.cast (midP_done HPj.out (by rw [HLEN.out]; exact Nat.le_refl _)) (midP_done HPj.out (Nat.le_refl _))).same (w5 := wf) (fun b h1 _ => by rw [hwf]; exact put5_far (by have := HZ.out; omega)))
        change bodyPost _ _ _ _ _ (put5 wr (w.heap.size + 1 + 1) 0 (.int .i64 5) (.int .i64 0) (.string ⟨#[]⟩) (.slice AI (n) cI) (.slice AK (m) cK))
        rw [← hwf]
        refine bodyPost_ret (results_row2 rfl _ _ (w.heap.size + 1 + 1) 25 _ (0, 0) _ rfl QF.out Tryz.underlying25 rfl (by kernel_rfl)) rfl ?_
        refine ⟨_, rfl, HF.out.lies HRR.out (by have := HZ.out; omega) BF.out (fun q hq => ?_), BF.out⟩
        unfold insAt at hq
        rcases List.mem_append.1 hq with hq | hq
        · exact HKS.out.2 q (List.mem_of_mem_take hq)
        rcases List.mem_cons.1 hq with rfl | hq
        · exact HKS.out.1
        · exact HKS.out.2 q (List.mem_of_mem_drop hq)
      | false =>
        have HPj : Hid (¬ P < ks.length) := Lib.hid (of_decide_eq_false HD.out.symm)
        have Kq9 := Lib.hid HO.out.kys
        have Sq9 : Hid (w4.heap.size ≤ wr.heap.size) := Lib.hid HG.out.size
        go_wp2_with (at_builtin; refine wpList_append_own _ rfl (.tmp 64) (.tmp 66) 23 rfl w4.heap.size 9 iS (.string ByteArray.empty) 1 16 Tryz.underlying23 hiS hzS hsS hbS rfl (by decide) _ (m) _ rfl (Kq9.out.alloc _) ⟨wr.heap.size, 0, none⟩ 1 1 [.string key] rfl (by rfl) (new_alloc (cs := #[.string key]) (t := 9) (by rfl)) (by simp [Value.oneCell']) (by unfold maxLen; omega) (by omega) (by have := Sq9.out; simp; omega) ?_)
        intro vq9 wq9 hown hg _
        obtain ⟨Aq9, cq9, rfl, _, _⟩ := own_form hown
        have hgr : wr.grownBy wq9 (Value.slice AK (m) cK).ownBlock := grownBy_trans (World.grownBy_alloc _ _ _) hg
        have Hq9 := Lib.hid (HO.out.key (key := key) hgr (own_list hown (by simp)))
        have Gq9 := Lib.hid (gro_low HG.out hgr (fun q hq => (HO.out.kys.lt q hq).1))
        clear hown hg hgr
        have XX := Lib.hid (X4.out.grown Gq9.out (by intro e; cases e))
        have x0 := XX.out.cell 0
        have x1 := XX.out.cell 1
        have x2 := XX.out.cell 2
        have x3 := XX.out.cell 3
        have x4 := XX.out.cell 4
        change _ = some (Value.int .i64 kx) at x0
        change _ = some (Value.int .i64 ix) at x1
        change _ = some (Value.string tx) at x2
        change _ = some (Value.slice D nx cx) at x3
        change _ = some (Value.slice D' mx dx) at x4
        obtain ⟨csq10, hcs, hi⟩ := Hq9.out.its
        have Cq10 := Lib.hid hcs
        have Kq10 := Lib.hid hi
        clear hcs hi
        have Sq10 : Hid (w4.heap.size ≤ wq9.heap.size) := Lib.hid Gq9.out.size
        go_wp2_with (at_builtin; refine wpList_append_own _ rfl (.tmp 68) (.tmp 70) 22 rfl w4.heap.size 25 iV (.agg #[.int .i64 0, .int .i64 0, .string ByteArray.empty, .slice none 0 0, .slice none 0 0]) 5 80 Tryz.underlying22 hiV hzV hsV hbV rfl (by decide) _ (n) _ rfl (Kq10.out.alloc _) ⟨wq9.heap.size, 0, none⟩ 1 1 [.int .i64 kx, .int .i64 ix, .string tx, .slice D nx cx, .slice D' mx dx] rfl (by rfl) (new_alloc (cs := #[.int .i64 kx, .int .i64 ix, .string tx, .slice D nx cx, .slice D' mx dx]) (t := 25) (by rfl)) (by simp [Value.oneCell']) (by unfold maxLen; omega) (by omega) (by have := Sq10.out; simp; omega) ?_)
        intro vq10 wq10 hown hg _
        obtain ⟨Aq10, cq10, rfl, _, _⟩ := own_formN hown
        have hgr : wq9.grownBy wq10 (Value.slice AI (n) cI).ownBlock := grownBy_trans (World.grownBy_alloc _ _ _) hg
        have Hq10 := Lib.hid (Hq9.out.item Cq10.out Kq10.out HXX.out hgr hown)
        have Gq10 := Lib.hid (gro_low Gq9.out hgr (fun q hq => (Kq10.out.lt q hq).1))
        clear hown hg hgr
        clear x0 x1 x2 x3 x4
        have RZ := Lib.hid (R4.out.grown Gq10.out (by intro e; cases e))
        have BZ : Hid (Below w.heap.size w wq10) := Lib.hid (B4.out.grown Gq10.out (by have := HZ.out; omega) (fun q hq => by cases hq))
        have f0 := RZ.out.frozen 0
        have f1 := RZ.out.frozen 1
        have f2 := RZ.out.frozen 2
        have f3 := RZ.out.frozen 3
        have f4 := RZ.out.frozen 4
        have r0 := RZ.out.cell 0
        have r1 := RZ.out.cell 1
        have r2 := RZ.out.cell 2
        have r3 := RZ.out.cell 3
        have r4 := RZ.out.cell 4
        go_wp2
        obtain ⟨wf, hwf⟩ : ∃ wf, wf = put5 wq10 (w.heap.size + 1 + 1) 0 (.int .i64 5) (.int .i64 0) (.string ⟨#[]⟩) (.slice Aq10 (n + 1) cq10) (.slice Aq9 (m + 1) cq9) := ⟨_, rfl⟩
        have QF : Hid (Bk wf (w.heap.size + 1 + 1) 25 #[.int .i64 5, .int .i64 0, .string ⟨#[]⟩, .slice Aq10 (n + 1) cq10, .slice Aq9 (m + 1) cq9]) := Lib.hid (by rw [hwf]; exact put5_bk RZ.out)
        have BF : Hid (Below w.heap.size w wf) := Lib.hid (by
          rw [hwf]
          exact ⟨put5_os.trans BZ.out.os, put5_tape.trans BZ.out.tape, put5_output.trans BZ.out.output, by rw [put5_size]; exact BZ.out.size, fun b hb => (put5_far (by omega)).trans (BZ.out.block b hb)⟩)
        have HF := Lib.hid ((Hq10.out.cast (midP_last HPj.out (by rw [← HLEN.out]; exact HPL.out) (by rw [HLEN.out]; exact Nat.le_refl _)) (midP_last HPj.out HPL.out (Nat.le_refl _))).same (w5 := wf) (fun b h1 _ => by rw [hwf]; exact put5_far (by have := HZ.out; omega)))
        change bodyPost _ _ _ _ _ (put5 wq10 (w.heap.size + 1 + 1) 0 (.int .i64 5) (.int .i64 0) (.string ⟨#[]⟩) (.slice Aq10 (n + 1) cq10) (.slice Aq9 (m + 1) cq9))
        rw [← hwf]
        refine bodyPost_ret (results_row2 rfl _ _ (w.heap.size + 1 + 1) 25 _ (0, 0) _ rfl QF.out Tryz.underlying25 rfl (by kernel_rfl)) rfl ?_
        refine ⟨_, rfl, HF.out.lies HRR.out (by have := HZ.out; omega) BF.out (fun q hq => ?_), BF.out⟩
        unfold insAt at hq
        rcases List.mem_append.1 hq with hq | hq
        · exact HKS.out.2 q (List.mem_of_mem_take hq)
        rcases List.mem_cons.1 hq with rfl | hq
        · exact HKS.out.1
        · exact HKS.out.2 q (List.mem_of_mem_drop hq)
end Go.Proofs.YtlgmhhimbabkjaaGreatDoor
