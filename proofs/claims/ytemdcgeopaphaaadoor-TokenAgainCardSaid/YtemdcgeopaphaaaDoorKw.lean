/-
  Contract of one, of the reference. (gen_kw.py)
-/
import Derived.Test.YtemdcgeopaphaaaDoorKx
import Derived.Test.YtemdcgeopaphaaaDoorKn
namespace Go.Proofs.YtemdcgeopaphaaaDoor
open Go.RowKit

/-- the signs, longer ones first -/
def sgL : List (List UInt8) := [[61, 61], [33, 61], [60, 61], [62, 61], [40], [41], [123], [125], [91], [93], [44], [59], [46], [58], [61], [60], [62], [43], [45], [42], [47], [37]]
def sgS : List ByteArray := [⟨#[61, 61]⟩, ⟨#[33, 61]⟩, ⟨#[60, 61]⟩, ⟨#[62, 61]⟩, ⟨#[40]⟩, ⟨#[41]⟩, ⟨#[123]⟩, ⟨#[125]⟩, ⟨#[91]⟩, ⟨#[93]⟩, ⟨#[44]⟩, ⟨#[59]⟩, ⟨#[46]⟩, ⟨#[58]⟩, ⟨#[61]⟩, ⟨#[60]⟩, ⟨#[62]⟩, ⟨#[43]⟩, ⟨#[45]⟩, ⟨#[42]⟩, ⟨#[47]⟩, ⟨#[37]⟩]
theorem sgS_map : sgL = sgS.map fun q => q.data.toList := by decide
def sgHit (l : List UInt8) : Option (List UInt8) := sgL.find? fun x => x.isPrefixOf l
def hitF (a : UInt8) (c : Bool) : Option (List UInt8) := sgL.find? fun x => match x with
  | [p] => p == a
  | [p, _] => p == a && c
  | _ => false
theorem hit_all (a : UInt8) (c : Bool) : hitF a c = if (befT a && c) = true then some [a, 61] else if sgnT a = true then some [a] else none := by
  have h : ((List.range 256).all fun n => [true, false].all fun c => hitF (UInt8.ofNat n) c == if (befT (UInt8.ofNat n) && c) = true then some [UInt8.ofNat n, 61] else if sgnT (UInt8.ofNat n) = true then some [UInt8.ofNat n] else none) = true := by decide +kernel
  have h2 := allN h a.toNat a.toNat_lt
  rw [UInt8.ofNat_toNat, List.all_eq_true] at h2
  have h3 := h2 c (by cases c <;> simp)
  exact eq_of_beq h3
theorem hit_one (a : UInt8) : sgHit [a] = hitF a false := by
  unfold sgHit hitF sgL
  simp only [List.find?, List.isPrefixOf, Bool.and_true, Bool.and_false]
theorem hit_two (a b : UInt8) (r : List UInt8) : sgHit (a :: b :: r) = hitF a (61 == b) := by
  unfold sgHit hitF sgL
  simp only [List.find?, List.isPrefixOf, Bool.and_true]
theorem sign_hit (l : List UInt8) : signT l = match sgHit l with | some x => .ok 5 x 0 x.length | none => .err 3 := by
  match l with
  | [] => rfl
  | [a] =>
    rw [hit_one, hit_all, Bool.and_false, if_neg (by decide)]
    show (if sgnT a = true then TR.ok 5 [a] 0 1 else .err 3) = _
    split <;> rfl
  | a :: b :: r =>
    rw [hit_two, hit_all]
    show (if befT a = true ∧ b = 61 then TR.ok 5 [a, b] 0 2 else if sgnT a = true then .ok 5 [a] 0 1 else .err 3) = _
    by_cases h : befT a = true ∧ b = 61
    · rw [if_pos h, h.1, h.2]; rfl
    · have hn : ¬ (befT a && (61 == b)) = true := by
        intro hc
        rw [Bool.and_eq_true, beq_iff_eq] at hc
        exact h ⟨hc.1, hc.2.symm⟩
      rw [if_neg h, if_neg hn]
      by_cases h3 : sgnT a = true
      · rw [if_pos h3, if_pos h3]; rfl
      · rw [if_neg h3, if_neg h3]
theorem pre_iff (x t : ByteArray) : x.data.toList.isPrefixOf t.data.toList = true ↔ x.size ≤ t.size ∧ (t.extract 0 x.size).toList = x.toList := by
  rw [List.isPrefixOf_iff_prefix, List.prefix_iff_eq_take, ByteArray.toList_eq, ByteArray.toList_eq, ext_to]
  have e : x.data.toList.length = x.size := by simp
  rw [e]
  constructor
  · intro h
    refine ⟨?_, h.symm⟩
    have := congrArg List.length h
    simp at this
    omega
  · intro h; exact h.2.symm
theorem sgHit_at {k : Nat} {x : ByteArray} {l : List UInt8} (h : sgS[k]? = some x) (hp : x.data.toList.isPrefixOf l = true) (hd : (sgL.drop k).find? (fun x => x.isPrefixOf l) = sgHit l) : signT l = .ok 5 x.data.toList 0 x.size := by
  have hx : sgL[k]? = some x.data.toList := by rw [sgS_map, List.getElem?_map, h]; rfl
  obtain ⟨hk, hv⟩ := List.getElem?_eq_some_iff.1 hx
  rw [List.drop_eq_getElem_cons hk, hv] at hd
  have hq := List.find?_cons_of_pos (p := fun x : List UInt8 => x.isPrefixOf l) (a := x.data.toList) (l := sgL.drop (k + 1)) hp
  rw [hq] at hd
  rw [sign_hit, ← hd]
  simp
theorem sgHit_next {k : Nat} {x : ByteArray} {l : List UInt8} (h : sgS[k]? = some x) (hp : ¬ x.data.toList.isPrefixOf l = true) (hd : (sgL.drop k).find? (fun x => x.isPrefixOf l) = sgHit l) : (sgL.drop (k + 1)).find? (fun x => x.isPrefixOf l) = sgHit l := by
  have hx : sgL[k]? = some x.data.toList := by rw [sgS_map, List.getElem?_map, h]; rfl
  obtain ⟨hk, hv⟩ := List.getElem?_eq_some_iff.1 hx
  rw [List.drop_eq_getElem_cons hk, hv] at hd
  have hq := List.find?_cons_of_neg (p := fun x : List UInt8 => x.isPrefixOf l) (a := x.data.toList) (l := sgL.drop (k + 1)) hp
  rw [hq] at hd
  exact hd
theorem sgHit_end {l : List UInt8} (hd : (sgL.drop 22).find? (fun x => x.isPrefixOf l) = sgHit l) : signT l = .err 3 := by
  rw [sign_hit, ← hd]
  rfl
set_option maxRecDepth 100000 in
set_option maxHeartbeats 2000000 in
theorem signs_any (w : World) : Calls Tryd.prog 41 #[] w fun e w' => e = .returned (.slice (some ⟨w.heap.size, 0, none⟩) 22 22) ∧ RowS w' w.heap.size sgS ∧ Below w.heap.size w w' := by
  go_enter Tryd.func41, Tryd.ntmps41
  go_wp2
  go_ret
  exact ⟨rfl, Bk.new _ _ _, (Below.refl _ _).alloc (Nat.le_refl _) _⟩
theorem one_let {t : ByteArray} (h : 1 ≤ t.size) (h1 : letT t[0] = true) : oneT t.data.toList = wordT t.data.toList := by
  have := drop_at h
  rw [List.drop_zero] at this
  rw [this]
  show (if letT t[0] = true then _ else _) = _
  rw [if_pos h1]
theorem one_dgt {t : ByteArray} (h : 1 ≤ t.size) (h1 : letT t[0] = false) (h2 : dgtT t[0] = true) : oneT t.data.toList = intT t.data.toList := by
  have := drop_at h
  rw [List.drop_zero] at this
  rw [this]
  show (if letT t[0] = true then _ else if dgtT t[0] = true then _ else _) = _
  rw [if_neg (by rw [h1]; decide), if_pos h2]
theorem one_lit {t : ByteArray} (h : 1 ≤ t.size) (h1 : letT t[0] = false) (h2 : dgtT t[0] = false) (h3 : t[0].toNat = 34) : oneT t.data.toList = litT t.data.toList := by
  have := drop_at h
  rw [List.drop_zero] at this
  rw [this]
  show (if letT t[0] = true then _ else if dgtT t[0] = true then _ else if t[0] = 34 then _ else _) = _
  rw [if_neg (by rw [h1]; decide), if_neg (by rw [h2]; decide), if_pos (eq_nat.2 h3)]
theorem one_sgn {t : ByteArray} (h : 1 ≤ t.size) (h1 : letT t[0] = false) (h2 : dgtT t[0] = false) (h3 : ¬ t[0].toNat = 34) : oneT t.data.toList = signT t.data.toList := by
  have := drop_at h
  rw [List.drop_zero] at this
  rw [this]
  show (if letT t[0] = true then _ else if dgtT t[0] = true then _ else if t[0] = 34 then _ else _) = _
  rw [if_neg (by rw [h1]; decide), if_neg (by rw [h2]; decide), if_neg (fun e => h3 (eq_nat.1 e))]
theorem spn_dgt {t : ByteArray} (h : 1 ≤ t.size) (h2 : dgtT t[0] = true) : 0 < spn dgtT t.data.toList := by
  have := drop_at h
  rw [List.drop_zero] at this
  rw [this, spn_yes _ h2]
  omega
theorem intT_form (l : List UInt8) : (∃ v n, intT l = .ok 3 [] v n) ∨ ∃ e, intT l = .err e ∧ e ≠ 0 := by
  unfold intT
  split
  · exact .inr ⟨_, rfl, by decide⟩
  · split
    · exact .inl ⟨_, _, rfl⟩
    · exact .inr ⟨_, rfl, by decide⟩
theorem litG_form (l : List UInt8) : ∀ (f i : Nat) (o : List UInt8), (∃ s n, litG l f i o = .ok 4 s 0 n) ∨ ∃ e, litG l f i o = .err e ∧ e ≠ 0
  | 0, _, _ => .inr ⟨4, rfl, by decide⟩
  | f + 1, i, o => by
    unfold litG
    split
    · exact .inr ⟨4, rfl, by decide⟩
    · split
      · split
        · exact .inr ⟨6, rfl, by decide⟩
        · exact .inl ⟨_, _, rfl⟩
      · split
        · rename_i e he; exact .inr ⟨e, rfl, chrC_ne he⟩
        · exact litG_form l f _ _
theorem set_below {w0 w : World} {q i : Nat} (h : Below w0.heap.size w0 w) (hg : w0.heap.size ≤ q) (u : Value) : Below w0.heap.size w0 (w.setCell ⟨q, i, none⟩ u) :=
  ⟨h.os, h.tape, h.output, by simpa [World.setCell] using h.size, fun j hj => (Below.heap_setCell w ⟨q, i, none⟩ u j (by show j ≠ q; omega)).trans (h.block j hj)⟩
set_option maxRecDepth 100000 in
set_option maxHeartbeats 16000000 in
theorem rone_any (t : ByteArray) (w : World) (h1 : 1 ≤ t.size) (hz : t.size ≤ 1000000) :
    Calls Tryd.prog 24 #[.string t] w (TokR (oneT t.data.toList) w) := by
  obtain ⟨rb, hrb⟩ : ∃ rb, rb = w.heap.size := ⟨_, rfl⟩
  have h0n : 0 < t.size := h1
  have h0i : (0 : Int) < (t.size : Int) := by omega
  have HZ := Lib.hid hz
  have H1 := Lib.hid h1
  go_enter Tryd.func24, Tryd.ntmps24
  go_upto_region 1 with (fail)
  obtain ⟨w1, hw1⟩ : ∃ w1, w1 = w.alloc (.cells #[.int .i64 0, .int .i64 0, .string ⟨#[]⟩, .int .i64 0] 30) := ⟨_, rfl⟩
  have K1 : Hid (Bk w1 rb 30 #[.int .i64 0, .int .i64 0, .string ⟨#[]⟩, .int .i64 0]) := Lib.hid (by rw [hw1, hrb]; exact Bk.new _ _ _)
  have B1 : Hid (Below w.heap.size w w1) := Lib.hid (by rw [hw1]; exact (Below.refl _ _).alloc (Nat.le_refl _) _)
  have LB : Hid (w.heap.size ≤ rb) := Lib.hid (by omega)
  change Code.wp _ _ _ _ (w.alloc (.cells #[.int .i64 0, .int .i64 0, .string ⟨#[]⟩, .int .i64 0] 30))
  rw [← hw1, ← hrb]
  clear hw1 hrb
  have RL := Lib.hid (fun V => rletter_any t[0] V)
  cases hl : letT t[0] with
  | true =>
    have HO := Lib.hid (one_let h1 hl)
    rw [hl] at RL
    clear hl
    obtain ⟨m, hm⟩ : ∃ m, m = spn wrdT t.data.toList := ⟨_, rfl⟩
    have hms : m ≤ t.size := by rw [hm]; have := spn_le wrdT t.data.toList; simpa using this
    have HM := Lib.hid hm
    clear hm
    go_wp2_with fail
    refine (RL.out _).mono ?_
    rintro _ wr ⟨rfl, rfl⟩
    go_wp2_with fail
    go_loopw [6] (fun nv wr => ∃ j : Nat, j ≤ m ∧ nv = .int .i64 j ∧ Hid (Below w.heap.size w wr ∧ Bk wr rb 30 #[.int .i64 0, .int .i64 0, .string ⟨#[]⟩, .int .i64 0])) (fun nv _ => m - (intOf nv).toNat)
    case atStart => exact ⟨0, Nat.zero_le _, rfl, Lib.hid ⟨B1.out, K1.out⟩⟩
    case round =>
      obtain ⟨j, hj, rfl, HD⟩ := hrel
      by_cases hlt : j < m
      · have hjs : j < t.size := by omega
        have hji : (j : Int) < (t.size : Int) := by omega
        have hdj := spn_at (by rw [← HM.out]; exact hlt) (in_at hjs)
        have RJ := Lib.hid (fun V => rletter_any t[j] V)
        cases hc : letT t[j] with
        | true =>
          rw [hc] at RJ
          clear hdj hc
          go_wp2_with fail
          refine (RJ.out _).mono ?_
          rintro _ wr ⟨rfl, rfl⟩
          go_wp2_with fail
          go_roundw
          case rel => exact ⟨j + 1, hlt, by go_num, HD⟩
          case measure => simp [intOf]; omega
        | false =>
          have RG := Lib.hid (fun V => rdigit_any t[j] V)
          have hg : dgtT t[j] = true := by unfold wrdT at hdj; rw [hc, Bool.false_or] at hdj; exact hdj
          rw [hc] at RJ
          rw [hg] at RG
          clear hdj hc hg
          go_wp2_with fail
          refine (RJ.out _).mono ?_
          rintro _ wr ⟨rfl, rfl⟩
          go_wp2_with fail
          refine (RG.out _).mono ?_
          rintro _ wr ⟨rfl, rfl⟩
          go_wp2_with fail
          go_roundw
          case rel => exact ⟨j + 1, hlt, by go_num, HD⟩
          case measure => simp [intOf]; omega
      · obtain rfl : j = m := by omega
        clear hlt hj
        have hji0 : (j : Int) ≤ (t.size : Int) := by omega
        have B3 := Lib.hid HD.out.1
        have K3 := Lib.hid HD.out.2
        clear HD
        by_cases hjs : j < t.size
        · have hd : wrdT t[j] = false := spn_end (l := t.data.toList) (by rw [← HM.out]; exact in_at hjs)
          unfold wrdT at hd
          rw [Bool.or_eq_false_iff] at hd
          have RJ := Lib.hid (fun V => rletter_any t[j] V)
          have RG := Lib.hid (fun V => rdigit_any t[j] V)
          rw [hd.1] at RJ
          rw [hd.2] at RG
          have hji : (j : Int) < (t.size : Int) := by omega
          clear hd
          go_wp2_with fail
          refine (RJ.out _).mono ?_
          rintro _ wr ⟨rfl, rfl⟩
          go_wp2_with fail
          refine (RG.out _).mono ?_
          rintro _ wr ⟨rfl, rfl⟩
          go_upto_region 6 with (fail)
          by_cases h64 : 64 < j
          · have HE : Hid (oneT t.data.toList = .err 8) := Lib.hid (by rw [HO.out]; unfold wordT; rw [← HM.out, if_pos h64])
            have t64 : (64 : Int) < (j : Int) := by omega
            clear h64
            have f0 := K3.out.frozen 0
            have d0 := K3.out.cell 0
            have f1 := K3.out.frozen 1
            have d1 := K3.out.cell 1
            have f2 := K3.out.frozen 2
            have d2 := K3.out.cell 2
            have f3 := K3.out.frozen 3
            have d3 := K3.out.cell 3
            go_wp2_with fail
            obtain ⟨wf, hwf⟩ : ∃ wf, wf = put4 wr rb (.int .i64 0) (.int .i64 0) (.string ⟨#[]⟩) (.int .i64 0) := ⟨_, rfl⟩
            have QF : Hid (Bk wf rb 30 #[.int .i64 0, .int .i64 0, .string ⟨#[]⟩, .int .i64 0]) := Lib.hid (by rw [hwf]; exact put4_bk K3.out)
            have FF : Hid (Below w.heap.size w wf) := Lib.hid (by rw [hwf]; exact put4_below B3.out LB.out)
            change bodyPost _ _ _ _ _ (put4 wr rb (.int .i64 0) (.int .i64 0) (.string ⟨#[]⟩) (.int .i64 0))
            rw [← hwf]
            refine bodyPost_ret (results_tok rfl rfl rfl rfl QF.out) rfl ?_
            exact ⟨ret_tok HE.out.symm, FF.out⟩
          · have HE : Hid (oneT t.data.toList = .ok (if kwB (t.data.toList.take j) then 2 else 1) (t.data.toList.take j) 0 j) := Lib.hid (by rw [HO.out]; unfold wordT; rw [← HM.out, if_neg h64])
            have t64 : ¬ (64 : Int) < (j : Int) := by omega
            clear h64
            go_upto_region 9 with (fail)
            obtain ⟨q, hq⟩ : ∃ q, q = wr.heap.size := ⟨_, rfl⟩
            obtain ⟨w4, hw4⟩ : ∃ w4, w4 = wr.alloc (.cells #[.int .i64 1, .int .i64 0, .string (t.extract 0 j), .int .i64 0] 30) := ⟨_, rfl⟩
            have hb4 : Below wr.heap.size wr w4 := by rw [hw4]; exact (Below.refl _ _).alloc (Nat.le_refl _) _
            have Q4 : Hid (Bk w4 q 30 #[.int .i64 1, .int .i64 0, .string (t.extract 0 j), .int .i64 0]) := Lib.hid (by rw [hw4, hq]; exact Bk.new _ _ _)
            have K4 := Lib.hid (K3.out.below hb4 K3.out.lt)
            have B4 := Lib.hid (lnk B3.out hb4)
            have NE : Hid (rb ≠ q) := Lib.hid (by have := K3.out.lt; omega)
            have LQ : Hid (w.heap.size ≤ q) := Lib.hid (by have := B3.out.size; omega)
            change Code.wp _ _ _ _ (wr.alloc (.cells #[.int .i64 1, .int .i64 0, .string (t.extract 0 j), .int .i64 0] 30))
            rw [← hw4, ← hq]
            clear hw4 hb4 hq
            have RKW := Lib.hid (fun V => refKeyword_any (t.extract 0 j) V)
            rw [ext_to] at RKW
            obtain ⟨kw, hkw⟩ : ∃ kw, kw = kwB (t.data.toList.take j) := ⟨_, rfl⟩
            rw [← hkw] at RKW
            have HKW := Lib.hid hkw
            clear hkw
            have q2 := Q4.out.cell 2
            go_wp2_with fail
            refine (RKW.out _).mono ?_
            rintro _ w5 ⟨rfl, hb5⟩
            have Q5 := Lib.hid (Q4.out.below hb5 Q4.out.lt)
            have K5 := Lib.hid (K4.out.below hb5 K4.out.lt)
            have B5 := Lib.hid (lnk B4.out hb5)
            clear hb5 q2 RKW
            cases kw with
            | true =>
              have HE2 : Hid (oneT t.data.toList = .ok 2 (t.data.toList.take j) 0 j) := Lib.hid (by rw [HE.out, ← HKW.out]; rfl)
              have r0 := Q5.out.frozen 0
              have q0 := Q5.out.cell 0
              go_upto_region 11 with (fail)
              obtain ⟨w6, hw6⟩ : ∃ w6, w6 = w5.setCell ⟨q, 0, none⟩ (.int .i64 2) := ⟨_, rfl⟩
              have Q6 : Hid (Bk w6 q 30 #[.int .i64 2, .int .i64 0, .string (t.extract 0 j), .int .i64 0]) := Lib.hid (by rw [hw6]; exact Q5.out.put 0 _)
              have K6 : Hid (Bk w6 rb 30 #[.int .i64 0, .int .i64 0, .string ⟨#[]⟩, .int .i64 0]) := Lib.hid (by rw [hw6]; exact K5.out.far NE.out _)
              have B6 : Hid (Below w.heap.size w w6) := Lib.hid (by rw [hw6]; exact set_below B5.out LQ.out _)
              change Code.wp _ _ _ _ (w5.setCell ⟨q, 0, none⟩ (.int .i64 2))
              rw [← hw6]
              clear hw6 q0 r0
              have q0 := Q6.out.cell 0
              have q1 := Q6.out.cell 1
              have q2 := Q6.out.cell 2
              have q3 := Q6.out.cell 3
              have f0 := K6.out.frozen 0
              have d0 := K6.out.cell 0
              have f1 := K6.out.frozen 1
              have d1 := K6.out.cell 1
              have f2 := K6.out.frozen 2
              have d2 := K6.out.cell 2
              have f3 := K6.out.frozen 3
              have d3 := K6.out.cell 3
              go_wp2_with fail
              obtain ⟨wf, hwf⟩ : ∃ wf, wf = put4 w6 rb (.int .i64 2) (.int .i64 0) (.string (t.extract 0 j)) (.int .i64 0) := ⟨_, rfl⟩
              have QF : Hid (Bk wf rb 30 #[.int .i64 2, .int .i64 0, .string (t.extract 0 j), .int .i64 0]) := Lib.hid (by rw [hwf]; exact put4_bk K6.out)
              have FF : Hid (Below w.heap.size w wf) := Lib.hid (by rw [hwf]; exact put4_below B6.out LB.out)
              change bodyPost _ _ _ _ _ (put4 w6 rb (.int .i64 2) (.int .i64 0) (.string (t.extract 0 j)) (.int .i64 0))
              rw [← hwf]
              refine bodyPost_ret (results_tok rfl rfl rfl rfl QF.out) rfl ?_
              exact ⟨(by rw [HE2.out]; exact congrArg (fun x => Ending.returned (.tuple #[.agg #[.int .i64 2, .int .i64 0, x, .int .i64 0], .int .i64 (j : Nat), .int .i64 0])) (strV_ext t j)), FF.out⟩
            | false =>
              have HE2 : Hid (oneT t.data.toList = .ok 1 (t.data.toList.take j) 0 j) := Lib.hid (by rw [HE.out, ← HKW.out]; rfl)
              have q0 := Q5.out.cell 0
              have q1 := Q5.out.cell 1
              have q2 := Q5.out.cell 2
              have q3 := Q5.out.cell 3
              have f0 := K5.out.frozen 0
              have d0 := K5.out.cell 0
              have f1 := K5.out.frozen 1
              have d1 := K5.out.cell 1
              have f2 := K5.out.frozen 2
              have d2 := K5.out.cell 2
              have f3 := K5.out.frozen 3
              have d3 := K5.out.cell 3
              go_wp2_with fail
              obtain ⟨wf, hwf⟩ : ∃ wf, wf = put4 w5 rb (.int .i64 1) (.int .i64 0) (.string (t.extract 0 j)) (.int .i64 0) := ⟨_, rfl⟩
              have QF : Hid (Bk wf rb 30 #[.int .i64 1, .int .i64 0, .string (t.extract 0 j), .int .i64 0]) := Lib.hid (by rw [hwf]; exact put4_bk K5.out)
              have FF : Hid (Below w.heap.size w wf) := Lib.hid (by rw [hwf]; exact put4_below B5.out LB.out)
              change bodyPost _ _ _ _ _ (put4 w5 rb (.int .i64 1) (.int .i64 0) (.string (t.extract 0 j)) (.int .i64 0))
              rw [← hwf]
              refine bodyPost_ret (results_tok rfl rfl rfl rfl QF.out) rfl ?_
              exact ⟨(by rw [HE2.out]; exact congrArg (fun x => Ending.returned (.tuple #[.agg #[.int .i64 1, .int .i64 0, x, .int .i64 0], .int .i64 (j : Nat), .int .i64 0])) (strV_ext t j)), FF.out⟩
        · have hji : ¬ (j : Int) < (t.size : Int) := by omega
          clear hjs
          go_upto_region 6 with (fail)
          by_cases h64 : 64 < j
          · have HE : Hid (oneT t.data.toList = .err 8) := Lib.hid (by rw [HO.out]; unfold wordT; rw [← HM.out, if_pos h64])
            have t64 : (64 : Int) < (j : Int) := by omega
            clear h64
            have f0 := K3.out.frozen 0
            have d0 := K3.out.cell 0
            have f1 := K3.out.frozen 1
            have d1 := K3.out.cell 1
            have f2 := K3.out.frozen 2
            have d2 := K3.out.cell 2
            have f3 := K3.out.frozen 3
            have d3 := K3.out.cell 3
            go_wp2_with fail
            obtain ⟨wf, hwf⟩ : ∃ wf, wf = put4 wr rb (.int .i64 0) (.int .i64 0) (.string ⟨#[]⟩) (.int .i64 0) := ⟨_, rfl⟩
            have QF : Hid (Bk wf rb 30 #[.int .i64 0, .int .i64 0, .string ⟨#[]⟩, .int .i64 0]) := Lib.hid (by rw [hwf]; exact put4_bk K3.out)
            have FF : Hid (Below w.heap.size w wf) := Lib.hid (by rw [hwf]; exact put4_below B3.out LB.out)
            change bodyPost _ _ _ _ _ (put4 wr rb (.int .i64 0) (.int .i64 0) (.string ⟨#[]⟩) (.int .i64 0))
            rw [← hwf]
            refine bodyPost_ret (results_tok rfl rfl rfl rfl QF.out) rfl ?_
            exact ⟨ret_tok HE.out.symm, FF.out⟩
          · have HE : Hid (oneT t.data.toList = .ok (if kwB (t.data.toList.take j) then 2 else 1) (t.data.toList.take j) 0 j) := Lib.hid (by rw [HO.out]; unfold wordT; rw [← HM.out, if_neg h64])
            have t64 : ¬ (64 : Int) < (j : Int) := by omega
            clear h64
            go_upto_region 9 with (fail)
            obtain ⟨q, hq⟩ : ∃ q, q = wr.heap.size := ⟨_, rfl⟩
            obtain ⟨w4, hw4⟩ : ∃ w4, w4 = wr.alloc (.cells #[.int .i64 1, .int .i64 0, .string (t.extract 0 j), .int .i64 0] 30) := ⟨_, rfl⟩
            have hb4 : Below wr.heap.size wr w4 := by rw [hw4]; exact (Below.refl _ _).alloc (Nat.le_refl _) _
            have Q4 : Hid (Bk w4 q 30 #[.int .i64 1, .int .i64 0, .string (t.extract 0 j), .int .i64 0]) := Lib.hid (by rw [hw4, hq]; exact Bk.new _ _ _)
            have K4 := Lib.hid (K3.out.below hb4 K3.out.lt)
            have B4 := Lib.hid (lnk B3.out hb4)
            have NE : Hid (rb ≠ q) := Lib.hid (by have := K3.out.lt; omega)
            have LQ : Hid (w.heap.size ≤ q) := Lib.hid (by have := B3.out.size; omega)
            change Code.wp _ _ _ _ (wr.alloc (.cells #[.int .i64 1, .int .i64 0, .string (t.extract 0 j), .int .i64 0] 30))
            rw [← hw4, ← hq]
            clear hw4 hb4 hq
            have RKW := Lib.hid (fun V => refKeyword_any (t.extract 0 j) V)
            rw [ext_to] at RKW
            obtain ⟨kw, hkw⟩ : ∃ kw, kw = kwB (t.data.toList.take j) := ⟨_, rfl⟩
            rw [← hkw] at RKW
            have HKW := Lib.hid hkw
            clear hkw
            have q2 := Q4.out.cell 2
            go_wp2_with fail
            refine (RKW.out _).mono ?_
            rintro _ w5 ⟨rfl, hb5⟩
            have Q5 := Lib.hid (Q4.out.below hb5 Q4.out.lt)
            have K5 := Lib.hid (K4.out.below hb5 K4.out.lt)
            have B5 := Lib.hid (lnk B4.out hb5)
            clear hb5 q2 RKW
            cases kw with
            | true =>
              have HE2 : Hid (oneT t.data.toList = .ok 2 (t.data.toList.take j) 0 j) := Lib.hid (by rw [HE.out, ← HKW.out]; rfl)
              have r0 := Q5.out.frozen 0
              have q0 := Q5.out.cell 0
              go_upto_region 11 with (fail)
              obtain ⟨w6, hw6⟩ : ∃ w6, w6 = w5.setCell ⟨q, 0, none⟩ (.int .i64 2) := ⟨_, rfl⟩
              have Q6 : Hid (Bk w6 q 30 #[.int .i64 2, .int .i64 0, .string (t.extract 0 j), .int .i64 0]) := Lib.hid (by rw [hw6]; exact Q5.out.put 0 _)
              have K6 : Hid (Bk w6 rb 30 #[.int .i64 0, .int .i64 0, .string ⟨#[]⟩, .int .i64 0]) := Lib.hid (by rw [hw6]; exact K5.out.far NE.out _)
              have B6 : Hid (Below w.heap.size w w6) := Lib.hid (by rw [hw6]; exact set_below B5.out LQ.out _)
              change Code.wp _ _ _ _ (w5.setCell ⟨q, 0, none⟩ (.int .i64 2))
              rw [← hw6]
              clear hw6 q0 r0
              have q0 := Q6.out.cell 0
              have q1 := Q6.out.cell 1
              have q2 := Q6.out.cell 2
              have q3 := Q6.out.cell 3
              have f0 := K6.out.frozen 0
              have d0 := K6.out.cell 0
              have f1 := K6.out.frozen 1
              have d1 := K6.out.cell 1
              have f2 := K6.out.frozen 2
              have d2 := K6.out.cell 2
              have f3 := K6.out.frozen 3
              have d3 := K6.out.cell 3
              go_wp2_with fail
              obtain ⟨wf, hwf⟩ : ∃ wf, wf = put4 w6 rb (.int .i64 2) (.int .i64 0) (.string (t.extract 0 j)) (.int .i64 0) := ⟨_, rfl⟩
              have QF : Hid (Bk wf rb 30 #[.int .i64 2, .int .i64 0, .string (t.extract 0 j), .int .i64 0]) := Lib.hid (by rw [hwf]; exact put4_bk K6.out)
              have FF : Hid (Below w.heap.size w wf) := Lib.hid (by rw [hwf]; exact put4_below B6.out LB.out)
              change bodyPost _ _ _ _ _ (put4 w6 rb (.int .i64 2) (.int .i64 0) (.string (t.extract 0 j)) (.int .i64 0))
              rw [← hwf]
              refine bodyPost_ret (results_tok rfl rfl rfl rfl QF.out) rfl ?_
              exact ⟨(by rw [HE2.out]; exact congrArg (fun x => Ending.returned (.tuple #[.agg #[.int .i64 2, .int .i64 0, x, .int .i64 0], .int .i64 (j : Nat), .int .i64 0])) (strV_ext t j)), FF.out⟩
            | false =>
              have HE2 : Hid (oneT t.data.toList = .ok 1 (t.data.toList.take j) 0 j) := Lib.hid (by rw [HE.out, ← HKW.out]; rfl)
              have q0 := Q5.out.cell 0
              have q1 := Q5.out.cell 1
              have q2 := Q5.out.cell 2
              have q3 := Q5.out.cell 3
              have f0 := K5.out.frozen 0
              have d0 := K5.out.cell 0
              have f1 := K5.out.frozen 1
              have d1 := K5.out.cell 1
              have f2 := K5.out.frozen 2
              have d2 := K5.out.cell 2
              have f3 := K5.out.frozen 3
              have d3 := K5.out.cell 3
              go_wp2_with fail
              obtain ⟨wf, hwf⟩ : ∃ wf, wf = put4 w5 rb (.int .i64 1) (.int .i64 0) (.string (t.extract 0 j)) (.int .i64 0) := ⟨_, rfl⟩
              have QF : Hid (Bk wf rb 30 #[.int .i64 1, .int .i64 0, .string (t.extract 0 j), .int .i64 0]) := Lib.hid (by rw [hwf]; exact put4_bk K5.out)
              have FF : Hid (Below w.heap.size w wf) := Lib.hid (by rw [hwf]; exact put4_below B5.out LB.out)
              change bodyPost _ _ _ _ _ (put4 w5 rb (.int .i64 1) (.int .i64 0) (.string (t.extract 0 j)) (.int .i64 0))
              rw [← hwf]
              refine bodyPost_ret (results_tok rfl rfl rfl rfl QF.out) rfl ?_
              exact ⟨(by rw [HE2.out]; exact congrArg (fun x => Ending.returned (.tuple #[.agg #[.int .i64 1, .int .i64 0, x, .int .i64 0], .int .i64 (j : Nat), .int .i64 0])) (strV_ext t j)), FF.out⟩
  | false =>
    have RG := Lib.hid (fun V => rdigit_any t[0] V)
    cases hd : dgtT t[0] with
    | true =>
      have HO := Lib.hid (one_dgt h1 hl hd)
      have HNU := Lib.hid (fun V => rnumber_any t V (spn_dgt h1 hd) HZ.out)
      rw [hl] at RL
      rw [hd] at RG
      clear hl hd
      go_wp2_with fail
      refine (RL.out _).mono ?_
      rintro _ wr ⟨rfl, rfl⟩
      go_wp2_with fail
      refine (RG.out _).mono ?_
      rintro _ wr ⟨rfl, rfl⟩
      go_wp2_with fail
      refine (HNU.out _).mono ?_
      rintro _ w2 ⟨rfl, hd2⟩
      have K2 := Lib.hid (K1.out.below hd2.below K1.out.lt)
      have B2 := Lib.hid (lnk B1.out hd2.below)
      clear hd2 HNU
      rcases intT_form t.data.toList with ⟨v, n, hi⟩ | ⟨e, hi, hne⟩
      · have HE : Hid (oneT t.data.toList = .ok 3 [] v n) := Lib.hid (HO.out.trans hi)
        rw [hi]
        clear hi
        unfold numV
        have f0 := K2.out.frozen 0
        have d0 := K2.out.cell 0
        have f1 := K2.out.frozen 1
        have d1 := K2.out.cell 1
        have f2 := K2.out.frozen 2
        have d2 := K2.out.cell 2
        have f3 := K2.out.frozen 3
        have d3 := K2.out.cell 3
        go_wp2_with fail
        obtain ⟨wf, hwf⟩ : ∃ wf, wf = put4 w2 rb (.int .i64 3) (.int .i64 0) (.string ⟨#[]⟩) (.int .i64 v) := ⟨_, rfl⟩
        have QF : Hid (Bk wf rb 30 #[.int .i64 3, .int .i64 0, .string ⟨#[]⟩, .int .i64 v]) := Lib.hid (by rw [hwf]; exact put4_bk K2.out)
        have FF : Hid (Below w.heap.size w wf) := Lib.hid (by rw [hwf]; exact put4_below B2.out LB.out)
        change bodyPost _ _ _ _ _ (put4 w2 rb (.int .i64 3) (.int .i64 0) (.string ⟨#[]⟩) (.int .i64 v))
        rw [← hwf]
        refine bodyPost_ret (results_tok rfl rfl rfl rfl QF.out) rfl ?_
        exact ⟨ret_tok HE.out.symm, FF.out⟩
      · have HE : Hid (oneT t.data.toList = .err e) := Lib.hid (HO.out.trans hi)
        have e0 : (e == 0) = false := beq_eq_false_iff_ne.2 hne
        have e0n : (e != 0) = true := bne_iff_ne.2 hne
        rw [hi]
        clear hi hne
        unfold numV
        have f0 := K2.out.frozen 0
        have d0 := K2.out.cell 0
        have f1 := K2.out.frozen 1
        have d1 := K2.out.cell 1
        have f2 := K2.out.frozen 2
        have d2 := K2.out.cell 2
        have f3 := K2.out.frozen 3
        have d3 := K2.out.cell 3
        go_wp2_with fail
        obtain ⟨wf, hwf⟩ : ∃ wf, wf = put4 w2 rb (.int .i64 0) (.int .i64 0) (.string ⟨#[]⟩) (.int .i64 0) := ⟨_, rfl⟩
        have QF : Hid (Bk wf rb 30 #[.int .i64 0, .int .i64 0, .string ⟨#[]⟩, .int .i64 0]) := Lib.hid (by rw [hwf]; exact put4_bk K2.out)
        have FF : Hid (Below w.heap.size w wf) := Lib.hid (by rw [hwf]; exact put4_below B2.out LB.out)
        change bodyPost _ _ _ _ _ (put4 w2 rb (.int .i64 0) (.int .i64 0) (.string ⟨#[]⟩) (.int .i64 0))
        rw [← hwf]
        refine bodyPost_ret (results_tok rfl rfl rfl rfl QF.out) rfl ?_
        exact ⟨ret_tok HE.out.symm, FF.out⟩
    | false =>
      by_cases h34 : t[0].toNat = 34
      · have t34 : ((t[0].toNat : Int) == 34) = true := by rw [beq_iff_eq]; omega
        have HO := Lib.hid (one_lit h1 hl hd h34)
        have HLI := Lib.hid (fun V => rliteral_any t V H1.out HZ.out)
        rw [hl] at RL
        rw [hd] at RG
        clear hl hd h34
        go_wp2_with fail
        refine (RL.out _).mono ?_
        rintro _ wr ⟨rfl, rfl⟩
        go_wp2_with fail
        refine (RG.out _).mono ?_
        rintro _ wr ⟨rfl, rfl⟩
        go_wp2_with fail
        refine (HLI.out _).mono ?_
        rintro _ w2 ⟨rfl, hd2⟩
        have K2 := Lib.hid (K1.out.below hd2 K1.out.lt)
        have B2 := Lib.hid (lnk B1.out hd2)
        clear hd2 HLI
        rcases litG_form t.data.toList (t.data.toList.length + 1) 1 [] with ⟨v, n, hi⟩ | ⟨e, hi, hne⟩
        · change litT t.data.toList = _ at hi
          have HE : Hid (oneT t.data.toList = .ok 4 v 0 n) := Lib.hid (HO.out.trans hi)
          rw [hi]
          clear hi
          obtain ⟨st, hst⟩ : ∃ st : ByteArray, strV v = .string st := ⟨_, rfl⟩
          have HST := Lib.hid hst
          have hv : litV (.ok 4 v 0 n) = .tuple #[.string st, .int .i64 (n : Nat), .int .i64 0] := by
            show Value.tuple #[strV v, .int .i64 (n : Nat), .int .i64 0] = _
            rw [hst]
          rw [hv]
          clear hst hv
          have f0 := K2.out.frozen 0
          have d0 := K2.out.cell 0
          have f1 := K2.out.frozen 1
          have d1 := K2.out.cell 1
          have f2 := K2.out.frozen 2
          have d2 := K2.out.cell 2
          have f3 := K2.out.frozen 3
          have d3 := K2.out.cell 3
          go_wp2_with fail
          obtain ⟨wf, hwf⟩ : ∃ wf, wf = put4 w2 rb (.int .i64 4) (.int .i64 0) (.string st) (.int .i64 0) := ⟨_, rfl⟩
          have QF : Hid (Bk wf rb 30 #[.int .i64 4, .int .i64 0, .string st, .int .i64 0]) := Lib.hid (by rw [hwf]; exact put4_bk K2.out)
          have FF : Hid (Below w.heap.size w wf) := Lib.hid (by rw [hwf]; exact put4_below B2.out LB.out)
          change bodyPost _ _ _ _ _ (put4 w2 rb (.int .i64 4) (.int .i64 0) (.string st) (.int .i64 0))
          rw [← hwf]
          refine bodyPost_ret (results_tok rfl rfl rfl rfl QF.out) rfl ?_
          exact ⟨by rw [HE.out, ← HST.out]; rfl, FF.out⟩
        · change litT t.data.toList = _ at hi
          have HE : Hid (oneT t.data.toList = .err e) := Lib.hid (HO.out.trans hi)
          have e0 : (e == 0) = false := beq_eq_false_iff_ne.2 hne
          have e0n : (e != 0) = true := bne_iff_ne.2 hne
          rw [hi]
          clear hi hne
          unfold litV
          have f0 := K2.out.frozen 0
          have d0 := K2.out.cell 0
          have f1 := K2.out.frozen 1
          have d1 := K2.out.cell 1
          have f2 := K2.out.frozen 2
          have d2 := K2.out.cell 2
          have f3 := K2.out.frozen 3
          have d3 := K2.out.cell 3
          go_wp2_with fail
          obtain ⟨wf, hwf⟩ : ∃ wf, wf = put4 w2 rb (.int .i64 0) (.int .i64 0) (.string ⟨#[]⟩) (.int .i64 0) := ⟨_, rfl⟩
          have QF : Hid (Bk wf rb 30 #[.int .i64 0, .int .i64 0, .string ⟨#[]⟩, .int .i64 0]) := Lib.hid (by rw [hwf]; exact put4_bk K2.out)
          have FF : Hid (Below w.heap.size w wf) := Lib.hid (by rw [hwf]; exact put4_below B2.out LB.out)
          change bodyPost _ _ _ _ _ (put4 w2 rb (.int .i64 0) (.int .i64 0) (.string ⟨#[]⟩) (.int .i64 0))
          rw [← hwf]
          refine bodyPost_ret (results_tok rfl rfl rfl rfl QF.out) rfl ?_
          exact ⟨ret_tok HE.out.symm, FF.out⟩
      · have t34 : ((t[0].toNat : Int) == 34) = false := by rw [beq_eq_false_iff_ne]; omega
        have HO := Lib.hid (one_sgn h1 hl hd h34)
        have HL : Hid (sgS.length = 22) := Lib.hid rfl
        rw [hl] at RL
        rw [hd] at RG
        clear hl hd h34
        go_wp2_with fail
        refine (RL.out _).mono ?_
        rintro _ wr ⟨rfl, rfl⟩
        go_wp2_with fail
        refine (RG.out _).mono ?_
        rintro _ wr ⟨rfl, rfl⟩
        go_wp2_with fail
        refine (signs_any _).mono ?_
        rintro _ w2 ⟨rfl, hr, hb2⟩
        have HR := Lib.hid hr
        have K2 := Lib.hid (K1.out.below hb2 K1.out.lt)
        have B2 := Lib.hid (lnk B1.out hb2)
        clear hr hb2
        go_wp2_with fail
        go_loop [83] (fun i => ∃ k : Nat, k ≤ 22 ∧ i = .int .i64 k ∧ Hid ((sgL.drop k).find? (fun x => x.isPrefixOf t.data.toList) = sgHit t.data.toList)) (fun i => 22 - (intOf i).toNat)
        case atStart => exact ⟨0, Nat.zero_le _, rfl, Lib.hid rfl⟩
        case round =>
          obtain ⟨k, hk, rfl, HN⟩ := hrel
          by_cases hlt : k < 22
          · obtain ⟨x, hx⟩ : ∃ x, sgS[k]? = some x := ⟨_, List.getElem?_eq_getElem (by rw [HL.out]; exact hlt)⟩
            have c0 := HR.out.cell hx
            have HX := Lib.hid hx
            have HP := Lib.hid (pre_iff x t)
            clear hx
            by_cases hle : x.size ≤ t.size
            · have hli : (x.size : Int) ≤ (t.size : Int) := by omega
              by_cases he : (t.extract 0 x.size).toList = x.toList
              · have t0 := kw_yes he
                have HE : Hid (oneT t.data.toList = .ok 5 x.data.toList 0 x.size) := Lib.hid (by rw [HO.out]; exact sgHit_at HX.out (HP.out.2 ⟨hle, he⟩) HN.out)
                clear he hle
                have f0 := K2.out.frozen 0
                have d0 := K2.out.cell 0
                have f1 := K2.out.frozen 1
                have d1 := K2.out.cell 1
                have f2 := K2.out.frozen 2
                have d2 := K2.out.cell 2
                have f3 := K2.out.frozen 3
                have d3 := K2.out.cell 3
                go_wp2_with fail
                obtain ⟨wf, hwf⟩ : ∃ wf, wf = put4 w2 rb (.int .i64 5) (.int .i64 0) (.string x) (.int .i64 0) := ⟨_, rfl⟩
                have QF : Hid (Bk wf rb 30 #[.int .i64 5, .int .i64 0, .string x, .int .i64 0]) := Lib.hid (by rw [hwf]; exact put4_bk K2.out)
                have FF : Hid (Below w.heap.size w wf) := Lib.hid (by rw [hwf]; exact put4_below B2.out LB.out)
                change bodyPost _ _ _ _ _ (put4 w2 rb (.int .i64 5) (.int .i64 0) (.string x) (.int .i64 0))
                rw [← hwf]
                refine bodyPost_ret (results_tok rfl rfl rfl rfl QF.out) rfl ?_
                exact ⟨by rw [HE.out]; rfl, FF.out⟩
              · have t0 := kw_no he
                have HM := Lib.hid (sgHit_next HX.out (fun h => he (HP.out.1 h).2) HN.out)
                clear he hle
                go_wp2
                go_round
                case rel => exact ⟨k + 1, hlt, by go_num, HM⟩
                case measure => simp [intOf]; omega
            · have hli : ¬ (x.size : Int) ≤ (t.size : Int) := by omega
              have HM := Lib.hid (sgHit_next HX.out (fun h => hle (HP.out.1 h).1) HN.out)
              clear hle
              go_wp2
              go_round
              case rel => exact ⟨k + 1, hlt, by go_num, HM⟩
              case measure => simp [intOf]; omega
          · obtain rfl : k = 22 := by omega
            have HE : Hid (oneT t.data.toList = .err 3) := Lib.hid (by rw [HO.out]; exact sgHit_end HN.out)
            clear hlt hk
            have f0 := K2.out.frozen 0
            have d0 := K2.out.cell 0
            have f1 := K2.out.frozen 1
            have d1 := K2.out.cell 1
            have f2 := K2.out.frozen 2
            have d2 := K2.out.cell 2
            have f3 := K2.out.frozen 3
            have d3 := K2.out.cell 3
            go_wp2_with fail
            obtain ⟨wf, hwf⟩ : ∃ wf, wf = put4 w2 rb (.int .i64 0) (.int .i64 0) (.string ⟨#[]⟩) (.int .i64 0) := ⟨_, rfl⟩
            have QF : Hid (Bk wf rb 30 #[.int .i64 0, .int .i64 0, .string ⟨#[]⟩, .int .i64 0]) := Lib.hid (by rw [hwf]; exact put4_bk K2.out)
            have FF : Hid (Below w.heap.size w wf) := Lib.hid (by rw [hwf]; exact put4_below B2.out LB.out)
            change bodyPost _ _ _ _ _ (put4 w2 rb (.int .i64 0) (.int .i64 0) (.string ⟨#[]⟩) (.int .i64 0))
            rw [← hwf]
            refine bodyPost_ret (results_tok rfl rfl rfl rfl QF.out) rfl ?_
            exact ⟨ret_tok HE.out.symm, FF.out⟩
end Go.Proofs.YtemdcgeopaphaaaDoor
