/-
  VtextParses returns true for every input, and its arguments read afterwards as they read before: what it leans on.
-/
import Derived.Test.YtlgmhhimbabkjaaGreatDoorYDVtextParses
import Derived.Test.YtlgmhhimbabkjaaGreatDoorRt
namespace Go.Proofs.YtlgmhhimbabkjaaGreatDoor
open Go.RowKit

theorem litL_len (l : List UInt8) (a : Nat) : ∀ (f i : Nat) (o o' : List UInt8) (j : Nat), litL l a f i o = .ok o' j → o'.length ≤ 4096
  | 0, _, _, _, _, h => by cases h
  | f + 1, i, o, o', j, h => by
    unfold litL at h
    split at h
    · cases h
    · split at h
      · split at h
        · rename_i hle
          injection h with h _
          rw [← h]
          exact hle
        · cases h
      · cases hc : chrP l i with
        | err x y => rw [hc] at h; cases h
        | ok x m => rw [hc, PR.bind_ok] at h; exact litL_len l a f m _ o' j h
theorem key_new {l : List UInt8} {ks : List ByteArray} {i j : Nat} {t : ByteArray} (h : keyP l ks i = .ok t j) : (∀ q ∈ ks, q ≠ t) ∧ t.size ≤ 9223372036854775807 := by
  unfold keyP at h
  cases h1 : tkP (fun x => x == 34) l (skip l i) with
  | err a b => rw [h1] at h; cases h
  | ok c k =>
    rw [h1, PR.bind_ok] at h
    cases h2 : litP l k with
    | err a b => rw [h2] at h; cases h
    | ok key j2 =>
      rw [h2, PR.bind_ok] at h
      split at h
      · cases h
      · rename_i hn
        injection h with h _
        subst h
        refine ⟨fun q hq e => hn (List.any_eq_true.2 ⟨q, hq, decide_eq_true e⟩), ?_⟩
        unfold litP at h2
        cases h3 : litL l (k - 1) (l.length + 1) k [] with
        | err a b => rw [h3] at h2; cases h2
        | ok o j3 =>
          rw [h3, PR.bind_ok] at h2
          injection h2 with h2 _
          have := litL_len _ _ _ _ _ _ _ h3
          rw [← h2]
          simp [ByteArray.size]
          omega
/-- a map's element: key, colon, value -/
theorem elM_key (l : List UInt8) (val : Nat → Nat → PR (VT × Nat)) (ks : List ByteArray) (its : List VT) (n i : Nat) :
    elM l val (ks, its, n) (skip l i) = (keyP l ks i).bind fun key j2 => (tkP (fun x => x == 58) l (skip l j2)).bind fun _ j3 => (val j3 n).bind fun x j4 => .ok (insAt (posOf ks key) key ks, insAt (posOf ks key) x.1 its, x.2) j4 := by
  unfold elM keyP
  simp only
  cases tkP (fun x => x == 34) l (skip l i) with
  | err a b => rfl
  | ok c j =>
    rw [PR.bind_ok, PR.bind_ok]
    cases litP l j with
    | err a b => rfl
    | ok key j2 =>
      rw [PR.bind_ok, PR.bind_ok]
      split
      · rfl
      · rw [PR.bind_ok]

/-- a map of the reference that is being read -/
structure ObS (w5 : World) (p vb : Nat) (ks : List ByteArray) (its : List VT) (w : World) : Prop where
  fr : FrS (Two p vb) w5 w
  len : ks.length = its.length
  row : ∃ A c A' c', Bk w vb 25 #[.int .i64 5, .int .i64 0, .string ⟨#[]⟩, .slice A its.length c, .slice A' ks.length c'] ∧ (its.length ≤ c ∧ c ≤ 9223372036854775807 ∧ ks.length ≤ c' ∧ c' ≤ 9223372036854775807) ∧ LiesL w (New w5 w) A 0 its ∧ LiesS w (New w5 w) A' ks
theorem ObS.move {w5 w w' : World} {p vb : Nat} {ks : List ByteArray} {its : List VT} (h : ObS w5 p vb ks its w) (hp : p < w5.heap.size) (hne : p ≠ vb) (hf : FrS (One p) w w') : ObS w5 p vb ks its w' := by
  obtain ⟨h1, h2, A, c, A', c', r1, r2, r3, r4⟩ := h
  have hk : ∀ q : Addr, New w5 w q.block → w'.cell? q = w.cell? q := fun q hq => hf.cell hq.2 (fun e => by have := hq.1; have e2 : q.block = p := e; omega)
  have hR : ∀ b, New w5 w b → New w5 w' b := fun b hb => ⟨hb.1, Nat.lt_of_lt_of_le hb.2 hf.size⟩
  exact ⟨h1.trans hf.two, h2, A, c, A', c', hf.bk r1 (fun e => hne e.symm), r2, r3.keep hk hR, r4.keep hk hR⟩
theorem insAt_len {α : Type} (P : Nat) (x : α) (l : List α) (h : P ≤ l.length) : (insAt P x l).length = l.length + 1 := by
  unfold insAt
  rw [List.length_append, List.length_cons, List.length_take, List.length_drop]
  omega
set_option maxHeartbeats 4000000 in
/-- what put gives, laid into the map's block -/
theorem ob_put {w5 w7 w8 w9 wf : World} {p vb : Nat} {ks : List ByteArray} {its : List VT} {key : ByteArray} {x : VT} {A A' : Option Addr} {m c m' c' : Nat} {k i : Int} {t : ByteArray}
    (h : ObS w5 p vb ks its w7) (hvb : vb < w5.heap.size) (hb : Below w7.heap.size w7 w8) (hb9 : Below w8.heap.size w8 w9)
    (hl : Lies w8 (fun b => New w5 w7 b ∨ New w7 w8 b) (.mk 5 0 ⟨#[]⟩ (insAt (posOf ks key) x its) (insAt (posOf ks key) key ks)) (.agg #[.int .i64 k, .int .i64 i, .string t, .slice A m c, .slice A' m' c']))
    (hwf : wf = put5 w9 vb 0 (.int .i64 k) (.int .i64 i) (.string t) (.slice A m c) (.slice A' m' c')) : ObS w5 p vb (insAt (posOf ks key) key ks) (insAt (posOf ks key) x its) wf := by
  have hlen := h.len
  obtain ⟨A0, c0, A1, c1, r1, _⟩ := h.row
  have s5 := h.fr.size
  have s7 := hb.size
  have s8 := hb9.size
  have hpos := posOf_le ks key
  have hsz : wf.heap.size = w9.heap.size := by rw [hwf]; exact put5_size
  have hfar : ∀ b, b ≠ vb → wf.heap[b]? = w9.heap[b]? := fun b hb => by rw [hwf]; exact put5_far hb
  rw [Lies] at hl
  obtain ⟨B, d, B', d', e, _, _, _, h4, h5, h6, h7, h8, h9⟩ := hl
  injection e with e
  injection e with e
  simp only [List.cons.injEq, Value.int.injEq, Value.string.injEq, Value.slice.injEq, true_and, and_true] at e
  obtain ⟨rfl, rfl, rfl, ⟨rfl, rfl, rfl⟩, rfl, rfl, rfl⟩ := e
  have f9 : FrS (One vb) w9 wf := by rw [hwf]; exact frs_put5S rfl
  have fall : FrS (Two p vb) w5 wf := (h.fr.trans ((FrS.of_below (S := Two p vb) hb).next (FrS.of_below (S := Two p vb) hb9) (fun _ _ h => h))).trans ⟨f9.os, f9.tape, f9.output, f9.size, fun b hb hn => f9.block b hb (fun e => hn (.inr e))⟩
  have hk : ∀ q : Addr, (New w5 w7 q.block ∨ New w7 w8 q.block) → wf.cell? q = w8.cell? q := fun q hq => by
    have h1 : w5.heap.size ≤ q.block ∧ q.block < w8.heap.size := by
      rcases hq with h | h
      · exact ⟨h.1, by have := h.2; omega⟩
      · exact ⟨by have := h.1; omega, h.2⟩
    exact (World.cell?_of_block (hfar _ (by omega))).trans (hb9.cell h1.2)
  have hR : ∀ b, (New w5 w7 b ∨ New w7 w8 b) → New w5 wf b := fun b hq => by
    rcases hq with h | h
    · exact ⟨h.1, by have := h.2; omega⟩
    · exact ⟨by have := h.1; omega, by have := h.2; omega⟩
  refine ⟨fall, by rw [insAt_len _ _ _ hpos, insAt_len _ _ _ (by omega), hlen], _, _, _, _, ?_, ⟨h4, h5, h7, h8⟩, h6.keep hk hR, h9.keep hk hR⟩
  have hb1 : Bk w9 vb 25 _ := ((r1.below hb r1.lt).below hb9 (by have := r1.lt; omega))
  rw [hwf]
  exact put5_bk hb1

set_option maxRecDepth 100000 in
set_option maxHeartbeats 16000000 in
theorem robj_any {w : World} {p : Nat} {s : ByteArray} {d : Int} {k i n : Nat} (hv : RvalC k) (hd : d + 1 + (k : Int) = 17) (hd1 : 0 ≤ d) (h : Rn w p s i n) (hi : i < s.size) :
    Calls Tryz.prog 56 #[.pointer (some ⟨p, 0, none⟩), .int .i64 d] w (RvalR ((elemsP (elM s.data.toList (valP s.data.toList k)) 125 s.data.toList (i + 1) ([], [], n)).bind fun st j => .ok (VT.mk 5 0 ⟨#[]⟩ st.2.1 st.1, st.2.2) j) p s w) := by
  have HP := Lib.hid h
  have HV := Lib.hid hv
  have HD := Lib.hid hd
  have hdw : IntKind.i64.wrap (d + 1) = d + 1 := by rw [IntKind.wrap_i64]; omega
  have hss := h.2.2.1
  clear h hv hd
  obtain ⟨R, hR⟩ : ∃ R, R = elemsP (elM s.data.toList (valP s.data.toList k)) 125 s.data.toList (i + 1) ([], [], n) := ⟨_, rfl⟩
  rw [← hR]
  have HR0 := Lib.hid hR
  clear hR
  go_enter Tryz.func56, Tryz.ntmps56
  go_upto_region 2 with (fail)
  obtain ⟨w1, hw1⟩ : ∃ w1, w1 = w.alloc (.cells #[.int .i64 0, .int .i64 0, .string ⟨#[]⟩, .slice none 0 0, .slice none 0 0] 25) := ⟨_, rfl⟩
  obtain ⟨w5, hw5⟩ : ∃ w5, w5 = w1.alloc (.cells #[.int .i64 5, .int .i64 0, .string ⟨#[]⟩, .slice none 0 0, .slice none 0 0] 25) := ⟨_, rfl⟩
  have z1 : w1.heap.size = w.heap.size + 1 := by rw [hw1, World.size_alloc]
  have z5 : w5.heap.size = w.heap.size + 1 + 1 := by rw [hw5, World.size_alloc, z1]
  have hpw := HP.out.1.lt
  obtain ⟨rb, hrb⟩ : ∃ rb, rb = w.heap.size := ⟨_, rfl⟩
  obtain ⟨vb, hvb⟩ : ∃ vb, vb = w.heap.size + 1 := ⟨_, rfl⟩
  have B5 : Hid (Below w.heap.size w w5) := Lib.hid (by rw [hw5, hw1]; exact ((Below.refl _ _).alloc (Nat.le_refl _) _).alloc (by simp) _)
  have KR : Hid (Bk w5 rb 25 #[.int .i64 0, .int .i64 0, .string ⟨#[]⟩, .slice none 0 0, .slice none 0 0]) := Lib.hid (by rw [hrb, hw5, hw1]; exact (Bk.new w _ _).alloc _)
  have KV : Hid (Bk w5 vb 25 #[.int .i64 5, .int .i64 0, .string ⟨#[]⟩, .slice none 0 0, .slice none 0 0]) := Lib.hid (by rw [hvb, ← z1, hw5]; exact Bk.new w1 _ _)
  have P5 : Hid (Rn w5 p s i n) := Lib.hid (HP.out.frs (FrS.of_below (S := fun _ => False) B5.out) (fun h => h))
  have LW : Hid (p < w5.heap.size ∧ vb < w5.heap.size ∧ p ≠ vb ∧ rb < w5.heap.size ∧ rb ≠ p ∧ rb ≠ vb ∧ w.heap.size ≤ rb ∧ w.heap.size ≤ vb ∧ w.heap.size ≤ w5.heap.size) := Lib.hid ⟨by omega, by omega, by omega, by omega, by omega, by omega, by omega, by omega, by omega⟩
  rw [← hw1, ← hw5, ← hvb, ← hrb]
  clear hw1 hw5 z1 z5 hpw hrb hvb
  have L5 : Hid (ObS w5 p vb [] [] w5) := Lib.hid ⟨FrS.refl _ _, rfl, none, 0, none, 0, KV.out, ⟨by decide, by decide, by decide, by decide⟩, by rw [LiesL]; trivial, LiesS.none_⟩
  have c1 := P5.out.1.cell 1
  have f1 := P5.out.1.frozen 1
  have P6 := Lib.hid (P5.out.to (i + 1) hi)
  have L6 := Lib.hid (L5.out.move LW.out.1 LW.out.2.2.1 (FrS.one w5 p 1 (.int .i64 ((i + 1 : Nat) : Int))))
  have e1 : ((i + 1 : Nat) : Int) = (i : Int) + 1 := by omega
  rw [e1] at P6 L6
  clear e1
  go_wp2_with fail
  generalize w5.setCell ⟨p, 1, none⟩ (.int .i64 ((i : Int) + 1)) = w6 at *
  clear c1 f1
  refine (rblank_run P6.out).mono ?_
  rintro _ w7 ⟨rfl, hr7, hf7⟩
  have P7 := Lib.hid hr7
  have L7 := Lib.hid (L6.out.move LW.out.1 LW.out.2.2.1 hf7)
  clear hr7 hf7
  go_wp2_with fail
  refine (rpeek_run P7.out).mono ?_
  rintro _ w8 (⟨c, hc, rfl, hd⟩ | ⟨hn, rfl, hb, hf⟩)
  · have HC := Lib.hid hc
    have P8 := Lib.hid (P7.out.dr hd)
    have L8 := Lib.hid (L7.out.move LW.out.1 LW.out.2.2.1 hd.frs)
    have hq2 := at_lt hc
    have hlc : c.toNat < 256 := c.toNat_lt
    clear hd hc
    by_cases h93 : c.toNat = 125
    · have hc93 : c = 125 := UInt8.toNat_inj.1 h93
      have t93 : ((c.toNat : Int) == 125) = true := by rw [h93]; rfl
      have HRX : Hid (R = .ok ([], [], n) (skip s.data.toList (i + 1) + 1)) := Lib.hid (HR0.out.trans (elems_none HC.out hc93))
      have c1 := P8.out.1.cell 1
      have f1 := P8.out.1.frozen 1
      have P9 := Lib.hid (P8.out.to (skip s.data.toList (i + 1) + 1) hq2)
      have L9 := Lib.hid (L8.out.move LW.out.1 LW.out.2.2.1 (FrS.one w8 p 1 (.int .i64 ((skip s.data.toList (i + 1) + 1 : Nat) : Int))))
      generalize skip s.data.toList (i + 1) = q at *
      have e1 : ((q + 1 : Nat) : Int) = (q : Int) + 1 := by omega
      rw [e1] at P9 L9
      clear e1 h93 hc93
      go_upto_region 6 with (fail)
      generalize w8.setCell ⟨p, 1, none⟩ (.int .i64 ((q : Int) + 1)) = w9 at *
      clear c1 f1
      obtain ⟨A9, c9, B9, d9, q1, q2, q3, q4⟩ := L9.out.row
      have Q1 := Lib.hid q1
      have F9 := Lib.hid L9.out.fr
      clear q1
      have RBx1 := Lib.hid (F9.out.bk KR.out (fun h => by
        rcases h with h | h
        · exact LW.out.2.2.2.2.1 h
        · exact LW.out.2.2.2.2.2.1 h))
      have v0 := Q1.out.cell 0
      have v1 := Q1.out.cell 1
      have v2 := Q1.out.cell 2
      have v3 := Q1.out.cell 3
      have v4 := Q1.out.cell 4
      have d0 := RBx1.out.cell 0
      have d1 := RBx1.out.cell 1
      have d2 := RBx1.out.cell 2
      have d3 := RBx1.out.cell 3
      have d4 := RBx1.out.cell 4
      have f0 := RBx1.out.frozen 0
      have f1 := RBx1.out.frozen 1
      have f2 := RBx1.out.frozen 2
      have f3 := RBx1.out.frozen 3
      have f4 := RBx1.out.frozen 4
      go_wp2
      obtain ⟨wz, hwz⟩ : ∃ wz, wz = put5 w9 rb 0 (.int .i64 5) (.int .i64 0) (.string ⟨#[]⟩) (.slice A9 ([] : List VT).length c9) (.slice B9 ([] : List ByteArray).length d9) := ⟨_, rfl⟩
      have QZ : Hid (Bk wz rb 25 #[.int .i64 5, .int .i64 0, .string ⟨#[]⟩, .slice A9 ([] : List VT).length c9, .slice B9 ([] : List ByteArray).length d9]) := Lib.hid (by rw [hwz]; exact put5_bk RBx1.out)
      have GZ : Hid (FrS (One rb) w9 wz) := Lib.hid (by rw [hwz]; exact frs_put5S rfl)
      have FZ : Hid (FrS (One p) w wz) := Lib.hid (by
        rw [hwz]
        exact frs_put5 ((FrS.of_below B5.out).next F9.out (fun i hi h => by
          rcases h with h | h
          · exact h
          · have := LW.out.2.2.2.2.2.2.2.1; omega)) LW.out.2.2.2.2.2.2.1)
      change bodyPost _ _ _ _ _ (put5 w9 rb 0 (.int .i64 5) (.int .i64 0) (.string ⟨#[]⟩) (.slice A9 ([] : List VT).length c9) (.slice B9 ([] : List ByteArray).length d9))
      rw [← hwz]
      refine bodyPost_ret (results_cell_row rfl _ _ rb 25 _ (0, 0) _ rfl QZ.out Tryz.underlying25 rfl (by kernel_rfl)) rfl ?_
      refine ⟨FZ, 5, 0, ⟨#[]⟩, A9, ([] : List VT).length, c9, B9, ([] : List ByteArray).length, d9, rfl, ?_⟩
      have HQ := HRX.out
      have hk : ∀ q : Addr, w5.heap.size ≤ q.block → ∀ W, q.block < W.heap.size → FrS (One rb) W wz → wz.cell? q = W.cell? q := fun q h1 W h2 hG => hG.cell h2 (fun e => by have e2 : q.block = rb := e; have := LW.out.2.2.2.1; omega)
      exact .inl ⟨VT.mk 5 0 ⟨#[]⟩ [] [], n, _, Lib.hid (by rw [HQ]; rfl), Lib.hid (by
        rw [Lies]
        exact ⟨A9, c9, B9, d9, rfl, by decide, by decide, by decide, q2.1, q2.2.1, q3.keep (fun q hq => hk q hq.1 _ hq.2 GZ.out) (fun b hb => ⟨Nat.le_trans LW.out.2.2.2.2.2.2.2.2 hb.1, Nat.lt_of_lt_of_le hb.2 GZ.out.size⟩), q2.2.2.1, q2.2.2.2, q4.keep (fun q hq => hk q hq.1 _ hq.2 GZ.out) (fun b hb => ⟨Nat.le_trans LW.out.2.2.2.2.2.2.2.2 hb.1, Nat.lt_of_lt_of_le hb.2 GZ.out.size⟩)⟩), Lib.hid (P9.out.frs GZ.out (fun e => LW.out.2.2.2.2.1 e.symm))⟩
    · have t93 : ((c.toNat : Int) == 125) = false := by rw [beq_eq_false_iff_ne]; omega
      have hc93 : c ≠ 125 := fun e => h93 (by rw [e]; rfl)
      have HR1 := Lib.hid (HR0.out.trans (elems_some (el := elM s.data.toList (valP s.data.toList k)) (st := ([], [], n)) HC.out hc93))
      generalize skip s.data.toList (i + 1) = q at *
      have HJ : Hid (q ≤ s.size) := Lib.hid P8.out.2.1
      clear h93 hc93 HR0
      go_wp2_with fail
      go_loopg [] (s.size + 1) (fun gh wr => ∃ (ks : List ByteArray) (its : List VT) (nn j : Nat), Hid (ObS w5 p vb ks its wr) ∧ Hid (Rn wr p s j nn) ∧ Hid (its.length + gh ≤ s.size + 1) ∧ Hid (s.size + 1 ≤ gh + j ∧ R = moreP (elM s.data.toList (valP s.data.toList k)) 125 s.data.toList gh j (ks, its, nn)))
      case atStart => exact ⟨[], [], n, q, L8, P8, Lib.hid (by simp), Lib.hid ⟨by omega, by rw [HR1.out, list_len]⟩⟩
      case round =>
        obtain ⟨ks, its, nn, j, HS, HN, HM, HG⟩ := hrel
        obtain ⟨f, rfl⟩ : ∃ f, gk = f + 1 := ⟨gk - 1, by have := HG.out.1; have := HN.out.2.1; omega⟩
        obtain ⟨eR, heR⟩ : ∃ eR, eR = elM s.data.toList (valP s.data.toList k) (ks, its, nn) (skip s.data.toList j) := ⟨_, rfl⟩
        have HMO : Hid (eR.Mono (skip s.data.toList j)) := Lib.hid (by rw [heR]; exact elM_mono2 (fun i n => valP_mono s.data.toList k i n) _ _)
        have HG2 : Hid (R = eR.bind fun s2 j => (tkP (fun x => x == 44 || x == 125) s.data.toList (skip s.data.toList j)).bind fun c j2 => if c = 44 then moreP (elM s.data.toList (valP s.data.toList k)) 125 s.data.toList f j2 s2 else .ok s2 j2) := Lib.hid (by rw [HG.out.2, moreP_succ, heR])
        have HEL : Hid (eR = (keyP s.data.toList ks j).bind fun key j2 => (tkP (fun x => x == 58) s.data.toList (skip s.data.toList j2)).bind fun _ j3 => (valP s.data.toList k j3 nn).bind fun x j4 => .ok (insAt (posOf ks key) key ks, insAt (posOf ks key) x.1 its, x.2) j4) := Lib.hid (by rw [heR, elM_key])
        have HGJ : Hid (s.size + 1 ≤ f + 1 + j) := Lib.hid HG.out.1
        have HSK := Lib.hid (skip_ge s.data.toList j)
        clear HG heR
        obtain ⟨A0, c0, B0, d0, r1, r2, r3, r4⟩ := HS.out.row
        have v0 := r1.cell 0
        have v1 := r1.cell 1
        have v2 := r1.cell 2
        have v3 := r1.cell 3
        have v4 := r1.cell 4
        have c4 := HN.out.1.cell 4
        have HR2 := Lib.hid r2
        have HK := Lib.hid (key_any (New w5 wr) 5 0 ⟨#[]⟩ A0 its.length c0 B0 d0 ks HN.out r4 (fun h => by have := h.1; have := LW.out.1; omega) r2.2.2.1 r2.2.2.2)
        clear r1 r2 r3 r4
        go_wp2_with fail
        refine (HK.out).mono ?_
        rintro _ w9 ⟨hf9, tk, rfl, hkr⟩
        clear HK v0 v1 v2 v3 v4 c4
        have S9 := Lib.hid (HS.out.move LW.out.1 LW.out.2.2.1 hf9.out)
        rcases hkr with ⟨j2, hk2, hr9⟩ | ⟨j2, q2, hk2, hb9⟩
        · have HEL2 : Hid (eR = (tkP (fun x => x == 58) s.data.toList (skip s.data.toList j2)).bind fun _ j3 => (valP s.data.toList k j3 nn).bind fun x j4 => .ok (insAt (posOf ks tk) tk ks, insAt (posOf ks tk) x.1 its, x.2) j4) := Lib.hid (by rw [HEL.out, hk2.out]; rfl)
          have HKN : Hid ((∀ q ∈ ks, q ≠ tk) ∧ tk.size ≤ 9223372036854775807) := Lib.hid (key_new hk2.out)
          clear hk2 hf9
          go_wp2_with fail
          refine (rblank_run hr9.out).mono ?_
          rintro _ w10 ⟨rfl, hr10, hf10⟩
          have P10 := Lib.hid hr10
          have S10 := Lib.hid (S9.out.move LW.out.1 LW.out.2.2.1 hf10)
          have HQ2 := Lib.hid hr10.2.1
          generalize skip s.data.toList j2 = q2 at *
          clear hr10 hf10 hr9
          go_wp2_with fail
          refine (rpeek_run P10.out).mono ?_
          rintro _ w11 (⟨x, hx, rfl, hd⟩ | ⟨hn, rfl, hb, hf⟩)
          · have HX := Lib.hid hx
            have P11 := Lib.hid (P10.out.dr hd)
            have S11 := Lib.hid (S10.out.move LW.out.1 LW.out.2.2.1 hd.frs)
            have hq3 := at_lt hx
            have hlx : x.toNat < 256 := x.toNat_lt
            clear hd hx
            have c1 := P11.out.1.cell 1
            have f1 := P11.out.1.frozen 1
            by_cases h58 : x.toNat = 58
            · have t58 : ((x.toNat : Int) == 58) = true := by rw [h58]; rfl
              have t58n : ((x.toNat : Int) != 58) = false := by rw [h58]; rfl
              have HEL3 : Hid (eR = (valP s.data.toList k (q2 + 1) nn).bind fun x j4 => .ok (insAt (posOf ks tk) tk ks, insAt (posOf ks tk) x.1 its, x.2) j4) := Lib.hid (by
                rw [HEL2.out, tkP_ok HX.out (by rw [show x = 58 from UInt8.toNat_inj.1 h58]; rfl)]; rfl)
              have P12 := Lib.hid (P11.out.to (q2 + 1) hq3)
              have S12 := Lib.hid (S11.out.move LW.out.1 LW.out.2.2.1 (FrS.one w11 p 1 (.int .i64 ((q2 + 1 : Nat) : Int))))
              have e1 : ((q2 + 1 : Nat) : Int) = (q2 : Int) + 1 := by omega
              rw [e1] at P12 S12
              clear e1 h58
              go_wp2_with fail
              generalize w11.setCell ⟨p, 1, none⟩ (.int .i64 ((q2 : Int) + 1)) = w12 at *
              clear c1 f1
              refine (HV.out w12 p s (q2 + 1) nn (d + 1) HD.out (by omega) P12.out).mono ?_
              rintro _ w13 ⟨hf13, k13, i13, t13, A13, m13, c13, B13, n13, d13, rfl, hres⟩
              have S13 := Lib.hid (S12.out.move LW.out.1 LW.out.2.2.1 hf13.out)
              have HRES := Lib.hid hres
              have F13 := Lib.hid hf13.out
              clear hres hf13
              go_upto_region 15 with (fail)
              obtain ⟨w14, hw14⟩ : ∃ w14, w14 = w13.alloc (.cells #[.int .i64 k13, .int .i64 i13, .string t13, .slice A13 m13 c13, .slice B13 n13 d13] 25) := ⟨_, rfl⟩
              have FA : Hid (FrS (fun _ => False) w13 w14) := Lib.hid (by rw [hw14]; exact FrS.of_below ((Below.refl _ _).alloc (Nat.le_refl _) _))
              have X14 : Hid (Bk w14 w13.heap.size 25 #[.int .i64 k13, .int .i64 i13, .string t13, .slice A13 m13 c13, .slice B13 n13 d13]) := Lib.hid (by rw [hw14]; exact Bk.new _ _ _)
              have S14 := Lib.hid (S13.out.move LW.out.1 LW.out.2.2.1 ⟨FA.out.os, FA.out.tape, FA.out.output, FA.out.size, fun b h1 _ => FA.out.block b h1 (fun h => h)⟩)
              rw [← hw14]
              clear hw14
              rcases HRES.out with ⟨y, n14, j14, hr14, hl14, hp14⟩ | ⟨j14, q14, hr14, hb14⟩
              · have P14 := Lib.hid (hp14.out.frs FA.out (fun h => h))
                have HE14 : Hid (eR = .ok (insAt (posOf ks tk) tk ks, insAt (posOf ks tk) y its, n14) j14) := Lib.hid (by rw [HEL3.out, hr14.out]; rfl)
                have LY : Hid (Lies w14 (New w5 w14) y (.agg #[.int .i64 k13, .int .i64 i13, .string t13, .slice A13 m13 c13, .slice B13 n13 d13])) := Lib.hid (hl14.out.keep (fun q hq => FA.out.cell hq.2 (fun h => h)) (fun b hb => ⟨by have := hb.1; have := S12.out.fr.size; omega, Nat.lt_of_lt_of_le hb.2 FA.out.size⟩))
                obtain ⟨A0, c0, B0, d0, r1, r2, r3, r4⟩ := S14.out.row
                have HPUT := Lib.hid (put_any 5 0 ⟨#[]⟩ its ks A0 c0 B0 d0 tk y k13 i13 t13 A13 m13 c13 B13 n13 d13 w14 (New w5 w14) (fun b hb => hb.2) r3 r4 S14.out.len r2.1 r2.2.1 r2.2.2.1 r2.2.2.2 (by have := HM.out; have := S14.out.len; omega) HKN.out.2 LY.out HKN.out.1)
                have v0 := r1.cell 0
                have v1 := r1.cell 1
                have v2 := r1.cell 2
                have v3 := r1.cell 3
                have v4 := r1.cell 4
                have x0 := X14.out.cell 0
                have x1 := X14.out.cell 1
                have x2 := X14.out.cell 2
                have x3 := X14.out.cell 3
                have x4 := X14.out.cell 4
                have c4 := P14.out.1.cell 4
                have RB1 := Lib.hid r1
                clear r1 r2 r3 r4 hr14 hl14 hp14
                go_wp2_with fail
                refine (HPUT.out).mono ?_
                rintro _ w15 ⟨v15, rfl, hl15, hb15⟩
                clear HPUT v0 v1 v2 v3 v4 x0 x1 x2 x3 x4 c4
                obtain ⟨A15, c15, B15, d15, hv15⟩ : ∃ A c A' c', v15 = .agg #[.int .i64 5, .int .i64 0, .string ⟨#[]⟩, .slice A (insAt (posOf ks tk) y its).length c, .slice A' (insAt (posOf ks tk) tk ks).length c'] := by
                  have := hl15
                  rw [Lies] at this
                  obtain ⟨A, c, A', c', e, _⟩ := this
                  exact ⟨A, c, A', c', e⟩
                subst hv15
                have HL15 := Lib.hid hl15
                have HB15 := Lib.hid hb15
                have R15 := Lib.hid (RB1.out.below hb15 RB1.out.lt)
                clear hl15 hb15
                generalize (insAt (posOf ks tk) y its).length = n15 at *
                generalize (insAt (posOf ks tk) tk ks).length = m15 at *
                go_upto_region 18 with (fail)
                obtain ⟨w16, hw16⟩ : ∃ w16, w16 = w15.alloc (.cells #[.int .i64 5, .int .i64 0, .string ⟨#[]⟩, .slice A15 n15 c15, .slice B15 m15 d15] 25) := ⟨_, rfl⟩
                have HB16 : Hid (Below w15.heap.size w15 w16) := Lib.hid (by rw [hw16]; exact (Below.refl _ _).alloc (Nat.le_refl _) _)
                have X16 : Hid (Bk w16 w15.heap.size 25 #[.int .i64 5, .int .i64 0, .string ⟨#[]⟩, .slice A15 n15 c15, .slice B15 m15 d15]) := Lib.hid (by rw [hw16]; exact Bk.new _ _ _)
                have R16 := Lib.hid (R15.out.below HB16.out R15.out.lt)
                rw [← hw16]
                clear hw16
                have x0 := X16.out.cell 0
                have x1 := X16.out.cell 1
                have x2 := X16.out.cell 2
                have x3 := X16.out.cell 3
                have x4 := X16.out.cell 4
                have f0 := R16.out.frozen 0
                have f1 := R16.out.frozen 1
                have f2 := R16.out.frozen 2
                have f3 := R16.out.frozen 3
                have f4 := R16.out.frozen 4
                have g0 := R16.out.cell 0
                have g1 := R16.out.cell 1
                have g2 := R16.out.cell 2
                have g3 := R16.out.cell 3
                have g4 := R16.out.cell 4
                go_wp2_with fail
                obtain ⟨w17, hw17⟩ : ∃ w17, w17 = put5 w16 vb 0 (.int .i64 5) (.int .i64 0) (.string ⟨#[]⟩) (.slice A15 n15 c15) (.slice B15 m15 d15) := ⟨_, rfl⟩
                have S17 := Lib.hid (ob_put S14.out LW.out.2.1 HB15.out HB16.out HL15.out hw17)
                have P17 : Hid (Rn w17 p s j14 n14) := Lib.hid (((P14.out.frs (FrS.of_below (S := fun _ => False) HB15.out) (fun h => h)).frs (FrS.of_below (S := fun _ => False) HB16.out) (fun h => h)).frs (S := One vb) (by rw [hw17]; exact frs_put5S rfl) (fun e => LW.out.2.2.1 e))
                change Calls _ _ _ (put5 w16 vb 0 (.int .i64 5) (.int .i64 0) (.string ⟨#[]⟩) (.slice A15 n15 c15) (.slice B15 m15 d15)) _
                rw [← hw17]
                clear hw17 x0 x1 x2 x3 x4 f0 f1 f2 f3 f4 g0 g1 g2 g3 g4
                have HLN : Hid ((insAt (posOf ks tk) y its).length = its.length + 1) := Lib.hid (insAt_len _ _ _ (by have := posOf_le ks tk; have := S14.out.len; omega))
                have HJM := Lib.hid (HMO.out _ _ HE14.out)
                have HGR : Hid (R = (tkP (fun x => x == 44 || x == 125) s.data.toList (skip s.data.toList j14)).bind fun c j2 => if c = 44 then moreP (elM s.data.toList (valP s.data.toList k)) 125 s.data.toList f j2 (insAt (posOf ks tk) tk ks, insAt (posOf ks tk) y its, n14) else .ok (insAt (posOf ks tk) tk ks, insAt (posOf ks tk) y its, n14) j2) := Lib.hid (by rw [HG2.out, HE14.out]; rfl)
                clear HL15 HE14 HEL HEL2 HEL3
                generalize insAt (posOf ks tk) y its = its2 at *
                generalize insAt (posOf ks tk) tk ks = ks2 at *
                have ML := Lib.hid (more_any 125 P17.out (by decide))
                refine (ML.out).mono ?_
                rintro e w18 ⟨hf18, ⟨c7, j7, ht7, rfl, hr7⟩ | ⟨j7, q7, ht7, rfl, hb7⟩⟩
                · have HL7 := Lib.hid (S17.out.move LW.out.1 LW.out.2.2.1 hf18)
                  have HR7 := Lib.hid hr7
                  have HJ7 := Lib.hid (tkP_in ht7.out).2.1
                  have HS7 := Lib.hid (skip_ge s.data.toList j14)
                  have HT7 : Hid (R = if c7 = 44 then moreP (elM s.data.toList (valP s.data.toList k)) 125 s.data.toList f j7 (ks2, its2, n14) else .ok (ks2, its2, n14) j7) := Lib.hid (by rw [HGR.out, ht7.out]; rfl)
                  clear hf18 hr7 ML
                  by_cases h44 : c7 = 44
                  · have t44 : decide (c7 = 44) = true := decide_eq_true h44
                    have HT8 := Lib.hid (HT7.out.trans (if_pos h44))
                    clear h44
                    go_wp2_with fail
                    go_roundg f
                    case measure => omega
                    case rel => exact ⟨ks2, its2, n14, j7, HL7, HR7, Lib.hid (by have := HM.out; have := HLN.out; omega), Lib.hid ⟨by have := HGJ.out; have := HJ7.out; have := HJM.out; have := HS7.out; have := HSK.out; omega, HT8.out⟩⟩
                  · have t44 : decide (c7 = 44) = false := decide_eq_false h44
                    have HT8 := Lib.hid (HT7.out.trans (if_neg h44))
                    clear h44
                    obtain ⟨A9, c9, B9, d9, q1, q2, q3, q4⟩ := HL7.out.row
                    have Q1 := Lib.hid q1
                    have F9 := Lib.hid HL7.out.fr
                    clear q1
                    have RBx2 := Lib.hid (F9.out.bk KR.out (fun h => by
                      rcases h with h | h
                      · exact LW.out.2.2.2.2.1 h
                      · exact LW.out.2.2.2.2.2.1 h))
                    have v0 := Q1.out.cell 0
                    have v1 := Q1.out.cell 1
                    have v2 := Q1.out.cell 2
                    have v3 := Q1.out.cell 3
                    have v4 := Q1.out.cell 4
                    have d0 := RBx2.out.cell 0
                    have d1 := RBx2.out.cell 1
                    have d2 := RBx2.out.cell 2
                    have d3 := RBx2.out.cell 3
                    have d4 := RBx2.out.cell 4
                    have f0 := RBx2.out.frozen 0
                    have f1 := RBx2.out.frozen 1
                    have f2 := RBx2.out.frozen 2
                    have f3 := RBx2.out.frozen 3
                    have f4 := RBx2.out.frozen 4
                    go_wp2
                    obtain ⟨wz, hwz⟩ : ∃ wz, wz = put5 w18 rb 0 (.int .i64 5) (.int .i64 0) (.string ⟨#[]⟩) (.slice A9 (its2 : List VT).length c9) (.slice B9 (ks2 : List ByteArray).length d9) := ⟨_, rfl⟩
                    have QZ : Hid (Bk wz rb 25 #[.int .i64 5, .int .i64 0, .string ⟨#[]⟩, .slice A9 (its2 : List VT).length c9, .slice B9 (ks2 : List ByteArray).length d9]) := Lib.hid (by rw [hwz]; exact put5_bk RBx2.out)
                    have GZ : Hid (FrS (One rb) w18 wz) := Lib.hid (by rw [hwz]; exact frs_put5S rfl)
                    have FZ : Hid (FrS (One p) w wz) := Lib.hid (by
                      rw [hwz]
                      exact frs_put5 ((FrS.of_below B5.out).next F9.out (fun i hi h => by
                        rcases h with h | h
                        · exact h
                        · have := LW.out.2.2.2.2.2.2.2.1; omega)) LW.out.2.2.2.2.2.2.1)
                    change bodyPost _ _ _ _ _ (put5 w18 rb 0 (.int .i64 5) (.int .i64 0) (.string ⟨#[]⟩) (.slice A9 (its2 : List VT).length c9) (.slice B9 (ks2 : List ByteArray).length d9))
                    rw [← hwz]
                    refine bodyPost_ret (results_cell_row rfl _ _ rb 25 _ (0, 0) _ rfl QZ.out Tryz.underlying25 rfl (by kernel_rfl)) rfl ?_
                    refine ⟨FZ, 5, 0, ⟨#[]⟩, A9, (its2 : List VT).length, c9, B9, (ks2 : List ByteArray).length, d9, rfl, ?_⟩
                    have HQ := HT8.out
                    have hk : ∀ q : Addr, w5.heap.size ≤ q.block → ∀ W, q.block < W.heap.size → FrS (One rb) W wz → wz.cell? q = W.cell? q := fun q h1 W h2 hG => hG.cell h2 (fun e => by have e2 : q.block = rb := e; have := LW.out.2.2.2.1; omega)
                    exact .inl ⟨VT.mk 5 0 ⟨#[]⟩ its2 ks2, n14, j7, Lib.hid (by rw [HQ]; rfl), Lib.hid (by
                      rw [Lies]
                      exact ⟨A9, c9, B9, d9, rfl, by decide, by decide, by decide, q2.1, q2.2.1, q3.keep (fun q hq => hk q hq.1 _ hq.2 GZ.out) (fun b hb => ⟨Nat.le_trans LW.out.2.2.2.2.2.2.2.2 hb.1, Nat.lt_of_lt_of_le hb.2 GZ.out.size⟩), q2.2.2.1, q2.2.2.2, q4.keep (fun q hq => hk q hq.1 _ hq.2 GZ.out) (fun b hb => ⟨Nat.le_trans LW.out.2.2.2.2.2.2.2.2 hb.1, Nat.lt_of_lt_of_le hb.2 GZ.out.size⟩)⟩), Lib.hid (HR7.out.frs GZ.out (fun e => LW.out.2.2.2.2.1 e.symm))⟩
                · have HB7 := Lib.hid hb7
                  have HE7 : Hid (R = .err j7 q7) := Lib.hid (by rw [HGR.out, ht7.out]; rfl)
                  have HL7 := Lib.hid (S17.out.move LW.out.1 LW.out.2.2.1 hf18)
                  clear hf18 hb7 ML
                  obtain ⟨A9, c9, B9, d9, q1, q2, q3, q4⟩ := HL7.out.row
                  have Q1 := Lib.hid q1
                  have F9 := Lib.hid HL7.out.fr
                  clear q1
                  have RBx3 := Lib.hid (F9.out.bk KR.out (fun h => by
                    rcases h with h | h
                    · exact LW.out.2.2.2.2.1 h
                    · exact LW.out.2.2.2.2.2.1 h))
                  have v0 := Q1.out.cell 0
                  have v1 := Q1.out.cell 1
                  have v2 := Q1.out.cell 2
                  have v3 := Q1.out.cell 3
                  have v4 := Q1.out.cell 4
                  have d0 := RBx3.out.cell 0
                  have d1 := RBx3.out.cell 1
                  have d2 := RBx3.out.cell 2
                  have d3 := RBx3.out.cell 3
                  have d4 := RBx3.out.cell 4
                  have f0 := RBx3.out.frozen 0
                  have f1 := RBx3.out.frozen 1
                  have f2 := RBx3.out.frozen 2
                  have f3 := RBx3.out.frozen 3
                  have f4 := RBx3.out.frozen 4
                  go_wp2
                  obtain ⟨wz, hwz⟩ : ∃ wz, wz = put5 w18 rb 0 (.int .i64 5) (.int .i64 0) (.string ⟨#[]⟩) (.slice A9 (its2 : List VT).length c9) (.slice B9 (ks2 : List ByteArray).length d9) := ⟨_, rfl⟩
                  have QZ : Hid (Bk wz rb 25 #[.int .i64 5, .int .i64 0, .string ⟨#[]⟩, .slice A9 (its2 : List VT).length c9, .slice B9 (ks2 : List ByteArray).length d9]) := Lib.hid (by rw [hwz]; exact put5_bk RBx3.out)
                  have GZ : Hid (FrS (One rb) w18 wz) := Lib.hid (by rw [hwz]; exact frs_put5S rfl)
                  have FZ : Hid (FrS (One p) w wz) := Lib.hid (by
                    rw [hwz]
                    exact frs_put5 ((FrS.of_below B5.out).next F9.out (fun i hi h => by
                      rcases h with h | h
                      · exact h
                      · have := LW.out.2.2.2.2.2.2.2.1; omega)) LW.out.2.2.2.2.2.2.1)
                  change bodyPost _ _ _ _ _ (put5 w18 rb 0 (.int .i64 5) (.int .i64 0) (.string ⟨#[]⟩) (.slice A9 (its2 : List VT).length c9) (.slice B9 (ks2 : List ByteArray).length d9))
                  rw [← hwz]
                  refine bodyPost_ret (results_cell_row rfl _ _ rb 25 _ (0, 0) _ rfl QZ.out Tryz.underlying25 rfl (by kernel_rfl)) rfl ?_
                  refine ⟨FZ, 5, 0, ⟨#[]⟩, A9, (its2 : List VT).length, c9, B9, (ks2 : List ByteArray).length, d9, rfl, ?_⟩
                  have HQ := HE7.out
                  exact .inr ⟨_, _, Lib.hid (by rw [HQ]; rfl), Lib.hid (HB7.out.frs GZ.out (fun e => LW.out.2.2.2.2.1 e.symm))⟩
              · have B14 := Lib.hid (hb14.out.frs FA.out (fun h => h))
                have HE8 : Hid (R = .err j14 q14) := Lib.hid (by rw [HG2.out, HEL3.out, hr14.out]; rfl)
                obtain ⟨i9, n9, hb9, hq9, _, _⟩ := B14.out
                have s4 := hb9.cell 4
                have s9 : (q14 == 0) = false := beq_eq_false_iff_ne.2 hq9
                have s9n : (q14 != 0) = true := bne_iff_ne.2 hq9
                clear hr14 hb14 hb9 hq9
                obtain ⟨A9, c9, B9, d9, q1, q2, q3, q4⟩ := S14.out.row
                have Q1 := Lib.hid q1
                have F9 := Lib.hid S14.out.fr
                clear q1
                have RBx4 := Lib.hid (F9.out.bk KR.out (fun h => by
                  rcases h with h | h
                  · exact LW.out.2.2.2.2.1 h
                  · exact LW.out.2.2.2.2.2.1 h))
                have v0 := Q1.out.cell 0
                have v1 := Q1.out.cell 1
                have v2 := Q1.out.cell 2
                have v3 := Q1.out.cell 3
                have v4 := Q1.out.cell 4
                have d0 := RBx4.out.cell 0
                have d1 := RBx4.out.cell 1
                have d2 := RBx4.out.cell 2
                have d3 := RBx4.out.cell 3
                have d4 := RBx4.out.cell 4
                have f0 := RBx4.out.frozen 0
                have f1 := RBx4.out.frozen 1
                have f2 := RBx4.out.frozen 2
                have f3 := RBx4.out.frozen 3
                have f4 := RBx4.out.frozen 4
                go_wp2
                obtain ⟨wz, hwz⟩ : ∃ wz, wz = put5 w14 rb 0 (.int .i64 5) (.int .i64 0) (.string ⟨#[]⟩) (.slice A9 (its : List VT).length c9) (.slice B9 (ks : List ByteArray).length d9) := ⟨_, rfl⟩
                have QZ : Hid (Bk wz rb 25 #[.int .i64 5, .int .i64 0, .string ⟨#[]⟩, .slice A9 (its : List VT).length c9, .slice B9 (ks : List ByteArray).length d9]) := Lib.hid (by rw [hwz]; exact put5_bk RBx4.out)
                have GZ : Hid (FrS (One rb) w14 wz) := Lib.hid (by rw [hwz]; exact frs_put5S rfl)
                have FZ : Hid (FrS (One p) w wz) := Lib.hid (by
                  rw [hwz]
                  exact frs_put5 ((FrS.of_below B5.out).next F9.out (fun i hi h => by
                    rcases h with h | h
                    · exact h
                    · have := LW.out.2.2.2.2.2.2.2.1; omega)) LW.out.2.2.2.2.2.2.1)
                change bodyPost _ _ _ _ _ (put5 w14 rb 0 (.int .i64 5) (.int .i64 0) (.string ⟨#[]⟩) (.slice A9 (its : List VT).length c9) (.slice B9 (ks : List ByteArray).length d9))
                rw [← hwz]
                refine bodyPost_ret (results_cell_row rfl _ _ rb 25 _ (0, 0) _ rfl QZ.out Tryz.underlying25 rfl (by kernel_rfl)) rfl ?_
                refine ⟨FZ, 5, 0, ⟨#[]⟩, A9, (its : List VT).length, c9, B9, (ks : List ByteArray).length, d9, rfl, ?_⟩
                have HQ := HE8.out
                exact .inr ⟨_, _, Lib.hid (by rw [HQ]; rfl), Lib.hid (B14.out.frs GZ.out (fun e => LW.out.2.2.2.2.1 e.symm))⟩
            · have t58 : ((x.toNat : Int) == 58) = false := by rw [beq_eq_false_iff_ne]; omega
              have t58n : ((x.toNat : Int) != 58) = true := by rw [bne_iff_ne]; omega
              have HE8 : Hid (R = .err q2 3) := Lib.hid (by
                rw [HG2.out, HEL2.out, tkP_no HX.out]
                · rfl
                · rw [beq_eq_false_iff_ne]
                  exact fun e => h58 (by rw [e]; rfl))
              clear h58
              go_wp2_with fail
              refine (fail_run P11.out.1 _ 3).mono ?_
              rintro _ w12 ⟨rfl, hbb, hff⟩
              have HB8 : Hid (Bad w12 p s q2 3) := Lib.hid ⟨_, _, hbb, by decide, by omega, by omega⟩
              have S12 := Lib.hid (S11.out.move LW.out.1 LW.out.2.2.1 hff)
              clear hbb hff c1 f1
              obtain ⟨A9, c9, B9, d9, q1, q2, q3, q4⟩ := S12.out.row
              have Q1 := Lib.hid q1
              have F9 := Lib.hid S12.out.fr
              clear q1
              have RBx5 := Lib.hid (F9.out.bk KR.out (fun h => by
                rcases h with h | h
                · exact LW.out.2.2.2.2.1 h
                · exact LW.out.2.2.2.2.2.1 h))
              have v0 := Q1.out.cell 0
              have v1 := Q1.out.cell 1
              have v2 := Q1.out.cell 2
              have v3 := Q1.out.cell 3
              have v4 := Q1.out.cell 4
              have d0 := RBx5.out.cell 0
              have d1 := RBx5.out.cell 1
              have d2 := RBx5.out.cell 2
              have d3 := RBx5.out.cell 3
              have d4 := RBx5.out.cell 4
              have f0 := RBx5.out.frozen 0
              have f1 := RBx5.out.frozen 1
              have f2 := RBx5.out.frozen 2
              have f3 := RBx5.out.frozen 3
              have f4 := RBx5.out.frozen 4
              go_wp2
              obtain ⟨wz, hwz⟩ : ∃ wz, wz = put5 w12 rb 0 (.int .i64 5) (.int .i64 0) (.string ⟨#[]⟩) (.slice A9 (its : List VT).length c9) (.slice B9 (ks : List ByteArray).length d9) := ⟨_, rfl⟩
              have QZ : Hid (Bk wz rb 25 #[.int .i64 5, .int .i64 0, .string ⟨#[]⟩, .slice A9 (its : List VT).length c9, .slice B9 (ks : List ByteArray).length d9]) := Lib.hid (by rw [hwz]; exact put5_bk RBx5.out)
              have GZ : Hid (FrS (One rb) w12 wz) := Lib.hid (by rw [hwz]; exact frs_put5S rfl)
              have FZ : Hid (FrS (One p) w wz) := Lib.hid (by
                rw [hwz]
                exact frs_put5 ((FrS.of_below B5.out).next F9.out (fun i hi h => by
                  rcases h with h | h
                  · exact h
                  · have := LW.out.2.2.2.2.2.2.2.1; omega)) LW.out.2.2.2.2.2.2.1)
              change bodyPost _ _ _ _ _ (put5 w12 rb 0 (.int .i64 5) (.int .i64 0) (.string ⟨#[]⟩) (.slice A9 (its : List VT).length c9) (.slice B9 (ks : List ByteArray).length d9))
              rw [← hwz]
              refine bodyPost_ret (results_cell_row rfl _ _ rb 25 _ (0, 0) _ rfl QZ.out Tryz.underlying25 rfl (by kernel_rfl)) rfl ?_
              refine ⟨FZ, 5, 0, ⟨#[]⟩, A9, (its : List VT).length, c9, B9, (ks : List ByteArray).length, d9, rfl, ?_⟩
              have HQ := HE8.out
              exact .inr ⟨_, _, Lib.hid (by rw [HQ]; rfl), Lib.hid (HB8.out.frs GZ.out (fun e => LW.out.2.2.2.2.1 e.symm))⟩
          · have HB8 := Lib.hid hb
            have S11 := Lib.hid (S10.out.move LW.out.1 LW.out.2.2.1 hf)
            have HE8 : Hid (R = .err q2 4) := Lib.hid (by rw [HG2.out, HEL2.out, tkP_none hn]; rfl)
            have t58n : ((0 : Int) != 58) = true := rfl
            obtain ⟨i9, n9, hb9, _, _, _⟩ := hb
            have c1 := hb9.cell 1
            have HQ := Lib.hid hb9
            clear hb9 hf hn
            go_wp2_with fail
            refine (fail_bad HQ.out (by decide) _ 3).mono ?_
            rintro _ W ⟨rfl, rfl⟩
            obtain ⟨A9, c9, B9, d9, q1, q2, q3, q4⟩ := S11.out.row
            have Q1 := Lib.hid q1
            have F9 := Lib.hid S11.out.fr
            clear q1
            have RBx6 := Lib.hid (F9.out.bk KR.out (fun h => by
              rcases h with h | h
              · exact LW.out.2.2.2.2.1 h
              · exact LW.out.2.2.2.2.2.1 h))
            have v0 := Q1.out.cell 0
            have v1 := Q1.out.cell 1
            have v2 := Q1.out.cell 2
            have v3 := Q1.out.cell 3
            have v4 := Q1.out.cell 4
            have d0 := RBx6.out.cell 0
            have d1 := RBx6.out.cell 1
            have d2 := RBx6.out.cell 2
            have d3 := RBx6.out.cell 3
            have d4 := RBx6.out.cell 4
            have f0 := RBx6.out.frozen 0
            have f1 := RBx6.out.frozen 1
            have f2 := RBx6.out.frozen 2
            have f3 := RBx6.out.frozen 3
            have f4 := RBx6.out.frozen 4
            go_wp2
            obtain ⟨wz, hwz⟩ : ∃ wz, wz = put5 w11 rb 0 (.int .i64 5) (.int .i64 0) (.string ⟨#[]⟩) (.slice A9 (its : List VT).length c9) (.slice B9 (ks : List ByteArray).length d9) := ⟨_, rfl⟩
            have QZ : Hid (Bk wz rb 25 #[.int .i64 5, .int .i64 0, .string ⟨#[]⟩, .slice A9 (its : List VT).length c9, .slice B9 (ks : List ByteArray).length d9]) := Lib.hid (by rw [hwz]; exact put5_bk RBx6.out)
            have GZ : Hid (FrS (One rb) w11 wz) := Lib.hid (by rw [hwz]; exact frs_put5S rfl)
            have FZ : Hid (FrS (One p) w wz) := Lib.hid (by
              rw [hwz]
              exact frs_put5 ((FrS.of_below B5.out).next F9.out (fun i hi h => by
                rcases h with h | h
                · exact h
                · have := LW.out.2.2.2.2.2.2.2.1; omega)) LW.out.2.2.2.2.2.2.1)
            change bodyPost _ _ _ _ _ (put5 w11 rb 0 (.int .i64 5) (.int .i64 0) (.string ⟨#[]⟩) (.slice A9 (its : List VT).length c9) (.slice B9 (ks : List ByteArray).length d9))
            rw [← hwz]
            refine bodyPost_ret (results_cell_row rfl _ _ rb 25 _ (0, 0) _ rfl QZ.out Tryz.underlying25 rfl (by kernel_rfl)) rfl ?_
            refine ⟨FZ, 5, 0, ⟨#[]⟩, A9, (its : List VT).length, c9, B9, (ks : List ByteArray).length, d9, rfl, ?_⟩
            have HQ := HE8.out
            exact .inr ⟨_, _, Lib.hid (by rw [HQ]; rfl), Lib.hid (HB8.out.frs GZ.out (fun e => LW.out.2.2.2.2.1 e.symm))⟩
        · have HB9 := Lib.hid hb9.out
          have HE8 : Hid (R = .err j2 q2) := Lib.hid (by rw [HG2.out, HEL.out, hk2.out]; rfl)
          clear hk2 hf9 hb9
          go_wp2_with fail
          refine (rblank_bad HB9.out).mono ?_
          rintro _ w10 ⟨rfl, hd10⟩
          have HB10 := Lib.hid (HB9.out.dr hd10)
          have S10 := Lib.hid (S9.out.move LW.out.1 LW.out.2.2.1 hd10.frs)
          clear hd10
          go_wp2_with fail
          refine (rpeek_bad HB10.out).mono ?_
          rintro _ w11 ⟨rfl, hd11⟩
          have HB11 := Lib.hid (HB10.out.dr hd11)
          have S11 := Lib.hid (S10.out.move LW.out.1 LW.out.2.2.1 hd11.frs)
          have t58n : ((0 : Int) != 58) = true := rfl
          obtain ⟨i9, n9, hb9, hq9, _, _⟩ := HB11.out
          have c1 := hb9.cell 1
          have HQ := Lib.hid hb9
          have HQ9 := Lib.hid hq9
          clear hb9 hd11 hq9
          go_wp2_with fail
          refine (fail_bad HQ.out HQ9.out _ 3).mono ?_
          rintro _ W ⟨rfl, rfl⟩
          obtain ⟨A9, c9, B9, d9, q1, q2, q3, q4⟩ := S11.out.row
          have Q1 := Lib.hid q1
          have F9 := Lib.hid S11.out.fr
          clear q1
          have RBx7 := Lib.hid (F9.out.bk KR.out (fun h => by
            rcases h with h | h
            · exact LW.out.2.2.2.2.1 h
            · exact LW.out.2.2.2.2.2.1 h))
          have v0 := Q1.out.cell 0
          have v1 := Q1.out.cell 1
          have v2 := Q1.out.cell 2
          have v3 := Q1.out.cell 3
          have v4 := Q1.out.cell 4
          have d0 := RBx7.out.cell 0
          have d1 := RBx7.out.cell 1
          have d2 := RBx7.out.cell 2
          have d3 := RBx7.out.cell 3
          have d4 := RBx7.out.cell 4
          have f0 := RBx7.out.frozen 0
          have f1 := RBx7.out.frozen 1
          have f2 := RBx7.out.frozen 2
          have f3 := RBx7.out.frozen 3
          have f4 := RBx7.out.frozen 4
          go_wp2
          obtain ⟨wz, hwz⟩ : ∃ wz, wz = put5 w11 rb 0 (.int .i64 5) (.int .i64 0) (.string ⟨#[]⟩) (.slice A9 (its : List VT).length c9) (.slice B9 (ks : List ByteArray).length d9) := ⟨_, rfl⟩
          have QZ : Hid (Bk wz rb 25 #[.int .i64 5, .int .i64 0, .string ⟨#[]⟩, .slice A9 (its : List VT).length c9, .slice B9 (ks : List ByteArray).length d9]) := Lib.hid (by rw [hwz]; exact put5_bk RBx7.out)
          have GZ : Hid (FrS (One rb) w11 wz) := Lib.hid (by rw [hwz]; exact frs_put5S rfl)
          have FZ : Hid (FrS (One p) w wz) := Lib.hid (by
            rw [hwz]
            exact frs_put5 ((FrS.of_below B5.out).next F9.out (fun i hi h => by
              rcases h with h | h
              · exact h
              · have := LW.out.2.2.2.2.2.2.2.1; omega)) LW.out.2.2.2.2.2.2.1)
          change bodyPost _ _ _ _ _ (put5 w11 rb 0 (.int .i64 5) (.int .i64 0) (.string ⟨#[]⟩) (.slice A9 (its : List VT).length c9) (.slice B9 (ks : List ByteArray).length d9))
          rw [← hwz]
          refine bodyPost_ret (results_cell_row rfl _ _ rb 25 _ (0, 0) _ rfl QZ.out Tryz.underlying25 rfl (by kernel_rfl)) rfl ?_
          refine ⟨FZ, 5, 0, ⟨#[]⟩, A9, (its : List VT).length, c9, B9, (ks : List ByteArray).length, d9, rfl, ?_⟩
          have HQ := HE8.out
          exact .inr ⟨_, _, Lib.hid (by rw [HQ]; rfl), Lib.hid (HB11.out.frs GZ.out (fun e => LW.out.2.2.2.2.1 e.symm))⟩
  · have HB8 := Lib.hid hb
    have L8 := Lib.hid (L7.out.move LW.out.1 LW.out.2.2.1 hf)
    have HE8 : Hid (R = .err (skip s.data.toList (i + 1)) 4) := Lib.hid (by rw [HR0.out]; unfold elemsP; rw [List.getElem?_eq_none hn])
    obtain ⟨i9, n9, hb9, _, _, _⟩ := hb
    have s4 := hb9.cell 4
    clear hb9 hf hn HR0
    go_wp2_with fail
    go_loopg [] 0 (fun gh wr => gh = 0 ∧ wr = w8)
    case atStart => exact ⟨rfl, rfl⟩
    case round =>
      obtain ⟨rfl, rfl⟩ := hrel
      obtain ⟨A9, c9, B9, d9, q1, q2, q3, q4⟩ := L8.out.row
      have Q1 := Lib.hid q1
      have F9 := Lib.hid L8.out.fr
      clear q1
      have RBx8 := Lib.hid (F9.out.bk KR.out (fun h => by
        rcases h with h | h
        · exact LW.out.2.2.2.2.1 h
        · exact LW.out.2.2.2.2.2.1 h))
      have v0 := Q1.out.cell 0
      have v1 := Q1.out.cell 1
      have v2 := Q1.out.cell 2
      have v3 := Q1.out.cell 3
      have v4 := Q1.out.cell 4
      have d0 := RBx8.out.cell 0
      have d1 := RBx8.out.cell 1
      have d2 := RBx8.out.cell 2
      have d3 := RBx8.out.cell 3
      have d4 := RBx8.out.cell 4
      have f0 := RBx8.out.frozen 0
      have f1 := RBx8.out.frozen 1
      have f2 := RBx8.out.frozen 2
      have f3 := RBx8.out.frozen 3
      have f4 := RBx8.out.frozen 4
      go_wp2
      obtain ⟨wz, hwz⟩ : ∃ wz, wz = put5 wr rb 0 (.int .i64 5) (.int .i64 0) (.string ⟨#[]⟩) (.slice A9 ([] : List VT).length c9) (.slice B9 ([] : List ByteArray).length d9) := ⟨_, rfl⟩
      have QZ : Hid (Bk wz rb 25 #[.int .i64 5, .int .i64 0, .string ⟨#[]⟩, .slice A9 ([] : List VT).length c9, .slice B9 ([] : List ByteArray).length d9]) := Lib.hid (by rw [hwz]; exact put5_bk RBx8.out)
      have GZ : Hid (FrS (One rb) wr wz) := Lib.hid (by rw [hwz]; exact frs_put5S rfl)
      have FZ : Hid (FrS (One p) w wz) := Lib.hid (by
        rw [hwz]
        exact frs_put5 ((FrS.of_below B5.out).next F9.out (fun i hi h => by
          rcases h with h | h
          · exact h
          · have := LW.out.2.2.2.2.2.2.2.1; omega)) LW.out.2.2.2.2.2.2.1)
      change bodyPost _ _ _ _ _ (put5 wr rb 0 (.int .i64 5) (.int .i64 0) (.string ⟨#[]⟩) (.slice A9 ([] : List VT).length c9) (.slice B9 ([] : List ByteArray).length d9))
      rw [← hwz]
      refine bodyPost_ret (results_cell_row rfl _ _ rb 25 _ (0, 0) _ rfl QZ.out Tryz.underlying25 rfl (by kernel_rfl)) rfl ?_
      refine ⟨FZ, 5, 0, ⟨#[]⟩, A9, ([] : List VT).length, c9, B9, ([] : List ByteArray).length, d9, rfl, ?_⟩
      have HQ := HE8.out
      exact .inr ⟨_, _, Lib.hid (by rw [HQ]; rfl), Lib.hid (HB8.out.frs GZ.out (fun e => LW.out.2.2.2.2.1 e.symm))⟩
end Go.Proofs.YtlgmhhimbabkjaaGreatDoor
