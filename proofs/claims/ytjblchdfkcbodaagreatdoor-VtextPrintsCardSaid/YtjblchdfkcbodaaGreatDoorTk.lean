/-
  A map's elements. (Written by gen_th.py.)
-/
import Derived.Test.YtjblchdfkcbodaaGreatDoorTh
import Derived.Test.YtjblchdfkcbodaaGreatDoorTq
namespace Go.Proofs.YtjblchdfkcbodaaGreatDoor
open Go.RowKit

/-- a map that is being read -/
structure MSt (w5 : World) (p vb b2 b3 : Nat) (s : ByteArray) (d : Int) (st : List ByteArray × List VT × Nat) (i : Nat) (w : World) : Prop where
  fr : FrS (Two p vb) w5 w
  ps : Ps w p s i st.2.2
  ev : Ev w p
  bp : Bk w b2 59 #[.pointer (some ⟨p, 0, none⟩)]
  bd : Bk w b3 3 #[.int .i64 d]
  low : Low w5 p vb b2 b3
  srt : rising st.1 = true
  len : st.1.length = st.2.1.length
  ksz : ∀ t ∈ st.1, t.size ≤ 9223372036854775807
  row : ∃ A c A' c' cs, Bk w vb 25 #[.int .i64 5, .int .i64 0, .string ⟨#[]⟩, .slice A st.2.1.length c, .slice A' st.2.1.length c'] ∧
    w.ownsRow w5.heap.size 25 5 (.slice A st.2.1.length c) st.2.1.length cs ∧ w.ownsRow w5.heap.size 9 1 (.slice A' st.2.1.length c') st.2.1.length (st.1.map Value.string) ∧
    LiesC w (Off2 w5.heap.size w (.slice A st.2.1.length c) (.slice A' st.2.1.length c')) st.2.1 cs
/-- its end -/
def MEnd (r : PR (List ByteArray × List VT × Nat)) (w5 : World) (p vb b2 b3 : Nat) (s : ByteArray) (d : Int) (e : Ending) (w' : World) : Prop :=
  (∃ st j, Hid (r = .ok st j) ∧ e = .returned (.tuple #[]) ∧ Hid (MSt w5 p vb b2 b3 s d st j w')) ∨ ∃ j c, Hid (r = .err j c) ∧ e = fault j c ∧ Hid (FrS (Two p vb) w5 w')
section
variable {w5 w w' : World} {p vb b2 b3 : Nat} {s : ByteArray} {d : Int} {i : Nat} {st : List ByteArray × List VT × Nat}
theorem MSt.move (h : MSt w5 p vb b2 b3 s d st i w) {j : Nat} (hp : Ps w' p s j st.2.2) (hf : FrS (One p) w w') : MSt w5 p vb b2 b3 s d st j w' := by
  obtain ⟨h1, h2, h3, h4, h5, low, q1, q2, q3, A, c, A', c', cs, r1, r2, r3, r4⟩ := h
  refine ⟨h1.trans hf.two, hp, h3.one hf, hf.bk h4 (fun e => low.2.2.2.2.2.1 e), hf.bk h5 (fun e => low.2.2.2.2.2.2.1 e), low, q1, q2, q3, A, c, A', c', cs, hf.bk r1 (fun e => low.2.2.2.2.1 e.symm), own_frs r2 hf (fun b e => by rw [show b = p from e]; exact low.1), own_frs r3 hf (fun b e => by rw [show b = p from e]; exact low.1), ?_⟩
  exact r4.keep (fun q hq => hf.cell hq.2.1 (fun e => by have := hq.1; have e2 : q.block = p := e; have := low.1; omega)) (fun b hb => ⟨hb.1, Nat.lt_of_lt_of_le hb.2.1 hf.size, hb.2.2⟩)
theorem MSt.dr (h : MSt w5 p vb b2 b3 s d st i w) (hd : Dr w w') : MSt w5 p vb b2 b3 s d st i w' := h.move (h.ps.dr hd) hd.frs
theorem pairs_short {k : Nat} (h : MSt w5 p vb b2 b3 s d st (skip s.data.toList i) w) (hd : Dr w w') (he : s.size ≤ skip s.data.toList i) : MEnd (elemsP (elM s.data.toList (valP s.data.toList k)) 125 s.data.toList i st) w5 p vb b2 b3 s d (fault (skip s.data.toList i) 4) w' :=
  .inr ⟨_, _, Lib.hid (by unfold elemsP; rw [List.getElem?_eq_none (by rw [list_len]; exact he)]), rfl, Lib.hid (h.fr.trans hd.frs)⟩
theorem elM_len {l : List UInt8} {val : Nat → Nat → PR (VT × Nat)} {st st2 : List ByteArray × List VT × Nat} {i j : Nat} (h : elM l val st i = .ok st2 j) (hl : st.1.length = st.2.1.length) : st2.2.1.length = st.2.1.length + 1 := by
  unfold elM at h
  cases h1 : tkP (fun x => x == 34) l i with
  | err a c => rw [h1] at h; cases h
  | ok x1 j1 =>
    rw [h1, PR.bind_ok] at h
    cases h2 : litP l j1 with
    | err a c => rw [h2] at h; cases h
    | ok key j2 =>
      rw [h2, PR.bind_ok] at h
      split at h
      · cases h
      · cases h3 : tkP (fun x => x == 58) l (skip l j2) with
        | err a c => rw [h3] at h; cases h
        | ok x3 j3 =>
          rw [h3, PR.bind_ok] at h
          cases h4 : val j3 st.2.2 with
          | err a c => rw [h4] at h; cases h
          | ok x4 j4 =>
            rw [h4, PR.bind_ok] at h
            injection h with h5 _
            rw [← h5]
            have hp : posOf st.1 key ≤ st.2.1.length := by
              rw [← hl]
              exact (List.takeWhile_sublist _).length_le
            exact ins_len hp
theorem elM_mono2 {l : List UInt8} {val : Nat → Nat → PR (VT × Nat)} (hv : ∀ i n, (val i n).Mono i) (s : List ByteArray × List VT × Nat) (i : Nat) : (elM l val s i).Mono i := elM_mono hv s i
end

/-- what an insertion may turn -/
def Ins (vb : Nat) (v v' : Value) : Nat → Prop := fun b => b = vb ∨ v.ownBlock = some b ∨ v'.ownBlock = some b

theorem mst_step {w5 w wB wI : World} {p vb b2 b3 g g3 m n5 j5 pp c c' c2 c3 i : Nat} {n : Nat} {s : ByteArray} {d : Int} {A A' : Option Addr} {ks : List ByteArray} {its : List VT} {x : VT} {key : ByteArray} {cs : List Value} {v0 v1 v2 v3 v4 : Value}
    (h : MSt w5 p vb b2 b3 s d (ks, its, n) i w) (hm : m = its.length) (hk : ks.length = m)
    (q2 : w.ownsRow w5.heap.size 25 5 (.slice A m c) m cs) (q3 : w.ownsRow w5.heap.size 9 1 (.slice A' m c') m (ks.map Value.string)) (q4 : LiesC w (Off2 w5.heap.size w (.slice A m c) (.slice A' m c')) its cs)
    (hfb : FrS (One p) w wB) (hx : Lies wB (New w wB) x (.agg #[v0, v1, v2, v3, v4])) (hp : Ps wB p s j5 n5) (hpos : Pos ks key pp) (hno : isAt ks key pp = false) (hks : key.size ≤ 4096)
    (fw : FrS (Ins vb (.slice A m c) (.slice A' m c')) wB wI) (hvb : Bk wI vb 25 #[.int .i64 5, .int .i64 0, .string ⟨#[]⟩, .slice (some ⟨g3, 0, none⟩) (m + 1) c3, .slice (some ⟨g, 0, none⟩) (m + 1) c2])
    (hg : (Value.slice A' m c').ownBlock = some g ∨ wB.heap.size ≤ g) (hg3 : (Value.slice A m c).ownBlock = some g3 ∨ wB.heap.size ≤ g3)
    (hkr : wI.ownsRow w5.heap.size 9 1 (.slice (some ⟨g, 0, none⟩) (m + 1) c2) (m + 1) ((ks.map Value.string).take (pp * 1) ++ [.string key] ++ (ks.map Value.string).drop (pp * 1)))
    (hir : wI.ownsRow w5.heap.size 25 5 (.slice (some ⟨g3, 0, none⟩) (m + 1) c3) (m + 1) (cs.take (pp * 5) ++ [v0, v1, v2, v3, v4] ++ cs.drop (pp * 5))) :
    MSt w5 p vb b2 b3 s d (insAt (posOf ks key) key ks, insAt (posOf ks key) x its, n5) j5 wI := by
  have low := h.low
  have o2 := q2.lt
  have o3 := q3.lt
  have s1 := h.fr.size
  have s2 := hfb.size
  have s3 := fw.size
  have hpp : pp ≤ ks.length := hpos.1
  rw [posOf_eq hpos]
  have nS : ∀ b, b < w5.heap.size → b ≠ vb → ¬ Ins vb (.slice A m c) (.slice A' m c') b := fun b hb hne h => by
    rcases h with h | h | h
    · exact hne h
    · have := (o2 b h).1; omega
    · have := (o3 b h).1; omega
  have fall : FrS (Two p vb) w5 wI := (h.fr.trans hfb.two).next fw (fun i hi h => by
    rcases h with h | h | h
    · exact .inr h
    · have := (o2 i h).1; omega
    · have := (o3 i h).1; omega)
  have hli : (insAt pp x its).length = m + 1 := by rw [ins_len (by omega)]; omega
  have hlk : (insAt pp key ks).length = m + 1 := by rw [ins_len hpp]; omega
  have e1 : insAt pp x its = its.take pp ++ [x] ++ its.drop pp := by unfold insAt; simp
  have e2 : (insAt pp key ks).map Value.string = (ks.map Value.string).take (pp * 1) ++ [.string key] ++ (ks.map Value.string).drop (pp * 1) := by unfold insAt; simp
  refine ⟨fall, hp.frs fw (nS p low.1 low.2.2.2.2.1), (h.ev.one hfb).frs fw (fun b hb => ?_), (hfb.bk h.bp (fun e => low.2.2.2.2.2.1 e)).trans' fw (nS b2 low.2.2.1 low.2.2.2.2.2.2.2.1), (hfb.bk h.bd (fun e => low.2.2.2.2.2.2.1 e)).trans' fw (nS b3 low.2.2.2.1 low.2.2.2.2.2.2.2.2.1), low, rising_ins h.srt hpos hno, by show (insAt pp key ks).length = (insAt pp x its).length; rw [hlk, hli], fun t ht => ?_, some ⟨g3, 0, none⟩, c3, some ⟨g, 0, none⟩, c2, _, by show Bk wI vb _ #[_, _, _, .slice _ (insAt pp x its).length c3, .slice _ (insAt pp x its).length c2]; rw [hli]; exact hvb, by show wI.ownsRow _ _ 5 (.slice _ (insAt pp x its).length c3) (insAt pp x its).length _; rw [hli]; exact hir, by show wI.ownsRow _ _ 1 (.slice _ (insAt pp x its).length c2) (insAt pp x its).length ((insAt pp key ks).map Value.string); rw [hli, e2]; exact hkr, ?_⟩
  · have l1 := low.2.2.2.2.2.2.2.2.2.2.2.1
    have l2 := low.2.2.2.2.2.2.2.2.2.2.2.2
    rcases hb with h | h | h
    · subst h; exact ⟨low.2.2.2.2.2.2.2.2.2.1, low.2.2.2.2.2.2.2.2.2.2.1⟩
    · have := (o2 b h).1; exact ⟨by omega, by omega⟩
    · have := (o3 b h).1; exact ⟨by omega, by omega⟩
  · have ht2 : t ∈ insAt pp key ks := ht
    unfold insAt at ht2
    rcases List.mem_append.1 ht2 with h1 | h1
    · exact h.ksz t (List.mem_of_mem_take h1)
    · rcases List.mem_cons.1 h1 with h2 | h2
      · subst h2; omega
      · exact h.ksz t (List.mem_of_mem_drop h2)
  · show LiesC wI (Off2 w5.heap.size wI (.slice _ (insAt pp x its).length c3) (.slice _ (insAt pp x its).length c2)) (insAt pp x its) _
    rw [hli, e1]
    refine Lies.insertC (hx.keep (fun b hb => ?_) (fun b hb => ?_)) (q4.keep (fun b hb => ?_) (fun b hb => ?_)) pp (by omega)
    · obtain ⟨b1, b2⟩ := hb
      exact fw.cell b2 (fun h => by
        rcases h with h | h | h
        · have := low.2.1; omega
        · have := (o2 _ h).2; omega
        · have := (o3 _ h).2; omega)
    · obtain ⟨b1, b2⟩ := hb
      refine ⟨by omega, by omega, fun e => ?_, fun e => ?_⟩
      · have e' : g3 = b := by simpa [Value.ownBlock] using e
        rcases hg3 with h | h
        · have := (o2 _ h).2; omega
        · omega
      · have e' : g = b := by simpa [Value.ownBlock] using e
        rcases hg with h | h
        · have := (o3 _ h).2; omega
        · omega
    · obtain ⟨b1, b2, b3, b4⟩ := hb
      exact (fw.cell (Nat.lt_of_lt_of_le b2 s2) (fun h => by
        rcases h with h | h | h
        · have := low.2.1; omega
        · exact b3 h
        · exact b4 h)).trans (hfb.cell b2 (fun h => by have e : b.block = p := h; have := low.1; omega))
    · obtain ⟨b1, b2, b3, b4⟩ := hb
      refine ⟨b1, by omega, fun e => ?_, fun e => ?_⟩
      · have e' : g3 = b := by simpa [Value.ownBlock] using e
        rcases hg3 with h | h
        · exact b3 (by rw [h, e'])
        · omega
      · have e' : g = b := by simpa [Value.ownBlock] using e
        rcases hg with h | h
        · exact b4 (by rw [h, e'])
        · omega

set_option maxRecDepth 100000 in
set_option maxHeartbeats 16000000 in
theorem pairs1_any {w5 w : World} {p vb b2 b3 : Nat} {s : ByteArray} {d : Int} {k i : Nat} {st : List ByteArray × List VT × Nat} (hv : ValC k) (hd : d + 1 + (k : Int) = 17) (hd1 : 0 ≤ d)
    (h : MSt w5 p vb b2 b3 s d st i w) (hl : st.2.1.length ≤ 1000001) :
    Calls Tryz.prog 72 #[.pointer (some ⟨b2, 0, none⟩), .pointer (some ⟨vb, 0, none⟩), .pointer (some ⟨b3, 0, none⟩)] w (MEnd (elM s.data.toList (valP s.data.toList k) st i) w5 p vb b2 b3 s d) := by
  obtain ⟨ks, its, n⟩ := st
  have H := Lib.hid h
  have hdw : IntKind.i64.wrap (d + 1) = d + 1 := by rw [IntKind.wrap_i64]; omega
  have HV := Lib.hid hv
  have HD := Lib.hid hd
  have cp := h.bp.cell 0
  change _ = some (Value.pointer (some ⟨p, 0, none⟩)) at cp
  have c1 := h.ps.1.cell 1
  have HB := h.ps.2.1
  clear h hv hd
  go_enter Tryz.func72, Tryz.ntmps72
  go_wp2_with fail
  refine (take_any H.out.ps (set_one 34)).mono ?_
  rintro _ w1 (⟨x1, j1, hr1, rfl, hp1, hf1⟩ | ⟨j1, e1, hr1, rfl, hf1⟩)
  · have H1 := Lib.hid (H.out.move hp1.out hf1.out)
    have hj1 : 1 ≤ j1 := by have := (tkP_in hr1.out).2.1; omega
    have cp1 := H1.out.bp.cell 0
    change _ = some (Value.pointer (some ⟨p, 0, none⟩)) at cp1
    clear cp c1 hp1 hf1
    go_wp2_with fail
    refine (literal_any H1.out.ps hj1).mono ?_
    rintro _ w2 (⟨key, j2, hr2, rfl, hp2, hf2⟩ | ⟨j2, e2, hr2, rfl, hf2⟩)
    · have H2 := Lib.hid (H1.out.move hp2.out hf2.out)
      obtain ⟨A, c, A', c', cs, q1, q2, q3, q4⟩ := H2.out.row
      simp only at q1 q2 q3 q4 hl
      obtain ⟨m, hm⟩ : ∃ m, m = its.length := ⟨_, rfl⟩
      rw [← hm] at q1 q2 q3 q4 hl
      have HM := Lib.hid hm
      have HK : Hid (ks.length = m) := Lib.hid (by have := H2.out.len; simp only at this; omega)
      have Q1 := Lib.hid q1
      have Q2 := Lib.hid q2
      have Q3 := Lib.hid q3
      have Q4 := Lib.hid q4
      have g4 := Q1.out.cell 4
      change _ = some (Value.slice A' m c') at g4
      have HSR := Lib.hid (search_at (t := key) Q3.out HK.out H2.out.ksz H2.out.srt (by omega))
      clear q1 q2 q3 q4 hm cp1 hp2 hf2
      unfold strV
      go_wp2_with fail
      refine (HSR.out).mono ?_
      rintro _ _ ⟨pp, hpos, rfl, rfl⟩
      have hpl : pp ≤ m := by have := hpos.1; have := HK.out; omega
      have HPOS := Lib.hid hpos
      have HSRT := Lib.hid H2.out.srt
      obtain ⟨fb, hfb⟩ : ∃ fb, fb = isAt ks key pp := ⟨_, rfl⟩
      have HFB0 := Lib.hid hfb
      rw [← hfb]
      have cp2 := H2.out.bp.cell 0
      change _ = some (Value.pointer (some ⟨p, 0, none⟩)) at cp2
      have HANY : Hid ((ks.any fun q => decide (q = key)) = fb) := Lib.hid (by rw [hfb]; exact found_eq HSRT.out HPOS.out)
      clear hpos hfb g4
      go_wp2_with fail
      refine (require_any _ _ i 9 _).mono ?_
      rintro _ _ (⟨hb, rfl, rfl⟩ | ⟨hb, rfl, rfl⟩)
      · obtain rfl : fb = false := by simpa using hb
        clear hb
        go_wp2_with fail
        refine (blanks_any H2.out.ps).mono ?_
        rintro _ w3 ⟨rfl, hp3, hf3⟩
        have H3 := Lib.hid (H2.out.move hp3 hf3)
        have F23 := Lib.hid hf3
        have cp3 := H3.out.bp.cell 0
        change _ = some (Value.pointer (some ⟨p, 0, none⟩)) at cp3
        clear hp3 hf3 cp2
        go_wp2_with fail
        refine (take_any H3.out.ps (set_one 58)).mono ?_
        rintro _ w4 (⟨x4, j4, hr4, rfl, hp4, hf4⟩ | ⟨j4, e4, hr4, rfl, hf4⟩)
        · have H4 := Lib.hid (H3.out.move hp4.out hf4.out)
          have F24 := Lib.hid (F23.out.trans hf4.out)
          have cp4 := H4.out.bp.cell 0
          change _ = some (Value.pointer (some ⟨p, 0, none⟩)) at cp4
          have cd4 := H4.out.bd.cell 0
          change _ = some (Value.int .i64 d) at cd4
          have HVC := Lib.hid (HV.out w4 p s j4 n (d + 1) HD.out (by omega) H4.out.ps H4.out.ev)
          clear cp3 hp4 hf4
          go_wp2_with fail
          refine (HVC.out).mono ?_
          rintro _ wB (⟨k5, i5, t5, A5, m5, c5, A6, m6, c6, x, n5, j5, rfl, hr5, hl5, hp5, hf5⟩ | ⟨j5, e5, hr5, rfl, hf5⟩)
          · have Q14 := Lib.hid (F24.out.bk Q1.out (fun e => H2.out.low.2.2.2.2.1 e.symm))
            have LW := Lib.hid H2.out.low
            have Q24 := Lib.hid (own_frs Q2.out F24.out (fun b e => by rw [show b = p from e]; exact LW.out.1))
            have Q34 := Lib.hid (own_frs Q3.out F24.out (fun b e => by rw [show b = p from e]; exact LW.out.1))
            have RB2 := Lib.hid (own_frs Q24.out hf5.out (fun b e => by rw [show b = p from e]; exact LW.out.1))
            have RB3 := Lib.hid (own_frs Q34.out hf5.out (fun b e => by rw [show b = p from e]; exact LW.out.1))
            have VB := Lib.hid (hf5.out.bk Q14.out (fun e => LW.out.2.2.2.2.1 e.symm))
            have Z4 := Lib.hid H4.out.fr.size
            have ZB := Lib.hid hf5.out.size
            have OL2 := Lib.hid Q24.out.lt
            have OL3 := Lib.hid Q34.out.lt
            clear cp4 cd4
            go_upto_region 8 with fail
            obtain ⟨wC, hwC⟩ : ∃ wC, wC = wB.alloc (.cells #[.int .i64 k5, .int .i64 i5, .string t5, .slice A5 m5 c5, .slice A6 m6 c6] 25) := ⟨_, rfl⟩
            have XC : Hid (Bk wC wB.heap.size 25 #[.int .i64 k5, .int .i64 i5, .string t5, .slice A5 m5 c5, .slice A6 m6 c6]) := Lib.hid (by rw [hwC]; exact Bk.new _ _ _)
            have ZC : Hid (wC.heap.size = wB.heap.size + 1) := Lib.hid (by rw [hwC, World.size_alloc])
            have VC : Hid (Bk wC vb 25 #[.int .i64 5, .int .i64 0, .string ⟨#[]⟩, .slice A m c, .slice A' m c']) := Lib.hid (by rw [hwC]; exact VB.out.alloc _)
            have RC2 : Hid (wC.ownsRow w5.heap.size 25 5 (.slice A m c) m cs) := Lib.hid (by rw [hwC]; exact RB2.out.alloc _)
            have RC3 : Hid (wC.ownsRow w5.heap.size 9 1 (.slice A' m c') m (ks.map Value.string)) := Lib.hid (by rw [hwC]; exact RB3.out.alloc _)
            have FC : Hid (FrS (Ins vb (.slice A m c) (.slice A' m c')) wB wC) := Lib.hid (by rw [hwC]; exact FrS.of_below ((Below.refl _ _).alloc (Nat.le_refl _) _))
            rw [← hwC]
            clear hwC
            have HI := Lib.hid (insS_any (wC.alloc (.cells #[.string key] 9)) w5.heap.size m c' pp wC.heap.size A' (ks.map Value.string) [.string key] rfl hpl (RC3.out.alloc _) (Bk.new wC _ _)
              (fun e => by have := (RC3.out.lt _ e.symm).2; omega) (by have := Z4.out; have := ZB.out; have := ZC.out; simp; omega) (by omega) (fun u hu => by obtain ⟨s, _, rfl⟩ := List.mem_map.1 hu; rfl) (fun u hu => by have := List.mem_singleton.1 hu; subst this; rfl))
            have p4 := VC.out.cell 4
            change _ = some (Value.slice A' m c') at p4
            go_wp2_with fail
            refine (HI.out).mono ?_
            rintro _ wE ⟨g2, c2, rfl, hok, hg2, hat2⟩
            have NK : Hid ((Value.slice A' m c').ownBlock ≠ some vb) := Lib.hid (fun e => by have := (RC3.out.lt vb e).1; have := LW.out.2.1; omega)
            have NI : Hid ((Value.slice A m c).ownBlock ≠ some vb) := Lib.hid (fun e => by have := (RC2.out.lt vb e).1; have := LW.out.2.1; omega)
            have GCE : wC.grownBy wE (Value.slice A' m c').ownBlock := grownBy_trans (World.grownBy_alloc wC _ _) hg2
            have HGCE := Lib.hid GCE
            have VE := Lib.hid (VC.out.grown GCE (Ne.symm NK.out))
            have XE := Lib.hid (XC.out.grown GCE (fun e => by have := (OL3.out _ e.symm).2; have := ZB.out; omega))
            have RE2 := Lib.hid (RC2.out.kept GCE (own_ne RC2.out RC3.out (by decide)))
            have RE3 := Lib.hid hok
            have FE : Hid (FrS (Ins vb (.slice A m c) (.slice A' m c')) wB wE) := Lib.hid (FC.out.trans (FrS.of_row GCE (fun q hq => .inr (.inr hq))))
            have HAT2 : Hid ((Value.slice A' m c').ownBlock = some g2 ∨ wB.heap.size ≤ g2) := Lib.hid (by rcases hat2 with h | h; exact .inl h; exact .inr (by have := ZC.out; simp at h; omega))
            have hg2n : g2 ≠ vb := fun e => by
              rcases HAT2.out with h | h
              · exact NK.out (by rw [h, e])
              · have := VB.out.lt; omega
            have HG2 := Lib.hid hg2n
            have p54 := VE.out.cell 4
            have f54 := VE.out.frozen 4
            clear hok hg2 hat2 GCE hg2n p4
            go_upto_region 9 with fail
            obtain ⟨wF, hwF⟩ : ∃ wF, wF = wE.setCell ⟨vb, 4, none⟩ (.slice (some ⟨g2, 0, none⟩) (m + 1) c2) := ⟨_, rfl⟩
            have TF := turned wE vb 4 (.slice (some ⟨g2, 0, none⟩) (m + 1) c2)
            have VF : Hid (Bk wF vb 25 #[.int .i64 5, .int .i64 0, .string ⟨#[]⟩, .slice A m c, .slice (some ⟨g2, 0, none⟩) (m + 1) c2]) := Lib.hid (by rw [hwF]; exact VE.out.put 4 _)
            have XF : Hid (Bk wF wB.heap.size 25 #[.int .i64 k5, .int .i64 i5, .string t5, .slice A5 m5 c5, .slice A6 m6 c6]) := Lib.hid (by rw [hwF]; exact XE.out.far (p := ⟨vb, 4, none⟩) (by have := VB.out.lt; show wB.heap.size ≠ vb; omega) _)
            have RF2 : Hid (wF.ownsRow w5.heap.size 25 5 (.slice A m c) m cs) := Lib.hid (by rw [hwF]; exact RE2.out.kept TF (Or.inr NI.out))
            have RF3 : Hid (wF.ownsRow w5.heap.size 9 1 (.slice (some ⟨g2, 0, none⟩) (m + 1) c2) (m + 1) ((ks.map Value.string).take (pp * 1) ++ [.string key] ++ (ks.map Value.string).drop (pp * 1))) := Lib.hid (by rw [hwF]; exact RE3.out.kept TF (Or.inr (fun e => HG2.out (Option.some.inj e))))
            have FF : Hid (FrS (Ins vb (.slice A m c) (.slice A' m c')) wB wF) := Lib.hid (FE.out.trans (by rw [hwF]; exact FrS.of_grown TF (.inl rfl)))
            rw [← hwF]
            clear hwF TF p54 f54
            have HIV := Lib.hid (insV_any (wF.alloc (.cells #[.int .i64 k5, .int .i64 i5, .string t5, .slice A5 m5 c5, .slice A6 m6 c6] 25)) w5.heap.size m c pp wF.heap.size A cs [.int .i64 k5, .int .i64 i5, .string t5, .slice A5 m5 c5, .slice A6 m6 c6] rfl hpl (RF2.out.alloc _) (Bk.new wF _ _)
              (fun e => by have := (RF2.out.lt _ e.symm).2; omega) (by have := Z4.out; have := FF.out.size; have := ZB.out; simp; omega) (by omega) (fun u hu => Q4.out.one u hu) (fun u hu => by simp at hu; rcases hu with h | h | h | h | h <;> (subst h; rfl)))
            have p63 := VF.out.cell 3
            change _ = some (Value.slice A m c) at p63
            have x0 := XF.out.cell 0
            have x1 := XF.out.cell 1
            have x2 := XF.out.cell 2
            have x3 := XF.out.cell 3
            have x4 := XF.out.cell 4
            go_wp2_with fail
            refine (HIV.out).mono ?_
            rintro _ wH ⟨g3, c3, rfl, hoi, hg3, hat3⟩
            have GFH : wF.grownBy wH (Value.slice A m c).ownBlock := grownBy_trans (World.grownBy_alloc wF _ _) hg3
            have VH := Lib.hid (VF.out.grown GFH (Ne.symm NI.out))
            have RH3 := Lib.hid (RF3.out.kept GFH (own_ne RF3.out RF2.out (by decide)))
            have FH : Hid (FrS (Ins vb (.slice A m c) (.slice A' m c')) wB wH) := Lib.hid (FF.out.trans (FrS.of_row GFH (fun q hq => .inr (.inl hq))))
            have HAT3 : Hid ((Value.slice A m c).ownBlock = some g3 ∨ wB.heap.size ≤ g3) := Lib.hid (by rcases hat3 with h | h; exact .inl h; exact .inr (by have := FF.out.size; simp at h; omega))
            have hg3n : g3 ≠ vb := fun e => by
              rcases HAT3.out with h | h
              · exact NI.out (by rw [h, e])
              · have := VB.out.lt; omega
            have HG3 := Lib.hid hg3n
            have RH2 := Lib.hid hoi
            have p73 := VH.out.cell 3
            have f73 := VH.out.frozen 3
            clear hoi hg3 hat3 GFH hg3n p63 x0 x1 x2 x3 x4
            go_wp2
            obtain ⟨wI, hwI⟩ : ∃ wI, wI = wH.setCell ⟨vb, 3, none⟩ (.slice (some ⟨g3, 0, none⟩) (m + 1) c3) := ⟨_, rfl⟩
            have TI := turned wH vb 3 (.slice (some ⟨g3, 0, none⟩) (m + 1) c3)
            have VI : Hid (Bk wI vb 25 #[.int .i64 5, .int .i64 0, .string ⟨#[]⟩, .slice (some ⟨g3, 0, none⟩) (m + 1) c3, .slice (some ⟨g2, 0, none⟩) (m + 1) c2]) := Lib.hid (by rw [hwI]; exact VH.out.put 3 _)
            have RI2 : Hid (wI.ownsRow w5.heap.size 25 5 (.slice (some ⟨g3, 0, none⟩) (m + 1) c3) (m + 1) (cs.take (pp * 5) ++ [.int .i64 k5, .int .i64 i5, .string t5, .slice A5 m5 c5, .slice A6 m6 c6] ++ cs.drop (pp * 5))) := Lib.hid (by rw [hwI]; exact RH2.out.kept TI (Or.inr (fun e => HG3.out (Option.some.inj e))))
            have RI3 : Hid (wI.ownsRow w5.heap.size 9 1 (.slice (some ⟨g2, 0, none⟩) (m + 1) c2) (m + 1) ((ks.map Value.string).take (pp * 1) ++ [.string key] ++ (ks.map Value.string).drop (pp * 1))) := Lib.hid (by rw [hwI]; exact RH3.out.kept TI (Or.inr (fun e => HG2.out (Option.some.inj e))))
            have FI : Hid (FrS (Ins vb (.slice A m c) (.slice A' m c')) wB wI) := Lib.hid (FH.out.trans (by rw [hwI]; exact FrS.of_grown TI (.inl rfl)))
            have Q44 : Hid (LiesC w4 (Off2 w5.heap.size w4 (.slice A m c) (.slice A' m c')) its cs) := Lib.hid (Q4.out.keep (fun q hq => F24.out.cell hq.2.1 (fun e => by have := hq.1; have e2 : q.block = p := e; have := LW.out.1; omega)) (fun b hb => ⟨hb.1, Nat.lt_of_lt_of_le hb.2.1 F24.out.size, hb.2.2⟩))
            have ST := Lib.hid (mst_step H4.out HM.out HK.out Q24.out Q34.out Q44.out hf5.out hl5.out hp5.out HPOS.out HFB0.out.symm (litP_size hr2.out) FI.out VI.out HAT2.out HAT3.out RI3.out RI2.out)
            have HRR : Hid (elM s.data.toList (valP s.data.toList k) (ks, its, n) i = .ok (insAt (posOf ks key) key ks, insAt (posOf ks key) x its, n5) j5) := Lib.hid (by show (tkP (fun x => x == 34) s.data.toList i).bind _ = _; rw [hr1.out, PR.bind_ok, hr2.out, PR.bind_ok]; show (if (ks.any fun q => decide (q = key)) = true then _ else _) = _; rw [HANY.out, if_neg (by simp), hr4.out, PR.bind_ok]; show (valP s.data.toList k j4 n).bind _ = _; rw [hr5.out]; rfl)
            rw [← hwI]
            clear hwI TI p73 f73
            refine bodyPost_end (results_none rfl _ _ _) rfl ?_
            exact .inl ⟨_, j5, HRR, rfl, ST⟩
          · exact ⟨rfl, .inr ⟨j5, e5, Lib.hid (by show (tkP (fun x => x == 34) s.data.toList i).bind _ = _; rw [hr1.out, PR.bind_ok, hr2.out, PR.bind_ok]; show (if (ks.any fun q => decide (q = key)) = true then _ else _) = _; rw [HANY.out, if_neg (by simp), hr4.out, PR.bind_ok]; show (valP s.data.toList k j4 n).bind _ = _; rw [hr5.out]; rfl), rfl, Lib.hid (H4.out.fr.trans hf5.out.two)⟩⟩
        · exact ⟨rfl, .inr ⟨j4, e4, Lib.hid (by show (tkP (fun x => x == 34) s.data.toList i).bind _ = _; rw [hr1.out, PR.bind_ok, hr2.out, PR.bind_ok]; show (if (ks.any fun q => decide (q = key)) = true then _ else _) = _; rw [HANY.out, if_neg (by simp), hr4.out]; rfl), rfl, Lib.hid (H3.out.fr.trans hf4.out.two)⟩⟩
      · obtain rfl : fb = true := by simpa using hb
        exact ⟨rfl, .inr ⟨i, 9, Lib.hid (by show (tkP (fun x => x == 34) s.data.toList i).bind _ = _; rw [hr1.out, PR.bind_ok, hr2.out, PR.bind_ok]; show (if (ks.any fun q => decide (q = key)) = true then _ else _) = _; rw [HANY.out, if_pos rfl]), rfl, Lib.hid H2.out.fr⟩⟩
    · exact ⟨rfl, .inr ⟨j2, e2, Lib.hid (by show (tkP (fun x => x == 34) s.data.toList i).bind _ = _; rw [hr1.out, PR.bind_ok, hr2.out]; rfl), rfl, Lib.hid (H1.out.fr.trans hf2.out.two)⟩⟩
  · exact ⟨rfl, .inr ⟨j1, e1, Lib.hid (by show (tkP (fun x => x == 34) s.data.toList i).bind _ = _; rw [hr1.out]; rfl), rfl, Lib.hid (H.out.fr.trans hf1.out.two)⟩⟩

set_option maxRecDepth 100000 in
set_option maxHeartbeats 4000000 in
theorem elements_pairs {w5 w : World} {p vb b2 b3 : Nat} {s : ByteArray} {d : Int} {k i : Nat} {st : List ByteArray × List VT × Nat} (hv : ValC k) (hd : d + 1 + (k : Int) = 17) (hd1 : 0 ≤ d)
    (h : MSt w5 p vb b2 b3 s d st i w) (hl0 : st.2.1.length = 0) :
    Calls Tryz.prog 70 #[.pointer (some ⟨p, 0, none⟩), .string ⟨#[125]⟩, .func (.func 72) #[] #[.pointer (some ⟨b2, 0, none⟩), .pointer (some ⟨vb, 0, none⟩), .pointer (some ⟨b3, 0, none⟩)]] w
      (MEnd (elemsP (elM s.data.toList (valP s.data.toList k)) 125 s.data.toList i st) w5 p vb b2 b3 s d) := by
  have H := Lib.hid h
  have HC := Lib.hid (fun (st : List ByteArray × List VT × Nat) (i : Nat) (W : World) (h : MSt w5 p vb b2 b3 s d st i W) (hl : st.2.1.length ≤ 1000001) => pairs1_any hv hd hd1 h hl)
  have HE := Lib.hid (fun (st : List ByteArray × List VT × Nat) (i j : Nat) (st2 : List ByteArray × List VT × Nat) (h : elM s.data.toList (valP s.data.toList k) st i = .ok st2 j) (hl : st.1.length = st.2.1.length) => elM_len h hl)
  have HM := Lib.hid (fun (st : List ByteArray × List VT × Nat) (i : Nat) => elM_mono2 (l := s.data.toList) (fun i n => valP_mono s.data.toList k i n) st i)
  clear h hv hd hd1
  go_enter Tryz.func70, Tryz.ntmps70
  go_wp2_with fail
  refine (blanks_any H.out.ps).mono ?_
  rintro _ w1 ⟨rfl, hp1, hf1⟩
  have H1 := Lib.hid (H.out.move hp1 hf1)
  clear hp1 hf1
  go_wp2_with fail
  go_region_law (first
    | (go_simp; go_at_call 68; refine two_law (peek_any (by first | exact H1.out.ps | exact H1.out.ps.dr (Dr.drew _))) (by rintro _ wz ⟨hend, rfl, hdz⟩; exact ⟨rfl, pairs_short H1.out (by first | exact hdz | exact (Dr.drew _).trans hdz) hend⟩) ?_; rintro _ w2 ⟨c, hc, rfl, hd2⟩; have hd3 : Dr w1 w2 := (by first | exact hd2 | exact (Dr.drew _).trans hd2)))
  all_goals (
    have H2 := Lib.hid (H1.out.dr hd3)
    have HX := Lib.hid hc
    clear hc hd2 hd3
    by_cases he : c = 125
    · have ht : ((c.toNat : Int) == 125) = true := by rw [he]; rfl
      have ht2 : ((c.toNat : Int) == ((((⟨#[125]⟩ : ByteArray)[0]'(by decide)).toNat : Nat) : Int)) = true := ht
      have HR := Lib.hid (elems_none (el := elM s.data.toList (valP s.data.toList k)) (st := st) HX.out he)
      have HL := at_lt HX.out
      have c1 := H2.out.ps.1.cell 1
      have fz := H2.out.ps.1.frozen 1
      have H3 := Lib.hid (H2.out.move (H2.out.ps.to (skip s.data.toList i + 1) HL) (FrS.one w2 p 1 _))
      have hb := H2.out.ps.2.2.1
      clear he
      go_wp2
      refine bodyPost_ret (results_none rfl _ _ _) rfl ?_
      exact .inl ⟨st, _, HR, rfl, H3⟩
    · have ht : ((c.toNat : Int) == 125) = false := by
        rw [beq_eq_false_iff_ne]
        intro e
        exact he (UInt8.toNat_inj.1 (by show c.toNat = 125; omega))
      have ht2 : ((c.toNat : Int) == ((((⟨#[125]⟩ : ByteArray)[0]'(by decide)).toNat : Nat) : Int)) = false := ht
      have HR0 := Lib.hid (elems_some (el := elM s.data.toList (valP s.data.toList k)) (st := st) HX.out he)
      have HJ := Lib.hid H2.out.ps.2.1
      obtain ⟨R, hR⟩ : ∃ R, R = elemsP (elM s.data.toList (valP s.data.toList k)) 125 s.data.toList i st := ⟨_, rfl⟩
      have HRR := Lib.hid hR
      rw [← hR] at HR0
      clear hR he
      go_wp2_with fail
      go_loopg [6] (s.size + 1) (fun gh b wr => ∃ (m : Bool) (sx : List ByteArray × List VT × Nat) (j : Nat), b = .bool m ∧ Hid (MSt w5 p vb b2 b3 s d sx j wr) ∧ Hid (sx.2.1.length + gh ≤ s.size + 1) ∧ Hid (m = true → s.size + 1 ≤ gh + j ∧ R = moreP (elM s.data.toList (valP s.data.toList k)) 125 s.data.toList gh j sx) ∧ Hid (m = false → R = .ok sx j))
      case atStart => exact ⟨true, st, _, rfl, H2, Lib.hid (by omega), Lib.hid (fun _ => ⟨by omega, by rw [HR0.out, list_len]⟩), Lib.hid (fun e => by cases e)⟩
      case round =>
        obtain ⟨m, sx, j, rfl, HS, HN, HT, HF⟩ := hrel
        cases m with
        | false =>
          have HR := Lib.hid (HF.out rfl)
          go_wp2
          refine bodyPost_end (results_none rfl _ _ _) rfl ?_
          exact .inl ⟨sx, j, Lib.hid (HRR.out.symm.trans HR.out), rfl, HS⟩
        | true =>
          have HG := Lib.hid (HT.out rfl)
          obtain ⟨f, rfl⟩ : ∃ f, gk = f + 1 := ⟨gk - 1, by have := HG.out.1; have := HS.out.ps.2.1; omega⟩
          have HG2 := Lib.hid (HG.out.2.trans (moreP_succ ..))
          go_wp2_with fail
          refine (blanks_any HS.out.ps).mono ?_
          rintro _ w3 ⟨rfl, hp3, hf3⟩
          have HS3 := Lib.hid (HS.out.move hp3 hf3)
          clear hp3 hf3
          go_wp2_with fail
          refine (HC.out sx _ _ HS3.out (by have := HN.out; have := HS3.out.ps.2.2.1; omega)).mono ?_
          rintro _ w4 (⟨s2, j2, hr, rfl, hs4⟩ | ⟨j2, c2, hr, rfl, hf4⟩)
          · have HR4 : Hid (R = (tkP (fun x => x == 44 || x == 125) s.data.toList (skip s.data.toList j2)).bind fun c j3 => if c = 44 then moreP (elM s.data.toList (valP s.data.toList k)) 125 s.data.toList f j3 s2 else .ok s2 j3) := Lib.hid (by rw [HG2.out, hr.out]; rfl)
            have HL4 := Lib.hid (HE.out _ _ _ _ hr.out HS3.out.len)
            have HM4 := Lib.hid (Nat.le_trans (skip_ge s.data.toList j) (HM.out _ _ _ _ hr.out))
            clear hr
            go_wp2_with fail
            refine (blanks_any hs4.out.ps).mono ?_
            rintro _ w6 ⟨rfl, hp6, hf6⟩
            have HS6 := Lib.hid (hs4.out.move hp6 hf6)
            clear hp6 hf6
            go_wp2_with fail
            refine (take_any HS6.out.ps (set_more 125)).mono ?_
            rintro _ w7 (⟨c7, j7, hr7, rfl, hp7, hf7⟩ | ⟨j7, e7, hr7, rfl, hf7⟩)
            · have HS7 := Lib.hid (HS6.out.move hp7.out hf7.out)
              have HJ7 := Lib.hid (tkP_in hr7.out).2.1
              have HR7 : Hid (R = if c7 = 44 then moreP (elM s.data.toList (valP s.data.toList k)) 125 s.data.toList f j7 s2 else .ok s2 j7) := Lib.hid (by rw [HR4.out, hr7.out]; rfl)
              have HM7 := Lib.hid (skip_ge s.data.toList j2)
              clear hr7 hp7 hf7
              unfold byteV
              by_cases h44 : c7 = 44
              · have ht7 : ((c7.toNat : Int) == 44) = true := by rw [h44]; rfl
                have HR8 := Lib.hid (HR7.out.trans (if_pos h44))
                clear h44
                go_wp2
                go_roundg f
                case measure => omega
                case rel => exact ⟨true, s2, j7, rfl, HS7, Lib.hid (by have := HN.out; have := HL4.out; omega), Lib.hid (fun _ => ⟨by have := HG.out.1; have := HJ7.out; have := HM7.out; have := HM4.out; omega, HR8.out⟩), Lib.hid (fun e => by cases e)⟩
              · have ht7 : ((c7.toNat : Int) == 44) = false := by
                  rw [beq_eq_false_iff_ne]
                  intro e
                  exact h44 (UInt8.toNat_inj.1 (by show c7.toNat = 44; omega))
                have HR8 := Lib.hid (HR7.out.trans (if_neg h44))
                clear h44
                go_wp2
                go_roundg f
                case measure => omega
                case rel => exact ⟨false, s2, j7, rfl, HS7, Lib.hid (by have := HN.out; have := HL4.out; omega), Lib.hid (fun e => by cases e), Lib.hid (fun _ => HR8.out)⟩
            · have HR7 : Hid (R = .err j7 e7) := Lib.hid (by rw [HR4.out, hr7.out]; rfl)
              exact ⟨rfl, .inr ⟨j7, e7, Lib.hid (HRR.out.symm.trans HR7.out), rfl, Lib.hid (HS6.out.fr.trans (hf7.out.two))⟩⟩
          · have HR4 : Hid (R = .err j2 c2) := Lib.hid (by rw [HG2.out, hr.out]; rfl)
            exact ⟨rfl, .inr ⟨j2, c2, Lib.hid (HRR.out.symm.trans HR4.out), rfl, hf4⟩⟩)
end Go.Proofs.YtjblchdfkcbodaaGreatDoor
