/-
  VtextParses returns true for every input, and its arguments read afterwards as they read before: what it leans on.
-/
import Derived.Test.YtlgmhhimbabkjaaGreatDoorYBVtextParses
import Derived.Test.YtlgmhhimbabkjaaGreatDoorTq
import Derived.Defers
import Derived.Recover
import Derived.Laws.Pointers
namespace Go.Proofs.YtlgmhhimbabkjaaGreatDoor
open Go.RowKit

/-- a map that is being read -/
structure MSt (w5 : World) (p vb b2 b3 : Nat) (s : ByteArray) (d : Int) (st : List ByteArray × List VT × Nat) (i : Nat) (w : World) : Prop where
  fr : FrS (Two p vb) w5 w
  ps : Ps w p s i st.2.2
  ev : Ev w p
  bp : Bk w b2 59 #[.pointer (some ⟨p, 0, none⟩)]
  bd : Bk w b3 3 #[.int .i64 d]
  low : Low w5 p vb b2 b3
  srt : rising st.1 = true
  len : st.1.length = st.2.1.length
  ksz : ∀ t ∈ st.1, t.size ≤ 9223372036854775807
  row : ∃ A c A' c' cs, Bk w vb 25 #[.int .i64 5, .int .i64 0, .string ⟨#[]⟩, .slice A st.2.1.length c, .slice A' st.2.1.length c'] ∧
    w.ownsRow w5.heap.size 25 5 (.slice A st.2.1.length c) st.2.1.length cs ∧ w.ownsRow w5.heap.size 9 1 (.slice A' st.2.1.length c') st.2.1.length (st.1.map Value.string) ∧
    LiesC w (Off2 w5.heap.size w (.slice A st.2.1.length c) (.slice A' st.2.1.length c')) st.2.1 cs
/-- its end -/
def MEnd (r : PR (List ByteArray × List VT × Nat)) (w5 : World) (p vb b2 b3 : Nat) (s : ByteArray) (d : Int) (e : Ending) (w' : World) : Prop :=
  (∃ st j, Hid (r = .ok st j) ∧ e = .returned (.tuple #[]) ∧ Hid (MSt w5 p vb b2 b3 s d st j w')) ∨ ∃ j c, Hid (r = .err j c) ∧ e = fault j c ∧ Hid (FrS (Two p vb) w5 w')
section
variable {w5 w w' : World} {p vb b2 b3 : Nat} {s : ByteArray} {d : Int} {i : Nat} {st : List ByteArray × List VT × Nat}
theorem MSt.move (h : MSt w5 p vb b2 b3 s d st i w) {j : Nat} (hp : Ps w' p s j st.2.2) (hf : FrS (One p) w w') : MSt w5 p vb b2 b3 s d st j w' := by
  obtain ⟨h1, h2, h3, h4, h5, low, q1, q2, q3, A, c, A', c', cs, r1, r2, r3, r4⟩ := h
  refine ⟨h1.trans hf.two, hp, h3.one hf, hf.bk h4 (fun e => low.2.2.2.2.2.1 e), hf.bk h5 (fun e => low.2.2.2.2.2.2.1 e), low, q1, q2, q3, A, c, A', c', cs, hf.bk r1 (fun e => low.2.2.2.2.1 e.symm), own_frs r2 hf (fun b e => by rw [show b = p from e]; exact low.1), own_frs r3 hf (fun b e => by rw [show b = p from e]; exact low.1), ?_⟩
  exact r4.keep (fun q hq => hf.cell hq.2.1 (fun e => by have := hq.1; have e2 : q.block = p := e; have := low.1; omega)) (fun b hb => ⟨hb.1, Nat.lt_of_lt_of_le hb.2.1 hf.size, hb.2.2⟩)
theorem MSt.dr (h : MSt w5 p vb b2 b3 s d st i w) (hd : Dr w w') : MSt w5 p vb b2 b3 s d st i w' := h.move (h.ps.dr hd) hd.frs
theorem pairs_short {k : Nat} (h : MSt w5 p vb b2 b3 s d st (skip s.data.toList i) w) (hd : Dr w w') (he : s.size ≤ skip s.data.toList i) : MEnd (elemsP (elM s.data.toList (valP s.data.toList k)) 125 s.data.toList i st) w5 p vb b2 b3 s d (fault (skip s.data.toList i) 4) w' :=
  .inr ⟨_, _, Lib.hid (by unfold elemsP; rw [List.getElem?_eq_none (by rw [list_len]; exact he)]), rfl, Lib.hid (h.fr.trans hd.frs)⟩
theorem elM_len {l : List UInt8} {val : Nat → Nat → PR (VT × Nat)} {st st2 : List ByteArray × List VT × Nat} {i j : Nat} (h : elM l val st i = .ok st2 j) (hl : st.1.length = st.2.1.length) : st2.2.1.length = st.2.1.length + 1 := by
  unfold elM at h
  cases h1 : tkP (fun x => x == 34) l i with
  | err a c => rw [h1] at h; cases h
  | ok x1 j1 =>
    rw [h1, PR.bind_ok] at h
    cases h2 : litP l j1 with
    | err a c => rw [h2] at h; cases h
    | ok key j2 =>
      rw [h2, PR.bind_ok] at h
      split at h
      · cases h
      · cases h3 : tkP (fun x => x == 58) l (skip l j2) with
        | err a c => rw [h3] at h; cases h
        | ok x3 j3 =>
          rw [h3, PR.bind_ok] at h
          cases h4 : val j3 st.2.2 with
          | err a c => rw [h4] at h; cases h
          | ok x4 j4 =>
            rw [h4, PR.bind_ok] at h
            injection h with h5 _
            rw [← h5]
            have hp : posOf st.1 key ≤ st.2.1.length := by
              rw [← hl]
              exact (List.takeWhile_sublist _).length_le
            exact ins_len hp
theorem elM_mono2 {l : List UInt8} {val : Nat → Nat → PR (VT × Nat)} (hv : ∀ i n, (val i n).Mono i) (s : List ByteArray × List VT × Nat) (i : Nat) : (elM l val s i).Mono i := elM_mono hv s i
end

/-- what an insertion may turn -/
def Ins (vb : Nat) (v v' : Value) : Nat → Prop := fun b => b = vb ∨ v.ownBlock = some b ∨ v'.ownBlock = some b

theorem mst_step {w5 w wB wI : World} {p vb b2 b3 g g3 m n5 j5 pp c c' c2 c3 i : Nat} {n : Nat} {s : ByteArray} {d : Int} {A A' : Option Addr} {ks : List ByteArray} {its : List VT} {x : VT} {key : ByteArray} {cs : List Value} {v0 v1 v2 v3 v4 : Value}
    (h : MSt w5 p vb b2 b3 s d (ks, its, n) i w) (hm : m = its.length) (hk : ks.length = m)
    (q2 : w.ownsRow w5.heap.size 25 5 (.slice A m c) m cs) (q3 : w.ownsRow w5.heap.size 9 1 (.slice A' m c') m (ks.map Value.string)) (q4 : LiesC w (Off2 w5.heap.size w (.slice A m c) (.slice A' m c')) its cs)
    (hfb : FrS (One p) w wB) (hx : Lies wB (New w wB) x (.agg #[v0, v1, v2, v3, v4])) (hp : Ps wB p s j5 n5) (hpos : Pos ks key pp) (hno : isAt ks key pp = false) (hks : key.size ≤ 4096)
    (fw : FrS (Ins vb (.slice A m c) (.slice A' m c')) wB wI) (hvb : Bk wI vb 25 #[.int .i64 5, .int .i64 0, .string ⟨#[]⟩, .slice (some ⟨g3, 0, none⟩) (m + 1) c3, .slice (some ⟨g, 0, none⟩) (m + 1) c2])
    (hg : (Value.slice A' m c').ownBlock = some g ∨ wB.heap.size ≤ g) (hg3 : (Value.slice A m c).ownBlock = some g3 ∨ wB.heap.size ≤ g3)
    (hkr : wI.ownsRow w5.heap.size 9 1 (.slice (some ⟨g, 0, none⟩) (m + 1) c2) (m + 1) ((ks.map Value.string).take (pp * 1) ++ [.string key] ++ (ks.map Value.string).drop (pp * 1)))
    (hir : wI.ownsRow w5.heap.size 25 5 (.slice (some ⟨g3, 0, none⟩) (m + 1) c3) (m + 1) (cs.take (pp * 5) ++ [v0, v1, v2, v3, v4] ++ cs.drop (pp * 5))) :
    MSt w5 p vb b2 b3 s d (insAt (posOf ks key) key ks, insAt (posOf ks key) x its, n5) j5 wI := by
  have low := h.low
  have o2 := q2.lt
  have o3 := q3.lt
  have s1 := h.fr.size
  have s2 := hfb.size
  have s3 := fw.size
  have hpp : pp ≤ ks.length := hpos.1
  rw [posOf_eq hpos]
  have nS : ∀ b, b < w5.heap.size → b ≠ vb → ¬ Ins vb (.slice A m c) (.slice A' m c') b := fun b hb hne h => by
    rcases h with h | h | h
    · exact hne h
    · have := (o2 b h).1; omega
    · have := (o3 b h).1; omega
  have fall : FrS (Two p vb) w5 wI := (h.fr.trans hfb.two).next fw (fun i hi h => by
    rcases h with h | h | h
    · exact .inr h
    · have := (o2 i h).1; omega
    · have := (o3 i h).1; omega)
  have hli : (insAt pp x its).length = m + 1 := by rw [ins_len (by omega)]; omega
  have hlk : (insAt pp key ks).length = m + 1 := by rw [ins_len hpp]; omega
  have e1 : insAt pp x its = its.take pp ++ [x] ++ its.drop pp := by unfold insAt; simp
  have e2 : (insAt pp key ks).map Value.string = (ks.map Value.string).take (pp * 1) ++ [.string key] ++ (ks.map Value.string).drop (pp * 1) := by unfold insAt; simp
  refine ⟨fall, hp.frs fw (nS p low.1 low.2.2.2.2.1), (h.ev.one hfb).frs fw (fun b hb => ?_), (hfb.bk h.bp (fun e => low.2.2.2.2.2.1 e)).trans' fw (nS b2 low.2.2.1 low.2.2.2.2.2.2.2.1), (hfb.bk h.bd (fun e => low.2.2.2.2.2.2.1 e)).trans' fw (nS b3 low.2.2.2.1 low.2.2.2.2.2.2.2.2.1), low, rising_ins h.srt hpos hno, by show (insAt pp key ks).length = (insAt pp x its).length; rw [hlk, hli], fun t ht => ?_, some ⟨g3, 0, none⟩, c3, some ⟨g, 0, none⟩, c2, _, by show Bk wI vb _ #[_, _, _, .slice _ (insAt pp x its).length c3, .slice _ (insAt pp x its).length c2]; rw [hli]; exact hvb, by show wI.ownsRow _ _ 5 (.slice _ (insAt pp x its).length c3) (insAt pp x its).length _; rw [hli]; exact hir, by show wI.ownsRow _ _ 1 (.slice _ (insAt pp x its).length c2) (insAt pp x its).length ((insAt pp key ks).map Value.string); rw [hli, e2]; exact hkr, ?_⟩
  · have l1 := low.2.2.2.2.2.2.2.2.2.2.2.1
    have l2 := low.2.2.2.2.2.2.2.2.2.2.2.2
    rcases hb with h | h | h
    · subst h; exact ⟨low.2.2.2.2.2.2.2.2.2.1, low.2.2.2.2.2.2.2.2.2.2.1⟩
    · have := (o2 b h).1; exact ⟨by omega, by omega⟩
    · have := (o3 b h).1; exact ⟨by omega, by omega⟩
  · have ht2 : t ∈ insAt pp key ks := ht
    unfold insAt at ht2
    rcases List.mem_append.1 ht2 with h1 | h1
    · exact h.ksz t (List.mem_of_mem_take h1)
    · rcases List.mem_cons.1 h1 with h2 | h2
      · subst h2; omega
      · exact h.ksz t (List.mem_of_mem_drop h2)
  · show LiesC wI (Off2 w5.heap.size wI (.slice _ (insAt pp x its).length c3) (.slice _ (insAt pp x its).length c2)) (insAt pp x its) _
    rw [hli, e1]
    refine Lies.insertC (hx.keep (fun b hb => ?_) (fun b hb => ?_)) (q4.keep (fun b hb => ?_) (fun b hb => ?_)) pp (by omega)
    · obtain ⟨b1, b2⟩ := hb
      exact fw.cell b2 (fun h => by
        rcases h with h | h | h
        · have := low.2.1; omega
        · have := (o2 _ h).2; omega
        · have := (o3 _ h).2; omega)
    · obtain ⟨b1, b2⟩ := hb
      refine ⟨by omega, by omega, fun e => ?_, fun e => ?_⟩
      · have e' : g3 = b := by simpa [Value.ownBlock] using e
        rcases hg3 with h | h
        · have := (o2 _ h).2; omega
        · omega
      · have e' : g = b := by simpa [Value.ownBlock] using e
        rcases hg with h | h
        · have := (o3 _ h).2; omega
        · omega
    · obtain ⟨b1, b2, b3, b4⟩ := hb
      exact (fw.cell (Nat.lt_of_lt_of_le b2 s2) (fun h => by
        rcases h with h | h | h
        · have := low.2.1; omega
        · exact b3 h
        · exact b4 h)).trans (hfb.cell b2 (fun h => by have e : b.block = p := h; have := low.1; omega))
    · obtain ⟨b1, b2, b3, b4⟩ := hb
      refine ⟨b1, by omega, fun e => ?_, fun e => ?_⟩
      · have e' : g3 = b := by simpa [Value.ownBlock] using e
        rcases hg3 with h | h
        · exact b3 (by rw [h, e'])
        · omega
      · have e' : g = b := by simpa [Value.ownBlock] using e
        rcases hg with h | h
        · exact b4 (by rw [h, e'])
        · omega

set_option maxRecDepth 100000 in
set_option maxHeartbeats 16000000 in
theorem pairs1_any {w5 w : World} {p vb b2 b3 : Nat} {s : ByteArray} {d : Int} {k i : Nat} {st : List ByteArray × List VT × Nat} (hv : ValC k) (hd : d + 1 + (k : Int) = 17) (hd1 : 0 ≤ d)
    (h : MSt w5 p vb b2 b3 s d st i w) (hl : st.2.1.length ≤ 1000001) :
    Calls Tryz.prog 72 #[.pointer (some ⟨b2, 0, none⟩), .pointer (some ⟨vb, 0, none⟩), .pointer (some ⟨b3, 0, none⟩)] w (MEnd (elM s.data.toList (valP s.data.toList k) st i) w5 p vb b2 b3 s d) := by
  obtain ⟨ks, its, n⟩ := st
  have H := Lib.hid h
  have hdw : IntKind.i64.wrap (d + 1) = d + 1 := by rw [IntKind.wrap_i64]; omega
  have HV := Lib.hid hv
  have HD := Lib.hid hd
  have cp := h.bp.cell 0
  change _ = some (Value.pointer (some ⟨p, 0, none⟩)) at cp
  have c1 := h.ps.1.cell 1
  have HB := h.ps.2.1
  clear h hv hd
  go_enter Tryz.func72, Tryz.ntmps72
  go_wp2_with fail
  refine (take_any H.out.ps (set_one 34)).mono ?_
  rintro _ w1 (⟨x1, j1, hr1, rfl, hp1, hf1⟩ | ⟨j1, e1, hr1, rfl, hf1⟩)
  · have H1 := Lib.hid (H.out.move hp1.out hf1.out)
    have hj1 : 1 ≤ j1 := by have := (tkP_in hr1.out).2.1; omega
    have cp1 := H1.out.bp.cell 0
    change _ = some (Value.pointer (some ⟨p, 0, none⟩)) at cp1
    clear cp c1 hp1 hf1
    go_wp2_with fail
    refine (literal_any H1.out.ps hj1).mono ?_
    rintro _ w2 (⟨key, j2, hr2, rfl, hp2, hf2⟩ | ⟨j2, e2, hr2, rfl, hf2⟩)
    · have H2 := Lib.hid (H1.out.move hp2.out hf2.out)
      obtain ⟨A, c, A', c', cs, q1, q2, q3, q4⟩ := H2.out.row
      simp only at q1 q2 q3 q4 hl
      obtain ⟨m, hm⟩ : ∃ m, m = its.length := ⟨_, rfl⟩
      rw [← hm] at q1 q2 q3 q4 hl
      have HM := Lib.hid hm
      have HK : Hid (ks.length = m) := Lib.hid (by have := H2.out.len; simp only at this; omega)
      have Q1 := Lib.hid q1
      have Q2 := Lib.hid q2
      have Q3 := Lib.hid q3
      have Q4 := Lib.hid q4
      have g4 := Q1.out.cell 4
      change _ = some (Value.slice A' m c') at g4
      have HSR := Lib.hid (search_at (t := key) Q3.out HK.out H2.out.ksz H2.out.srt (by omega))
      clear q1 q2 q3 q4 hm cp1 hp2 hf2
      unfold strV
      go_wp2_with fail
      refine (HSR.out).mono ?_
      rintro _ _ ⟨pp, hpos, rfl, rfl⟩
      have hpl : pp ≤ m := by have := hpos.1; have := HK.out; omega
      have HPOS := Lib.hid hpos
      have HSRT := Lib.hid H2.out.srt
      obtain ⟨fb, hfb⟩ : ∃ fb, fb = isAt ks key pp := ⟨_, rfl⟩
      have HFB0 := Lib.hid hfb
      rw [← hfb]
      have cp2 := H2.out.bp.cell 0
      change _ = some (Value.pointer (some ⟨p, 0, none⟩)) at cp2
      have HANY : Hid ((ks.any fun q => decide (q = key)) = fb) := Lib.hid (by rw [hfb]; exact found_eq HSRT.out HPOS.out)
      clear hpos hfb g4
      go_wp2_with fail
      refine (require_any _ _ i 9 _).mono ?_
      rintro _ _ (⟨hb, rfl, rfl⟩ | ⟨hb, rfl, rfl⟩)
      · obtain rfl : fb = false := by simpa using hb
        clear hb
        go_wp2_with fail
        refine (blanks_any H2.out.ps).mono ?_
        rintro _ w3 ⟨rfl, hp3, hf3⟩
        have H3 := Lib.hid (H2.out.move hp3 hf3)
        have F23 := Lib.hid hf3
        have cp3 := H3.out.bp.cell 0
        change _ = some (Value.pointer (some ⟨p, 0, none⟩)) at cp3
        clear hp3 hf3 cp2
        go_wp2_with fail
        refine (take_any H3.out.ps (set_one 58)).mono ?_
        rintro _ w4 (⟨x4, j4, hr4, rfl, hp4, hf4⟩ | ⟨j4, e4, hr4, rfl, hf4⟩)
        · have H4 := Lib.hid (H3.out.move hp4.out hf4.out)
          have F24 := Lib.hid (F23.out.trans hf4.out)
          have cp4 := H4.out.bp.cell 0
          change _ = some (Value.pointer (some ⟨p, 0, none⟩)) at cp4
          have cd4 := H4.out.bd.cell 0
          change _ = some (Value.int .i64 d) at cd4
          have HVC := Lib.hid (HV.out w4 p s j4 n (d + 1) HD.out (by omega) H4.out.ps H4.out.ev)
          clear cp3 hp4 hf4
          go_wp2_with fail
          refine (HVC.out).mono ?_
          rintro _ wB (⟨k5, i5, t5, A5, m5, c5, A6, m6, c6, x, n5, j5, rfl, hr5, hl5, hp5, hf5⟩ | ⟨j5, e5, hr5, rfl, hf5⟩)
          · have Q14 := Lib.hid (F24.out.bk Q1.out (fun e => H2.out.low.2.2.2.2.1 e.symm))
            have LW := Lib.hid H2.out.low
            have Q24 := Lib.hid (own_frs Q2.out F24.out (fun b e => by rw [show b = p from e]; exact LW.out.1))
            have Q34 := Lib.hid (own_frs Q3.out F24.out (fun b e => by rw [show b = p from e]; exact LW.out.1))
            have RB2 := Lib.hid (own_frs Q24.out hf5.out (fun b e => by rw [show b = p from e]; exact LW.out.1))
            have RB3 := Lib.hid (own_frs Q34.out hf5.out (fun b e => by rw [show b = p from e]; exact LW.out.1))
            have VB := Lib.hid (hf5.out.bk Q14.out (fun e => LW.out.2.2.2.2.1 e.symm))
            have Z4 := Lib.hid H4.out.fr.size
            have ZB := Lib.hid hf5.out.size
            have OL2 := Lib.hid Q24.out.lt
            have OL3 := Lib.hid Q34.out.lt
            clear cp4 cd4
            go_upto_region 8 with fail
            obtain ⟨wC, hwC⟩ : ∃ wC, wC = wB.alloc (.cells #[.int .i64 k5, .int .i64 i5, .string t5, .slice A5 m5 c5, .slice A6 m6 c6] 25) := ⟨_, rfl⟩
            have XC : Hid (Bk wC wB.heap.size 25 #[.int .i64 k5, .int .i64 i5, .string t5, .slice A5 m5 c5, .slice A6 m6 c6]) := Lib.hid (by rw [hwC]; exact Bk.new _ _ _)
            have ZC : Hid (wC.heap.size = wB.heap.size + 1) := Lib.hid (by rw [hwC, World.size_alloc])
            have VC : Hid (Bk wC vb 25 #[.int .i64 5, .int .i64 0, .string ⟨#[]⟩, .slice A m c, .slice A' m c']) := Lib.hid (by rw [hwC]; exact VB.out.alloc _)
            have RC2 : Hid (wC.ownsRow w5.heap.size 25 5 (.slice A m c) m cs) := Lib.hid (by rw [hwC]; exact RB2.out.alloc _)
            have RC3 : Hid (wC.ownsRow w5.heap.size 9 1 (.slice A' m c') m (ks.map Value.string)) := Lib.hid (by rw [hwC]; exact RB3.out.alloc _)
            have FC : Hid (FrS (Ins vb (.slice A m c) (.slice A' m c')) wB wC) := Lib.hid (by rw [hwC]; exact FrS.of_below ((Below.refl _ _).alloc (Nat.le_refl _) _))
            rw [← hwC]
            clear hwC
            have HI := Lib.hid (insS_any (wC.alloc (.cells #[.string key] 9)) w5.heap.size m c' pp wC.heap.size A' (ks.map Value.string) [.string key] rfl hpl (RC3.out.alloc _) (Bk.new wC _ _)
              (fun e => by have := (RC3.out.lt _ e.symm).2; omega) (by have := Z4.out; have := ZB.out; have := ZC.out; simp; omega) (by omega) (fun u hu => by obtain ⟨s, _, rfl⟩ := List.mem_map.1 hu; rfl) (fun u hu => by have := List.mem_singleton.1 hu; subst this; rfl))
            have p4 := VC.out.cell 4
            change _ = some (Value.slice A' m c') at p4
            go_wp2_with fail
            refine (HI.out).mono ?_
            rintro _ wE ⟨g2, c2, rfl, hok, hg2, hat2⟩
            have NK : Hid ((Value.slice A' m c').ownBlock ≠ some vb) := Lib.hid (fun e => by have := (RC3.out.lt vb e).1; have := LW.out.2.1; omega)
            have NI : Hid ((Value.slice A m c).ownBlock ≠ some vb) := Lib.hid (fun e => by have := (RC2.out.lt vb e).1; have := LW.out.2.1; omega)
            have GCE : wC.grownBy wE (Value.slice A' m c').ownBlock := grownBy_trans (World.grownBy_alloc wC _ _) hg2
            have HGCE := Lib.hid GCE
            have VE := Lib.hid (VC.out.grown GCE (Ne.symm NK.out))
            have XE := Lib.hid (XC.out.grown GCE (fun e => by have := (OL3.out _ e.symm).2; have := ZB.out; omega))
            have RE2 := Lib.hid (RC2.out.kept GCE (own_ne RC2.out RC3.out (by decide)))
            have RE3 := Lib.hid hok
            have FE : Hid (FrS (Ins vb (.slice A m c) (.slice A' m c')) wB wE) := Lib.hid (FC.out.trans (FrS.of_row GCE (fun q hq => .inr (.inr hq))))
            have HAT2 : Hid ((Value.slice A' m c').ownBlock = some g2 ∨ wB.heap.size ≤ g2) := Lib.hid (by rcases hat2 with h | h; exact .inl h; exact .inr (by have := ZC.out; simp at h; omega))
            have hg2n : g2 ≠ vb := fun e => by
              rcases HAT2.out with h | h
              · exact NK.out (by rw [h, e])
              · have := VB.out.lt; omega
            have HG2 := Lib.hid hg2n
            have p54 := VE.out.cell 4
            have f54 := VE.out.frozen 4
            clear hok hg2 hat2 GCE hg2n p4
            go_upto_region 9 with fail
            obtain ⟨wF, hwF⟩ : ∃ wF, wF = wE.setCell ⟨vb, 4, none⟩ (.slice (some ⟨g2, 0, none⟩) (m + 1) c2) := ⟨_, rfl⟩
            have TF := turned wE vb 4 (.slice (some ⟨g2, 0, none⟩) (m + 1) c2)
            have VF : Hid (Bk wF vb 25 #[.int .i64 5, .int .i64 0, .string ⟨#[]⟩, .slice A m c, .slice (some ⟨g2, 0, none⟩) (m + 1) c2]) := Lib.hid (by rw [hwF]; exact VE.out.put 4 _)
            have XF : Hid (Bk wF wB.heap.size 25 #[.int .i64 k5, .int .i64 i5, .string t5, .slice A5 m5 c5, .slice A6 m6 c6]) := Lib.hid (by rw [hwF]; exact XE.out.far (p := ⟨vb, 4, none⟩) (by have := VB.out.lt; show wB.heap.size ≠ vb; omega) _)
            have RF2 : Hid (wF.ownsRow w5.heap.size 25 5 (.slice A m c) m cs) := Lib.hid (by rw [hwF]; exact RE2.out.kept TF (Or.inr NI.out))
            have RF3 : Hid (wF.ownsRow w5.heap.size 9 1 (.slice (some ⟨g2, 0, none⟩) (m + 1) c2) (m + 1) ((ks.map Value.string).take (pp * 1) ++ [.string key] ++ (ks.map Value.string).drop (pp * 1))) := Lib.hid (by rw [hwF]; exact RE3.out.kept TF (Or.inr (fun e => HG2.out (Option.some.inj e))))
            have FF : Hid (FrS (Ins vb (.slice A m c) (.slice A' m c')) wB wF) := Lib.hid (FE.out.trans (by rw [hwF]; exact FrS.of_grown TF (.inl rfl)))
            rw [← hwF]
            clear hwF TF p54 f54
            have HIV := Lib.hid (insV_any (wF.alloc (.cells #[.int .i64 k5, .int .i64 i5, .string t5, .slice A5 m5 c5, .slice A6 m6 c6] 25)) w5.heap.size m c pp wF.heap.size A cs [.int .i64 k5, .int .i64 i5, .string t5, .slice A5 m5 c5, .slice A6 m6 c6] rfl hpl (RF2.out.alloc _) (Bk.new wF _ _)
              (fun e => by have := (RF2.out.lt _ e.symm).2; omega) (by have := Z4.out; have := FF.out.size; have := ZB.out; simp; omega) (by omega) (fun u hu => Q4.out.one u hu) (fun u hu => by simp at hu; rcases hu with h | h | h | h | h <;> (subst h; rfl)))
            have p63 := VF.out.cell 3
            change _ = some (Value.slice A m c) at p63
            have x0 := XF.out.cell 0
            have x1 := XF.out.cell 1
            have x2 := XF.out.cell 2
            have x3 := XF.out.cell 3
            have x4 := XF.out.cell 4
            go_wp2_with fail
            refine (HIV.out).mono ?_
            rintro _ wH ⟨g3, c3, rfl, hoi, hg3, hat3⟩
            have GFH : wF.grownBy wH (Value.slice A m c).ownBlock := grownBy_trans (World.grownBy_alloc wF _ _) hg3
            have VH := Lib.hid (VF.out.grown GFH (Ne.symm NI.out))
            have RH3 := Lib.hid (RF3.out.kept GFH (own_ne RF3.out RF2.out (by decide)))
            have FH : Hid (FrS (Ins vb (.slice A m c) (.slice A' m c')) wB wH) := Lib.hid (FF.out.trans (FrS.of_row GFH (fun q hq => .inr (.inl hq))))
            have HAT3 : Hid ((Value.slice A m c).ownBlock = some g3 ∨ wB.heap.size ≤ g3) := Lib.hid (by rcases hat3 with h | h; exact .inl h; exact .inr (by have := FF.out.size; simp at h; omega))
            have hg3n : g3 ≠ vb := fun e => by
              rcases HAT3.out with h | h
              · exact NI.out (by rw [h, e])
              · have := VB.out.lt; omega
            have HG3 := Lib.hid hg3n
            have RH2 := Lib.hid hoi
            have p73 := VH.out.cell 3
            have f73 := VH.out.frozen 3
            clear hoi hg3 hat3 GFH hg3n p63 x0 x1 x2 x3 x4
            go_wp2
            obtain ⟨wI, hwI⟩ : ∃ wI, wI = wH.setCell ⟨vb, 3, none⟩ (.slice (some ⟨g3, 0, none⟩) (m + 1) c3) := ⟨_, rfl⟩
            have TI := turned wH vb 3 (.slice (some ⟨g3, 0, none⟩) (m + 1) c3)
            have VI : Hid (Bk wI vb 25 #[.int .i64 5, .int .i64 0, .string ⟨#[]⟩, .slice (some ⟨g3, 0, none⟩) (m + 1) c3, .slice (some ⟨g2, 0, none⟩) (m + 1) c2]) := Lib.hid (by rw [hwI]; exact VH.out.put 3 _)
            have RI2 : Hid (wI.ownsRow w5.heap.size 25 5 (.slice (some ⟨g3, 0, none⟩) (m + 1) c3) (m + 1) (cs.take (pp * 5) ++ [.int .i64 k5, .int .i64 i5, .string t5, .slice A5 m5 c5, .slice A6 m6 c6] ++ cs.drop (pp * 5))) := Lib.hid (by rw [hwI]; exact RH2.out.kept TI (Or.inr (fun e => HG3.out (Option.some.inj e))))
            have RI3 : Hid (wI.ownsRow w5.heap.size 9 1 (.slice (some ⟨g2, 0, none⟩) (m + 1) c2) (m + 1) ((ks.map Value.string).take (pp * 1) ++ [.string key] ++ (ks.map Value.string).drop (pp * 1))) := Lib.hid (by rw [hwI]; exact RH3.out.kept TI (Or.inr (fun e => HG2.out (Option.some.inj e))))
            have FI : Hid (FrS (Ins vb (.slice A m c) (.slice A' m c')) wB wI) := Lib.hid (FH.out.trans (by rw [hwI]; exact FrS.of_grown TI (.inl rfl)))
            have Q44 : Hid (LiesC w4 (Off2 w5.heap.size w4 (.slice A m c) (.slice A' m c')) its cs) := Lib.hid (Q4.out.keep (fun q hq => F24.out.cell hq.2.1 (fun e => by have := hq.1; have e2 : q.block = p := e; have := LW.out.1; omega)) (fun b hb => ⟨hb.1, Nat.lt_of_lt_of_le hb.2.1 F24.out.size, hb.2.2⟩))
            have ST := Lib.hid (mst_step H4.out HM.out HK.out Q24.out Q34.out Q44.out hf5.out hl5.out hp5.out HPOS.out HFB0.out.symm (litP_size hr2.out) FI.out VI.out HAT2.out HAT3.out RI3.out RI2.out)
            have HRR : Hid (elM s.data.toList (valP s.data.toList k) (ks, its, n) i = .ok (insAt (posOf ks key) key ks, insAt (posOf ks key) x its, n5) j5) := Lib.hid (by show (tkP (fun x => x == 34) s.data.toList i).bind _ = _; rw [hr1.out, PR.bind_ok, hr2.out, PR.bind_ok]; show (if (ks.any fun q => decide (q = key)) = true then _ else _) = _; rw [HANY.out, if_neg (by simp), hr4.out, PR.bind_ok]; show (valP s.data.toList k j4 n).bind _ = _; rw [hr5.out]; rfl)
            rw [← hwI]
            clear hwI TI p73 f73
            refine bodyPost_end (results_none rfl _ _ _) rfl ?_
            exact .inl ⟨_, j5, HRR, rfl, ST⟩
          · exact ⟨rfl, .inr ⟨j5, e5, Lib.hid (by show (tkP (fun x => x == 34) s.data.toList i).bind _ = _; rw [hr1.out, PR.bind_ok, hr2.out, PR.bind_ok]; show (if (ks.any fun q => decide (q = key)) = true then _ else _) = _; rw [HANY.out, if_neg (by simp), hr4.out, PR.bind_ok]; show (valP s.data.toList k j4 n).bind _ = _; rw [hr5.out]; rfl), rfl, Lib.hid (H4.out.fr.trans hf5.out.two)⟩⟩
        · exact ⟨rfl, .inr ⟨j4, e4, Lib.hid (by show (tkP (fun x => x == 34) s.data.toList i).bind _ = _; rw [hr1.out, PR.bind_ok, hr2.out, PR.bind_ok]; show (if (ks.any fun q => decide (q = key)) = true then _ else _) = _; rw [HANY.out, if_neg (by simp), hr4.out]; rfl), rfl, Lib.hid (H3.out.fr.trans hf4.out.two)⟩⟩
      · obtain rfl : fb = true := by simpa using hb
        exact ⟨rfl, .inr ⟨i, 9, Lib.hid (by show (tkP (fun x => x == 34) s.data.toList i).bind _ = _; rw [hr1.out, PR.bind_ok, hr2.out, PR.bind_ok]; show (if (ks.any fun q => decide (q = key)) = true then _ else _) = _; rw [HANY.out, if_pos rfl]), rfl, Lib.hid H2.out.fr⟩⟩
    · exact ⟨rfl, .inr ⟨j2, e2, Lib.hid (by show (tkP (fun x => x == 34) s.data.toList i).bind _ = _; rw [hr1.out, PR.bind_ok, hr2.out]; rfl), rfl, Lib.hid (H1.out.fr.trans hf2.out.two)⟩⟩
  · exact ⟨rfl, .inr ⟨j1, e1, Lib.hid (by show (tkP (fun x => x == 34) s.data.toList i).bind _ = _; rw [hr1.out]; rfl), rfl, Lib.hid (H.out.fr.trans hf1.out.two)⟩⟩

set_option maxRecDepth 100000 in
set_option maxHeartbeats 4000000 in
theorem elements_pairs {w5 w : World} {p vb b2 b3 : Nat} {s : ByteArray} {d : Int} {k i : Nat} {st : List ByteArray × List VT × Nat} (hv : ValC k) (hd : d + 1 + (k : Int) = 17) (hd1 : 0 ≤ d)
    (h : MSt w5 p vb b2 b3 s d st i w) (hl0 : st.2.1.length = 0) :
    Calls Tryz.prog 70 #[.pointer (some ⟨p, 0, none⟩), .string ⟨#[125]⟩, .func (.func 72) #[] #[.pointer (some ⟨b2, 0, none⟩), .pointer (some ⟨vb, 0, none⟩), .pointer (some ⟨b3, 0, none⟩)]] w
      (MEnd (elemsP (elM s.data.toList (valP s.data.toList k)) 125 s.data.toList i st) w5 p vb b2 b3 s d) := by
  have H := Lib.hid h
  have HC := Lib.hid (fun (st : List ByteArray × List VT × Nat) (i : Nat) (W : World) (h : MSt w5 p vb b2 b3 s d st i W) (hl : st.2.1.length ≤ 1000001) => pairs1_any hv hd hd1 h hl)
  have HE := Lib.hid (fun (st : List ByteArray × List VT × Nat) (i j : Nat) (st2 : List ByteArray × List VT × Nat) (h : elM s.data.toList (valP s.data.toList k) st i = .ok st2 j) (hl : st.1.length = st.2.1.length) => elM_len h hl)
  have HM := Lib.hid (fun (st : List ByteArray × List VT × Nat) (i : Nat) => elM_mono2 (l := s.data.toList) (fun i n => valP_mono s.data.toList k i n) st i)
  clear h hv hd hd1
  go_enter Tryz.func70, Tryz.ntmps70
  go_wp2_with fail
  refine (blanks_any H.out.ps).mono ?_
  rintro _ w1 ⟨rfl, hp1, hf1⟩
  have H1 := Lib.hid (H.out.move hp1 hf1)
  clear hp1 hf1
  go_wp2_with fail
  go_region_law (first
    | (go_simp; go_at_call 68; refine two_law (peek_any (by first | exact H1.out.ps | exact H1.out.ps.dr (Dr.drew _))) (by rintro _ wz ⟨hend, rfl, hdz⟩; exact ⟨rfl, pairs_short H1.out (by first | exact hdz | exact (Dr.drew _).trans hdz) hend⟩) ?_; rintro _ w2 ⟨c, hc, rfl, hd2⟩; have hd3 : Dr w1 w2 := (by first | exact hd2 | exact (Dr.drew _).trans hd2)))
  all_goals (
    have H2 := Lib.hid (H1.out.dr hd3)
    have HX := Lib.hid hc
    clear hc hd2 hd3
    by_cases he : c = 125
    · have ht : ((c.toNat : Int) == 125) = true := by rw [he]; rfl
      have ht2 : ((c.toNat : Int) == ((((⟨#[125]⟩ : ByteArray)[0]'(by decide)).toNat : Nat) : Int)) = true := ht
      have HR := Lib.hid (elems_none (el := elM s.data.toList (valP s.data.toList k)) (st := st) HX.out he)
      have HL := at_lt HX.out
      have c1 := H2.out.ps.1.cell 1
      have fz := H2.out.ps.1.frozen 1
      have H3 := Lib.hid (H2.out.move (H2.out.ps.to (skip s.data.toList i + 1) HL) (FrS.one w2 p 1 _))
      have hb := H2.out.ps.2.2.1
      clear he
      go_wp2
      refine bodyPost_ret (results_none rfl _ _ _) rfl ?_
      exact .inl ⟨st, _, HR, rfl, H3⟩
    · have ht : ((c.toNat : Int) == 125) = false := by
        rw [beq_eq_false_iff_ne]
        intro e
        exact he (UInt8.toNat_inj.1 (by show c.toNat = 125; omega))
      have ht2 : ((c.toNat : Int) == ((((⟨#[125]⟩ : ByteArray)[0]'(by decide)).toNat : Nat) : Int)) = false := ht
      have HR0 := Lib.hid (elems_some (el := elM s.data.toList (valP s.data.toList k)) (st := st) HX.out he)
      have HJ := Lib.hid H2.out.ps.2.1
      obtain ⟨R, hR⟩ : ∃ R, R = elemsP (elM s.data.toList (valP s.data.toList k)) 125 s.data.toList i st := ⟨_, rfl⟩
      have HRR := Lib.hid hR
      rw [← hR] at HR0
      clear hR he
      go_wp2_with fail
      go_loopg [6] (s.size + 1) (fun gh b wr => ∃ (m : Bool) (sx : List ByteArray × List VT × Nat) (j : Nat), b = .bool m ∧ Hid (MSt w5 p vb b2 b3 s d sx j wr) ∧ Hid (sx.2.1.length + gh ≤ s.size + 1) ∧ Hid (m = true → s.size + 1 ≤ gh + j ∧ R = moreP (elM s.data.toList (valP s.data.toList k)) 125 s.data.toList gh j sx) ∧ Hid (m = false → R = .ok sx j))
      case atStart => exact ⟨true, st, _, rfl, H2, Lib.hid (by omega), Lib.hid (fun _ => ⟨by omega, by rw [HR0.out, list_len]⟩), Lib.hid (fun e => by cases e)⟩
      case round =>
        obtain ⟨m, sx, j, rfl, HS, HN, HT, HF⟩ := hrel
        cases m with
        | false =>
          have HR := Lib.hid (HF.out rfl)
          go_wp2
          refine bodyPost_end (results_none rfl _ _ _) rfl ?_
          exact .inl ⟨sx, j, Lib.hid (HRR.out.symm.trans HR.out), rfl, HS⟩
        | true =>
          have HG := Lib.hid (HT.out rfl)
          obtain ⟨f, rfl⟩ : ∃ f, gk = f + 1 := ⟨gk - 1, by have := HG.out.1; have := HS.out.ps.2.1; omega⟩
          have HG2 := Lib.hid (HG.out.2.trans (moreP_succ ..))
          go_wp2_with fail
          refine (blanks_any HS.out.ps).mono ?_
          rintro _ w3 ⟨rfl, hp3, hf3⟩
          have HS3 := Lib.hid (HS.out.move hp3 hf3)
          clear hp3 hf3
          go_wp2_with fail
          refine (HC.out sx _ _ HS3.out (by have := HN.out; have := HS3.out.ps.2.2.1; omega)).mono ?_
          rintro _ w4 (⟨s2, j2, hr, rfl, hs4⟩ | ⟨j2, c2, hr, rfl, hf4⟩)
          · have HR4 : Hid (R = (tkP (fun x => x == 44 || x == 125) s.data.toList (skip s.data.toList j2)).bind fun c j3 => if c = 44 then moreP (elM s.data.toList (valP s.data.toList k)) 125 s.data.toList f j3 s2 else .ok s2 j3) := Lib.hid (by rw [HG2.out, hr.out]; rfl)
            have HL4 := Lib.hid (HE.out _ _ _ _ hr.out HS3.out.len)
            have HM4 := Lib.hid (Nat.le_trans (skip_ge s.data.toList j) (HM.out _ _ _ _ hr.out))
            clear hr
            go_wp2_with fail
            refine (blanks_any hs4.out.ps).mono ?_
            rintro _ w6 ⟨rfl, hp6, hf6⟩
            have HS6 := Lib.hid (hs4.out.move hp6 hf6)
            clear hp6 hf6
            go_wp2_with fail
            refine (take_any HS6.out.ps (set_more 125)).mono ?_
            rintro _ w7 (⟨c7, j7, hr7, rfl, hp7, hf7⟩ | ⟨j7, e7, hr7, rfl, hf7⟩)
            · have HS7 := Lib.hid (HS6.out.move hp7.out hf7.out)
              have HJ7 := Lib.hid (tkP_in hr7.out).2.1
              have HR7 : Hid (R = if c7 = 44 then moreP (elM s.data.toList (valP s.data.toList k)) 125 s.data.toList f j7 s2 else .ok s2 j7) := Lib.hid (by rw [HR4.out, hr7.out]; rfl)
              have HM7 := Lib.hid (skip_ge s.data.toList j2)
              clear hr7 hp7 hf7
              unfold byteV
              by_cases h44 : c7 = 44
              · have ht7 : ((c7.toNat : Int) == 44) = true := by rw [h44]; rfl
                have HR8 := Lib.hid (HR7.out.trans (if_pos h44))
                clear h44
                go_wp2
                go_roundg f
                case measure => omega
                case rel => exact ⟨true, s2, j7, rfl, HS7, Lib.hid (by have := HN.out; have := HL4.out; omega), Lib.hid (fun _ => ⟨by have := HG.out.1; have := HJ7.out; have := HM7.out; have := HM4.out; omega, HR8.out⟩), Lib.hid (fun e => by cases e)⟩
              · have ht7 : ((c7.toNat : Int) == 44) = false := by
                  rw [beq_eq_false_iff_ne]
                  intro e
                  exact h44 (UInt8.toNat_inj.1 (by show c7.toNat = 44; omega))
                have HR8 := Lib.hid (HR7.out.trans (if_neg h44))
                clear h44
                go_wp2
                go_roundg f
                case measure => omega
                case rel => exact ⟨false, s2, j7, rfl, HS7, Lib.hid (by have := HN.out; have := HL4.out; omega), Lib.hid (fun e => by cases e), Lib.hid (fun _ => HR8.out)⟩
            · have HR7 : Hid (R = .err j7 e7) := Lib.hid (by rw [HR4.out, hr7.out]; rfl)
              exact ⟨rfl, .inr ⟨j7, e7, Lib.hid (HRR.out.symm.trans HR7.out), rfl, Lib.hid (HS6.out.fr.trans (hf7.out.two))⟩⟩
          · have HR4 : Hid (R = .err j2 c2) := Lib.hid (by rw [HG2.out, hr.out]; rfl)
            exact ⟨rfl, .inr ⟨j2, c2, Lib.hid (HRR.out.symm.trans HR4.out), rfl, hf4⟩⟩)
end Go.Proofs.YtlgmhhimbabkjaaGreatDoor
namespace Go.Proofs.YtlgmhhimbabkjaaGreatDoor
open Go.RowKit

set_option maxRecDepth 100000 in
set_option maxHeartbeats 8000000 in
theorem list_any {w : World} {p : Nat} {s : ByteArray} {d : Int} {k i n : Nat} (hv : ValC k) (hd : d + 1 + (k : Int) = 17) (hd1 : 0 ≤ d) (h : Ps w p s i n) (hE : Ev w p) :
    Calls Tryz.prog 47 #[.pointer (some ⟨p, 0, none⟩), .int .i64 d] w (ValR ((elemsP (elL (valP s.data.toList k)) 93 s.data.toList i ([], n)).bind fun st j => .ok (VT.mk 4 0 ⟨#[]⟩ st.1 [], st.2) j) p s w) := by
  have hmf : ∀ (fn : Fn) (first cap : Array Value) (w : World), (Instr.makeFunc fn first cap).run Tryz.prog w = .ok (.func fn first cap) w := fun _ _ _ _ => rfl
  have HP := Lib.hid h
  have HE := Lib.hid hE
  have HV := Lib.hid hv
  have HD := Lib.hid hd
  clear h hE hv hd
  go_enter Tryz.func47, Tryz.ntmps47
  go_upto_region 2 with (fail)
  obtain ⟨w1, hw1⟩ : ∃ w1, w1 = w.alloc (.cells #[.pointer (some ⟨p, 0, none⟩)] 59) := ⟨_, rfl⟩
  obtain ⟨w2, hw2⟩ : ∃ w2, w2 = w1.alloc (.cells #[.int .i64 d] 3) := ⟨_, rfl⟩
  obtain ⟨w3, hw3⟩ : ∃ w3, w3 = w2.alloc (.cells #[.int .i64 0, .int .i64 0, .string ⟨#[]⟩, .slice none 0 0, .slice none 0 0] 25) := ⟨_, rfl⟩
  obtain ⟨w5, hw5⟩ : ∃ w5, w5 = w3.alloc (.cells #[.int .i64 4, .int .i64 0, .string ⟨#[]⟩, .slice none 0 0, .slice none 0 0] 25) := ⟨_, rfl⟩
  have z1 : w1.heap.size = w.heap.size + 1 := by rw [hw1, World.size_alloc]
  have z2 : w2.heap.size = w.heap.size + 1 + 1 := by rw [hw2, World.size_alloc, z1]
  have z3 : w3.heap.size = w.heap.size + 1 + 1 + 1 := by rw [hw3, World.size_alloc, z2]
  have z5 : w5.heap.size = w.heap.size + 1 + 1 + 1 + 1 := by rw [hw5, World.size_alloc, z3]
  have B5 : Hid (Below w.heap.size w w5) := Lib.hid (by
    rw [hw5, hw3, hw2, hw1]
    exact ((((Below.refl _ _).alloc (Nat.le_refl _) _).alloc (by simp) _).alloc (by simp; omega) _).alloc (by simp; omega) _)
  have KP : Hid (Bk w5 w.heap.size 59 #[.pointer (some ⟨p, 0, none⟩)]) := Lib.hid (by rw [hw5, hw3, hw2, hw1]; exact (((Bk.new w _ _).alloc _).alloc _).alloc _)
  have KD : Hid (Bk w5 (w.heap.size + 1) 3 #[.int .i64 d]) := Lib.hid (by rw [← z1, hw5, hw3, hw2]; exact ((Bk.new w1 _ _).alloc _).alloc _)
  have KR : Hid (Bk w5 (w.heap.size + 1 + 1) 25 #[.int .i64 0, .int .i64 0, .string ⟨#[]⟩, .slice none 0 0, .slice none 0 0]) := Lib.hid (by rw [← z2, hw5, hw3]; exact (Bk.new w2 _ _).alloc _)
  have KV : Hid (Bk w5 (w.heap.size + 1 + 1 + 1) 25 #[.int .i64 4, .int .i64 0, .string ⟨#[]⟩, .slice none 0 0, .slice none 0 0]) := Lib.hid (by rw [← z3, hw5]; exact Bk.new w3 _ _)
  have P5 : Hid (Ps w5 p s i n) := Lib.hid (HP.out.frs (FrS.of_below (S := fun _ => False) B5.out) (fun h => h))
  have E5 : Hid (Ev w5 p) := Lib.hid (HE.out.one (FrS.of_below B5.out))
  have hpw := HP.out.1.lt
  have hg1 : 2 < w.heap.size := by obtain ⟨⟨a, b, h⟩, _⟩ := HE.out; exact World.block_lt_of_cell? w _ h
  have hg2 : 3 < w.heap.size := by obtain ⟨_, ⟨a, b, h⟩, _⟩ := HE.out; exact World.block_lt_of_cell? w _ h
  have LW : Hid (Low w5 p (w.heap.size + 1 + 1 + 1) w.heap.size (w.heap.size + 1)) := Lib.hid ⟨by omega, by omega, by omega, by omega, by omega, by omega, by omega, by omega, by omega, by omega, by omega, by omega, by omega⟩
  have L0 : Hid (LSt w5 p (w.heap.size + 1 + 1 + 1) w.heap.size (w.heap.size + 1) s d ([], n) i w5) := Lib.hid ⟨FrS.refl _ _, P5.out, E5.out, KP.out, KD.out, LW.out, none, 0, [], KV.out, World.ownsRow_nil _ _ _ _, rfl⟩
  have Z5 := Lib.hid z5
  have cp := KP.out.cell 0
  change _ = some (Value.pointer (some ⟨p, 0, none⟩)) at cp
  have HL := Lib.hid (elements_list HV.out HD.out hd1 L0.out rfl)
  rw [← hw1, ← hw2, ← hw3, ← hw5]
  clear hw1 hw2 hw3 hw5 z1 z2 z3 z5 hg1 hg2 hpw
  go_wp2_with fail
  refine (HL.out).mono ?_
  rintro _ w6 (⟨st, j, hr, rfl, hs⟩ | ⟨j, e, hr, rfl, hf⟩)
  · obtain ⟨A, c, cs, q1, q2, q3⟩ := hs.out.row
    have Q1 := Lib.hid q1
    have FW : Hid (FrS (One p) w w6) := Lib.hid ((FrS.of_below (S := One p) B5.out).next hs.out.fr (fun i hi h => by
      rcases h with h | h
      · exact h
      · omega))
    have KR6 := Lib.hid (hs.out.fr.bk KR.out (fun h => by
      rcases h with h | h
      · have := HP.out.1.lt; omega
      · omega))
    have LI := Lib.hid (items_lies q2 q3 rfl (by omega) (K := 4))
    obtain ⟨m, hm⟩ : ∃ m, m = st.1.length := ⟨_, rfl⟩
    rw [← hm] at Q1 LI
    have v0 := Q1.out.cell 0
    have v1 := Q1.out.cell 1
    have v2 := Q1.out.cell 2
    have v3 := Q1.out.cell 3
    have v4 := Q1.out.cell 4
    have d0 := KR6.out.cell 0
    have d1 := KR6.out.cell 1
    have d2 := KR6.out.cell 2
    have d3 := KR6.out.cell 3
    have d4 := KR6.out.cell 4
    have f0 := KR6.out.frozen 0
    have f1 := KR6.out.frozen 1
    have f2 := KR6.out.frozen 2
    have f3 := KR6.out.frozen 3
    have f4 := KR6.out.frozen 4
    clear hm cp q1 q2 q3
    go_wp2
    obtain ⟨wf, hwf⟩ : ∃ wf, wf = put5 w6 (w.heap.size + 1 + 1) 0 (.int .i64 4) (.int .i64 0) (.string ⟨#[]⟩) (.slice A m c) (.slice none 0 0) := ⟨_, rfl⟩
    have QF : Hid (Bk wf (w.heap.size + 1 + 1) 25 #[.int .i64 4, .int .i64 0, .string ⟨#[]⟩, .slice A m c, (.slice none 0 0)]) := Lib.hid (by rw [hwf]; exact put5_bk KR6.out)
    have PF : Hid (Ps wf p s j st.2) := Lib.hid (by rw [hwf]; exact hs.out.ps.bk (put5_bk_far hs.out.ps.1 (by have := HP.out.1.lt; omega)))
    have FF : Hid (FrS (One p) w wf) := Lib.hid (by rw [hwf]; exact frs_put5 FW.out (by omega))
    have LF : Hid (Lies wf (New w wf) (VT.mk 4 0 ⟨#[]⟩ st.1 []) (.agg #[.int .i64 4, .int .i64 0, .string ⟨#[]⟩, .slice A m c, (.slice none 0 0)])) := Lib.hid (by
      rw [hwf]
      exact LI.out.keep (fun q hq => World.cell?_of_block (put5_far (by have := hq.1; have := Z5.out; omega))) (fun b hb => ⟨by have := hb.1; have := Z5.out; omega, by rw [put5_size]; exact hb.2⟩))
    have HRR : Hid ((elemsP (elL (valP s.data.toList k)) 93 s.data.toList i ([], n)).bind (fun st j => PR.ok (VT.mk 4 0 ⟨#[]⟩ st.1 [], st.2) j) = .ok (VT.mk 4 0 ⟨#[]⟩ st.1 [], st.2) j) := Lib.hid (by rw [hr.out]; rfl)
    change bodyPost _ _ _ _ _ (put5 w6 (w.heap.size + 1 + 1) 0 (.int .i64 4) (.int .i64 0) (.string ⟨#[]⟩) (.slice A m c) (.slice none 0 0))
    rw [← hwf]
    refine bodyPost_ret (results_cell_row rfl _ _ (w.heap.size + 1 + 1) 25 _ (0, 0) _ rfl QF.out Tryz.underlying25 rfl (by kernel_rfl)) rfl ?_
    exact .inl ⟨4, 0, ⟨#[]⟩, A, m, c, none, 0, 0, VT.mk 4 0 ⟨#[]⟩ st.1 [], st.2, j, rfl, HRR, LF, PF, FF⟩
  · have HRR : Hid ((elemsP (elL (valP s.data.toList k)) 93 s.data.toList i ([], n)).bind (fun st j => PR.ok (VT.mk 4 0 ⟨#[]⟩ st.1 [], st.2) j) = .err j e) := Lib.hid (by rw [hr.out]; rfl)
    exact ⟨rfl, .inr ⟨j, e, HRR, rfl, Lib.hid ((FrS.of_below (S := One p) B5.out).next hf.out (fun i hi h => by
      rcases h with h | h
      · exact h
      · omega))⟩⟩

set_option maxRecDepth 100000 in
set_option maxHeartbeats 8000000 in
theorem pairs_any {w : World} {p : Nat} {s : ByteArray} {d : Int} {k i n : Nat} (hv : ValC k) (hd : d + 1 + (k : Int) = 17) (hd1 : 0 ≤ d) (h : Ps w p s i n) (hE : Ev w p) :
    Calls Tryz.prog 48 #[.pointer (some ⟨p, 0, none⟩), .int .i64 d] w (ValR ((elemsP (elM s.data.toList (valP s.data.toList k)) 125 s.data.toList i ([], [], n)).bind fun st j => .ok (VT.mk 5 0 ⟨#[]⟩ st.2.1 st.1, st.2.2) j) p s w) := by
  have hmf : ∀ (fn : Fn) (first cap : Array Value) (w : World), (Instr.makeFunc fn first cap).run Tryz.prog w = .ok (.func fn first cap) w := fun _ _ _ _ => rfl
  have HP := Lib.hid h
  have HE := Lib.hid hE
  have HV := Lib.hid hv
  have HD := Lib.hid hd
  clear h hE hv hd
  go_enter Tryz.func48, Tryz.ntmps48
  go_upto_region 2 with (fail)
  obtain ⟨w1, hw1⟩ : ∃ w1, w1 = w.alloc (.cells #[.pointer (some ⟨p, 0, none⟩)] 59) := ⟨_, rfl⟩
  obtain ⟨w2, hw2⟩ : ∃ w2, w2 = w1.alloc (.cells #[.int .i64 d] 3) := ⟨_, rfl⟩
  obtain ⟨w3, hw3⟩ : ∃ w3, w3 = w2.alloc (.cells #[.int .i64 0, .int .i64 0, .string ⟨#[]⟩, .slice none 0 0, .slice none 0 0] 25) := ⟨_, rfl⟩
  obtain ⟨w5, hw5⟩ : ∃ w5, w5 = w3.alloc (.cells #[.int .i64 5, .int .i64 0, .string ⟨#[]⟩, .slice none 0 0, .slice none 0 0] 25) := ⟨_, rfl⟩
  have z1 : w1.heap.size = w.heap.size + 1 := by rw [hw1, World.size_alloc]
  have z2 : w2.heap.size = w.heap.size + 1 + 1 := by rw [hw2, World.size_alloc, z1]
  have z3 : w3.heap.size = w.heap.size + 1 + 1 + 1 := by rw [hw3, World.size_alloc, z2]
  have z5 : w5.heap.size = w.heap.size + 1 + 1 + 1 + 1 := by rw [hw5, World.size_alloc, z3]
  have B5 : Hid (Below w.heap.size w w5) := Lib.hid (by
    rw [hw5, hw3, hw2, hw1]
    exact ((((Below.refl _ _).alloc (Nat.le_refl _) _).alloc (by simp) _).alloc (by simp; omega) _).alloc (by simp; omega) _)
  have KP : Hid (Bk w5 w.heap.size 59 #[.pointer (some ⟨p, 0, none⟩)]) := Lib.hid (by rw [hw5, hw3, hw2, hw1]; exact (((Bk.new w _ _).alloc _).alloc _).alloc _)
  have KD : Hid (Bk w5 (w.heap.size + 1) 3 #[.int .i64 d]) := Lib.hid (by rw [← z1, hw5, hw3, hw2]; exact ((Bk.new w1 _ _).alloc _).alloc _)
  have KR : Hid (Bk w5 (w.heap.size + 1 + 1) 25 #[.int .i64 0, .int .i64 0, .string ⟨#[]⟩, .slice none 0 0, .slice none 0 0]) := Lib.hid (by rw [← z2, hw5, hw3]; exact (Bk.new w2 _ _).alloc _)
  have KV : Hid (Bk w5 (w.heap.size + 1 + 1 + 1) 25 #[.int .i64 5, .int .i64 0, .string ⟨#[]⟩, .slice none 0 0, .slice none 0 0]) := Lib.hid (by rw [← z3, hw5]; exact Bk.new w3 _ _)
  have P5 : Hid (Ps w5 p s i n) := Lib.hid (HP.out.frs (FrS.of_below (S := fun _ => False) B5.out) (fun h => h))
  have E5 : Hid (Ev w5 p) := Lib.hid (HE.out.one (FrS.of_below B5.out))
  have hpw := HP.out.1.lt
  have hg1 : 2 < w.heap.size := by obtain ⟨⟨a, b, h⟩, _⟩ := HE.out; exact World.block_lt_of_cell? w _ h
  have hg2 : 3 < w.heap.size := by obtain ⟨_, ⟨a, b, h⟩, _⟩ := HE.out; exact World.block_lt_of_cell? w _ h
  have LW : Hid (Low w5 p (w.heap.size + 1 + 1 + 1) w.heap.size (w.heap.size + 1)) := Lib.hid ⟨by omega, by omega, by omega, by omega, by omega, by omega, by omega, by omega, by omega, by omega, by omega, by omega, by omega⟩
  have L0 : Hid (MSt w5 p (w.heap.size + 1 + 1 + 1) w.heap.size (w.heap.size + 1) s d ([], [], n) i w5) := Lib.hid ⟨FrS.refl _ _, P5.out, E5.out, KP.out, KD.out, LW.out, rfl, rfl, (fun _ h => by cases h), none, 0, none, 0, [], KV.out, World.ownsRow_nil _ _ _ _, World.ownsRow_nil _ _ _ _, rfl⟩
  have Z5 := Lib.hid z5
  have cp := KP.out.cell 0
  change _ = some (Value.pointer (some ⟨p, 0, none⟩)) at cp
  have HL := Lib.hid (elements_pairs HV.out HD.out hd1 L0.out rfl)
  rw [← hw1, ← hw2, ← hw3, ← hw5]
  clear hw1 hw2 hw3 hw5 z1 z2 z3 z5 hg1 hg2 hpw
  go_wp2_with fail
  refine (HL.out).mono ?_
  rintro _ w6 (⟨st, j, hr, rfl, hs⟩ | ⟨j, e, hr, rfl, hf⟩)
  · obtain ⟨A, c, A2, c2, cs, q1, q2, q3, q4⟩ := hs.out.row
    have Q1 := Lib.hid q1
    have FW : Hid (FrS (One p) w w6) := Lib.hid ((FrS.of_below (S := One p) B5.out).next hs.out.fr (fun i hi h => by
      rcases h with h | h
      · exact h
      · omega))
    have KR6 := Lib.hid (hs.out.fr.bk KR.out (fun h => by
      rcases h with h | h
      · have := HP.out.1.lt; omega
      · omega))
    have LI := Lib.hid (items_liesK q2 q3 q4 rfl hs.out.len hs.out.ksz (by omega) (K := 5))
    obtain ⟨m, hm⟩ : ∃ m, m = st.2.1.length := ⟨_, rfl⟩
    rw [← hm] at Q1 LI
    have v0 := Q1.out.cell 0
    have v1 := Q1.out.cell 1
    have v2 := Q1.out.cell 2
    have v3 := Q1.out.cell 3
    have v4 := Q1.out.cell 4
    have d0 := KR6.out.cell 0
    have d1 := KR6.out.cell 1
    have d2 := KR6.out.cell 2
    have d3 := KR6.out.cell 3
    have d4 := KR6.out.cell 4
    have f0 := KR6.out.frozen 0
    have f1 := KR6.out.frozen 1
    have f2 := KR6.out.frozen 2
    have f3 := KR6.out.frozen 3
    have f4 := KR6.out.frozen 4
    clear hm cp q1 q2 q3 q4
    go_wp2
    obtain ⟨wf, hwf⟩ : ∃ wf, wf = put5 w6 (w.heap.size + 1 + 1) 0 (.int .i64 5) (.int .i64 0) (.string ⟨#[]⟩) (.slice A m c) (.slice A2 m c2) := ⟨_, rfl⟩
    have QF : Hid (Bk wf (w.heap.size + 1 + 1) 25 #[.int .i64 5, .int .i64 0, .string ⟨#[]⟩, .slice A m c, (.slice A2 m c2)]) := Lib.hid (by rw [hwf]; exact put5_bk KR6.out)
    have PF : Hid (Ps wf p s j st.2.2) := Lib.hid (by rw [hwf]; exact hs.out.ps.bk (put5_bk_far hs.out.ps.1 (by have := HP.out.1.lt; omega)))
    have FF : Hid (FrS (One p) w wf) := Lib.hid (by rw [hwf]; exact frs_put5 FW.out (by omega))
    have LF : Hid (Lies wf (New w wf) (VT.mk 5 0 ⟨#[]⟩ st.2.1 st.1) (.agg #[.int .i64 5, .int .i64 0, .string ⟨#[]⟩, .slice A m c, (.slice A2 m c2)])) := Lib.hid (by
      rw [hwf]
      exact LI.out.keep (fun q hq => World.cell?_of_block (put5_far (by have := hq.1; have := Z5.out; omega))) (fun b hb => ⟨by have := hb.1; have := Z5.out; omega, by rw [put5_size]; exact hb.2⟩))
    have HRR : Hid ((elemsP (elM s.data.toList (valP s.data.toList k)) 125 s.data.toList i ([], [], n)).bind (fun st j => PR.ok (VT.mk 5 0 ⟨#[]⟩ st.2.1 st.1, st.2.2) j) = .ok (VT.mk 5 0 ⟨#[]⟩ st.2.1 st.1, st.2.2) j) := Lib.hid (by rw [hr.out]; rfl)
    change bodyPost _ _ _ _ _ (put5 w6 (w.heap.size + 1 + 1) 0 (.int .i64 5) (.int .i64 0) (.string ⟨#[]⟩) (.slice A m c) (.slice A2 m c2))
    rw [← hwf]
    refine bodyPost_ret (results_cell_row rfl _ _ (w.heap.size + 1 + 1) 25 _ (0, 0) _ rfl QF.out Tryz.underlying25 rfl (by kernel_rfl)) rfl ?_
    exact .inl ⟨5, 0, ⟨#[]⟩, A, m, c, A2, m, c2, VT.mk 5 0 ⟨#[]⟩ st.2.1 st.1, st.2.2, j, rfl, HRR, LF, PF, FF⟩
  · have HRR : Hid ((elemsP (elM s.data.toList (valP s.data.toList k)) 125 s.data.toList i ([], [], n)).bind (fun st j => PR.ok (VT.mk 5 0 ⟨#[]⟩ st.2.1 st.1, st.2.2) j) = .err j e) := Lib.hid (by rw [hr.out]; rfl)
    exact ⟨rfl, .inr ⟨j, e, HRR, rfl, Lib.hid ((FrS.of_below (S := One p) B5.out).next hf.out (fun i hi h => by
      rcases h with h | h
      · exact h
      · omega))⟩⟩
end Go.Proofs.YtlgmhhimbabkjaaGreatDoor
namespace Go.Proofs.YtlgmhhimbabkjaaGreatDoor
open Go.RowKit

theorem BoolT (w : World) : Calls Tryz.prog 44 #[.bool true] w (Gives (.agg #[.int .i64 1, .int .i64 1, .string ⟨#[]⟩, .slice none 0 0, .slice none 0 0]) w) := Bool_any true w
theorem BoolF (w : World) : Calls Tryz.prog 44 #[.bool false] w (Gives (.agg #[.int .i64 1, .int .i64 0, .string ⟨#[]⟩, .slice none 0 0, .slice none 0 0]) w) := Bool_any false w
theorem numE_bounds {l : List UInt8} {a j j2 : Nat} {v : Int} (h : numE l a j = .ok v j2) : -9223372036854775808 ≤ v ∧ v ≤ 9223372036854775807 := by
  unfold numE at h
  split at h
  · rename_i x hx
    injection h with h _
    subst h
    exact Lib.atoiAll_bounds hx
  · cases h
theorem intP_bounds {l : List UInt8} {c : UInt8} {i j : Nat} {v : Int} (h : intP l c i = .ok v j) : -9223372036854775808 ≤ v ∧ v ≤ 9223372036854775807 := by
  unfold intP at h
  split at h
  · cases hc : tkP dig1 l i with
    | err b e => rw [hc] at h; cases h
    | ok x j2 => rw [hc, PR.bind_ok] at h; exact numE_bounds h
  · split at h
    · cases h
    · exact numE_bounds h
theorem Ps.up {w : World} {p : Nat} {s : ByteArray} {i n : Nat} (h : Ps w p s i n) (hn : n < 1000) : Ps (w.setCell ⟨p, 2, none⟩ (.int .i64 ((n : Int) + 1))) p s i (n + 1) := by
  refine ⟨?_, h.2.1, h.2.2.1, hn⟩
  have := h.1.put 2 (.int .i64 ((n : Int) + 1))
  simpa using this

set_option maxRecDepth 100000 in
set_option maxHeartbeats 4000000 in
theorem value_0 : ValC 0 := by
  intro w p s i n d hd hd0 h hE
  have HP := Lib.hid h
  have NQ : Hid (w.heap.size ≠ p) := Lib.hid (by have := h.1.lt; omega)
  clear h hE
  go_enter Tryz.func24, Tryz.ntmps24
  go_upto_region 1 with (fail)
  obtain ⟨w1, hw1⟩ : ∃ w1, w1 = w.alloc (.cells #[.int .i64 0, .int .i64 0, .string ⟨#[]⟩, .slice none 0 0, .slice none 0 0] 25) := ⟨_, rfl⟩
  have KR1 : Hid (Bk w1 w.heap.size 25 #[.int .i64 0, .int .i64 0, .string ⟨#[]⟩, .slice none 0 0, .slice none 0 0]) := Lib.hid (by rw [hw1]; exact Bk.new _ _ _)
  have F1 : Hid (FrS (One p) w w1) := Lib.hid (by rw [hw1]; exact FrS.of_below ((Below.refl _ _).alloc (Nat.le_refl _) _))
  have P1 : Hid (Ps w1 p s i n) := Lib.hid ⟨by rw [hw1]; exact HP.out.1.alloc _, HP.out.2⟩
  rw [← hw1]
  clear hw1
  go_wp2_with fail
  refine (blanks_any P1.out).mono ?_
  rintro _ w2 ⟨rfl, hp2, hf2⟩
  have P2 := Lib.hid hp2
  have F2 := Lib.hid (F1.out.trans hf2)
  have KR2 := Lib.hid (hf2.bk KR1.out (fun e => NQ.out e))
  have c1 := P2.out.1.cell 1
  clear hp2 hf2
  go_wp2_with fail
  refine (take_any P2.out set_sta).mono ?_
  rintro _ w3 (⟨c, j, hr3, rfl, hp3, hf3⟩ | ⟨j, e3, hr3, rfl, hf3⟩)
  · have F3 := Lib.hid (F2.out.trans hf3.out)
    have KR3 := Lib.hid (hf3.out.bk KR2.out (fun e => NQ.out e))
    have c2 := hp3.out.1.cell 2
    have fz := hp3.out.1.frozen 2
    unfold byteV
    clear c1
    have t16 : decide (d ≤ 16) = false := by rw [decide_eq_false_iff_not]; omega
    go_wp2_with fail
    refine (require_any _ _ (skip s.data.toList i) 7 _).mono ?_
    rintro _ _ (⟨hb, rfl, rfl⟩ | ⟨hb, rfl, rfl⟩)
    · simp at hb
    · exact ⟨rfl, .inr ⟨_, 7, Lib.hid (by rw [valP, hr3.out]; rfl), rfl, F3⟩⟩
  · exact ⟨rfl, .inr ⟨j, e3, Lib.hid (by rw [valP, hr3.out]; rfl), rfl, Lib.hid (F2.out.trans hf3.out)⟩⟩

set_option maxRecDepth 100000 in
set_option maxHeartbeats 32000000 in
theorem value_s {k : Nat} (hv : ValC k) : ValC (k + 1) := by
  intro w p s i n d hd0 hd00 h hE
  have HV := Lib.hid hv
  have HD : Hid (d + 1 + (k : Int) = 17) := Lib.hid (by omega)
  clear hv
  have hd1 : 0 ≤ d := by omega
  have HP := Lib.hid h
  have HE := Lib.hid hE
  have NQ : Hid (w.heap.size ≠ p) := Lib.hid (by have := h.1.lt; omega)
  clear h hE
  go_enter Tryz.func24, Tryz.ntmps24
  go_upto_region 1 with (fail)
  obtain ⟨w1, hw1⟩ : ∃ w1, w1 = w.alloc (.cells #[.int .i64 0, .int .i64 0, .string ⟨#[]⟩, .slice none 0 0, .slice none 0 0] 25) := ⟨_, rfl⟩
  have KR1 : Hid (Bk w1 w.heap.size 25 #[.int .i64 0, .int .i64 0, .string ⟨#[]⟩, .slice none 0 0, .slice none 0 0]) := Lib.hid (by rw [hw1]; exact Bk.new _ _ _)
  have F1 : Hid (FrS (One p) w w1) := Lib.hid (by rw [hw1]; exact FrS.of_below ((Below.refl _ _).alloc (Nat.le_refl _) _))
  have P1 : Hid (Ps w1 p s i n) := Lib.hid ⟨by rw [hw1]; exact HP.out.1.alloc _, HP.out.2⟩
  rw [← hw1]
  clear hw1
  go_wp2_with fail
  refine (blanks_any P1.out).mono ?_
  rintro _ w2 ⟨rfl, hp2, hf2⟩
  have P2 := Lib.hid hp2
  have F2 := Lib.hid (F1.out.trans hf2)
  have KR2 := Lib.hid (hf2.bk KR1.out (fun e => NQ.out e))
  have c1 := P2.out.1.cell 1
  clear hp2 hf2
  go_wp2_with fail
  refine (take_any P2.out set_sta).mono ?_
  rintro _ w3 (⟨c, j, hr3, rfl, hp3, hf3⟩ | ⟨j, e3, hr3, rfl, hf3⟩)
  · have F3 := Lib.hid (F2.out.trans hf3.out)
    have KR3 := Lib.hid (hf3.out.bk KR2.out (fun e => NQ.out e))
    have c2 := hp3.out.1.cell 2
    have fz := hp3.out.1.frozen 2
    unfold byteV
    clear c1
    have HJ1 : Hid (1 ≤ j) := Lib.hid (by have := (tkP_in hr3.out).2.1; omega)
    have t16 : decide (d ≤ 16) = true := by rw [decide_eq_true_eq]; omega
    go_wp2_with fail
    refine (require_any _ _ (skip s.data.toList i) 7 _).mono ?_
    rintro _ _ (⟨hb, rfl, rfl⟩ | ⟨hb, rfl, rfl⟩)
    · clear hb t16
      go_wp2_with fail
      refine (require_any _ _ (skip s.data.toList i) 6 _).mono ?_
      rintro _ _ (⟨hb, rfl, rfl⟩ | ⟨hb, rfl, rfl⟩)
      · have hn : n < 1000 := by have := of_decide_eq_true hb; omega
        obtain ⟨w4, hw4⟩ : ∃ w4, w4 = w3.setCell ⟨p, 2, none⟩ (.int .i64 ((n : Int) + 1)) := ⟨_, rfl⟩
        have P4 : Hid (Ps w4 p s j (n + 1)) := Lib.hid (by rw [hw4]; exact hp3.out.up hn)
        have F34 : Hid (FrS (One p) w3 w4) := Lib.hid (by rw [hw4]; exact FrS.one w3 p 2 _)
        have F4 := Lib.hid (F3.out.trans F34.out)
        have KR4 := Lib.hid (F34.out.bk KR3.out (fun e => NQ.out e))
        have E4 := Lib.hid (HE.out.one F4.out)
        have HVA : Hid (valP s.data.toList (k + 1) i n = bodP (valP s.data.toList k) s.data.toList c j (n + 1)) := Lib.hid (by rw [valP, hr3.out, PR.bind_ok, if_neg (by omega)])
        have HW4 := Lib.hid hw4
        clear hb hw4
        go_upto_region 7 with (fail)
        rw [← HW4.out]
        clear HW4 c2 fz
        by_cases hc110 : c = 110
        · have h110 : ((c.toNat : Int) == 110) = true := by rw [hc110]; rfl
          have HVB : Hid (valP s.data.toList (k + 1) i n = (wrdP s.data.toList [117, 108, 108] j).bind fun _ j => .ok (nullT, n + 1) j) := Lib.hid (by rw [HVA.out]; unfold bodP; rw [if_pos hc110])
          clear hc110 
          go_wp2_with fail
          refine (rest_any ⟨#[117, 108, 108]⟩ P4.out (by decide)).mono ?_
          rintro _ w5 (⟨_, j5, hr5, rfl, hp5, hf5⟩ | ⟨j5, e5, hr5, rfl, hf5⟩)
          · go_wp2_with fail
            refine (Null_any _).mono ?_
            rintro _ wX ⟨rfl, hbX⟩
            unfold zeroV
            have PX : Hid (Ps wX p s j5 (n + 1)) := Lib.hid (hp5.out.frs (S := fun _ => False) (FrS.of_below hbX) (fun h => h))
            have FX : Hid (FrS (One p) w wX) := Lib.hid (F4.out.trans (hf5.out.trans (FrS.of_below hbX)))
            have KRX := Lib.hid ((hf5.out.trans (FrS.of_below hbX)).bk KR4.out (fun e => NQ.out e))
            clear hbX
            have d0 := KRX.out.cell 0
            have d1 := KRX.out.cell 1
            have d2 := KRX.out.cell 2
            have d3 := KRX.out.cell 3
            have d4 := KRX.out.cell 4
            have f0 := KRX.out.frozen 0
            have f1 := KRX.out.frozen 1
            have f2 := KRX.out.frozen 2
            have f3 := KRX.out.frozen 3
            have f4 := KRX.out.frozen 4
            go_wp2
            obtain ⟨wf, hwf⟩ : ∃ wf, wf = put5 wX w.heap.size 0 (.int .i64 0) (.int .i64 0) (.string ⟨#[]⟩) (.slice none 0 0) (.slice none 0 0) := ⟨_, rfl⟩
            have QF : Hid (Bk wf w.heap.size 25 #[.int .i64 0, .int .i64 0, .string ⟨#[]⟩, .slice none 0 0, .slice none 0 0]) := Lib.hid (by rw [hwf]; exact put5_bk KRX.out)
            have PF : Hid (Ps wf p s j5 (n + 1)) := Lib.hid (by rw [hwf]; exact PX.out.bk (put5_bk_far PX.out.1 (by have := NQ.out; omega)))
            have FF : Hid (FrS (One p) w wf) := Lib.hid (by rw [hwf]; exact frs_put5 FX.out (Nat.le_refl _))
            have LF : Hid (Lies wf (New w wf) (nullT) (.agg #[.int .i64 0, .int .i64 0, .string ⟨#[]⟩, .slice none 0 0, .slice none 0 0])) := Lib.hid (by
              exact zero_lies _ _)
            have HRR : Hid (valP s.data.toList (k + 1) i n = .ok (nullT, (n + 1)) j5) := Lib.hid (by
              rw [HVB.out]; show (wrdP s.data.toList [117, 108, 108] j).bind _ = _; rw [hr5.out]; rfl)
            change bodyPost _ _ _ _ _ (put5 wX w.heap.size 0 (.int .i64 0) (.int .i64 0) (.string ⟨#[]⟩) (.slice none 0 0) (.slice none 0 0))
            rw [← hwf]
            refine bodyPost_ret (results_cell_row rfl _ _ w.heap.size 25 _ (0, 0) _ rfl QF.out Tryz.underlying25 rfl (by kernel_rfl)) rfl ?_
            exact .inl ⟨_, _, _, _, _, _, _, _, _, nullT, (n + 1), j5, rfl, HRR, LF, PF, FF⟩

          · exact ⟨rfl, .inr ⟨j5, e5, Lib.hid (by rw [HVB.out]; show (wrdP s.data.toList [117, 108, 108] j).bind _ = _; rw [hr5.out]; rfl), rfl, Lib.hid (F4.out.trans hf5.out)⟩⟩
        · have h110 : ((c.toNat : Int) == 110) = false := by
            rw [beq_eq_false_iff_ne]
            intro e
            exact hc110 (UInt8.toNat_inj.1 (by show c.toNat = 110; omega))
          by_cases hc116 : c = 116
          · have h116 : ((c.toNat : Int) == 116) = true := by rw [hc116]; rfl
            have HVB : Hid (valP s.data.toList (k + 1) i n = (wrdP s.data.toList [114, 117, 101] j).bind fun _ j => .ok (.mk 1 1 ⟨#[]⟩ [] [], n + 1) j) := Lib.hid (by rw [HVA.out]; unfold bodP; rw [if_neg hc110]; rw [if_pos hc116])
            clear hc116 hc110
            go_wp2_with fail
            refine (rest_any ⟨#[114, 117, 101]⟩ P4.out (by decide)).mono ?_
            rintro _ w5 (⟨_, j5, hr5, rfl, hp5, hf5⟩ | ⟨j5, e5, hr5, rfl, hf5⟩)
            · go_wp2_with fail
              refine (BoolT _).mono ?_
              rintro _ wX ⟨rfl, hbX⟩
              have PX : Hid (Ps wX p s j5 (n + 1)) := Lib.hid (hp5.out.frs (S := fun _ => False) (FrS.of_below hbX) (fun h => h))
              have FX : Hid (FrS (One p) w wX) := Lib.hid (F4.out.trans (hf5.out.trans (FrS.of_below hbX)))
              have KRX := Lib.hid ((hf5.out.trans (FrS.of_below hbX)).bk KR4.out (fun e => NQ.out e))
              clear hbX
              have d0 := KRX.out.cell 0
              have d1 := KRX.out.cell 1
              have d2 := KRX.out.cell 2
              have d3 := KRX.out.cell 3
              have d4 := KRX.out.cell 4
              have f0 := KRX.out.frozen 0
              have f1 := KRX.out.frozen 1
              have f2 := KRX.out.frozen 2
              have f3 := KRX.out.frozen 3
              have f4 := KRX.out.frozen 4
              go_wp2
              obtain ⟨wf, hwf⟩ : ∃ wf, wf = put5 wX w.heap.size 0 (.int .i64 1) (.int .i64 1) (.string ⟨#[]⟩) (.slice none 0 0) (.slice none 0 0) := ⟨_, rfl⟩
              have QF : Hid (Bk wf w.heap.size 25 #[.int .i64 1, .int .i64 1, .string ⟨#[]⟩, .slice none 0 0, .slice none 0 0]) := Lib.hid (by rw [hwf]; exact put5_bk KRX.out)
              have PF : Hid (Ps wf p s j5 (n + 1)) := Lib.hid (by rw [hwf]; exact PX.out.bk (put5_bk_far PX.out.1 (by have := NQ.out; omega)))
              have FF : Hid (FrS (One p) w wf) := Lib.hid (by rw [hwf]; exact frs_put5 FX.out (Nat.le_refl _))
              have LF : Hid (Lies wf (New w wf) (VT.mk 1 1 ⟨#[]⟩ [] []) (.agg #[.int .i64 1, .int .i64 1, .string ⟨#[]⟩, .slice none 0 0, .slice none 0 0])) := Lib.hid (by
                exact leaf_lies (by omega) (by omega) (by decide))
              have HRR : Hid (valP s.data.toList (k + 1) i n = .ok (VT.mk 1 1 ⟨#[]⟩ [] [], (n + 1)) j5) := Lib.hid (by
                rw [HVB.out]; show (wrdP s.data.toList [114, 117, 101] j).bind _ = _; rw [hr5.out]; rfl)
              change bodyPost _ _ _ _ _ (put5 wX w.heap.size 0 (.int .i64 1) (.int .i64 1) (.string ⟨#[]⟩) (.slice none 0 0) (.slice none 0 0))
              rw [← hwf]
              refine bodyPost_ret (results_cell_row rfl _ _ w.heap.size 25 _ (0, 0) _ rfl QF.out Tryz.underlying25 rfl (by kernel_rfl)) rfl ?_
              exact .inl ⟨_, _, _, _, _, _, _, _, _, VT.mk 1 1 ⟨#[]⟩ [] [], (n + 1), j5, rfl, HRR, LF, PF, FF⟩

            · exact ⟨rfl, .inr ⟨j5, e5, Lib.hid (by rw [HVB.out]; show (wrdP s.data.toList [114, 117, 101] j).bind _ = _; rw [hr5.out]; rfl), rfl, Lib.hid (F4.out.trans hf5.out)⟩⟩
          · have h116 : ((c.toNat : Int) == 116) = false := by
              rw [beq_eq_false_iff_ne]
              intro e
              exact hc116 (UInt8.toNat_inj.1 (by show c.toNat = 116; omega))
            by_cases hc102 : c = 102
            · have h102 : ((c.toNat : Int) == 102) = true := by rw [hc102]; rfl
              have HVB : Hid (valP s.data.toList (k + 1) i n = (wrdP s.data.toList [97, 108, 115, 101] j).bind fun _ j => .ok (.mk 1 0 ⟨#[]⟩ [] [], n + 1) j) := Lib.hid (by rw [HVA.out]; unfold bodP; rw [if_neg hc110]; rw [if_neg hc116]; rw [if_pos hc102])
              clear hc102 hc110 hc116
              go_wp2_with fail
              refine (rest_any ⟨#[97, 108, 115, 101]⟩ P4.out (by decide)).mono ?_
              rintro _ w5 (⟨_, j5, hr5, rfl, hp5, hf5⟩ | ⟨j5, e5, hr5, rfl, hf5⟩)
              · go_wp2_with fail
                refine (BoolF _).mono ?_
                rintro _ wX ⟨rfl, hbX⟩
                have PX : Hid (Ps wX p s j5 (n + 1)) := Lib.hid (hp5.out.frs (S := fun _ => False) (FrS.of_below hbX) (fun h => h))
                have FX : Hid (FrS (One p) w wX) := Lib.hid (F4.out.trans (hf5.out.trans (FrS.of_below hbX)))
                have KRX := Lib.hid ((hf5.out.trans (FrS.of_below hbX)).bk KR4.out (fun e => NQ.out e))
                clear hbX
                have d0 := KRX.out.cell 0
                have d1 := KRX.out.cell 1
                have d2 := KRX.out.cell 2
                have d3 := KRX.out.cell 3
                have d4 := KRX.out.cell 4
                have f0 := KRX.out.frozen 0
                have f1 := KRX.out.frozen 1
                have f2 := KRX.out.frozen 2
                have f3 := KRX.out.frozen 3
                have f4 := KRX.out.frozen 4
                go_wp2
                obtain ⟨wf, hwf⟩ : ∃ wf, wf = put5 wX w.heap.size 0 (.int .i64 1) (.int .i64 0) (.string ⟨#[]⟩) (.slice none 0 0) (.slice none 0 0) := ⟨_, rfl⟩
                have QF : Hid (Bk wf w.heap.size 25 #[.int .i64 1, .int .i64 0, .string ⟨#[]⟩, .slice none 0 0, .slice none 0 0]) := Lib.hid (by rw [hwf]; exact put5_bk KRX.out)
                have PF : Hid (Ps wf p s j5 (n + 1)) := Lib.hid (by rw [hwf]; exact PX.out.bk (put5_bk_far PX.out.1 (by have := NQ.out; omega)))
                have FF : Hid (FrS (One p) w wf) := Lib.hid (by rw [hwf]; exact frs_put5 FX.out (Nat.le_refl _))
                have LF : Hid (Lies wf (New w wf) (VT.mk 1 0 ⟨#[]⟩ [] []) (.agg #[.int .i64 1, .int .i64 0, .string ⟨#[]⟩, .slice none 0 0, .slice none 0 0])) := Lib.hid (by
                  exact leaf_lies (by omega) (by omega) (by decide))
                have HRR : Hid (valP s.data.toList (k + 1) i n = .ok (VT.mk 1 0 ⟨#[]⟩ [] [], (n + 1)) j5) := Lib.hid (by
                  rw [HVB.out]; show (wrdP s.data.toList [97, 108, 115, 101] j).bind _ = _; rw [hr5.out]; rfl)
                change bodyPost _ _ _ _ _ (put5 wX w.heap.size 0 (.int .i64 1) (.int .i64 0) (.string ⟨#[]⟩) (.slice none 0 0) (.slice none 0 0))
                rw [← hwf]
                refine bodyPost_ret (results_cell_row rfl _ _ w.heap.size 25 _ (0, 0) _ rfl QF.out Tryz.underlying25 rfl (by kernel_rfl)) rfl ?_
                exact .inl ⟨_, _, _, _, _, _, _, _, _, VT.mk 1 0 ⟨#[]⟩ [] [], (n + 1), j5, rfl, HRR, LF, PF, FF⟩

              · exact ⟨rfl, .inr ⟨j5, e5, Lib.hid (by rw [HVB.out]; show (wrdP s.data.toList [97, 108, 115, 101] j).bind _ = _; rw [hr5.out]; rfl), rfl, Lib.hid (F4.out.trans hf5.out)⟩⟩
            · have h102 : ((c.toNat : Int) == 102) = false := by
                rw [beq_eq_false_iff_ne]
                intro e
                exact hc102 (UInt8.toNat_inj.1 (by show c.toNat = 102; omega))
              by_cases hc34 : c = 34
              · have h34 : ((c.toNat : Int) == 34) = true := by rw [hc34]; rfl
                have HVB : Hid (valP s.data.toList (k + 1) i n = (litP s.data.toList j).bind fun s j => .ok (.mk 3 0 s [] [], n + 1) j) := Lib.hid (by rw [HVA.out]; unfold bodP; rw [if_neg hc110]; rw [if_neg hc116]; rw [if_neg hc102]; rw [if_pos hc34])
                clear hc34 hc110 hc116 hc102
                go_wp2_with fail
                refine (literal_any P4.out HJ1.out).mono ?_
                rintro _ w5 (⟨t, j5, hr5, rfl, hp5, hf5⟩ | ⟨j5, e5, hr5, rfl, hf5⟩)
                · unfold strV
                  go_wp2_with fail
                  refine (Text_any t _).mono ?_
                  rintro _ wX ⟨rfl, hbX⟩
                  have PX : Hid (Ps wX p s j5 (n + 1)) := Lib.hid (hp5.out.frs (S := fun _ => False) (FrS.of_below hbX) (fun h => h))
                  have FX : Hid (FrS (One p) w wX) := Lib.hid (F4.out.trans (hf5.out.trans (FrS.of_below hbX)))
                  have KRX := Lib.hid ((hf5.out.trans (FrS.of_below hbX)).bk KR4.out (fun e => NQ.out e))
                  clear hbX
                  have d0 := KRX.out.cell 0
                  have d1 := KRX.out.cell 1
                  have d2 := KRX.out.cell 2
                  have d3 := KRX.out.cell 3
                  have d4 := KRX.out.cell 4
                  have f0 := KRX.out.frozen 0
                  have f1 := KRX.out.frozen 1
                  have f2 := KRX.out.frozen 2
                  have f3 := KRX.out.frozen 3
                  have f4 := KRX.out.frozen 4
                  go_wp2
                  obtain ⟨wf, hwf⟩ : ∃ wf, wf = put5 wX w.heap.size 0 (.int .i64 3) (.int .i64 0) (.string t) (.slice none 0 0) (.slice none 0 0) := ⟨_, rfl⟩
                  have QF : Hid (Bk wf w.heap.size 25 #[.int .i64 3, .int .i64 0, .string t, .slice none 0 0, .slice none 0 0]) := Lib.hid (by rw [hwf]; exact put5_bk KRX.out)
                  have PF : Hid (Ps wf p s j5 (n + 1)) := Lib.hid (by rw [hwf]; exact PX.out.bk (put5_bk_far PX.out.1 (by have := NQ.out; omega)))
                  have FF : Hid (FrS (One p) w wf) := Lib.hid (by rw [hwf]; exact frs_put5 FX.out (Nat.le_refl _))
                  have LF : Hid (Lies wf (New w wf) (VT.mk 3 0 t [] []) (.agg #[.int .i64 3, .int .i64 0, .string t, .slice none 0 0, .slice none 0 0])) := Lib.hid (by
                    exact leaf_lies (by omega) (by omega) (by have := litP_size hr5.out; omega))
                  have HRR : Hid (valP s.data.toList (k + 1) i n = .ok (VT.mk 3 0 t [] [], (n + 1)) j5) := Lib.hid (by
                    rw [HVB.out]; show (litP s.data.toList j).bind _ = _; rw [hr5.out]; rfl)
                  change bodyPost _ _ _ _ _ (put5 wX w.heap.size 0 (.int .i64 3) (.int .i64 0) (.string t) (.slice none 0 0) (.slice none 0 0))
                  rw [← hwf]
                  refine bodyPost_ret (results_cell_row rfl _ _ w.heap.size 25 _ (0, 0) _ rfl QF.out Tryz.underlying25 rfl (by kernel_rfl)) rfl ?_
                  exact .inl ⟨_, _, _, _, _, _, _, _, _, VT.mk 3 0 t [] [], (n + 1), j5, rfl, HRR, LF, PF, FF⟩

                · exact ⟨rfl, .inr ⟨j5, e5, Lib.hid (by rw [HVB.out]; show (litP s.data.toList j).bind _ = _; rw [hr5.out]; rfl), rfl, Lib.hid (F4.out.trans hf5.out)⟩⟩
              · have h34 : ((c.toNat : Int) == 34) = false := by
                  rw [beq_eq_false_iff_ne]
                  intro e
                  exact hc34 (UInt8.toNat_inj.1 (by show c.toNat = 34; omega))
                by_cases hc91 : c = 91
                · have h91 : ((c.toNat : Int) == 91) = true := by rw [hc91]; rfl
                  have HVB : Hid (valP s.data.toList (k + 1) i n = (elemsP (elL (valP s.data.toList k)) 93 s.data.toList j ([], n + 1)).bind fun st j => .ok (VT.mk 4 0 ⟨#[]⟩ st.1 [], st.2) j) := Lib.hid (by rw [HVA.out]; unfold bodP; rw [if_neg hc110]; rw [if_neg hc116]; rw [if_neg hc102]; rw [if_neg hc34]; rw [if_pos hc91])
                  clear hc91 hc110 hc116 hc102 hc34
                  go_wp2_with fail
                  refine (list_any HV.out HD.out hd1 P4.out E4.out).mono ?_
                  rintro _ wX (⟨k5, i5, t5, A5, m5, c5, A6, m6, c6, x, n5, j5, rfl, hr5, hl5, PX, hf5⟩ | ⟨j5, e5, hr5, rfl, hf5⟩)
                  · skip
                    have FX : Hid (FrS (One p) w wX) := Lib.hid (F4.out.trans (hf5.out))
                    have KRX := Lib.hid ((hf5.out).bk KR4.out (fun e => NQ.out e))
                    have d0 := KRX.out.cell 0
                    have d1 := KRX.out.cell 1
                    have d2 := KRX.out.cell 2
                    have d3 := KRX.out.cell 3
                    have d4 := KRX.out.cell 4
                    have f0 := KRX.out.frozen 0
                    have f1 := KRX.out.frozen 1
                    have f2 := KRX.out.frozen 2
                    have f3 := KRX.out.frozen 3
                    have f4 := KRX.out.frozen 4
                    go_wp2
                    obtain ⟨wf, hwf⟩ : ∃ wf, wf = put5 wX w.heap.size 0 (.int .i64 k5) (.int .i64 i5) (.string t5) (.slice A5 m5 c5) (.slice A6 m6 c6) := ⟨_, rfl⟩
                    have QF : Hid (Bk wf w.heap.size 25 #[.int .i64 k5, .int .i64 i5, .string t5, .slice A5 m5 c5, .slice A6 m6 c6]) := Lib.hid (by rw [hwf]; exact put5_bk KRX.out)
                    have PF : Hid (Ps wf p s j5 n5) := Lib.hid (by rw [hwf]; exact PX.out.bk (put5_bk_far PX.out.1 (by have := NQ.out; omega)))
                    have FF : Hid (FrS (One p) w wf) := Lib.hid (by rw [hwf]; exact frs_put5 FX.out (Nat.le_refl _))
                    have LF : Hid (Lies wf (New w wf) (x) (.agg #[.int .i64 k5, .int .i64 i5, .string t5, .slice A5 m5 c5, .slice A6 m6 c6])) := Lib.hid (by
                      rw [hwf]; exact hl5.out.keep (fun q hq => World.cell?_of_block (put5_far (by have := hq.1; have := KR4.out.lt; omega))) (fun b hb => ⟨by have := hb.1; have := F4.out.size; omega, by rw [put5_size]; exact hb.2⟩))
                    have HRR : Hid (valP s.data.toList (k + 1) i n = .ok (x, n5) j5) := Lib.hid (by
                      rw [HVB.out]; exact hr5.out)
                    change bodyPost _ _ _ _ _ (put5 wX w.heap.size 0 (.int .i64 k5) (.int .i64 i5) (.string t5) (.slice A5 m5 c5) (.slice A6 m6 c6))
                    rw [← hwf]
                    refine bodyPost_ret (results_cell_row rfl _ _ w.heap.size 25 _ (0, 0) _ rfl QF.out Tryz.underlying25 rfl (by kernel_rfl)) rfl ?_
                    exact .inl ⟨_, _, _, _, _, _, _, _, _, x, n5, j5, rfl, HRR, LF, PF, FF⟩

                  · exact ⟨rfl, .inr ⟨j5, e5, Lib.hid (by rw [HVB.out]; exact hr5.out), rfl, Lib.hid (F4.out.trans hf5.out)⟩⟩
                · have h91 : ((c.toNat : Int) == 91) = false := by
                    rw [beq_eq_false_iff_ne]
                    intro e
                    exact hc91 (UInt8.toNat_inj.1 (by show c.toNat = 91; omega))
                  by_cases hc123 : c = 123
                  · have h123 : ((c.toNat : Int) == 123) = true := by rw [hc123]; rfl
                    have HVB : Hid (valP s.data.toList (k + 1) i n = (elemsP (elM s.data.toList (valP s.data.toList k)) 125 s.data.toList j ([], [], n + 1)).bind fun st j => .ok (VT.mk 5 0 ⟨#[]⟩ st.2.1 st.1, st.2.2) j) := Lib.hid (by rw [HVA.out]; unfold bodP; rw [if_neg hc110]; rw [if_neg hc116]; rw [if_neg hc102]; rw [if_neg hc34]; rw [if_neg hc91]; rw [if_pos hc123])
                    clear hc123 hc110 hc116 hc102 hc34 hc91
                    go_wp2_with fail
                    refine (pairs_any HV.out HD.out hd1 P4.out E4.out).mono ?_
                    rintro _ wX (⟨k5, i5, t5, A5, m5, c5, A6, m6, c6, x, n5, j5, rfl, hr5, hl5, PX, hf5⟩ | ⟨j5, e5, hr5, rfl, hf5⟩)
                    · skip
                      have FX : Hid (FrS (One p) w wX) := Lib.hid (F4.out.trans (hf5.out))
                      have KRX := Lib.hid ((hf5.out).bk KR4.out (fun e => NQ.out e))
                      have d0 := KRX.out.cell 0
                      have d1 := KRX.out.cell 1
                      have d2 := KRX.out.cell 2
                      have d3 := KRX.out.cell 3
                      have d4 := KRX.out.cell 4
                      have f0 := KRX.out.frozen 0
                      have f1 := KRX.out.frozen 1
                      have f2 := KRX.out.frozen 2
                      have f3 := KRX.out.frozen 3
                      have f4 := KRX.out.frozen 4
                      go_wp2
                      obtain ⟨wf, hwf⟩ : ∃ wf, wf = put5 wX w.heap.size 0 (.int .i64 k5) (.int .i64 i5) (.string t5) (.slice A5 m5 c5) (.slice A6 m6 c6) := ⟨_, rfl⟩
                      have QF : Hid (Bk wf w.heap.size 25 #[.int .i64 k5, .int .i64 i5, .string t5, .slice A5 m5 c5, .slice A6 m6 c6]) := Lib.hid (by rw [hwf]; exact put5_bk KRX.out)
                      have PF : Hid (Ps wf p s j5 n5) := Lib.hid (by rw [hwf]; exact PX.out.bk (put5_bk_far PX.out.1 (by have := NQ.out; omega)))
                      have FF : Hid (FrS (One p) w wf) := Lib.hid (by rw [hwf]; exact frs_put5 FX.out (Nat.le_refl _))
                      have LF : Hid (Lies wf (New w wf) (x) (.agg #[.int .i64 k5, .int .i64 i5, .string t5, .slice A5 m5 c5, .slice A6 m6 c6])) := Lib.hid (by
                        rw [hwf]; exact hl5.out.keep (fun q hq => World.cell?_of_block (put5_far (by have := hq.1; have := KR4.out.lt; omega))) (fun b hb => ⟨by have := hb.1; have := F4.out.size; omega, by rw [put5_size]; exact hb.2⟩))
                      have HRR : Hid (valP s.data.toList (k + 1) i n = .ok (x, n5) j5) := Lib.hid (by
                        rw [HVB.out]; exact hr5.out)
                      change bodyPost _ _ _ _ _ (put5 wX w.heap.size 0 (.int .i64 k5) (.int .i64 i5) (.string t5) (.slice A5 m5 c5) (.slice A6 m6 c6))
                      rw [← hwf]
                      refine bodyPost_ret (results_cell_row rfl _ _ w.heap.size 25 _ (0, 0) _ rfl QF.out Tryz.underlying25 rfl (by kernel_rfl)) rfl ?_
                      exact .inl ⟨_, _, _, _, _, _, _, _, _, x, n5, j5, rfl, HRR, LF, PF, FF⟩

                    · exact ⟨rfl, .inr ⟨j5, e5, Lib.hid (by rw [HVB.out]; exact hr5.out), rfl, Lib.hid (F4.out.trans hf5.out)⟩⟩
                  · have h123 : ((c.toNat : Int) == 123) = false := by
                      rw [beq_eq_false_iff_ne]
                      intro e
                      exact hc123 (UInt8.toNat_inj.1 (by show c.toNat = 123; omega))
                    have HVB : Hid (valP s.data.toList (k + 1) i n = (intP s.data.toList c j).bind fun v j => .ok (.mk 2 v ⟨#[]⟩ [] [], n + 1) j) := Lib.hid (by rw [HVA.out]; unfold bodP; rw [if_neg hc110]; rw [if_neg hc116]; rw [if_neg hc102]; rw [if_neg hc34]; rw [if_neg hc91]; rw [if_neg hc123])
                    clear hc110
                    clear hc116
                    clear hc102
                    clear hc34
                    clear hc91
                    clear hc123

                    go_wp2_with fail
                    refine (integer_any c P4.out HJ1.out E4.out).mono ?_
                    rintro _ wX (⟨v, j5, hr5, rfl, PX, hf5⟩ | ⟨j5, e5, hr5, rfl, hf5⟩)
                    · unfold intV
                      have FX : Hid (FrS (One p) w wX) := Lib.hid (F4.out.trans (hf5.out))
                      have KRX := Lib.hid ((hf5.out).bk KR4.out (fun e => NQ.out e))
                      have d0 := KRX.out.cell 0
                      have d1 := KRX.out.cell 1
                      have d2 := KRX.out.cell 2
                      have d3 := KRX.out.cell 3
                      have d4 := KRX.out.cell 4
                      have f0 := KRX.out.frozen 0
                      have f1 := KRX.out.frozen 1
                      have f2 := KRX.out.frozen 2
                      have f3 := KRX.out.frozen 3
                      have f4 := KRX.out.frozen 4
                      go_wp2
                      obtain ⟨wf, hwf⟩ : ∃ wf, wf = put5 wX w.heap.size 0 (.int .i64 2) (.int .i64 v) (.string ⟨#[]⟩) (.slice none 0 0) (.slice none 0 0) := ⟨_, rfl⟩
                      have QF : Hid (Bk wf w.heap.size 25 #[.int .i64 2, .int .i64 v, .string ⟨#[]⟩, .slice none 0 0, .slice none 0 0]) := Lib.hid (by rw [hwf]; exact put5_bk KRX.out)
                      have PF : Hid (Ps wf p s j5 (n + 1)) := Lib.hid (by rw [hwf]; exact PX.out.bk (put5_bk_far PX.out.1 (by have := NQ.out; omega)))
                      have FF : Hid (FrS (One p) w wf) := Lib.hid (by rw [hwf]; exact frs_put5 FX.out (Nat.le_refl _))
                      have LF : Hid (Lies wf (New w wf) (VT.mk 2 v ⟨#[]⟩ [] []) (.agg #[.int .i64 2, .int .i64 v, .string ⟨#[]⟩, .slice none 0 0, .slice none 0 0])) := Lib.hid (by
                        exact leaf_lies (by omega) (intP_bounds hr5.out) (by decide))
                      have HRR : Hid (valP s.data.toList (k + 1) i n = .ok (VT.mk 2 v ⟨#[]⟩ [] [], (n + 1)) j5) := Lib.hid (by
                        rw [HVB.out]; show (intP s.data.toList c j).bind _ = _; rw [hr5.out]; rfl)
                      change bodyPost _ _ _ _ _ (put5 wX w.heap.size 0 (.int .i64 2) (.int .i64 v) (.string ⟨#[]⟩) (.slice none 0 0) (.slice none 0 0))
                      rw [← hwf]
                      refine bodyPost_ret (results_cell_row rfl _ _ w.heap.size 25 _ (0, 0) _ rfl QF.out Tryz.underlying25 rfl (by kernel_rfl)) rfl ?_
                      exact .inl ⟨_, _, _, _, _, _, _, _, _, VT.mk 2 v ⟨#[]⟩ [] [], (n + 1), j5, rfl, HRR, LF, PF, FF⟩

                    · exact ⟨rfl, .inr ⟨j5, e5, Lib.hid (by rw [HVB.out]; show (intP s.data.toList c j).bind _ = _; rw [hr5.out]; rfl), rfl, Lib.hid (F4.out.trans hf5.out)⟩⟩
      · have hn : 1000 ≤ n := by have := of_decide_eq_false hb; omega
        exact ⟨rfl, .inr ⟨_, 6, Lib.hid (by rw [valP, hr3.out, PR.bind_ok, if_pos hn]), rfl, F3⟩⟩
    · simp at hb
  · exact ⟨rfl, .inr ⟨j, e3, Lib.hid (by rw [valP, hr3.out]; rfl), rfl, Lib.hid (F2.out.trans hf3.out)⟩⟩

theorem value_any : ∀ k, ValC k
  | 0 => value_0
  | k + 1 => value_s (value_any k)
end Go.Proofs.YtlgmhhimbabkjaaGreatDoor
namespace Go.Proofs.YtlgmhhimbabkjaaGreatDoor
open Go.RowKit

/-- the walk's goal, shut: laid open by no unifier -/
structure WS (P : Program) (ops : Array Oper) (Q : Exit → Act → List Frame → World → Prop) (l : List Nat) (a : Act) (cs : List Frame) (w : World) : Prop where
  out : wpOpsS P ops Q l a cs w
theorem wpOpsS_step {P : Program} {ops : Array Oper} {Q : Exit → Act → List Frame → World → Prop} {i : Nat} {rest : List Nat} {a : Act} {cs : List Frame} {w : World}
    (h : ∀ K : Act → List Frame → World → Prop, (∀ a cs w, WS P ops Q rest a cs w → K a cs w) →
      match ops[i]? with
      | none => K a cs w
      | some o =>
        if Region.wanted o (yielded ops a.tmps) then
          match (execOp a.eval o).run P w with
          | .ok .recover w' =>
            match recoverD cs with
            | some (v, cs') => K (a.put o.dst v) cs' w'
            | none => K (a.put o.dst .nilIface) cs w'
          | r => o.upon P a (fun a' w' => K a' cs w') (fun e a' w' => Q e a' cs w') r
        else K (a.put o.dst undef) cs w) : WS P ops Q (i :: rest) a cs w := ⟨h (fun a cs w => wpOpsS P ops Q rest a cs w) (fun _ _ _ h => h.out)⟩
theorem WS.done {P : Program} {ops : Array Oper} {Q : Exit → Act → List Frame → World → Prop} {a : Act} {cs : List Frame} {w : World} (h : Q .normal a cs w) : WS P ops Q [] a cs w := ⟨h⟩
theorem wpOpsS_gen {P : Program} {ops : Array Oper} {Q : Exit → Act → List Frame → World → Prop} {l : List Nat} {a : Act} {cs : List Frame} {w : World}
    (h : ∀ Q' : Exit → Act → List Frame → World → Prop, (∀ e a cs w, Q e a cs w → Q' e a cs w) → WS P ops Q' l a cs w) : wpOpsS P ops Q l a cs w := (h Q (fun _ _ _ _ h => h)).out
theorem tm3 (a b c : Value) : (#[a, b, c] : Array Value) ++ Array.replicate (16 - (#[a, b, c] : Array Value).size) undef = #[a, b, c, undef, undef, undef, undef, undef, undef, undef, undef, undef, undef, undef, undef, undef] := rfl
theorem ta_nil (w : World) (X : TypeId) : (Instr.typeAssert .nilIface X 44 true).run Tryz.prog w = .ok (.tuple #[.agg #[.int .i64 0, .int .i64 0], .bool false]) w := by
  have hu := Tryz.underlying44
  have hz : (Tryz.prog.info? 44).map (·.zero) = some (some (.agg #[.int .i64 0, .int .i64 0])) := by kernel_rfl
  cases hi : Tryz.prog.info? 44 with
  | none => rw [hi] at hz; cases hz
  | some j =>
    rw [hi] at hz
    simp at hz
    simp [Instr.typeAssert, run_underlying hu, zeroValue, typeInfo, hi, hz]
theorem ta_hit (w : World) (X : TypeId) (v : Value) : (Instr.typeAssert (.iface 44 v) X 44 true).run Tryz.prog w = .ok (.tuple #[v, .bool true]) w := by
  have hu := Tryz.underlying44
  simp [Instr.typeAssert, run_underlying hu]

set_option maxRecDepth 100000 in
set_option maxHeartbeats 1000000 in
theorem catch_idle (q0 q1 q2 : Nat) (w : World) :
    CallsD Tryz.prog 22 #[.pointer (some ⟨q0, 0, none⟩), .pointer (some ⟨q1, 0, none⟩), .pointer (some ⟨q2, 0, none⟩)] .returning w fun e u' w' => e = .returned (.tuple #[]) ∧ u' = .returning ∧ Below w.heap.size w w' := by
  have hta := fun w => ta_nil w 20
  refine callsD_of_wpS Tryz.func22 rfl fun c₀ cs hu => ?_
  apply wpS_seq
  apply wpS_region
  simp only [Tryz.ntmps22]
  refine wpOpsS_gen (fun Q' hQ => ?_)
  change WS _ _ _ [0, 1, 2, 3, 4, 5, 6, 7] _ _ _
  rw [tm3]
  refine wpOpsS_step (fun K hK => ?_)
  simp [go_sem, recoverD, hu]
  refine hK _ _ _ ?_
  clear hK K
  refine wpOpsS_step (fun K hK => ?_)
  go_simp
  refine hK _ _ _ ?_
  clear hK K
  refine wpOpsS_step (fun K hK => ?_)
  go_simp
  refine hK _ _ _ ?_
  clear hK K
  refine wpOpsS_step (fun K hK => ?_)
  go_simp
  refine hK _ _ _ ?_
  clear hK K
  refine wpOpsS_step (fun K hK => ?_)
  go_simp
  refine hK _ _ _ ?_
  clear hK K
  refine wpOpsS_step (fun K hK => ?_)
  go_simp
  refine hK _ _ _ ?_
  clear hK K
  refine wpOpsS_step (fun K hK => ?_)
  go_simp
  refine hK _ _ _ ?_
  clear hK K
  refine wpOpsS_step (fun K hK => ?_)
  go_simp
  refine hK _ _ _ ?_
  clear hK K
  refine WS.done ?_
  refine hQ _ _ _ _ ?_
  clear hQ Q'
  show Exit.thenS _ _ _ _ _ _
  simp only [Exit.thenS]
  refine wpS_of_wp ?_
  go_wp2
  exact ⟨rfl, .returning, by cases c₀; simp_all, .tuple #[], results_none rfl _ _ _, rfl, rfl, (Below.refl _ _).alloc (Nat.le_refl _) _⟩
theorem frs_put5S {S : Nat → Prop} {w : World} {g o : Nat} {a b c d e : Value} (hg : S g) : FrS S w (put5 w g o a b c d e) :=
  ⟨put5_os, put5_tape, put5_output, by rw [put5_size]; exact Nat.le_refl _, fun i _ hn => put5_far (fun e => hn (by rw [e]; exact hg))⟩
/-- behind the deferred function, when a fault was caught -/
def Caught (q0 q1 q2 j : Nat) (c : Int) (w w' : World) : Prop :=
  Bk w' q0 25 #[.int .i64 0, .int .i64 0, .string ⟨#[]⟩, .slice none 0 0, .slice none 0 0] ∧ Bk w' q1 3 #[.int .i64 (j : Nat)] ∧ Bk w' q2 28 #[.int .i64 c] ∧ FrS (Three q0 q1 q2) w w'
set_option maxRecDepth 100000 in
set_option maxHeartbeats 1000000 in
theorem catch_fault (q0 q1 q2 j : Nat) (c : Int) (w : World) (x0 x1 x2 x3 x4 a1 a2 : Value) (n01 : q0 ≠ q1) (n02 : q0 ≠ q2) (n12 : q1 ≠ q2) (hq0 : Bk w q0 25 #[x0, x1, x2, x3, x4]) (hq1 : Bk w q1 3 #[a1]) (hq2 : Bk w q2 28 #[a2]) :
    CallsD Tryz.prog 22 #[.pointer (some ⟨q0, 0, none⟩), .pointer (some ⟨q1, 0, none⟩), .pointer (some ⟨q2, 0, none⟩)] (.panicking [{ v := .iface 44 (.agg #[.int .i64 (j : Nat), .int .i64 c]), recovered := false }]) w fun e u' w' =>
      e = .returned (.tuple #[]) ∧ u' = .panicking [{ v := .iface 44 (.agg #[.int .i64 (j : Nat), .int .i64 c]), recovered := true }] ∧ Caught q0 q1 q2 j c w w' := by
  have hta := fun w v => ta_hit w 20 v
  refine callsD_of_wpS Tryz.func22 rfl fun c₀ cs hu => ?_
  apply wpS_seq
  apply wpS_region
  simp only [Tryz.ntmps22]
  refine wpOpsS_gen (fun Q' hQ => ?_)
  change WS _ _ _ [0, 1, 2, 3, 4, 5, 6, 7] _ _ _
  rw [tm3]
  refine wpOpsS_step (fun K hK => ?_)
  simp [go_sem, recoverD, hu]
  refine hK _ _ _ ?_
  clear hK K
  refine wpOpsS_step (fun K hK => ?_)
  go_simp
  refine hK _ _ _ ?_
  clear hK K
  refine wpOpsS_step (fun K hK => ?_)
  go_simp
  refine hK _ _ _ ?_
  clear hK K
  refine wpOpsS_step (fun K hK => ?_)
  go_simp
  refine hK _ _ _ ?_
  clear hK K
  refine wpOpsS_step (fun K hK => ?_)
  go_simp
  refine hK _ _ _ ?_
  clear hK K
  refine wpOpsS_step (fun K hK => ?_)
  go_simp
  refine hK _ _ _ ?_
  clear hK K
  refine wpOpsS_step (fun K hK => ?_)
  go_simp
  refine hK _ _ _ ?_
  clear hK K
  refine wpOpsS_step (fun K hK => ?_)
  go_simp
  refine hK _ _ _ ?_
  clear hK K
  refine WS.done ?_
  refine hQ _ _ _ _ ?_
  clear hQ Q'
  show Exit.thenS _ _ _ _ _ _
  simp only [Exit.thenS]
  refine wpS_of_wp ?_
  have HQ0 := Lib.hid hq0
  have HQ1 := Lib.hid hq1
  have HQ2 := Lib.hid hq2
  clear hq0 hq1 hq2
  go_upto_region 2 with (fail)
  obtain ⟨w1, hw1⟩ : ∃ w1, w1 = w.alloc (.cells #[.int .i64 (j : Nat), .int .i64 c] 44) := ⟨_, rfl⟩
  have K0 : Hid (Bk w1 q0 25 #[x0, x1, x2, x3, x4]) := Lib.hid (by rw [hw1]; exact HQ0.out.alloc _)
  have K1 : Hid (Bk w1 q1 3 #[a1]) := Lib.hid (by rw [hw1]; exact HQ1.out.alloc _)
  have K2 : Hid (Bk w1 q2 28 #[a2]) := Lib.hid (by rw [hw1]; exact HQ2.out.alloc _)
  have KF : Hid (Bk w1 w.heap.size 44 #[.int .i64 (j : Nat), .int .i64 c]) := Lib.hid (by rw [hw1]; exact Bk.new _ _ _)
  have F1 : Hid (FrS (Three q0 q1 q2) w w1) := Lib.hid (by rw [hw1]; exact FrS.of_below ((Below.refl _ _).alloc (Nat.le_refl _) _))
  obtain ⟨f, hf⟩ : ∃ f, f = w.heap.size := ⟨_, rfl⟩
  have e0 : f ≠ q0 := by have := HQ0.out.lt; omega
  have e1 : f ≠ q1 := by have := HQ1.out.lt; omega
  have e2 : f ≠ q2 := by have := HQ2.out.lt; omega
  rw [← hf] at KF
  rw [← hw1, ← hf]
  clear hw1 hf
  have b0 := KF.out.cell 0
  have b1 := KF.out.cell 1
  change _ = some (Value.int .i64 (j : Nat)) at b0
  change _ = some (Value.int .i64 c) at b1
  have HN : Hid (∀ W, Dr w1 W → Calls Tryz.prog 23 #[] W fun e w' => e = .returned zeroV ∧ Below w1.heap.size w1 w') := Lib.hid (fun W hd => (Null_any W).mono (fun e w' h => ⟨h.1, by
    obtain ⟨k, rfl⟩ := hd
    exact ⟨h.2.os, h.2.tape, h.2.output, h.2.size, h.2.block⟩⟩))
  go_region_law (first
    | (go_simp; go_at_call 23; refine (HN.out _ (by first | exact Dr.drew _ | exact Dr.refl _)).mono ?_; rintro _ wN ⟨rfl, hbN⟩; unfold zeroV; have L0 := Lib.hid (K0.out.below hbN K0.out.lt); have L1 := Lib.hid (K1.out.below hbN K1.out.lt); have L2 := Lib.hid (K2.out.below hbN K2.out.lt); have LF := Lib.hid (KF.out.below hbN KF.out.lt); have g00 := L0.out.cell 0; have g01 := L0.out.cell 1; have g02 := L0.out.cell 2; have g03 := L0.out.cell 3; have g04 := L0.out.cell 4; have g10 := L1.out.cell 0; have g20 := L2.out.cell 0; have gf0 := LF.out.cell 0; have gf1 := LF.out.cell 1; have z00 := L0.out.frozen 0; have z01 := L0.out.frozen 1; have z02 := L0.out.frozen 2; have z03 := L0.out.frozen 3; have z04 := L0.out.frozen 4; have z10 := L1.out.frozen 0; have z20 := L2.out.frozen 0; have HBN := Lib.hid hbN; clear hbN))
  all_goals (
    obtain ⟨wf, hwf⟩ : ∃ wf, wf = ((put5 wN q0 0 (.int .i64 0) (.int .i64 0) (.string ⟨#[]⟩) (.slice none 0 0) (.slice none 0 0)).setCell ⟨q1, 0, none⟩ (.int .i64 (j : Nat))).setCell ⟨q2, 0, none⟩ (.int .i64 c) := ⟨_, rfl⟩
    have FIN : Hid (Caught q0 q1 q2 j c w wf) := Lib.hid (by
      rw [hwf]
      refine ⟨((put5_bk L0.out).far (p := ⟨q1, 0, none⟩) n01 _).far (p := ⟨q2, 0, none⟩) n02 _, ((put5_bk_far L1.out (Ne.symm n01)).put 0 (.int .i64 (j : Nat))).far (p := ⟨q2, 0, none⟩) n12 _, ((put5_bk_far L2.out (Ne.symm n02)).far (p := ⟨q1, 0, none⟩) (Ne.symm n12) _).put 0 (.int .i64 c), ?_⟩
      exact (((F1.out.trans (FrS.of_below HBN.out)).trans (frs_put5S (.inl rfl))).trans (FrS.of_grown (turned _ q1 0 _) (.inr (.inl rfl)))).trans (FrS.of_grown (turned _ q2 0 _) (.inr (.inr rfl))))
    go_wp2
    change bodyPostS _ _ _ _ _ _ _ _ (((put5 wN q0 0 (.int .i64 0) (.int .i64 0) (.string ⟨#[]⟩) (.slice none 0 0) (.slice none 0 0)).setCell ⟨q1, 0, none⟩ (.int .i64 (j : Nat))).setCell ⟨q2, 0, none⟩ (.int .i64 c))
    rw [← hwf]
    clear hwf
    exact ⟨rfl, .panicking [{ v := .iface 44 (.agg #[.int .i64 (j : Nat), .int .i64 c]), recovered := true }], rfl, .tuple #[], results_none rfl _ _ _, rfl, rfl, FIN.out⟩)
end Go.Proofs.YtlgmhhimbabkjaaGreatDoor
namespace Go.Proofs.YtlgmhhimbabkjaaGreatDoor
open Go.RowKit

/-- what Parse hands back -/
def ParR (r : PR VT) (w : World) (e : Ending) (w' : World) : Prop :=
  Below w.heap.size w w' ∧ ((∃ (k i : Int) (t : ByteArray) (A : Option Addr) (m c : Nat) (A' : Option Addr) (m' c' : Nat) (x : VT) (j : Nat), e = .returned (.tuple #[.agg #[.int .i64 k, .int .i64 i, .string t, .slice A m c, .slice A' m' c'], .int .i64 0, .int .i64 0]) ∧
    Hid (r = .ok x j) ∧ Hid (Lies w' (New w w') x (.agg #[.int .i64 k, .int .i64 i, .string t, .slice A m c, .slice A' m' c']))) ∨
  ∃ (j : Nat) (c : Int), Hid (r = .err j c) ∧ e = .returned (.tuple #[.agg #[.int .i64 0, .int .i64 0, .string ⟨#[]⟩, .slice none 0 0, .slice none 0 0], .int .i64 (j : Nat), .int .i64 c]))

set_option maxRecDepth 100000 in
set_option maxHeartbeats 2000000 in
theorem results_parse {w : World} {tmps : Array Value} {q0 q1 q2 : Nat} {a b c d e x y : Value} (h2 : tmps.getD 2 undef = .pointer (some ⟨q0, 0, none⟩)) (h3 : tmps.getD 3 undef = .pointer (some ⟨q1, 0, none⟩)) (h4 : tmps.getD 4 undef = .pointer (some ⟨q2, 0, none⟩))
    (hq0 : Bk w q0 25 #[a, b, c, d, e]) (hq1 : Bk w q1 3 #[x]) (hq2 : Bk w q2 28 #[y]) :
    (results Tryz.f13 tmps).run Tryz.prog w = .ok (.tuple #[.agg #[a, b, c, d, e], x, y]) w := by
  have e0 := run_loadVar_row (P := Tryz.prog) w q0 25 25 #[a, b, c, d, e] (0, 0) _ hq0 Tryz.underlying25 rfl (by kernel_rfl)
  have c1 := hq1.cell 0
  have c2 := hq2.cell 0
  change _ = some x at c1
  change _ = some y at c2
  simp only [Array.getD_eq_getD_getElem?] at h2 h3 h4
  have e1 : (loadVar 3 ⟨q1, 0, none⟩).run Tryz.prog w = .ok x w := by simp [go_sem, c1]
  have e2 : (loadVar 28 ⟨q2, 0, none⟩).run Tryz.prog w = .ok y w := by simp [go_sem, c2]
  simp [results, h2, h3, h4, asAddr, e0, e1, e2]

set_option maxRecDepth 100000 in
set_option maxHeartbeats 8000000 in
theorem Parse_any (s : ByteArray) (w : World) (hs : s.size ≤ 1000000) (hE : Ev w w.heap.size) :
    Calls Tryz.prog 13 #[.string s] w (ParR (parP s.data.toList) w) := by
  have hmf : ∀ (fn : Fn) (first cap : Array Value) (w : World), (Instr.makeFunc fn first cap).run Tryz.prog w = .ok (.func fn first cap) w := fun _ _ _ _ => rfl
  have HE := Lib.hid hE
  clear hE
  go_enter_defers Tryz.func13, Tryz.ntmps13
  go_wp2_with fail
  obtain ⟨w1, hw1⟩ : ∃ w1, w1 = w.alloc (.cells #[.int .i64 0, .int .i64 0, .string ⟨#[]⟩, .slice none 0 0, .slice none 0 0] 25) := ⟨_, rfl⟩
  obtain ⟨w2, hw2⟩ : ∃ w2, w2 = w1.alloc (.cells #[.int .i64 0] 3) := ⟨_, rfl⟩
  obtain ⟨w3, hw3⟩ : ∃ w3, w3 = w2.alloc (.cells #[.int .i64 0] 28) := ⟨_, rfl⟩
  obtain ⟨w5, hw5⟩ : ∃ w5, w5 = w3.alloc (.cells #[.string s, .int .i64 0, .int .i64 0] 48) := ⟨_, rfl⟩
  have z1 : w1.heap.size = w.heap.size + 1 := by rw [hw1, World.size_alloc]
  have z2 : w2.heap.size = w.heap.size + 1 + 1 := by rw [hw2, World.size_alloc, z1]
  have z3 : w3.heap.size = w.heap.size + 1 + 1 + 1 := by rw [hw3, World.size_alloc, z2]
  have z5 : w5.heap.size = w.heap.size + 1 + 1 + 1 + 1 := by rw [hw5, World.size_alloc, z3]
  have B5 : Hid (Below w.heap.size w w5) := Lib.hid (by
    rw [hw5, hw3, hw2, hw1]
    exact ((((Below.refl _ _).alloc (Nat.le_refl _) _).alloc (by simp) _).alloc (by simp; omega) _).alloc (by simp; omega) _)
  have K0 : Hid (Bk w5 w.heap.size 25 #[.int .i64 0, .int .i64 0, .string ⟨#[]⟩, .slice none 0 0, .slice none 0 0]) := Lib.hid (by rw [hw5, hw3, hw2, hw1]; exact (((Bk.new w _ _).alloc _).alloc _).alloc _)
  have K1 : Hid (Bk w5 (w.heap.size + 1) 3 #[.int .i64 0]) := Lib.hid (by rw [← z1, hw5, hw3, hw2]; exact ((Bk.new w1 _ _).alloc _).alloc _)
  have K2 : Hid (Bk w5 (w.heap.size + 1 + 1) 28 #[.int .i64 0]) := Lib.hid (by rw [← z2, hw5, hw3]; exact (Bk.new w2 _ _).alloc _)
  have KP : Hid (Bk w5 (w.heap.size + 1 + 1 + 1) 48 #[.string s, .int .i64 0, .int .i64 0]) := Lib.hid (by rw [← z3, hw5]; exact Bk.new w3 _ _)
  have P5 : Hid (Ps w5 (w.heap.size + 1 + 1 + 1) s 0 0) := Lib.hid ⟨KP.out, Nat.zero_le _, hs, by omega⟩
  have hg1 : 2 < w.heap.size := by obtain ⟨⟨a, b, h⟩, _⟩ := HE.out; exact World.block_lt_of_cell? w _ h
  have hg2 : 3 < w.heap.size := by obtain ⟨_, ⟨a, b, h⟩, _⟩ := HE.out; exact World.block_lt_of_cell? w _ h
  have E5 : Hid (Ev w5 (w.heap.size + 1 + 1 + 1)) := Lib.hid (by
    obtain ⟨⟨a, b, h1⟩, ⟨a2, b2, h2⟩, _⟩ := HE.out
    exact ⟨⟨a, b, (B5.out.cell (p := ⟨_, 0, none⟩) hg1).trans h1⟩, ⟨a2, b2, (B5.out.cell (p := ⟨_, 0, none⟩) hg2).trans h2⟩, by omega, by omega⟩)
  have Z5 := Lib.hid z5
  rw [← hw1, ← hw2, ← hw3, ← hw5]
  clear hw1 hw2 hw3 hw5 z1 z2 z3 z5 hg1 hg2
  refine (value_any 16 w5 (w.heap.size + 1 + 1 + 1) s 0 0 1 (by omega) (by omega) P5.out E5.out).mono ?_
  rintro _ w6 (⟨k5, i5, t5, A5, m5, c5, A6, m6, c6, x, n5, j5, rfl, hr5, hl5, hp5, hf5⟩ | ⟨j5, e5, hr5, rfl, hf5⟩)
  · have ne0 : w.heap.size ≠ w.heap.size + 1 + 1 + 1 := by omega
    have L0 := Lib.hid (hf5.out.bk K0.out (fun e => by have e2 : w.heap.size = w.heap.size + 1 + 1 + 1 := e; omega))
    have L1 := Lib.hid (hf5.out.bk K1.out (fun e => by have e2 : w.heap.size + 1 = w.heap.size + 1 + 1 + 1 := e; omega))
    have L2 := Lib.hid (hf5.out.bk K2.out (fun e => by have e2 : w.heap.size + 1 + 1 = w.heap.size + 1 + 1 + 1 := e; omega))
    have d0 := L0.out.cell 0
    have d1 := L0.out.cell 1
    have d2 := L0.out.cell 2
    have d3 := L0.out.cell 3
    have d4 := L0.out.cell 4
    have f0 := L0.out.frozen 0
    have f1 := L0.out.frozen 1
    have f2 := L0.out.frozen 2
    have f3 := L0.out.frozen 3
    have f4 := L0.out.frozen 4
    go_upto_region 4 with (fail)
    obtain ⟨w7, hw7⟩ : ∃ w7, w7 = put5 w6 w.heap.size 0 (.int .i64 k5) (.int .i64 i5) (.string t5) (.slice A5 m5 c5) (.slice A6 m6 c6) := ⟨_, rfl⟩
    have M0 : Hid (Bk w7 w.heap.size 25 #[.int .i64 k5, .int .i64 i5, .string t5, .slice A5 m5 c5, .slice A6 m6 c6]) := Lib.hid (by rw [hw7]; exact put5_bk L0.out)
    have M1 := Lib.hid (put5_bk_far (g := w.heap.size) (o := 0) (a := .int .i64 k5) (b := .int .i64 i5) (c := .string t5) (d := .slice A5 m5 c5) (e := .slice A6 m6 c6) L1.out (by omega))
    have M2 := Lib.hid (put5_bk_far (g := w.heap.size) (o := 0) (a := .int .i64 k5) (b := .int .i64 i5) (c := .string t5) (d := .slice A5 m5 c5) (e := .slice A6 m6 c6) L2.out (by omega))
    have P7 : Hid (Ps w7 (w.heap.size + 1 + 1 + 1) s j5 n5) := Lib.hid (by rw [hw7]; exact hp5.out.bk (put5_bk_far hp5.out.1 (by omega)))
    have Z6 := Lib.hid hf5.out.size
    have LX7 : Hid (Lies w7 (New w5 w7) x (.agg #[.int .i64 k5, .int .i64 i5, .string t5, .slice A5 m5 c5, .slice A6 m6 c6])) := Lib.hid (by
      rw [hw7]
      exact hl5.out.keep (fun q hq => World.cell?_of_block (put5_far (by have := hq.1; have := Z5.out; omega))) (fun b hb => ⟨hb.1, by rw [put5_size]; exact hb.2⟩))
    have F7 : Hid (FrS (fun b => w.heap.size ≤ b) w w7) := Lib.hid (by
      rw [hw7]
      exact ((FrS.of_below (S := fun b => w.heap.size ≤ b) B5.out).next hf5.out (fun i _ h => by have e2 : i = w.heap.size + 1 + 1 + 1 := h; omega)).trans (frs_put5S (Nat.le_refl _)))
    rw [← hw7] at M1 M2
    change Code.wp _ _ _ _ (put5 w6 w.heap.size 0 (.int .i64 k5) (.int .i64 i5) (.string t5) (.slice A5 m5 c5) (.slice A6 m6 c6))
    rw [← hw7]
    clear hw7 d0 d1 d2 d3 d4 f0 f1 f2 f3 f4 ne0
    go_wp2_with fail
    refine (blanks_any P7.out).mono ?_
    rintro _ w8 ⟨rfl, hp8, hf8⟩
    have P8 := Lib.hid hp8
    have N0 := Lib.hid (hf8.bk M0.out (fun e => by have e2 : w.heap.size = w.heap.size + 1 + 1 + 1 := e; omega))
    have N1 := Lib.hid (hf8.bk M1.out (fun e => by have e2 : w.heap.size + 1 = w.heap.size + 1 + 1 + 1 := e; omega))
    have N2 := Lib.hid (hf8.bk M2.out (fun e => by have e2 : w.heap.size + 1 + 1 = w.heap.size + 1 + 1 + 1 := e; omega))
    have F8 : Hid (FrS (fun b => w.heap.size ≤ b) w w8) := Lib.hid (F7.out.next hf8 (fun i _ h => by have e2 : i = w.heap.size + 1 + 1 + 1 := h; omega))
    have LX8 : Hid (Lies w8 (New w5 w8) x (.agg #[.int .i64 k5, .int .i64 i5, .string t5, .slice A5 m5 c5, .slice A6 m6 c6])) := Lib.hid (LX7.out.keep (fun q hq => hf8.cell hq.2 (fun e => by have e2 : q.block = w.heap.size + 1 + 1 + 1 := e; have := hq.1; have := Z5.out; omega)) (fun b hb => ⟨hb.1, Nat.lt_of_lt_of_le hb.2 hf8.size⟩))
    have c1 := P8.out.1.cell 1
    have HPR : Hid (parP s.data.toList = if skip s.data.toList j5 = s.data.toList.length then .ok x (skip s.data.toList j5) else .err (skip s.data.toList j5) 3) := Lib.hid (by unfold parP; rw [hr5.out]; rfl)
    clear hp8 hf8
    go_wp2_with fail
    refine (require_any _ _ (skip s.data.toList j5) 3 _).mono ?_
    rintro _ _ (⟨hb, rfl, rfl⟩ | ⟨hb, rfl, rfl⟩)
    · have HEQ : Hid (parP s.data.toList = .ok x (skip s.data.toList j5)) := Lib.hid (by rw [HPR.out, if_pos (by rw [list_len]; have := beq_iff_eq.1 hb; omega)])
      have d0 := N0.out.cell 0
      have d1 := N0.out.cell 1
      have d2 := N0.out.cell 2
      have d3 := N0.out.cell 3
      have d4 := N0.out.cell 4
      have f0 := N0.out.frozen 0
      have f1 := N0.out.frozen 1
      have f2 := N0.out.frozen 2
      have f3 := N0.out.frozen 3
      have f4 := N0.out.frozen 4
      have d10 := N1.out.cell 0
      have d20 := N2.out.cell 0
      have f10 := N1.out.frozen 0
      have f20 := N2.out.frozen 0
      clear hb c1
      go_wp2
      obtain ⟨w9, hw9⟩ : ∃ w9, w9 = ((put5 w8 w.heap.size 0 (.int .i64 k5) (.int .i64 i5) (.string t5) (.slice A5 m5 c5) (.slice A6 m6 c6)).setCell ⟨w.heap.size + 1, 0, none⟩ (.int .i64 0)).setCell ⟨w.heap.size + 1 + 1, 0, none⟩ (.int .i64 0) := ⟨_, rfl⟩
      have O0 : Hid (Bk w9 w.heap.size 25 #[.int .i64 k5, .int .i64 i5, .string t5, .slice A5 m5 c5, .slice A6 m6 c6]) := Lib.hid (by rw [hw9]; exact ((put5_bk N0.out).far (p := ⟨w.heap.size + 1, 0, none⟩) (by show w.heap.size ≠ w.heap.size + 1; omega) _).far (p := ⟨w.heap.size + 1 + 1, 0, none⟩) (by show w.heap.size ≠ w.heap.size + 1 + 1; omega) _)
      have O1 : Hid (Bk w9 (w.heap.size + 1) 3 #[.int .i64 0]) := Lib.hid (by rw [hw9]; exact ((put5_bk_far N1.out (by omega)).put 0 (.int .i64 0)).far (p := ⟨w.heap.size + 1 + 1, 0, none⟩) (by show w.heap.size + 1 ≠ w.heap.size + 1 + 1; omega) _)
      have O2 : Hid (Bk w9 (w.heap.size + 1 + 1) 28 #[.int .i64 0]) := Lib.hid (by rw [hw9]; exact ((put5_bk_far N2.out (by omega)).far (p := ⟨w.heap.size + 1, 0, none⟩) (by show w.heap.size + 1 + 1 ≠ w.heap.size + 1; omega) _).put 0 (.int .i64 0))
      have F89 : Hid (FrS (Three w.heap.size (w.heap.size + 1) (w.heap.size + 1 + 1)) w8 w9) := Lib.hid (by
        rw [hw9]
        exact ((frs_put5S (.inl rfl)).trans (FrS.of_grown (turned _ (w.heap.size + 1) 0 _) (.inr (.inl rfl)))).trans (FrS.of_grown (turned _ (w.heap.size + 1 + 1) 0 _) (.inr (.inr rfl))))
      change bodyPostD _ _ _ _ _ (((put5 w8 w.heap.size 0 (.int .i64 k5) (.int .i64 i5) (.string t5) (.slice A5 m5 c5) (.slice A6 m6 c6)).setCell ⟨w.heap.size + 1, 0, none⟩ (.int .i64 0)).setCell ⟨w.heap.size + 1 + 1, 0, none⟩ (.int .i64 0))
      rw [← hw9]
      clear hw9 d0 d1 d2 d3 d4 f0 f1 f2 f3 f4 d10 d20 f10 f20
      refine leaves_cons (f := 22) (args := #[.pointer (some ⟨w.heap.size, 0, none⟩), .pointer (some ⟨w.heap.size + 1, 0, none⟩), .pointer (some ⟨w.heap.size + 1 + 1, 0, none⟩)]) (by simp) (by simp [go_sem]) ?_
      refine (catch_idle (w.heap.size) (w.heap.size + 1) (w.heap.size + 1 + 1) _).mono ?_
      rintro e u' w'' ⟨rfl, rfl, hb⟩
      refine ⟨_, results_parse rfl rfl rfl (O0.out.below hb O0.out.lt) (O1.out.below hb O1.out.lt) (O2.out.below hb O2.out.lt), ?_⟩
      have FZ : FrS (fun b => w.heap.size ≤ b) w w'' := (F8.out.next F89.out (fun i _ h => by rcases h with h | h | h <;> omega)).trans (FrS.of_below hb)
      refine ⟨FZ.below (Nat.le_refl _) (fun b hb => hb), .inl ⟨_, _, _, _, _, _, _, _, _, x, _, rfl, HEQ, Lib.hid (LX8.out.keep (fun q hq => ?_) (fun b hb1 => ?_))⟩⟩
      · have h1 := hq.1
        have h2 := Z5.out
        exact (hb.cell (Nat.lt_of_lt_of_le hq.2 F89.out.size)).trans (F89.out.cell hq.2 (fun h => by rcases h with h | h | h <;> omega))
      · have h1 := hb1.1
        have h2 := Z5.out
        exact ⟨by omega, Nat.lt_of_lt_of_le hb1.2 (Nat.le_trans F89.out.size hb.size)⟩
    · have HEQ : Hid (parP s.data.toList = .err (skip s.data.toList j5) 3) := Lib.hid (by rw [HPR.out, if_neg (by rw [list_len]; intro e; have := beq_eq_false_iff_ne.1 hb; omega)])
      refine leaves_cons (f := 22) (args := #[.pointer (some ⟨w.heap.size, 0, none⟩), .pointer (some ⟨w.heap.size + 1, 0, none⟩), .pointer (some ⟨w.heap.size + 1 + 1, 0, none⟩)]) (by simp) (by simp [go_sem]) ?_
      refine (catch_fault (w.heap.size) (w.heap.size + 1) (w.heap.size + 1 + 1) _ 3 _ _ _ _ _ _ _ _ (by omega) (by omega) (by omega) N0.out N1.out N2.out).mono ?_
      rintro e u' w'' ⟨rfl, rfl, hc⟩
      refine ⟨_, results_parse rfl rfl rfl hc.1 hc.2.1 hc.2.2.1, ?_⟩
      refine ⟨?_, .inr ⟨_, 3, HEQ, rfl⟩⟩
      exact (F8.out.next hc.2.2.2 (fun i _ h => by rcases h with h | h | h <;> omega)).below (Nat.le_refl _) (fun b hb => hb)
  · have L0 := Lib.hid (hf5.out.bk K0.out (fun e => by have e2 : w.heap.size = w.heap.size + 1 + 1 + 1 := e; omega))
    have L1 := Lib.hid (hf5.out.bk K1.out (fun e => by have e2 : w.heap.size + 1 = w.heap.size + 1 + 1 + 1 := e; omega))
    have L2 := Lib.hid (hf5.out.bk K2.out (fun e => by have e2 : w.heap.size + 1 + 1 = w.heap.size + 1 + 1 + 1 := e; omega))
    refine leaves_cons (f := 22) (args := #[.pointer (some ⟨w.heap.size, 0, none⟩), .pointer (some ⟨w.heap.size + 1, 0, none⟩), .pointer (some ⟨w.heap.size + 1 + 1, 0, none⟩)]) (by simp) (by simp [go_sem]) ?_
    refine (catch_fault (w.heap.size) (w.heap.size + 1) (w.heap.size + 1 + 1) j5 e5 _ _ _ _ _ _ _ _ (by omega) (by omega) (by omega) L0.out L1.out L2.out).mono ?_
    rintro e u' w'' ⟨rfl, rfl, hc⟩
    refine ⟨_, results_parse rfl rfl rfl hc.1 hc.2.1 hc.2.2.1, ?_⟩
    refine ⟨?_, .inr ⟨j5, e5, Lib.hid (by unfold parP; rw [hr5.out]; rfl), rfl⟩⟩
    exact ((FrS.of_below (S := fun b => w.heap.size ≤ b) B5.out).next hf5.out (fun i _ h => by have e2 : i = w.heap.size + 1 + 1 + 1 := h; omega)).next hc.2.2.2 (fun i _ h => by rcases h with h | h | h <;> omega) |>.below (Nat.le_refl _) (fun b hb => hb)
end Go.Proofs.YtlgmhhimbabkjaaGreatDoor
