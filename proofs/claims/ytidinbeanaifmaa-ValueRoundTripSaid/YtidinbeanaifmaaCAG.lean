/-
  Contracts of the code's and of the reference's functions, part AG, and what they lean on.
-/
import Derived.Test.YtidinbeanaifmaaCAF
import Derived.Test.YtidinbeanaifmaaCAE
import Derived.IntWalk
import Derived.Deep.DeepCutAuto
import Derived.Deep.RegionHeld3
import Derived.Deep.QuietTactic
import Derived.BigQuiet
import Derived.Test.YtidinbeanaifmaaCAA
namespace Go.Proofs.Ytidinbeanaifmaa
open Go.RowKit

/-- the frame behind the end -/
theorem endF {w0 w wr wf : World} {p q g gR : Nat} (hb : Below w0.heap.size w0 w) (hg : w0.heap.size ≤ g ∧ w0.heap.size ≤ gR ∧ gR < w.heap.size) (hf : FrS (Three p q g) w wr) (hgf : wr.grownBy wf (some gR)) : FrS (Two p q) w0 wf := by
  refine ((FrS.of_below hb).next hf (fun i hi h => ?_)).next (FrS.of_grown (S := fun b => b = gR) hgf rfl) (fun i hi h => ?_)
  · rcases h with h | h | h
    · exact Or.inl h
    · exact Or.inr h
    · omega
  · omega
theorem ritem_step {dec : Nat → List UInt8 → DR VT} {R : DR (List VT × List ByteArray)} {w wr wB w1 wf : World} {p q g g2 c j n b2 cI cap : Nat} {AI : Option Addr} {l2 : List UInt8} {its : List VT} {cs : List Value} {G cur : Array Value}
    {k2 i2 : Int} {t2 : ByteArray} {E E' : Option Addr} {n3 c3 n4 c4 : Nat} {G' : Array Value}
    (hfit : ∀ n l, (dec n l).Fits l n) (sz : g < w.heap.size ∧ q < w.heap.size ∧ p < w.heap.size) (ng : g ≠ p) (nqg : q ≠ g) (hf : FrS (Three p q g) w wr) (hg : Bk wr g 26 G)
    (ho : wr.ownsRow w.heap.size 26 5 (.slice AI j cI) j cs) (hl : LiesC wr (Off w.heap.size wr (.slice AI j cI)) its cs) (hfb : FrS (Two p q) wr wB) (hqb : Bk wB q 93 #[.pointer (some ⟨p, 0, none⟩), .int .i64 (b2 : Nat)] ∧ b2 ≤ 1001)
    (hx : (∃ x l', dec n l2 = .ok x l' b2 ∧ RRd wB p l' 0 ∧ Lies wB (New wr wB) x (.agg #[.int .i64 k2, .int .i64 i2, .string t2, .slice E n3 c3, .slice E' n4 c4])) ∨ ∃ e l', dec n l2 = .err e ∧ e ≠ 0 ∧ RRd wB p l' e)
    (hgw : wB.grownBy w1 (Value.slice AI j cI).ownBlock) (hat : (Value.slice AI j cI).ownBlock = some g2 ∨ wB.heap.size ≤ g2) (hla : Last w1 wf g g2 G' (setV cur (j * 5) (.int .i64 k2) (.int .i64 i2) (.string t2) (.slice E n3 c3) (.slice E' n4 c4)))
    (hw5 : ∀ (W : World) (a b c d e : Value), Bk W g2 26 (setV cur (j * 5) a b c d e) → W.ownsRow w.heap.size 26 5 (.slice (some ⟨g2, 0, none⟩) (j + 1) cap) (j + 1) (cs ++ [a, b, c, d, e]))
    (hlt : j < c) (hn : n ≤ 1000) (hl2 : l2.length ≤ 4611686018427387904) (hil : its.length = j) (hD : R = decL dec false (c - j) n l2 its []) :
    StepP RRd 93 dec R p q g c (j + 1) (some ⟨g2, 0, none⟩) cap b2 w wf := by
  obtain ⟨z1, z2, z3, z4, far, hgf, hcf⟩ := hla
  have hown := ho.lt
  have s1 := hf.size
  have s2 := hfb.size
  have s3 := hgw.size
  have fw : FrS (fun b => b = g ∨ (Value.slice AI j cI).ownBlock = some b) wB wf :=
    ⟨z1.trans hgw.os, z2.trans hgw.tape, z3.trans hgw.output, by omega, fun b hb hn => (far b (fun e => hn (Or.inl e)) (fun e => by
      rcases hat with h | h
      · exact hn (Or.inr (by rw [h, e]))
      · omega)).trans (hgw.block b hb (fun e => hn (Or.inr e.symm)))⟩
  have nS : ∀ b, b < w.heap.size → b ≠ g → ¬ (b = g ∨ (Value.slice AI j cI).ownBlock = some b) := fun b hb hne h => by
    rcases h with h | h
    · exact hne h
    · have := (hown b h).1; omega
  have hS : ∀ b, (b = g ∨ (Value.slice AI j cI).ownBlock = some b) → b < wB.heap.size → ∃ t cs, Bk wB b t cs ∧ t ≠ 5 := fun b hb _ => by
    rcases hb with rfl | hb
    · exact ⟨_, _, hfb.bk hg (fun h => by rcases h with h | h; exact ng h; exact nqg h.symm), by decide⟩
    · have hb1 := hown b hb
      obtain ⟨_, h2⟩ := ho
      rcases h2 with ⟨h2, _⟩ | ⟨g', cap', cur', h2, _, hg', _⟩
      · rw [h2] at hb; simp [Value.ownBlock] at hb
      · rw [h2] at hb
        have : g' = b := by simpa [Value.ownBlock] using hb
        subst this
        exact ⟨_, _, hfb.bk hg' (fun h => by rcases h with h | h <;> omega), by decide⟩
  refine ⟨(hf.next hfb (fun i _ h => ?_)).next fw (fun i hi h => ?_), fw.bk hqb.1 (nS q sz.2.1 nqg), hqb.2, ?_⟩
  · rcases h with h | h
    · exact Or.inl h
    · exact Or.inr (Or.inl h)
  · rcases h with h | h
    · exact Or.inr (Or.inr h)
    · have := (hown i h).1; omega
  · obtain ⟨r, hr⟩ : ∃ r, c - j = r + 1 := ⟨c - j - 1, by omega⟩
    have hr' : c - (j + 1) = r := by omega
    rw [hr] at hD
    rw [hr']
    rcases hx with ⟨x, l', h1, h2, h3⟩ | ⟨e, l', h1, h2, h3⟩
    · obtain ⟨f1, f2, f3⟩ := hfit n l2 x l' b2 h1
      refine Or.inl ⟨its ++ [x], _, l', f3 hn, by simp [hil], by omega, Lib.hid (hD.trans (decL_good h1)), Lib.hid (h2.frs fw (nS p sz.2.2 (Ne.symm ng)) hS), Lib.hid (hw5 wf _ _ _ _ _ hcf), Lib.hid (LiesC.append (hl.keep (fun b hb => ?_) (fun b hb => ?_)) ⟨_, _, _, _, _, [], rfl, h3.keep (fun b hb => ?_) (fun b hb => ?_), rfl⟩)⟩
      · obtain ⟨b1, b2, b3⟩ := hb
        exact (fw.cell (Nat.lt_of_lt_of_le b2 s2) (fun h => by
          rcases h with h | h
          · omega
          · exact b3 h)).trans (hfb.cell b2 (fun h => by rcases h with h | h <;> omega))
      · obtain ⟨b1, b2, b3⟩ := hb
        refine ⟨b1, by omega, fun e => ?_⟩
        have e' : g2 = b := by simpa [Value.ownBlock] using e
        rcases hat with h | h
        · exact b3 (by rw [h, e'])
        · omega
      · obtain ⟨b1, b2⟩ := hb
        exact fw.cell b2 (fun h => by
          rcases h with h | h
          · omega
          · have := (hown _ h).2; omega)
      · obtain ⟨b1, b2⟩ := hb
        refine ⟨by omega, by omega, fun e => ?_⟩
        have e' : g2 = b := by simpa [Value.ownBlock] using e
        rcases hat with h | h
        · have := (hown _ h).2; omega
        · omega
    · exact Or.inr ⟨e, l', Lib.hid (hD.trans (decL_bad h1)), h2, Lib.hid (h3.frs fw (nS p sz.2.2 (Ne.symm ng)) hS)⟩


theorem set_same {cs : Array Value} {i : Nat} {a : Value} (h : cs[i]? = some a) : cs.setIfInBounds i a = cs := by
  apply Array.ext_getElem?
  intro j
  rw [Array.getElem?_setIfInBounds]
  split
  · rename_i e
    subst e
    split
    · exact h.symm
    · rename_i hn
      rw [Array.getElem?_eq_none (by omega)] at h
      cases h
  · rfl
theorem setV_same {cs : Array Value} {o : Nat} {a b c d e : Value} (h0 : cs[o]? = some a) (h1 : cs[o + 1]? = some b) (h2 : cs[o + 2]? = some c) (h3 : cs[o + 3]? = some d) (h4 : cs[o + 4]? = some e) : setV cs o a b c d e = cs := by
  unfold setV
  rw [set_same h0, set_same h1, set_same h2, set_same h3, set_same h4]
theorem last_c {w1 : World} {g g2 o : Nat} {G cur : Array Value} {a b c d e s : Value} (hG : Bk w1 g 26 G) (hB : Bk w1 g2 26 cur) (hne : g2 ≠ g) (h0 : cur[o]? = some a) (h1 : cur[o + 1]? = some b) (h2 : cur[o + 2]? = some c) (h3 : cur[o + 3]? = some d) (h4 : cur[o + 4]? = some e) :
    Last w1 (w1.setCell ⟨g, 3, none⟩ s) g g2 (G.setIfInBounds 3 s) (setV cur o a b c d e) := by
  rw [setV_same h0 h1 h2 h3 h4]
  exact ⟨rfl, rfl, rfl, by simp [World.setCell], fun i k1 _ => Below.heap_setCell _ _ _ _ k1, hG.put 3 s, hB.far (p := ⟨g, 3, none⟩) hne s⟩

set_option maxRecDepth 100000 in
set_option maxHeartbeats 16000000 in
theorem ritems_4 {dec : Nat → List UInt8 → DR VT} {p q b : Nat} {l : List UInt8} {d : Int} {w0 : World} (hd1 : 0 ≤ d) (hd2 : d ≤ 16) (hfit : ∀ n l, (dec n l).Fits l n)
    (hv : ∀ (W : World) (n : Nat) (l : List UInt8), RRd W p l 0 → Bk W q 93 #[.pointer (some ⟨p, 0, none⟩), .int .i64 (n : Nat)] → n ≤ 1000 → l.length ≤ 4611686018427387904 → Calls Try.prog 87 #[.pointer (some ⟨q, 0, none⟩), .int .i64 (d + 1)] W (DecP RRd 93 (dec n l) p q W))
    (hr0 : RRd w0 p l 0) (hq0 : Bk w0 q 93 #[.pointer (some ⟨p, 0, none⟩), .int .i64 (b : Nat)]) (hb : b ≤ 1000) (hl : l.length ≤ 4611686018427387904) :
    Calls Try.prog 117 #[.pointer (some ⟨q, 0, none⟩), .agg #[.int .i64 4, .int .i64 0, .string ⟨#[]⟩, .slice none 0 0, .slice none 0 0], .int .i64 d] w0 (ItsR RRd 93 (decI dec false b l) 4 p q w0) := by
  obtain ⟨iV, hiV, hzV, hsV, hbV⟩ := info_parts Try.infoV
  obtain ⟨c, l1, e1, hi⟩ : ∃ c l1 e1, intA l = (c, l1, e1) := ⟨_, _, _, rfl⟩
  obtain ⟨w, hw⟩ : ∃ w, w = (w0.alloc (.cells #[.int .i64 4, .int .i64 0, .string ⟨#[]⟩, .slice none 0 0, .slice none 0 0] 26)).alloc (.cells #[.int .i64 0, .int .i64 0, .string ⟨#[]⟩, .slice none 0 0, .slice none 0 0] 26) := ⟨_, rfl⟩
  obtain ⟨g, hge⟩ : ∃ g, g = w0.heap.size := ⟨_, rfl⟩
  obtain ⟨gR, hgR⟩ : ∃ gR, gR = w0.heap.size + 1 := ⟨_, rfl⟩
  have hbw : Below w0.heap.size w0 w := by rw [hw]; exact ((Below.refl _ _).alloc (Nat.le_refl _) _).alloc (by simp) _
  have HB0 := Lib.hid hbw
  have G1 : Hid (Bk w g 26 #[.int .i64 4, .int .i64 0, .string ⟨#[]⟩, .slice none 0 0, .slice none 0 0]) := Lib.hid (by rw [hw, hge]; exact (Bk.new w0 _ _).alloc _)
  have HR1 : Hid (Bk w gR 26 #[.int .i64 0, .int .i64 0, .string ⟨#[]⟩, .slice none 0 0, .slice none 0 0]) := Lib.hid (by rw [hw, hgR]; have h := Bk.new (w0.alloc (.cells #[.int .i64 4, .int .i64 0, .string ⟨#[]⟩, .slice none 0 0, .slice none 0 0] 26)) 26 #[.int .i64 0, .int .i64 0, .string ⟨#[]⟩, .slice none 0 0, .slice none 0 0]; simpa using h)
  have W1 := Lib.hid (hr0.below hbw)
  have Q1 := Lib.hid (hq0.below hbw hq0.lt)
  have HGR : Hid (w0.heap.size ≤ g ∧ w0.heap.size ≤ gR ∧ gR < w.heap.size) := Lib.hid ⟨by omega, by omega, HR1.out.lt⟩
  have NR : Hid (¬ Three p q g gR) := Lib.hid (fun h => by have h1 := hr0.lt; have h2 := hq0.lt; rcases h with h | h | h <;> omega)
  have HFIT := Lib.hid hfit
  have HV := Lib.hid hv
  have NQ := Lib.hid (W1.out.dec_ne Q1.out)
  have NG := Lib.hid (W1.out.val_ne G1.out)
  have NQG := Lib.hid (Q1.out.ne_ G1.out (by decide))
  have HL := Lib.hid hl
  have HI := Lib.hid hi
  have HC := Lib.hid (rint_k HI.out W1.out Q1.out)
  have SZ : Hid (g < w.heap.size ∧ q < w.heap.size ∧ p < w.heap.size) := Lib.hid ⟨G1.out.lt, Q1.out.lt, W1.out.lt⟩
  have hx1 : (w0.alloc (.cells #[.int .i64 4, .int .i64 0, .string ⟨#[]⟩, .slice none 0 0, .slice none 0 0] 26)).heap.size = w0.heap.size + 1 := by simp
  have HW := Lib.hid (And.intro hw (And.intro hge hgR))
  clear hfit hv hr0 hq0 hl hi hbw hge hgR hw hx1
  by_cases he1 : e1 = 0
  · subst he1
    by_cases hc : 0 ≤ c ∧ c ≤ 1000
    · obtain ⟨cn, rfl⟩ : ∃ cn : Nat, c = (cn : Int) := ⟨c.toNat, by omega⟩
      have hcn : cn ≤ 1000 := by omega
      have t1 : decide ((0 : Int) ≤ (cn : Int)) = true := by rw [decide_eq_true_eq]; omega
      have t2 : decide ((cn : Int) ≤ 1000) = true := by rw [decide_eq_true_eq]; omega
      have DI : Hid (decI dec false b l = decL dec false cn b l1 [] []) := Lib.hid (by
        unfold decI
        rw [HI.out, if_neg (by simp), if_neg (by show ¬ ((cn : Int) < 0 ∨ (1000 : Int) < cn); omega)]
        rfl)
      have HL1 : Hid (l1.length ≤ 4611686018427387904) := Lib.hid (by have h := intA_len l; rw [HI.out] at h; have := HL.out; simp only at h; omega)
      clear hc
      go_enter Try.func117, Try.ntmps117
      go_upto_region 1 with fail
      rw [← HW.out.1]
      rw [← HW.out.2.2, ← HW.out.2.1]
      go_wp2_with fail
      refine (HC.out).mono ?_
      rintro e1x w2 ⟨rfl, hg, hr2⟩
      have Q2 := Lib.hid (Q1.out.grown hg (by intro e; injection e with e; exact NQ.out e))
      have G2 := Lib.hid (G1.out.grown hg (by intro e; injection e with e; exact NG.out e))
      have F2 : Hid (FrS (Three p q g) w w2) := Lib.hid (FrS.of_grown hg (Or.inl rfl))
      have W2 := Lib.hid hr2
      clear hg hr2
      go_wp2_with fail
      refine (rreq_any true W2.out Q2.out).mono ?_
      rintro e1x w3 ⟨rfl, hg, hr3⟩
      have Q3 := Lib.hid (Q2.out.grown hg (by intro e; injection e with e; exact NQ.out e))
      have G3 := Lib.hid (G2.out.grown hg (by intro e; injection e with e; exact NG.out e))
      have F3 : Hid (FrS (Three p q g) w w3) := Lib.hid (F2.out.trans (FrS.of_grown hg (Or.inl rfl)))
      have W3 := Lib.hid hr3
      clear hg hr3
      clear HW
      go_wp2_with fail
      go_loopg [8] cn (fun gh iv wr => ∃ (j n : Nat) (AI : Option Addr) (cI : Nat), j ≤ cn ∧ gh = cn - j ∧ iv = .int .i64 j ∧ Hid (StepP RRd 93 dec (decI dec false b l) p q g cn j AI cI n w wr) ∧ Hid (Bk wr g 26 #[.int .i64 4, .int .i64 0, .string ⟨#[]⟩, .slice AI j cI, .slice none 0 0]))
      case atStart => exact ⟨0, b, none, 0, by omega, rfl, rfl, Lib.hid ⟨F3.out, Q3.out, by omega, Or.inl ⟨[], [], l1, hb, rfl, HL1.out, DI, W3, Lib.hid (World.ownsRow_nil _ _ _ _), Lib.hid rfl⟩⟩, G3⟩
      case round =>
        obtain ⟨j, n, AI, cI, hjn, rfl, rfl, HST, HG⟩ := hrel
        obtain ⟨hf, hq, hn, hst⟩ := HST.out
        have HF := Lib.hid hf
        have HQ := Lib.hid hq
        clear hf hq HST
        rcases hst with ⟨its, cs, l2, hn2, hil, hl2, HD, HW, HO, HLC⟩ | ⟨e, l2, HD, he, HW⟩
        · by_cases hlt : j < cn
          · have HCV : Hid (∀ W, Below wr.heap.size wr W → Calls Try.prog 87 #[.pointer (some ⟨q, 0, none⟩), .int .i64 (d + 1)] W (DecA RRd 93 (dec n l2) p q wr W)) := Lib.hid (fun W hb => (HV.out W n l2 (HW.out.below hb) (HQ.out.below hb HQ.out.lt) hn2 hl2).mono (fun _ _ h => h.after hb HW.out.lt HQ.out.lt))
            have g0 := HG.out.cell 0
            change _ = some (Value.int .i64 4) at g0
            have g3 := HG.out.cell 3
            change _ = some (Value.slice AI j cI) at g3
            have fg := HG.out.frozen 3
            have LTS : Hid (g < wr.heap.size ∧ q < wr.heap.size ∧ p < wr.heap.size ∧ w.heap.size ≤ wr.heap.size) := Lib.hid (by have := HF.out.size; have := SZ.out; exact ⟨by omega, by omega, by omega, by omega⟩)
            have ltg := LTS.out.1
            have c0 := trivial
            go_wp2_with fail
            refine (good_any true (by decide) HW.out HQ.out).mono ?_
            rintro e1 w' ⟨rfl, rfl⟩
            go_wp2_with fail
            refine (good_any true (by decide) HW.out HQ.out).mono ?_
            rintro e1 w' ⟨rfl, rfl⟩
            go_upto_region 10 with fail
            have hdw : IntKind.i64.wrap (d + 1) = d + 1 := IntWalk.i64_in _ (by omega)
            have HOS : Hid (∀ W, FrS (Two p q) wr W → W.ownsRow w.heap.size 26 5 (.slice AI j cI) j cs) := Lib.hid (fun W h => own_same HO.out (h.same (fun b hb => by have := SZ.out; rcases hb with hb | hb <;> omega)))
            have GIN : Hid (¬ Two p q g) := Lib.hid (fun h => by rcases h with h | h; exact NG.out h; exact NQG.out h.symm)
            have LIM : Hid ((j + 1) * 80 ≤ 140737488355328) := Lib.hid (by omega)
            have HI5 := Lib.hid (And.intro hiV (And.intro hzV (And.intro hsV hbV)))
            have HNG : Hid ((Value.slice AI j cI).ownBlock ≠ some g) := Lib.hid (fun e => by have := (HO.out.lt g e).1; have := SZ.out; omega)
            have jj : (j : Int) < (j : Int) + 1 := by omega
            go_region_law (first
              | (refine step_append_lies _ (by rfl) _ _ _ (by rfl) w.heap.size 26 iV _ 5 80 Try.underlying23 HI5.out.1 HI5.out.2.1 HI5.out.2.2.1 HI5.out.2.2.2 rfl (by omega) (.slice AI j cI) j cs (by rfl) (by first | exact (HOS.out _ HFB.out).alloc _ | exact ((HOS.out _ HFB.out).alloc _).drew | exact (HOS.out _ HFB.out).drew.alloc _) ⟨wB.heap.size, 0, none⟩ 1 1 [.int .i64 k2, .int .i64 i2, .string t2, .slice E n3 c3, .slice E' n4 c4] (by rfl) (by rfl) (World.news_of_block (cs := #[.int .i64 k2, .int .i64 i2, .string t2, .slice E n3 c3, .slice E' n4 c4]) (t := 26) (fr := (0, 0)) (heap_alloc_new wB _)) (by simp [Value.oneCell']) (by omega) (by have := LIM.out; unfold maxLen; omega) LIM.out (by have := HFB.out.size; have := LTS.out; simp; omega) (wB.heap.size + 1) (by simp) ?_; intro g2 cap w1 hown1 hgrow hat hlt1; have HGW : Hid (wB.grownBy w1 (Value.slice AI j cI).ownBlock) := Lib.hid (grownBy_trans (World.grownBy_alloc wB _ _) (by exact hgrow)); have HAT : Hid ((Value.slice AI j cI).ownBlock = some g2 ∨ wB.heap.size ≤ g2) := Lib.hid (by rcases hat with h | h; exact Or.inl h; exact Or.inr (by omega)); clear hat hgrow; obtain ⟨cur, hBK, y0, y1, y2, y3, y4, hW5⟩ := own_last hown1; have HW5 := Lib.hid hW5; have HY := Lib.hid (And.intro y0 (And.intro y1 (And.intro y2 (And.intro y3 y4)))); have HBK := Lib.hid hBK; clear hBK y0 y1 y2 y3 y4 hW5 hown1; have HG1 : Hid (Bk w1 g 26 #[.int .i64 4, .int .i64 0, .string ⟨#[]⟩, .slice AI j cI, .slice none 0 0]) := Lib.hid ((HFB.out.bk HG.out GIN.out).grown HGW.out (Ne.symm HNG.out)); have gg3 := HG1.out.cell 3; change _ = some (Value.slice AI j cI) at gg3; have gf3 := HG1.out.frozen 3; have ne1 : g2 ≠ g := (fun e => by rcases HAT.out with h | h; exact HNG.out (by rw [h, e]); omega))
              | (go_simp; go_at_call 87; refine (HCV.out _ (by first | exact Below.refl _ _ | exact (Below.refl _ _).drew | exact ⟨rfl, rfl, rfl, by simp, fun b hb => Below.heap_alloc _ _ b hb⟩)).mono ?_; rintro _ wB ⟨k2, i2, t2, E, n3, c3, E', n4, c4, b2, rfl, HFB, HMB, HQB, HXB⟩; have gB3 := (HFB.out.cell (p := ⟨g, 3, none⟩) ltg GIN.out).trans g3; have fgB := (HFB.out.bk HG.out GIN.out).frozen 3; have ltB : g < wB.heap.size := Nat.lt_of_lt_of_le ltg HFB.out.size))
            all_goals (
              obtain ⟨wf, hwf, HLA⟩ : ∃ wf, wf = w1.setCell ⟨g, 3, none⟩ (.slice (some ⟨g2, 0, none⟩) (j + 1) cap) ∧ Hid (Last w1 wf g g2 #[.int .i64 4, .int .i64 0, .string ⟨#[]⟩, (.slice (some ⟨g2, 0, none⟩) (j + 1) cap), .slice none 0 0] (setV cur (j * 5) (.int .i64 k2) (.int .i64 i2) (.string t2) (.slice E n3 c3) (.slice E' n4 c4))) := ⟨_, rfl, Lib.hid (last_c HG1.out HBK.out ne1 HY.out.1 HY.out.2.1 HY.out.2.2.1 HY.out.2.2.2.1 HY.out.2.2.2.2)⟩
              rw [← hwf]
              have HGF := Lib.hid HLA.out.2.2.2.2.2.1
              have ST := Lib.hid (ritem_step HFIT.out SZ.out NG.out NQG.out HF.out HG.out HO.out HLC.out HFB.out HQB.out HXB.out HGW.out HAT.out HLA.out HW5.out hlt hn2 hl2 hil HD.out)
              have HJ := Lib.hid hlt
              clear hwf HLA hdw HG1 gg3 gf3 ne1 HBK HY HW5 HAT HGW gB3 fgB ltB HXB HQB HMB HFB HNG HI5 LIM GIN HOS fg g3 g0 ltg LTS HCV HO HLC HW HD c0 jj hlt1
              go_wp2_with fail
              go_roundg (cn - (j + 1))
              case measure => have := HJ.out; omega
              case rel => exact ⟨j + 1, b2, some ⟨g2, 0, none⟩, cap, by have := HJ.out; omega, rfl, by go_num, ST, HGF⟩)
          · obtain rfl : cn = j := by omega
            have hff : decide ((cn : Int) < cn) = false := by simp
            have v0 := HG.out.cell 0
            change _ = some (Value.int .i64 4) at v0
            have v1 := HG.out.cell 1
            change _ = some (Value.int .i64 0) at v1
            have v2 := HG.out.cell 2
            change _ = some (Value.string ⟨#[]⟩) at v2
            have v3 := HG.out.cell 3
            change _ = some (Value.slice AI cn cI) at v3
            have v4 := HG.out.cell 4
            change _ = some (Value.slice none 0 0) at v4
            have HR := Lib.hid (HF.out.bk HR1.out NR.out)
            have r0 := HR.out.cell 0
            have r1 := HR.out.cell 1
            have r2 := HR.out.cell 2
            have r3 := HR.out.cell 3
            have r4 := HR.out.cell 4
            have f0 := HR.out.frozen 0
            have f1 := HR.out.frozen 1
            have f2 := HR.out.frozen 2
            have f3 := HR.out.frozen 3
            have f4 := HR.out.frozen 4
            go_wp2
            obtain ⟨wf, hwf⟩ : ∃ wf, wf = ((((wr.setCell ⟨gR, 0, none⟩ (.int .i64 4)).setCell ⟨gR, 1, none⟩ (.int .i64 0)).setCell ⟨gR, 2, none⟩ (.string ⟨#[]⟩)).setCell ⟨gR, 3, none⟩ (.slice AI cn cI)).setCell ⟨gR, 4, none⟩ (.slice none 0 0) := ⟨_, rfl⟩
            have GF : Hid (wr.grownBy wf (some gR)) := Lib.hid (by rw [hwf]; exact grownBy_trans (grownBy_trans (grownBy_trans (grownBy_trans (turned wr gR 0 _) (turned _ gR 1 _)) (turned _ gR 2 _)) (turned _ gR 3 _)) (turned _ gR 4 _))
            have RF : Hid (Bk wf gR 26 #[.int .i64 4, .int .i64 0, .string ⟨#[]⟩, .slice AI cn cI, .slice none 0 0]) := Lib.hid (by rw [hwf]; exact ((((HR.out.put 0 _).put 1 _).put 2 _).put 3 _).put 4 _)
            have QF := Lib.hid (HQ.out.grown GF.out (by intro e; injection e with e; exact NR.out (Or.inr (Or.inl e.symm))))
            have WF := Lib.hid (HW.out.other HR.out (by decide) (fun e => NR.out (Or.inl e.symm)) GF.out)
            have FF : Hid (FrS (Two p q) w0 wf) := Lib.hid (endF HB0.out HGR.out HF.out GF.out)
            rw [← hwf]
            refine bodyPost_ret (results_cell_row rfl _ _ gR 26 _ (0, 0) _ rfl RF.out Try.underlying26 rfl (by kernel_rfl)) rfl ?_
            have LL := items_lies (K := 4) HO.out HLC.out hil (by omega)
            exact ⟨AI, cn, cI, none, 0, 0, n, rfl, FF, QF, hn, Or.inl ⟨its, [], l2, Lib.hid (by rw [HD.out, Nat.sub_self]; rfl), WF, Lib.hid (LL.keep (fun a ha => GF.out.cell_far a ha.2 (fun e => by injection e with e; have := ha.1; have := HGR.out; omega)) (fun b hb => ⟨by have := hb.1; have := HB0.out.size; omega, by have := hb.2; have := GF.out.size; omega⟩))⟩⟩
        · have HEF : Hid ((e == 0) = false) := Lib.hid (by rw [beq_eq_false_iff_ne]; exact he)
          by_cases hlt : j < cn
          · go_wp2_with fail
            refine (good_any false HEF.out HW.out HQ.out).mono ?_
            rintro e1 w' ⟨rfl, rfl⟩
            have v0 := HG.out.cell 0
            change _ = some (Value.int .i64 4) at v0
            have v1 := HG.out.cell 1
            change _ = some (Value.int .i64 0) at v1
            have v2 := HG.out.cell 2
            change _ = some (Value.string ⟨#[]⟩) at v2
            have v3 := HG.out.cell 3
            change _ = some (Value.slice AI j cI) at v3
            have v4 := HG.out.cell 4
            change _ = some (Value.slice none 0 0) at v4
            have HR := Lib.hid (HF.out.bk HR1.out NR.out)
            have r0 := HR.out.cell 0
            have r1 := HR.out.cell 1
            have r2 := HR.out.cell 2
            have r3 := HR.out.cell 3
            have r4 := HR.out.cell 4
            have f0 := HR.out.frozen 0
            have f1 := HR.out.frozen 1
            have f2 := HR.out.frozen 2
            have f3 := HR.out.frozen 3
            have f4 := HR.out.frozen 4
            go_wp2
            obtain ⟨wf, hwf⟩ : ∃ wf, wf = ((((wr.setCell ⟨gR, 0, none⟩ (.int .i64 4)).setCell ⟨gR, 1, none⟩ (.int .i64 0)).setCell ⟨gR, 2, none⟩ (.string ⟨#[]⟩)).setCell ⟨gR, 3, none⟩ (.slice AI j cI)).setCell ⟨gR, 4, none⟩ (.slice none 0 0) := ⟨_, rfl⟩
            have GF : Hid (wr.grownBy wf (some gR)) := Lib.hid (by rw [hwf]; exact grownBy_trans (grownBy_trans (grownBy_trans (grownBy_trans (turned wr gR 0 _) (turned _ gR 1 _)) (turned _ gR 2 _)) (turned _ gR 3 _)) (turned _ gR 4 _))
            have RF : Hid (Bk wf gR 26 #[.int .i64 4, .int .i64 0, .string ⟨#[]⟩, .slice AI j cI, .slice none 0 0]) := Lib.hid (by rw [hwf]; exact ((((HR.out.put 0 _).put 1 _).put 2 _).put 3 _).put 4 _)
            have QF := Lib.hid (HQ.out.grown GF.out (by intro e; injection e with e; exact NR.out (Or.inr (Or.inl e.symm))))
            have WF := Lib.hid (HW.out.other HR.out (by decide) (fun e => NR.out (Or.inl e.symm)) GF.out)
            have FF : Hid (FrS (Two p q) w0 wf) := Lib.hid (endF HB0.out HGR.out HF.out GF.out)
            rw [← hwf]
            refine bodyPost_ret (results_cell_row rfl _ _ gR 26 _ (0, 0) _ rfl RF.out Try.underlying26 rfl (by kernel_rfl)) rfl ?_
            exact ⟨AI, j, cI, none, 0, 0, n, rfl, FF, QF, hn, Or.inr ⟨e, l2, HD, he, WF⟩⟩
          · obtain rfl : cn = j := by omega
            have hff : decide ((cn : Int) < cn) = false := by simp
            have v0 := HG.out.cell 0
            change _ = some (Value.int .i64 4) at v0
            have v1 := HG.out.cell 1
            change _ = some (Value.int .i64 0) at v1
            have v2 := HG.out.cell 2
            change _ = some (Value.string ⟨#[]⟩) at v2
            have v3 := HG.out.cell 3
            change _ = some (Value.slice AI cn cI) at v3
            have v4 := HG.out.cell 4
            change _ = some (Value.slice none 0 0) at v4
            have HR := Lib.hid (HF.out.bk HR1.out NR.out)
            have r0 := HR.out.cell 0
            have r1 := HR.out.cell 1
            have r2 := HR.out.cell 2
            have r3 := HR.out.cell 3
            have r4 := HR.out.cell 4
            have f0 := HR.out.frozen 0
            have f1 := HR.out.frozen 1
            have f2 := HR.out.frozen 2
            have f3 := HR.out.frozen 3
            have f4 := HR.out.frozen 4
            go_wp2
            obtain ⟨wf, hwf⟩ : ∃ wf, wf = ((((wr.setCell ⟨gR, 0, none⟩ (.int .i64 4)).setCell ⟨gR, 1, none⟩ (.int .i64 0)).setCell ⟨gR, 2, none⟩ (.string ⟨#[]⟩)).setCell ⟨gR, 3, none⟩ (.slice AI cn cI)).setCell ⟨gR, 4, none⟩ (.slice none 0 0) := ⟨_, rfl⟩
            have GF : Hid (wr.grownBy wf (some gR)) := Lib.hid (by rw [hwf]; exact grownBy_trans (grownBy_trans (grownBy_trans (grownBy_trans (turned wr gR 0 _) (turned _ gR 1 _)) (turned _ gR 2 _)) (turned _ gR 3 _)) (turned _ gR 4 _))
            have RF : Hid (Bk wf gR 26 #[.int .i64 4, .int .i64 0, .string ⟨#[]⟩, .slice AI cn cI, .slice none 0 0]) := Lib.hid (by rw [hwf]; exact ((((HR.out.put 0 _).put 1 _).put 2 _).put 3 _).put 4 _)
            have QF := Lib.hid (HQ.out.grown GF.out (by intro e; injection e with e; exact NR.out (Or.inr (Or.inl e.symm))))
            have WF := Lib.hid (HW.out.other HR.out (by decide) (fun e => NR.out (Or.inl e.symm)) GF.out)
            have FF : Hid (FrS (Two p q) w0 wf) := Lib.hid (endF HB0.out HGR.out HF.out GF.out)
            rw [← hwf]
            refine bodyPost_ret (results_cell_row rfl _ _ gR 26 _ (0, 0) _ rfl RF.out Try.underlying26 rfl (by kernel_rfl)) rfl ?_
            exact ⟨AI, cn, cI, none, 0, 0, n, rfl, FF, QF, hn, Or.inr ⟨e, l2, HD, he, WF⟩⟩
    · by_cases hneg : c < 0
      · have t1 : decide ((0 : Int) ≤ c) = false := by rw [decide_eq_false_iff_not]; omega
        have DI : Hid (decI dec false b l = .err (reqE false 0) ∧ reqE false 0 ≠ 0) := Lib.hid (by
          unfold decI
          rw [HI.out]
          rw [if_neg (by simp), if_pos (by show c < 0 ∨ (1000 : Int) < c; omega)]
          exact ⟨rfl, by decide⟩)
        go_enter Try.func117, Try.ntmps117
        go_upto_region 1 with fail
        rw [← HW.out.1]
        rw [← HW.out.2.2, ← HW.out.2.1]
        go_wp2_with fail
        refine (HC.out).mono ?_
        rintro e1x w2 ⟨rfl, hg, hr2⟩
        have Q2 := Lib.hid (Q1.out.grown hg (by intro e; injection e with e; exact NQ.out e))
        have G2 := Lib.hid (G1.out.grown hg (by intro e; injection e with e; exact NG.out e))
        have F2 : Hid (FrS (Three p q g) w w2) := Lib.hid (FrS.of_grown hg (Or.inl rfl))
        have W2 := Lib.hid hr2
        clear hg hr2
        go_wp2_with fail
        refine (rreq_any false W2.out Q2.out).mono ?_
        rintro e1x w3 ⟨rfl, hg, hr3⟩
        have Q3 := Lib.hid (Q2.out.grown hg (by intro e; injection e with e; exact NQ.out e))
        have G3 := Lib.hid (G2.out.grown hg (by intro e; injection e with e; exact NG.out e))
        have F3 : Hid (FrS (Three p q g) w w3) := Lib.hid (F2.out.trans (FrS.of_grown hg (Or.inl rfl)))
        have W3 := Lib.hid hr3
        clear hg hr3
        have HEF : Hid ((reqE false 0 == 0) = false) := Lib.hid (by rw [beq_eq_false_iff_ne]; exact DI.out.2)
        go_wp2_with fail
        go_loopg [8] 0 (fun gh iv wr => iv = .int .i64 0 ∧ wr = w3)
        case atStart => exact ⟨rfl, rfl⟩
        case round =>
          obtain ⟨rfl, rfl⟩ := hrel
          have HF := F3
          have HQ := Q3
          have HG := G3
          clear HW
          have HW := W3
          clear F3 Q3 G3 W3
          have hpd : decide ((0 : Int) < c) = false := by rw [decide_eq_false_iff_not]; omega
          have v0 := HG.out.cell 0
          change _ = some (Value.int .i64 4) at v0
          have v1 := HG.out.cell 1
          change _ = some (Value.int .i64 0) at v1
          have v2 := HG.out.cell 2
          change _ = some (Value.string ⟨#[]⟩) at v2
          have v3 := HG.out.cell 3
          change _ = some (Value.slice none 0 0) at v3
          have v4 := HG.out.cell 4
          change _ = some (Value.slice none 0 0) at v4
          have HR := Lib.hid (HF.out.bk HR1.out NR.out)
          have r0 := HR.out.cell 0
          have r1 := HR.out.cell 1
          have r2 := HR.out.cell 2
          have r3 := HR.out.cell 3
          have r4 := HR.out.cell 4
          have f0 := HR.out.frozen 0
          have f1 := HR.out.frozen 1
          have f2 := HR.out.frozen 2
          have f3 := HR.out.frozen 3
          have f4 := HR.out.frozen 4
          go_wp2
          obtain ⟨wf, hwf⟩ : ∃ wf, wf = ((((wr.setCell ⟨gR, 0, none⟩ (.int .i64 4)).setCell ⟨gR, 1, none⟩ (.int .i64 0)).setCell ⟨gR, 2, none⟩ (.string ⟨#[]⟩)).setCell ⟨gR, 3, none⟩ (.slice none 0 0)).setCell ⟨gR, 4, none⟩ (.slice none 0 0) := ⟨_, rfl⟩
          have GF : Hid (wr.grownBy wf (some gR)) := Lib.hid (by rw [hwf]; exact grownBy_trans (grownBy_trans (grownBy_trans (grownBy_trans (turned wr gR 0 _) (turned _ gR 1 _)) (turned _ gR 2 _)) (turned _ gR 3 _)) (turned _ gR 4 _))
          have RF : Hid (Bk wf gR 26 #[.int .i64 4, .int .i64 0, .string ⟨#[]⟩, .slice none 0 0, .slice none 0 0]) := Lib.hid (by rw [hwf]; exact ((((HR.out.put 0 _).put 1 _).put 2 _).put 3 _).put 4 _)
          have QF := Lib.hid (HQ.out.grown GF.out (by intro e; injection e with e; exact NR.out (Or.inr (Or.inl e.symm))))
          have WF := Lib.hid (HW.out.other HR.out (by decide) (fun e => NR.out (Or.inl e.symm)) GF.out)
          have FF : Hid (FrS (Two p q) w0 wf) := Lib.hid (endF HB0.out HGR.out HF.out GF.out)
          rw [← hwf]
          refine bodyPost_ret (results_cell_row rfl _ _ gR 26 _ (0, 0) _ rfl RF.out Try.underlying26 rfl (by kernel_rfl)) rfl ?_
          exact ⟨none, 0, 0, none, 0, 0, b, rfl, FF, QF, by omega, Or.inr ⟨_, l1, Lib.hid DI.out.1, DI.out.2, WF⟩⟩
      · have t1 : decide ((0 : Int) ≤ c) = true := by rw [decide_eq_true_eq]; omega
        have t2 : decide (c ≤ 1000) = false := by rw [decide_eq_false_iff_not]; omega
        have DI : Hid (decI dec false b l = .err (reqE false 0) ∧ reqE false 0 ≠ 0) := Lib.hid (by
          unfold decI
          rw [HI.out]
          rw [if_neg (by simp), if_pos (by show c < 0 ∨ (1000 : Int) < c; omega)]
          exact ⟨rfl, by decide⟩)
        go_enter Try.func117, Try.ntmps117
        go_upto_region 1 with fail
        rw [← HW.out.1]
        rw [← HW.out.2.2, ← HW.out.2.1]
        go_wp2_with fail
        refine (HC.out).mono ?_
        rintro e1x w2 ⟨rfl, hg, hr2⟩
        have Q2 := Lib.hid (Q1.out.grown hg (by intro e; injection e with e; exact NQ.out e))
        have G2 := Lib.hid (G1.out.grown hg (by intro e; injection e with e; exact NG.out e))
        have F2 : Hid (FrS (Three p q g) w w2) := Lib.hid (FrS.of_grown hg (Or.inl rfl))
        have W2 := Lib.hid hr2
        clear hg hr2
        go_wp2_with fail
        refine (rreq_any false W2.out Q2.out).mono ?_
        rintro e1x w3 ⟨rfl, hg, hr3⟩
        have Q3 := Lib.hid (Q2.out.grown hg (by intro e; injection e with e; exact NQ.out e))
        have G3 := Lib.hid (G2.out.grown hg (by intro e; injection e with e; exact NG.out e))
        have F3 : Hid (FrS (Three p q g) w w3) := Lib.hid (F2.out.trans (FrS.of_grown hg (Or.inl rfl)))
        have W3 := Lib.hid hr3
        clear hg hr3
        have HEF : Hid ((reqE false 0 == 0) = false) := Lib.hid (by rw [beq_eq_false_iff_ne]; exact DI.out.2)
        go_wp2_with fail
        go_loopg [8] 0 (fun gh iv wr => iv = .int .i64 0 ∧ wr = w3)
        case atStart => exact ⟨rfl, rfl⟩
        case round =>
          obtain ⟨rfl, rfl⟩ := hrel
          have HF := F3
          have HQ := Q3
          have HG := G3
          clear HW
          have HW := W3
          clear F3 Q3 G3 W3
          have hpd : decide ((0 : Int) < c) = true := by rw [decide_eq_true_eq]; omega
          go_wp2_with fail
          refine (good_any false HEF.out HW.out HQ.out).mono ?_
          rintro e1x w' ⟨rfl, rfl⟩
          have v0 := HG.out.cell 0
          change _ = some (Value.int .i64 4) at v0
          have v1 := HG.out.cell 1
          change _ = some (Value.int .i64 0) at v1
          have v2 := HG.out.cell 2
          change _ = some (Value.string ⟨#[]⟩) at v2
          have v3 := HG.out.cell 3
          change _ = some (Value.slice none 0 0) at v3
          have v4 := HG.out.cell 4
          change _ = some (Value.slice none 0 0) at v4
          have HR := Lib.hid (HF.out.bk HR1.out NR.out)
          have r0 := HR.out.cell 0
          have r1 := HR.out.cell 1
          have r2 := HR.out.cell 2
          have r3 := HR.out.cell 3
          have r4 := HR.out.cell 4
          have f0 := HR.out.frozen 0
          have f1 := HR.out.frozen 1
          have f2 := HR.out.frozen 2
          have f3 := HR.out.frozen 3
          have f4 := HR.out.frozen 4
          go_wp2
          obtain ⟨wf, hwf⟩ : ∃ wf, wf = ((((wr.setCell ⟨gR, 0, none⟩ (.int .i64 4)).setCell ⟨gR, 1, none⟩ (.int .i64 0)).setCell ⟨gR, 2, none⟩ (.string ⟨#[]⟩)).setCell ⟨gR, 3, none⟩ (.slice none 0 0)).setCell ⟨gR, 4, none⟩ (.slice none 0 0) := ⟨_, rfl⟩
          have GF : Hid (wr.grownBy wf (some gR)) := Lib.hid (by rw [hwf]; exact grownBy_trans (grownBy_trans (grownBy_trans (grownBy_trans (turned wr gR 0 _) (turned _ gR 1 _)) (turned _ gR 2 _)) (turned _ gR 3 _)) (turned _ gR 4 _))
          have RF : Hid (Bk wf gR 26 #[.int .i64 4, .int .i64 0, .string ⟨#[]⟩, .slice none 0 0, .slice none 0 0]) := Lib.hid (by rw [hwf]; exact ((((HR.out.put 0 _).put 1 _).put 2 _).put 3 _).put 4 _)
          have QF := Lib.hid (HQ.out.grown GF.out (by intro e; injection e with e; exact NR.out (Or.inr (Or.inl e.symm))))
          have WF := Lib.hid (HW.out.other HR.out (by decide) (fun e => NR.out (Or.inl e.symm)) GF.out)
          have FF : Hid (FrS (Two p q) w0 wf) := Lib.hid (endF HB0.out HGR.out HF.out GF.out)
          rw [← hwf]
          refine bodyPost_ret (results_cell_row rfl _ _ gR 26 _ (0, 0) _ rfl RF.out Try.underlying26 rfl (by kernel_rfl)) rfl ?_
          exact ⟨none, 0, 0, none, 0, 0, b, rfl, FF, QF, by omega, Or.inr ⟨_, l1, Lib.hid DI.out.1, DI.out.2, WF⟩⟩
  · by_cases hneg : c < 0
    · have t1 : decide ((0 : Int) ≤ c) = false := by rw [decide_eq_false_iff_not]; omega
      have DI : Hid (decI dec false b l = .err (reqE false e1) ∧ reqE false e1 ≠ 0) := Lib.hid (by
        unfold decI
        rw [HI.out]
        rw [if_pos (by exact he1)]
        exact ⟨by rw [reqE_ne he1], by rw [reqE_ne he1]; exact he1⟩)
      go_enter Try.func117, Try.ntmps117
      go_upto_region 1 with fail
      rw [← HW.out.1]
      rw [← HW.out.2.2, ← HW.out.2.1]
      go_wp2_with fail
      refine (HC.out).mono ?_
      rintro e1x w2 ⟨rfl, hg, hr2⟩
      have Q2 := Lib.hid (Q1.out.grown hg (by intro e; injection e with e; exact NQ.out e))
      have G2 := Lib.hid (G1.out.grown hg (by intro e; injection e with e; exact NG.out e))
      have F2 : Hid (FrS (Three p q g) w w2) := Lib.hid (FrS.of_grown hg (Or.inl rfl))
      have W2 := Lib.hid hr2
      clear hg hr2
      go_wp2_with fail
      refine (rreq_any false W2.out Q2.out).mono ?_
      rintro e1x w3 ⟨rfl, hg, hr3⟩
      have Q3 := Lib.hid (Q2.out.grown hg (by intro e; injection e with e; exact NQ.out e))
      have G3 := Lib.hid (G2.out.grown hg (by intro e; injection e with e; exact NG.out e))
      have F3 : Hid (FrS (Three p q g) w w3) := Lib.hid (F2.out.trans (FrS.of_grown hg (Or.inl rfl)))
      have W3 := Lib.hid hr3
      clear hg hr3
      have HEF : Hid ((reqE false e1 == 0) = false) := Lib.hid (by rw [beq_eq_false_iff_ne]; exact DI.out.2)
      go_wp2_with fail
      go_loopg [8] 0 (fun gh iv wr => iv = .int .i64 0 ∧ wr = w3)
      case atStart => exact ⟨rfl, rfl⟩
      case round =>
        obtain ⟨rfl, rfl⟩ := hrel
        have HF := F3
        have HQ := Q3
        have HG := G3
        clear HW
        have HW := W3
        clear F3 Q3 G3 W3
        have hpd : decide ((0 : Int) < c) = false := by rw [decide_eq_false_iff_not]; omega
        have v0 := HG.out.cell 0
        change _ = some (Value.int .i64 4) at v0
        have v1 := HG.out.cell 1
        change _ = some (Value.int .i64 0) at v1
        have v2 := HG.out.cell 2
        change _ = some (Value.string ⟨#[]⟩) at v2
        have v3 := HG.out.cell 3
        change _ = some (Value.slice none 0 0) at v3
        have v4 := HG.out.cell 4
        change _ = some (Value.slice none 0 0) at v4
        have HR := Lib.hid (HF.out.bk HR1.out NR.out)
        have r0 := HR.out.cell 0
        have r1 := HR.out.cell 1
        have r2 := HR.out.cell 2
        have r3 := HR.out.cell 3
        have r4 := HR.out.cell 4
        have f0 := HR.out.frozen 0
        have f1 := HR.out.frozen 1
        have f2 := HR.out.frozen 2
        have f3 := HR.out.frozen 3
        have f4 := HR.out.frozen 4
        go_wp2
        obtain ⟨wf, hwf⟩ : ∃ wf, wf = ((((wr.setCell ⟨gR, 0, none⟩ (.int .i64 4)).setCell ⟨gR, 1, none⟩ (.int .i64 0)).setCell ⟨gR, 2, none⟩ (.string ⟨#[]⟩)).setCell ⟨gR, 3, none⟩ (.slice none 0 0)).setCell ⟨gR, 4, none⟩ (.slice none 0 0) := ⟨_, rfl⟩
        have GF : Hid (wr.grownBy wf (some gR)) := Lib.hid (by rw [hwf]; exact grownBy_trans (grownBy_trans (grownBy_trans (grownBy_trans (turned wr gR 0 _) (turned _ gR 1 _)) (turned _ gR 2 _)) (turned _ gR 3 _)) (turned _ gR 4 _))
        have RF : Hid (Bk wf gR 26 #[.int .i64 4, .int .i64 0, .string ⟨#[]⟩, .slice none 0 0, .slice none 0 0]) := Lib.hid (by rw [hwf]; exact ((((HR.out.put 0 _).put 1 _).put 2 _).put 3 _).put 4 _)
        have QF := Lib.hid (HQ.out.grown GF.out (by intro e; injection e with e; exact NR.out (Or.inr (Or.inl e.symm))))
        have WF := Lib.hid (HW.out.other HR.out (by decide) (fun e => NR.out (Or.inl e.symm)) GF.out)
        have FF : Hid (FrS (Two p q) w0 wf) := Lib.hid (endF HB0.out HGR.out HF.out GF.out)
        rw [← hwf]
        refine bodyPost_ret (results_cell_row rfl _ _ gR 26 _ (0, 0) _ rfl RF.out Try.underlying26 rfl (by kernel_rfl)) rfl ?_
        exact ⟨none, 0, 0, none, 0, 0, b, rfl, FF, QF, by omega, Or.inr ⟨_, l1, Lib.hid DI.out.1, DI.out.2, WF⟩⟩
    · by_cases hbig : 1000 < c
      · have t1 : decide ((0 : Int) ≤ c) = true := by rw [decide_eq_true_eq]; omega
        have t2 : decide (c ≤ 1000) = false := by rw [decide_eq_false_iff_not]; omega
        have DI : Hid (decI dec false b l = .err (reqE false e1) ∧ reqE false e1 ≠ 0) := Lib.hid (by
          unfold decI
          rw [HI.out]
          rw [if_pos (by exact he1)]
          exact ⟨by rw [reqE_ne he1], by rw [reqE_ne he1]; exact he1⟩)
        go_enter Try.func117, Try.ntmps117
        go_upto_region 1 with fail
        rw [← HW.out.1]
        rw [← HW.out.2.2, ← HW.out.2.1]
        go_wp2_with fail
        refine (HC.out).mono ?_
        rintro e1x w2 ⟨rfl, hg, hr2⟩
        have Q2 := Lib.hid (Q1.out.grown hg (by intro e; injection e with e; exact NQ.out e))
        have G2 := Lib.hid (G1.out.grown hg (by intro e; injection e with e; exact NG.out e))
        have F2 : Hid (FrS (Three p q g) w w2) := Lib.hid (FrS.of_grown hg (Or.inl rfl))
        have W2 := Lib.hid hr2
        clear hg hr2
        go_wp2_with fail
        refine (rreq_any false W2.out Q2.out).mono ?_
        rintro e1x w3 ⟨rfl, hg, hr3⟩
        have Q3 := Lib.hid (Q2.out.grown hg (by intro e; injection e with e; exact NQ.out e))
        have G3 := Lib.hid (G2.out.grown hg (by intro e; injection e with e; exact NG.out e))
        have F3 : Hid (FrS (Three p q g) w w3) := Lib.hid (F2.out.trans (FrS.of_grown hg (Or.inl rfl)))
        have W3 := Lib.hid hr3
        clear hg hr3
        have HEF : Hid ((reqE false e1 == 0) = false) := Lib.hid (by rw [beq_eq_false_iff_ne]; exact DI.out.2)
        go_wp2_with fail
        go_loopg [8] 0 (fun gh iv wr => iv = .int .i64 0 ∧ wr = w3)
        case atStart => exact ⟨rfl, rfl⟩
        case round =>
          obtain ⟨rfl, rfl⟩ := hrel
          have HF := F3
          have HQ := Q3
          have HG := G3
          clear HW
          have HW := W3
          clear F3 Q3 G3 W3
          have hpd : decide ((0 : Int) < c) = true := by rw [decide_eq_true_eq]; omega
          go_wp2_with fail
          refine (good_any false HEF.out HW.out HQ.out).mono ?_
          rintro e1x w' ⟨rfl, rfl⟩
          have v0 := HG.out.cell 0
          change _ = some (Value.int .i64 4) at v0
          have v1 := HG.out.cell 1
          change _ = some (Value.int .i64 0) at v1
          have v2 := HG.out.cell 2
          change _ = some (Value.string ⟨#[]⟩) at v2
          have v3 := HG.out.cell 3
          change _ = some (Value.slice none 0 0) at v3
          have v4 := HG.out.cell 4
          change _ = some (Value.slice none 0 0) at v4
          have HR := Lib.hid (HF.out.bk HR1.out NR.out)
          have r0 := HR.out.cell 0
          have r1 := HR.out.cell 1
          have r2 := HR.out.cell 2
          have r3 := HR.out.cell 3
          have r4 := HR.out.cell 4
          have f0 := HR.out.frozen 0
          have f1 := HR.out.frozen 1
          have f2 := HR.out.frozen 2
          have f3 := HR.out.frozen 3
          have f4 := HR.out.frozen 4
          go_wp2
          obtain ⟨wf, hwf⟩ : ∃ wf, wf = ((((wr.setCell ⟨gR, 0, none⟩ (.int .i64 4)).setCell ⟨gR, 1, none⟩ (.int .i64 0)).setCell ⟨gR, 2, none⟩ (.string ⟨#[]⟩)).setCell ⟨gR, 3, none⟩ (.slice none 0 0)).setCell ⟨gR, 4, none⟩ (.slice none 0 0) := ⟨_, rfl⟩
          have GF : Hid (wr.grownBy wf (some gR)) := Lib.hid (by rw [hwf]; exact grownBy_trans (grownBy_trans (grownBy_trans (grownBy_trans (turned wr gR 0 _) (turned _ gR 1 _)) (turned _ gR 2 _)) (turned _ gR 3 _)) (turned _ gR 4 _))
          have RF : Hid (Bk wf gR 26 #[.int .i64 4, .int .i64 0, .string ⟨#[]⟩, .slice none 0 0, .slice none 0 0]) := Lib.hid (by rw [hwf]; exact ((((HR.out.put 0 _).put 1 _).put 2 _).put 3 _).put 4 _)
          have QF := Lib.hid (HQ.out.grown GF.out (by intro e; injection e with e; exact NR.out (Or.inr (Or.inl e.symm))))
          have WF := Lib.hid (HW.out.other HR.out (by decide) (fun e => NR.out (Or.inl e.symm)) GF.out)
          have FF : Hid (FrS (Two p q) w0 wf) := Lib.hid (endF HB0.out HGR.out HF.out GF.out)
          rw [← hwf]
          refine bodyPost_ret (results_cell_row rfl _ _ gR 26 _ (0, 0) _ rfl RF.out Try.underlying26 rfl (by kernel_rfl)) rfl ?_
          exact ⟨none, 0, 0, none, 0, 0, b, rfl, FF, QF, by omega, Or.inr ⟨_, l1, Lib.hid DI.out.1, DI.out.2, WF⟩⟩
      · have t1 : decide ((0 : Int) ≤ c) = true := by rw [decide_eq_true_eq]; omega
        have t2 : decide (c ≤ 1000) = true := by rw [decide_eq_true_eq]; omega
        have DI : Hid (decI dec false b l = .err (reqE true e1) ∧ reqE true e1 ≠ 0) := Lib.hid (by
          unfold decI
          rw [HI.out]
          rw [if_pos (by exact he1)]
          exact ⟨by rw [reqE_ne he1], by rw [reqE_ne he1]; exact he1⟩)
        go_enter Try.func117, Try.ntmps117
        go_upto_region 1 with fail
        rw [← HW.out.1]
        rw [← HW.out.2.2, ← HW.out.2.1]
        go_wp2_with fail
        refine (HC.out).mono ?_
        rintro e1x w2 ⟨rfl, hg, hr2⟩
        have Q2 := Lib.hid (Q1.out.grown hg (by intro e; injection e with e; exact NQ.out e))
        have G2 := Lib.hid (G1.out.grown hg (by intro e; injection e with e; exact NG.out e))
        have F2 : Hid (FrS (Three p q g) w w2) := Lib.hid (FrS.of_grown hg (Or.inl rfl))
        have W2 := Lib.hid hr2
        clear hg hr2
        go_wp2_with fail
        refine (rreq_any true W2.out Q2.out).mono ?_
        rintro e1x w3 ⟨rfl, hg, hr3⟩
        have Q3 := Lib.hid (Q2.out.grown hg (by intro e; injection e with e; exact NQ.out e))
        have G3 := Lib.hid (G2.out.grown hg (by intro e; injection e with e; exact NG.out e))
        have F3 : Hid (FrS (Three p q g) w w3) := Lib.hid (F2.out.trans (FrS.of_grown hg (Or.inl rfl)))
        have W3 := Lib.hid hr3
        clear hg hr3
        have HEF : Hid ((reqE true e1 == 0) = false) := Lib.hid (by rw [beq_eq_false_iff_ne]; exact DI.out.2)
        go_wp2_with fail
        go_loopg [8] 0 (fun gh iv wr => iv = .int .i64 0 ∧ wr = w3)
        case atStart => exact ⟨rfl, rfl⟩
        case round =>
          obtain ⟨rfl, rfl⟩ := hrel
          have HF := F3
          have HQ := Q3
          have HG := G3
          clear HW
          have HW := W3
          clear F3 Q3 G3 W3
          by_cases hpos : (0 : Int) < c
          · have hpd : decide ((0 : Int) < c) = true := by rw [decide_eq_true_eq]; omega
            go_wp2_with fail
            refine (good_any false HEF.out HW.out HQ.out).mono ?_
            rintro e1x w' ⟨rfl, rfl⟩
            have v0 := HG.out.cell 0
            change _ = some (Value.int .i64 4) at v0
            have v1 := HG.out.cell 1
            change _ = some (Value.int .i64 0) at v1
            have v2 := HG.out.cell 2
            change _ = some (Value.string ⟨#[]⟩) at v2
            have v3 := HG.out.cell 3
            change _ = some (Value.slice none 0 0) at v3
            have v4 := HG.out.cell 4
            change _ = some (Value.slice none 0 0) at v4
            have HR := Lib.hid (HF.out.bk HR1.out NR.out)
            have r0 := HR.out.cell 0
            have r1 := HR.out.cell 1
            have r2 := HR.out.cell 2
            have r3 := HR.out.cell 3
            have r4 := HR.out.cell 4
            have f0 := HR.out.frozen 0
            have f1 := HR.out.frozen 1
            have f2 := HR.out.frozen 2
            have f3 := HR.out.frozen 3
            have f4 := HR.out.frozen 4
            go_wp2
            obtain ⟨wf, hwf⟩ : ∃ wf, wf = ((((wr.setCell ⟨gR, 0, none⟩ (.int .i64 4)).setCell ⟨gR, 1, none⟩ (.int .i64 0)).setCell ⟨gR, 2, none⟩ (.string ⟨#[]⟩)).setCell ⟨gR, 3, none⟩ (.slice none 0 0)).setCell ⟨gR, 4, none⟩ (.slice none 0 0) := ⟨_, rfl⟩
            have GF : Hid (wr.grownBy wf (some gR)) := Lib.hid (by rw [hwf]; exact grownBy_trans (grownBy_trans (grownBy_trans (grownBy_trans (turned wr gR 0 _) (turned _ gR 1 _)) (turned _ gR 2 _)) (turned _ gR 3 _)) (turned _ gR 4 _))
            have RF : Hid (Bk wf gR 26 #[.int .i64 4, .int .i64 0, .string ⟨#[]⟩, .slice none 0 0, .slice none 0 0]) := Lib.hid (by rw [hwf]; exact ((((HR.out.put 0 _).put 1 _).put 2 _).put 3 _).put 4 _)
            have QF := Lib.hid (HQ.out.grown GF.out (by intro e; injection e with e; exact NR.out (Or.inr (Or.inl e.symm))))
            have WF := Lib.hid (HW.out.other HR.out (by decide) (fun e => NR.out (Or.inl e.symm)) GF.out)
            have FF : Hid (FrS (Two p q) w0 wf) := Lib.hid (endF HB0.out HGR.out HF.out GF.out)
            rw [← hwf]
            refine bodyPost_ret (results_cell_row rfl _ _ gR 26 _ (0, 0) _ rfl RF.out Try.underlying26 rfl (by kernel_rfl)) rfl ?_
            exact ⟨none, 0, 0, none, 0, 0, b, rfl, FF, QF, by omega, Or.inr ⟨_, l1, Lib.hid DI.out.1, DI.out.2, WF⟩⟩
          · have hpd : decide ((0 : Int) < c) = false := by rw [decide_eq_false_iff_not]; omega
            have v0 := HG.out.cell 0
            change _ = some (Value.int .i64 4) at v0
            have v1 := HG.out.cell 1
            change _ = some (Value.int .i64 0) at v1
            have v2 := HG.out.cell 2
            change _ = some (Value.string ⟨#[]⟩) at v2
            have v3 := HG.out.cell 3
            change _ = some (Value.slice none 0 0) at v3
            have v4 := HG.out.cell 4
            change _ = some (Value.slice none 0 0) at v4
            have HR := Lib.hid (HF.out.bk HR1.out NR.out)
            have r0 := HR.out.cell 0
            have r1 := HR.out.cell 1
            have r2 := HR.out.cell 2
            have r3 := HR.out.cell 3
            have r4 := HR.out.cell 4
            have f0 := HR.out.frozen 0
            have f1 := HR.out.frozen 1
            have f2 := HR.out.frozen 2
            have f3 := HR.out.frozen 3
            have f4 := HR.out.frozen 4
            go_wp2
            obtain ⟨wf, hwf⟩ : ∃ wf, wf = ((((wr.setCell ⟨gR, 0, none⟩ (.int .i64 4)).setCell ⟨gR, 1, none⟩ (.int .i64 0)).setCell ⟨gR, 2, none⟩ (.string ⟨#[]⟩)).setCell ⟨gR, 3, none⟩ (.slice none 0 0)).setCell ⟨gR, 4, none⟩ (.slice none 0 0) := ⟨_, rfl⟩
            have GF : Hid (wr.grownBy wf (some gR)) := Lib.hid (by rw [hwf]; exact grownBy_trans (grownBy_trans (grownBy_trans (grownBy_trans (turned wr gR 0 _) (turned _ gR 1 _)) (turned _ gR 2 _)) (turned _ gR 3 _)) (turned _ gR 4 _))
            have RF : Hid (Bk wf gR 26 #[.int .i64 4, .int .i64 0, .string ⟨#[]⟩, .slice none 0 0, .slice none 0 0]) := Lib.hid (by rw [hwf]; exact ((((HR.out.put 0 _).put 1 _).put 2 _).put 3 _).put 4 _)
            have QF := Lib.hid (HQ.out.grown GF.out (by intro e; injection e with e; exact NR.out (Or.inr (Or.inl e.symm))))
            have WF := Lib.hid (HW.out.other HR.out (by decide) (fun e => NR.out (Or.inl e.symm)) GF.out)
            have FF : Hid (FrS (Two p q) w0 wf) := Lib.hid (endF HB0.out HGR.out HF.out GF.out)
            rw [← hwf]
            refine bodyPost_ret (results_cell_row rfl _ _ gR 26 _ (0, 0) _ rfl RF.out Try.underlying26 rfl (by kernel_rfl)) rfl ?_
            exact ⟨none, 0, 0, none, 0, 0, b, rfl, FF, QF, by omega, Or.inr ⟨_, l1, Lib.hid DI.out.1, DI.out.2, WF⟩⟩
end Go.Proofs.Ytidinbeanaifmaa
namespace Go.Proofs.Ytidinbeanaifmaa
open Go.RowKit

theorem ritem_step5 {dec : Nat → List UInt8 → DR VT} {R : DR (List VT × List ByteArray)} {w wr wB w1 wf : World} {p q g g2 c j n b2 cI cap : Nat} {AI : Option Addr} {l2 : List UInt8} {rr : DR VT} {AK : Option Addr} {cK : Nat} {ks : List ByteArray} {its : List VT} {cs : List Value} {G cur : Array Value}
    {k2 i2 : Int} {t2 : ByteArray} {E E' : Option Addr} {n3 c3 n4 c4 : Nat} {G' : Array Value}
    (hfit : rr.Fits l2 n) (sz : g < w.heap.size ∧ q < w.heap.size ∧ p < w.heap.size) (ng : g ≠ p) (nqg : q ≠ g) (hf : FrS (Three p q g) w wr) (hg : Bk wr g 26 G)
    (ho : wr.ownsRow w.heap.size 26 5 (.slice AI j cI) j cs) (hk : wr.ownsRow w.heap.size 9 1 (.slice AK (j + 1) cK) (j + 1) (ks.map Value.string)) (hl : LiesC wr (Off2 w.heap.size wr (.slice AI j cI) (.slice AK (j + 1) cK)) its cs) (hfb : FrS (Two p q) wr wB) (hqb : Bk wB q 93 #[.pointer (some ⟨p, 0, none⟩), .int .i64 (b2 : Nat)] ∧ b2 ≤ 1001)
    (hx : (∃ x l', rr = .ok x l' b2 ∧ RRd wB p l' 0 ∧ Lies wB (New wr wB) x (.agg #[.int .i64 k2, .int .i64 i2, .string t2, .slice E n3 c3, .slice E' n4 c4])) ∨ ∃ e l', rr = .err e ∧ e ≠ 0 ∧ RRd wB p l' e)
    (hgw : wB.grownBy w1 (Value.slice AI j cI).ownBlock) (hat : (Value.slice AI j cI).ownBlock = some g2 ∨ wB.heap.size ≤ g2) (hla : Last w1 wf g g2 G' (setV cur (j * 5) (.int .i64 k2) (.int .i64 i2) (.string t2) (.slice E n3 c3) (.slice E' n4 c4)))
    (hw5 : ∀ (W : World) (a b c d e : Value), Bk W g2 26 (setV cur (j * 5) a b c d e) → W.ownsRow w.heap.size 26 5 (.slice (some ⟨g2, 0, none⟩) (j + 1) cap) (j + 1) (cs ++ [a, b, c, d, e]))
    (hn : n ≤ 1000) (hl2 : l2.length ≤ 4611686018427387904) (hil : its.length = j) (hkl : ks.length = j + 1) (hks : ∀ s ∈ ks, s.size ≤ 9223372036854775807) (hD : R = afterV rr (fun x l' n' => decL dec true (c - (j + 1)) n' l' (its ++ [x]) ks)) :
    StepK RRd 93 dec R p q g c (j + 1) (some ⟨g2, 0, none⟩) cap AK cK b2 w wf := by
  obtain ⟨z1, z2, z3, z4, far, hgf, hcf⟩ := hla
  have hown := ho.lt
  have s1 := hf.size
  have s2 := hfb.size
  have s3 := hgw.size
  have fw : FrS (fun b => b = g ∨ (Value.slice AI j cI).ownBlock = some b) wB wf :=
    ⟨z1.trans hgw.os, z2.trans hgw.tape, z3.trans hgw.output, by omega, fun b hb hn => (far b (fun e => hn (Or.inl e)) (fun e => by
      rcases hat with h | h
      · exact hn (Or.inr (by rw [h, e]))
      · omega)).trans (hgw.block b hb (fun e => hn (Or.inr e.symm)))⟩
  have nS : ∀ b, b < w.heap.size → b ≠ g → ¬ (b = g ∨ (Value.slice AI j cI).ownBlock = some b) := fun b hb hne h => by
    rcases h with h | h
    · exact hne h
    · have := (hown b h).1; omega
  have hS : ∀ b, (b = g ∨ (Value.slice AI j cI).ownBlock = some b) → b < wB.heap.size → ∃ t cs, Bk wB b t cs ∧ t ≠ 5 := fun b hb _ => by
    rcases hb with rfl | hb
    · exact ⟨_, _, hfb.bk hg (fun h => by rcases h with h | h; exact ng h; exact nqg h.symm), by decide⟩
    · have hb1 := hown b hb
      obtain ⟨_, h2⟩ := ho
      rcases h2 with ⟨h2, _⟩ | ⟨g', cap', cur', h2, _, hg', _⟩
      · rw [h2] at hb; simp [Value.ownBlock] at hb
      · rw [h2] at hb
        have : g' = b := by simpa [Value.ownBlock] using hb
        subst this
        exact ⟨_, _, hfb.bk hg' (fun h => by rcases h with h | h <;> omega), by decide⟩
  refine ⟨(hf.next hfb (fun i _ h => ?_)).next fw (fun i hi h => ?_), fw.bk hqb.1 (nS q sz.2.1 nqg), hqb.2, ?_⟩
  · rcases h with h | h
    · exact Or.inl h
    · exact Or.inr (Or.inl h)
  · rcases h with h | h
    · exact Or.inr (Or.inr h)
    · have := (hown i h).1; omega
  · have hkt := hk.lt
    have hKf : wf.ownsRow w.heap.size 9 1 (.slice AK (j + 1) cK) (j + 1) (ks.map Value.string) := by
      obtain ⟨k1, k2⟩ := hk
      refine ⟨k1, ?_⟩
      rcases k2 with k2 | ⟨gk, capk, curk, hv, hbk, hgk, hr⟩
      · exact Or.inl k2
      · have hK : Bk wr gk 9 curk := hgk
        have hlt := hK.lt
        exact Or.inr ⟨gk, capk, curk, hv, hbk, fw.bk (hfb.bk hK (fun h => by rcases h with h | h <;> omega)) (fun h => by
          rcases h with h | h
          · omega
          · obtain ⟨t, cs', hb', ht'⟩ := own_bk ho h
            subst ht'
            exact hK.ne_ hb' (by decide) rfl), hr⟩
    rcases hx with ⟨x, l', h1, h2, h3⟩ | ⟨e, l', h1, h2, h3⟩
    · obtain ⟨f1, f2, f3⟩ := hfit x l' b2 h1
      refine Or.inl ⟨its ++ [x], ks, _, l', f3 hn, by simp [hil], hkl, hks, by omega, Lib.hid (by rw [hD, h1]; rfl), Lib.hid (h2.frs fw (nS p sz.2.2 (Ne.symm ng)) hS), Lib.hid (hw5 wf _ _ _ _ _ hcf), Lib.hid (LiesC.append (hl.keep (fun b hb => ?_) (fun b hb => ?_)) ⟨_, _, _, _, _, [], rfl, h3.keep (fun b hb => ?_) (fun b hb => ?_), rfl⟩), Lib.hid hKf⟩
      · obtain ⟨b1, b2, b3, b4⟩ := hb
        exact (fw.cell (Nat.lt_of_lt_of_le b2 s2) (fun h => by
          rcases h with h | h
          · omega
          · exact b3 h)).trans (hfb.cell b2 (fun h => by rcases h with h | h <;> omega))
      · obtain ⟨b1, b2, b3, b4⟩ := hb
        refine ⟨b1, by omega, fun e => ?_, b4⟩
        have e' : g2 = b := by simpa [Value.ownBlock] using e
        rcases hat with h | h
        · exact b3 (by rw [h, e'])
        · omega
      · obtain ⟨b1, b2⟩ := hb
        exact fw.cell b2 (fun h => by
          rcases h with h | h
          · omega
          · have := (hown _ h).2; omega)
      · obtain ⟨b1, b2⟩ := hb
        refine ⟨by omega, by omega, fun e => ?_, fun e => by have := (hkt _ e).2; omega⟩
        have e' : g2 = b := by simpa [Value.ownBlock] using e
        rcases hat with h | h
        · have := (hown _ h).2; omega
        · omega
    · exact Or.inr ⟨e, l', Lib.hid (by rw [hD, h1]; rfl), h2, Lib.hid (h3.frs fw (nS p sz.2.2 (Ne.symm ng)) hS)⟩


theorem rkey_step {w wr w5 w6 w7 : World} {p q g gk2 j capk2 n cI cK : Nat} {AI AK : Option Addr} {its : List VT} {cs : List Value} {ks : List ByteArray} {key : ByteArray} {l3 : List UInt8} {e3 : Int}
    (sz : g < w.heap.size ∧ q < w.heap.size ∧ p < w.heap.size) (ng : g ≠ p) (nqg : q ≠ g) (hf : FrS (Three p q g) w wr) (hg : Bk wr g 26 #[.int .i64 5, .int .i64 0, .string ⟨#[]⟩, .slice AI j cI, .slice AK j cK])
    (ho : wr.ownsRow w.heap.size 26 5 (.slice AI j cI) j cs) (hk : wr.ownsRow w.heap.size 9 1 (.slice AK j cK) j (ks.map Value.string)) (hl : LiesC wr (Off2 w.heap.size wr (.slice AI j cI) (.slice AK j cK)) its cs)
    (h5 : FrS (fun b => b = p) wr w5) (q5 : Bk w5 q 93 #[.pointer (some ⟨p, 0, none⟩), .int .i64 (n : Nat)]) (r5 : RRd w5 p l3 e3) (ga : w5.grownBy w6 (Value.slice AK j cK).ownBlock) (hat : (Value.slice AK j cK).ownBlock = some gk2 ∨ w5.heap.size ≤ gk2)
    (hk6 : w6.ownsRow w.heap.size 9 1 (.slice (some ⟨gk2, 0, none⟩) (j + 1) capk2) (j + 1) ((ks ++ [key]).map Value.string)) (hw7 : w7 = w6.setCell ⟨g, 4, none⟩ (.slice (some ⟨gk2, 0, none⟩) (j + 1) capk2)) :
    FrS (Three p q g) w w7 ∧ Bk w7 q 93 #[.pointer (some ⟨p, 0, none⟩), .int .i64 (n : Nat)] ∧ Bk w7 g 26 #[.int .i64 5, .int .i64 0, .string ⟨#[]⟩, .slice AI j cI, .slice (some ⟨gk2, 0, none⟩) (j + 1) capk2] ∧ RRd w7 p l3 e3 ∧
      w7.ownsRow w.heap.size 26 5 (.slice AI j cI) j cs ∧ w7.ownsRow w.heap.size 9 1 (.slice (some ⟨gk2, 0, none⟩) (j + 1) capk2) (j + 1) ((ks ++ [key]).map Value.string) ∧
      LiesC w7 (Off2 w.heap.size w7 (.slice AI j cI) (.slice (some ⟨gk2, 0, none⟩) (j + 1) capk2)) its cs := by
  have s1 := hf.size
  have s2 := h5.size
  have hkt := hk.lt
  have hot := ho.lt
  have hk5 := own_frs hk h5 (fun b hb h => by have := (hkt b hb).1; omega)
  have ho5 := own_frs ho h5 (fun b hb h => by have := (hot b hb).1; omega)
  have g5 := h5.bk hg ng
  have nk : (Value.slice AK j cK).ownBlock ≠ some g := fun e => by have := (hkt g e).1; omega
  have g6 : Bk w6 g 26 #[.int .i64 5, .int .i64 0, .string ⟨#[]⟩, .slice AI j cI, .slice AK j cK] := g5.grown ga (Ne.symm nk)
  have g7 : Bk w7 g 26 #[.int .i64 5, .int .i64 0, .string ⟨#[]⟩, .slice AI j cI, .slice (some ⟨gk2, 0, none⟩) (j + 1) capk2] := by rw [hw7]; exact g6.put 4 _
  have f67 : FrS (fun b => b = g) w6 w7 := by rw [hw7]; exact FrS.of_grown (turned _ _ _ _) rfl
  have f57 : FrS (fun b => b = g ∨ (Value.slice AK j cK).ownBlock = some b) w5 w7 :=
    (FrS.of_row (S := fun b => b = g ∨ (Value.slice AK j cK).ownBlock = some b) ga (fun q hq => Or.inr hq)).next f67 (fun i _ h => Or.inl h)
  have nS : ∀ b, b < w.heap.size → b ≠ g → ¬ (b = g ∨ (Value.slice AK j cK).ownBlock = some b) := fun b hb hne h => by
    rcases h with h | h
    · exact hne h
    · have := (hkt b h).1; omega
  refine ⟨(hf.next h5 (fun i _ h => Or.inl h)).next f57 (fun i hi h => ?_), f57.bk q5 (nS q sz.2.1 nqg), g7, r5.frs f57 (nS p sz.2.2 (Ne.symm ng)) (fun b hb _ => ?_), own_frs ho5 f57 (fun b hb h => ?_), own_frs hk6 f67 (fun b hb h => ?_), hl.keep (fun b hb => ?_) (fun b hb => ?_)⟩
  · rcases h with h | h
    · exact Or.inr (Or.inr h)
    · have := (hkt i h).1; omega
  · rcases hb with rfl | hb
    · exact ⟨_, _, g5, by decide⟩
    · obtain ⟨cs', h⟩ := own_bkS hk5 hb
      exact ⟨_, _, h, by decide⟩
  · rcases h with h | h
    · have := (hot b hb).1; omega
    · obtain ⟨cs', h1⟩ := own_bkS hk5 h
      obtain ⟨t, cs2, h2, ht⟩ := own_bk ho5 hb
      subst ht
      exact h1.ne_ h2 (by decide) rfl
  · have e' : gk2 = b := by simpa [Value.ownBlock] using hb
    rcases hat with h1 | h1
    · have := (hkt _ h1).1; omega
    · omega
  · obtain ⟨b1, b2, b3, b4⟩ := hb
    exact (f57.cell (Nat.lt_of_lt_of_le b2 s2) (fun h => by
      rcases h with h | h
      · omega
      · exact b4 h)).trans (h5.cell b2 (fun h => by omega))
  · obtain ⟨b1, b2, b3, b4⟩ := hb
    have s3 := f57.size
    refine ⟨b1, by omega, b3, fun e => ?_⟩
    have e' : gk2 = b := by simpa [Value.ownBlock] using e
    rcases hat with h1 | h1
    · exact b4 (by rw [h1, e'])
    · omega

/-- what stands at the head of a round: with an error the row of keys may be longer -/
def StepR (dec : Nat → List UInt8 → DR VT) (R : DR (List VT × List ByteArray)) (p q g c j : Nat) (AI : Option Addr) (nI cI : Nat) (AK : Option Addr) (nK cK n : Nat) (w wr : World) : Prop :=
  FrS (Three p q g) w wr ∧ Bk wr q 93 #[.pointer (some ⟨p, 0, none⟩), .int .i64 (n : Nat)] ∧ n ≤ 1001 ∧
    ((j = nI ∧ j = nK ∧ ∃ its ks cs l2, n ≤ 1000 ∧ its.length = j ∧ ks.length = j ∧ (∀ s ∈ ks, s.size ≤ 9223372036854775807) ∧ l2.length ≤ 4611686018427387904 ∧ Hid (R = decL dec true (c - j) n l2 its ks) ∧ Hid (RRd wr p l2 0) ∧ Hid (wr.ownsRow w.heap.size 26 5 (.slice AI j cI) j cs) ∧ Hid (LiesC wr (Off2 w.heap.size wr (.slice AI j cI) (.slice AK j cK)) its cs) ∧
        Hid (wr.ownsRow w.heap.size 9 1 (.slice AK j cK) j (ks.map Value.string))) ∨
      ∃ e l2, Hid (R = .err e) ∧ e ≠ 0 ∧ Hid (RRd wr p l2 e))
theorem StepK.toR {dec : Nat → List UInt8 → DR VT} {R : DR (List VT × List ByteArray)} {p q g c j : Nat} {AI : Option Addr} {cI : Nat} {AK : Option Addr} {cK n : Nat} {w wr : World} (h : StepK RRd 93 dec R p q g c j AI cI AK cK n w wr) : StepR dec R p q g c j AI j cI AK j cK n w wr := by
  obtain ⟨h1, h2, h3, h4⟩ := h
  refine ⟨h1, h2, h3, ?_⟩
  rcases h4 with h4 | h4
  · exact Or.inl ⟨rfl, rfl, h4⟩
  · exact Or.inr h4
/-- what stands when a key is read and put behind the keys -/
def KeyP (p q g j n : Nat) (AI : Option Addr) (cI : Nat) (gk2 capk2 : Nat) (l3 : List UInt8) (e3 : Int) (its : List VT) (cs : List Value) (ks : List ByteArray) (w w7 : World) : Prop :=
  FrS (Three p q g) w w7 ∧ Bk w7 q 93 #[.pointer (some ⟨p, 0, none⟩), .int .i64 (n : Nat)] ∧ Bk w7 g 26 #[.int .i64 5, .int .i64 0, .string ⟨#[]⟩, .slice AI j cI, .slice (some ⟨gk2, 0, none⟩) (j + 1) capk2] ∧ RRd w7 p l3 e3 ∧
    w7.ownsRow w.heap.size 26 5 (.slice AI j cI) j cs ∧ w7.ownsRow w.heap.size 9 1 (.slice (some ⟨gk2, 0, none⟩) (j + 1) capk2) (j + 1) (ks.map Value.string) ∧
    LiesC w7 (Off2 w.heap.size w7 (.slice AI j cI) (.slice (some ⟨gk2, 0, none⟩) (j + 1) capk2)) its cs
/-- the reader's block alone has turned -/
theorem KeyP.turned {p q g j n : Nat} {AI : Option Addr} {cI gk2 capk2 : Nat} {l3 : List UInt8} {e3 e4 : Int} {its : List VT} {cs : List Value} {ks : List ByteArray} {w w7 w8 : World} (sz : g < w.heap.size ∧ q < w.heap.size ∧ p < w.heap.size) (nq : q ≠ p) (ng : g ≠ p) (h : KeyP p q g j n AI cI gk2 capk2 l3 e3 its cs ks w w7)
    (hg : w7.grownBy w8 (some p)) (hr : RRd w8 p l3 e4) : KeyP p q g j n AI cI gk2 capk2 l3 e4 its cs ks w w8 := by
  obtain ⟨h1, h2, h3, _, h5, h6, h7⟩ := h
  have hf : FrS (fun b => b = p) w7 w8 := FrS.of_grown hg rfl
  refine ⟨h1.trans (FrS.of_grown hg (Or.inl rfl)), h2.grown hg (by intro e; injection e with e; exact nq e), h3.grown hg (by intro e; injection e with e; exact ng e), hr, own_frs h5 hf (fun b hb e => by have := (h5.lt b hb).1; omega), own_frs h6 hf (fun b hb e => by have := (h6.lt b hb).1; omega), h7.keep (fun b hb => ?_) (fun b hb => ?_)⟩
  · exact hf.cell hb.2.1 (fun e => by have := hb.1; omega)
  · exact ⟨hb.1, by have := hb.2.1; have := hf.size; omega, hb.2.2⟩
theorem KeyP.drew {p q g j n : Nat} {AI : Option Addr} {cI gk2 capk2 : Nat} {l3 : List UInt8} {e3 : Int} {its : List VT} {cs : List Value} {ks : List ByteArray} {w w7 : World} (h : KeyP p q g j n AI cI gk2 capk2 l3 e3 its cs ks w w7) (k : Nat) : KeyP p q g j n AI cI gk2 capk2 l3 e3 its cs ks w (w7.drewN k) := by
  obtain ⟨h1, h2, h3, h4, h5, h6, h7⟩ := h
  have hb : Below w7.heap.size w7 (w7.drewN k) := below_drewN (Below.refl _ _) k
  exact ⟨⟨h1.os, h1.tape, h1.output, h1.size, h1.block⟩, h2.below hb h2.lt, h3.below hb h3.lt, h4.below hb, h5, h6, h7.keep (w := w7) (w' := w7.drewN k) (fun _ _ => rfl) (fun b hb => ⟨hb.1, hb.2.1, hb.2.2⟩)⟩
set_option maxHeartbeats 400000 in
theorem check_true {w : World} {q : Nat} : Calls Try.prog 114 #[.pointer (some ⟨q, 0, none⟩), .bool true] w fun e w' => e = .returned (.tuple #[]) ∧ w' = w.drewN 0 := by
  go_enter Try.func114, Try.ntmps114
  go_wp2
  go_end0
  exact ⟨rfl, rfl⟩
/-- the text of a key, at the head of the round or behind a draw -/
theorem key_text {wr : World} {p q : Nat} {l2 : List UInt8} {b : Int} {key : ByteArray} (hl : l2.length ≤ 4611686018427387904) (h : RRd wr p l2 0) (hq : Bk wr q 93 #[.pointer (some ⟨p, 0, none⟩), .int .i64 b]) (hk : key = ⟨(textR l2 9223372036854775807).1.toArray⟩) : ∀ W, (W = wr ∨ W = wr.drew) →
    Calls Try.prog 116 #[.pointer (some ⟨q, 0, none⟩)] W fun e w' => e = .returned (.string key) ∧ Hid (wr.grownBy w' (some p)) ∧ Hid (RRd w' p (textR l2 9223372036854775807).2.1 (reqE (decide ((textR l2 9223372036854775807).1.length ≤ 4096)) (textR l2 9223372036854775807).2.2)) := by
  rintro W (rfl | rfl)
  · exact (rtext_k hl h hq).mono (fun _ _ h => ⟨by rw [hk]; exact h.1, Lib.hid h.2.1, Lib.hid h.2.2⟩)
  · exact (rtext_k hl (h.below (Below.refl _ _).drew) (hq.below (Below.refl _ _).drew hq.lt)).mono (fun _ _ h => ⟨by rw [hk]; exact h.1, Lib.hid ⟨h.2.1.os, h.2.1.tape, h.2.1.output, h.2.1.size, h.2.1.block⟩, Lib.hid h.2.2⟩)
/-- a check, here or behind a draw -/
theorem check_at {w : World} {p q : Nat} {l : List UInt8} {e b : Int} (h : RRd w p l e) (hq : Bk w q 93 #[.pointer (some ⟨p, 0, none⟩), .int .i64 b]) : ∀ (ok : Bool) (W : World), (W = w ∨ W = w.drew) →
    Calls Try.prog 114 #[.pointer (some ⟨q, 0, none⟩), .bool ok] W fun en w' => en = .returned (.tuple #[]) ∧ Hid (w.grownBy w' (some p)) ∧ Hid (RRd w' p l (reqE ok e)) := by
  rintro ok W (rfl | rfl)
  · exact (rreq_any ok h hq).mono (fun _ _ h => ⟨h.1, Lib.hid h.2.1, Lib.hid h.2.2⟩)
  · exact (rreq_any ok (h.below (Below.refl _ _).drew) (hq.below (Below.refl _ _).drew hq.lt)).mono (fun _ _ h => ⟨h.1, Lib.hid ⟨h.2.1.os, h.2.1.tape, h.2.1.output, h.2.1.size, h.2.1.block⟩, Lib.hid h.2.2⟩)

set_option maxRecDepth 100000 in
set_option maxHeartbeats 1600000 in
theorem ritems_5 {dec : Nat → List UInt8 → DR VT} {p q b : Nat} {l : List UInt8} {d : Int} {w0 : World} (hd1 : 0 ≤ d) (hd2 : d ≤ 16) (hfit : ∀ n l, (dec n l).Fits l n)
    (hv : ∀ (W : World) (n : Nat) (l : List UInt8), RRd W p l 0 → Bk W q 93 #[.pointer (some ⟨p, 0, none⟩), .int .i64 (n : Nat)] → n ≤ 1000 → l.length ≤ 4611686018427387904 → Calls Try.prog 87 #[.pointer (some ⟨q, 0, none⟩), .int .i64 (d + 1)] W (DecP RRd 93 (dec n l) p q W))
    (hr0 : RRd w0 p l 0) (hq0 : Bk w0 q 93 #[.pointer (some ⟨p, 0, none⟩), .int .i64 (b : Nat)]) (hb : b ≤ 1000) (hl : l.length ≤ 4611686018427387904) :
    Calls Try.prog 117 #[.pointer (some ⟨q, 0, none⟩), .agg #[.int .i64 5, .int .i64 0, .string ⟨#[]⟩, .slice none 0 0, .slice none 0 0], .int .i64 d] w0 (ItsR RRd 93 (decI dec true b l) 5 p q w0) := by
  obtain ⟨iV, hiV, hzV, hsV, hbV⟩ := info_parts Try.infoV
  obtain ⟨c, l1, e1, hi⟩ : ∃ c l1 e1, intA l = (c, l1, e1) := ⟨_, _, _, rfl⟩
  obtain ⟨w, hw⟩ : ∃ w, w = (w0.alloc (.cells #[.int .i64 5, .int .i64 0, .string ⟨#[]⟩, .slice none 0 0, .slice none 0 0] 26)).alloc (.cells #[.int .i64 0, .int .i64 0, .string ⟨#[]⟩, .slice none 0 0, .slice none 0 0] 26) := ⟨_, rfl⟩
  obtain ⟨g, hge⟩ : ∃ g, g = w0.heap.size := ⟨_, rfl⟩
  obtain ⟨gR, hgR⟩ : ∃ gR, gR = w0.heap.size + 1 := ⟨_, rfl⟩
  have hbw : Below w0.heap.size w0 w := by rw [hw]; exact ((Below.refl _ _).alloc (Nat.le_refl _) _).alloc (by simp) _
  have HB0 := Lib.hid hbw
  have G1 : Hid (Bk w g 26 #[.int .i64 5, .int .i64 0, .string ⟨#[]⟩, .slice none 0 0, .slice none 0 0]) := Lib.hid (by rw [hw, hge]; exact (Bk.new w0 _ _).alloc _)
  have HR1 : Hid (Bk w gR 26 #[.int .i64 0, .int .i64 0, .string ⟨#[]⟩, .slice none 0 0, .slice none 0 0]) := Lib.hid (by rw [hw, hgR]; have h := Bk.new (w0.alloc (.cells #[.int .i64 5, .int .i64 0, .string ⟨#[]⟩, .slice none 0 0, .slice none 0 0] 26)) 26 #[.int .i64 0, .int .i64 0, .string ⟨#[]⟩, .slice none 0 0, .slice none 0 0]; simpa using h)
  have W1 := Lib.hid (hr0.below hbw)
  have Q1 := Lib.hid (hq0.below hbw hq0.lt)
  have HGR : Hid (w0.heap.size ≤ g ∧ w0.heap.size ≤ gR ∧ gR < w.heap.size) := Lib.hid ⟨by omega, by omega, HR1.out.lt⟩
  have NR : Hid (¬ Three p q g gR) := Lib.hid (fun h => by have h1 := hr0.lt; have h2 := hq0.lt; rcases h with h | h | h <;> omega)
  have HFIT := Lib.hid hfit
  have HV := Lib.hid hv
  have NQ := Lib.hid (W1.out.dec_ne Q1.out)
  have NG := Lib.hid (W1.out.val_ne G1.out)
  have NQG := Lib.hid (Q1.out.ne_ G1.out (by decide))
  have HL := Lib.hid hl
  have HI := Lib.hid hi
  have HC := Lib.hid (rint_k HI.out W1.out Q1.out)
  have SZ : Hid (g < w.heap.size ∧ q < w.heap.size ∧ p < w.heap.size) := Lib.hid ⟨G1.out.lt, Q1.out.lt, W1.out.lt⟩
  have hx1 : (w0.alloc (.cells #[.int .i64 5, .int .i64 0, .string ⟨#[]⟩, .slice none 0 0, .slice none 0 0] 26)).heap.size = w0.heap.size + 1 := by simp
  have HW := Lib.hid (And.intro hw (And.intro hge hgR))
  clear hfit hv hr0 hq0 hl hi hbw hge hgR hw hx1
  by_cases he1 : e1 = 0
  · subst he1
    by_cases hc : 0 ≤ c ∧ c ≤ 1000
    · obtain ⟨cn, rfl⟩ : ∃ cn : Nat, c = (cn : Int) := ⟨c.toNat, by omega⟩
      have hcn : cn ≤ 1000 := by omega
      have t1 : decide ((0 : Int) ≤ (cn : Int)) = true := by rw [decide_eq_true_eq]; omega
      have t2 : decide ((cn : Int) ≤ 1000) = true := by rw [decide_eq_true_eq]; omega
      have DI : Hid (decI dec true b l = decL dec true cn b l1 [] []) := Lib.hid (by
        unfold decI
        rw [HI.out, if_neg (by simp), if_neg (by show ¬ ((cn : Int) < 0 ∨ (1000 : Int) < cn); omega)]
        rfl)
      have HL1 : Hid (l1.length ≤ 4611686018427387904) := Lib.hid (by have h := intA_len l; rw [HI.out] at h; have := HL.out; simp only at h; omega)
      clear hc
      go_enter Try.func117, Try.ntmps117
      go_upto_region 1 with fail
      rw [← HW.out.1]
      rw [← HW.out.2.2, ← HW.out.2.1]
      go_wp2_with fail
      refine (HC.out).mono ?_
      rintro e1x w2 ⟨rfl, hg, hr2⟩
      have Q2 := Lib.hid (Q1.out.grown hg (by intro e; injection e with e; exact NQ.out e))
      have G2 := Lib.hid (G1.out.grown hg (by intro e; injection e with e; exact NG.out e))
      have F2 : Hid (FrS (Three p q g) w w2) := Lib.hid (FrS.of_grown hg (Or.inl rfl))
      have W2 := Lib.hid hr2
      clear hg hr2
      go_wp2_with fail
      refine (rreq_any true W2.out Q2.out).mono ?_
      rintro e1x w3 ⟨rfl, hg, hr3⟩
      have Q3 := Lib.hid (Q2.out.grown hg (by intro e; injection e with e; exact NQ.out e))
      have G3 := Lib.hid (G2.out.grown hg (by intro e; injection e with e; exact NG.out e))
      have F3 : Hid (FrS (Three p q g) w w3) := Lib.hid (F2.out.trans (FrS.of_grown hg (Or.inl rfl)))
      have W3 := Lib.hid hr3
      clear hg hr3
      clear HW
      go_wp2_with fail
      go_loopg [8] cn (fun gh iv wr => ∃ (j n : Nat) (AI : Option Addr) (nI cI : Nat) (AK : Option Addr) (nK cK : Nat), j ≤ cn ∧ gh = cn - j ∧ iv = .int .i64 j ∧ Hid (StepR dec (decI dec true b l) p q g cn j AI nI cI AK nK cK n w wr) ∧ Hid (Bk wr g 26 #[.int .i64 5, .int .i64 0, .string ⟨#[]⟩, .slice AI nI cI, .slice AK nK cK]))
      case atStart => exact ⟨0, b, none, 0, 0, none, 0, 0, by omega, rfl, rfl, Lib.hid ⟨F3.out, Q3.out, by omega, Or.inl ⟨rfl, rfl, [], [], [], l1, hb, rfl, rfl, (by simp), HL1.out, DI, W3, Lib.hid (World.ownsRow_nil _ _ _ _), Lib.hid rfl, Lib.hid (World.ownsRow_nil _ _ _ _)⟩⟩, G3⟩
      case round =>
        obtain ⟨j, n, AI, nI, cI, AK, nK, cK, hjn, rfl, rfl, HST, HG⟩ := hrel
        obtain ⟨hf, hq, hn, hst⟩ := HST.out
        have HF := Lib.hid hf
        have HQ := Lib.hid hq
        clear hf hq HST
        rcases hst with ⟨rfl, rfl, its, ks, cs, l2, hn2, hil, hkl, hks, hl2, HD, HW, HO, HLC, HK⟩ | ⟨e, l2, HD, he, HW⟩
        · by_cases hlt : j < cn
          · obtain ⟨iS, hiS, hzS, hsS, hbS⟩ := info_parts Try.infoS
            have HI6 := Lib.hid (And.intro hiS (And.intro hzS (And.intro hsS hbS)))
            clear hiS hzS hsS hbS
            have g0 := HG.out.cell 0
            change _ = some (Value.int .i64 5) at g0
            have g4 := HG.out.cell 4
            change _ = some (Value.slice AK j cK) at g4
            have fg4 := HG.out.frozen 4
            have LTS : Hid (g < wr.heap.size ∧ q < wr.heap.size ∧ p < wr.heap.size ∧ w.heap.size ≤ wr.heap.size) := Lib.hid (by have := HF.out.size; have := SZ.out; exact ⟨by omega, by omega, by omega, by omega⟩)
            have ltg := LTS.out.1
            have NK : Hid ((Value.slice AK j cK).ownBlock ≠ some g) := Lib.hid (fun e => by have := (HK.out.lt g e).1; have := SZ.out; omega)
            obtain ⟨key, hkey⟩ : ∃ key : ByteArray, key = ⟨(textR l2 9223372036854775807).1.toArray⟩ := ⟨_, rfl⟩
            have HKEY := Lib.hid hkey
            have HT := Lib.hid (key_text (q := q) (b := (n : Nat)) hl2 HW.out HQ.out hkey)
            clear hkey
            go_wp2_with fail
            refine (good_any true (by decide) HW.out HQ.out).mono ?_
            rintro e1 w' ⟨rfl, rfl⟩
            go_wp2_with fail
            go_cut [] from 28 to 66 (fun wx => ∃ (gk2 capk2 : Nat), Hid (KeyP p q g j n AI cI gk2 capk2 (textR l2 9223372036854775807).2.1 (reqE (decide ((textR l2 9223372036854775807).1.length ≤ 4096)) (textR l2 9223372036854775807).2.2) its cs (ks ++ [key]) w wx))
            case first =>
              go_region_law (first
                | (refine step_append_lies _ (by rfl) _ _ _ (by rfl) w.heap.size 9 iS _ 1 16 Try.underlying22 HI6.out.1 HI6.out.2.1 HI6.out.2.2.1 HI6.out.2.2.2 rfl (by omega) (.slice AK j cK) j (ks.map Value.string) (by rfl) (by first | exact HK4.out.alloc _ | exact (HK4.out.alloc _).drew | exact HK4.out.drew.alloc _) ⟨w4.heap.size, 0, none⟩ 1 1 [.string key] (by rfl) (by rfl) (World.news_of_block (cs := #[.string key]) (t := 9) (fr := (0, 0)) (heap_alloc_new w4 _)) (by simp [Value.oneCell']) (by omega) (by unfold maxLen; omega) (by omega) (by have := GW4.out.size; have := LTS.out; simp; omega) (w4.heap.size + 1) (by simp) ?_; intro gk2 capk2 w6 hown6 hg6 hat6 hlt6; have GA6 : Hid (w4.grownBy w6 (Value.slice AK j cK).ownBlock) := Lib.hid (grownBy_trans (World.grownBy_alloc w4 _ _) (by exact hg6)); have HAT6 : Hid ((Value.slice AK j cK).ownBlock = some gk2 ∨ w4.heap.size ≤ gk2) := Lib.hid (by rcases hat6 with h | h; exact Or.inl h; exact Or.inr (by omega)); have G6 := Lib.hid (G4.out.grown GA6.out (Ne.symm NK.out)); have k6 := G6.out.cell 4; change _ = some (Value.slice AK j cK) at k6; have f6 := G6.out.frozen 4; have HK6 := Lib.hid hown6; clear hown6 hg6 hat6)
                | (go_simp; go_at_call 116; refine (HT.out _ (by first | exact Or.inl rfl | exact Or.inr rfl)).mono ?_; rintro _ w4 ⟨rfl, GW4, W4⟩; have Q4 := Lib.hid (HQ.out.grown GW4.out (by intro e; injection e with e; exact NQ.out e)); have G4 := Lib.hid (HG.out.grown GW4.out (by intro e; injection e with e; exact NG.out e)); have k4 := G4.out.cell 4; change _ = some (Value.slice AK j cK) at k4; have fk4 := G4.out.frozen 4; have lt4 := G4.out.lt; have HK4 := Lib.hid (own_frs HK.out (FrS.of_grown (S := fun b => b = p) GW4.out rfl) (fun b hb e => by have := (HK.out.lt b hb).1; have := SZ.out; omega))))
              all_goals (
                obtain ⟨w7, hw7⟩ : ∃ w7, w7 = w6.setCell ⟨g, 4, none⟩ (.slice (some ⟨gk2, 0, none⟩) (j + 1) capk2) := ⟨_, rfl⟩
                rw [← hw7]
                have KS := Lib.hid (rkey_step (key := key) SZ.out NG.out NQG.out HF.out HG.out HO.out HK.out HLC.out (FrS.of_grown GW4.out rfl) Q4.out W4.out GA6.out HAT6.out (by have h := HK6.out; simpa using h) hw7)
                clear hw7 g4 fg4 ltg k4 fk4 lt4 k6 f6 hlt6 HK4 HK6 G4 G6 GA6 HAT6 Q4 W4 GW4 HT
                go_wp2_with fail
                go_meet
                exact ⟨gk2, capk2, KS⟩)
            case rest =>
              obtain ⟨gk2, capk2, KS⟩ := hcut
              clear g4 fg4 ltg HT NK HI6
              obtain ⟨w7, hw7⟩ : ∃ w7, w7 = wc := ⟨_, rfl⟩
              subst hw7
              by_cases hj0 : j = 0
              · have hjz : ((j : Int) == 0) = true := by rw [beq_iff_eq]; omega
                have HJ0 := Lib.hid hj0
                clear hj0
                have c4 := KS.out.2.2.1.cell 4
                change _ = some (Value.slice (some ⟨gk2, 0, none⟩) (j + 1) capk2) at c4
                have RQ := Lib.hid (check_at KS.out.2.2.2.1 KS.out.2.1)
                go_wp2_with fail
                go_cut [] from 38 to 66 (fun wx => Hid (KeyP p q g j n AI cI gk2 capk2 (textR l2 9223372036854775807).2.1 (reqE true (reqE (decide ((textR l2 9223372036854775807).1.length ≤ 4096)) (textR l2 9223372036854775807).2.2)) its cs (ks ++ [key]) w wx))
                case first =>
                  go_quiet ((go_at_call 114; exact Calls.quiet_of_same check_true))
                  have K8 : Hid (KeyP p q g j n AI cI gk2 capk2 (textR l2 9223372036854775807).2.1 (reqE true (reqE (decide ((textR l2 9223372036854775807).1.length ≤ 4096)) (textR l2 9223372036854775807).2.2)) its cs (ks ++ [key]) w _) := Lib.hid (KS.out.drew nq)
                  all_goals (
                    go_wp2_with fail
                    go_meet
                    exact K8)
                case rest =>
                  have KS8 := hcut
                  clear hcut KS RQ
                  obtain ⟨w8, hw8⟩ : ∃ w8, w8 = wc := ⟨_, rfl⟩
                  subst hw8
                  have hrc : cn - j = (cn - (j + 1)) + 1 := by omega
                  have hok : (true) = true ↔ (ks = [] ∨ less ((ks).getLastD ByteArray.empty) key = true) := ⟨fun _ => Or.inl (List.eq_nil_of_length_eq_zero (by have := HJ0.out; omega)), fun _ => rfl⟩
                  have hle : (textR l2 9223372036854775807).2.1.length ≤ l2.length := textA_rest l2
                  have HKS : Hid (∀ s ∈ (ks ++ [key]), s.size ≤ 9223372036854775807) := Lib.hid (fun s hs => by
                    rcases List.mem_append.1 hs with h | h
                    · exact hks s h
                    · have e := List.mem_singleton.1 h
                      have h1 := textA_len l2
                      rw [e, HKEY.out]
                      simp only [ByteArray.size, List.size_toArray]
                      omega)
                  have HKD := Lib.hid (key_dec (dec := dec) (n := n) (r := cn - (j + 1)) (its := its) HKEY.out hok)
                  have HRC := Lib.hid hrc
                  clear hok hrc hks
                  rcases HKD.out with ⟨h0, hR⟩ | ⟨h0, hR⟩
                  · obtain ⟨f8, q8, g8, r8, o8, k8, l8⟩ := KS8.out
                    rw [h0] at r8
                    have HRR : Hid (decI dec true b l = afterV (dec n (textR l2 9223372036854775807).2.1) (fun x l' n' => decL dec true (cn - (j + 1)) n' l' (its ++ [x]) (ks ++ [key]))) := Lib.hid (by rw [HD.out, HRC.out, hR])
                    have HL3 : Hid ((textR l2 9223372036854775807).2.1.length ≤ 4611686018427387904) := Lib.hid (by omega)
                    have HCV : Hid (∀ W, Below w8.heap.size w8 W → Calls Try.prog 87 #[.pointer (some ⟨q, 0, none⟩), .int .i64 (d + 1)] W (DecA RRd 93 (dec n (textR l2 9223372036854775807).2.1) p q w8 W)) := Lib.hid (fun W hb => (HV.out W n _ (r8.below hb) (q8.below hb q8.lt) hn2 HL3.out).mono (fun _ _ h => h.after hb r8.lt q8.lt))
                    have F8 := Lib.hid f8
                    have Q8 := Lib.hid q8
                    have G8 := Lib.hid g8
                    have R8 := Lib.hid r8
                    have O8 := Lib.hid o8
                    have K8 := Lib.hid k8
                    have L8 := Lib.hid l8
                    have HFR := Lib.hid (HFIT.out n (textR l2 9223372036854775807).2.1)
                    generalize (textR l2 9223372036854775807).2.1 = l3 at *
                    generalize dec n l3 = rr at *
                    clear f8 q8 g8 r8 o8 k8 l8 h0 hR hle KS8 HKD HRC HD HKEY g0 HF HQ HG HW HO HLC HK
                    go_wp2_with fail
                    refine (good_any true (by decide) R8.out Q8.out).mono ?_
                    rintro e1 w' ⟨rfl, rfl⟩
                    go_upto_region 10 with fail
                    have hdw : IntKind.i64.wrap (d + 1) = d + 1 := IntWalk.i64_in _ (by omega)
                    have g3 := G8.out.cell 3
                    change _ = some (Value.slice AI j cI) at g3
                    have fg := G8.out.frozen 3
                    have ltg := G8.out.lt
                    have LT8 : Hid (w.heap.size ≤ w8.heap.size) := Lib.hid F8.out.size
                    have HOS : Hid (∀ W, FrS (Two p q) w8 W → W.ownsRow w.heap.size 26 5 (.slice AI j cI) j cs) := Lib.hid (fun W h => own_same O8.out (h.same (fun b hb => by have := SZ.out; rcases hb with hb | hb <;> omega)))
                    have GIN : Hid (¬ Two p q g) := Lib.hid (fun h => by rcases h with h | h; exact NG.out h; exact NQG.out h.symm)
                    have LIM : Hid ((j + 1) * 80 ≤ 140737488355328) := Lib.hid (by omega)
                    have HI5 := Lib.hid (And.intro hiV (And.intro hzV (And.intro hsV hbV)))
                    have HNG : Hid ((Value.slice AI j cI).ownBlock ≠ some g) := Lib.hid (fun e => by have := (O8.out.lt g e).1; have := SZ.out; omega)
                    have jj : (j : Int) < (j : Int) + 1 := by omega
                    go_region_law (first
                      | (refine step_append_lies _ (by rfl) _ _ _ (by rfl) w.heap.size 26 iV _ 5 80 Try.underlying23 HI5.out.1 HI5.out.2.1 HI5.out.2.2.1 HI5.out.2.2.2 rfl (by omega) (.slice AI j cI) j cs (by rfl) (by first | exact (HOS.out _ HFB.out).alloc _ | exact ((HOS.out _ HFB.out).alloc _).drew | exact (HOS.out _ HFB.out).drew.alloc _) ⟨wB.heap.size, 0, none⟩ 1 1 [.int .i64 k2, .int .i64 i2, .string t2, .slice E n3 c3, .slice E' n4 c4] (by rfl) (by rfl) (World.news_of_block (cs := #[.int .i64 k2, .int .i64 i2, .string t2, .slice E n3 c3, .slice E' n4 c4]) (t := 26) (fr := (0, 0)) (heap_alloc_new wB _)) (by simp [Value.oneCell']) (by omega) (by have := LIM.out; unfold maxLen; omega) LIM.out (by have := HFB.out.size; have := LT8.out; simp; omega) (wB.heap.size + 1) (by simp) ?_; intro g2 cap w1 hown1 hgrow hat hlt1; have HGW : Hid (wB.grownBy w1 (Value.slice AI j cI).ownBlock) := Lib.hid (grownBy_trans (World.grownBy_alloc wB _ _) (by exact hgrow)); have HAT : Hid ((Value.slice AI j cI).ownBlock = some g2 ∨ wB.heap.size ≤ g2) := Lib.hid (by rcases hat with h | h; exact Or.inl h; exact Or.inr (by omega)); clear hat hgrow; obtain ⟨cur, hBK, y0, y1, y2, y3, y4, hW5⟩ := own_last hown1; have HW5 := Lib.hid hW5; have HY := Lib.hid (And.intro y0 (And.intro y1 (And.intro y2 (And.intro y3 y4)))); have HBK := Lib.hid hBK; clear hBK y0 y1 y2 y3 y4 hW5 hown1; have HG1 : Hid (Bk w1 g 26 #[.int .i64 5, .int .i64 0, .string ⟨#[]⟩, .slice AI j cI, .slice (some ⟨gk2, 0, none⟩) (j + 1) capk2]) := Lib.hid ((HFB.out.bk G8.out GIN.out).grown HGW.out (Ne.symm HNG.out)); have gg3 := HG1.out.cell 3; change _ = some (Value.slice AI j cI) at gg3; have gf3 := HG1.out.frozen 3; have ne1 : g2 ≠ g := (fun e => by rcases HAT.out with h | h; exact HNG.out (by rw [h, e]); omega))
                      | (go_simp; go_at_call 87; refine (HCV.out _ (by first | exact Below.refl _ _ | exact (Below.refl _ _).drew | exact ⟨rfl, rfl, rfl, by simp, fun b hb => Below.heap_alloc _ _ b hb⟩)).mono ?_; rintro _ wB ⟨k2, i2, t2, E, n3, c3, E', n4, c4, b2, rfl, HFB, HMB, HQB, HXB⟩; have gB3 := (HFB.out.cell (p := ⟨g, 3, none⟩) ltg GIN.out).trans g3; have fgB := (HFB.out.bk G8.out GIN.out).frozen 3; have ltB : g < wB.heap.size := Nat.lt_of_lt_of_le ltg HFB.out.size))
                    all_goals (
                      obtain ⟨wf, hwf, HLA⟩ : ∃ wf, wf = w1.setCell ⟨g, 3, none⟩ (.slice (some ⟨g2, 0, none⟩) (j + 1) cap) ∧ Hid (Last w1 wf g g2 #[.int .i64 5, .int .i64 0, .string ⟨#[]⟩, (.slice (some ⟨g2, 0, none⟩) (j + 1) cap), .slice (some ⟨gk2, 0, none⟩) (j + 1) capk2] (setV cur (j * 5) (.int .i64 k2) (.int .i64 i2) (.string t2) (.slice E n3 c3) (.slice E' n4 c4))) := ⟨_, rfl, Lib.hid (last_c HG1.out HBK.out ne1 HY.out.1 HY.out.2.1 HY.out.2.2.1 HY.out.2.2.2.1 HY.out.2.2.2.2)⟩
                      rw [← hwf]
                      have HGF := Lib.hid HLA.out.2.2.2.2.2.1
                      have ST := Lib.hid (StepK.toR (ritem_step5 HFR.out SZ.out NG.out NQG.out F8.out G8.out O8.out K8.out L8.out HFB.out HQB.out HXB.out HGW.out HAT.out HLA.out HW5.out hn2 HL3.out hil (by have e := hkl; simp only [List.length_append, List.length_cons, List.length_nil] at e ⊢; omega) HKS.out HRR.out))
                      have HJ := Lib.hid hlt
                      clear hwf HLA hdw HG1 gg3 gf3 ne1 HBK HY HW5 HAT HGW gB3 fgB ltB HXB HQB HMB HFB HNG HI5 LIM GIN HOS fg g3 ltg LT8 HCV jj hlt1
                      go_wp2_with fail
                      go_roundg (cn - (j + 1))
                      case measure => have := HJ.out; omega
                      case rel => exact ⟨j + 1, b2, some ⟨g2, 0, none⟩, j + 1, cap, some ⟨gk2, 0, none⟩, j + 1, capk2, by have := HJ.out; omega, rfl, by go_num, ST, HGF⟩)
                  · have HEF : Hid ((reqE true (reqE (decide ((textR l2 9223372036854775807).1.length ≤ 4096)) (textR l2 9223372036854775807).2.2) == 0) = false) := Lib.hid (by rw [beq_eq_false_iff_ne]; exact h0)
                    have ST : Hid (StepR dec (decI dec true b l) p q g cn (j + 1) AI j cI (some ⟨gk2, 0, none⟩) (j + 1) capk2 n w w8) := Lib.hid ⟨KS8.out.1, KS8.out.2.1, hn, Or.inr ⟨_, (textR l2 9223372036854775807).2.1, Lib.hid (by rw [HD.out, HRC.out, hR]), h0, Lib.hid KS8.out.2.2.2.1⟩⟩
                    have HGF := Lib.hid KS8.out.2.2.1
                    have R8 := Lib.hid KS8.out.2.2.2.1
                    have Q8 := Lib.hid KS8.out.2.1
                    have HJ := Lib.hid hlt
                    clear h0 hR hle KS8 HKD HRC HD HKEY g0 HF HQ HG HW HO HLC HK
                    go_wp2_with fail
                    refine (good_any false HEF.out R8.out Q8.out).mono ?_
                    rintro e1 w' ⟨rfl, rfl⟩
                    go_wp2_with fail
                    go_roundg (cn - (j + 1))
                    case measure => have := HJ.out; omega
                    case rel => exact ⟨j + 1, n, AI, j, cI, some ⟨gk2, 0, none⟩, j + 1, capk2, by have := HJ.out; omega, rfl, by go_num, ST, HGF⟩
              · have hjz : ((j : Int) == 0) = false := by rw [beq_eq_false_iff_ne]; omega
                obtain ⟨m, rfl⟩ : ∃ m, j = m + 1 := ⟨j - 1, by omega⟩
                obtain ⟨ks0, kl, rfl⟩ : ∃ ks0 kl, ks = ks0 ++ [kl] := ⟨ks.dropLast, ks.getLast (by intro e; subst e; simp at hkl), (List.dropLast_concat_getLast _).symm⟩
                have hk0 : ks0.length = m := by simp at hkl; omega
                have c4 := KS.out.2.2.1.cell 4
                change _ = some (Value.slice (some ⟨gk2, 0, none⟩) (m + 1 + 1) capk2) at c4
                have kc0 : w7.cell? ⟨gk2, m, none⟩ = some (.string kl) := by rw [KS.out.2.2.2.2.2.1.cellAt m (by omega)]; simp [← hk0]
                have kc1 : w7.cell? ⟨gk2, m + 1, none⟩ = some (.string key) := by rw [KS.out.2.2.2.2.2.1.cellAt (m + 1) (by omega)]; simp [← hk0]
                have m1 : (0 : Int) ≤ (m : Int) := by omega
                have m2 : (m : Int) < ((m + 1 + 1 : Nat) : Int) := by omega
                have m3 : ((m + 1 : Nat) : Int) - 1 = (m : Int) := by omega
                have m4 : ((m + 1 : Nat) : Int) < ((m + 1 + 1 : Nat) : Int) := by omega
                have m5 : (m : Int) < (m : Int) + 1 + 1 := by omega
                have m6 : (m : Int) + 1 < (m : Int) + 1 + 1 := by omega
                have m7 : (0 : Int) ≤ (m : Int) + 1 := by omega
                have HK0 := Lib.hid hk0
                clear hk0 hj0
                have RQ := Lib.hid (check_at KS.out.2.2.2.1 KS.out.2.1)
                go_wp2_with fail
                go_cut [] from 38 to 66 (fun wx => Hid (KeyP p q g (m + 1) n AI cI gk2 capk2 (textR l2 9223372036854775807).2.1 (reqE (Op.bytesLess kl.toList key.toList) (reqE (decide ((textR l2 9223372036854775807).1.length ≤ 4096)) (textR l2 9223372036854775807).2.2)) its cs (ks0 ++ [kl] ++ [key]) w wx))
                case first =>
                  have m8 : IntKind.i64.wrap ((m : Int) + 1 - 1) = (m : Int) := by rw [Int.add_sub_cancel]; exact IntWalk.i64_in _ (by omega)
                  have m9 : (m : Int) + 1 - 1 = (m : Int) := by omega
                  have m10 : IntKind.i64.wrap (m : Int) = (m : Int) := IntWalk.i64_in _ (by omega)
                  have m11 : m < m + 1 + 1 := by omega
                  have m12 : IntKind.i64.wrap (((m + 1 : Nat) : Int) - 1) = (m : Int) := by rw [m3]; exact m10
                  go_region_held3 (fun w' => w'.cell? ⟨g, 4, none⟩ = some (.slice (some ⟨gk2, 0, none⟩) (m + 1 + 1) capk2) ∧ w'.cell? ⟨gk2, m, none⟩ = some (.string kl) ∧ w'.cell? ⟨gk2, m + 1, none⟩ = some (.string key))
                    (first
                      | go_keep
                      | exact kA)
                    (first
                      | (go_at_call 114; refine (RQ.out _ _ (by first | exact Or.inl rfl | exact Or.inr rfl)).mono ?_; rintro _ w8 ⟨rfl, hg8, hr8⟩; have K8 := Lib.hid (KeyP.turned SZ.out NQ.out NG.out KS.out hg8.out hr8.out); have kA := And.intro (K8.out.2.2.1.cell 4) (And.intro (by rw [K8.out.2.2.2.2.2.1.cellAt m (by omega)]; simp [← HK0.out] : w8.cell? ⟨gk2, m, none⟩ = some (.string kl)) (by rw [K8.out.2.2.2.2.2.1.cellAt (m + 1) (by omega)]; simp [← HK0.out] : w8.cell? ⟨gk2, m + 1, none⟩ = some (.string key)))))
                  clear hg8 hr8 RQ kA
                  go_wp2_with fail
                  go_meet
                  exact K8
                case rest =>
                  have KS8 := hcut
                  clear hcut KS RQ
                  obtain ⟨w8, hw8⟩ : ∃ w8, w8 = wc := ⟨_, rfl⟩
                  subst hw8
                  have hrc : cn - (m + 1) = (cn - ((m + 1) + 1)) + 1 := by omega
                  have hok : (Op.bytesLess kl.toList key.toList) = true ↔ ((ks0 ++ [kl]) = [] ∨ less (((ks0 ++ [kl])).getLastD ByteArray.empty) key = true) := ⟨fun h => Or.inr (by simpa [less] using h), fun h => by rcases h with h | h; simp at h; simpa [less] using h⟩
                  have hle : (textR l2 9223372036854775807).2.1.length ≤ l2.length := textA_rest l2
                  have HKS : Hid (∀ s ∈ (ks0 ++ [kl] ++ [key]), s.size ≤ 9223372036854775807) := Lib.hid (fun s hs => by
                    rcases List.mem_append.1 hs with h | h
                    · exact hks s h
                    · have e := List.mem_singleton.1 h
                      have h1 := textA_len l2
                      rw [e, HKEY.out]
                      simp only [ByteArray.size, List.size_toArray]
                      omega)
                  have HKD := Lib.hid (key_dec (dec := dec) (n := n) (r := cn - ((m + 1) + 1)) (its := its) HKEY.out hok)
                  have HRC := Lib.hid hrc
                  clear hok hrc hks
                  rcases HKD.out with ⟨h0, hR⟩ | ⟨h0, hR⟩
                  · obtain ⟨f8, q8, g8, r8, o8, k8, l8⟩ := KS8.out
                    rw [h0] at r8
                    have HRR : Hid (decI dec true b l = afterV (dec n (textR l2 9223372036854775807).2.1) (fun x l' n' => decL dec true (cn - ((m + 1) + 1)) n' l' (its ++ [x]) (ks0 ++ [kl] ++ [key]))) := Lib.hid (by rw [HD.out, HRC.out, hR])
                    have HL3 : Hid ((textR l2 9223372036854775807).2.1.length ≤ 4611686018427387904) := Lib.hid (by omega)
                    have HCV : Hid (∀ W, Below w8.heap.size w8 W → Calls Try.prog 87 #[.pointer (some ⟨q, 0, none⟩), .int .i64 (d + 1)] W (DecA RRd 93 (dec n (textR l2 9223372036854775807).2.1) p q w8 W)) := Lib.hid (fun W hb => (HV.out W n _ (r8.below hb) (q8.below hb q8.lt) hn2 HL3.out).mono (fun _ _ h => h.after hb r8.lt q8.lt))
                    have F8 := Lib.hid f8
                    have Q8 := Lib.hid q8
                    have G8 := Lib.hid g8
                    have R8 := Lib.hid r8
                    have O8 := Lib.hid o8
                    have K8 := Lib.hid k8
                    have L8 := Lib.hid l8
                    have HFR := Lib.hid (HFIT.out n (textR l2 9223372036854775807).2.1)
                    generalize (textR l2 9223372036854775807).2.1 = l3 at *
                    generalize dec n l3 = rr at *
                    clear f8 q8 g8 r8 o8 k8 l8 h0 hR hle KS8 HKD HRC HD HKEY g0 HF HQ HG HW HO HLC HK
                    go_wp2_with fail
                    refine (good_any true (by decide) R8.out Q8.out).mono ?_
                    rintro e1 w' ⟨rfl, rfl⟩
                    go_upto_region 10 with fail
                    have hdw : IntKind.i64.wrap (d + 1) = d + 1 := IntWalk.i64_in _ (by omega)
                    have g3 := G8.out.cell 3
                    change _ = some (Value.slice AI (m + 1) cI) at g3
                    have fg := G8.out.frozen 3
                    have ltg := G8.out.lt
                    have LT8 : Hid (w.heap.size ≤ w8.heap.size) := Lib.hid F8.out.size
                    have HOS : Hid (∀ W, FrS (Two p q) w8 W → W.ownsRow w.heap.size 26 5 (.slice AI (m + 1) cI) (m + 1) cs) := Lib.hid (fun W h => own_same O8.out (h.same (fun b hb => by have := SZ.out; rcases hb with hb | hb <;> omega)))
                    have GIN : Hid (¬ Two p q g) := Lib.hid (fun h => by rcases h with h | h; exact NG.out h; exact NQG.out h.symm)
                    have LIM : Hid (((m + 1) + 1) * 80 ≤ 140737488355328) := Lib.hid (by omega)
                    have HI5 := Lib.hid (And.intro hiV (And.intro hzV (And.intro hsV hbV)))
                    have HNG : Hid ((Value.slice AI (m + 1) cI).ownBlock ≠ some g) := Lib.hid (fun e => by have := (O8.out.lt g e).1; have := SZ.out; omega)
                    have jj : ((m + 1) : Int) < ((m + 1) : Int) + 1 := by omega
                    go_region_law (first
                      | (refine step_append_lies _ (by rfl) _ _ _ (by rfl) w.heap.size 26 iV _ 5 80 Try.underlying23 HI5.out.1 HI5.out.2.1 HI5.out.2.2.1 HI5.out.2.2.2 rfl (by omega) (.slice AI (m + 1) cI) (m + 1) cs (by rfl) (by first | exact (HOS.out _ HFB.out).alloc _ | exact ((HOS.out _ HFB.out).alloc _).drew | exact (HOS.out _ HFB.out).drew.alloc _) ⟨wB.heap.size, 0, none⟩ 1 1 [.int .i64 k2, .int .i64 i2, .string t2, .slice E n3 c3, .slice E' n4 c4] (by rfl) (by rfl) (World.news_of_block (cs := #[.int .i64 k2, .int .i64 i2, .string t2, .slice E n3 c3, .slice E' n4 c4]) (t := 26) (fr := (0, 0)) (heap_alloc_new wB _)) (by simp [Value.oneCell']) (by omega) (by have := LIM.out; unfold maxLen; omega) LIM.out (by have := HFB.out.size; have := LT8.out; simp; omega) (wB.heap.size + 1) (by simp) ?_; intro g2 cap w1 hown1 hgrow hat hlt1; have HGW : Hid (wB.grownBy w1 (Value.slice AI (m + 1) cI).ownBlock) := Lib.hid (grownBy_trans (World.grownBy_alloc wB _ _) (by exact hgrow)); have HAT : Hid ((Value.slice AI (m + 1) cI).ownBlock = some g2 ∨ wB.heap.size ≤ g2) := Lib.hid (by rcases hat with h | h; exact Or.inl h; exact Or.inr (by omega)); clear hat hgrow; obtain ⟨cur, hBK, y0, y1, y2, y3, y4, hW5⟩ := own_last hown1; have HW5 := Lib.hid hW5; have HY := Lib.hid (And.intro y0 (And.intro y1 (And.intro y2 (And.intro y3 y4)))); have HBK := Lib.hid hBK; clear hBK y0 y1 y2 y3 y4 hW5 hown1; have HG1 : Hid (Bk w1 g 26 #[.int .i64 5, .int .i64 0, .string ⟨#[]⟩, .slice AI (m + 1) cI, .slice (some ⟨gk2, 0, none⟩) ((m + 1) + 1) capk2]) := Lib.hid ((HFB.out.bk G8.out GIN.out).grown HGW.out (Ne.symm HNG.out)); have gg3 := HG1.out.cell 3; change _ = some (Value.slice AI (m + 1) cI) at gg3; have gf3 := HG1.out.frozen 3; have ne1 : g2 ≠ g := (fun e => by rcases HAT.out with h | h; exact HNG.out (by rw [h, e]); omega))
                      | (go_simp; go_at_call 87; refine (HCV.out _ (by first | exact Below.refl _ _ | exact (Below.refl _ _).drew | exact ⟨rfl, rfl, rfl, by simp, fun b hb => Below.heap_alloc _ _ b hb⟩)).mono ?_; rintro _ wB ⟨k2, i2, t2, E, n3, c3, E', n4, c4, b2, rfl, HFB, HMB, HQB, HXB⟩; have gB3 := (HFB.out.cell (p := ⟨g, 3, none⟩) ltg GIN.out).trans g3; have fgB := (HFB.out.bk G8.out GIN.out).frozen 3; have ltB : g < wB.heap.size := Nat.lt_of_lt_of_le ltg HFB.out.size))
                    all_goals (
                      obtain ⟨wf, hwf, HLA⟩ : ∃ wf, wf = w1.setCell ⟨g, 3, none⟩ (.slice (some ⟨g2, 0, none⟩) ((m + 1) + 1) cap) ∧ Hid (Last w1 wf g g2 #[.int .i64 5, .int .i64 0, .string ⟨#[]⟩, (.slice (some ⟨g2, 0, none⟩) ((m + 1) + 1) cap), .slice (some ⟨gk2, 0, none⟩) ((m + 1) + 1) capk2] (setV cur ((m + 1) * 5) (.int .i64 k2) (.int .i64 i2) (.string t2) (.slice E n3 c3) (.slice E' n4 c4))) := ⟨_, rfl, Lib.hid (last_c HG1.out HBK.out ne1 HY.out.1 HY.out.2.1 HY.out.2.2.1 HY.out.2.2.2.1 HY.out.2.2.2.2)⟩
                      rw [← hwf]
                      have HGF := Lib.hid HLA.out.2.2.2.2.2.1
                      have ST := Lib.hid (StepK.toR (ritem_step5 HFR.out SZ.out NG.out NQG.out F8.out G8.out O8.out K8.out L8.out HFB.out HQB.out HXB.out HGW.out HAT.out HLA.out HW5.out hn2 HL3.out hil (by have e := hkl; simp only [List.length_append, List.length_cons, List.length_nil] at e ⊢; omega) HKS.out HRR.out))
                      have HJ := Lib.hid hlt
                      clear hwf HLA hdw HG1 gg3 gf3 ne1 HBK HY HW5 HAT HGW gB3 fgB ltB HXB HQB HMB HFB HNG HI5 LIM GIN HOS fg g3 ltg LT8 HCV jj hlt1
                      go_wp2_with fail
                      go_roundg (cn - ((m + 1) + 1))
                      case measure => have := HJ.out; omega
                      case rel => exact ⟨(m + 1) + 1, b2, some ⟨g2, 0, none⟩, (m + 1) + 1, cap, some ⟨gk2, 0, none⟩, (m + 1) + 1, capk2, by have := HJ.out; omega, rfl, by go_num, ST, HGF⟩)
                  · have HEF : Hid ((reqE (Op.bytesLess kl.toList key.toList) (reqE (decide ((textR l2 9223372036854775807).1.length ≤ 4096)) (textR l2 9223372036854775807).2.2) == 0) = false) := Lib.hid (by rw [beq_eq_false_iff_ne]; exact h0)
                    have ST : Hid (StepR dec (decI dec true b l) p q g cn ((m + 1) + 1) AI (m + 1) cI (some ⟨gk2, 0, none⟩) ((m + 1) + 1) capk2 n w w8) := Lib.hid ⟨KS8.out.1, KS8.out.2.1, hn, Or.inr ⟨_, (textR l2 9223372036854775807).2.1, Lib.hid (by rw [HD.out, HRC.out, hR]), h0, Lib.hid KS8.out.2.2.2.1⟩⟩
                    have HGF := Lib.hid KS8.out.2.2.1
                    have R8 := Lib.hid KS8.out.2.2.2.1
                    have Q8 := Lib.hid KS8.out.2.1
                    have HJ := Lib.hid hlt
                    clear h0 hR hle KS8 HKD HRC HD HKEY g0 HF HQ HG HW HO HLC HK
                    go_wp2_with fail
                    refine (good_any false HEF.out R8.out Q8.out).mono ?_
                    rintro e1 w' ⟨rfl, rfl⟩
                    go_wp2_with fail
                    go_roundg (cn - ((m + 1) + 1))
                    case measure => have := HJ.out; omega
                    case rel => exact ⟨(m + 1) + 1, n, AI, (m + 1), cI, some ⟨gk2, 0, none⟩, (m + 1) + 1, capk2, by have := HJ.out; omega, rfl, by go_num, ST, HGF⟩
          · obtain rfl : cn = j := by omega
            have hff : decide ((cn : Int) < cn) = false := by simp
            have v0 := HG.out.cell 0
            change _ = some (Value.int .i64 5) at v0
            have v1 := HG.out.cell 1
            change _ = some (Value.int .i64 0) at v1
            have v2 := HG.out.cell 2
            change _ = some (Value.string ⟨#[]⟩) at v2
            have v3 := HG.out.cell 3
            change _ = some (Value.slice AI cn cI) at v3
            have v4 := HG.out.cell 4
            change _ = some (Value.slice AK cn cK) at v4
            have HR := Lib.hid (HF.out.bk HR1.out NR.out)
            have r0 := HR.out.cell 0
            have r1 := HR.out.cell 1
            have r2 := HR.out.cell 2
            have r3 := HR.out.cell 3
            have r4 := HR.out.cell 4
            have f0 := HR.out.frozen 0
            have f1 := HR.out.frozen 1
            have f2 := HR.out.frozen 2
            have f3 := HR.out.frozen 3
            have f4 := HR.out.frozen 4
            go_wp2
            obtain ⟨wf, hwf⟩ : ∃ wf, wf = ((((wr.setCell ⟨gR, 0, none⟩ (.int .i64 5)).setCell ⟨gR, 1, none⟩ (.int .i64 0)).setCell ⟨gR, 2, none⟩ (.string ⟨#[]⟩)).setCell ⟨gR, 3, none⟩ (.slice AI cn cI)).setCell ⟨gR, 4, none⟩ (.slice AK cn cK) := ⟨_, rfl⟩
            have GF : Hid (wr.grownBy wf (some gR)) := Lib.hid (by rw [hwf]; exact grownBy_trans (grownBy_trans (grownBy_trans (grownBy_trans (turned wr gR 0 _) (turned _ gR 1 _)) (turned _ gR 2 _)) (turned _ gR 3 _)) (turned _ gR 4 _))
            have RF : Hid (Bk wf gR 26 #[.int .i64 5, .int .i64 0, .string ⟨#[]⟩, .slice AI cn cI, .slice AK cn cK]) := Lib.hid (by rw [hwf]; exact ((((HR.out.put 0 _).put 1 _).put 2 _).put 3 _).put 4 _)
            have QF := Lib.hid (HQ.out.grown GF.out (by intro e; injection e with e; exact NR.out (Or.inr (Or.inl e.symm))))
            have WF := Lib.hid (HW.out.other HR.out (by decide) (fun e => NR.out (Or.inl e.symm)) GF.out)
            have FF : Hid (FrS (Two p q) w0 wf) := Lib.hid (endF HB0.out HGR.out HF.out GF.out)
            rw [← hwf]
            refine bodyPost_ret (results_cell_row rfl _ _ gR 26 _ (0, 0) _ rfl RF.out Try.underlying26 rfl (by kernel_rfl)) rfl ?_
            have LL := items_liesK (K := 5) HO.out HK.out HLC.out hil hkl hks (by omega)
            exact ⟨AI, cn, cI, AK, cn, cK, n, rfl, FF, QF, hn, Or.inl ⟨its, ks, l2, Lib.hid (by rw [HD.out, Nat.sub_self]; rfl), WF, Lib.hid (LL.keep (fun a ha => GF.out.cell_far a ha.2 (fun e => by injection e with e; have := ha.1; have := HGR.out; omega)) (fun b hb => ⟨by have := hb.1; have := HB0.out.size; omega, by have := hb.2; have := GF.out.size; omega⟩))⟩⟩
        · have HEF : Hid ((e == 0) = false) := Lib.hid (by rw [beq_eq_false_iff_ne]; exact he)
          by_cases hlt : j < cn
          · go_wp2_with fail
            refine (good_any false HEF.out HW.out HQ.out).mono ?_
            rintro e1 w' ⟨rfl, rfl⟩
            have v0 := HG.out.cell 0
            change _ = some (Value.int .i64 5) at v0
            have v1 := HG.out.cell 1
            change _ = some (Value.int .i64 0) at v1
            have v2 := HG.out.cell 2
            change _ = some (Value.string ⟨#[]⟩) at v2
            have v3 := HG.out.cell 3
            change _ = some (Value.slice AI nI cI) at v3
            have v4 := HG.out.cell 4
            change _ = some (Value.slice AK nK cK) at v4
            have HR := Lib.hid (HF.out.bk HR1.out NR.out)
            have r0 := HR.out.cell 0
            have r1 := HR.out.cell 1
            have r2 := HR.out.cell 2
            have r3 := HR.out.cell 3
            have r4 := HR.out.cell 4
            have f0 := HR.out.frozen 0
            have f1 := HR.out.frozen 1
            have f2 := HR.out.frozen 2
            have f3 := HR.out.frozen 3
            have f4 := HR.out.frozen 4
            go_wp2
            obtain ⟨wf, hwf⟩ : ∃ wf, wf = ((((wr.setCell ⟨gR, 0, none⟩ (.int .i64 5)).setCell ⟨gR, 1, none⟩ (.int .i64 0)).setCell ⟨gR, 2, none⟩ (.string ⟨#[]⟩)).setCell ⟨gR, 3, none⟩ (.slice AI nI cI)).setCell ⟨gR, 4, none⟩ (.slice AK nK cK) := ⟨_, rfl⟩
            have GF : Hid (wr.grownBy wf (some gR)) := Lib.hid (by rw [hwf]; exact grownBy_trans (grownBy_trans (grownBy_trans (grownBy_trans (turned wr gR 0 _) (turned _ gR 1 _)) (turned _ gR 2 _)) (turned _ gR 3 _)) (turned _ gR 4 _))
            have RF : Hid (Bk wf gR 26 #[.int .i64 5, .int .i64 0, .string ⟨#[]⟩, .slice AI nI cI, .slice AK nK cK]) := Lib.hid (by rw [hwf]; exact ((((HR.out.put 0 _).put 1 _).put 2 _).put 3 _).put 4 _)
            have QF := Lib.hid (HQ.out.grown GF.out (by intro e; injection e with e; exact NR.out (Or.inr (Or.inl e.symm))))
            have WF := Lib.hid (HW.out.other HR.out (by decide) (fun e => NR.out (Or.inl e.symm)) GF.out)
            have FF : Hid (FrS (Two p q) w0 wf) := Lib.hid (endF HB0.out HGR.out HF.out GF.out)
            rw [← hwf]
            refine bodyPost_ret (results_cell_row rfl _ _ gR 26 _ (0, 0) _ rfl RF.out Try.underlying26 rfl (by kernel_rfl)) rfl ?_
            exact ⟨AI, nI, cI, AK, nK, cK, n, rfl, FF, QF, hn, Or.inr ⟨e, l2, HD, he, WF⟩⟩
          · obtain rfl : cn = j := by omega
            have hff : decide ((cn : Int) < cn) = false := by simp
            have v0 := HG.out.cell 0
            change _ = some (Value.int .i64 5) at v0
            have v1 := HG.out.cell 1
            change _ = some (Value.int .i64 0) at v1
            have v2 := HG.out.cell 2
            change _ = some (Value.string ⟨#[]⟩) at v2
            have v3 := HG.out.cell 3
            change _ = some (Value.slice AI nI cI) at v3
            have v4 := HG.out.cell 4
            change _ = some (Value.slice AK nK cK) at v4
            have HR := Lib.hid (HF.out.bk HR1.out NR.out)
            have r0 := HR.out.cell 0
            have r1 := HR.out.cell 1
            have r2 := HR.out.cell 2
            have r3 := HR.out.cell 3
            have r4 := HR.out.cell 4
            have f0 := HR.out.frozen 0
            have f1 := HR.out.frozen 1
            have f2 := HR.out.frozen 2
            have f3 := HR.out.frozen 3
            have f4 := HR.out.frozen 4
            go_wp2
            obtain ⟨wf, hwf⟩ : ∃ wf, wf = ((((wr.setCell ⟨gR, 0, none⟩ (.int .i64 5)).setCell ⟨gR, 1, none⟩ (.int .i64 0)).setCell ⟨gR, 2, none⟩ (.string ⟨#[]⟩)).setCell ⟨gR, 3, none⟩ (.slice AI nI cI)).setCell ⟨gR, 4, none⟩ (.slice AK nK cK) := ⟨_, rfl⟩
            have GF : Hid (wr.grownBy wf (some gR)) := Lib.hid (by rw [hwf]; exact grownBy_trans (grownBy_trans (grownBy_trans (grownBy_trans (turned wr gR 0 _) (turned _ gR 1 _)) (turned _ gR 2 _)) (turned _ gR 3 _)) (turned _ gR 4 _))
            have RF : Hid (Bk wf gR 26 #[.int .i64 5, .int .i64 0, .string ⟨#[]⟩, .slice AI nI cI, .slice AK nK cK]) := Lib.hid (by rw [hwf]; exact ((((HR.out.put 0 _).put 1 _).put 2 _).put 3 _).put 4 _)
            have QF := Lib.hid (HQ.out.grown GF.out (by intro e; injection e with e; exact NR.out (Or.inr (Or.inl e.symm))))
            have WF := Lib.hid (HW.out.other HR.out (by decide) (fun e => NR.out (Or.inl e.symm)) GF.out)
            have FF : Hid (FrS (Two p q) w0 wf) := Lib.hid (endF HB0.out HGR.out HF.out GF.out)
            rw [← hwf]
            refine bodyPost_ret (results_cell_row rfl _ _ gR 26 _ (0, 0) _ rfl RF.out Try.underlying26 rfl (by kernel_rfl)) rfl ?_
            exact ⟨AI, nI, cI, AK, nK, cK, n, rfl, FF, QF, hn, Or.inr ⟨e, l2, HD, he, WF⟩⟩
    · by_cases hneg : c < 0
      · have t1 : decide ((0 : Int) ≤ c) = false := by rw [decide_eq_false_iff_not]; omega
        have DI : Hid (decI dec true b l = .err (reqE false 0) ∧ reqE false 0 ≠ 0) := Lib.hid (by
          unfold decI
          rw [HI.out]
          rw [if_neg (by simp), if_pos (by show c < 0 ∨ (1000 : Int) < c; omega)]
          exact ⟨rfl, by decide⟩)
        go_enter Try.func117, Try.ntmps117
        go_upto_region 1 with fail
        rw [← HW.out.1]
        rw [← HW.out.2.2, ← HW.out.2.1]
        go_wp2_with fail
        refine (HC.out).mono ?_
        rintro e1x w2 ⟨rfl, hg, hr2⟩
        have Q2 := Lib.hid (Q1.out.grown hg (by intro e; injection e with e; exact NQ.out e))
        have G2 := Lib.hid (G1.out.grown hg (by intro e; injection e with e; exact NG.out e))
        have F2 : Hid (FrS (Three p q g) w w2) := Lib.hid (FrS.of_grown hg (Or.inl rfl))
        have W2 := Lib.hid hr2
        clear hg hr2
        go_wp2_with fail
        refine (rreq_any false W2.out Q2.out).mono ?_
        rintro e1x w3 ⟨rfl, hg, hr3⟩
        have Q3 := Lib.hid (Q2.out.grown hg (by intro e; injection e with e; exact NQ.out e))
        have G3 := Lib.hid (G2.out.grown hg (by intro e; injection e with e; exact NG.out e))
        have F3 : Hid (FrS (Three p q g) w w3) := Lib.hid (F2.out.trans (FrS.of_grown hg (Or.inl rfl)))
        have W3 := Lib.hid hr3
        clear hg hr3
        have HEF : Hid ((reqE false 0 == 0) = false) := Lib.hid (by rw [beq_eq_false_iff_ne]; exact DI.out.2)
        go_wp2_with fail
        go_loopg [8] 0 (fun gh iv wr => iv = .int .i64 0 ∧ wr = w3)
        case atStart => exact ⟨rfl, rfl⟩
        case round =>
          obtain ⟨rfl, rfl⟩ := hrel
          have HF := F3
          have HQ := Q3
          have HG := G3
          clear HW
          have HW := W3
          clear F3 Q3 G3 W3
          have hpd : decide ((0 : Int) < c) = false := by rw [decide_eq_false_iff_not]; omega
          have v0 := HG.out.cell 0
          change _ = some (Value.int .i64 5) at v0
          have v1 := HG.out.cell 1
          change _ = some (Value.int .i64 0) at v1
          have v2 := HG.out.cell 2
          change _ = some (Value.string ⟨#[]⟩) at v2
          have v3 := HG.out.cell 3
          change _ = some (Value.slice none 0 0) at v3
          have v4 := HG.out.cell 4
          change _ = some (Value.slice none 0 0) at v4
          have HR := Lib.hid (HF.out.bk HR1.out NR.out)
          have r0 := HR.out.cell 0
          have r1 := HR.out.cell 1
          have r2 := HR.out.cell 2
          have r3 := HR.out.cell 3
          have r4 := HR.out.cell 4
          have f0 := HR.out.frozen 0
          have f1 := HR.out.frozen 1
          have f2 := HR.out.frozen 2
          have f3 := HR.out.frozen 3
          have f4 := HR.out.frozen 4
          go_wp2
          obtain ⟨wf, hwf⟩ : ∃ wf, wf = ((((wr.setCell ⟨gR, 0, none⟩ (.int .i64 5)).setCell ⟨gR, 1, none⟩ (.int .i64 0)).setCell ⟨gR, 2, none⟩ (.string ⟨#[]⟩)).setCell ⟨gR, 3, none⟩ (.slice none 0 0)).setCell ⟨gR, 4, none⟩ (.slice none 0 0) := ⟨_, rfl⟩
          have GF : Hid (wr.grownBy wf (some gR)) := Lib.hid (by rw [hwf]; exact grownBy_trans (grownBy_trans (grownBy_trans (grownBy_trans (turned wr gR 0 _) (turned _ gR 1 _)) (turned _ gR 2 _)) (turned _ gR 3 _)) (turned _ gR 4 _))
          have RF : Hid (Bk wf gR 26 #[.int .i64 5, .int .i64 0, .string ⟨#[]⟩, .slice none 0 0, .slice none 0 0]) := Lib.hid (by rw [hwf]; exact ((((HR.out.put 0 _).put 1 _).put 2 _).put 3 _).put 4 _)
          have QF := Lib.hid (HQ.out.grown GF.out (by intro e; injection e with e; exact NR.out (Or.inr (Or.inl e.symm))))
          have WF := Lib.hid (HW.out.other HR.out (by decide) (fun e => NR.out (Or.inl e.symm)) GF.out)
          have FF : Hid (FrS (Two p q) w0 wf) := Lib.hid (endF HB0.out HGR.out HF.out GF.out)
          rw [← hwf]
          refine bodyPost_ret (results_cell_row rfl _ _ gR 26 _ (0, 0) _ rfl RF.out Try.underlying26 rfl (by kernel_rfl)) rfl ?_
          exact ⟨none, 0, 0, none, 0, 0, b, rfl, FF, QF, by omega, Or.inr ⟨_, l1, Lib.hid DI.out.1, DI.out.2, WF⟩⟩
      · have t1 : decide ((0 : Int) ≤ c) = true := by rw [decide_eq_true_eq]; omega
        have t2 : decide (c ≤ 1000) = false := by rw [decide_eq_false_iff_not]; omega
        have DI : Hid (decI dec true b l = .err (reqE false 0) ∧ reqE false 0 ≠ 0) := Lib.hid (by
          unfold decI
          rw [HI.out]
          rw [if_neg (by simp), if_pos (by show c < 0 ∨ (1000 : Int) < c; omega)]
          exact ⟨rfl, by decide⟩)
        go_enter Try.func117, Try.ntmps117
        go_upto_region 1 with fail
        rw [← HW.out.1]
        rw [← HW.out.2.2, ← HW.out.2.1]
        go_wp2_with fail
        refine (HC.out).mono ?_
        rintro e1x w2 ⟨rfl, hg, hr2⟩
        have Q2 := Lib.hid (Q1.out.grown hg (by intro e; injection e with e; exact NQ.out e))
        have G2 := Lib.hid (G1.out.grown hg (by intro e; injection e with e; exact NG.out e))
        have F2 : Hid (FrS (Three p q g) w w2) := Lib.hid (FrS.of_grown hg (Or.inl rfl))
        have W2 := Lib.hid hr2
        clear hg hr2
        go_wp2_with fail
        refine (rreq_any false W2.out Q2.out).mono ?_
        rintro e1x w3 ⟨rfl, hg, hr3⟩
        have Q3 := Lib.hid (Q2.out.grown hg (by intro e; injection e with e; exact NQ.out e))
        have G3 := Lib.hid (G2.out.grown hg (by intro e; injection e with e; exact NG.out e))
        have F3 : Hid (FrS (Three p q g) w w3) := Lib.hid (F2.out.trans (FrS.of_grown hg (Or.inl rfl)))
        have W3 := Lib.hid hr3
        clear hg hr3
        have HEF : Hid ((reqE false 0 == 0) = false) := Lib.hid (by rw [beq_eq_false_iff_ne]; exact DI.out.2)
        go_wp2_with fail
        go_loopg [8] 0 (fun gh iv wr => iv = .int .i64 0 ∧ wr = w3)
        case atStart => exact ⟨rfl, rfl⟩
        case round =>
          obtain ⟨rfl, rfl⟩ := hrel
          have HF := F3
          have HQ := Q3
          have HG := G3
          clear HW
          have HW := W3
          clear F3 Q3 G3 W3
          have hpd : decide ((0 : Int) < c) = true := by rw [decide_eq_true_eq]; omega
          go_wp2_with fail
          refine (good_any false HEF.out HW.out HQ.out).mono ?_
          rintro e1x w' ⟨rfl, rfl⟩
          have v0 := HG.out.cell 0
          change _ = some (Value.int .i64 5) at v0
          have v1 := HG.out.cell 1
          change _ = some (Value.int .i64 0) at v1
          have v2 := HG.out.cell 2
          change _ = some (Value.string ⟨#[]⟩) at v2
          have v3 := HG.out.cell 3
          change _ = some (Value.slice none 0 0) at v3
          have v4 := HG.out.cell 4
          change _ = some (Value.slice none 0 0) at v4
          have HR := Lib.hid (HF.out.bk HR1.out NR.out)
          have r0 := HR.out.cell 0
          have r1 := HR.out.cell 1
          have r2 := HR.out.cell 2
          have r3 := HR.out.cell 3
          have r4 := HR.out.cell 4
          have f0 := HR.out.frozen 0
          have f1 := HR.out.frozen 1
          have f2 := HR.out.frozen 2
          have f3 := HR.out.frozen 3
          have f4 := HR.out.frozen 4
          go_wp2
          obtain ⟨wf, hwf⟩ : ∃ wf, wf = ((((wr.setCell ⟨gR, 0, none⟩ (.int .i64 5)).setCell ⟨gR, 1, none⟩ (.int .i64 0)).setCell ⟨gR, 2, none⟩ (.string ⟨#[]⟩)).setCell ⟨gR, 3, none⟩ (.slice none 0 0)).setCell ⟨gR, 4, none⟩ (.slice none 0 0) := ⟨_, rfl⟩
          have GF : Hid (wr.grownBy wf (some gR)) := Lib.hid (by rw [hwf]; exact grownBy_trans (grownBy_trans (grownBy_trans (grownBy_trans (turned wr gR 0 _) (turned _ gR 1 _)) (turned _ gR 2 _)) (turned _ gR 3 _)) (turned _ gR 4 _))
          have RF : Hid (Bk wf gR 26 #[.int .i64 5, .int .i64 0, .string ⟨#[]⟩, .slice none 0 0, .slice none 0 0]) := Lib.hid (by rw [hwf]; exact ((((HR.out.put 0 _).put 1 _).put 2 _).put 3 _).put 4 _)
          have QF := Lib.hid (HQ.out.grown GF.out (by intro e; injection e with e; exact NR.out (Or.inr (Or.inl e.symm))))
          have WF := Lib.hid (HW.out.other HR.out (by decide) (fun e => NR.out (Or.inl e.symm)) GF.out)
          have FF : Hid (FrS (Two p q) w0 wf) := Lib.hid (endF HB0.out HGR.out HF.out GF.out)
          rw [← hwf]
          refine bodyPost_ret (results_cell_row rfl _ _ gR 26 _ (0, 0) _ rfl RF.out Try.underlying26 rfl (by kernel_rfl)) rfl ?_
          exact ⟨none, 0, 0, none, 0, 0, b, rfl, FF, QF, by omega, Or.inr ⟨_, l1, Lib.hid DI.out.1, DI.out.2, WF⟩⟩
  · by_cases hneg : c < 0
    · have t1 : decide ((0 : Int) ≤ c) = false := by rw [decide_eq_false_iff_not]; omega
      have DI : Hid (decI dec true b l = .err (reqE false e1) ∧ reqE false e1 ≠ 0) := Lib.hid (by
        unfold decI
        rw [HI.out]
        rw [if_pos (by exact he1)]
        exact ⟨by rw [reqE_ne he1], by rw [reqE_ne he1]; exact he1⟩)
      go_enter Try.func117, Try.ntmps117
      go_upto_region 1 with fail
      rw [← HW.out.1]
      rw [← HW.out.2.2, ← HW.out.2.1]
      go_wp2_with fail
      refine (HC.out).mono ?_
      rintro e1x w2 ⟨rfl, hg, hr2⟩
      have Q2 := Lib.hid (Q1.out.grown hg (by intro e; injection e with e; exact NQ.out e))
      have G2 := Lib.hid (G1.out.grown hg (by intro e; injection e with e; exact NG.out e))
      have F2 : Hid (FrS (Three p q g) w w2) := Lib.hid (FrS.of_grown hg (Or.inl rfl))
      have W2 := Lib.hid hr2
      clear hg hr2
      go_wp2_with fail
      refine (rreq_any false W2.out Q2.out).mono ?_
      rintro e1x w3 ⟨rfl, hg, hr3⟩
      have Q3 := Lib.hid (Q2.out.grown hg (by intro e; injection e with e; exact NQ.out e))
      have G3 := Lib.hid (G2.out.grown hg (by intro e; injection e with e; exact NG.out e))
      have F3 : Hid (FrS (Three p q g) w w3) := Lib.hid (F2.out.trans (FrS.of_grown hg (Or.inl rfl)))
      have W3 := Lib.hid hr3
      clear hg hr3
      have HEF : Hid ((reqE false e1 == 0) = false) := Lib.hid (by rw [beq_eq_false_iff_ne]; exact DI.out.2)
      go_wp2_with fail
      go_loopg [8] 0 (fun gh iv wr => iv = .int .i64 0 ∧ wr = w3)
      case atStart => exact ⟨rfl, rfl⟩
      case round =>
        obtain ⟨rfl, rfl⟩ := hrel
        have HF := F3
        have HQ := Q3
        have HG := G3
        clear HW
        have HW := W3
        clear F3 Q3 G3 W3
        have hpd : decide ((0 : Int) < c) = false := by rw [decide_eq_false_iff_not]; omega
        have v0 := HG.out.cell 0
        change _ = some (Value.int .i64 5) at v0
        have v1 := HG.out.cell 1
        change _ = some (Value.int .i64 0) at v1
        have v2 := HG.out.cell 2
        change _ = some (Value.string ⟨#[]⟩) at v2
        have v3 := HG.out.cell 3
        change _ = some (Value.slice none 0 0) at v3
        have v4 := HG.out.cell 4
        change _ = some (Value.slice none 0 0) at v4
        have HR := Lib.hid (HF.out.bk HR1.out NR.out)
        have r0 := HR.out.cell 0
        have r1 := HR.out.cell 1
        have r2 := HR.out.cell 2
        have r3 := HR.out.cell 3
        have r4 := HR.out.cell 4
        have f0 := HR.out.frozen 0
        have f1 := HR.out.frozen 1
        have f2 := HR.out.frozen 2
        have f3 := HR.out.frozen 3
        have f4 := HR.out.frozen 4
        go_wp2
        obtain ⟨wf, hwf⟩ : ∃ wf, wf = ((((wr.setCell ⟨gR, 0, none⟩ (.int .i64 5)).setCell ⟨gR, 1, none⟩ (.int .i64 0)).setCell ⟨gR, 2, none⟩ (.string ⟨#[]⟩)).setCell ⟨gR, 3, none⟩ (.slice none 0 0)).setCell ⟨gR, 4, none⟩ (.slice none 0 0) := ⟨_, rfl⟩
        have GF : Hid (wr.grownBy wf (some gR)) := Lib.hid (by rw [hwf]; exact grownBy_trans (grownBy_trans (grownBy_trans (grownBy_trans (turned wr gR 0 _) (turned _ gR 1 _)) (turned _ gR 2 _)) (turned _ gR 3 _)) (turned _ gR 4 _))
        have RF : Hid (Bk wf gR 26 #[.int .i64 5, .int .i64 0, .string ⟨#[]⟩, .slice none 0 0, .slice none 0 0]) := Lib.hid (by rw [hwf]; exact ((((HR.out.put 0 _).put 1 _).put 2 _).put 3 _).put 4 _)
        have QF := Lib.hid (HQ.out.grown GF.out (by intro e; injection e with e; exact NR.out (Or.inr (Or.inl e.symm))))
        have WF := Lib.hid (HW.out.other HR.out (by decide) (fun e => NR.out (Or.inl e.symm)) GF.out)
        have FF : Hid (FrS (Two p q) w0 wf) := Lib.hid (endF HB0.out HGR.out HF.out GF.out)
        rw [← hwf]
        refine bodyPost_ret (results_cell_row rfl _ _ gR 26 _ (0, 0) _ rfl RF.out Try.underlying26 rfl (by kernel_rfl)) rfl ?_
        exact ⟨none, 0, 0, none, 0, 0, b, rfl, FF, QF, by omega, Or.inr ⟨_, l1, Lib.hid DI.out.1, DI.out.2, WF⟩⟩
    · by_cases hbig : 1000 < c
      · have t1 : decide ((0 : Int) ≤ c) = true := by rw [decide_eq_true_eq]; omega
        have t2 : decide (c ≤ 1000) = false := by rw [decide_eq_false_iff_not]; omega
        have DI : Hid (decI dec true b l = .err (reqE false e1) ∧ reqE false e1 ≠ 0) := Lib.hid (by
          unfold decI
          rw [HI.out]
          rw [if_pos (by exact he1)]
          exact ⟨by rw [reqE_ne he1], by rw [reqE_ne he1]; exact he1⟩)
        go_enter Try.func117, Try.ntmps117
        go_upto_region 1 with fail
        rw [← HW.out.1]
        rw [← HW.out.2.2, ← HW.out.2.1]
        go_wp2_with fail
        refine (HC.out).mono ?_
        rintro e1x w2 ⟨rfl, hg, hr2⟩
        have Q2 := Lib.hid (Q1.out.grown hg (by intro e; injection e with e; exact NQ.out e))
        have G2 := Lib.hid (G1.out.grown hg (by intro e; injection e with e; exact NG.out e))
        have F2 : Hid (FrS (Three p q g) w w2) := Lib.hid (FrS.of_grown hg (Or.inl rfl))
        have W2 := Lib.hid hr2
        clear hg hr2
        go_wp2_with fail
        refine (rreq_any false W2.out Q2.out).mono ?_
        rintro e1x w3 ⟨rfl, hg, hr3⟩
        have Q3 := Lib.hid (Q2.out.grown hg (by intro e; injection e with e; exact NQ.out e))
        have G3 := Lib.hid (G2.out.grown hg (by intro e; injection e with e; exact NG.out e))
        have F3 : Hid (FrS (Three p q g) w w3) := Lib.hid (F2.out.trans (FrS.of_grown hg (Or.inl rfl)))
        have W3 := Lib.hid hr3
        clear hg hr3
        have HEF : Hid ((reqE false e1 == 0) = false) := Lib.hid (by rw [beq_eq_false_iff_ne]; exact DI.out.2)
        go_wp2_with fail
        go_loopg [8] 0 (fun gh iv wr => iv = .int .i64 0 ∧ wr = w3)
        case atStart => exact ⟨rfl, rfl⟩
        case round =>
          obtain ⟨rfl, rfl⟩ := hrel
          have HF := F3
          have HQ := Q3
          have HG := G3
          clear HW
          have HW := W3
          clear F3 Q3 G3 W3
          have hpd : decide ((0 : Int) < c) = true := by rw [decide_eq_true_eq]; omega
          go_wp2_with fail
          refine (good_any false HEF.out HW.out HQ.out).mono ?_
          rintro e1x w' ⟨rfl, rfl⟩
          have v0 := HG.out.cell 0
          change _ = some (Value.int .i64 5) at v0
          have v1 := HG.out.cell 1
          change _ = some (Value.int .i64 0) at v1
          have v2 := HG.out.cell 2
          change _ = some (Value.string ⟨#[]⟩) at v2
          have v3 := HG.out.cell 3
          change _ = some (Value.slice none 0 0) at v3
          have v4 := HG.out.cell 4
          change _ = some (Value.slice none 0 0) at v4
          have HR := Lib.hid (HF.out.bk HR1.out NR.out)
          have r0 := HR.out.cell 0
          have r1 := HR.out.cell 1
          have r2 := HR.out.cell 2
          have r3 := HR.out.cell 3
          have r4 := HR.out.cell 4
          have f0 := HR.out.frozen 0
          have f1 := HR.out.frozen 1
          have f2 := HR.out.frozen 2
          have f3 := HR.out.frozen 3
          have f4 := HR.out.frozen 4
          go_wp2
          obtain ⟨wf, hwf⟩ : ∃ wf, wf = ((((wr.setCell ⟨gR, 0, none⟩ (.int .i64 5)).setCell ⟨gR, 1, none⟩ (.int .i64 0)).setCell ⟨gR, 2, none⟩ (.string ⟨#[]⟩)).setCell ⟨gR, 3, none⟩ (.slice none 0 0)).setCell ⟨gR, 4, none⟩ (.slice none 0 0) := ⟨_, rfl⟩
          have GF : Hid (wr.grownBy wf (some gR)) := Lib.hid (by rw [hwf]; exact grownBy_trans (grownBy_trans (grownBy_trans (grownBy_trans (turned wr gR 0 _) (turned _ gR 1 _)) (turned _ gR 2 _)) (turned _ gR 3 _)) (turned _ gR 4 _))
          have RF : Hid (Bk wf gR 26 #[.int .i64 5, .int .i64 0, .string ⟨#[]⟩, .slice none 0 0, .slice none 0 0]) := Lib.hid (by rw [hwf]; exact ((((HR.out.put 0 _).put 1 _).put 2 _).put 3 _).put 4 _)
          have QF := Lib.hid (HQ.out.grown GF.out (by intro e; injection e with e; exact NR.out (Or.inr (Or.inl e.symm))))
          have WF := Lib.hid (HW.out.other HR.out (by decide) (fun e => NR.out (Or.inl e.symm)) GF.out)
          have FF : Hid (FrS (Two p q) w0 wf) := Lib.hid (endF HB0.out HGR.out HF.out GF.out)
          rw [← hwf]
          refine bodyPost_ret (results_cell_row rfl _ _ gR 26 _ (0, 0) _ rfl RF.out Try.underlying26 rfl (by kernel_rfl)) rfl ?_
          exact ⟨none, 0, 0, none, 0, 0, b, rfl, FF, QF, by omega, Or.inr ⟨_, l1, Lib.hid DI.out.1, DI.out.2, WF⟩⟩
      · have t1 : decide ((0 : Int) ≤ c) = true := by rw [decide_eq_true_eq]; omega
        have t2 : decide (c ≤ 1000) = true := by rw [decide_eq_true_eq]; omega
        have DI : Hid (decI dec true b l = .err (reqE true e1) ∧ reqE true e1 ≠ 0) := Lib.hid (by
          unfold decI
          rw [HI.out]
          rw [if_pos (by exact he1)]
          exact ⟨by rw [reqE_ne he1], by rw [reqE_ne he1]; exact he1⟩)
        go_enter Try.func117, Try.ntmps117
        go_upto_region 1 with fail
        rw [← HW.out.1]
        rw [← HW.out.2.2, ← HW.out.2.1]
        go_wp2_with fail
        refine (HC.out).mono ?_
        rintro e1x w2 ⟨rfl, hg, hr2⟩
        have Q2 := Lib.hid (Q1.out.grown hg (by intro e; injection e with e; exact NQ.out e))
        have G2 := Lib.hid (G1.out.grown hg (by intro e; injection e with e; exact NG.out e))
        have F2 : Hid (FrS (Three p q g) w w2) := Lib.hid (FrS.of_grown hg (Or.inl rfl))
        have W2 := Lib.hid hr2
        clear hg hr2
        go_wp2_with fail
        refine (rreq_any true W2.out Q2.out).mono ?_
        rintro e1x w3 ⟨rfl, hg, hr3⟩
        have Q3 := Lib.hid (Q2.out.grown hg (by intro e; injection e with e; exact NQ.out e))
        have G3 := Lib.hid (G2.out.grown hg (by intro e; injection e with e; exact NG.out e))
        have F3 : Hid (FrS (Three p q g) w w3) := Lib.hid (F2.out.trans (FrS.of_grown hg (Or.inl rfl)))
        have W3 := Lib.hid hr3
        clear hg hr3
        have HEF : Hid ((reqE true e1 == 0) = false) := Lib.hid (by rw [beq_eq_false_iff_ne]; exact DI.out.2)
        go_wp2_with fail
        go_loopg [8] 0 (fun gh iv wr => iv = .int .i64 0 ∧ wr = w3)
        case atStart => exact ⟨rfl, rfl⟩
        case round =>
          obtain ⟨rfl, rfl⟩ := hrel
          have HF := F3
          have HQ := Q3
          have HG := G3
          clear HW
          have HW := W3
          clear F3 Q3 G3 W3
          by_cases hpos : (0 : Int) < c
          · have hpd : decide ((0 : Int) < c) = true := by rw [decide_eq_true_eq]; omega
            go_wp2_with fail
            refine (good_any false HEF.out HW.out HQ.out).mono ?_
            rintro e1x w' ⟨rfl, rfl⟩
            have v0 := HG.out.cell 0
            change _ = some (Value.int .i64 5) at v0
            have v1 := HG.out.cell 1
            change _ = some (Value.int .i64 0) at v1
            have v2 := HG.out.cell 2
            change _ = some (Value.string ⟨#[]⟩) at v2
            have v3 := HG.out.cell 3
            change _ = some (Value.slice none 0 0) at v3
            have v4 := HG.out.cell 4
            change _ = some (Value.slice none 0 0) at v4
            have HR := Lib.hid (HF.out.bk HR1.out NR.out)
            have r0 := HR.out.cell 0
            have r1 := HR.out.cell 1
            have r2 := HR.out.cell 2
            have r3 := HR.out.cell 3
            have r4 := HR.out.cell 4
            have f0 := HR.out.frozen 0
            have f1 := HR.out.frozen 1
            have f2 := HR.out.frozen 2
            have f3 := HR.out.frozen 3
            have f4 := HR.out.frozen 4
            go_wp2
            obtain ⟨wf, hwf⟩ : ∃ wf, wf = ((((wr.setCell ⟨gR, 0, none⟩ (.int .i64 5)).setCell ⟨gR, 1, none⟩ (.int .i64 0)).setCell ⟨gR, 2, none⟩ (.string ⟨#[]⟩)).setCell ⟨gR, 3, none⟩ (.slice none 0 0)).setCell ⟨gR, 4, none⟩ (.slice none 0 0) := ⟨_, rfl⟩
            have GF : Hid (wr.grownBy wf (some gR)) := Lib.hid (by rw [hwf]; exact grownBy_trans (grownBy_trans (grownBy_trans (grownBy_trans (turned wr gR 0 _) (turned _ gR 1 _)) (turned _ gR 2 _)) (turned _ gR 3 _)) (turned _ gR 4 _))
            have RF : Hid (Bk wf gR 26 #[.int .i64 5, .int .i64 0, .string ⟨#[]⟩, .slice none 0 0, .slice none 0 0]) := Lib.hid (by rw [hwf]; exact ((((HR.out.put 0 _).put 1 _).put 2 _).put 3 _).put 4 _)
            have QF := Lib.hid (HQ.out.grown GF.out (by intro e; injection e with e; exact NR.out (Or.inr (Or.inl e.symm))))
            have WF := Lib.hid (HW.out.other HR.out (by decide) (fun e => NR.out (Or.inl e.symm)) GF.out)
            have FF : Hid (FrS (Two p q) w0 wf) := Lib.hid (endF HB0.out HGR.out HF.out GF.out)
            rw [← hwf]
            refine bodyPost_ret (results_cell_row rfl _ _ gR 26 _ (0, 0) _ rfl RF.out Try.underlying26 rfl (by kernel_rfl)) rfl ?_
            exact ⟨none, 0, 0, none, 0, 0, b, rfl, FF, QF, by omega, Or.inr ⟨_, l1, Lib.hid DI.out.1, DI.out.2, WF⟩⟩
          · have hpd : decide ((0 : Int) < c) = false := by rw [decide_eq_false_iff_not]; omega
            have v0 := HG.out.cell 0
            change _ = some (Value.int .i64 5) at v0
            have v1 := HG.out.cell 1
            change _ = some (Value.int .i64 0) at v1
            have v2 := HG.out.cell 2
            change _ = some (Value.string ⟨#[]⟩) at v2
            have v3 := HG.out.cell 3
            change _ = some (Value.slice none 0 0) at v3
            have v4 := HG.out.cell 4
            change _ = some (Value.slice none 0 0) at v4
            have HR := Lib.hid (HF.out.bk HR1.out NR.out)
            have r0 := HR.out.cell 0
            have r1 := HR.out.cell 1
            have r2 := HR.out.cell 2
            have r3 := HR.out.cell 3
            have r4 := HR.out.cell 4
            have f0 := HR.out.frozen 0
            have f1 := HR.out.frozen 1
            have f2 := HR.out.frozen 2
            have f3 := HR.out.frozen 3
            have f4 := HR.out.frozen 4
            go_wp2
            obtain ⟨wf, hwf⟩ : ∃ wf, wf = ((((wr.setCell ⟨gR, 0, none⟩ (.int .i64 5)).setCell ⟨gR, 1, none⟩ (.int .i64 0)).setCell ⟨gR, 2, none⟩ (.string ⟨#[]⟩)).setCell ⟨gR, 3, none⟩ (.slice none 0 0)).setCell ⟨gR, 4, none⟩ (.slice none 0 0) := ⟨_, rfl⟩
            have GF : Hid (wr.grownBy wf (some gR)) := Lib.hid (by rw [hwf]; exact grownBy_trans (grownBy_trans (grownBy_trans (grownBy_trans (turned wr gR 0 _) (turned _ gR 1 _)) (turned _ gR 2 _)) (turned _ gR 3 _)) (turned _ gR 4 _))
            have RF : Hid (Bk wf gR 26 #[.int .i64 5, .int .i64 0, .string ⟨#[]⟩, .slice none 0 0, .slice none 0 0]) := Lib.hid (by rw [hwf]; exact ((((HR.out.put 0 _).put 1 _).put 2 _).put 3 _).put 4 _)
            have QF := Lib.hid (HQ.out.grown GF.out (by intro e; injection e with e; exact NR.out (Or.inr (Or.inl e.symm))))
            have WF := Lib.hid (HW.out.other HR.out (by decide) (fun e => NR.out (Or.inl e.symm)) GF.out)
            have FF : Hid (FrS (Two p q) w0 wf) := Lib.hid (endF HB0.out HGR.out HF.out GF.out)
            rw [← hwf]
            refine bodyPost_ret (results_cell_row rfl _ _ gR 26 _ (0, 0) _ rfl RF.out Try.underlying26 rfl (by kernel_rfl)) rfl ?_
            exact ⟨none, 0, 0, none, 0, 0, b, rfl, FF, QF, by omega, Or.inr ⟨_, l1, Lib.hid DI.out.1, DI.out.2, WF⟩⟩
end Go.Proofs.Ytidinbeanaifmaa
namespace Go.Proofs.Ytidinbeanaifmaa
open Go.RowKit

/-- the reference's value at a depth that leaves f levels -/
theorem rv_any {p q : Nat} : ∀ (f : Nat) (d : Int), d = 17 - (f : Int) → 0 ≤ d → ∀ (w : World) (b : Nat) (l : List UInt8), RRd w p l 0 → Bk w q 93 #[.pointer (some ⟨p, 0, none⟩), .int .i64 (b : Nat)] → b ≤ 1000 → l.length ≤ 4611686018427387904 →
    Calls Try.prog 87 #[.pointer (some ⟨q, 0, none⟩), .int .i64 d] w (DecP RRd 93 (decV f b l) p q w)
  | 0, d, hd, _, w, b, l, hr, hq, hb, _ => by
    rw [decV]
    exact rv_deep hr hq hb (by omega)
  | f + 1, d, hd, hd0, w, b, l, hr, hq, hb, hl => by
    have hdp : d ≤ 16 := by omega
    by_cases hm : 1000 ≤ b
    · rw [decV_many hm]
      exact rv_many hr hq hb hm
    · by_cases he : (intA l).2.2 ≠ 0
      · rw [decV_int hm he]
        exact rv_int hr hq hb (by omega) hdp (intA_err he) he
      · obtain ⟨k, l1, hi⟩ : ∃ k l1, intA l = (k, l1, 0) := ⟨(intA l).1, (intA l).2.1, by rw [← Decidable.not_not.1 he]⟩
        have hl1 : l1.length ≤ 4611686018427387904 := by have := intA_len l; rw [hi] at this; exact Nat.le_trans this hl
        rw [decV_in hm hi]
        have hlt : b < 1000 := by omega
        have hv : ∀ (W : World) (n : Nat) (l : List UInt8), RRd W p l 0 → Bk W q 93 #[.pointer (some ⟨p, 0, none⟩), .int .i64 (n : Nat)] → n ≤ 1000 → l.length ≤ 4611686018427387904 → Calls Try.prog 87 #[.pointer (some ⟨q, 0, none⟩), .int .i64 (d + 1)] W (DecP RRd 93 (decV f n l) p q W) :=
          fun W n l => rv_any f (d + 1) (by omega) (by omega) W n l
        by_cases hbad : k < 0 ∨ 5 < k
        · rw [decB_bad hbad]
          exact rv_bad hr hq hb hlt hdp hi hbad
        · have hk : k = 0 ∨ k = 1 ∨ k = 2 ∨ k = 3 ∨ k = 4 ∨ k = 5 := by omega
          rcases hk with rfl | rfl | rfl | rfl | rfl | rfl
          · rw [decB_0]
            exact rv_0 hr hq hb hlt hdp hi
          · rw [decB_1 (i := (intA l1).1) (l2 := (intA l1).2.1) (e := (intA l1).2.2) rfl]
            exact rv_1 hr hq hb hlt hdp hi rfl
          · rw [decB_2 (i := (intA l1).1) (l2 := (intA l1).2.1) (e := (intA l1).2.2) rfl]
            exact rv_2 hr hq hb hlt hdp hi rfl
          · rw [decB_3]
            exact rv_3 hr hq hb hlt hdp hl1 hi
          · rw [decB_4]
            exact rv_4 hr hq hb hlt hdp hi fun W h1 h2 => ritems_4 hd0 hdp (decV_fits f) hv h1 h2 (by omega) hl1
          · rw [decB_5]
            exact rv_5 hr hq hb hlt hdp hi fun W h1 h2 => ritems_5 hd0 hdp (decV_fits f) hv h1 h2 (by omega) hl1

/-- what Decode hands back -/
def DcP (RD : World → Nat → List UInt8 → Int → Prop) (r : DR VT) (p : Nat) (w : World) (en : Ending) (w' : World) : Prop :=
  ∃ (k i : Int) (t : ByteArray) (A : Option Addr) (n c : Nat) (A' : Option Addr) (n' c' : Nat), en = .returned (.agg #[.int .i64 k, .int .i64 i, .string t, .slice A n c, .slice A' n' c']) ∧ Hid (FrS (fun b => b = p) w w') ∧
    ((∃ x l' m, Hid (r = .ok x l' m) ∧ Hid (RD w' p l' 0) ∧ Hid (Lies w' (New w w') x (.agg #[.int .i64 k, .int .i64 i, .string t, .slice A n c, .slice A' n' c']))) ∨ ∃ e l', Hid (r = .err e) ∧ e ≠ 0 ∧ Hid (RD w' p l' e) ∧ Hid (Lies w' (New w w') nullT (.agg #[.int .i64 k, .int .i64 i, .string t, .slice A n c, .slice A' n' c'])))
/-- the frame of Decode -/
theorem frame_dc {w w1 w2 w3 wf : World} {p q g : Nat} (h1 : Below w.heap.size w w1) (h2 : FrS (Two p q) w1 w2) (h3 : Below w2.heap.size w2 w3) (h4 : w3.grownBy wf (some g)) (hq : w.heap.size ≤ q) (hg : w.heap.size ≤ g) : FrS (fun b => b = p) w wf := by
  refine (((FrS.of_below h1).next h2 (fun i hi h => ?_)).trans (FrS.of_below h3)).next (FrS.of_grown (S := fun b => b = g) h4 rfl) (fun i hi h => ?_)
  · rcases h with h | h
    · exact h
    · omega
  · omega

set_option maxRecDepth 100000 in
set_option maxHeartbeats 4000000 in
theorem wDecode_any {w : World} {p : Nat} {l : List UInt8} (hr : WRd w p l 0) (hl : l.length ≤ 4611686018427387904) : Calls Try.prog 50 #[.pointer (some ⟨p, 0, none⟩)] w (DcP WRd (decV 16 0 l) p w) := by
  obtain ⟨w1, hw1⟩ : ∃ w1, w1 = (w.alloc (.cells #[.int .i64 0, .int .i64 0, .string ⟨#[]⟩, .slice none 0 0, .slice none 0 0] 26)).alloc (.cells #[.pointer (some ⟨p, 0, none⟩), .int .i64 0] 90) := ⟨_, rfl⟩
  obtain ⟨q, hqe⟩ : ∃ q, q = w.heap.size + 1 := ⟨_, rfl⟩
  have hb1 : Below w.heap.size w w1 := by rw [hw1]; exact ((Below.refl _ _).alloc (Nat.le_refl _) _).alloc (by simp) _
  have B1 := Lib.hid hb1
  have R1 : Hid (Bk w1 w.heap.size 26 #[.int .i64 0, .int .i64 0, .string ⟨#[]⟩, .slice none 0 0, .slice none 0 0]) := Lib.hid (by rw [hw1]; exact (Bk.new w _ _).alloc _)
  have Q1 : Hid (Bk w1 q 90 #[.pointer (some ⟨p, 0, none⟩), .int .i64 ((0 : Nat) : Int)]) := Lib.hid (by rw [hw1, hqe]; have h := Bk.new (w.alloc (.cells #[.int .i64 0, .int .i64 0, .string ⟨#[]⟩, .slice none 0 0, .slice none 0 0] 26)) 90 #[.pointer (some ⟨p, 0, none⟩), .int .i64 0]; simpa using h)
  have W1 := Lib.hid (hr.below hb1)
  have NE : Hid (w.heap.size ≠ p ∧ w.heap.size ≤ q ∧ w.heap.size < w1.heap.size) := Lib.hid (by have h1 := hr.lt; have h2 := R1.out.lt; exact ⟨by omega, by omega, h2⟩)
  have NQ : Hid (¬ Two p q w.heap.size) := Lib.hid (fun h => by have h1 := hr.lt; rcases h with h | h <;> omega)
  have HV := Lib.hid (dv_any 16 1 (by omega) (by omega) w1 0 l W1.out Q1.out (by omega) hl)
  have HW := Lib.hid (And.intro hw1 hqe)
  clear hr hl hb1 hw1 hqe
  generalize decV 16 0 l = r at *
  go_enter Try.func50, Try.ntmps50
  go_wp2_with fail
  rw [← HW.out.1, ← HW.out.2]
  refine (HV.out).mono ?_
  rintro e1 w2 ⟨k, i, t, A, n, c, A', n', c', b', rfl, F2, Q2, hb', hx⟩
  have R2 := Lib.hid (F2.out.bk R1.out NQ.out)
  go_upto_region 3 with fail
  obtain ⟨w3, hw3⟩ : ∃ w3, w3 = w2.alloc (.cells #[.int .i64 k, .int .i64 i, .string t, .slice A n c, .slice A' n' c'] 26) := ⟨_, rfl⟩
  have B3 : Hid (Below w2.heap.size w2 w3) := Lib.hid (by rw [hw3]; exact below_one _ _)
  have V3 : Hid (Bk w3 w2.heap.size 26 #[.int .i64 k, .int .i64 i, .string t, .slice A n c, .slice A' n' c']) := Lib.hid (by rw [hw3]; exact Bk.new _ _ _)
  have R3 := Lib.hid (R2.out.below B3.out R2.out.lt)
  have Q3 := Lib.hid (Q2.out.below B3.out Q2.out.lt)
  rw [← hw3]
  clear hw3 HW HV
  rcases hx with ⟨x, l', HR, W2, HLS⟩ | ⟨e, l', HR, he, W2⟩
  · have W3 := Lib.hid (W2.out.below B3.out)
    go_wp2_with fail
    refine (wErr_any W3.out).mono ?_
    rintro e1 w' ⟨rfl, rfl⟩
    have v0 := V3.out.cell 0
    change _ = some (Value.int .i64 k) at v0
    have v1 := V3.out.cell 1
    change _ = some (Value.int .i64 i) at v1
    have v2 := V3.out.cell 2
    change _ = some (Value.string t) at v2
    have v3 := V3.out.cell 3
    change _ = some (Value.slice A n c) at v3
    have v4 := V3.out.cell 4
    change _ = some (Value.slice A' n' c') at v4
    have r0 := R3.out.cell 0
    have f0 := R3.out.frozen 0
    have r1 := R3.out.cell 1
    have f1 := R3.out.frozen 1
    have r2 := R3.out.cell 2
    have f2 := R3.out.frozen 2
    have r3 := R3.out.cell 3
    have f3 := R3.out.frozen 3
    have r4 := R3.out.cell 4
    have f4 := R3.out.frozen 4
    go_wp2
    obtain ⟨wf, hwf⟩ : ∃ wf, wf = ((((w3.setCell ⟨w.heap.size, 0, none⟩ (.int .i64 k)).setCell ⟨w.heap.size, 1, none⟩ (.int .i64 i)).setCell ⟨w.heap.size, 2, none⟩ (.string t)).setCell ⟨w.heap.size, 3, none⟩ (.slice A n c)).setCell ⟨w.heap.size, 4, none⟩ (.slice A' n' c') := ⟨_, rfl⟩
    have GF : Hid (w3.grownBy wf (some w.heap.size)) := Lib.hid (by rw [hwf]; exact grownBy_trans (grownBy_trans (grownBy_trans (grownBy_trans (turned w3 w.heap.size 0 _) (turned _ w.heap.size 1 _)) (turned _ w.heap.size 2 _)) (turned _ w.heap.size 3 _)) (turned _ w.heap.size 4 _))
    have RF : Hid (Bk wf w.heap.size 26 #[.int .i64 k, .int .i64 i, .string t, .slice A n c, .slice A' n' c']) := Lib.hid (by rw [hwf]; exact ((((R3.out.put 0 _).put 1 _).put 2 _).put 3 _).put 4 _)
    have WF := Lib.hid (W3.out.other R3.out (by decide) (Ne.symm NE.out.1) GF.out)
    have FF : Hid (FrS (fun b => b = p) w wf) := Lib.hid (frame_dc B1.out F2.out B3.out GF.out NE.out.2.1 (Nat.le_refl _))
    rw [← hwf]
    refine bodyPost_ret (results_cell_row rfl _ _ w.heap.size 26 _ (0, 0) _ rfl RF.out Try.underlying26 rfl (by kernel_rfl)) rfl ?_
    exact ⟨_, _, _, _, _, _, _, _, _, rfl, FF, Or.inl ⟨x, l', b', HR, WF, Lib.hid (HLS.out.keep (fun a ha => ((GF.out.cell_far a (by have := ha.2; have := B3.out.size; omega) (fun e => by injection e with e; have := ha.1; have := NE.out.2.2; omega)).trans (B3.out.cell ha.2))) (fun b hb => ⟨by have := hb.1; have := NE.out.2.2; omega, by have := hb.2; have := GF.out.size; have := B3.out.size; omega⟩))⟩⟩
  · have W3 := Lib.hid (W2.out.below B3.out)
    have HE := Lib.hid he
    have hne : (e != 0) = true := by rw [bne_iff_ne]; exact he
    clear he
    go_wp2_with fail
    refine (wErr_any W3.out).mono ?_
    rintro e1 w' ⟨rfl, rfl⟩
    go_wp2_with fail
    refine (Null_any _).mono ?_
    rintro e1 w4 ⟨rfl, hb4⟩
    unfold zeroV
    have R4 := Lib.hid (R3.out.below hb4 R3.out.lt)
    have W4 := Lib.hid (W3.out.below hb4)
    have B4 : Hid (Below w2.heap.size w2 w4) := Lib.hid (B3.out.trans (hb4.mono B3.out.size))
    clear hb4
    have r0 := R4.out.cell 0
    have f0 := R4.out.frozen 0
    have r1 := R4.out.cell 1
    have f1 := R4.out.frozen 1
    have r2 := R4.out.cell 2
    have f2 := R4.out.frozen 2
    have r3 := R4.out.cell 3
    have f3 := R4.out.frozen 3
    have r4 := R4.out.cell 4
    have f4 := R4.out.frozen 4
    go_wp2
    obtain ⟨wf, hwf⟩ : ∃ wf, wf = ((((w4.setCell ⟨w.heap.size, 0, none⟩ (.int .i64 0)).setCell ⟨w.heap.size, 1, none⟩ (.int .i64 0)).setCell ⟨w.heap.size, 2, none⟩ (.string ⟨#[]⟩)).setCell ⟨w.heap.size, 3, none⟩ (.slice none 0 0)).setCell ⟨w.heap.size, 4, none⟩ (.slice none 0 0) := ⟨_, rfl⟩
    have GF : Hid (w4.grownBy wf (some w.heap.size)) := Lib.hid (by rw [hwf]; exact grownBy_trans (grownBy_trans (grownBy_trans (grownBy_trans (turned w4 w.heap.size 0 _) (turned _ w.heap.size 1 _)) (turned _ w.heap.size 2 _)) (turned _ w.heap.size 3 _)) (turned _ w.heap.size 4 _))
    have RF : Hid (Bk wf w.heap.size 26 #[.int .i64 0, .int .i64 0, .string ⟨#[]⟩, .slice none 0 0, .slice none 0 0]) := Lib.hid (by rw [hwf]; exact ((((R4.out.put 0 _).put 1 _).put 2 _).put 3 _).put 4 _)
    have WF := Lib.hid (W4.out.other R4.out (by decide) (Ne.symm NE.out.1) GF.out)
    have FF : Hid (FrS (fun b => b = p) w wf) := Lib.hid (frame_dc B1.out F2.out B4.out GF.out NE.out.2.1 (Nat.le_refl _))
    rw [← hwf]
    refine bodyPost_ret (results_cell_row rfl _ _ w.heap.size 26 _ (0, 0) _ rfl RF.out Try.underlying26 rfl (by kernel_rfl)) rfl ?_
    exact ⟨_, _, _, _, _, _, _, _, _, rfl, FF, Or.inr ⟨e, l', HR, HE.out, WF, Lib.hid (zero_lies _ _)⟩⟩

set_option maxRecDepth 100000 in
set_option maxHeartbeats 4000000 in
theorem rDecode_any {w : World} {p : Nat} {l : List UInt8} (hr : RRd w p l 0) (hl : l.length ≤ 4611686018427387904) : Calls Try.prog 51 #[.pointer (some ⟨p, 0, none⟩)] w (DcP RRd (decV 16 0 l) p w) := by
  obtain ⟨w1, hw1⟩ : ∃ w1, w1 = (w.alloc (.cells #[.int .i64 0, .int .i64 0, .string ⟨#[]⟩, .slice none 0 0, .slice none 0 0] 26)).alloc (.cells #[.pointer (some ⟨p, 0, none⟩), .int .i64 0] 93) := ⟨_, rfl⟩
  obtain ⟨q, hqe⟩ : ∃ q, q = w.heap.size + 1 := ⟨_, rfl⟩
  have hb1 : Below w.heap.size w w1 := by rw [hw1]; exact ((Below.refl _ _).alloc (Nat.le_refl _) _).alloc (by simp) _
  have B1 := Lib.hid hb1
  have R1 : Hid (Bk w1 w.heap.size 26 #[.int .i64 0, .int .i64 0, .string ⟨#[]⟩, .slice none 0 0, .slice none 0 0]) := Lib.hid (by rw [hw1]; exact (Bk.new w _ _).alloc _)
  have Q1 : Hid (Bk w1 q 93 #[.pointer (some ⟨p, 0, none⟩), .int .i64 ((0 : Nat) : Int)]) := Lib.hid (by rw [hw1, hqe]; have h := Bk.new (w.alloc (.cells #[.int .i64 0, .int .i64 0, .string ⟨#[]⟩, .slice none 0 0, .slice none 0 0] 26)) 93 #[.pointer (some ⟨p, 0, none⟩), .int .i64 0]; simpa using h)
  have W1 := Lib.hid (hr.below hb1)
  have NE : Hid (w.heap.size ≠ p ∧ w.heap.size ≤ q ∧ w.heap.size < w1.heap.size) := Lib.hid (by have h1 := hr.lt; have h2 := R1.out.lt; exact ⟨by omega, by omega, h2⟩)
  have NQ : Hid (¬ Two p q w.heap.size) := Lib.hid (fun h => by have h1 := hr.lt; rcases h with h | h <;> omega)
  have HV := Lib.hid (rv_any 16 1 (by omega) (by omega) w1 0 l W1.out Q1.out (by omega) hl)
  have HW := Lib.hid (And.intro hw1 hqe)
  clear hr hl hb1 hw1 hqe
  generalize decV 16 0 l = r at *
  go_enter Try.func51, Try.ntmps51
  go_wp2_with fail
  rw [← HW.out.1, ← HW.out.2]
  refine (HV.out).mono ?_
  rintro e1 w2 ⟨k, i, t, A, n, c, A', n', c', b', rfl, F2, Q2, hb', hx⟩
  have R2 := Lib.hid (F2.out.bk R1.out NQ.out)
  go_upto_region 3 with fail
  obtain ⟨w3, hw3⟩ : ∃ w3, w3 = w2.alloc (.cells #[.int .i64 k, .int .i64 i, .string t, .slice A n c, .slice A' n' c'] 26) := ⟨_, rfl⟩
  have B3 : Hid (Below w2.heap.size w2 w3) := Lib.hid (by rw [hw3]; exact below_one _ _)
  have V3 : Hid (Bk w3 w2.heap.size 26 #[.int .i64 k, .int .i64 i, .string t, .slice A n c, .slice A' n' c']) := Lib.hid (by rw [hw3]; exact Bk.new _ _ _)
  have R3 := Lib.hid (R2.out.below B3.out R2.out.lt)
  have Q3 := Lib.hid (Q2.out.below B3.out Q2.out.lt)
  rw [← hw3]
  clear hw3 HW HV
  rcases hx with ⟨x, l', HR, W2, HLS⟩ | ⟨e, l', HR, he, W2⟩
  · have W3 := Lib.hid (W2.out.below B3.out)
    go_wp2_with fail
    refine (good_any true (by decide) W3.out Q3.out).mono ?_
    rintro e1 w' ⟨rfl, rfl⟩
    have v0 := V3.out.cell 0
    change _ = some (Value.int .i64 k) at v0
    have v1 := V3.out.cell 1
    change _ = some (Value.int .i64 i) at v1
    have v2 := V3.out.cell 2
    change _ = some (Value.string t) at v2
    have v3 := V3.out.cell 3
    change _ = some (Value.slice A n c) at v3
    have v4 := V3.out.cell 4
    change _ = some (Value.slice A' n' c') at v4
    have r0 := R3.out.cell 0
    have f0 := R3.out.frozen 0
    have r1 := R3.out.cell 1
    have f1 := R3.out.frozen 1
    have r2 := R3.out.cell 2
    have f2 := R3.out.frozen 2
    have r3 := R3.out.cell 3
    have f3 := R3.out.frozen 3
    have r4 := R3.out.cell 4
    have f4 := R3.out.frozen 4
    go_wp2
    obtain ⟨wf, hwf⟩ : ∃ wf, wf = ((((w3.setCell ⟨w.heap.size, 0, none⟩ (.int .i64 k)).setCell ⟨w.heap.size, 1, none⟩ (.int .i64 i)).setCell ⟨w.heap.size, 2, none⟩ (.string t)).setCell ⟨w.heap.size, 3, none⟩ (.slice A n c)).setCell ⟨w.heap.size, 4, none⟩ (.slice A' n' c') := ⟨_, rfl⟩
    have GF : Hid (w3.grownBy wf (some w.heap.size)) := Lib.hid (by rw [hwf]; exact grownBy_trans (grownBy_trans (grownBy_trans (grownBy_trans (turned w3 w.heap.size 0 _) (turned _ w.heap.size 1 _)) (turned _ w.heap.size 2 _)) (turned _ w.heap.size 3 _)) (turned _ w.heap.size 4 _))
    have RF : Hid (Bk wf w.heap.size 26 #[.int .i64 k, .int .i64 i, .string t, .slice A n c, .slice A' n' c']) := Lib.hid (by rw [hwf]; exact ((((R3.out.put 0 _).put 1 _).put 2 _).put 3 _).put 4 _)
    have WF := Lib.hid (W3.out.other R3.out (by decide) (Ne.symm NE.out.1) GF.out)
    have FF : Hid (FrS (fun b => b = p) w wf) := Lib.hid (frame_dc B1.out F2.out B3.out GF.out NE.out.2.1 (Nat.le_refl _))
    rw [← hwf]
    refine bodyPost_ret (results_cell_row rfl _ _ w.heap.size 26 _ (0, 0) _ rfl RF.out Try.underlying26 rfl (by kernel_rfl)) rfl ?_
    exact ⟨_, _, _, _, _, _, _, _, _, rfl, FF, Or.inl ⟨x, l', b', HR, WF, Lib.hid (HLS.out.keep (fun a ha => ((GF.out.cell_far a (by have := ha.2; have := B3.out.size; omega) (fun e => by injection e with e; have := ha.1; have := NE.out.2.2; omega)).trans (B3.out.cell ha.2))) (fun b hb => ⟨by have := hb.1; have := NE.out.2.2; omega, by have := hb.2; have := GF.out.size; have := B3.out.size; omega⟩))⟩⟩
  · have W3 := Lib.hid (W2.out.below B3.out)
    have HE := Lib.hid he
    have HE0 : Hid ((e == 0) = false) := Lib.hid (by rw [beq_eq_false_iff_ne]; exact he)
    clear he
    go_wp2_with fail
    refine (good_any false HE0.out W3.out Q3.out).mono ?_
    rintro e1 w' ⟨rfl, rfl⟩
    have r0 := R3.out.cell 0
    have f0 := R3.out.frozen 0
    have r1 := R3.out.cell 1
    have f1 := R3.out.frozen 1
    have r2 := R3.out.cell 2
    have f2 := R3.out.frozen 2
    have r3 := R3.out.cell 3
    have f3 := R3.out.frozen 3
    have r4 := R3.out.cell 4
    have f4 := R3.out.frozen 4
    go_wp2
    obtain ⟨wf, hwf⟩ : ∃ wf, wf = ((((w3.setCell ⟨w.heap.size, 0, none⟩ (.int .i64 0)).setCell ⟨w.heap.size, 1, none⟩ (.int .i64 0)).setCell ⟨w.heap.size, 2, none⟩ (.string ⟨#[]⟩)).setCell ⟨w.heap.size, 3, none⟩ (.slice none 0 0)).setCell ⟨w.heap.size, 4, none⟩ (.slice none 0 0) := ⟨_, rfl⟩
    have GF : Hid (w3.grownBy wf (some w.heap.size)) := Lib.hid (by rw [hwf]; exact grownBy_trans (grownBy_trans (grownBy_trans (grownBy_trans (turned w3 w.heap.size 0 _) (turned _ w.heap.size 1 _)) (turned _ w.heap.size 2 _)) (turned _ w.heap.size 3 _)) (turned _ w.heap.size 4 _))
    have RF : Hid (Bk wf w.heap.size 26 #[.int .i64 0, .int .i64 0, .string ⟨#[]⟩, .slice none 0 0, .slice none 0 0]) := Lib.hid (by rw [hwf]; exact ((((R3.out.put 0 _).put 1 _).put 2 _).put 3 _).put 4 _)
    have WF := Lib.hid (W3.out.other R3.out (by decide) (Ne.symm NE.out.1) GF.out)
    have FF : Hid (FrS (fun b => b = p) w wf) := Lib.hid (frame_dc B1.out F2.out B3.out GF.out NE.out.2.1 (Nat.le_refl _))
    rw [← hwf]
    refine bodyPost_ret (results_cell_row rfl _ _ w.heap.size 26 _ (0, 0) _ rfl RF.out Try.underlying26 rfl (by kernel_rfl)) rfl ?_
    exact ⟨_, _, _, _, _, _, _, _, _, rfl, FF, Or.inr ⟨e, l', HR, HE.out, WF, Lib.hid (zero_lies _ _)⟩⟩
end Go.Proofs.Ytidinbeanaifmaa
namespace Go.Proofs.Ytidinbeanaifmaa
open Go.RowKit

section
variable {w : World} {p : Nat}
/-- a reader that Open did not return -/
def Zr (w : World) (p : Nat) : Prop := Bk w p 86 #[.slice none 0 0, .int .i64 0, .bool false]

set_option maxHeartbeats 400000 in
theorem nilErr : Calls Try.prog 52 #[.pointer none] w (Says (.int .i64 1) w) := by
  go_enter Try.func52, Try.ntmps52
  go_wp2
  go_ret
  exact ⟨rfl, rfl⟩
set_option maxHeartbeats 400000 in
theorem zeroErr (h : Zr w p) : Calls Try.prog 52 #[.pointer (some ⟨p, 0, none⟩)] w (Says (.int .i64 1) w) := by
  have h2 : w.cell? ⟨p, 2, none⟩ = some (.bool false) := Bk.cell h 2
  go_enter Try.func52, Try.ntmps52
  go_wp2
  go_ret
  exact ⟨rfl, rfl⟩
theorem nilFail (x : Int) : Calls Try.prog 134 #[.pointer none, .int .i64 x] w (Says (.tuple #[]) w) := by
  go_enter Try.func134, Try.ntmps134
  go_wp2_with (go_at_call 52; refine nilErr.mono ?_; rintro e w' ⟨rfl, rfl⟩)
  go_end0
  exact ⟨rfl, rfl⟩
theorem zeroFail (x : Int) (h : Zr w p) : Calls Try.prog 134 #[.pointer (some ⟨p, 0, none⟩), .int .i64 x] w (Says (.tuple #[]) w) := by
  have H := Lib.hid h
  clear h
  go_enter Try.func134, Try.ntmps134
  go_wp2_with (go_at_call 52; refine (zeroErr H.out).mono ?_; rintro e w' ⟨rfl, rfl⟩)
  go_end0
  exact ⟨rfl, rfl⟩
theorem nilLeft : Calls Try.prog 54 #[.pointer none] w (Says (.int .i64 0) w) := by
  go_enter Try.func54, Try.ntmps54
  go_wp2_with (go_at_call 52; refine nilErr.mono ?_; rintro e w' ⟨rfl, rfl⟩)
  go_ret
  exact ⟨rfl, rfl⟩
theorem zeroLeft (h : Zr w p) : Calls Try.prog 54 #[.pointer (some ⟨p, 0, none⟩)] w (Says (.int .i64 0) w) := by
  have H := Lib.hid h
  clear h
  go_enter Try.func54, Try.ntmps54
  go_wp2_with (go_at_call 52; refine (zeroErr H.out).mono ?_; rintro e w' ⟨rfl, rfl⟩)
  go_ret
  exact ⟨rfl, rfl⟩
theorem nilInt (low high : Int) : Calls Try.prog 135 #[.pointer none, .int .i64 low, .int .i64 high] w (Says (.int .i64 0) w) := by
  go_enter Try.func135, Try.ntmps135
  go_wp2_with (go_at_call 52; refine nilErr.mono ?_; rintro e w' ⟨rfl, rfl⟩)
  go_ret
  exact ⟨rfl, rfl⟩
theorem zeroInt (low high : Int) (h : Zr w p) : Calls Try.prog 135 #[.pointer (some ⟨p, 0, none⟩), .int .i64 low, .int .i64 high] w (Says (.int .i64 0) w) := by
  have H := Lib.hid h
  clear h
  go_enter Try.func135, Try.ntmps135
  go_wp2_with (go_at_call 52; refine (zeroErr H.out).mono ?_; rintro e w' ⟨rfl, rfl⟩)
  go_ret
  exact ⟨rfl, rfl⟩
theorem zeroText (most : Int) (h : Zr w p) : Calls Try.prog 136 #[.pointer (some ⟨p, 0, none⟩), .int .i64 most] w (Says (.string ⟨#[]⟩) w) := by
  have H := Lib.hid h
  clear h
  go_enter Try.func136, Try.ntmps136
  go_wp2_with (first | (go_at_call 135; refine (zeroInt _ _ H.out).mono ?_; rintro e w' ⟨rfl, rfl⟩) | (go_at_call 54; refine (zeroLeft H.out).mono ?_; rintro e w' ⟨rfl, rfl⟩) | (go_at_call 52; refine (zeroErr H.out).mono ?_; rintro e w' ⟨rfl, rfl⟩))
  go_ret
  exact ⟨rfl, rfl⟩
end

/-- nothing from block B on has turned -/
def Above (B : Nat) (w w' : World) : Prop := ∀ k, B ≤ k → w'.heap[k]? = w.heap[k]?

theorem own_above {w w' : World} {base : Nat} {e : TypeId} {size n : Nat} {v : Value} {xs : List Value} (h : w.ownsRow base e size v n xs) (ha : Above base w w') : w'.ownsRow base e size v n xs := by
  refine ⟨h.1, ?_⟩
  rcases h.2 with h0 | ⟨g, cap, cur, hv, hb, hg, r⟩
  · exact .inl h0
  · exact .inr ⟨g, cap, cur, hv, hb, (ha g hb).trans hg, r⟩

set_option maxHeartbeats 400000 in
theorem wOpen_far {w : World} {B : Nat} {A : Option Addr} {n c : Nat} {l : List UInt8} (hr : Rb w B A n l) (hB : B ≤ w.heap.size) (hn : n ≤ 70368744177000) :
    Calls Try.prog 48 #[.slice A n c] w fun e w' => ∃ p, e = .returned (.pointer (some ⟨p, 0, none⟩)) ∧ w.heap.size ≤ p ∧ Below w.heap.size w w' ∧ ∀ w'', Above w.heap.size w' w'' → WRd w'' p l 0 := by
  have HR := Lib.hid hr
  clear hr
  go_enter Try.func48, Try.ntmps48
  go_wp2_with fail
  refine (copyOf_any A n c l 0 B w HR.out hB (by omega) (by omega) (by omega)).mono ?_
  rintro e w1 ⟨v, rfl, hown, hb⟩
  obtain ⟨A', c', rfl, hnc, hcm⟩ := own_form hown
  unfold maxLen at hcm
  have H1 := Lib.hid hown
  have H2 := Lib.hid hb
  clear hown hb
  go_wp2
  go_ret
  refine ⟨_, rfl, H2.out.size, H2.out.alloc H2.out.size _, fun w'' ha => ⟨A', n, c', l, (ha _ H2.out.size).trans (Bk.new _ _ _), ?_, hnc, by omega, fun _ => rfl⟩⟩
  exact Ow.of_own (own_above (H1.out.alloc _) ha)

/-- an owned row, its head and cells -/
theorem own_stored {w : World} {base : Nat} {e : TypeId} {A : Option Addr} {n c k : Nat} {xs : List Value} (h : w.ownsRow base e 1 (.slice A n c) n xs) (hk : k < n) (u : Value) :
    ∃ g old, A = some ⟨g, 0, none⟩ ∧ base ≤ g ∧ w.cell? ⟨g, k, none⟩ = some old ∧ w.frozen? ⟨g, k, none⟩ = false ∧ ∃ ys, (w.setCell ⟨g, k, none⟩ u).ownsRow base e 1 (.slice A n c) n ys := by
  have hlen := h.1
  rcases h.2 with ⟨_, rfl⟩ | ⟨g, cap, cur, hv, hb, _⟩
  · omega
  · injection hv with hA hn hc
    subst hA hc
    have hcell := h.cellAt k (by omega)
    have hx : xs[k]? = some xs[k] := List.getElem?_eq_getElem (by omega)
    exact ⟨g, _, rfl, hb, by rw [hcell, hx], h.frozenAt k, _, (h.stored k u).1⟩

end Go.Proofs.Ytidinbeanaifmaa
