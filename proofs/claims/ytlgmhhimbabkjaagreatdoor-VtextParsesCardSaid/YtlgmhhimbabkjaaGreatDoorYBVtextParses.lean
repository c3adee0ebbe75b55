/-
  VtextParses returns true for every input, and its arguments read afterwards as they read before: what it leans on.
-/
import Derived.Test.YtlgmhhimbabkjaaGreatDoorYAVtextParses
import Derived.Deep.AppendLies
namespace Go.Proofs.YtlgmhhimbabkjaaGreatDoor
open Go.RowKit

/-- which blocks there are, and that they are apart -/
def Low (w5 : World) (p vb b2 b3 : Nat) : Prop := p < w5.heap.size ∧ vb < w5.heap.size ∧ b2 < w5.heap.size ∧ b3 < w5.heap.size ∧ p ≠ vb ∧ b2 ≠ p ∧ b3 ≠ p ∧ b2 ≠ vb ∧ b3 ≠ vb ∧ vb ≠ 2 ∧ vb ≠ 3 ∧ 2 < w5.heap.size ∧ 3 < w5.heap.size
theorem Bk.trans' {w w' : World} {S : Nat → Prop} {g : Nat} {t : TypeId} {cs : Array Value} (h : Bk w g t cs) (f : FrS S w w') (hg : ¬ S g) : Bk w' g t cs := f.bk h hg
/-- a list that is being read: the parser, the boxes, the items so far in a row of the call's own (what was made behind the world w5) -/
structure LSt (w5 : World) (p vb b2 b3 : Nat) (s : ByteArray) (d : Int) (st : List VT × Nat) (i : Nat) (w : World) : Prop where
  fr : FrS (Two p vb) w5 w
  ps : Ps w p s i st.2
  ev : Ev w p
  bp : Bk w b2 59 #[.pointer (some ⟨p, 0, none⟩)]
  bd : Bk w b3 3 #[.int .i64 d]
  low : Low w5 p vb b2 b3
  row : ∃ A c cs, Bk w vb 25 #[.int .i64 4, .int .i64 0, .string ⟨#[]⟩, .slice A st.1.length c, .slice none 0 0] ∧
    w.ownsRow w5.heap.size 25 5 (.slice A st.1.length c) st.1.length cs ∧ LiesC w (Off w5.heap.size w (.slice A st.1.length c)) st.1 cs
/-- its end -/
def LEnd (r : PR (List VT × Nat)) (w5 : World) (p vb b2 b3 : Nat) (s : ByteArray) (d : Int) (e : Ending) (w' : World) : Prop :=
  (∃ st j, Hid (r = .ok st j) ∧ e = .returned (.tuple #[]) ∧ Hid (LSt w5 p vb b2 b3 s d st j w')) ∨ ∃ j c, Hid (r = .err j c) ∧ e = fault j c ∧ Hid (FrS (Two p vb) w5 w')
theorem FrS.two {w w' : World} {p vb : Nat} (h : FrS (One p) w w') : FrS (Two p vb) w w' := ⟨h.os, h.tape, h.output, h.size, fun b hb hn => h.block b hb (fun e => hn (.inl e))⟩
section
variable {w5 w w' : World} {p vb b2 b3 : Nat} {s : ByteArray} {d : Int} {i : Nat} {st : List VT × Nat}
theorem LSt.move (h : LSt w5 p vb b2 b3 s d st i w) {j : Nat} (hp : Ps w' p s j st.2) (hf : FrS (One p) w w') : LSt w5 p vb b2 b3 s d st j w' := by
  obtain ⟨h1, h2, h3, h4, h5, ⟨l1, l2, l3, l4, l5, l6, l7, l8, l9, l10, l11⟩, A, c, cs, r1, r2, r3⟩ := h
  refine ⟨h1.trans hf.two, hp, h3.one hf, hf.bk h4 (fun e => l6 e), hf.bk h5 (fun e => l7 e), ⟨l1, l2, l3, l4, l5, l6, l7, l8, l9, l10, l11⟩, A, c, cs, hf.bk r1 (fun e => l5 e.symm), own_frs r2 hf (fun b e => by rw [show b = p from e]; exact l1), ?_⟩
  exact r3.keep (fun q hq => hf.cell hq.2.1 (fun e => by have := hq.1; have e2 : q.block = p := e; omega)) (fun b hb => ⟨hb.1, Nat.lt_of_lt_of_le hb.2.1 hf.size, hb.2.2⟩)
theorem LSt.dr (h : LSt w5 p vb b2 b3 s d st i w) (hd : Dr w w') : LSt w5 p vb b2 b3 s d st i w' := h.move (h.ps.dr hd) hd.frs
theorem list_short {k : Nat} (h : LSt w5 p vb b2 b3 s d st (skip s.data.toList i) w) (hd : Dr w w') (he : s.size ≤ skip s.data.toList i) : LEnd (elemsP (elL (valP s.data.toList k)) 93 s.data.toList i st) w5 p vb b2 b3 s d (fault (skip s.data.toList i) 4) w' :=
  .inr ⟨_, _, Lib.hid (by unfold elemsP; rw [List.getElem?_eq_none (by rw [list_len]; exact he)]), rfl, Lib.hid (h.fr.trans hd.frs)⟩
theorem elems_none {σ : Type} {el : σ → Nat → PR σ} {st : σ} {c e : UInt8} {l : List UInt8} {i : Nat} (h : l[skip l i]? = some c) (he : c = e) : elemsP el e l i st = .ok st (skip l i + 1) := by
  subst he
  unfold elemsP
  rw [h]
  exact if_pos rfl
theorem elems_some {σ : Type} {el : σ → Nat → PR σ} {st : σ} {c e : UInt8} {l : List UInt8} {i : Nat} (h : l[skip l i]? = some c) (he : c ≠ e) : elemsP el e l i st = moreP el e l (l.length + 1) (skip l i) st := by
  unfold elemsP
  rw [h]
  exact if_neg he
theorem moreP_succ {σ : Type} (el : σ → Nat → PR σ) (e : UInt8) (l : List UInt8) (f i : Nat) (s : σ) :
    moreP el e l (f + 1) i s = (el s (skip l i)).bind fun s2 j => (tkP (fun x => x == 44 || x == e) l (skip l j)).bind fun c j2 => if c = 44 then moreP el e l f j2 s2 else .ok s2 j2 := rfl
theorem elL_len {val : Nat → Nat → PR (VT × Nat)} {st st2 : List VT × Nat} {i j : Nat} (h : elL val st i = .ok st2 j) : st2.1.length = st.1.length + 1 := by
  unfold elL at h
  cases hv : val i st.2 with
  | err a c => rw [hv] at h; cases h
  | ok x j2 =>
    rw [hv, PR.bind_ok] at h
    injection h with h1 h2
    rw [← h1]
    simp
theorem elL_mono2 {val : Nat → Nat → PR (VT × Nat)} (hv : ∀ i n, (val i n).Mono i) (s : List VT × Nat) (i : Nat) : (elL val s i).Mono i := elL_mono hv s i
end


/-- the parser's value, called in a world W in which blocks were made behind wr -/
def ValOk (r : PR (VT × Nat)) (p : Nat) (s : ByteArray) (wr W : World) (e : Ending) (wB : World) : Prop :=
  ∃ (k i : Int) (t : ByteArray) (A : Option Addr) (m c : Nat) (A' : Option Addr) (m' c' : Nat) (x : VT) (n j : Nat), e = .returned (.agg #[.int .i64 k, .int .i64 i, .string t, .slice A m c, .slice A' m' c']) ∧
    Hid (r = .ok (x, n) j) ∧ Hid (FrS (One p) wr wB) ∧ Hid (W.heap.size ≤ wB.heap.size ∧ ∀ b, wr.heap.size ≤ b → b < W.heap.size → wB.heap[b]? = W.heap[b]?) ∧
    Hid (Lies wB (New wr wB) x (.agg #[.int .i64 k, .int .i64 i, .string t, .slice A m c, .slice A' m' c'])) ∧ Hid (Ps wB p s j n)
def ValBad (r : PR (VT × Nat)) (p : Nat) (wr : World) (e : Ending) (wB : World) : Prop := ∃ j c, Hid (r = .err j c) ∧ e = fault j c ∧ Hid (FrS (One p) wr wB)
theorem ValR.after {r : PR (VT × Nat)} {p : Nat} {s : ByteArray} {wr W w' : World} {e : Ending} (h : ValR r p s W e w') (hb : Below wr.heap.size wr W) (hp : p < wr.heap.size) : ValOk r p s wr W e w' ∨ ValBad r p wr e w' := by
  have fr : FrS (One p) W w' → FrS (One p) wr w' := fun f => (FrS.of_below hb).trans f
  rcases h with ⟨k, i, t, A, m, c, A', m', c', x, n, j, h1, h2, h3, h4, h5⟩ | ⟨j, c, h1, h2, h3⟩
  · exact .inl ⟨k, i, t, A, m, c, A', m', c', x, n, j, h1, h2, Lib.hid (fr h5.out), Lib.hid ⟨h5.out.size, fun b hb1 hb2 => h5.out.block b hb2 (fun e => by have e2 : b = p := e; omega)⟩, Lib.hid (h3.out.keep (fun _ _ => rfl) (fun b hb1 => ⟨Nat.le_trans hb.size hb1.1, hb1.2⟩)), h4⟩
  · exact .inr ⟨j, c, h1, h2, Lib.hid (fr h3.out)⟩
theorem lst_step {w5 w wB w1 wf : World} {p vb b2 b3 g2 m n2 j2 c cap : Nat} {s : ByteArray} {d : Int} {A : Option Addr} {its : List VT} {x : VT} {cs : List Value} {G cur : Array Value}
    {k2 i2 : Int} {t2 : ByteArray} {E E' : Option Addr} {n3 c3 n4 c4 : Nat}
    (low : Low w5 p vb b2 b3) (hf : FrS (Two p vb) w5 w) (hev : Ev w p) (hbp : Bk w b2 59 #[.pointer (some ⟨p, 0, none⟩)]) (hbd : Bk w b3 3 #[.int .i64 d]) (hg : Bk w vb 25 G)
    (ho : w.ownsRow w5.heap.size 25 5 (.slice A m c) m cs) (hl : LiesC w (Off w5.heap.size w (.slice A m c)) its cs) (hfb : FrS (One p) w wB)
    (hx : Lies wB (New w wB) x (.agg #[.int .i64 k2, .int .i64 i2, .string t2, .slice E n3 c3, .slice E' n4 c4])) (hp : Ps wB p s j2 n2)
    (hgw : wB.grownBy w1 (Value.slice A m c).ownBlock) (hat : (Value.slice A m c).ownBlock = some g2 ∨ wB.heap.size ≤ g2)
    (hla : Last w1 wf vb g2 #[.int .i64 4, .int .i64 0, .string ⟨#[]⟩, .slice (some ⟨g2, 0, none⟩) (m + 1) cap, .slice none 0 0] (setV cur (m * 5) (.int .i64 k2) (.int .i64 i2) (.string t2) (.slice E n3 c3) (.slice E' n4 c4)))
    (hw5 : ∀ (W : World) (a b c d e : Value), Bk W g2 25 (setV cur (m * 5) a b c d e) → W.ownsRow w5.heap.size 25 5 (.slice (some ⟨g2, 0, none⟩) (m + 1) cap) (m + 1) (cs ++ [a, b, c, d, e]))
    (hm : m = its.length) : LSt w5 p vb b2 b3 s d (its ++ [x], n2) j2 wf := by
  obtain ⟨z1, z2, z3, z4, far, hgf, hcf⟩ := hla
  have hown := ho.lt
  have s1 := hf.size
  have s2 := hfb.size
  have s3 := hgw.size
  have fw : FrS (fun b => b = vb ∨ (Value.slice A m c).ownBlock = some b) wB wf :=
    ⟨z1.trans hgw.os, z2.trans hgw.tape, z3.trans hgw.output, by omega, fun b hb hn => (far b (fun e => hn (Or.inl e)) (fun e => by
      rcases hat with h | h
      · exact hn (Or.inr (by rw [h, e]))
      · omega)).trans (hgw.block b hb (fun e => hn (Or.inr e.symm)))⟩
  have nS : ∀ b, b < w5.heap.size → b ≠ vb → ¬ (b = vb ∨ (Value.slice A m c).ownBlock = some b) := fun b hb hne h => by
    rcases h with h | h
    · exact hne h
    · have := (hown b h).1; omega
  have fall : FrS (Two p vb) w5 wf := (hf.trans hfb.two).next fw (fun i hi h => by
    rcases h with h | h
    · exact .inr h
    · have := (hown i h).1; omega)
  have hla : (its ++ [x]).length = m + 1 := by rw [List.length_append, hm]; rfl
  refine ⟨fall, hp.frs fw (nS p low.1 low.2.2.2.2.1), (hev.one hfb).frs fw (fun b hb => ?_), (hfb.bk hbp (fun e => low.2.2.2.2.2.1 e)).trans' fw (nS b2 low.2.2.1 low.2.2.2.2.2.2.2.1), (hfb.bk hbd (fun e => low.2.2.2.2.2.2.1 e)).trans' fw (nS b3 low.2.2.2.1 low.2.2.2.2.2.2.2.2.1), low, some ⟨g2, 0, none⟩, cap, _, by rw [hla]; exact hgf, by rw [hla]; exact hw5 wf _ _ _ _ _ hcf, ?_⟩
  · rcases hb with h | h
    · subst h; exact ⟨low.2.2.2.2.2.2.2.2.2.1, low.2.2.2.2.2.2.2.2.2.2.1⟩
    · have := (hown b h).1
      have l1 := low.2.2.2.2.2.2.2.2.2.2.2.1
      have l2 := low.2.2.2.2.2.2.2.2.2.2.2.2
      exact ⟨by omega, by omega⟩
  · rw [hla]
    refine LiesC.append (hl.keep (fun b hb => ?_) (fun b hb => ?_)) ⟨_, _, _, _, _, [], rfl, hx.keep (fun b hb => ?_) (fun b hb => ?_), rfl⟩
    · obtain ⟨b1, b2, b3⟩ := hb
      exact (fw.cell (Nat.lt_of_lt_of_le b2 s2) (fun h => by
        rcases h with h | h
        · have := low.2.1; omega
        · exact b3 h)).trans (hfb.cell b2 (fun h => by have e : b.block = p := h; have := low.1; omega))
    · obtain ⟨b1, b2, b3⟩ := hb
      refine ⟨b1, by have := fw.size; omega, fun e => ?_⟩
      have e' : g2 = b := by simpa [Value.ownBlock] using e
      rcases hat with h | h
      · exact b3 (by rw [h, e'])
      · omega
    · obtain ⟨b1, b2⟩ := hb
      exact fw.cell b2 (fun h => by
        rcases h with h | h
        · have := low.2.1; omega
        · have := (hown _ h).2; omega)
    · obtain ⟨b1, b2⟩ := hb
      refine ⟨by omega, by have := fw.size; omega, fun e => ?_⟩
      have e' : g2 = b := by simpa [Value.ownBlock] using e
      rcases hat with h | h
      · have := (hown _ h).2; omega
      · omega

set_option maxRecDepth 100000 in
set_option maxHeartbeats 16000000 in
theorem list1_any {w5 w : World} {p vb b2 b3 : Nat} {s : ByteArray} {d : Int} {k i : Nat} {st : List VT × Nat} (hv : ValC k) (hd : d + 1 + (k : Int) = 17) (hd1 : 0 ≤ d)
    (h : LSt w5 p vb b2 b3 s d st i w) (hl : st.1.length ≤ 1000001) :
    Calls Tryz.prog 71 #[.pointer (some ⟨vb, 0, none⟩), .pointer (some ⟨b2, 0, none⟩), .pointer (some ⟨b3, 0, none⟩)] w (LEnd (elL (valP s.data.toList k) st i) w5 p vb b2 b3 s d) := by
  obtain ⟨iV, hiV, hzV, hsV, hbV⟩ := info_parts Tryz.infoV
  obtain ⟨its, n⟩ := st
  have HH := Lib.hid h
  obtain ⟨AI, cI, cs, r1, r2, r3⟩ := h.row
  simp only at r1 r2 r3 hl
  obtain ⟨m, hm⟩ : ∃ m, m = its.length := ⟨_, rfl⟩
  rw [← hm] at r1 r2 r3 hl
  have HM := Lib.hid hm
  have HG := Lib.hid r1
  have HO := Lib.hid r2
  have HLC := Lib.hid r3
  have hlow := h.low
  have hdw : IntKind.i64.wrap (d + 1) = d + 1 := by rw [IntKind.wrap_i64]; omega
  have SZ : Hid (vb < w5.heap.size ∧ p < w5.heap.size ∧ w5.heap.size ≤ w.heap.size) := Lib.hid ⟨hlow.2.1, hlow.1, h.fr.size⟩
  have HCV : Hid (∀ W, Below w.heap.size w W → Calls Tryz.prog 24 #[.pointer (some ⟨p, 0, none⟩), .int .i64 (d + 1)] W fun e w' => ValOk (valP s.data.toList k i n) p s w W e w' ∨ ValBad (valP s.data.toList k i n) p w e w') := Lib.hid (fun W hb =>
    (hv W p s i n (d + 1) hd (by omega) (h.ps.frs (FrS.of_below (S := fun _ => False) hb) (fun h => h)) (h.ev.one (FrS.of_below hb))).mono (fun _ _ hr => hr.after hb h.ps.1.lt))
  have HBAD : Hid (∀ jz cz wz, Hid (valP s.data.toList k i n = .err jz cz) → Hid (FrS (One p) w wz) → LEnd (elL (valP s.data.toList k) (its, n) i) w5 p vb b2 b3 s d (fault jz cz) wz) := Lib.hid (fun jz cz wz hr hf => .inr ⟨jz, cz, Lib.hid (by unfold elL; simp only; rw [hr.out]; rfl), rfl, Lib.hid (h.fr.trans hf.out.two)⟩)
  have HOK : Hid (∀ x n2 j2, valP s.data.toList k i n = .ok (x, n2) j2 → elL (valP s.data.toList k) (its, n) i = .ok (its ++ [x], n2) j2) := Lib.hid (fun x n2 j2 hr => by unfold elL; simp only; rw [hr]; rfl)
  have g3 := HG.out.cell 3
  change _ = some (Value.slice AI m cI) at g3
  have fg := HG.out.frozen 3
  have cp := h.bp.cell 0
  change _ = some (Value.pointer (some ⟨p, 0, none⟩)) at cp
  have cd := h.bd.cell 0
  change _ = some (Value.int .i64 d) at cd
  have LTS : Hid (vb < w.heap.size ∧ p < w.heap.size ∧ w5.heap.size ≤ w.heap.size) := Lib.hid (by have := SZ.out; exact ⟨by omega, by omega, by omega⟩)
  have ltg := LTS.out.1
  have ltp : b2 < w.heap.size := h.bp.lt
  have ltd : b3 < w.heap.size := h.bd.lt
  have HOS : Hid (∀ W, FrS (One p) w W → W.ownsRow w5.heap.size 25 5 (.slice AI m cI) m cs) := Lib.hid (fun W h => own_frs HO.out h (fun b e => by rw [show b = p from e]; exact SZ.out.2.1))
  have GIN : Hid (¬ One p vb) := Lib.hid (fun e => hlow.2.2.2.2.1 e.symm)
  have LIM : Hid ((m + 1) * 80 ≤ 140737488355328) := Lib.hid (by omega)
  have HI5 := Lib.hid (And.intro hiV (And.intro hzV (And.intro hsV hbV)))
  have HNG : Hid ((Value.slice AI m cI).ownBlock ≠ some vb) := Lib.hid (fun e => by have := (HO.out.lt vb e).1; have := SZ.out; omega)
  have jj : (m : Int) < (m : Int) + 1 := by omega
  clear hv h r1 r2 r3 hm hlow hiV hzV hsV hbV hd
  go_enter Tryz.func71, Tryz.ntmps71
  go_region_law (first  
  | (refine step_append_lies _ (by rfl) _ _ _ (by rfl) w5.heap.size 25 iV _ 5 80 Tryz.underlying22 HI5.out.1 HI5.out.2.1 HI5.out.2.2.1 HI5.out.2.2.2 rfl (by omega) (.slice AI m cI) m cs (by rfl) (by first | exact (HOS.out _ HFB.out).alloc _ | exact ((HOS.out _ HFB.out).alloc _).drew | exact (HOS.out _ HFB.out).drew.alloc _) ⟨wB.heap.size, 0, none⟩ 1 1 [.int .i64 0, .int .i64 0, .string ⟨#[]⟩, .slice none 0 0, .slice none 0 0] (by rfl) (by rfl) (World.news_of_block (cs := #[.int .i64 0, .int .i64 0, .string ⟨#[]⟩, .slice none 0 0, .slice none 0 0]) (t := 25) (fr := (0, 0)) (heap_alloc_new wB _)) (by simp [Value.oneCell']) (by omega) (by have := LIM.out; unfold maxLen; omega) LIM.out (by have := HFB.out.size; have := LTS.out; simp; omega) (wB.heap.size + 1) (by simp) ?_; intro g2 cap w1 hown1 hgrow hat hlt1; have HGW : Hid (wB.grownBy w1 (Value.slice AI m cI).ownBlock) := Lib.hid (grownBy_trans (World.grownBy_alloc wB _ _) (by exact hgrow)); have HAT : Hid ((Value.slice AI m cI).ownBlock = some g2 ∨ wB.heap.size ≤ g2) := Lib.hid (by rcases hat with h | h; exact Or.inl h; exact Or.inr (by omega)); clear hat hgrow; obtain ⟨cur, hBK, y0, y1, y2, y3, y4, hW5⟩ := own_last hown1; have HW5 := Lib.hid hW5; have q0 := (hBK.cell (m * 5)).trans y0; have q1 := (hBK.cell (m * 5 + 1)).trans y1; have q2 := (hBK.cell (m * 5 + 2)).trans y2; have q3 := (hBK.cell (m * 5 + 3)).trans y3; have q4 := (hBK.cell (m * 5 + 4)).trans y4; have f0 := hBK.frozen (m * 5); have f1 := hBK.frozen (m * 5 + 1); have f2 := hBK.frozen (m * 5 + 2); have f3 := hBK.frozen (m * 5 + 3); have f4 := hBK.frozen (m * 5 + 4); have HBK := Lib.hid hBK; clear hBK y0 y1 y2 y3 y4 hW5 hown1; have HG1 : Hid (Bk w1 vb 25 #[.int .i64 4, .int .i64 0, .string ⟨#[]⟩, .slice AI m cI, .slice none 0 0]) := Lib.hid ((HFB.out.bk HG.out GIN.out).grown HGW.out (Ne.symm HNG.out)); have gg3 := HG1.out.cell 3; change _ = some (Value.slice AI m cI) at gg3; have gf3 := HG1.out.frozen 3; have ne1 : g2 ≠ vb := (fun e => by rcases HAT.out with h | h; exact HNG.out (by rw [h, e]); omega); have ne2 : vb ≠ g2 := Ne.symm ne1)
    | (refine step_append_lies _ (by rfl) _ _ _ (by rfl) w5.heap.size 25 iV _ 5 80 Tryz.underlying22 HI5.out.1 HI5.out.2.1 HI5.out.2.2.1 HI5.out.2.2.2 rfl (by omega) (.slice AI m cI) m cs (by rfl) (by first | exact HOS.out _ HFB.out | exact (HOS.out _ HFB.out).drew) ⟨w.heap.size, 0, none⟩ 1 1 [.int .i64 0, .int .i64 0, .string ⟨#[]⟩, .slice none 0 0, .slice none 0 0] (by rfl) (by rfl) (World.news_of_block (cs := #[.int .i64 0, .int .i64 0, .string ⟨#[]⟩, .slice none 0 0, .slice none 0 0]) (t := 25) (fr := (0, 0)) ((HMB.out.2 w.heap.size (Nat.le_refl _) (by simp)).trans (by first | exact heap_alloc_new w _ | exact heap_alloc_new w.drew _))) (by simp [Value.oneCell']) (by omega) (by have := LIM.out; unfold maxLen; omega) LIM.out (by have := HFB.out.size; have := LTS.out; simp; omega) wB.heap.size (by simp) ?_; intro g2 cap w1 hown1 hgrow hat hlt1; have HGW : Hid (wB.grownBy w1 (Value.slice AI m cI).ownBlock) := Lib.hid (by exact hgrow); have HAT : Hid ((Value.slice AI m cI).ownBlock = some g2 ∨ wB.heap.size ≤ g2) := Lib.hid (by rcases hat with h | h; exact Or.inl h; exact Or.inr (by omega)); clear hat hgrow; obtain ⟨cur, hBK, y0, y1, y2, y3, y4, hW5⟩ := own_last hown1; have HW5 := Lib.hid hW5; have q0 := (hBK.cell (m * 5)).trans y0; have q1 := (hBK.cell (m * 5 + 1)).trans y1; have q2 := (hBK.cell (m * 5 + 2)).trans y2; have q3 := (hBK.cell (m * 5 + 3)).trans y3; have q4 := (hBK.cell (m * 5 + 4)).trans y4; have f0 := hBK.frozen (m * 5); have f1 := hBK.frozen (m * 5 + 1); have f2 := hBK.frozen (m * 5 + 2); have f3 := hBK.frozen (m * 5 + 3); have f4 := hBK.frozen (m * 5 + 4); have HBK := Lib.hid hBK; clear hBK y0 y1 y2 y3 y4 hW5 hown1; have HG1 : Hid (Bk w1 vb 25 #[.int .i64 4, .int .i64 0, .string ⟨#[]⟩, .slice AI m cI, .slice none 0 0]) := Lib.hid ((HFB.out.bk HG.out GIN.out).grown HGW.out (Ne.symm HNG.out)); have gg3 := HG1.out.cell 3; change _ = some (Value.slice AI m cI) at gg3; have gf3 := HG1.out.frozen 3; have ne1 : g2 ≠ vb := (fun e => by rcases HAT.out with h | h; exact HNG.out (by rw [h, e]); omega); have ne2 : vb ≠ g2 := Ne.symm ne1)
    | (go_simp; go_at_call 24; refine two_law (HCV.out _ (by first | exact Below.refl _ _ | exact (Below.refl _ _).drew | exact ⟨rfl, rfl, rfl, by simp, fun b hb => Below.heap_alloc _ _ b hb⟩)) (by rintro _ wz ⟨jz, cz, hrz, rfl, hfz⟩; exact ⟨rfl, HBAD.out _ _ _ hrz hfz⟩) ?_; rintro _ wB ⟨k2, i2, t2, E, n3, c3, E', n4, c4, x, n2, j2, rfl, HRX, HFB, HMB, HLX, HPB⟩; have gB3 := (HFB.out.cell (p := ⟨vb, 3, none⟩) ltg GIN.out).trans g3; have fgB := (HFB.out.bk HG.out GIN.out).frozen 3; have ltB : vb < wB.heap.size := Nat.lt_of_lt_of_le ltg HFB.out.size))
  all_goals (
    first
    | (obtain ⟨wf, hwf, HLA⟩ : ∃ wf, wf = ((((((w1).setCell ⟨g2, m * 5, none⟩ (.int .i64 k2)).setCell ⟨g2, m * 5 + 1, none⟩ (.int .i64 i2)).setCell ⟨g2, m * 5 + 2, none⟩ (.string t2)).setCell ⟨g2, m * 5 + 3, none⟩ (.slice E n3 c3)).setCell ⟨g2, m * 5 + 4, none⟩ (.slice E' n4 c4)).setCell ⟨vb, 3, none⟩ (.slice (some ⟨g2, 0, none⟩) (m + 1) cap) ∧ Hid (Last w1 wf vb g2 #[.int .i64 4, .int .i64 0, .string ⟨#[]⟩, (.slice (some ⟨g2, 0, none⟩) (m + 1) cap), .slice none 0 0] (setV cur (m * 5) (.int .i64 k2) (.int .i64 i2) (.string t2) (.slice E n3 c3) (.slice E' n4 c4))) := ⟨_, rfl, Lib.hid (last_a HG1.out HBK.out ne1)⟩; rw [← hwf])
    | (obtain ⟨wf, hwf, HLA⟩ : ∃ wf, wf = (((((w1.setCell ⟨vb, 3, none⟩ (.slice (some ⟨g2, 0, none⟩) (m + 1) cap)).setCell ⟨g2, m * 5, none⟩ (.int .i64 k2)).setCell ⟨g2, m * 5 + 1, none⟩ (.int .i64 i2)).setCell ⟨g2, m * 5 + 2, none⟩ (.string t2)).setCell ⟨g2, m * 5 + 3, none⟩ (.slice E n3 c3)).setCell ⟨g2, m * 5 + 4, none⟩ (.slice E' n4 c4) ∧ Hid (Last w1 wf vb g2 #[.int .i64 4, .int .i64 0, .string ⟨#[]⟩, (.slice (some ⟨g2, 0, none⟩) (m + 1) cap), .slice none 0 0] (setV cur (m * 5) (.int .i64 k2) (.int .i64 i2) (.string t2) (.slice E n3 c3) (.slice E' n4 c4))) := ⟨_, rfl, Lib.hid (last_b HG1.out HBK.out ne1)⟩; rw [← hwf])
    have ST := Lib.hid (lst_step HH.out.low HH.out.fr HH.out.ev HH.out.bp HH.out.bd HG.out HO.out HLC.out HFB.out HLX.out HPB.out HGW.out HAT.out HLA.out HW5.out HM.out)
    have HFIN := Lib.hid (HOK.out _ _ _ HRX.out)
    clear hwf HLA q0 q1 q2 q3 q4 f0 f1 f2 f3 f4 HG1 gg3 gf3 ne1 ne2 HBK HW5 HAT HGW gB3 fgB ltB HLX HPB HMB HFB HNG HI5 LIM GIN HOS
    go_wp2
    refine bodyPost_end (results_none rfl _ _ _) rfl ?_
    exact .inl ⟨_, j2, HFIN, rfl, ST⟩)

set_option maxRecDepth 100000 in
set_option maxHeartbeats 4000000 in
theorem elements_list {w5 w : World} {p vb b2 b3 : Nat} {s : ByteArray} {d : Int} {k i : Nat} {st : List VT × Nat} (hv : ValC k) (hd : d + 1 + (k : Int) = 17) (hd1 : 0 ≤ d)
    (h : LSt w5 p vb b2 b3 s d st i w) (hl0 : st.1.length = 0) :
    Calls Tryz.prog 70 #[.pointer (some ⟨p, 0, none⟩), .string ⟨#[93]⟩, .func (.func 71) #[] #[.pointer (some ⟨vb, 0, none⟩), .pointer (some ⟨b2, 0, none⟩), .pointer (some ⟨b3, 0, none⟩)]] w
      (LEnd (elemsP (elL (valP s.data.toList k)) 93 s.data.toList i st) w5 p vb b2 b3 s d) := by
  have H := Lib.hid h
  have HC := Lib.hid (fun (st : List VT × Nat) (i : Nat) (W : World) (h : LSt w5 p vb b2 b3 s d st i W) (hl : st.1.length ≤ 1000001) => list1_any hv hd hd1 h hl)
  have HE := Lib.hid (fun (st : List VT × Nat) (i j : Nat) (st2 : List VT × Nat) (h : elL (valP s.data.toList k) st i = .ok st2 j) => elL_len h)
  have HM := Lib.hid (fun (st : List VT × Nat) (i : Nat) => elL_mono2 (fun i n => valP_mono s.data.toList k i n) st i)
  clear h hv hd hd1
  go_enter Tryz.func70, Tryz.ntmps70
  go_wp2_with fail
  refine (blanks_any H.out.ps).mono ?_
  rintro _ w1 ⟨rfl, hp1, hf1⟩
  have H1 := Lib.hid (H.out.move hp1 hf1)
  clear hp1 hf1
  go_wp2_with fail
  go_region_law (first
    | (go_simp; go_at_call 68; refine two_law (peek_any (by first | exact H1.out.ps | exact H1.out.ps.dr (Dr.drew _))) (by rintro _ wz ⟨hend, rfl, hdz⟩; exact ⟨rfl, list_short H1.out (by first | exact hdz | exact (Dr.drew _).trans hdz) hend⟩) ?_; rintro _ w2 ⟨c, hc, rfl, hd2⟩; have hd3 : Dr w1 w2 := (by first | exact hd2 | exact (Dr.drew _).trans hd2)))
  all_goals (
    have H2 := Lib.hid (H1.out.dr hd3)
    have HX := Lib.hid hc
    clear hc hd2 hd3
    by_cases he : c = 93
    · have ht : ((c.toNat : Int) == 93) = true := by rw [he]; rfl
      have ht2 : ((c.toNat : Int) == ((((⟨#[93]⟩ : ByteArray)[0]'(by decide)).toNat : Nat) : Int)) = true := ht
      have HR := Lib.hid (elems_none (el := elL (valP s.data.toList k)) (st := st) HX.out he)
      have HL := at_lt HX.out
      have c1 := H2.out.ps.1.cell 1
      have fz := H2.out.ps.1.frozen 1
      have H3 := Lib.hid (H2.out.move (H2.out.ps.to (skip s.data.toList i + 1) HL) (FrS.one w2 p 1 _))
      have hb := H2.out.ps.2.2.1
      clear he
      go_wp2
      refine bodyPost_ret (results_none rfl _ _ _) rfl ?_
      exact .inl ⟨st, _, HR, rfl, H3⟩
    · have ht : ((c.toNat : Int) == 93) = false := by
        rw [beq_eq_false_iff_ne]
        intro e
        exact he (UInt8.toNat_inj.1 (by show c.toNat = 93; omega))
      have ht2 : ((c.toNat : Int) == ((((⟨#[93]⟩ : ByteArray)[0]'(by decide)).toNat : Nat) : Int)) = false := ht
      have HR0 := Lib.hid (elems_some (el := elL (valP s.data.toList k)) (st := st) HX.out he)
      have HJ := Lib.hid H2.out.ps.2.1
      obtain ⟨R, hR⟩ : ∃ R, R = elemsP (elL (valP s.data.toList k)) 93 s.data.toList i st := ⟨_, rfl⟩
      have HRR := Lib.hid hR
      rw [← hR] at HR0
      clear hR he
      go_wp2_with fail
      go_loopg [6] (s.size + 1) (fun gh b wr => ∃ (m : Bool) (sx : List VT × Nat) (j : Nat), b = .bool m ∧ Hid (LSt w5 p vb b2 b3 s d sx j wr) ∧ Hid (sx.1.length + gh ≤ s.size + 1) ∧ Hid (m = true → s.size + 1 ≤ gh + j ∧ R = moreP (elL (valP s.data.toList k)) 93 s.data.toList gh j sx) ∧ Hid (m = false → R = .ok sx j))
      case atStart => exact ⟨true, st, _, rfl, H2, Lib.hid (by omega), Lib.hid (fun _ => ⟨by omega, by rw [HR0.out, list_len]⟩), Lib.hid (fun e => by cases e)⟩
      case round =>
        obtain ⟨m, sx, j, rfl, HS, HN, HT, HF⟩ := hrel
        cases m with
        | false =>
          have HR := Lib.hid (HF.out rfl)
          go_wp2
          refine bodyPost_end (results_none rfl _ _ _) rfl ?_
          exact .inl ⟨sx, j, Lib.hid (HRR.out.symm.trans HR.out), rfl, HS⟩
        | true =>
          have HG := Lib.hid (HT.out rfl)
          obtain ⟨f, rfl⟩ : ∃ f, gk = f + 1 := ⟨gk - 1, by have := HG.out.1; have := HS.out.ps.2.1; omega⟩
          have HG2 := Lib.hid (HG.out.2.trans (moreP_succ ..))
          go_wp2_with fail
          refine (blanks_any HS.out.ps).mono ?_
          rintro _ w3 ⟨rfl, hp3, hf3⟩
          have HS3 := Lib.hid (HS.out.move hp3 hf3)
          clear hp3 hf3
          go_wp2_with fail
          refine (HC.out sx _ _ HS3.out (by have := HN.out; have := HS3.out.ps.2.2.1; omega)).mono ?_
          rintro _ w4 (⟨s2, j2, hr, rfl, hs4⟩ | ⟨j2, c2, hr, rfl, hf4⟩)
          · have HR4 : Hid (R = (tkP (fun x => x == 44 || x == 93) s.data.toList (skip s.data.toList j2)).bind fun c j3 => if c = 44 then moreP (elL (valP s.data.toList k)) 93 s.data.toList f j3 s2 else .ok s2 j3) := Lib.hid (by rw [HG2.out, hr.out]; rfl)
            have HL4 := Lib.hid (HE.out _ _ _ _ hr.out)
            have HM4 := Lib.hid (Nat.le_trans (skip_ge s.data.toList j) (HM.out _ _ _ _ hr.out))
            clear hr
            go_wp2_with fail
            refine (blanks_any hs4.out.ps).mono ?_
            rintro _ w6 ⟨rfl, hp6, hf6⟩
            have HS6 := Lib.hid (hs4.out.move hp6 hf6)
            clear hp6 hf6
            go_wp2_with fail
            refine (take_any HS6.out.ps (set_more 93)).mono ?_
            rintro _ w7 (⟨c7, j7, hr7, rfl, hp7, hf7⟩ | ⟨j7, e7, hr7, rfl, hf7⟩)
            · have HS7 := Lib.hid (HS6.out.move hp7.out hf7.out)
              have HJ7 := Lib.hid (tkP_in hr7.out).2.1
              have HR7 : Hid (R = if c7 = 44 then moreP (elL (valP s.data.toList k)) 93 s.data.toList f j7 s2 else .ok s2 j7) := Lib.hid (by rw [HR4.out, hr7.out]; rfl)
              have HM7 := Lib.hid (skip_ge s.data.toList j2)
              clear hr7 hp7 hf7
              unfold byteV
              by_cases h44 : c7 = 44
              · have ht7 : ((c7.toNat : Int) == 44) = true := by rw [h44]; rfl
                have HR8 := Lib.hid (HR7.out.trans (if_pos h44))
                clear h44
                go_wp2
                go_roundg f
                case measure => omega
                case rel => exact ⟨true, s2, j7, rfl, HS7, Lib.hid (by have := HN.out; have := HL4.out; omega), Lib.hid (fun _ => ⟨by have := HG.out.1; have := HJ7.out; have := HM7.out; have := HM4.out; omega, HR8.out⟩), Lib.hid (fun e => by cases e)⟩
              · have ht7 : ((c7.toNat : Int) == 44) = false := by
                  rw [beq_eq_false_iff_ne]
                  intro e
                  exact h44 (UInt8.toNat_inj.1 (by show c7.toNat = 44; omega))
                have HR8 := Lib.hid (HR7.out.trans (if_neg h44))
                clear h44
                go_wp2
                go_roundg f
                case measure => omega
                case rel => exact ⟨false, s2, j7, rfl, HS7, Lib.hid (by have := HN.out; have := HL4.out; omega), Lib.hid (fun e => by cases e), Lib.hid (fun _ => HR8.out)⟩
            · have HR7 : Hid (R = .err j7 e7) := Lib.hid (by rw [HR4.out, hr7.out]; rfl)
              exact ⟨rfl, .inr ⟨j7, e7, Lib.hid (HRR.out.symm.trans HR7.out), rfl, Lib.hid (HS6.out.fr.trans (hf7.out.two))⟩⟩
          · have HR4 : Hid (R = .err j2 c2) := Lib.hid (by rw [HG2.out, hr.out]; rfl)
            exact ⟨rfl, .inr ⟨j2, c2, Lib.hid (HRR.out.symm.trans HR4.out), rfl, hf4⟩⟩)
end Go.Proofs.YtlgmhhimbabkjaaGreatDoor
