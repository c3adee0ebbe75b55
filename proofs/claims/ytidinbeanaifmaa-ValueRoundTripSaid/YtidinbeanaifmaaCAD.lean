/-
  Contracts of the code's and of the reference's functions, part AD, and what they lean on.
-/
import Derived.Test.YtidinbeanaifmaaCAC
import Derived.Deep.RegionLaw
import Derived.Deep.LoopGhost
import Derived.Deep.AppendLies
import Derived.Test.YtidinbeanaifmaaCAB
import Derived.Test.YtidinbeanaifmaaCAA
import Derived.Shelf.SlGeneric
import Derived.Shelf.SlSortCmp.WholeK
import Derived.Ground.SlsfProg
import Derived.Test.YtidinbeanaifmaaChecked
import Derived.OwnWalk
namespace Go.Proofs.Ytidinbeanaifmaa
open Go.RowKit

/-- what a decoder's items hands back, in the value's block g -/
def ItsP (RD : World → Nat → List UInt8 → Int → Prop) (DT : TypeId) (r : DR (List VT × List ByteArray)) (K : Int) (p q g : Nat) (w : World) (en : Ending) (w' : World) : Prop :=
  ∃ (AI : Option Addr) (nI cI : Nat) (AK : Option Addr) (nK cK b' : Nat), en = .returned (.tuple #[]) ∧ Hid (FrS (Three p q g) w w') ∧ Hid (Bk w' q DT #[.pointer (some ⟨p, 0, none⟩), .int .i64 (b' : Nat)]) ∧ b' ≤ 1001 ∧
    Hid (Bk w' g 26 #[.int .i64 K, .int .i64 0, .string ⟨#[]⟩, .slice AI nI cI, .slice AK nK cK]) ∧
    ((∃ its ks l', Hid (r = .ok (its, ks) l' b') ∧ Hid (RD w' p l' 0) ∧ Hid (Lies w' (New w w') (.mk K 0 ⟨#[]⟩ its ks) (.agg #[.int .i64 K, .int .i64 0, .string ⟨#[]⟩, .slice AI nI cI, .slice AK nK cK]))) ∨
      ∃ e l', Hid (r = .err e) ∧ e ≠ 0 ∧ Hid (RD w' p l' e))
theorem decL_good {dec : Nat → List UInt8 → DR VT} {r n n2 : Nat} {l l2 : List UInt8} {its : List VT} {x : VT} (h : dec n l = .ok x l2 n2) : decL dec false (r + 1) n l its [] = decL dec false r n2 l2 (its ++ [x]) [] := by
  rw [decL]
  unfold decK
  rw [if_neg (by decide)]
  simp only [h]
theorem decL_bad {dec : Nat → List UInt8 → DR VT} {r n : Nat} {e : Int} {l : List UInt8} {its : List VT} (h : dec n l = .err e) : decL dec false (r + 1) n l its [] = .err e := by
  rw [decL]
  unfold decK
  rw [if_neg (by decide)]
  simp only [h]

/-- five cells put in a row -/
def put5 (w : World) (g o : Nat) (a b c d e : Value) : World := ((((w.setCell ⟨g, o, none⟩ a).setCell ⟨g, o + 1, none⟩ b).setCell ⟨g, o + 2, none⟩ c).setCell ⟨g, o + 3, none⟩ d).setCell ⟨g, o + 4, none⟩ e
def setV (cs : Array Value) (o : Nat) (a b c d e : Value) : Array Value := ((((cs.setIfInBounds o a).setIfInBounds (o + 1) b).setIfInBounds (o + 2) c).setIfInBounds (o + 3) d).setIfInBounds (o + 4) e
section
variable {w : World} {g o : Nat} {a b c d e : Value}
theorem put5_bk {t : TypeId} {cs : Array Value} (h : Bk w g t cs) : Bk (put5 w g o a b c d e) g t (setV cs o a b c d e) := ((((h.put o a).put (o + 1) b).put (o + 2) c).put (o + 3) d).put (o + 4) e
theorem put5_far {i : Nat} (h : i ≠ g) : (put5 w g o a b c d e).heap[i]? = w.heap[i]? :=
  ((((Below.heap_setCell _ _ _ _ h).trans (Below.heap_setCell _ _ _ _ h)).trans (Below.heap_setCell _ _ _ _ h)).trans (Below.heap_setCell _ _ _ _ h)).trans (Below.heap_setCell _ _ _ _ h)
theorem put5_bk_far {i : Nat} {t : TypeId} {cs : Array Value} (h : Bk w i t cs) (hi : i ≠ g) : Bk (put5 w g o a b c d e) i t cs := (put5_far hi).trans h
theorem put5_size : (put5 w g o a b c d e).heap.size = w.heap.size := by simp [put5, World.setCell]
theorem put5_os : (put5 w g o a b c d e).os = w.os := rfl
theorem put5_tape : (put5 w g o a b c d e).tape = w.tape := rfl
theorem put5_output : (put5 w g o a b c d e).output = w.output := rfl
end
/-- the last of the rows: its cells, and the row when they are put -/
theorem own_last {w : World} {base g cap j : Nat} {t : TypeId} {cs : List Value} {z0 z1 z2 z3 z4 : Value} (h : w.ownsRow base t 5 (.slice (some ⟨g, 0, none⟩) (j + 1) cap) (j + 1) (cs ++ [z0, z1, z2, z3, z4])) :
    ∃ cur, Bk w g t cur ∧ cur[j * 5]? = some z0 ∧ cur[j * 5 + 1]? = some z1 ∧ cur[j * 5 + 2]? = some z2 ∧ cur[j * 5 + 3]? = some z3 ∧ cur[j * 5 + 4]? = some z4 ∧
      ∀ (W : World) (a b c d e : Value), Bk W g t (setV cur (j * 5) a b c d e) → W.ownsRow base t 5 (.slice (some ⟨g, 0, none⟩) (j + 1) cap) (j + 1) (cs ++ [a, b, c, d, e]) := by
  obtain ⟨h1, h2⟩ := h
  rcases h2 with ⟨h2, _⟩ | ⟨g', cap', cur, h2, hb, hg, hc, hm, hz, ht⟩
  · simp at h2
  · injection h2 with e1 _ e2
    injection e1 with e1
    injection e1 with e1
    subst e1
    subst e2
    have hl : cs.length = j * 5 := by simp at h1; omega
    have at_ : ∀ i, i < 5 → cur[j * 5 + i]? = [z0, z1, z2, z3, z4][i]? := fun i hi => by
      have h5 : (cur.toList.take ((j + 1) * 5))[j * 5 + i]? = [z0, z1, z2, z3, z4][i]? := by
        rw [ht, List.getElem?_append_right (by omega), hl]
        congr 1
        omega
      rw [List.getElem?_take_of_lt (by omega)] at h5
      rw [← h5, Array.getElem?_toList]
    refine ⟨cur, hg, at_ 0 (by omega), at_ 1 (by omega), at_ 2 (by omega), at_ 3 (by omega), at_ 4 (by omega), fun W a b c d e hW => ⟨by simp at h1 ⊢; omega, Or.inr ⟨g, cap, _, rfl, hb, hW, hc, hm, by simp [setV, hz], ?_⟩⟩⟩
    unfold setV
    simp only [Array.toList_setIfInBounds, List.take_set, ht]
    simp [hl]

/-- a value of the decoder, behind a world in which blocks were made -/
def DecA (RD : World → Nat → List UInt8 → Int → Prop) (DT : TypeId) (r : DR VT) (p q : Nat) (wr W : World) (en : Ending) (w' : World) : Prop :=
  ∃ (k i : Int) (t : ByteArray) (A : Option Addr) (n c : Nat) (A' : Option Addr) (n' c' : Nat) (b' : Nat), en = .returned (.agg #[.int .i64 k, .int .i64 i, .string t, .slice A n c, .slice A' n' c']) ∧
    Hid (FrS (Two p q) wr w') ∧ Hid (W.heap.size ≤ w'.heap.size ∧ ∀ b, wr.heap.size ≤ b → b < W.heap.size → w'.heap[b]? = W.heap[b]?) ∧ Hid (Bk w' q DT #[.pointer (some ⟨p, 0, none⟩), .int .i64 (b' : Nat)] ∧ b' ≤ 1001) ∧
    Hid ((∃ x l', r = .ok x l' b' ∧ RD w' p l' 0 ∧ Lies w' (New wr w') x (.agg #[.int .i64 k, .int .i64 i, .string t, .slice A n c, .slice A' n' c'])) ∨ ∃ e l', r = .err e ∧ e ≠ 0 ∧ RD w' p l' e)
theorem DecP.after {RD : World → Nat → List UInt8 → Int → Prop} {DT : TypeId} {r : DR VT} {p q : Nat} {wr W w' : World} {en : Ending} (hb : Below wr.heap.size wr W) (hp : p < wr.heap.size) (hq : q < wr.heap.size) (h : DecP RD DT r p q W en w') : DecA RD DT r p q wr W en w' := by
  obtain ⟨k, i, t, A, n, c, A', n', c', b', e, hf, hk, hb', hx⟩ := h
  have hf := hf.out
  refine ⟨k, i, t, A, n, c, A', n', c', b', e, Lib.hid ((FrS.of_below hb).trans hf), Lib.hid ⟨hf.size, fun b h1 h2 => hf.block b h2 (fun h => by rcases h with h | h <;> omega)⟩, Lib.hid ⟨hk.out, hb'⟩, Lib.hid ?_⟩
  rcases hx with ⟨x, l', h1, h2, h3⟩ | ⟨e, l', h1, h2, h3⟩
  · exact Or.inl ⟨x, l', h1.out, h2.out, h3.out.keep (fun _ _ => rfl) (fun b hb1 => ⟨Nat.le_trans hb.size hb1.1, hb1.2⟩)⟩
  · exact Or.inr ⟨e, l', h1.out, h2, h3.out⟩

section
variable {w w' : World} {S : Nat → Prop} {p n : Nat} {A : Option Addr} {l : List UInt8} {e : Int}
theorem Ow.frs (h : Ow w A n l) (hf : FrS S w w') (hS : ∀ b, S b → b < w.heap.size → ∃ t cs, Bk w b t cs ∧ t ≠ 5) : Ow w' A n l :=
  ⟨h.1, fun hn => by
    obtain ⟨g, o, cs, e, hk, hc⟩ := h.2 hn
    exact ⟨g, o, cs, e, hf.bk hk (fun hs => by
      obtain ⟨t, cs', hb, ht⟩ := hS g hs hk.lt
      exact hb.ne_ hk ht rfl), hc⟩⟩
theorem WRd.frs (h : WRd w p l e) (hf : FrS S w w') (hp : ¬ S p) (hS : ∀ b, S b → b < w.heap.size → ∃ t cs, Bk w b t cs ∧ t ≠ 5) : WRd w' p l e := by
  obtain ⟨A, n, c, l0, hk, ho, r⟩ := h
  exact ⟨A, n, c, l0, hf.bk hk hp, ho.frs hf hS, r⟩
theorem RRd.frs (h : RRd w p l e) (hf : FrS S w w') (hp : ¬ S p) (hS : ∀ b, S b → b < w.heap.size → ∃ t cs, Bk w b t cs ∧ t ≠ 5) : RRd w' p l e := by
  obtain ⟨A, n, c, l0, hk, ho, r⟩ := h
  exact ⟨A, n, c, l0, hf.bk hk hp, ho.frs hf hS, r⟩
end
/-- the stores behind an append -/
def Last (w1 wf : World) (g g2 : Nat) (G C : Array Value) : Prop := wf.os = w1.os ∧ wf.tape = w1.tape ∧ wf.output = w1.output ∧ wf.heap.size = w1.heap.size ∧ (∀ b, b ≠ g → b ≠ g2 → wf.heap[b]? = w1.heap[b]?) ∧ Bk wf g 26 G ∧ Bk wf g2 26 C
section
variable {w1 : World} {g g2 o : Nat} {G cur : Array Value} {a b c d e s : Value}
theorem last_a (hG : Bk w1 g 26 G) (hB : Bk w1 g2 26 cur) (hne : g2 ≠ g) : Last w1 ((put5 w1 g2 o a b c d e).setCell ⟨g, 3, none⟩ s) g g2 (G.setIfInBounds 3 s) (setV cur o a b c d e) := by
  have h1 := put5_bk_far (o := o) (a := a) (b := b) (c := c) (d := d) (e := e) hG (Ne.symm hne)
  have h2 := put5_bk (o := o) (a := a) (b := b) (c := c) (d := d) (e := e) hB
  have h3 := put5_os (w := w1) (g := g2) (o := o) (a := a) (b := b) (c := c) (d := d) (e := e)
  have h4 := put5_tape (w := w1) (g := g2) (o := o) (a := a) (b := b) (c := c) (d := d) (e := e)
  have h5 := put5_output (w := w1) (g := g2) (o := o) (a := a) (b := b) (c := c) (d := d) (e := e)
  have h6 := put5_size (w := w1) (g := g2) (o := o) (a := a) (b := b) (c := c) (d := d) (e := e)
  have h7 := fun i => put5_far (w := w1) (g := g2) (o := o) (a := a) (b := b) (c := c) (d := d) (e := e) (i := i)
  generalize put5 w1 g2 o a b c d e = wp at *
  refine ⟨h3, h4, h5, ?_, fun i k1 k2 => ?_, h1.put 3 s, h2.far (p := ⟨g, 3, none⟩) hne s⟩
  · rw [← h6]; simp [World.setCell]
  · rw [← h7 i k2]; exact Below.heap_setCell _ _ _ _ k1
theorem last_b (hG : Bk w1 g 26 G) (hB : Bk w1 g2 26 cur) (hne : g2 ≠ g) : Last w1 (put5 (w1.setCell ⟨g, 3, none⟩ s) g2 o a b c d e) g g2 (G.setIfInBounds 3 s) (setV cur o a b c d e) := by
  have h1 := hG.put 3 s
  have h2 := hB.far (p := ⟨g, 3, none⟩) hne s
  have h3 : (w1.setCell ⟨g, 3, none⟩ s).os = w1.os := rfl
  have h4 : (w1.setCell ⟨g, 3, none⟩ s).tape = w1.tape := rfl
  have h5 : (w1.setCell ⟨g, 3, none⟩ s).output = w1.output := rfl
  have h6 : (w1.setCell ⟨g, 3, none⟩ s).heap.size = w1.heap.size := by simp [World.setCell]
  have h7 : ∀ i, i ≠ g → (w1.setCell ⟨g, 3, none⟩ s).heap[i]? = w1.heap[i]? := fun i k1 => Below.heap_setCell _ _ _ _ k1
  generalize w1.setCell ⟨g, 3, none⟩ s = wp at *
  refine ⟨put5_os.trans h3, put5_tape.trans h4, put5_output.trans h5, put5_size.trans h6, fun i k1 k2 => ?_, put5_bk_far h1 (Ne.symm hne), put5_bk h2⟩
  rw [put5_far k2]; exact h7 i k1
end
/-- what stands when a round of items is done: the frame, the decoder, what is left -/
def StepP (RD : World → Nat → List UInt8 → Int → Prop) (DT : TypeId) (dec : Nat → List UInt8 → DR VT) (R : DR (List VT × List ByteArray)) (p q g c j : Nat) (AI : Option Addr) (cI n : Nat) (w wr : World) : Prop :=
  FrS (Three p q g) w wr ∧ Bk wr q DT #[.pointer (some ⟨p, 0, none⟩), .int .i64 (n : Nat)] ∧ n ≤ 1001 ∧
    ((∃ its cs l2, n ≤ 1000 ∧ its.length = j ∧ l2.length ≤ 4611686018427387904 ∧ Hid (R = decL dec false (c - j) n l2 its []) ∧ Hid (RD wr p l2 0) ∧ Hid (wr.ownsRow w.heap.size 26 5 (.slice AI j cI) j cs) ∧ Hid (LiesC wr (Off w.heap.size wr (.slice AI j cI)) its cs)) ∨
      ∃ e l2, Hid (R = .err e) ∧ e ≠ 0 ∧ Hid (RD wr p l2 e))
theorem items_lies {wr : World} {lo j cI : Nat} {AI : Option Addr} {its : List VT} {cs : List Value} {K : Int} (ho : wr.ownsRow lo 26 5 (.slice AI j cI) j cs) (hl : LiesC wr (Off lo wr (.slice AI j cI)) its cs) (hil : its.length = j) (hK : 0 ≤ K ∧ K ≤ 5) :
    Lies wr (fun b => lo ≤ b ∧ b < wr.heap.size) (.mk K 0 ⟨#[]⟩ its []) (.agg #[.int .i64 K, .int .i64 0, .string ⟨#[]⟩, .slice AI j cI, .slice none 0 0]) := by
  subst hil
  have hb := own_bounds ho
  rw [Lies]
  exact ⟨AI, cI, none, 0, rfl, ⟨by omega, by omega⟩, ⟨by omega, by omega⟩, by decide, hb.1, hb.2, LiesC.ownR (hl.keep (fun _ _ => rfl) (fun b hb => ⟨hb.1, hb.2.1⟩)) (fun g h1 h2 => ⟨h1, h2⟩) rfl ho, Nat.le_refl _, by omega, LiesS.none_⟩
theorem witem_step {dec : Nat → List UInt8 → DR VT} {R : DR (List VT × List ByteArray)} {w wr wB w1 wf : World} {p q g g2 c j n b2 cI cap : Nat} {AI : Option Addr} {l2 : List UInt8} {its : List VT} {cs : List Value} {G cur : Array Value}
    {k2 i2 : Int} {t2 : ByteArray} {E E' : Option Addr} {n3 c3 n4 c4 : Nat} {G' : Array Value}
    (hfit : ∀ n l, (dec n l).Fits l n) (sz : g < w.heap.size ∧ q < w.heap.size ∧ p < w.heap.size) (ng : g ≠ p) (nqg : q ≠ g) (hf : FrS (Three p q g) w wr) (hg : Bk wr g 26 G)
    (ho : wr.ownsRow w.heap.size 26 5 (.slice AI j cI) j cs) (hl : LiesC wr (Off w.heap.size wr (.slice AI j cI)) its cs) (hfb : FrS (Two p q) wr wB) (hqb : Bk wB q 90 #[.pointer (some ⟨p, 0, none⟩), .int .i64 (b2 : Nat)] ∧ b2 ≤ 1001)
    (hx : (∃ x l', dec n l2 = .ok x l' b2 ∧ WRd wB p l' 0 ∧ Lies wB (New wr wB) x (.agg #[.int .i64 k2, .int .i64 i2, .string t2, .slice E n3 c3, .slice E' n4 c4])) ∨ ∃ e l', dec n l2 = .err e ∧ e ≠ 0 ∧ WRd wB p l' e)
    (hgw : wB.grownBy w1 (Value.slice AI j cI).ownBlock) (hat : (Value.slice AI j cI).ownBlock = some g2 ∨ wB.heap.size ≤ g2) (hla : Last w1 wf g g2 G' (setV cur (j * 5) (.int .i64 k2) (.int .i64 i2) (.string t2) (.slice E n3 c3) (.slice E' n4 c4)))
    (hw5 : ∀ (W : World) (a b c d e : Value), Bk W g2 26 (setV cur (j * 5) a b c d e) → W.ownsRow w.heap.size 26 5 (.slice (some ⟨g2, 0, none⟩) (j + 1) cap) (j + 1) (cs ++ [a, b, c, d, e]))
    (hlt : j < c) (hn : n ≤ 1000) (hl2 : l2.length ≤ 4611686018427387904) (hil : its.length = j) (hD : R = decL dec false (c - j) n l2 its []) :
    StepP WRd 90 dec R p q g c (j + 1) (some ⟨g2, 0, none⟩) cap b2 w wf := by
  obtain ⟨z1, z2, z3, z4, far, hgf, hcf⟩ := hla
  have hown := ho.lt
  have s1 := hf.size
  have s2 := hfb.size
  have s3 := hgw.size
  have fw : FrS (fun b => b = g ∨ (Value.slice AI j cI).ownBlock = some b) wB wf :=
    ⟨z1.trans hgw.os, z2.trans hgw.tape, z3.trans hgw.output, by omega, fun b hb hn => (far b (fun e => hn (Or.inl e)) (fun e => by
      rcases hat with h | h
      · exact hn (Or.inr (by rw [h, e]))
      · omega)).trans (hgw.block b hb (fun e => hn (Or.inr e.symm)))⟩
  have nS : ∀ b, b < w.heap.size → b ≠ g → ¬ (b = g ∨ (Value.slice AI j cI).ownBlock = some b) := fun b hb hne h => by
    rcases h with h | h
    · exact hne h
    · have := (hown b h).1; omega
  have hS : ∀ b, (b = g ∨ (Value.slice AI j cI).ownBlock = some b) → b < wB.heap.size → ∃ t cs, Bk wB b t cs ∧ t ≠ 5 := fun b hb _ => by
    rcases hb with rfl | hb
    · exact ⟨_, _, hfb.bk hg (fun h => by rcases h with h | h; exact ng h; exact nqg h.symm), by decide⟩
    · have hb1 := hown b hb
      obtain ⟨_, h2⟩ := ho
      rcases h2 with ⟨h2, _⟩ | ⟨g', cap', cur', h2, _, hg', _⟩
      · rw [h2] at hb; simp [Value.ownBlock] at hb
      · rw [h2] at hb
        have : g' = b := by simpa [Value.ownBlock] using hb
        subst this
        exact ⟨_, _, hfb.bk hg' (fun h => by rcases h with h | h <;> omega), by decide⟩
  refine ⟨(hf.next hfb (fun i _ h => ?_)).next fw (fun i hi h => ?_), fw.bk hqb.1 (nS q sz.2.1 nqg), hqb.2, ?_⟩
  · rcases h with h | h
    · exact Or.inl h
    · exact Or.inr (Or.inl h)
  · rcases h with h | h
    · exact Or.inr (Or.inr h)
    · have := (hown i h).1; omega
  · obtain ⟨r, hr⟩ : ∃ r, c - j = r + 1 := ⟨c - j - 1, by omega⟩
    have hr' : c - (j + 1) = r := by omega
    rw [hr] at hD
    rw [hr']
    rcases hx with ⟨x, l', h1, h2, h3⟩ | ⟨e, l', h1, h2, h3⟩
    · obtain ⟨f1, f2, f3⟩ := hfit n l2 x l' b2 h1
      refine Or.inl ⟨its ++ [x], _, l', f3 hn, by simp [hil], by omega, Lib.hid (hD.trans (decL_good h1)), Lib.hid (h2.frs fw (nS p sz.2.2 (Ne.symm ng)) hS), Lib.hid (hw5 wf _ _ _ _ _ hcf), Lib.hid (LiesC.append (hl.keep (fun b hb => ?_) (fun b hb => ?_)) ⟨_, _, _, _, _, [], rfl, h3.keep (fun b hb => ?_) (fun b hb => ?_), rfl⟩)⟩
      · obtain ⟨b1, b2, b3⟩ := hb
        exact (fw.cell (Nat.lt_of_lt_of_le b2 s2) (fun h => by
          rcases h with h | h
          · omega
          · exact b3 h)).trans (hfb.cell b2 (fun h => by rcases h with h | h <;> omega))
      · obtain ⟨b1, b2, b3⟩ := hb
        refine ⟨b1, by omega, fun e => ?_⟩
        have e' : g2 = b := by simpa [Value.ownBlock] using e
        rcases hat with h | h
        · exact b3 (by rw [h, e'])
        · omega
      · obtain ⟨b1, b2⟩ := hb
        exact fw.cell b2 (fun h => by
          rcases h with h | h
          · omega
          · have := (hown _ h).2; omega)
      · obtain ⟨b1, b2⟩ := hb
        refine ⟨by omega, by omega, fun e => ?_⟩
        have e' : g2 = b := by simpa [Value.ownBlock] using e
        rcases hat with h | h
        · have := (hown _ h).2; omega
        · omega
    · exact Or.inr ⟨e, l', Lib.hid (hD.trans (decL_bad h1)), h2, Lib.hid (h3.frs fw (nS p sz.2.2 (Ne.symm ng)) hS)⟩

set_option maxRecDepth 100000 in
set_option maxHeartbeats 16000000 in
theorem witems_4 {dec : Nat → List UInt8 → DR VT} {p q g b : Nat} {l : List UInt8} {d : Int} {w : World} (hfit : ∀ n l, (dec n l).Fits l n)
    (hv : ∀ (W : World) (n : Nat) (l : List UInt8), WRd W p l 0 → Bk W q 90 #[.pointer (some ⟨p, 0, none⟩), .int .i64 (n : Nat)] → n ≤ 1000 → l.length ≤ 4611686018427387904 → Calls Try.prog 86 #[.pointer (some ⟨q, 0, none⟩), .int .i64 d] W (DecP WRd 90 (dec n l) p q W))
    (hr : WRd w p l 0) (hq : Bk w q 90 #[.pointer (some ⟨p, 0, none⟩), .int .i64 (b : Nat)]) (hg : Bk w g 26 #[.int .i64 4, .int .i64 0, .string ⟨#[]⟩, .slice none 0 0, .slice none 0 0]) (hb : b ≤ 1000) (hl : l.length ≤ 4611686018427387904) :
    Calls Try.prog 113 #[.pointer (some ⟨q, 0, none⟩), .pointer (some ⟨g, 0, none⟩), .int .i64 d] w (ItsP WRd 90 (decI dec false b l) 4 p q g w) := by
  obtain ⟨iV, hiV, hzV, hsV, hbV⟩ := info_parts Try.infoV
  obtain ⟨c, l1, e1, hi⟩ : ∃ c l1 e1, intA l = (c, l1, e1) := ⟨_, _, _, rfl⟩
  have HFIT := Lib.hid hfit
  have HV := Lib.hid hv
  have NQ := Lib.hid (hr.dec_ne hq)
  have NG := Lib.hid (hr.val_ne hg)
  have NQG := Lib.hid (hq.ne_ hg (by decide))
  have HL := Lib.hid hl
  have HI := Lib.hid hi
  have W1 := Lib.hid hr
  have Q1 := Lib.hid hq
  have G1 := Lib.hid hg
  clear hfit hv hr hq hg hl hi
  have pre := fun (b0 : Unit) => Lib.hid (wint_k HI.out W1.out Q1.out)
  have HC := pre ()
  clear pre
  by_cases he1 : e1 = 0
  · subst he1
    by_cases hc : 0 ≤ c ∧ c ≤ 1000
    · obtain ⟨cn, rfl⟩ : ∃ cn : Nat, c = (cn : Int) := ⟨c.toNat, by omega⟩
      have hcn : cn ≤ 1000 := by omega
      have t1 : decide ((0 : Int) ≤ (cn : Int)) = true := by rw [decide_eq_true_eq]; omega
      have t2 : decide ((cn : Int) ≤ 1000) = true := by rw [decide_eq_true_eq]; omega
      have DI : Hid (decI dec false b l = decL dec false cn b l1 [] []) := Lib.hid (by
        unfold decI
        rw [HI.out, if_neg (by simp), if_neg (by show ¬ ((cn : Int) < 0 ∨ (1000 : Int) < cn); omega)]
        rfl)
      have HL1 : Hid (l1.length ≤ 4611686018427387904) := Lib.hid (by have h := intA_len l; rw [HI.out] at h; have := HL.out; simp only at h; omega)
      clear hc
      go_enter Try.func113, Try.ntmps113
      go_wp2_with fail
      refine (HC.out).mono ?_
      rintro e1 w2 ⟨rfl, hg, hr2⟩
      have Q2 := Lib.hid (Q1.out.grown hg (by intro e; injection e with e; exact NQ.out e))
      have G2 := Lib.hid (G1.out.grown hg (by intro e; injection e with e; exact NG.out e))
      have F2 : Hid (FrS (Three p q g) w w2) := Lib.hid (FrS.of_grown hg (Or.inl rfl))
      have W2 := Lib.hid hr2
      clear hg hr2
      go_wp2_with fail
      refine (wreq_any true W2.out Q2.out).mono ?_
      rintro e1 w3 ⟨rfl, hg, hr3⟩
      have Q3 := Lib.hid (Q2.out.grown hg (by intro e; injection e with e; exact NQ.out e))
      have G3 := Lib.hid (G2.out.grown hg (by intro e; injection e with e; exact NG.out e))
      have F3 : Hid (FrS (Three p q g) w w3) := Lib.hid (F2.out.trans (FrS.of_grown hg (Or.inl rfl)))
      have W3 := Lib.hid hr3
      have SZ : Hid (g < w.heap.size ∧ q < w.heap.size ∧ p < w.heap.size) := Lib.hid ⟨G1.out.lt, Q1.out.lt, W1.out.lt⟩
      clear hg hr3
      go_wp2_with fail
      go_loopg [7] cn (fun gh iv wr => ∃ (j n : Nat) (AI : Option Addr) (cI : Nat), j ≤ cn ∧ gh = cn - j ∧ iv = .int .i64 j ∧ Hid (StepP WRd 90 dec (decI dec false b l) p q g cn j AI cI n w wr) ∧ Hid (Bk wr g 26 #[.int .i64 4, .int .i64 0, .string ⟨#[]⟩, .slice AI j cI, .slice none 0 0]))
      case atStart => exact ⟨0, b, none, 0, by omega, rfl, rfl, Lib.hid ⟨F3.out, Q3.out, by omega, Or.inl ⟨[], [], l1, hb, rfl, HL1.out, DI, W3, Lib.hid (World.ownsRow_nil _ _ _ _), Lib.hid rfl⟩⟩, G3⟩
      case round =>
        obtain ⟨j, n, AI, cI, hjn, rfl, rfl, HST, HG⟩ := hrel
        obtain ⟨hf, hq, hn, hst⟩ := HST.out
        have HF := Lib.hid hf
        have HQ := Lib.hid hq
        clear hf hq HST
        have c0 := HQ.out.cell 0
        change _ = some (Value.pointer (some ⟨p, 0, none⟩)) at c0
        rcases hst with ⟨its, cs, l2, hn2, hil, hl2, HD, HW, HO, HLC⟩ | ⟨e, l2, HD, he, HW⟩
        · by_cases hlt : j < cn
          · have HCV : Hid (∀ W, Below wr.heap.size wr W → Calls Try.prog 86 #[.pointer (some ⟨q, 0, none⟩), .int .i64 d] W (DecA WRd 90 (dec n l2) p q wr W)) := Lib.hid (fun W hb => (HV.out W n l2 (HW.out.below hb) (HQ.out.below hb HQ.out.lt) hn2 hl2).mono (fun _ _ h => h.after hb HW.out.lt HQ.out.lt))
            have g0 := HG.out.cell 0
            change _ = some (Value.int .i64 4) at g0
            have g3 := HG.out.cell 3
            change _ = some (Value.slice AI j cI) at g3
            have fg := HG.out.frozen 3
            have LTS : Hid (g < wr.heap.size ∧ q < wr.heap.size ∧ p < wr.heap.size ∧ w.heap.size ≤ wr.heap.size) := Lib.hid (by have := HF.out.size; have := SZ.out; exact ⟨by omega, by omega, by omega, by omega⟩)
            have ltg := LTS.out.1
            go_wp2_with fail
            refine (wErr_any HW.out).mono ?_
            rintro e1 w' ⟨rfl, rfl⟩
            go_wp2_with fail
            have HOS : Hid (∀ W, FrS (Two p q) wr W → W.ownsRow w.heap.size 26 5 (.slice AI j cI) j cs) := Lib.hid (fun W h => own_same HO.out (h.same (fun b hb => by have := SZ.out; rcases hb with hb | hb <;> omega)))
            have GIN : Hid (¬ Two p q g) := Lib.hid (fun h => by rcases h with h | h; exact NG.out h; exact NQG.out h.symm)
            have LIM : Hid ((j + 1) * 80 ≤ 140737488355328) := Lib.hid (by omega)
            have HI5 := Lib.hid (And.intro hiV (And.intro hzV (And.intro hsV hbV)))
            have HNG : Hid ((Value.slice AI j cI).ownBlock ≠ some g) := Lib.hid (fun e => by have := (HO.out.lt g e).1; have := SZ.out; omega)
            have jj : (j : Int) < (j : Int) + 1 := by omega
            go_region_law (first
              | (refine step_append_lies _ (by rfl) _ _ _ (by rfl) w.heap.size 26 iV _ 5 80 Try.underlying23 HI5.out.1 HI5.out.2.1 HI5.out.2.2.1 HI5.out.2.2.2 rfl (by omega) (.slice AI j cI) j cs (by rfl) (by first | exact (HOS.out _ HFB.out).alloc _ | exact ((HOS.out _ HFB.out).alloc _).drew | exact (HOS.out _ HFB.out).drew.alloc _) ⟨wB.heap.size, 0, none⟩ 1 1 [.int .i64 0, .int .i64 0, .string ⟨#[]⟩, .slice none 0 0, .slice none 0 0] (by rfl) (by rfl) (World.news_of_block (cs := #[.int .i64 0, .int .i64 0, .string ⟨#[]⟩, .slice none 0 0, .slice none 0 0]) (t := 26) (fr := (0, 0)) (heap_alloc_new wB _)) (by simp [Value.oneCell']) (by omega) (by have := LIM.out; unfold maxLen; omega) LIM.out (by have := HFB.out.size; have := LTS.out; simp; omega) (wB.heap.size + 1) (by simp) ?_; intro g2 cap w1 hown1 hgrow hat hlt1; have HGW : Hid (wB.grownBy w1 (Value.slice AI j cI).ownBlock) := Lib.hid (grownBy_trans (World.grownBy_alloc wB _ _) (by exact hgrow)); have HAT : Hid ((Value.slice AI j cI).ownBlock = some g2 ∨ wB.heap.size ≤ g2) := Lib.hid (by rcases hat with h | h; exact Or.inl h; exact Or.inr (by omega)); clear hat hgrow; obtain ⟨cur, hBK, y0, y1, y2, y3, y4, hW5⟩ := own_last hown1; have HW5 := Lib.hid hW5; have q0 := (hBK.cell (j * 5)).trans y0; have q1 := (hBK.cell (j * 5 + 1)).trans y1; have q2 := (hBK.cell (j * 5 + 2)).trans y2; have q3 := (hBK.cell (j * 5 + 3)).trans y3; have q4 := (hBK.cell (j * 5 + 4)).trans y4; have f0 := hBK.frozen (j * 5); have f1 := hBK.frozen (j * 5 + 1); have f2 := hBK.frozen (j * 5 + 2); have f3 := hBK.frozen (j * 5 + 3); have f4 := hBK.frozen (j * 5 + 4); have HBK := Lib.hid hBK; clear hBK y0 y1 y2 y3 y4 hW5 hown1; have HG1 : Hid (Bk w1 g 26 #[.int .i64 4, .int .i64 0, .string ⟨#[]⟩, .slice AI j cI, .slice none 0 0]) := Lib.hid ((HFB.out.bk HG.out GIN.out).grown HGW.out (Ne.symm HNG.out)); have gg3 := HG1.out.cell 3; change _ = some (Value.slice AI j cI) at gg3; have gf3 := HG1.out.frozen 3; have ne1 : g2 ≠ g := (fun e => by rcases HAT.out with h | h; exact HNG.out (by rw [h, e]); omega); have ne2 : g ≠ g2 := Ne.symm ne1)
              | (refine step_append_lies _ (by rfl) _ _ _ (by rfl) w.heap.size 26 iV _ 5 80 Try.underlying23 HI5.out.1 HI5.out.2.1 HI5.out.2.2.1 HI5.out.2.2.2 rfl (by omega) (.slice AI j cI) j cs (by rfl) (by first | exact HOS.out _ HFB.out | exact (HOS.out _ HFB.out).drew) ⟨wr.heap.size, 0, none⟩ 1 1 [.int .i64 0, .int .i64 0, .string ⟨#[]⟩, .slice none 0 0, .slice none 0 0] (by rfl) (by rfl) (World.news_of_block (cs := #[.int .i64 0, .int .i64 0, .string ⟨#[]⟩, .slice none 0 0, .slice none 0 0]) (t := 26) (fr := (0, 0)) ((HMB.out.2 wr.heap.size (Nat.le_refl _) (by simp)).trans (by first | exact heap_alloc_new wr _ | exact heap_alloc_new wr.drew _))) (by simp [Value.oneCell']) (by omega) (by have := LIM.out; unfold maxLen; omega) LIM.out (by have := HFB.out.size; have := LTS.out; simp; omega) wB.heap.size (by simp) ?_; intro g2 cap w1 hown1 hgrow hat hlt1; have HGW : Hid (wB.grownBy w1 (Value.slice AI j cI).ownBlock) := Lib.hid (by exact hgrow); have HAT : Hid ((Value.slice AI j cI).ownBlock = some g2 ∨ wB.heap.size ≤ g2) := Lib.hid (by rcases hat with h | h; exact Or.inl h; exact Or.inr (by omega)); clear hat hgrow; obtain ⟨cur, hBK, y0, y1, y2, y3, y4, hW5⟩ := own_last hown1; have HW5 := Lib.hid hW5; have q0 := (hBK.cell (j * 5)).trans y0; have q1 := (hBK.cell (j * 5 + 1)).trans y1; have q2 := (hBK.cell (j * 5 + 2)).trans y2; have q3 := (hBK.cell (j * 5 + 3)).trans y3; have q4 := (hBK.cell (j * 5 + 4)).trans y4; have f0 := hBK.frozen (j * 5); have f1 := hBK.frozen (j * 5 + 1); have f2 := hBK.frozen (j * 5 + 2); have f3 := hBK.frozen (j * 5 + 3); have f4 := hBK.frozen (j * 5 + 4); have HBK := Lib.hid hBK; clear hBK y0 y1 y2 y3 y4 hW5 hown1; have HG1 : Hid (Bk w1 g 26 #[.int .i64 4, .int .i64 0, .string ⟨#[]⟩, .slice AI j cI, .slice none 0 0]) := Lib.hid ((HFB.out.bk HG.out GIN.out).grown HGW.out (Ne.symm HNG.out)); have gg3 := HG1.out.cell 3; change _ = some (Value.slice AI j cI) at gg3; have gf3 := HG1.out.frozen 3; have ne1 : g2 ≠ g := (fun e => by rcases HAT.out with h | h; exact HNG.out (by rw [h, e]); omega); have ne2 : g ≠ g2 := Ne.symm ne1)
              | (go_simp; go_at_call 86; refine (HCV.out _ (by first | exact Below.refl _ _ | exact (Below.refl _ _).drew | exact ⟨rfl, rfl, rfl, by simp, fun b hb => Below.heap_alloc _ _ b hb⟩)).mono ?_; rintro _ wB ⟨k2, i2, t2, E, n3, c3, E', n4, c4, b2, rfl, HFB, HMB, HQB, HXB⟩; have gB3 := (HFB.out.cell (p := ⟨g, 3, none⟩) ltg GIN.out).trans g3; have fgB := (HFB.out.bk HG.out GIN.out).frozen 3; have ltB : g < wB.heap.size := Nat.lt_of_lt_of_le ltg HFB.out.size))
            all_goals (
              first
              | (obtain ⟨wf, hwf, HLA⟩ : ∃ wf, wf = ((((((w1).setCell ⟨g2, j * 5, none⟩ (.int .i64 k2)).setCell ⟨g2, j * 5 + 1, none⟩ (.int .i64 i2)).setCell ⟨g2, j * 5 + 2, none⟩ (.string t2)).setCell ⟨g2, j * 5 + 3, none⟩ (.slice E n3 c3)).setCell ⟨g2, j * 5 + 4, none⟩ (.slice E' n4 c4)).setCell ⟨g, 3, none⟩ (.slice (some ⟨g2, 0, none⟩) (j + 1) cap) ∧ Hid (Last w1 wf g g2 #[.int .i64 4, .int .i64 0, .string ⟨#[]⟩, (.slice (some ⟨g2, 0, none⟩) (j + 1) cap), .slice none 0 0] (setV cur (j * 5) (.int .i64 k2) (.int .i64 i2) (.string t2) (.slice E n3 c3) (.slice E' n4 c4))) := ⟨_, rfl, Lib.hid (last_a HG1.out HBK.out ne1)⟩; rw [← hwf])
              | (obtain ⟨wf, hwf, HLA⟩ : ∃ wf, wf = (((((w1.setCell ⟨g, 3, none⟩ (.slice (some ⟨g2, 0, none⟩) (j + 1) cap)).setCell ⟨g2, j * 5, none⟩ (.int .i64 k2)).setCell ⟨g2, j * 5 + 1, none⟩ (.int .i64 i2)).setCell ⟨g2, j * 5 + 2, none⟩ (.string t2)).setCell ⟨g2, j * 5 + 3, none⟩ (.slice E n3 c3)).setCell ⟨g2, j * 5 + 4, none⟩ (.slice E' n4 c4) ∧ Hid (Last w1 wf g g2 #[.int .i64 4, .int .i64 0, .string ⟨#[]⟩, (.slice (some ⟨g2, 0, none⟩) (j + 1) cap), .slice none 0 0] (setV cur (j * 5) (.int .i64 k2) (.int .i64 i2) (.string t2) (.slice E n3 c3) (.slice E' n4 c4))) := ⟨_, rfl, Lib.hid (last_b HG1.out HBK.out ne1)⟩; rw [← hwf])
              have HGF := Lib.hid HLA.out.2.2.2.2.2.1
              have ST := Lib.hid (witem_step HFIT.out SZ.out NG.out NQG.out HF.out HG.out HO.out HLC.out HFB.out HQB.out HXB.out HGW.out HAT.out HLA.out HW5.out hlt hn2 hl2 hil HD.out)
              have HJ := Lib.hid hlt
              clear hwf HLA q0 q1 q2 q3 q4 f0 f1 f2 f3 f4 HG1 gg3 gf3 ne1 ne2 HBK HW5 HAT HGW gB3 fgB ltB HXB HQB HMB HFB HNG HI5 LIM GIN HOS fg g3 g0 ltg LTS HCV HO HLC HW HD c0 jj hlt1
              go_wp2_with fail
              go_roundg (cn - (j + 1))
              case measure => have := HJ.out; omega
              case rel => exact ⟨j + 1, b2, some ⟨g2, 0, none⟩, cap, by have := HJ.out; omega, rfl, by go_num, ST, HGF⟩)
          · obtain rfl : cn = j := by omega
            have hff : decide ((cn : Int) < cn) = false := by simp
            go_wp2_with fail
            go_end0
            exact ⟨AI, cn, cI, none, 0, 0, n, rfl, HF, HQ, hn, HG, Or.inl ⟨its, [], l2, Lib.hid (by rw [HD.out, Nat.sub_self]; rfl), HW, Lib.hid (items_lies HO.out HLC.out hil (by omega))⟩⟩
        · have hee : decide (e = 0) = false := by simp [he]
          by_cases hlt : j < cn
          · go_wp2_with fail
            refine (wErr_any HW.out).mono ?_
            rintro e1 w' ⟨rfl, rfl⟩
            go_wp2_with fail
            go_end0
            exact ⟨AI, j, cI, none, 0, 0, n, rfl, HF, HQ, hn, HG, Or.inr ⟨e, l2, HD, he, HW⟩⟩
          · obtain rfl : cn = j := by omega
            have hff : decide ((cn : Int) < cn) = false := by simp
            go_wp2_with fail
            go_end0
            exact ⟨AI, cn, cI, none, 0, 0, n, rfl, HF, HQ, hn, HG, Or.inr ⟨e, l2, HD, he, HW⟩⟩
    · by_cases hneg : c < 0
      · have t1 : decide ((0 : Int) ≤ c) = false := by rw [decide_eq_false_iff_not]; omega
        have DI : Hid (decI dec false b l = .err (reqE false 0) ∧ reqE false 0 ≠ 0) := Lib.hid (by
          unfold decI
          rw [HI.out]
          rw [if_neg (by simp), if_pos (by show c < 0 ∨ (1000 : Int) < c; omega)]
          exact ⟨rfl, by decide⟩)
        go_enter Try.func113, Try.ntmps113
        go_wp2_with fail
        refine (HC.out).mono ?_
        rintro e1x w2 ⟨rfl, hg, hr2⟩
        have Q2 := Lib.hid (Q1.out.grown hg (by intro e; injection e with e; exact NQ.out e))
        have G2 := Lib.hid (G1.out.grown hg (by intro e; injection e with e; exact NG.out e))
        have F2 : Hid (FrS (Three p q g) w w2) := Lib.hid (FrS.of_grown hg (Or.inl rfl))
        have W2 := Lib.hid hr2
        clear hg hr2
        go_wp2_with fail
        refine (wreq_any false W2.out Q2.out).mono ?_
        rintro e1x w3 ⟨rfl, hg, hr3⟩
        have Q3 := Lib.hid (Q2.out.grown hg (by intro e; injection e with e; exact NQ.out e))
        have G3 := Lib.hid (G2.out.grown hg (by intro e; injection e with e; exact NG.out e))
        have F3 : Hid (FrS (Three p q g) w w3) := Lib.hid (F2.out.trans (FrS.of_grown hg (Or.inl rfl)))
        have W3 := Lib.hid hr3
        clear hg hr3
        have IT : Hid (∀ w', w' = w3 → ItsP WRd 90 (decI dec false b l) 4 p q g w (.returned (.tuple #[])) w') := Lib.hid (fun w' hw => by subst hw; exact ⟨none, 0, 0, none, 0, 0, b, rfl, F3, Q3, by omega, G3, Or.inr ⟨_, l1, Lib.hid DI.out.1, DI.out.2, W3⟩⟩)
        have ER := Lib.hid DI.out.2
        generalize reqE false 0 = er at *
        have her := ER.out
        go_wp2_with fail
        go_loopg [7] 0 (fun gh iv wr => iv = .int .i64 0 ∧ wr = w3)
        case atStart => exact ⟨rfl, rfl⟩
        case round =>
          obtain ⟨rfl, rfl⟩ := hrel
          have c0 := Q3.out.cell 0
          change _ = some (Value.pointer (some ⟨p, 0, none⟩)) at c0
          have hpd : decide ((0 : Int) < c) = false := by rw [decide_eq_false_iff_not]; omega
          go_wp2_with fail
          go_end0
          exact IT.out _ rfl
      · have t1 : decide ((0 : Int) ≤ c) = true := by rw [decide_eq_true_eq]; omega
        have t2 : decide (c ≤ 1000) = false := by rw [decide_eq_false_iff_not]; omega
        have DI : Hid (decI dec false b l = .err (reqE false 0) ∧ reqE false 0 ≠ 0) := Lib.hid (by
          unfold decI
          rw [HI.out]
          rw [if_neg (by simp), if_pos (by show c < 0 ∨ (1000 : Int) < c; omega)]
          exact ⟨rfl, by decide⟩)
        go_enter Try.func113, Try.ntmps113
        go_wp2_with fail
        refine (HC.out).mono ?_
        rintro e1x w2 ⟨rfl, hg, hr2⟩
        have Q2 := Lib.hid (Q1.out.grown hg (by intro e; injection e with e; exact NQ.out e))
        have G2 := Lib.hid (G1.out.grown hg (by intro e; injection e with e; exact NG.out e))
        have F2 : Hid (FrS (Three p q g) w w2) := Lib.hid (FrS.of_grown hg (Or.inl rfl))
        have W2 := Lib.hid hr2
        clear hg hr2
        go_wp2_with fail
        refine (wreq_any false W2.out Q2.out).mono ?_
        rintro e1x w3 ⟨rfl, hg, hr3⟩
        have Q3 := Lib.hid (Q2.out.grown hg (by intro e; injection e with e; exact NQ.out e))
        have G3 := Lib.hid (G2.out.grown hg (by intro e; injection e with e; exact NG.out e))
        have F3 : Hid (FrS (Three p q g) w w3) := Lib.hid (F2.out.trans (FrS.of_grown hg (Or.inl rfl)))
        have W3 := Lib.hid hr3
        clear hg hr3
        have IT : Hid (∀ w', w' = w3 → ItsP WRd 90 (decI dec false b l) 4 p q g w (.returned (.tuple #[])) w') := Lib.hid (fun w' hw => by subst hw; exact ⟨none, 0, 0, none, 0, 0, b, rfl, F3, Q3, by omega, G3, Or.inr ⟨_, l1, Lib.hid DI.out.1, DI.out.2, W3⟩⟩)
        have ER := Lib.hid DI.out.2
        generalize reqE false 0 = er at *
        have her := ER.out
        go_wp2_with fail
        go_loopg [7] 0 (fun gh iv wr => iv = .int .i64 0 ∧ wr = w3)
        case atStart => exact ⟨rfl, rfl⟩
        case round =>
          obtain ⟨rfl, rfl⟩ := hrel
          have c0 := Q3.out.cell 0
          change _ = some (Value.pointer (some ⟨p, 0, none⟩)) at c0
          have hpd : decide ((0 : Int) < c) = true := by rw [decide_eq_true_eq]; omega
          go_wp2_with fail
          refine (wErr_any W3.out).mono ?_
          rintro e1x w' ⟨rfl, rfl⟩
          go_wp2_with fail
          go_end0
          exact IT.out _ rfl
  · by_cases hneg : c < 0
    · have t1 : decide ((0 : Int) ≤ c) = false := by rw [decide_eq_false_iff_not]; omega
      have DI : Hid (decI dec false b l = .err (reqE false e1) ∧ reqE false e1 ≠ 0) := Lib.hid (by
        unfold decI
        rw [HI.out]
        rw [if_pos (by exact he1)]
        exact ⟨by rw [reqE_ne he1], by rw [reqE_ne he1]; exact he1⟩)
      go_enter Try.func113, Try.ntmps113
      go_wp2_with fail
      refine (HC.out).mono ?_
      rintro e1x w2 ⟨rfl, hg, hr2⟩
      have Q2 := Lib.hid (Q1.out.grown hg (by intro e; injection e with e; exact NQ.out e))
      have G2 := Lib.hid (G1.out.grown hg (by intro e; injection e with e; exact NG.out e))
      have F2 : Hid (FrS (Three p q g) w w2) := Lib.hid (FrS.of_grown hg (Or.inl rfl))
      have W2 := Lib.hid hr2
      clear hg hr2
      go_wp2_with fail
      refine (wreq_any false W2.out Q2.out).mono ?_
      rintro e1x w3 ⟨rfl, hg, hr3⟩
      have Q3 := Lib.hid (Q2.out.grown hg (by intro e; injection e with e; exact NQ.out e))
      have G3 := Lib.hid (G2.out.grown hg (by intro e; injection e with e; exact NG.out e))
      have F3 : Hid (FrS (Three p q g) w w3) := Lib.hid (F2.out.trans (FrS.of_grown hg (Or.inl rfl)))
      have W3 := Lib.hid hr3
      clear hg hr3
      have IT : Hid (∀ w', w' = w3 → ItsP WRd 90 (decI dec false b l) 4 p q g w (.returned (.tuple #[])) w') := Lib.hid (fun w' hw => by subst hw; exact ⟨none, 0, 0, none, 0, 0, b, rfl, F3, Q3, by omega, G3, Or.inr ⟨_, l1, Lib.hid DI.out.1, DI.out.2, W3⟩⟩)
      have ER := Lib.hid DI.out.2
      generalize reqE false e1 = er at *
      have her := ER.out
      go_wp2_with fail
      go_loopg [7] 0 (fun gh iv wr => iv = .int .i64 0 ∧ wr = w3)
      case atStart => exact ⟨rfl, rfl⟩
      case round =>
        obtain ⟨rfl, rfl⟩ := hrel
        have c0 := Q3.out.cell 0
        change _ = some (Value.pointer (some ⟨p, 0, none⟩)) at c0
        have hpd : decide ((0 : Int) < c) = false := by rw [decide_eq_false_iff_not]; omega
        go_wp2_with fail
        go_end0
        exact IT.out _ rfl
    · by_cases hbig : 1000 < c
      · have t1 : decide ((0 : Int) ≤ c) = true := by rw [decide_eq_true_eq]; omega
        have t2 : decide (c ≤ 1000) = false := by rw [decide_eq_false_iff_not]; omega
        have DI : Hid (decI dec false b l = .err (reqE false e1) ∧ reqE false e1 ≠ 0) := Lib.hid (by
          unfold decI
          rw [HI.out]
          rw [if_pos (by exact he1)]
          exact ⟨by rw [reqE_ne he1], by rw [reqE_ne he1]; exact he1⟩)
        go_enter Try.func113, Try.ntmps113
        go_wp2_with fail
        refine (HC.out).mono ?_
        rintro e1x w2 ⟨rfl, hg, hr2⟩
        have Q2 := Lib.hid (Q1.out.grown hg (by intro e; injection e with e; exact NQ.out e))
        have G2 := Lib.hid (G1.out.grown hg (by intro e; injection e with e; exact NG.out e))
        have F2 : Hid (FrS (Three p q g) w w2) := Lib.hid (FrS.of_grown hg (Or.inl rfl))
        have W2 := Lib.hid hr2
        clear hg hr2
        go_wp2_with fail
        refine (wreq_any false W2.out Q2.out).mono ?_
        rintro e1x w3 ⟨rfl, hg, hr3⟩
        have Q3 := Lib.hid (Q2.out.grown hg (by intro e; injection e with e; exact NQ.out e))
        have G3 := Lib.hid (G2.out.grown hg (by intro e; injection e with e; exact NG.out e))
        have F3 : Hid (FrS (Three p q g) w w3) := Lib.hid (F2.out.trans (FrS.of_grown hg (Or.inl rfl)))
        have W3 := Lib.hid hr3
        clear hg hr3
        have IT : Hid (∀ w', w' = w3 → ItsP WRd 90 (decI dec false b l) 4 p q g w (.returned (.tuple #[])) w') := Lib.hid (fun w' hw => by subst hw; exact ⟨none, 0, 0, none, 0, 0, b, rfl, F3, Q3, by omega, G3, Or.inr ⟨_, l1, Lib.hid DI.out.1, DI.out.2, W3⟩⟩)
        have ER := Lib.hid DI.out.2
        generalize reqE false e1 = er at *
        have her := ER.out
        go_wp2_with fail
        go_loopg [7] 0 (fun gh iv wr => iv = .int .i64 0 ∧ wr = w3)
        case atStart => exact ⟨rfl, rfl⟩
        case round =>
          obtain ⟨rfl, rfl⟩ := hrel
          have c0 := Q3.out.cell 0
          change _ = some (Value.pointer (some ⟨p, 0, none⟩)) at c0
          have hpd : decide ((0 : Int) < c) = true := by rw [decide_eq_true_eq]; omega
          go_wp2_with fail
          refine (wErr_any W3.out).mono ?_
          rintro e1x w' ⟨rfl, rfl⟩
          go_wp2_with fail
          go_end0
          exact IT.out _ rfl
      · have t1 : decide ((0 : Int) ≤ c) = true := by rw [decide_eq_true_eq]; omega
        have t2 : decide (c ≤ 1000) = true := by rw [decide_eq_true_eq]; omega
        have DI : Hid (decI dec false b l = .err (reqE true e1) ∧ reqE true e1 ≠ 0) := Lib.hid (by
          unfold decI
          rw [HI.out]
          rw [if_pos (by exact he1)]
          exact ⟨by rw [reqE_ne he1], by rw [reqE_ne he1]; exact he1⟩)
        go_enter Try.func113, Try.ntmps113
        go_wp2_with fail
        refine (HC.out).mono ?_
        rintro e1x w2 ⟨rfl, hg, hr2⟩
        have Q2 := Lib.hid (Q1.out.grown hg (by intro e; injection e with e; exact NQ.out e))
        have G2 := Lib.hid (G1.out.grown hg (by intro e; injection e with e; exact NG.out e))
        have F2 : Hid (FrS (Three p q g) w w2) := Lib.hid (FrS.of_grown hg (Or.inl rfl))
        have W2 := Lib.hid hr2
        clear hg hr2
        go_wp2_with fail
        refine (wreq_any true W2.out Q2.out).mono ?_
        rintro e1x w3 ⟨rfl, hg, hr3⟩
        have Q3 := Lib.hid (Q2.out.grown hg (by intro e; injection e with e; exact NQ.out e))
        have G3 := Lib.hid (G2.out.grown hg (by intro e; injection e with e; exact NG.out e))
        have F3 : Hid (FrS (Three p q g) w w3) := Lib.hid (F2.out.trans (FrS.of_grown hg (Or.inl rfl)))
        have W3 := Lib.hid hr3
        clear hg hr3
        have IT : Hid (∀ w', w' = w3 → ItsP WRd 90 (decI dec false b l) 4 p q g w (.returned (.tuple #[])) w') := Lib.hid (fun w' hw => by subst hw; exact ⟨none, 0, 0, none, 0, 0, b, rfl, F3, Q3, by omega, G3, Or.inr ⟨_, l1, Lib.hid DI.out.1, DI.out.2, W3⟩⟩)
        have ER := Lib.hid DI.out.2
        generalize reqE true e1 = er at *
        have her := ER.out
        go_wp2_with fail
        go_loopg [7] 0 (fun gh iv wr => iv = .int .i64 0 ∧ wr = w3)
        case atStart => exact ⟨rfl, rfl⟩
        case round =>
          obtain ⟨rfl, rfl⟩ := hrel
          have c0 := Q3.out.cell 0
          change _ = some (Value.pointer (some ⟨p, 0, none⟩)) at c0
          by_cases hpos : (0 : Int) < c
          · have hpd : decide ((0 : Int) < c) = true := by rw [decide_eq_true_eq]; omega
            go_wp2_with fail
            refine (wErr_any W3.out).mono ?_
            rintro e1x w' ⟨rfl, rfl⟩
            go_wp2_with fail
            go_end0
            exact IT.out _ rfl
          · have hpd : decide ((0 : Int) < c) = false := by rw [decide_eq_false_iff_not]; omega
            go_wp2_with fail
            go_end0
            exact IT.out _ rfl
end Go.Proofs.Ytidinbeanaifmaa
namespace Go.Proofs.Ytidinbeanaifmaa
open Go.RowKit

set_option maxRecDepth 100000 in
set_option maxHeartbeats 4000000 in
theorem dv_4 {w : World} {p q b : Nat} {l : List UInt8} {d : Int} {l1 : List UInt8} {dec : Nat → List UInt8 → DR VT} (hr : WRd w p l 0) (hq : Bk w q 90 #[.pointer (some ⟨p, 0, none⟩), .int .i64 (b : Nat)]) (hb : b ≤ 1000) (hlt : b < 1000) (hdp : d ≤ 16) (hd0 : 0 ≤ d) (hi : intA l = (4, l1, 0))
    (hit : ∀ (W : World) (g : Nat), WRd W p l1 0 → Bk W q 90 #[.pointer (some ⟨p, 0, none⟩), .int .i64 ((b + 1 : Nat) : Int)] → Bk W g 26 #[.int .i64 4, .int .i64 0, .string ⟨#[]⟩, .slice none 0 0, .slice none 0 0] → Calls Try.prog 113 #[.pointer (some ⟨q, 0, none⟩), .pointer (some ⟨g, 0, none⟩), .int .i64 (d + 1)] W (ItsP WRd 90 (decI dec false (b + 1) l1) 4 p q g W)) :
    Calls Try.prog 86 #[.pointer (some ⟨q, 0, none⟩), .int .i64 d] w (DecP WRd 90 (match decI dec false (b + 1) l1 with | .err e => .err e | .ok r l2 n2 => .ok (.mk 4 0 ⟨#[]⟩ r.1 r.2) l2 n2) p q w) := by
  have dl1 : -9223372036854775808 ≤ d + 1 := by omega
  have dl2 : d + 1 ≤ 9223372036854775807 := by omega
  have t1 : decide (((b : Nat) : Int) < 1000) = true := by rw [decide_eq_true_eq]; omega
  have t2 : decide (d ≤ 16) = true := by rw [decide_eq_true_eq]; omega
  clear hlt hdp
  have HIT := Lib.hid hit
  clear hit hd0
  obtain ⟨RES, hRES⟩ : ∃ RES : DR VT, RES = (match decI dec false (b + 1) l1 with | .err e => .err e | .ok r l2 n2 => .ok (.mk 4 0 ⟨#[]⟩ r.1 r.2) l2 n2) := ⟨_, rfl⟩
  rw [← hRES]
  have HRES := Lib.hid hRES
  clear hRES
  obtain ⟨w1, hw1⟩ : ∃ w1, w1 = w.alloc (.cells #[.int .i64 0, .int .i64 0, .string ⟨#[]⟩, .slice none 0 0, .slice none 0 0] 26) := ⟨_, rfl⟩
  have b1 : Below w.heap.size w w1 := by rw [hw1]; exact below_one _ _
  have R1 : Hid (Bk w1 w.heap.size 26 #[.int .i64 0, .int .i64 0, .string ⟨#[]⟩, .slice none 0 0, .slice none 0 0]) := Lib.hid (by rw [hw1]; exact Bk.new _ _ _)
  have W1 := Lib.hid (hr.below b1)
  have Q1 := Lib.hid (hq.below b1 hq.lt)
  have F1 : Hid (FrS (Two p q) w w1) := Lib.hid (FrS.of_below b1)
  have NQ := Lib.hid (hr.dec_ne hq)
  have NE : Hid (w.heap.size ≠ p ∧ w.heap.size ≠ q) := Lib.hid (by have h1 := hr.lt; have h2 := hq.lt; exact ⟨by omega, by omega⟩)
  have HW := Lib.hid hw1
  have c1 := Q1.out.cell 1
  change _ = some (Value.int .i64 (b : Nat)) at c1
  rw [hw1] at c1
  clear hr hq hw1 b1
  go_enter Try.func86, Try.ntmps86
  go_wp2_with fail
  rw [← HW.out]
  refine (wreq_any true W1.out Q1.out).mono ?_
  rintro e1 w2 ⟨rfl, hg, hr2⟩
  have Q2 := Lib.hid (Q1.out.grown hg (by intro e; injection e with e; exact NQ.out e))
  have R2 := Lib.hid (R1.out.grown hg (by intro e; injection e with e; exact NE.out.1 e))
  have F2 := Lib.hid (F1.out.trans (FrS.of_grown hg (Or.inl rfl)))
  have W2 := Lib.hid hr2
  clear hg hr2 c1
  have c1 := Q2.out.cell 1
  change _ = some (Value.int .i64 (b : Nat)) at c1
  have fz := Q2.out.frozen 1
  obtain ⟨w3, hw3⟩ : ∃ w3, w3 = w2.setCell ⟨q, 1, none⟩ (.int .i64 ((b : Nat) + 1)) := ⟨_, rfl⟩
  have g3 : w2.grownBy w3 (some q) := by rw [hw3]; exact turned _ _ _ _
  have Q3 : Hid (Bk w3 q 90 #[.pointer (some ⟨p, 0, none⟩), .int .i64 ((b + 1 : Nat) : Int)]) := Lib.hid (by rw [hw3]; exact Q2.out.put 1 _)
  have R3 := Lib.hid (R2.out.grown g3 (by intro e; injection e with e; exact NE.out.2 e))
  have F3 := Lib.hid (F2.out.trans (FrS.of_grown g3 (Or.inr rfl)))
  have W3 := Lib.hid (W2.out.other Q2.out (by decide) (Ne.symm NQ.out) g3)
  have HW3 := Lib.hid hw3
  clear hw3 g3
  go_wp2_with fail
  rw [← HW3.out]
  refine (wint_k hi W3.out Q3.out).mono ?_
  rintro e1 w4 ⟨rfl, hg, hr4⟩
  have Q4 := Lib.hid (Q3.out.grown hg (by intro e; injection e with e; exact NQ.out e))
  have R4 := Lib.hid (R3.out.grown hg (by intro e; injection e with e; exact NE.out.1 e))
  have F4 := Lib.hid (F3.out.trans (FrS.of_grown hg (Or.inl rfl)))
  have W4 := Lib.hid hr4
  clear hg hr4 c1 fz
  go_wp2_with fail
  refine (wreq_any true W4.out Q4.out).mono ?_
  rintro e1 w5 ⟨rfl, hg, hr5⟩
  have Q5 := Lib.hid (Q4.out.grown hg (by intro e; injection e with e; exact NQ.out e))
  have R5 := Lib.hid (R4.out.grown hg (by intro e; injection e with e; exact NE.out.1 e))
  have F5 := Lib.hid (F4.out.trans (FrS.of_grown hg (Or.inl rfl)))
  have W5 := Lib.hid hr5
  clear hg hr5
  go_upto_region 6 with fail
  obtain ⟨w6, hw6⟩ : ∃ w6, w6 = w5.alloc (.cells #[.int .i64 4, .int .i64 0, .string ⟨#[]⟩, .slice none 0 0, .slice none 0 0] 26) := ⟨_, rfl⟩
  have b6 : Below w5.heap.size w5 w6 := by rw [hw6]; exact below_one _ _
  have V6 : Hid (Bk w6 w5.heap.size 26 #[.int .i64 4, .int .i64 0, .string ⟨#[]⟩, .slice none 0 0, .slice none 0 0]) := Lib.hid (by rw [hw6]; exact Bk.new _ _ _)
  have R6 := Lib.hid (R5.out.below b6 R5.out.lt)
  have Q6 := Lib.hid (Q5.out.below b6 Q5.out.lt)
  have W6 := Lib.hid (W5.out.below b6)
  have F6 : Hid (FrS (Two p q) w w6) := Lib.hid (F5.out.trans (FrS.of_below b6))
  have NG : Hid (w5.heap.size ≠ p) := Lib.hid (by have := W5.out.lt; omega)
  have NG2 : Hid (w5.heap.size ≠ q ∧ w.heap.size < w5.heap.size) := Lib.hid (by have := Q5.out.lt; have := R5.out.lt; exact ⟨by omega, by omega⟩)
  rw [← hw6]
  clear hw6 b6
  have N6 : Hid (w.heap.size < w5.heap.size ∧ w5.heap.size < w6.heap.size) := Lib.hid ⟨NG2.out.2, V6.out.lt⟩
  go_wp2_with fail
  refine (HIT.out _ _ W6.out Q6.out V6.out).mono ?_
  rintro e1 w7 ⟨AI, nI, cI, AK, nK, cK, b7, rfl, hf7, Q7, hb7, V7, hst⟩
  have R7 := Lib.hid (hf7.out.bk R6.out (fun h => by rcases h with h | h | h; exact NE.out.1 h; exact NE.out.2 h; have := N6.out; omega))
  have F7 : Hid (FrS (Two p q) w w7) := Lib.hid (F6.out.next hf7.out (fun i hi h => by rcases h with h | h | h; exact Or.inl h; exact Or.inr h; have := N6.out; omega))
  rcases hst with ⟨its, ks, l7, HEQ, W7, HLS⟩ | ⟨e7, l7, HEQ, he7, W7⟩
  · clear HIT
    have v0 := V7.out.cell 0
    change _ = some (Value.int .i64 4) at v0
    have v1 := V7.out.cell 1
    change _ = some (Value.int .i64 0) at v1
    have v2 := V7.out.cell 2
    change _ = some (Value.string ⟨#[]⟩) at v2
    have v3 := V7.out.cell 3
    change _ = some (Value.slice AI nI cI) at v3
    have v4 := V7.out.cell 4
    change _ = some (Value.slice AK nK cK) at v4
    have r0 := R7.out.cell 0
    have r1 := R7.out.cell 1
    have r2 := R7.out.cell 2
    have r3 := R7.out.cell 3
    have r4 := R7.out.cell 4
    have f0 := R7.out.frozen 0
    have f1 := R7.out.frozen 1
    have f2 := R7.out.frozen 2
    have f3 := R7.out.frozen 3
    have f4 := R7.out.frozen 4
    go_wp2
    obtain ⟨wf, hwf⟩ : ∃ wf, wf = ((((w7.setCell ⟨w.heap.size, 0, none⟩ (.int .i64 4)).setCell ⟨w.heap.size, 1, none⟩ (.int .i64 0)).setCell ⟨w.heap.size, 2, none⟩ (.string ⟨#[]⟩)).setCell ⟨w.heap.size, 3, none⟩ (.slice AI nI cI)).setCell ⟨w.heap.size, 4, none⟩ (.slice AK nK cK) := ⟨_, rfl⟩
    have GF : Hid (w7.grownBy wf (some w.heap.size)) := Lib.hid (by rw [hwf]; exact grownBy_trans (grownBy_trans (grownBy_trans (grownBy_trans (turned w7 w.heap.size 0 _) (turned _ w.heap.size 1 _)) (turned _ w.heap.size 2 _)) (turned _ w.heap.size 3 _)) (turned _ w.heap.size 4 _))
    have RF : Hid (Bk wf w.heap.size 26 #[.int .i64 4, .int .i64 0, .string ⟨#[]⟩, .slice AI nI cI, .slice AK nK cK]) := Lib.hid (by rw [hwf]; exact ((((R7.out.put 0 _).put 1 _).put 2 _).put 3 _).put 4 _)
    have QF := Lib.hid (Q7.out.grown GF.out (by intro e; injection e with e; exact NE.out.2 e.symm))
    have WF := Lib.hid (W7.out.other R7.out (by decide) (Ne.symm NE.out.1) GF.out)
    have FF : Hid (FrS (Two p q) w wf) := Lib.hid (F7.out.next (S' := fun b => b = w.heap.size) (FrS.of_grown GF.out rfl) (fun i hi e => by omega))
    rw [← hwf]
    refine bodyPost_ret (results_cell_row rfl _ _ w.heap.size 26 _ (0, 0) _ rfl RF.out Try.underlying26 rfl (by kernel_rfl)) rfl ?_
    have hr := HRES.out
    rw [HEQ.out] at hr
    rw [hr]
    refine ⟨_, _, _, _, _, _, _, _, _, b7, rfl, FF, QF, hb7, Or.inl ⟨_, l7, Lib.hid rfl, WF, Lib.hid (HLS.out.keep (fun a ha => ?_) (fun a ha => ?_))⟩⟩
    · exact GF.out.cell_far a ha.2 (fun e => by injection e with e; have := ha.1; have := N6.out; omega)
    · have := ha.1; have := ha.2; have := N6.out; have := GF.out.size; exact ⟨by omega, by omega⟩
  · have HE7 := Lib.hid he7
    clear he7 HIT
    have v0 := V7.out.cell 0
    change _ = some (Value.int .i64 4) at v0
    have v1 := V7.out.cell 1
    change _ = some (Value.int .i64 0) at v1
    have v2 := V7.out.cell 2
    change _ = some (Value.string ⟨#[]⟩) at v2
    have v3 := V7.out.cell 3
    change _ = some (Value.slice AI nI cI) at v3
    have v4 := V7.out.cell 4
    change _ = some (Value.slice AK nK cK) at v4
    have r0 := R7.out.cell 0
    have r1 := R7.out.cell 1
    have r2 := R7.out.cell 2
    have r3 := R7.out.cell 3
    have r4 := R7.out.cell 4
    have f0 := R7.out.frozen 0
    have f1 := R7.out.frozen 1
    have f2 := R7.out.frozen 2
    have f3 := R7.out.frozen 3
    have f4 := R7.out.frozen 4
    go_wp2
    obtain ⟨wf, hwf⟩ : ∃ wf, wf = ((((w7.setCell ⟨w.heap.size, 0, none⟩ (.int .i64 4)).setCell ⟨w.heap.size, 1, none⟩ (.int .i64 0)).setCell ⟨w.heap.size, 2, none⟩ (.string ⟨#[]⟩)).setCell ⟨w.heap.size, 3, none⟩ (.slice AI nI cI)).setCell ⟨w.heap.size, 4, none⟩ (.slice AK nK cK) := ⟨_, rfl⟩
    have GF : Hid (w7.grownBy wf (some w.heap.size)) := Lib.hid (by rw [hwf]; exact grownBy_trans (grownBy_trans (grownBy_trans (grownBy_trans (turned w7 w.heap.size 0 _) (turned _ w.heap.size 1 _)) (turned _ w.heap.size 2 _)) (turned _ w.heap.size 3 _)) (turned _ w.heap.size 4 _))
    have RF : Hid (Bk wf w.heap.size 26 #[.int .i64 4, .int .i64 0, .string ⟨#[]⟩, .slice AI nI cI, .slice AK nK cK]) := Lib.hid (by rw [hwf]; exact ((((R7.out.put 0 _).put 1 _).put 2 _).put 3 _).put 4 _)
    have QF := Lib.hid (Q7.out.grown GF.out (by intro e; injection e with e; exact NE.out.2 e.symm))
    have WF := Lib.hid (W7.out.other R7.out (by decide) (Ne.symm NE.out.1) GF.out)
    have FF : Hid (FrS (Two p q) w wf) := Lib.hid (F7.out.next (S' := fun b => b = w.heap.size) (FrS.of_grown GF.out rfl) (fun i hi e => by omega))
    rw [← hwf]
    refine bodyPost_ret (results_cell_row rfl _ _ w.heap.size 26 _ (0, 0) _ rfl RF.out Try.underlying26 rfl (by kernel_rfl)) rfl ?_
    have hr := HRES.out
    rw [HEQ.out] at hr
    rw [hr]
    exact ⟨_, _, _, _, _, _, _, _, _, b7, rfl, FF, QF, hb7, Or.inr ⟨e7, l7, Lib.hid rfl, HE7.out, WF⟩⟩

set_option maxRecDepth 100000 in
set_option maxHeartbeats 4000000 in
theorem dv_5 {w : World} {p q b : Nat} {l : List UInt8} {d : Int} {l1 : List UInt8} {dec : Nat → List UInt8 → DR VT} (hr : WRd w p l 0) (hq : Bk w q 90 #[.pointer (some ⟨p, 0, none⟩), .int .i64 (b : Nat)]) (hb : b ≤ 1000) (hlt : b < 1000) (hdp : d ≤ 16) (hd0 : 0 ≤ d) (hi : intA l = (5, l1, 0))
    (hit : ∀ (W : World) (g : Nat), WRd W p l1 0 → Bk W q 90 #[.pointer (some ⟨p, 0, none⟩), .int .i64 ((b + 1 : Nat) : Int)] → Bk W g 26 #[.int .i64 5, .int .i64 0, .string ⟨#[]⟩, .slice none 0 0, .slice none 0 0] → Calls Try.prog 113 #[.pointer (some ⟨q, 0, none⟩), .pointer (some ⟨g, 0, none⟩), .int .i64 (d + 1)] W (ItsP WRd 90 (decI dec true (b + 1) l1) 5 p q g W)) :
    Calls Try.prog 86 #[.pointer (some ⟨q, 0, none⟩), .int .i64 d] w (DecP WRd 90 (match decI dec true (b + 1) l1 with | .err e => .err e | .ok r l2 n2 => .ok (.mk 5 0 ⟨#[]⟩ r.1 r.2) l2 n2) p q w) := by
  have dl1 : -9223372036854775808 ≤ d + 1 := by omega
  have dl2 : d + 1 ≤ 9223372036854775807 := by omega
  have t1 : decide (((b : Nat) : Int) < 1000) = true := by rw [decide_eq_true_eq]; omega
  have t2 : decide (d ≤ 16) = true := by rw [decide_eq_true_eq]; omega
  clear hlt hdp
  have HIT := Lib.hid hit
  clear hit hd0
  obtain ⟨RES, hRES⟩ : ∃ RES : DR VT, RES = (match decI dec true (b + 1) l1 with | .err e => .err e | .ok r l2 n2 => .ok (.mk 5 0 ⟨#[]⟩ r.1 r.2) l2 n2) := ⟨_, rfl⟩
  rw [← hRES]
  have HRES := Lib.hid hRES
  clear hRES
  obtain ⟨w1, hw1⟩ : ∃ w1, w1 = w.alloc (.cells #[.int .i64 0, .int .i64 0, .string ⟨#[]⟩, .slice none 0 0, .slice none 0 0] 26) := ⟨_, rfl⟩
  have b1 : Below w.heap.size w w1 := by rw [hw1]; exact below_one _ _
  have R1 : Hid (Bk w1 w.heap.size 26 #[.int .i64 0, .int .i64 0, .string ⟨#[]⟩, .slice none 0 0, .slice none 0 0]) := Lib.hid (by rw [hw1]; exact Bk.new _ _ _)
  have W1 := Lib.hid (hr.below b1)
  have Q1 := Lib.hid (hq.below b1 hq.lt)
  have F1 : Hid (FrS (Two p q) w w1) := Lib.hid (FrS.of_below b1)
  have NQ := Lib.hid (hr.dec_ne hq)
  have NE : Hid (w.heap.size ≠ p ∧ w.heap.size ≠ q) := Lib.hid (by have h1 := hr.lt; have h2 := hq.lt; exact ⟨by omega, by omega⟩)
  have HW := Lib.hid hw1
  have c1 := Q1.out.cell 1
  change _ = some (Value.int .i64 (b : Nat)) at c1
  rw [hw1] at c1
  clear hr hq hw1 b1
  go_enter Try.func86, Try.ntmps86
  go_wp2_with fail
  rw [← HW.out]
  refine (wreq_any true W1.out Q1.out).mono ?_
  rintro e1 w2 ⟨rfl, hg, hr2⟩
  have Q2 := Lib.hid (Q1.out.grown hg (by intro e; injection e with e; exact NQ.out e))
  have R2 := Lib.hid (R1.out.grown hg (by intro e; injection e with e; exact NE.out.1 e))
  have F2 := Lib.hid (F1.out.trans (FrS.of_grown hg (Or.inl rfl)))
  have W2 := Lib.hid hr2
  clear hg hr2 c1
  have c1 := Q2.out.cell 1
  change _ = some (Value.int .i64 (b : Nat)) at c1
  have fz := Q2.out.frozen 1
  obtain ⟨w3, hw3⟩ : ∃ w3, w3 = w2.setCell ⟨q, 1, none⟩ (.int .i64 ((b : Nat) + 1)) := ⟨_, rfl⟩
  have g3 : w2.grownBy w3 (some q) := by rw [hw3]; exact turned _ _ _ _
  have Q3 : Hid (Bk w3 q 90 #[.pointer (some ⟨p, 0, none⟩), .int .i64 ((b + 1 : Nat) : Int)]) := Lib.hid (by rw [hw3]; exact Q2.out.put 1 _)
  have R3 := Lib.hid (R2.out.grown g3 (by intro e; injection e with e; exact NE.out.2 e))
  have F3 := Lib.hid (F2.out.trans (FrS.of_grown g3 (Or.inr rfl)))
  have W3 := Lib.hid (W2.out.other Q2.out (by decide) (Ne.symm NQ.out) g3)
  have HW3 := Lib.hid hw3
  clear hw3 g3
  go_wp2_with fail
  rw [← HW3.out]
  refine (wint_k hi W3.out Q3.out).mono ?_
  rintro e1 w4 ⟨rfl, hg, hr4⟩
  have Q4 := Lib.hid (Q3.out.grown hg (by intro e; injection e with e; exact NQ.out e))
  have R4 := Lib.hid (R3.out.grown hg (by intro e; injection e with e; exact NE.out.1 e))
  have F4 := Lib.hid (F3.out.trans (FrS.of_grown hg (Or.inl rfl)))
  have W4 := Lib.hid hr4
  clear hg hr4 c1 fz
  go_wp2_with fail
  refine (wreq_any true W4.out Q4.out).mono ?_
  rintro e1 w5 ⟨rfl, hg, hr5⟩
  have Q5 := Lib.hid (Q4.out.grown hg (by intro e; injection e with e; exact NQ.out e))
  have R5 := Lib.hid (R4.out.grown hg (by intro e; injection e with e; exact NE.out.1 e))
  have F5 := Lib.hid (F4.out.trans (FrS.of_grown hg (Or.inl rfl)))
  have W5 := Lib.hid hr5
  clear hg hr5
  go_upto_region 6 with fail
  obtain ⟨w6, hw6⟩ : ∃ w6, w6 = w5.alloc (.cells #[.int .i64 5, .int .i64 0, .string ⟨#[]⟩, .slice none 0 0, .slice none 0 0] 26) := ⟨_, rfl⟩
  have b6 : Below w5.heap.size w5 w6 := by rw [hw6]; exact below_one _ _
  have V6 : Hid (Bk w6 w5.heap.size 26 #[.int .i64 5, .int .i64 0, .string ⟨#[]⟩, .slice none 0 0, .slice none 0 0]) := Lib.hid (by rw [hw6]; exact Bk.new _ _ _)
  have R6 := Lib.hid (R5.out.below b6 R5.out.lt)
  have Q6 := Lib.hid (Q5.out.below b6 Q5.out.lt)
  have W6 := Lib.hid (W5.out.below b6)
  have F6 : Hid (FrS (Two p q) w w6) := Lib.hid (F5.out.trans (FrS.of_below b6))
  have NG : Hid (w5.heap.size ≠ p) := Lib.hid (by have := W5.out.lt; omega)
  have NG2 : Hid (w5.heap.size ≠ q ∧ w.heap.size < w5.heap.size) := Lib.hid (by have := Q5.out.lt; have := R5.out.lt; exact ⟨by omega, by omega⟩)
  rw [← hw6]
  clear hw6 b6
  have N6 : Hid (w.heap.size < w5.heap.size ∧ w5.heap.size < w6.heap.size) := Lib.hid ⟨NG2.out.2, V6.out.lt⟩
  go_wp2_with fail
  refine (HIT.out _ _ W6.out Q6.out V6.out).mono ?_
  rintro e1 w7 ⟨AI, nI, cI, AK, nK, cK, b7, rfl, hf7, Q7, hb7, V7, hst⟩
  have R7 := Lib.hid (hf7.out.bk R6.out (fun h => by rcases h with h | h | h; exact NE.out.1 h; exact NE.out.2 h; have := N6.out; omega))
  have F7 : Hid (FrS (Two p q) w w7) := Lib.hid (F6.out.next hf7.out (fun i hi h => by rcases h with h | h | h; exact Or.inl h; exact Or.inr h; have := N6.out; omega))
  rcases hst with ⟨its, ks, l7, HEQ, W7, HLS⟩ | ⟨e7, l7, HEQ, he7, W7⟩
  · clear HIT
    have v0 := V7.out.cell 0
    change _ = some (Value.int .i64 5) at v0
    have v1 := V7.out.cell 1
    change _ = some (Value.int .i64 0) at v1
    have v2 := V7.out.cell 2
    change _ = some (Value.string ⟨#[]⟩) at v2
    have v3 := V7.out.cell 3
    change _ = some (Value.slice AI nI cI) at v3
    have v4 := V7.out.cell 4
    change _ = some (Value.slice AK nK cK) at v4
    have r0 := R7.out.cell 0
    have r1 := R7.out.cell 1
    have r2 := R7.out.cell 2
    have r3 := R7.out.cell 3
    have r4 := R7.out.cell 4
    have f0 := R7.out.frozen 0
    have f1 := R7.out.frozen 1
    have f2 := R7.out.frozen 2
    have f3 := R7.out.frozen 3
    have f4 := R7.out.frozen 4
    go_wp2
    obtain ⟨wf, hwf⟩ : ∃ wf, wf = ((((w7.setCell ⟨w.heap.size, 0, none⟩ (.int .i64 5)).setCell ⟨w.heap.size, 1, none⟩ (.int .i64 0)).setCell ⟨w.heap.size, 2, none⟩ (.string ⟨#[]⟩)).setCell ⟨w.heap.size, 3, none⟩ (.slice AI nI cI)).setCell ⟨w.heap.size, 4, none⟩ (.slice AK nK cK) := ⟨_, rfl⟩
    have GF : Hid (w7.grownBy wf (some w.heap.size)) := Lib.hid (by rw [hwf]; exact grownBy_trans (grownBy_trans (grownBy_trans (grownBy_trans (turned w7 w.heap.size 0 _) (turned _ w.heap.size 1 _)) (turned _ w.heap.size 2 _)) (turned _ w.heap.size 3 _)) (turned _ w.heap.size 4 _))
    have RF : Hid (Bk wf w.heap.size 26 #[.int .i64 5, .int .i64 0, .string ⟨#[]⟩, .slice AI nI cI, .slice AK nK cK]) := Lib.hid (by rw [hwf]; exact ((((R7.out.put 0 _).put 1 _).put 2 _).put 3 _).put 4 _)
    have QF := Lib.hid (Q7.out.grown GF.out (by intro e; injection e with e; exact NE.out.2 e.symm))
    have WF := Lib.hid (W7.out.other R7.out (by decide) (Ne.symm NE.out.1) GF.out)
    have FF : Hid (FrS (Two p q) w wf) := Lib.hid (F7.out.next (S' := fun b => b = w.heap.size) (FrS.of_grown GF.out rfl) (fun i hi e => by omega))
    rw [← hwf]
    refine bodyPost_ret (results_cell_row rfl _ _ w.heap.size 26 _ (0, 0) _ rfl RF.out Try.underlying26 rfl (by kernel_rfl)) rfl ?_
    have hr := HRES.out
    rw [HEQ.out] at hr
    rw [hr]
    refine ⟨_, _, _, _, _, _, _, _, _, b7, rfl, FF, QF, hb7, Or.inl ⟨_, l7, Lib.hid rfl, WF, Lib.hid (HLS.out.keep (fun a ha => ?_) (fun a ha => ?_))⟩⟩
    · exact GF.out.cell_far a ha.2 (fun e => by injection e with e; have := ha.1; have := N6.out; omega)
    · have := ha.1; have := ha.2; have := N6.out; have := GF.out.size; exact ⟨by omega, by omega⟩
  · have HE7 := Lib.hid he7
    clear he7 HIT
    have v0 := V7.out.cell 0
    change _ = some (Value.int .i64 5) at v0
    have v1 := V7.out.cell 1
    change _ = some (Value.int .i64 0) at v1
    have v2 := V7.out.cell 2
    change _ = some (Value.string ⟨#[]⟩) at v2
    have v3 := V7.out.cell 3
    change _ = some (Value.slice AI nI cI) at v3
    have v4 := V7.out.cell 4
    change _ = some (Value.slice AK nK cK) at v4
    have r0 := R7.out.cell 0
    have r1 := R7.out.cell 1
    have r2 := R7.out.cell 2
    have r3 := R7.out.cell 3
    have r4 := R7.out.cell 4
    have f0 := R7.out.frozen 0
    have f1 := R7.out.frozen 1
    have f2 := R7.out.frozen 2
    have f3 := R7.out.frozen 3
    have f4 := R7.out.frozen 4
    go_wp2
    obtain ⟨wf, hwf⟩ : ∃ wf, wf = ((((w7.setCell ⟨w.heap.size, 0, none⟩ (.int .i64 5)).setCell ⟨w.heap.size, 1, none⟩ (.int .i64 0)).setCell ⟨w.heap.size, 2, none⟩ (.string ⟨#[]⟩)).setCell ⟨w.heap.size, 3, none⟩ (.slice AI nI cI)).setCell ⟨w.heap.size, 4, none⟩ (.slice AK nK cK) := ⟨_, rfl⟩
    have GF : Hid (w7.grownBy wf (some w.heap.size)) := Lib.hid (by rw [hwf]; exact grownBy_trans (grownBy_trans (grownBy_trans (grownBy_trans (turned w7 w.heap.size 0 _) (turned _ w.heap.size 1 _)) (turned _ w.heap.size 2 _)) (turned _ w.heap.size 3 _)) (turned _ w.heap.size 4 _))
    have RF : Hid (Bk wf w.heap.size 26 #[.int .i64 5, .int .i64 0, .string ⟨#[]⟩, .slice AI nI cI, .slice AK nK cK]) := Lib.hid (by rw [hwf]; exact ((((R7.out.put 0 _).put 1 _).put 2 _).put 3 _).put 4 _)
    have QF := Lib.hid (Q7.out.grown GF.out (by intro e; injection e with e; exact NE.out.2 e.symm))
    have WF := Lib.hid (W7.out.other R7.out (by decide) (Ne.symm NE.out.1) GF.out)
    have FF : Hid (FrS (Two p q) w wf) := Lib.hid (F7.out.next (S' := fun b => b = w.heap.size) (FrS.of_grown GF.out rfl) (fun i hi e => by omega))
    rw [← hwf]
    refine bodyPost_ret (results_cell_row rfl _ _ w.heap.size 26 _ (0, 0) _ rfl RF.out Try.underlying26 rfl (by kernel_rfl)) rfl ?_
    have hr := HRES.out
    rw [HEQ.out] at hr
    rw [hr]
    exact ⟨_, _, _, _, _, _, _, _, _, b7, rfl, FF, QF, hb7, Or.inr ⟨e7, l7, Lib.hid rfl, HE7.out, WF⟩⟩
end Go.Proofs.Ytidinbeanaifmaa
namespace Go.Proofs.Ytidinbeanaifmaa
open Go.RowKit

/-! ### one element added or replaced -/
def stepW (key : ByteArray) (x : VT) (s : Bool × List (ByteArray × VT)) (p : ByteArray × VT) : Bool × List (ByteArray × VT) :=
  if p.1 = key then (true, if s.1 = true then s.2 else s.2 ++ [(key, x)])
  else if less p.1 key = true ∨ s.1 = true then (s.1, s.2 ++ [p])
  else (true, (s.2 ++ [(key, x)]) ++ [p])
def foldW (key : ByteArray) (x : VT) (ps : List (ByteArray × VT)) : Bool × List (ByteArray × VT) := ps.foldl (stepW key x) (false, [])
def endW (key : ByteArray) (x : VT) (s : Bool × List (ByteArray × VT)) : List (ByteArray × VT) := if s.1 = true then s.2 else s.2 ++ [(key, x)]
def withL (key : ByteArray) (x : VT) (ps : List (ByteArray × VT)) : List (ByteArray × VT) := endW key x (foldW key x ps)

section
variable {key : ByteArray} {x : VT} {l : List (ByteArray × VT)} {p : ByteArray × VT}
theorem stepW_eq_done (h : p.1 = key) : stepW key x (true, l) p = (true, l) := by unfold stepW; rw [if_pos h, if_pos rfl]
theorem stepW_eq_new (h : p.1 = key) : stepW key x (false, l) p = (true, l ++ [(key, x)]) := by unfold stepW; rw [if_pos h]; rfl
theorem stepW_less (h : p.1 ≠ key) (hl : less p.1 key = true) (b : Bool) : stepW key x (b, l) p = (b, l ++ [p]) := by unfold stepW; rw [if_neg h, if_pos (Or.inl hl)]
theorem stepW_done (h : p.1 ≠ key) : stepW key x (true, l) p = (true, l ++ [p]) := by unfold stepW; rw [if_neg h, if_pos (Or.inr rfl)]
theorem stepW_new (h : p.1 ≠ key) (hl : less p.1 key = false) : stepW key x (false, l) p = (true, (l ++ [(key, x)]) ++ [p]) := by
  unfold stepW
  rw [if_neg h, if_neg (by rw [hl]; simp)]
end
theorem foldW_snoc (key : ByteArray) (x : VT) (l : List (ByteArray × VT)) (p : ByteArray × VT) : foldW key x (l ++ [p]) = stepW key x (foldW key x l) p := by
  unfold foldW
  rw [List.foldl_append]
  rfl
theorem stepW_len (key : ByteArray) (x : VT) (s : Bool × List (ByteArray × VT)) (p : ByteArray × VT) : (stepW key x s p).2.length ≤ s.2.length + 2 := by
  unfold stepW
  split
  · split <;> simp
  · split <;> simp
theorem foldW_len (key : ByteArray) (x : VT) (l : List (ByteArray × VT)) : (foldW key x l).2.length ≤ 2 * l.length := by
  have : ∀ (l : List (ByteArray × VT)) (s : Bool × List (ByteArray × VT)), (l.foldl (stepW key x) s).2.length ≤ s.2.length + 2 * l.length := fun l => by
    induction l with
    | nil => intro s; simp
    | cons p r ih =>
      intro s
      have h1 := ih (stepW key x s p)
      have h2 := stepW_len key x s p
      rw [List.foldl_cons, List.length_cons]
      omega
  have h := this l (false, [])
  simpa [foldW] using h

/-- the keys stay strings that there are -/
theorem withL_keys {key : ByteArray} {x : VT} {l : List (ByteArray × VT)} (hk : key.size ≤ 9223372036854775807) (h : ∀ p ∈ l, p.1.size ≤ 9223372036854775807) : ∀ p ∈ withL key x l, p.1.size ≤ 9223372036854775807 := by
  have step : ∀ (s : Bool × List (ByteArray × VT)) (p : ByteArray × VT), (∀ q ∈ s.2, q.1.size ≤ 9223372036854775807) → p.1.size ≤ 9223372036854775807 → ∀ q ∈ (stepW key x s p).2, q.1.size ≤ 9223372036854775807 := by
    intro s p h1 h2 q hq
    unfold stepW at hq
    split at hq
    · split at hq
      · exact h1 q hq
      · rcases List.mem_append.1 hq with hq | hq
        · exact h1 q hq
        · rw [List.mem_singleton.1 hq]; exact hk
    · split at hq
      · rcases List.mem_append.1 hq with hq | hq
        · exact h1 q hq
        · rw [List.mem_singleton.1 hq]; exact h2
      · rcases List.mem_append.1 hq with hq | hq
        · rcases List.mem_append.1 hq with hq | hq
          · exact h1 q hq
          · rw [List.mem_singleton.1 hq]; exact hk
        · rw [List.mem_singleton.1 hq]; exact h2
  have all : ∀ (l : List (ByteArray × VT)) (s : Bool × List (ByteArray × VT)), (∀ q ∈ s.2, q.1.size ≤ 9223372036854775807) → (∀ p ∈ l, p.1.size ≤ 9223372036854775807) → ∀ q ∈ (l.foldl (stepW key x) s).2, q.1.size ≤ 9223372036854775807 := by
    intro l
    induction l with
    | nil => intro s h1 _; exact h1
    | cons p r ih => intro s h1 h2; exact ih _ (step s p h1 (h2 p List.mem_cons_self)) (fun q hq => h2 q (List.mem_cons_of_mem _ hq))
  intro p hp
  unfold withL endW at hp
  split at hp
  · exact all l (false, []) (fun _ hq => by cases hq) h p hp
  · rcases List.mem_append.1 hp with hp | hp
    · exact all l (false, []) (fun _ hq => by cases hq) h p hp
    · rw [List.mem_singleton.1 hp]; exact hk

/-! ### the place of the element -/
theorem less_irrefl (a : ByteArray) : less a a = false := bl_irrefl _
theorem less_trans {a b c : ByteArray} (h : less a b = true) (k : less b c = true) : less a c = true := bl_trans _ _ _ h k
theorem less_asymm {a b : ByteArray} (h : less a b = true) : less b a = false := by
  cases k : less b a with
  | false => rfl
  | true => have := less_trans h k; rw [less_irrefl] at this; cases this
theorem less_ne {a b : ByteArray} (h : less a b = true) : a ≠ b := fun e => by rw [e, less_irrefl] at h; cases h
theorem less_tri {a b : ByteArray} (h : less a b = false) (hn : a ≠ b) : less b a = true := by
  rcases str_ways a b with ⟨h1, _⟩ | ⟨h1, _⟩ | ⟨_, _, _, h4, _⟩
  · rw [show less a b = true from h1] at h; cases h
  · exact absurd h1 hn
  · exact h4
/-- keys ascending, as a relation of neighbours and of all -/
def Asc (l : List (ByteArray × VT)) : Prop := l.Pairwise fun p q => less p.1 q.1 = true
theorem foldl_lower {key : ByteArray} {x : VT} : ∀ (A acc : List (ByteArray × VT)), (∀ p ∈ A, less p.1 key = true) → A.foldl (stepW key x) (false, acc) = (false, acc ++ A)
  | [], acc, _ => by simp
  | p :: A, acc, h => by
    have hp := h p List.mem_cons_self
    rw [List.foldl_cons, stepW_less (less_ne hp) hp, foldl_lower A _ (fun q hq => h q (List.mem_cons_of_mem _ hq))]
    simp
theorem foldl_upper {key : ByteArray} {x : VT} : ∀ (B acc : List (ByteArray × VT)), (∀ p ∈ B, less key p.1 = true) → B.foldl (stepW key x) (true, acc) = (true, acc ++ B)
  | [], acc, _ => by simp
  | p :: B, acc, h => by
    have hp := h p List.mem_cons_self
    rw [List.foldl_cons, stepW_done (Ne.symm (less_ne hp)), foldl_upper B _ (fun q hq => h q (List.mem_cons_of_mem _ hq))]
    simp
/-- where the key is not there -/
theorem withL_new {key : ByteArray} {x : VT} {A B : List (ByteArray × VT)} (hA : ∀ p ∈ A, less p.1 key = true) (hB : ∀ p ∈ B, less key p.1 = true) : withL key x (A ++ B) = A ++ (key, x) :: B := by
  unfold withL foldW
  rw [List.foldl_append, foldl_lower A [] hA, List.nil_append]
  cases B with
  | nil => simp [endW]
  | cons b B =>
    have hb := hB b List.mem_cons_self
    rw [List.foldl_cons, stepW_new (Ne.symm (less_ne hb)) (less_asymm hb), foldl_upper B _ (fun q hq => hB q (List.mem_cons_of_mem _ hq))]
    simp [endW]
/-- where it is -/
theorem withL_old {key : ByteArray} {x y : VT} {A B : List (ByteArray × VT)} (hA : ∀ p ∈ A, less p.1 key = true) (hB : ∀ p ∈ B, less key p.1 = true) : withL key x (A ++ (key, y) :: B) = A ++ (key, x) :: B := by
  unfold withL foldW
  rw [List.foldl_append, foldl_lower A [] hA, List.nil_append, List.foldl_cons, stepW_eq_new (p := (key, y)) rfl, foldl_upper B _ hB]
  simp [endW]
/-- ascending pairs part at a key that is not among them -/
theorem asc_part {key : ByteArray} : ∀ {l : List (ByteArray × VT)}, Asc l → (∀ p ∈ l, p.1 ≠ key) → ∃ A B, l = A ++ B ∧ (∀ p ∈ A, less p.1 key = true) ∧ (∀ p ∈ B, less key p.1 = true)
  | [], _, _ => ⟨[], [], rfl, (fun _ h => by cases h), (fun _ h => by cases h)⟩
  | p :: l, h, hn => by
    obtain ⟨h1, h2⟩ := List.pairwise_cons.1 h
    have hp := hn p List.mem_cons_self
    cases hl : less p.1 key with
    | true =>
      obtain ⟨A, B, rfl, hA, hB⟩ := asc_part h2 (fun q hq => hn q (List.mem_cons_of_mem _ hq))
      refine ⟨p :: A, B, rfl, fun q hq => ?_, hB⟩
      rcases List.mem_cons.1 hq with rfl | hq
      · exact hl
      · exact hA q hq
    | false =>
      have hk := less_tri hl hp
      refine ⟨[], p :: l, rfl, (fun _ h => by cases h), fun q hq => ?_⟩
      rcases List.mem_cons.1 hq with rfl | hq
      · exact hk
      · exact less_trans hk (h1 q hq)
theorem asc_join {key : ByteArray} {x : VT} {A B : List (ByteArray × VT)} (h : Asc (A ++ B)) (hA : ∀ p ∈ A, less p.1 key = true) (hB : ∀ p ∈ B, less key p.1 = true) : Asc (A ++ (key, x) :: B) := by
  unfold Asc at h ⊢
  rw [List.pairwise_append] at h ⊢
  obtain ⟨h1, h2, h3⟩ := h
  refine ⟨h1, List.pairwise_cons.2 ⟨hB, h2⟩, fun a ha b hb => ?_⟩
  rcases List.mem_cons.1 hb with rfl | hb
  · exact hA a ha
  · exact h3 a ha b hb

/-! ### a map of pairs -/
def hasK (acc : List (ByteArray × VT)) (key : ByteArray) : Bool := acc.any fun p => decide (p.1 = key)
def goM : List (ByteArray × VT) → List (ByteArray × VT) → Option (List (ByteArray × VT))
  | acc, [] => some acc
  | acc, p :: r => if hasK acc p.1 = true then none else goM (withL p.1 p.2 acc) r
theorem goM_snoc (p : ByteArray × VT) : ∀ (l acc : List (ByteArray × VT)), goM acc (l ++ [p]) = (goM acc l).bind fun a => if hasK a p.1 = true then none else some (withL p.1 p.2 a)
  | [], acc => by
    rw [List.nil_append]
    simp only [goM, Option.bind_some]
  | q :: l, acc => by
    rw [List.cons_append, goM, goM]
    split
    · rfl
    · exact goM_snoc p l _
theorem goM_none_append (r : List (ByteArray × VT)) : ∀ (l acc : List (ByteArray × VT)), goM acc l = none → goM acc (l ++ r) = none
  | [], acc, h => by simp [goM] at h
  | q :: l, acc, h => by
    rw [List.cons_append, goM]
    rw [goM] at h
    split
    · rfl
    · rename_i hh
      rw [if_neg hh] at h
      exact goM_none_append r l _ h
theorem hasK_iff {acc : List (ByteArray × VT)} {key : ByteArray} : hasK acc key = true ↔ ∃ p ∈ acc, p.1 = key := by
  unfold hasK
  rw [List.any_eq_true]
  simp
theorem hasK_no {acc : List (ByteArray × VT)} {key : ByteArray} (h : hasK acc key = false) : ∀ p ∈ acc, p.1 ≠ key := fun p hp e => by
  rw [hasK_iff.2 ⟨p, hp, e⟩] at h
  cases h
theorem goM_some : ∀ (l acc r : List (ByteArray × VT)), Asc acc → goM acc l = some r → Asc r ∧ r.Perm (acc ++ l)
  | [], acc, r, ha, h => by
    simp only [goM, Option.some.injEq] at h
    subst h
    simpa using ha
  | p :: l, acc, r, ha, h => by
    rw [goM] at h
    cases hk : hasK acc p.1 with
    | true => rw [hk] at h; simp at h
    | false =>
      rw [hk] at h
      obtain ⟨A, B, rfl, hA, hB⟩ := asc_part ha (hasK_no hk)
      have h := (if_neg (show ¬ (false = true) by decide)).symm.trans h
      rw [withL_new hA hB] at h
      obtain ⟨h1, h2⟩ := goM_some l _ r (asc_join ha hA hB) h
      refine ⟨h1, h2.trans ?_⟩
      simp only [List.append_assoc, List.cons_append]
      exact (List.perm_middle.symm.append_left A).trans (by
        have : A ++ (B ++ p :: l) = A ++ B ++ (p :: l) := by simp
        exact List.Perm.refl _) |>.trans (List.Perm.refl _)
theorem goM_none : ∀ (l acc : List (ByteArray × VT)), Asc acc → goM acc l = none → ¬ ((acc ++ l).map (·.1)).Nodup
  | [], acc, _, h => by simp [goM] at h
  | p :: l, acc, ha, h => by
    rw [goM] at h
    cases hk : hasK acc p.1 with
    | true =>
      intro hn
      obtain ⟨q, hq, e⟩ := hasK_iff.1 hk
      rw [List.map_append, List.nodup_append] at hn
      exact hn.2.2 q.1 (List.mem_map_of_mem hq) p.1 (by simp) e
    | false =>
      rw [hk] at h
      obtain ⟨A, B, rfl, hA, hB⟩ := asc_part ha (hasK_no hk)
      have h := (if_neg (show ¬ (false = true) by decide)).symm.trans h
      rw [withL_new hA hB] at h
      have h1 := goM_none l _ (asc_join ha hA hB) h
      intro hn
      apply h1
      have hp : ((A ++ (p.1, p.2) :: B ++ l).map (·.1)).Perm ((A ++ B ++ p :: l).map (·.1)) := by
        refine List.Perm.map _ ?_
        simp only [List.append_assoc, List.cons_append]
        exact List.Perm.append_left A List.perm_middle.symm
      exact hp.nodup_iff.2 hn

/-! ### ascending, in the code's words -/
theorem asc_nodup {l : List (ByteArray × VT)} (h : Asc l) : (l.map (·.1)).Nodup := by
  unfold List.Nodup
  rw [List.pairwise_map]
  exact h.imp fun hl => less_ne hl
theorem asc_eq : ∀ {l l' : List (ByteArray × VT)}, Asc l → Asc l' → l.Perm l' → l = l'
  | [], l', _, _, h => (List.nil_perm.1 h).symm
  | p :: l, [], _, _, h => absurd h.length_eq (by simp)
  | p :: l, q :: l', h1, h2, h => by
    obtain ⟨a1, a2⟩ := List.pairwise_cons.1 h1
    obtain ⟨b1, b2⟩ := List.pairwise_cons.1 h2
    have e : p = q := by
      rcases List.mem_cons.1 (h.mem_iff.1 List.mem_cons_self) with e | hp
      · exact e
      · rcases List.mem_cons.1 (h.mem_iff.2 (List.mem_cons_self (a := q) (l := l'))) with e | hq
        · exact e.symm
        · have := less_trans (a1 q hq) (b1 p hp)
          rw [less_irrefl] at this
          cases this
    subst e
    rw [asc_eq a2 b2 (List.Perm.cons_inv h)]
end Go.Proofs.Ytidinbeanaifmaa
namespace Go.Proofs.Ytidinbeanaifmaa
open Go.RowKit

/-- equal or not -/
noncomputable def eqB {α : Type} (a b : α) : Bool := @decide (a = b) (Classical.propDecidable _)
theorem eqB_true {α : Type} {a b : α} (h : a = b) : eqB a b = true := @decide_eq_true _ (Classical.propDecidable _) h
theorem eqB_false {α : Type} {a b : α} (h : a ≠ b) : eqB a b = false := @decide_eq_false _ (Classical.propDecidable _) h
theorem of_eqB {α : Type} {a b : α} (h : eqB a b = true) : a = b := @of_decide_eq_true _ (Classical.propDecidable _) h
theorem of_eqB_false {α : Type} {a b : α} (h : eqB a b = false) : a ≠ b := @of_decide_eq_false _ (Classical.propDecidable _) h

/-- a world that differs above w alone -/
structure BelowBy (w : World) where
  val : World
  below : Below w.heap.size w val
instance (w : World) : Inhabited (BelowBy w) := ⟨⟨w, Below.refl _ _⟩⟩
theorem wp_region_gives {P : Program} {id : Nat} {Q : Exit → Act → World → Prop} {a : Act} {w : World} {l : List Oper} (hm : P.follows .mixedOrders = true) (hB : Region.lexB .any l.toArray = true)
    (h : wpQuiet P l.toArray (fun w' => ∃ q : BelowBy w, w' = q.val) (fun a' => ∀ w', (∃ q : BelowBy w, w' = q.val) → Q .normal a' w') l a) : (Code.region id l.toArray true).wp P Q a w :=
  wp_region_quiet (C := fun w' => ∃ q : BelowBy w, w' = q.val) hm hB ⟨⟨{ w with drawn := w.drawn + 1 }, ⟨rfl, rfl, rfl, Nat.le_refl _, fun _ _ => rfl⟩⟩, rfl⟩ (by simpa using h)
theorem gives_by {P : Program} {f : FuncId} {args : Array Value} {w : World} {q : BelowBy w} {v : Value} (h : Calls P f args q.val (Gives v q.val)) :
    Calls P f args q.val fun e w'' => e = .returned v ∧ ∃ p : BelowBy w, w'' = p.val :=
  h.mono fun _ w' hh => ⟨hh.1, ⟨w', below_next q.below hh.2⟩, rfl⟩

section
variable {w : World}
theorem take_same {α : Type} {l r : List α} {j : Nat} {x y : α} (h : l[j]? = some x) (k : r[j]? = some y) (e : l.take j = r.take j) (hx : x = y) : l.take (j + 1) = r.take (j + 1) := by
  rw [List.take_add_one, List.take_add_one, h, k, e, hx]
theorem at_same {α : Type} {l r : List α} {j : Nat} {x y : α} (h : l[j]? = some x) (k : r[j]? = some y) (hx : x ≠ y) : l ≠ r := by
  intro e
  subst e
  rw [h] at k
  exact hx (by injection k)

set_option maxHeartbeats 1000000 in
theorem eqStrs_any (A : Option Addr) (c : Nat) (ks : List ByteArray) (A' : Option Addr) (c' : Nat) (ls : List ByteArray) (w : World) (hS : LiesS w (Lo w) A ks) (hS' : LiesS w (Lo w) A' ls) (hc : ks.length ≤ c) (hm : c ≤ 9223372036854775807) :
    Calls Try.prog 72 #[.slice A ks.length c, .slice A' ls.length c'] w (Gives (.bool (eqB ks ls)) w) := by
  have HS := Lib.hid hS
  have HS' := Lib.hid hS'
  clear hS hS'
  by_cases hlen : ks.length = ls.length
  · have t0 : (((ks.length : Nat) : Int) != ((ls.length : Nat) : Int)) = false := by rw [bne_eq_false_iff_eq]; omega
    go_enter Try.func72, Try.ntmps72
    go_wp2
    go_loopw [13, 5] (fun t _ wr => ∃ j q : Nat, j ≤ ks.length ∧ t = .int .i64 j ∧ wr = w.drewN q ∧ Hid (ks.take j = ls.take j)) (fun t _ _ => ks.length - (intOf t).toNat)
    case atStart => exact ⟨0, 0, by omega, rfl, rfl, Lib.hid rfl⟩
    case round =>
      obtain ⟨j, q, hjn, rfl, rfl, hr⟩ := hrel
      by_cases hlt : j < ks.length
      · have h1 : ks[j]? = some (ks.getD j ByteArray.empty) := by rw [List.getD_eq_getElem?_getD, List.getElem?_eq_getElem hlt]; rfl
        have h2 : ls[j]? = some (ls.getD j ByteArray.empty) := by rw [List.getD_eq_getElem?_getD, List.getElem?_eq_getElem (by omega)]; rfl
        obtain ⟨_, g, o, rfl, hg, e0⟩ := HS.out j _ h1
        obtain ⟨_, g', o', rfl, hg', e1⟩ := HS'.out j _ h2
        have hy := fun h => take_same h1 h2 hr.out h
        have hn := fun h => at_same h1 h2 h
        generalize ks.getD j ByteArray.empty = s at *
        generalize ls.getD j ByteArray.empty = t at *
        have HY := Lib.hid hy
        have HNN := Lib.hid hn
        clear hy hn h1 h2
        by_cases hst : s = t
        · have HR := Lib.hid (HY.out hst)
          have t1 : (s.toList == t.toList) = true := by rw [hst, beq_iff_eq]
          clear hst
          go_wp2_with fail
          go_quiet (fail)
          go_wp2
          go_roundw
          case rel => exact ⟨j + 1, _, by omega, by go_num, rfl, HR⟩
          case measure => simp [intOf]; omega
        · have HR := Lib.hid (eqB_false (HNN.out hst))
          have t1 : (s.toList == t.toList) = false := by rw [beq_eq_false_iff_ne]; exact fun e => hst (str_inj e)
          clear hst
          go_wp2_with fail
          go_quiet (fail)
          go_wp2
          go_ret
          exact ⟨ret_bool HR.out.symm, below_drew (below_drew (Below.refl _ _) _) _⟩
      · have HR : Hid (eqB ks ls = true) := Lib.hid (eqB_true (by
          have := hr.out
          rwa [show j = ks.length by omega, List.take_length, hlen, List.take_length] at this))
        go_wp2
        go_ret
        exact ⟨ret_bool HR.out.symm, below_drew (Below.refl _ _) _⟩
  · have t0 : (((ks.length : Nat) : Int) != ((ls.length : Nat) : Int)) = true := by rw [bne_iff_ne]; omega
    have HR := Lib.hid (eqB_false (fun e : ks = ls => hlen (by rw [e])))
    clear hlen
    go_enter Try.func72, Try.ntmps72
    go_wp2
    go_ret
    exact ⟨ret_bool HR.out.symm, Below.refl _ _⟩
end
end Go.Proofs.Ytidinbeanaifmaa
namespace Go.Proofs.Ytidinbeanaifmaa

def thn (c d : Int) : Int := if c = 0 then d else c
def cmpI (a b : Int) : Int := if a < b then -1 else if b < a then 1 else 0
def cmpS (a b : ByteArray) : Int := if less a b = true then -1 else if less b a = true then 1 else 0
mutual
def VT.cmp : VT → VT → Int
  | .mk k i t its ks, y => thn (cmpI k y.k) (thn (cmpI i y.i) (thn (cmpS t y.t) (cmps (decide (k = 5)) its ks y.its y.ks)))
def cmps (m : Bool) : List VT → List ByteArray → List VT → List ByteArray → Int
  | [], _, ys, _ => if ys.length = 0 then 0 else -1
  | x :: xs, ks, ys, ls => match ys with
    | [] => 1
    | y :: ys' => thn (if m then cmpS (ks.headD ByteArray.empty) (ls.headD ByteArray.empty) else 0) (thn (x.cmp y) (cmps m xs ks.tail ys' ls.tail))
end
theorem VT.cmp_mk (k i : Int) (t : ByteArray) (its : List VT) (ks : List ByteArray) (y : VT) :
    (VT.mk k i t its ks).cmp y = thn (cmpI k y.k) (thn (cmpI i y.i) (thn (cmpS t y.t) (cmps (decide (k = 5)) its ks y.its y.ks))) := by rw [VT.cmp]
theorem cmps_nil (m : Bool) (ks : List ByteArray) (ys : List VT) (ls : List ByteArray) : cmps m [] ks ys ls = if ys.length = 0 then 0 else -1 := by rw [cmps]
theorem cmps_out (m : Bool) (x : VT) (xs : List VT) (ks : List ByteArray) (ls : List ByteArray) : cmps m (x :: xs) ks [] ls = 1 := by rw [cmps]
theorem cmps_cons (m : Bool) (x : VT) (xs : List VT) (ks : List ByteArray) (y : VT) (ys : List VT) (ls : List ByteArray) :
    cmps m (x :: xs) ks (y :: ys) ls = thn (if m then cmpS (ks.headD ByteArray.empty) (ls.headD ByteArray.empty) else 0) (thn (x.cmp y) (cmps m xs ks.tail ys ls.tail)) := by rw [cmps]

theorem thn_zero {c d : Int} : thn c d = 0 ↔ c = 0 ∧ d = 0 := by
  unfold thn
  split
  · rename_i h; simp [h]
  · rename_i h; simp [h]
theorem thn_neg (c d : Int) : thn (-c) (-d) = -thn c d := by
  unfold thn
  by_cases h : c = 0
  · rw [if_pos h, if_pos (by omega)]
  · rw [if_neg h, if_neg (by omega)]
theorem thn_le {c d : Int} : thn c d ≤ 0 ↔ c < 0 ∨ (c = 0 ∧ d ≤ 0) := by
  unfold thn
  split
  · rename_i h; omega
  · rename_i h; omega
theorem cmpI_neg (a b : Int) : cmpI a b = -cmpI b a := by unfold cmpI; repeat' split <;> omega
theorem cmpI_zero {a b : Int} : cmpI a b = 0 ↔ a = b := by unfold cmpI; repeat' split <;> omega
theorem cmpI_trans {a b c : Int} (h : cmpI a b ≤ 0) (k : cmpI b c ≤ 0) : cmpI a c ≤ 0 := by unfold cmpI at *; repeat' split <;> repeat' split at h <;> repeat' split at k <;> omega
theorem cmpS_ways (a b : ByteArray) : (less a b = true ∧ less b a = false ∧ a ≠ b ∧ cmpS a b = -1) ∨ (a = b ∧ cmpS a b = 0) ∨ (less b a = true ∧ less a b = false ∧ a ≠ b ∧ cmpS a b = 1) := by
  unfold cmpS less
  rcases str_ways a b with ⟨s1, _, _, s4, s5⟩ | ⟨he, s1, _, _, s4⟩ | ⟨s1, _, _, s4, s5⟩
  · exact Or.inl ⟨s1, s4, s5, by rw [if_pos s1]⟩
  · exact Or.inr (Or.inl ⟨he, by rw [if_neg (by rw [s1]; decide), if_neg (by rw [s4]; decide)]⟩)
  · exact Or.inr (Or.inr ⟨s4, s1, s5, by rw [if_neg (by rw [s1]; decide), if_pos s4]⟩)
theorem cmpS_self (a : ByteArray) : cmpS a a = 0 := by
  rcases cmpS_ways a a with ⟨_, _, h, _⟩ | ⟨_, h⟩ | ⟨_, _, h, _⟩
  · exact absurd rfl h
  · exact h
  · exact absurd rfl h
theorem cmpS_zero {a b : ByteArray} : cmpS a b = 0 ↔ a = b := by
  constructor
  · intro h
    rcases cmpS_ways a b with ⟨_, _, _, e⟩ | ⟨e, _⟩ | ⟨_, _, _, e⟩
    · rw [h] at e; exact absurd e (by decide)
    · exact e
    · rw [h] at e; exact absurd e (by decide)
  · rintro rfl; exact cmpS_self a
theorem cmpS_neg (a b : ByteArray) : cmpS a b = -cmpS b a := by
  rcases cmpS_ways a b with ⟨h1, h2, _, e⟩ | ⟨rfl, e⟩ | ⟨h1, h2, _, e⟩
  · rw [e]; unfold cmpS; rw [h1, h2]; decide
  · rw [cmpS_self]; rfl
  · rw [e]; unfold cmpS; rw [h1]; simp
theorem cmpS_trans {a b c : ByteArray} (h : cmpS a b ≤ 0) (k : cmpS b c ≤ 0) : cmpS a c ≤ 0 := by
  rcases cmpS_ways a b with ⟨h1, _, _, _⟩ | ⟨rfl, _⟩ | ⟨_, _, _, e⟩
  · rcases cmpS_ways b c with ⟨k1, _, _, _⟩ | ⟨rfl, _⟩ | ⟨_, _, _, e⟩
    · have : less a c = true := bl_trans _ _ _ h1 k1
      unfold cmpS
      rw [if_pos this]
      decide
    · exact h
    · rw [e] at k; exact absurd k (by decide)
  · exact k
  · rw [e] at h; exact absurd h (by decide)

/-- one step of a comparison pair by pair that is a total order -/
theorem thn_trans {c1 c2 c3 d1 d2 d3 : Int} (hc : c1 ≤ 0 → c2 ≤ 0 → c3 ≤ 0) (hz : c1 = 0 → c3 = c2) (hz' : c2 = 0 → c3 = c1) (hs : c1 < 0 → c2 < 0 → c3 ≠ 0) (hd : c1 = 0 → c2 = 0 → d1 ≤ 0 → d2 ≤ 0 → d3 ≤ 0)
    (h : thn c1 d1 ≤ 0) (k : thn c2 d2 ≤ 0) : thn c3 d3 ≤ 0 := by
  rw [thn_le] at *
  rcases h with h | ⟨h, h'⟩ <;> rcases k with k | ⟨k, k'⟩
  · left; have := hc (by omega) (by omega); have := hs h k; omega
  · left; have := hz' k; omega
  · left; have := hz h; omega
  · right; exact ⟨by have := hz h; omega, hd h k h' k'⟩

mutual
theorem VT.cmp_neg : ∀ x y : VT, x.cmp y = -(y.cmp x)
  | .mk k i t its ks, .mk k' i' t' jts ls => by
    rw [VT.cmp_mk, VT.cmp_mk]
    simp only [VT.k, VT.i, VT.t, VT.its, VT.ks]
    by_cases h : k = k'
    · subst h
      rw [cmpI_neg i i', cmpS_neg t t', cmps_neg (decide (k = 5)) its ks jts ls, show cmpI k k = 0 from cmpI_zero.2 rfl, ← thn_neg, ← thn_neg, ← thn_neg]
      rfl
    · have h1 : cmpI k k' ≠ 0 := fun e => h (cmpI_zero.1 e)
      have h2 : cmpI k' k ≠ 0 := fun e => h (cmpI_zero.1 e).symm
      unfold thn
      rw [if_neg h1, if_neg h2, cmpI_neg]
theorem cmps_neg (m : Bool) : ∀ (xs : List VT) (ks : List ByteArray) (ys : List VT) (ls : List ByteArray), cmps m xs ks ys ls = -(cmps m ys ls xs ks)
  | [], ks, [], ls => by rw [cmps_nil, cmps_nil]; rfl
  | [], ks, y :: ys, ls => by rw [cmps_nil, cmps_out]; simp
  | x :: xs, ks, [], ls => by rw [cmps_nil, cmps_out]; simp
  | x :: xs, ks, y :: ys, ls => by
    rw [cmps_cons, cmps_cons, VT.cmp_neg x y, cmps_neg m xs ks.tail ys ls.tail, ← thn_neg, ← thn_neg]
    cases m with
    | true => simp only [if_true]; rw [cmpS_neg]
    | false => rfl
end

mutual
theorem VT.cmp_self : ∀ x : VT, x.cmp x = 0
  | .mk k i t its ks => by
    rw [VT.cmp_mk]
    simp only [VT.k, VT.i, VT.t, VT.its, VT.ks]
    rw [cmpI_zero.2 rfl, cmpI_zero.2 rfl, cmpS_self, cmps_self]
    rfl
theorem cmps_self (m : Bool) : ∀ (xs : List VT) (ks : List ByteArray), cmps m xs ks xs ks = 0
  | [], ks => by rw [cmps_nil]; rfl
  | x :: xs, ks => by
    rw [cmps_cons, cmpS_self, VT.cmp_self x, cmps_self m xs]
    cases m <;> rfl
end

/-- what well formed says of the keys -/
theorem wf_keys {k i : Int} {t : ByteArray} {its : List VT} {ks : List ByteArray} (h : okF (.mk k i t its ks) = true) : (k = 5 → ks.length = its.length) ∧ (k ≠ 5 → ks = []) := by
  constructor
  · rintro rfl
    rw [okF_5] at h
    simp at h
    exact h.2.2.1
  · intro hk
    apply List.eq_nil_of_length_eq_zero
    by_cases hk' : 0 ≤ k ∧ k ≤ 6
    · obtain rfl | rfl | rfl | rfl | rfl | rfl | rfl : k = 0 ∨ k = 1 ∨ k = 2 ∨ k = 3 ∨ k = 4 ∨ k = 5 ∨ k = 6 := by omega
      · rw [okF_0] at h; simp only [Bool.and_eq_true, decide_eq_true_eq] at h; exact h.2.2.2
      · rw [okF_1] at h; simp only [Bool.and_eq_true, decide_eq_true_eq] at h; exact h.2.2.2
      · rw [okF_2] at h; simp only [Bool.and_eq_true, decide_eq_true_eq] at h; exact h.2.2
      · rw [okF_3] at h; simp only [Bool.and_eq_true, decide_eq_true_eq] at h; exact h.2.2
      · rw [okF_4] at h; simp only [Bool.and_eq_true, decide_eq_true_eq] at h; exact h.2.2
      · exact absurd rfl hk
      · rw [okF_6] at h; simp only [Bool.and_eq_true, decide_eq_true_eq] at h; exact h.2.2.2
    · unfold okF VT.k at h
      simp only [show ¬ k = 0 from by omega, show ¬ k = 1 from by omega, show ¬ k = 2 from by omega, show ¬ k = 3 from by omega, show ¬ k = 4 from by omega, show ¬ k = 5 from by omega, show ¬ k = 6 from by omega, if_false] at h
      cases h

mutual
theorem VT.cmp_eq : ∀ x y : VT, x.all okF = true → y.all okF = true → x.cmp y = 0 → x = y
  | .mk k i t its ks, .mk k' i' t' jts ls, hx, hy, h => by
    rw [VT.cmp_mk] at h
    simp only [VT.k, VT.i, VT.t, VT.its, VT.ks] at h
    rw [thn_zero, thn_zero, thn_zero] at h
    obtain ⟨h1, h2, h3, h4⟩ := h
    obtain rfl := cmpI_zero.1 h1
    obtain rfl := cmpI_zero.1 h2
    obtain rfl := cmpS_zero.1 h3
    rw [VT.all_mk, Bool.and_eq_true] at hx hy
    have kx := wf_keys hx.1
    have ky := wf_keys hy.1
    by_cases hk : k = 5
    · rw [decide_eq_true hk] at h4
      obtain ⟨e1, e2⟩ := cmps_eq true its ks jts ls hx.2 hy.2 (fun _ => ⟨kx.1 hk, ky.1 hk⟩) h4
      rw [e1, e2 rfl]
    · rw [decide_eq_false hk] at h4
      obtain ⟨e1, _⟩ := cmps_eq false its ks jts ls hx.2 hy.2 (fun e => by cases e) h4
      rw [e1, kx.2 hk, ky.2 hk]
theorem cmps_eq (m : Bool) : ∀ (xs : List VT) (ks : List ByteArray) (ys : List VT) (ls : List ByteArray), alls okF xs = true → alls okF ys = true → (m = true → ks.length = xs.length ∧ ls.length = ys.length) → cmps m xs ks ys ls = 0 → xs = ys ∧ (m = true → ks = ls)
  | [], ks, [], ls, _, _, hm, _ => ⟨rfl, fun e => by
      obtain ⟨h1, h2⟩ := hm e
      rw [List.eq_nil_of_length_eq_zero h1, List.eq_nil_of_length_eq_zero h2]⟩
  | [], ks, y :: ys, ls, _, _, _, h => by rw [cmps_nil] at h; simp at h
  | x :: xs, ks, [], ls, _, _, _, h => by rw [cmps_out] at h; exact absurd h (by decide)
  | x :: xs, ks, y :: ys, ls, hx, hy, hm, h => by
    rw [cmps_cons, thn_zero, thn_zero] at h
    obtain ⟨h1, h2, h3⟩ := h
    simp only [alls, Bool.and_eq_true] at hx hy
    obtain rfl := VT.cmp_eq x y hx.1 hy.1 h2
    have hl : m = true → ks.tail.length = xs.length ∧ ls.tail.length = ys.length := fun e => by
      obtain ⟨a, b⟩ := hm e
      simp at a b ⊢
      omega
    obtain ⟨rfl, e2⟩ := cmps_eq m xs ks.tail ys ls.tail hx.2 hy.2 hl h3
    refine ⟨rfl, fun e => ?_⟩
    have e3 := e2 e
    obtain ⟨a, b⟩ := hm e
    rw [e, if_pos rfl] at h1
    have e4 := cmpS_zero.1 h1
    cases ks with
    | nil => simp at a
    | cons k ks => cases ls with
      | nil => simp at b
      | cons l ls => simp at e3 e4; rw [e3, e4]
end

mutual
theorem VT.cmp_trans : ∀ x y z : VT, x.all okF = true → y.all okF = true → z.all okF = true → x.cmp y ≤ 0 → y.cmp z ≤ 0 → x.cmp z ≤ 0
  | .mk k i t its ks, .mk k1 i1 t1 its1 ks1, .mk k2 i2 t2 its2 ks2, hx, hy, hz, h, h' => by
    rw [VT.cmp_mk] at *
    simp only [VT.k, VT.i, VT.t, VT.its, VT.ks] at *
    rw [VT.all_mk, Bool.and_eq_true] at hx hy hz
    refine thn_trans (fun a b => cmpI_trans a b) (fun a => by rw [cmpI_zero.1 a]) (fun b => by rw [cmpI_zero.1 b]) (fun a b e => ?_) (fun a b => ?_) h h'
    · rw [cmpI_zero.1 e, cmpI_neg] at a; omega
    have ek := cmpI_zero.1 a
    refine thn_trans (fun a b => cmpI_trans a b) (fun a => by rw [cmpI_zero.1 a]) (fun b => by rw [cmpI_zero.1 b]) (fun a b e => ?_) (fun a b => ?_)
    · rw [cmpI_zero.1 e, cmpI_neg] at a; omega
    refine thn_trans (fun a b => cmpS_trans a b) (fun a => by rw [cmpS_zero.1 a]) (fun b => by rw [cmpS_zero.1 b]) (fun a b e => ?_) (fun a b => ?_)
    · rw [cmpS_zero.1 e, cmpS_neg] at a; omega
    rw [← ek]
    exact cmps_trans _ its ks its1 ks1 its2 ks2 hx.2 hy.2 hz.2
theorem cmps_trans (m : Bool) : ∀ (xs : List VT) (ks : List ByteArray) (ys : List VT) (ls : List ByteArray) (zs : List VT) (ms : List ByteArray), alls okF xs = true → alls okF ys = true → alls okF zs = true →
    cmps m xs ks ys ls ≤ 0 → cmps m ys ls zs ms ≤ 0 → cmps m xs ks zs ms ≤ 0
  | [], ks, ys, ls, zs, ms, _, _, _, _, _ => by rw [cmps_nil]; split <;> decide
  | x :: xs, ks, [], ls, zs, ms, _, _, _, h, _ => by rw [cmps_out] at h; exact absurd h (by decide)
  | x :: xs, ks, y :: ys, ls, [], ms, _, _, _, _, h => by rw [cmps_out] at h; exact absurd h (by decide)
  | x :: xs, ks, y :: ys, ls, z :: zs, ms, hx, hy, hz, h, h' => by
    rw [cmps_cons] at *
    simp only [alls, Bool.and_eq_true] at hx hy hz
    refine thn_trans (fun a b => ?_) (fun a => ?_) (fun b => ?_) (fun a b e => ?_) (fun _ _ => ?_) h h'
    · cases m with
      | true => exact cmpS_trans a b
      | false => exact Int.le_refl _
    · cases m with
      | true => simp only [if_true] at *; rw [cmpS_zero.1 a]
      | false => rfl
    · cases m with
      | true => simp only [if_true] at *; rw [cmpS_zero.1 b]
      | false => rfl
    · cases m with
      | true => simp only [if_true] at *; rw [cmpS_zero.1 e, cmpS_neg] at a; omega
      | false => simp at a
    refine thn_trans (fun a b => VT.cmp_trans x y z hx.1 hy.1 hz.1 a b) (fun a => ?_) (fun b => ?_) (fun a b e => ?_) (fun _ _ => cmps_trans m xs ks.tail ys ls.tail zs ms.tail hx.2 hy.2 hz.2)
    · rw [VT.cmp_eq x y hx.1 hy.1 a]
    · rw [VT.cmp_eq y z hy.1 hz.1 b]
    · rw [VT.cmp_eq x z hx.1 hz.1 e, VT.cmp_neg] at a; omega
end
end Go.Proofs.Ytidinbeanaifmaa
namespace Go.Proofs.Ytidinbeanaifmaa
open Go.RowKit

set_option maxHeartbeats 400000 in
theorem cmpInt_any (a b : Int) (w : World) : Calls Try.prog 96 #[.int .i64 a, .int .i64 b] w (Says (.int .i64 (cmpI a b)) w) := by
  by_cases h1 : a < b
  · have e : cmpI a b = -1 := by unfold cmpI; rw [if_pos h1]
    rw [e]
    have f1 : decide (a < b) = true := decide_eq_true h1
    clear e h1
    go_enter Try.func96, Try.ntmps96
    go_wp2
    go_ret
    exact ⟨rfl, rfl⟩
  · by_cases h2 : b < a
    · have e : cmpI a b = 1 := by unfold cmpI; rw [if_neg h1, if_pos h2]
      rw [e]
      have f1 : decide (a < b) = false := decide_eq_false h1
      have f2 : decide (b < a) = true := decide_eq_true h2
      clear e h1 h2
      go_enter Try.func96, Try.ntmps96
      go_wp2
      go_ret
      exact ⟨rfl, rfl⟩
    · have e : cmpI a b = 0 := by unfold cmpI; rw [if_neg h1, if_neg h2]
      rw [e]
      have f1 : decide (a < b) = false := decide_eq_false h1
      have f2 : decide (b < a) = false := decide_eq_false h2
      clear e h1 h2
      go_enter Try.func96, Try.ntmps96
      go_wp2
      go_ret
      exact ⟨rfl, rfl⟩

set_option maxHeartbeats 400000 in
theorem cmpStr_any (a b : ByteArray) (w : World) : Calls Try.prog 59 #[.string a, .string b] w (Says (.int .i64 (cmpS a b)) w) := by
  have e := cmpS_ways a b
  rcases str_ways a b with ⟨s1, s2, s3, s4, hne⟩ | ⟨he, s1, s2, s3, s4⟩ | ⟨s1, s2, s3, s4, hne⟩
  · have e1 : cmpS a b = -1 := by unfold cmpS less; rw [if_pos s1]
    rw [e1]
    clear e e1 hne
    go_enter Try.func59, Try.ntmps59
    go_wp2
    go_ret
    exact ⟨rfl, rfl⟩
  · have e1 : cmpS a b = 0 := cmpS_zero.2 he
    rw [e1]
    clear e e1 he
    go_enter Try.func59, Try.ntmps59
    go_wp2
    go_ret
    exact ⟨rfl, rfl⟩
  · have e1 : cmpS a b = 1 := by unfold cmpS less; rw [s1, if_neg (by decide), if_pos s4]
    rw [e1]
    clear e e1 hne
    go_enter Try.func59, Try.ntmps59
    go_wp2
    go_ret
    exact ⟨rfl, rfl⟩
end Go.Proofs.Ytidinbeanaifmaa
namespace Go.Proofs
open Go.Shelf
def Try.sortEn_ren : Go.Shelf.Ren := ⟨fun | 6 => 57 | 15 => 91 | 14 => 90 | 28 => 126 | 29 => 127 | 20 => 118 | 21 => 119 | 22 => 120 | 23 => 121 | 24 => 122 | 25 => 123 | 26 => 124 | 27 => 125 | 46 => 140 | 47 => 141 | 48 => 142 | 49 => 143 | 50 => 144 | 57 => 153 | n => n, fun | 22 => 64 | 24 => 66 | 25 => 69 | 3 => 3 | 39 => 96 | 0 => 0 | 53 => 121 | 55 => 123 | 4 => 4 | 46 => 115 | 45 => 114 | 50 => 78 | 5 => 5 | 9 => 9 | 66 => 128 | 70 => 99 | 76 => 139 | 77 => 140 | n => n, fun | n => n⟩
theorem Try.sortEn : Go.Proofs.SlLaysF0.n6 Try.prog Try.sortEn_ren := {
  mixed := by kernel_rfl
  f6 := ⟨Try.f57.name, by decide, Try.func57.trans (congrArg some (by kernel_rfl))⟩
  f14 := ⟨Try.f90.name, by decide, Try.func90.trans (congrArg some (by kernel_rfl))⟩
  f15 := Try.func91.trans (congrArg some (by kernel_rfl))
  f20 := ⟨Try.f118.name, by decide, Try.func118.trans (congrArg some (by kernel_rfl))⟩
  f21 := ⟨Try.f119.name, by decide, Try.func119.trans (congrArg some (by kernel_rfl))⟩
  f22 := ⟨Try.f120.name, by decide, Try.func120.trans (congrArg some (by kernel_rfl))⟩
  f23 := ⟨Try.f121.name, by decide, Try.func121.trans (congrArg some (by kernel_rfl))⟩
  f24 := ⟨Try.f122.name, by decide, Try.func122.trans (congrArg some (by kernel_rfl))⟩
  f25 := ⟨Try.f123.name, by decide, Try.func123.trans (congrArg some (by kernel_rfl))⟩
  f26 := ⟨Try.f124.name, by decide, Try.func124.trans (congrArg some (by kernel_rfl))⟩
  f27 := ⟨Try.f125.name, by decide, Try.func125.trans (congrArg some (by kernel_rfl))⟩
  f28 := Try.func126.trans (congrArg some (by kernel_rfl))
  f29 := Try.func127.trans (congrArg some (by kernel_rfl))
  f46 := ⟨Try.f140.name, by decide, Try.func140.trans (congrArg some (by kernel_rfl))⟩
  f47 := Try.func141.trans (congrArg some (by kernel_rfl))
  f48 := Try.func142.trans (congrArg some (by kernel_rfl))
  f49 := ⟨Try.f143.name, by decide, Try.func143.trans (congrArg some (by kernel_rfl))⟩
  f50 := ⟨Try.f144.name, by decide, Try.func144.trans (congrArg some (by kernel_rfl))⟩
  f57 := ⟨Try.f153.name, by decide, Try.func153.trans (congrArg some (by kernel_rfl))⟩
  t0 := Try.underlying0
  a0 := Try.isAgg0
  z0 := Try.sizeOf0
  v0 := Try.zeroValue0
  t3 := Try.underlying3
  a3 := Try.isAgg3
  z3 := Try.sizeOf3
  v3 := Try.zeroValue3
  t4 := Try.underlying4
  a4 := Try.isAgg4
  z4 := Try.sizeOf4
  v4 := Try.zeroValue4
  t5 := Try.underlying5
  a5 := Try.isAgg5
  z5 := Try.sizeOf5
  v5 := Try.zeroValue5
  t9 := Try.underlying9
  a9 := Try.isAgg9
  z9 := Try.sizeOf9
  v9 := Try.zeroValue9
  t22 := Try.underlying64
  a22 := Try.isAgg64
  z22 := Try.sizeOf64
  v22 := Try.zeroValue64
  t25 := Try.underlying69
  a25 := Try.isAgg69
  z25 := Try.sizeOf69
  v25 := Try.zeroValue69
  t39 := Try.underlying96
  a39 := Try.isAgg96
  z39 := Try.sizeOf96
  v39 := Try.zeroValue96
  t45 := Try.underlying114
  a45 := Try.isAgg114
  z45 := Try.sizeOf114
  v45 := Try.zeroValue114
  t46 := Try.underlying115
  a46 := Try.isAgg115
  z46 := Try.sizeOf115
  v46 := Try.zeroValue115
  t50 := Try.underlying78
  a50 := Try.isAgg78
  z50 := Try.sizeOf78
  v50 := Try.zeroValue78
  t53 := Try.underlying121
  a53 := Try.isAgg121
  z53 := Try.sizeOf121
  v53 := Try.zeroValue121
  t55 := Try.underlying123
  a55 := Try.isAgg123
  z55 := Try.sizeOf123
  v55 := Try.zeroValue123
  t66 := Try.underlying128
  a66 := Try.isAgg128
  z66 := Try.sizeOf128
  v66 := Try.zeroValue128
  t70 := Try.underlying99
  a70 := Try.isAgg99
  z70 := Try.sizeOf99
  v70 := Try.zeroValue99
  t76 := Try.underlying139
  a76 := Try.isAgg139
  z76 := Try.sizeOf139
  v76 := Try.zeroValue139
  t77 := Try.underlying140
  a77 := Try.isAgg140
  z77 := Try.sizeOf140
  v77 := Try.zeroValue140 }
end Go.Proofs
namespace Go.Proofs.Ytidinbeanaifmaa
open Go.RowKit Go.Shelf Go.Lib Go.Sort

/-- an entry: its key, its item's five cells -/
structure En where
  key : ByteArray
  k : Int
  i : Int
  t : ByteArray
  A : Option Addr
  n : Nat
  c : Nat
  A' : Option Addr
  n' : Nat
  c' : Nat
  x : VT
instance : Inhabited En := ⟨⟨ByteArray.empty, 0, 0, ByteArray.empty, none, 0, 0, none, 0, 0, nullT⟩⟩
def En.val (x : En) : Value := vag x.k x.i x.t x.A x.n x.c x.A' x.n' x.c'
/-- its six cells -/
def encE (x : En) : List Value := [.string x.key, .int .i64 x.k, .int .i64 x.i, .string x.t, .slice x.A x.n x.c, .slice x.A' x.n' x.c']
theorem encE_len (x : En) : (encE x).length = 6 := rfl
theorem encE_one (x : En) : ∀ v ∈ encE x, v.oneCell' = true := by
  intro v hv
  simp only [encE, List.mem_cons, List.not_mem_nil, or_false] at hv
  rcases hv with rfl | rfl | rfl | rfl | rfl | rfl <;> rfl
def cmpE (x y : En) : Int := cmpS x.key y.key
theorem ltE (x y : En) : ltOf cmpE x y = less x.key y.key := by
  unfold ltOf cmpE
  rcases cmpS_ways x.key y.key with ⟨h1, _, _, h⟩ | ⟨h1, h⟩ | ⟨_, h2, _, h⟩
  · rw [h, h1]; rfl
  · rw [h, h1]; unfold less; rw [bl_irrefl]; rfl
  · rw [h, h2]; rfl
theorem swoE : SWO (ltOf cmpE) where
  irrefl x := by rw [ltE]; exact bl_irrefl _
  trans x y z h1 h2 := by rw [ltE] at *; exact bl_trans _ _ _ h1 h2
  ntrans x y z h1 h2 := by
    rw [ltE] at *
    cases h : less x.key z.key with
    | false => rfl
    | true =>
      rcases cmpS_ways x.key y.key with ⟨k, _⟩ | ⟨k, _⟩ | ⟨k, _⟩
      · rw [k] at h1; cases h1
      · rw [k] at h; rw [h] at h2; cases h2
      · have := bl_trans _ _ _ k h
        rw [show Op.bytesLess y.key.toList z.key.toList = less y.key z.key from rfl, h2] at this
        cases this

set_option maxHeartbeats 1000000 in
/-- the comparison that is handed to the sort, in whatever world -/
theorem cmpE_any (x y : En) (W : World) : Calls Try.prog 58 #[.agg (encE x).toArray, .agg (encE y).toArray] W fun e w' => e = .returned (.int .i64 (cmpE x y)) ∧ ∃ q os', w' = grow (W.drewN q) os' := by
  have hcon := fun W' => cmpStr_any x.key y.key W'
  unfold cmpE
  generalize cmpS x.key y.key = r at hcon ⊢
  unfold encE
  go_enter Try.func58, Try.ntmps58
  go_wp2_with (go_at_call 59; refine (hcon _).mono ?_; rintro e w' ⟨rfl, rfl⟩)
  go_ret
  exact ⟨rfl, 0, _, by rw [alloc_eq_grow, alloc_eq_grow, grow_grow]; rfl⟩

theorem heap_sortWorld {α : Type} [Inhabited α] (enc : α → List Value) (k : Nat) (w : World) (blk off n : Nat) (d : Array α) (os : Array Obj) (b : Nat) (hb : b < w.heap.size) (hne : b ≠ blk) : (sortWorldK enc k w blk off n d os).heap[b]? = w.heap[b]? := by
  unfold sortWorldK grow
  show ((putRowK enc k (Sort.ahead w n) blk off d).heap ++ os)[b]? = _
  rw [Array.getElem?_append_left (by rw [size_putRowK]; exact hb)]
  simp [putRowK, putRow, mapBlock, Sort.ahead, Array.getElem?_modify, Ne.symm hne]

set_option maxHeartbeats 1000000 in
/-- **the sort**: the row holds the same entries, ascending by their keys; nothing else turns -/
theorem sortE_any (blk cap : Nat) (d : Array En) (w : World) (hH : HoldsK encE 6 w blk 0 d) (hblk : blk < w.heap.size) (hsz : d.size < 4611686018427387904) :
    Calls Try.prog 57 #[.slice (some ⟨blk, 0, none⟩) d.size cap, .func (.func 58) #[] #[]] w fun e w' =>
      e = .returned (.tuple #[]) ∧ ∃ d' : Array En, d'.size = d.size ∧ d'.toList.Perm d.toList ∧ (∀ i j, i < j → j < d.size → less d'[j]!.key d'[i]!.key = false) ∧ HoldsK encE 6 w' blk 0 d' ∧ w.grownBy w' (some blk) := by
  have eg : ∀ args w, (callFunc 58 args).run Try.prog w = .ok (.enter 58 args) w := enters_of Try.func58 (by kernel_rfl) rfl
  have hcon := AnyQ.slices_SortFunc Try.sortEn 6 Try.isAgg66 Try.sizeOf66 encE encE_len encE_one cmpE swoE 58 #[] blk 0 cap d w eg (fun _ _ _ _ x y => cmpE_any x y _) hH hblk hsz
  change Calls Try.prog 57 _ _ _ at hcon
  refine hcon.mono ?_
  rintro e w' ⟨rfl, d', n, os, hp, hs, rfl⟩
  refine ⟨rfl, d', hp.1, ?_, fun i j hij hj => ?_, holdsK_sortWorldK_c encE 6 w blk 0 d d' n os hH hblk hp.1, ?_⟩
  · have h := hp.2.2
    have e1 : d'.extract 0 d.size = d' := by rw [← hp.1]; simp
    have e2 : d.extract 0 d.size = d := by simp
    rwa [e1, e2] at h
  · have := hs i j (Nat.zero_le _) hij hj
    rwa [ltE] at this
  · exact ⟨rfl, rfl, rfl, size_sortWorldK_c encE 6 w blk 0 n d' os, fun b hb hne => heap_sortWorld encE 6 w blk 0 n d' os b hb (fun e => hne (by rw [e]))⟩
end Go.Proofs.Ytidinbeanaifmaa
namespace Go.Proofs.Ytidinbeanaifmaa
open Go.RowKit Go.Sort Go.Shelf

theorem Try.infoE : (Try.prog.info? 66).map (fun i => (i.zero, i.size, i.bytes)) = some (some (.agg #[.string ByteArray.empty, .int .i64 0, .int .i64 0, .string ByteArray.empty, .slice none 0 0, .slice none 0 0]), 6, 96) := by kernel_rfl

/-- an entry's item, five cells -/
def itemC (x : En) : List Value := [.int .i64 x.k, .int .i64 x.i, .string x.t, .slice x.A x.n x.c, .slice x.A' x.n' x.c']
theorem flat_at : ∀ (l : List En) (j : Nat), j < l.length * 6 → (l.flatMap encE)[j]? = some (encE l[j / 6]!)[j % 6]!
  | [], j, h => by simp at h
  | x :: l, j, h => by
    rw [List.flatMap_cons]
    by_cases hj : j < 6
    · rw [List.getElem?_append_left (by simpa [encE] using hj), Nat.div_eq_of_lt hj, Nat.mod_eq_of_lt hj]
      have hl : j < (encE x).length := by simpa [encE] using hj
      rw [List.getElem?_eq_getElem hl]
      simp only [List.getElem!_cons_zero]
      rw [getElem!_pos (encE x) j hl]
    · have hl : (encE x).length = 6 := rfl
      rw [List.getElem?_append_right (by omega), hl, flat_at l (j - 6) (by simp at h; omega)]
      have e1 : j / 6 = (j - 6) / 6 + 1 := by omega
      have e2 : j % 6 = (j - 6) % 6 := by omega
      rw [e1, e2]
      rfl
theorem flat_len : ∀ (l : List En), (l.flatMap encE).length = l.length * 6
  | [] => rfl
  | x :: l => by
    rw [List.flatMap_cons, List.length_append, flat_len l]
    have : (encE x).length = 6 := rfl
    simp only [List.length_cons]
    omega
/-- a row whose cells are those of the entries -/
theorem holds_of_own {w : World} {base g n cap : Nat} {d : List En} (h : w.ownsRow base 66 6 (.slice (some ⟨g, 0, none⟩) n cap) n (d.flatMap encE)) (hn : d.length = n) : HoldsK encE 6 w g 0 d.toArray := by
  intro j hj
  have hj' : j < d.length * 6 := by simpa using hj
  have hc := h.cellAt j (by rw [← hn]; exact hj')
  rw [flat_at d j hj'] at hc
  refine ⟨?_, ?_⟩
  · rw [Nat.zero_add, hc, get_flatK encE 6 d.toArray j (by simpa using hj')]
    simp
  · rw [Nat.zero_add]; exact h.frozenAt j
/-- six cells put in the place of six -/
theorem set6 (a b c s y z : Value) : ∀ (l r : List Value) (m : Nat), l.length = m → 6 ≤ r.length →
    ((((((l ++ r).set m a).set (m + 1) b).set (m + 2) c).set (m + 3) s).set (m + 4) y).set (m + 5) z = (l ++ [a, b, c, s, y, z]) ++ r.drop 6
  | [], a' :: b' :: c' :: s' :: y' :: z' :: r, m, h, _ => by
    obtain rfl : m = 0 := h.symm
    simp
  | [], [], _, _, h => absurd h (by decide)
  | [], [_], _, _, h => absurd h (by simp)
  | [], [_, _], _, _, h => absurd h (by simp)
  | [], [_, _, _], _, _, h => absurd h (by simp)
  | [], [_, _, _, _], _, _, h => absurd h (by simp)
  | [], [_, _, _, _, _], _, _, h => absurd h (by simp)
  | x :: l, r, 0, h, _ => absurd h (by simp)
  | x :: l, r, m + 1, h, hr => by
    have := set6 a b c s y z l r m (by simpa using h) hr
    simp only [List.cons_append, List.set_cons_succ, show m + 1 + 1 = (m + 1) + 1 from rfl, show m + 1 + 2 = (m + 2) + 1 from rfl, show m + 1 + 3 = (m + 3) + 1 from rfl, show m + 1 + 4 = (m + 4) + 1 from rfl, show m + 1 + 5 = (m + 5) + 1 from rfl]
    rw [this]
theorem own_store6 {w : World} {base g n cap m : Nat} {e : TypeId} {l r : List Value} {a b c s y z : Value} (h : w.ownsRow base e 6 (.slice (some ⟨g, 0, none⟩) n cap) n (l ++ r)) (hl : l.length = m) (hr : 6 ≤ r.length) :
    ((((((w.setCell ⟨g, m, none⟩ a).setCell ⟨g, m + 1, none⟩ b).setCell ⟨g, m + 2, none⟩ c).setCell ⟨g, m + 3, none⟩ s).setCell ⟨g, m + 4, none⟩ y).setCell ⟨g, m + 5, none⟩ z).ownsRow base e 6 (.slice (some ⟨g, 0, none⟩) n cap) n ((l ++ [a, b, c, s, y, z]) ++ r.drop 6) ∧
    w.grownBy ((((((w.setCell ⟨g, m, none⟩ a).setCell ⟨g, m + 1, none⟩ b).setCell ⟨g, m + 2, none⟩ c).setCell ⟨g, m + 3, none⟩ s).setCell ⟨g, m + 4, none⟩ y).setCell ⟨g, m + 5, none⟩ z) (some g) := by
  obtain ⟨h1, g1⟩ := h.stored m a
  obtain ⟨h2, g2⟩ := h1.stored (m + 1) b
  obtain ⟨h3, g3⟩ := h2.stored (m + 2) c
  obtain ⟨h4, g4⟩ := h3.stored (m + 3) s
  obtain ⟨h5, g5⟩ := h4.stored (m + 4) y
  obtain ⟨h6, g6⟩ := h5.stored (m + 5) z
  rw [set6 a b c s y z l r m hl hr] at h6
  exact ⟨h6, grownBy_trans (grownBy_trans (grownBy_trans (grownBy_trans (grownBy_trans g1 g2) g3) g4) g5) g6⟩
/-- an entry read off its two rows -/
def EnAt (w : World) (A D : Option Addr) (j : Nat) (e : En) : Prop :=
  e.key.size ≤ 9223372036854775807 ∧ Lies w (Lo w) e.x e.val ∧ (∃ g o, A = some ⟨g, o, none⟩ ∧ Lo w g ∧ w.cell? ⟨g, o + j, none⟩ = some (.string e.key)) ∧
  ∃ g o, D = some ⟨g, o, none⟩ ∧ Lo w g ∧ w.cell? ⟨g, o + j * 5, none⟩ = some (.int .i64 e.k) ∧ w.cell? ⟨g, o + j * 5 + 1, none⟩ = some (.int .i64 e.i) ∧ w.cell? ⟨g, o + j * 5 + 2, none⟩ = some (.string e.t) ∧
    w.cell? ⟨g, o + j * 5 + 3, none⟩ = some (.slice e.A e.n e.c) ∧ w.cell? ⟨g, o + j * 5 + 4, none⟩ = some (.slice e.A' e.n' e.c')
theorem ens_exist {w : World} {A D : Option Addr} {keys : List ByteArray} {items : List VT} (hS : LiesS w (Lo w) A keys) (hL : LiesL w (Lo w) D 0 items) (hl : keys.length = items.length) :
    ∃ d : List En, d.length = keys.length ∧ d.map (fun e => (e.key, e.x)) = keys.zip items ∧ ∀ j e, d[j]? = some e → EnAt w A D j e := by
  have each : ∀ j, ∃ e : En, j < keys.length → keys[j]? = some e.key ∧ items[j]? = some e.x ∧ EnAt w A D j e := by
    intro j
    by_cases hj : j < keys.length
    · have h1 := List.getElem?_eq_getElem (l := keys) (i := j) hj
      have h2 := List.getElem?_eq_getElem (l := items) (i := j) (by omega)
      obtain ⟨hs, ga, oa, ea, hga, hca⟩ := hS j _ h1
      obtain ⟨g, o, k, i, t, B, n, c, B', n', c', hD, hg, e0, e1, e2, e3, e4, hx⟩ := hL.at_ h2
      rw [Nat.zero_add] at e0 e1 e2 e3 e4
      exact ⟨⟨keys[j], k, i, t, B, n, c, B', n', c', items[j]'(by omega)⟩, fun _ => ⟨h1, h2, hs, hx, ⟨ga, oa, ea, hga, hca⟩, g, o, hD, hg, e0, e1, e2, e3, e4⟩⟩
    · exact ⟨default, fun h => absurd h hj⟩
  obtain ⟨f, hf⟩ := Classical.axiomOfChoice each
  refine ⟨(List.range keys.length).map f, by simp, ?_, fun j e he => ?_⟩
  · apply List.ext_getElem?
    intro j
    rw [List.map_map, List.getElem?_map, List.zip_eq_zipWith, List.getElem?_zipWith]
    by_cases hj : j < keys.length
    · obtain ⟨h1, h2, _⟩ := hf j hj
      rw [List.getElem?_range hj, h1, h2]
      rfl
    · rw [List.getElem?_eq_none (by simpa using hj), List.getElem?_eq_none (l := keys) (by omega)]
      rfl
  · rw [List.getElem?_map] at he
    by_cases hj : j < keys.length
    · rw [List.getElem?_range hj] at he
      simp at he
      subst he
      exact (hf j hj).2.2
    · rw [List.getElem?_eq_none (by simpa using hj)] at he
      cases he
/-- two owned rows of different types lie in different blocks -/
theorem own_ne {w : World} {b b' : Nat} {e e' : TypeId} {s s' n n' : Nat} {v v' : Value} {xs xs' : List Value} (h : w.ownsRow b e s v n xs) (h' : w.ownsRow b' e' s' v' n' xs') (hne : e ≠ e') : v.ownBlock = none ∨ v.ownBlock ≠ v'.ownBlock := by
  rcases h.2 with ⟨rfl, _⟩ | ⟨g, cap, cur, rfl, _, hg, _⟩
  · exact Or.inl rfl
  · right
    rcases h'.2 with ⟨rfl, _⟩ | ⟨g', cap', cur', rfl, _, hg', _⟩
    · intro e; cases e
    · intro e
      injection e with e
      subst e
      rw [hg] at hg'
      injection hg' with hg'
      injection hg' with _ ht
      exact hne ht
end Go.Proofs.Ytidinbeanaifmaa
namespace Go.Proofs.Ytidinbeanaifmaa
open Go.RowKit Go.Sort Go.Shelf

/-- the map of these pairs, and the error -/
def mapT (es : List (ByteArray × VT)) : VT := .mk 5 0 ⟨#[]⟩ (es.map (·.2)) (es.map (·.1))
def mapV (es : List (ByteArray × VT)) : VT := if rising (es.map (·.1)) = true then limT (mapT es) else nullT
def mapE (es : List (ByteArray × VT)) : Int := if rising (es.map (·.1)) = true then limE (mapT es) else 9
/-- the pairs, ascending -/
def Sorts (keys : List ByteArray) (items : List VT) (es : List (ByteArray × VT)) : Prop := es.Perm (keys.zip items) ∧ ∀ i j, i < j → j < es.length → less es[j]!.1 es[i]!.1 = false
def MapSpec (keys : List ByteArray) (items : List VT) (y : VT) (r : Int) : Prop :=
  (keys.length ≠ items.length ∧ y = nullT ∧ r = 6) ∨ (keys.length = items.length ∧ ∃ es, Sorts keys items es ∧ y = mapV es ∧ r = mapE es)

theorem items_liesC {w : World} {R : Nat → Prop} : ∀ {l : List En}, (∀ en ∈ l, Lies w R en.x en.val) → LiesC w R (l.map (·.x)) (l.flatMap itemC)
  | [], _ => rfl
  | x :: l, h => ⟨_, _, _, _, _, l.flatMap itemC, rfl, h x List.mem_cons_self, items_liesC (fun en he => h en (List.mem_cons_of_mem _ he))⟩
theorem alls_iff {p : VT → Bool} : ∀ {l : List VT}, alls p l = true ↔ ∀ x ∈ l, x.all p = true
  | [] => by simp [alls]
  | x :: r => by simp [alls, alls_iff (l := r)]
theorem grown_low {a b c : World} {r r' : Option Nat} (h : a.grownBy b r) (k : b.grownBy c r') (hr : ∀ q, r' = some q → a.heap.size ≤ q) : a.grownBy c r :=
  ⟨k.os.trans h.os, k.tape.trans h.tape, k.output.trans h.output, Nat.le_trans h.size k.size, fun i hi hn => (k.block i (Nat.lt_of_lt_of_le hi h.size) (fun e => by have := hr i e.symm; omega)).trans (h.block i hi hn)⟩
theorem own_some {w : World} {lo g o n m c size : Nat} {e : TypeId} {xs : List Value} (h : w.ownsRow lo e size (.slice (some ⟨g, o, none⟩) n c) m xs) : lo ≤ g ∧ g < w.heap.size := by
  rcases h.2 with ⟨h0, _⟩ | ⟨g', cap, cur, hv, hb, hg, _⟩
  · injection h0 with h0; cases h0
  · injection hv with hv
    injection hv with hv
    injection hv with hv
    subst hv
    exact ⟨hb, (Array.getElem?_eq_some_iff.1 hg).1⟩
theorem six_of {l : List Value} (h : 6 ≤ l.length) : ∃ a b c s y z r, l = a :: b :: c :: s :: y :: z :: r := by
  match l, h with
  | a :: b :: c :: s :: y :: z :: r, _ => exact ⟨a, b, c, s, y, z, r, rfl⟩
theorem six_at {new rest : List Value} {a b c s y z : Value} {m : Nat} (h : new.length = m) :
    (new ++ a :: b :: c :: s :: y :: z :: rest)[m]? = some a ∧ (new ++ a :: b :: c :: s :: y :: z :: rest)[m + 1]? = some b ∧ (new ++ a :: b :: c :: s :: y :: z :: rest)[m + 2]? = some c ∧
    (new ++ a :: b :: c :: s :: y :: z :: rest)[m + 3]? = some s ∧ (new ++ a :: b :: c :: s :: y :: z :: rest)[m + 4]? = some y ∧ (new ++ a :: b :: c :: s :: y :: z :: rest)[m + 5]? = some z := by
  subst h
  refine ⟨?_, ?_, ?_, ?_, ?_, ?_⟩ <;> rw [List.getElem?_append_right (by omega)] <;> simp

set_option maxRecDepth 100000 in
set_option maxHeartbeats 8000000 in
theorem Map_any (A : Option Addr) (c : Nat) (keys : List ByteArray) (D : Option Addr) (e : Nat) (items : List VT) (w : World) (hS : LiesS w (Lo w) A keys) (hL : LiesL w (Lo w) D 0 items)
    (hc : keys.length ≤ c) (he : items.length ≤ e) (hk : keys.length ≤ 1000000) (hr : alls reachF items = true) :
    Calls Try.prog 13 #[.slice A keys.length c, .slice D items.length e] w fun en w' => ∃ y r, MapSpec keys items y r ∧ MakesE y r w en w' := by
  by_cases hlen : keys.length = items.length
  · obtain ⟨d, hdn, hdz, hd⟩ := ens_exist hS hL hlen
    obtain ⟨iE, hiE, hzE, hsE, hbE⟩ := info_parts Try.infoE
    have HD := Lib.hid hd
    have HDN := Lib.hid hdn
    have HDZ := Lib.hid hdz
    have HLN := Lib.hid hlen
    have HR := Lib.hid hr
    obtain ⟨n, hn⟩ : ∃ n, n = keys.length := ⟨_, rfl⟩
    have hn2 : n = items.length := by omega
    have t0 : ((n : Int) != (n : Int)) = false := by simp
    have HN := Lib.hid (And.intro hn hn2)
    rw [← hn] at hc hk ⊢
    rw [← hn2] at he ⊢
    clear hS hL hlen hd hdn hdz hr hn hn2
    obtain ⟨w1, hw1⟩ : ∃ w1, w1 = w.alloc (.cells #[.int .i64 0, .int .i64 0, .string ⟨#[]⟩, .slice none 0 0, .slice none 0 0] 26) := ⟨_, rfl⟩
    have B1 : Hid (Below w.heap.size w w1) := Lib.hid (by rw [hw1]; exact below_one _ _)
    have Q1 : Hid (Bk w1 w.heap.size 26 #[.int .i64 0, .int .i64 0, .string ⟨#[]⟩, .slice none 0 0, .slice none 0 0]) := Lib.hid (by rw [hw1]; exact Bk.new _ _ _)
    have HW1 := Lib.hid hw1
    clear hw1
    go_enter Try.func13, Try.ntmps13
    go_wp2_with (at_make; rw [← HW1.out]; refine wpList_make_full _ rfl _ _ 64 rfl w1.heap.size 66 iE _ 6 Try.underlying64 hiE hzE hsE _ _ _ _ n rfl rfl rfl rfl ?_ ?_ ?_ ?_)
    · rw [hbE]; omega
    · unfold maxLen; omega
    · exact Nat.le_refl _
    · intro w2 hown hg
      generalize (madeCells _ _).toList = old0 at hown
      have hl0 : old0.length = n * 6 := hown.1
      have B2 := Lib.hid (B1.out.grown hg B1.out.size (fun k hk => by cases hk))
      have Q2 := Lib.hid (Q1.out.grown hg (by simp))
      have HO0 := Lib.hid hown
      have L1 : Hid (w.heap.size < w1.heap.size) := Lib.hid Q1.out.lt
      have L2 : Hid (w1.heap.size < w2.heap.size ∨ n = 0) := Lib.hid (by
        rcases Nat.eq_zero_or_pos n with h | h
        · exact Or.inr h
        · obtain ⟨g, hg1, _, hg2⟩ := own_at hown h
          injection hg1 with hg1
          injection hg1 with hg1
          subst hg1
          exact Or.inl hg2)
      clear hown hg
      go_wp2_with fail
      go_loopw [23, 7, 8] (fun s _ _ wr => ∃ (j : Nat) (old : List Value), j ≤ n ∧ s = .int .i64 j ∧ old.length = (n - j) * 6 ∧ Hid (wr.ownsRow w1.heap.size 66 6 (.slice (some ⟨w1.heap.size, 0, none⟩) n n) n ((d.take j).flatMap encE ++ old)) ∧ Hid (w2.grownBy wr (some w1.heap.size))) (fun s _ _ _ => n - (intOf s).toNat)
      case atStart => exact ⟨0, old0, by omega, rfl, by omega, Lib.hid (by simpa using HO0.out), Lib.hid (World.grownBy.refl _ _)⟩
      case round =>
        obtain ⟨j, old, hjn, rfl, hol, HO, HG⟩ := hrel
        have BR := Lib.hid (B2.out.grown HG.out B2.out.size (fun k hk => by injection hk with hk; have := L1.out; omega))
        by_cases hlt : j < n
        · have hjd : j < d.length := by have := HDN.out; have := HN.out; omega
          obtain ⟨hks, hx, ⟨ga, oa, rfl, hga, k0⟩, gd, od, rfl, hgd, e0, e1, e2, e3, e4⟩ := HD.out j _ (List.getElem?_eq_getElem hjd)
          have htk : d.take (j + 1) = d.take j ++ [d[j]'hjd] := by rw [List.take_add_one, List.getElem?_eq_getElem hjd]; rfl
          have hfl : ((d.take j).flatMap encE).length = j * 6 := by rw [flat_len, List.length_take]; congr 1; omega
          generalize d[j]'hjd = en at *
          obtain ⟨a, b, c0, s, y, z, rest, rfl⟩ := six_of (l := old) (by omega)
          have hrl : rest.length = (n - (j + 1)) * 6 := by simp at hol; omega
          obtain ⟨m0, m1, m2, m3, m4, m5⟩ := six_at (rest := rest) (a := a) (b := b) (c := c0) (s := s) (y := y) (z := z) hfl
          have o0 := (HO.out.cellAt (j * 6) (by omega)).trans m0
          have o1 := (HO.out.cellAt (j * 6 + 1) (by omega)).trans m1
          have o2 := (HO.out.cellAt (j * 6 + 2) (by omega)).trans m2
          have o3 := (HO.out.cellAt (j * 6 + 3) (by omega)).trans m3
          have o4 := (HO.out.cellAt (j * 6 + 4) (by omega)).trans m4
          have o5 := (HO.out.cellAt (j * 6 + 5) (by omega)).trans m5
          have f0 := HO.out.frozenAt (j * 6)
          have f1 := HO.out.frozenAt (j * 6 + 1)
          have f2 := HO.out.frozenAt (j * 6 + 2)
          have f3 := HO.out.frozenAt (j * 6 + 3)
          have f4 := HO.out.frozenAt (j * 6 + 4)
          have f5 := HO.out.frozenAt (j * 6 + 5)
          rw [← BR.out.cell (p := ⟨ga, oa + j, none⟩) hga] at k0
          have cc := fun (q : Nat) => BR.out.cell (p := ⟨gd, q, none⟩) hgd
          rw [← cc] at e0 e1 e2 e3 e4
          obtain ⟨hst, hgr⟩ := own_store6 (a := .string en.key) (b := .int .i64 en.k) (c := .int .i64 en.i) (s := .string en.t) (y := .slice en.A en.n en.c) (z := .slice en.A' en.n' en.c') HO.out hfl (by simp)
          have FO : Hid (((((((wr.setCell ⟨w1.heap.size, j * 6, none⟩ (.string en.key)).setCell ⟨w1.heap.size, j * 6 + 1, none⟩ (.int .i64 en.k)).setCell ⟨w1.heap.size, j * 6 + 2, none⟩ (.int .i64 en.i)).setCell ⟨w1.heap.size, j * 6 + 3, none⟩ (.string en.t)).setCell ⟨w1.heap.size, j * 6 + 4, none⟩ (.slice en.A en.n en.c)).setCell ⟨w1.heap.size, j * 6 + 5, none⟩ (.slice en.A' en.n' en.c')).ownsRow w1.heap.size 66 6 (.slice (some ⟨w1.heap.size, 0, none⟩) n n) n ((d.take (j + 1)).flatMap encE ++ rest)) := Lib.hid (by
            rw [htk, List.flatMap_append]
            have : [en].flatMap encE = encE en := by simp
            rw [this]
            exact hst)
          have FG := Lib.hid (grownBy_trans HG.out hgr)
          clear hst hgr m0 m1 m2 m3 m4 m5 htk hfl hx cc
          go_wp2_with fail
          go_roundw
          case rel => exact ⟨j + 1, rest, by omega, by go_num, hrl, FO, FG⟩
          case measure => simp [intOf]; omega
        · obtain rfl : j = n := by omega
          obtain rfl : old = [] := List.eq_nil_of_length_eq_zero (by omega)
          have hdj : d.length = j := by have := HDN.out; have := HN.out; omega
          have ho : wr.ownsRow w1.heap.size 66 6 (.slice (some ⟨w1.heap.size, 0, none⟩) j j) j (d.flatMap encE) := by
            have := HO.out
            rwa [List.append_nil, List.take_of_length_le (by omega)] at this
          have hblk := (own_some ho).2
          have hs := sortE_any w1.heap.size j d.toArray wr (holds_of_own ho hdj) hblk (by rw [List.size_toArray]; omega)
          have e1 : d.toArray.size = j := by rw [List.size_toArray]; exact hdj
          rw [e1] at hs
          have HSO := Lib.hid hs
          have HBK := Lib.hid hblk
          have QR := Lib.hid (Q2.out.grown HG.out (by have := L1.out; intro e; injection e with e; omega))
          clear hs ho hblk hlt e1
          go_wp2_with fail
          refine (HSO.out).mono ?_
          rintro en w3 ⟨rfl, d', hds, hperm, hsort, hH', hg3⟩
          have B3 := Lib.hid (BR.out.grown hg3 BR.out.size (fun k hk => by injection hk with hk; have := L1.out; omega))
          have Q3 := Lib.hid (QR.out.grown hg3 (by have := L1.out; intro e; injection e with e; omega))
          have S3 : Hid (w1.heap.size < w3.heap.size) := Lib.hid (by have := HBK.out; have := hg3.size; omega)
          obtain ⟨l, hl⟩ : ∃ l, l = d'.toList := ⟨_, rfl⟩
          have hll : l.length = j := by rw [hl, Array.length_toList]; exact hds
          have hget : ∀ i, d'[i]! = l[i]! := fun i => by
            have h0 : d' = l.toArray := by rw [hl]
            rw [h0, List.getElem!_toArray]
          have HSRT : Hid (Sorts keys items (l.map fun e => (e.key, e.x))) := Lib.hid (by
            refine ⟨?_, fun a b hab hb => ?_⟩
            · have h1 := hperm.map (fun e : En => (e.key, e.x))
              rw [← hl] at h1
              have h2 := HDZ.out
              rw [← h2]
              simpa using h1
            · rw [List.length_map] at hb
              have h1 := hsort a b hab (by omega)
              rw [hget, hget] at h1
              rw [List.getElem!_eq_getElem?_getD, List.getElem!_eq_getElem?_getD, List.getElem?_map, List.getElem?_map, List.getElem?_eq_getElem hb, List.getElem?_eq_getElem (show a < l.length by omega)]
              rw [getElem!_pos l b hb, getElem!_pos l a (by omega)] at h1
              exact h1)
          have HEN : Hid (∀ (i : Nat) (en : En), l[i]? = some en → en.key.size ≤ 9223372036854775807 ∧ Lies w (Lo w) en.x en.val) := Lib.hid (fun i en hi => by
            have hm : en ∈ d := by
              have h1 := List.mem_of_getElem? hi
              rw [hl] at h1
              simpa using hperm.mem_iff.1 h1
            obtain ⟨q, hq, rfl⟩ := List.mem_iff_getElem.1 hm
            have := HD.out q _ (List.getElem?_eq_getElem hq)
            exact ⟨this.1, this.2.1⟩)
          have HCE : Hid (∀ (i : Nat) (en : En), l[i]? = some en → ∀ (c : Nat) (v : Value), (encE en)[c]? = some v → w3.cell? ⟨w1.heap.size, i * 6 + c, none⟩ = some v) := Lib.hid (fun i en hi c v hc => by
            have hil := (List.getElem?_eq_some_iff.1 hi).1
            have h1 := HoldsK.cells hH' encE_len (i := i) (by omega) c v (by
              rw [hget, getElem!_pos l i hil, (List.getElem?_eq_some_iff.1 hi).2]; exact hc)
            simpa [Addr.add_lit] using h1)
          have HLL := Lib.hid hll
          clear hperm hsort hH' hg3 hl hget hds hll
          go_wp2_with fail
          obtain ⟨w4, hw4⟩ : ∃ w4, w4 = w3.alloc (.cells #[.int .i64 5, .int .i64 0, .string ⟨#[]⟩, .slice none 0 0, .slice none 0 0] 26) := ⟨_, rfl⟩
          have P4 : Hid (Bk w4 w3.heap.size 26 #[.int .i64 5, .int .i64 0, .string ⟨#[]⟩, .slice none 0 0, .slice none 0 0]) := Lib.hid (by rw [hw4]; exact Bk.new _ _ _)
          have B34 : Hid (Below w3.heap.size w3 w4) := Lib.hid (by rw [hw4]; exact below_one _ _)
          have Z4 : Hid (w4.heap.size = w3.heap.size + 1) := Lib.hid (by rw [hw4]; simp)
          have Q4 := Lib.hid (Q3.out.below B34.out Q3.out.lt)
          rw [← hw4]
          have HW4 := Lib.hid hw4
          clear hw4
          obtain ⟨iV, hiV, hzV, hsV, hbV⟩ := info_parts Try.infoV
          obtain ⟨iS, hiS, hzS, hsS, hbS⟩ := info_parts Try.infoS
          go_loopw [43, 11] (fun s _ wq => ∃ (i : Nat) (AI : Option Addr) (cI : Nat) (AK : Option Addr) (cK : Nat), i ≤ j ∧ s = .int .i64 i ∧ Hid (Bk wq w3.heap.size 26 #[.int .i64 5, .int .i64 0, .string ⟨#[]⟩, .slice AI i cI, .slice AK i cK]) ∧
            Hid (wq.ownsRow w4.heap.size 26 5 (.slice AI i cI) i ((l.take i).flatMap itemC)) ∧ Hid (wq.ownsRow w4.heap.size 9 1 (.slice AK i cK) i ((l.take i).map fun e => Value.string e.key)) ∧ Hid (w4.grownBy wq (some w3.heap.size))) (fun s _ _ => j - (intOf s).toNat)
          case atStart => exact ⟨0, none, 0, none, 0, by omega, rfl, P4, Lib.hid (World.ownsRow_nil _ _ _ _), Lib.hid (World.ownsRow_nil _ _ _ _), Lib.hid (World.grownBy.refl _ _)⟩
          case round =>
            obtain ⟨i, AI, cI, AK, cK, hij, rfl, HP, HI, HK, HQ⟩ := hrel
            by_cases hlt : i < j
            · have hil : i < l.length := by have := HLL.out; omega
              have hE := HCE.out i _ (List.getElem?_eq_getElem hil)
              have htk : l.take (i + 1) = l.take i ++ [l[i]'hil] := by rw [List.take_add_one, List.getElem?_eq_getElem hil]; rfl
              generalize l[i]'hil = en at *
              have hbg : wr.heap[w1.heap.size]? = w3.heap[w1.heap.size]? := (HQ.out.block _ (by have := S3.out; have := Z4.out; omega) (by have := S3.out; intro e; injection e with e; omega)).trans (B34.out.block _ S3.out)
              have cb := fun (q : Nat) => World.cell?_of_block (w := w3) (w' := wr) (a := ⟨w1.heap.size, q, none⟩) hbg
              have e0 := (cb _).trans (hE 0 _ rfl)
              have e1 := (cb _).trans (hE 1 _ rfl)
              have e2 := (cb _).trans (hE 2 _ rfl)
              have e3 := (cb _).trans (hE 3 _ rfl)
              have e4 := (cb _).trans (hE 4 _ rfl)
              have e5 := (cb _).trans (hE 5 _ rfl)
              rw [Nat.add_zero] at e0
              have p4 := (HP.out.alloc (.cells #[.string en.key, .int .i64 en.k, .int .i64 en.i, .string en.t, .slice en.A en.n en.c, .slice en.A' en.n' en.c'] 66)).cell 4
              change _ = some (Value.slice AK i cK) at p4
              have HTK := Lib.hid htk
              have hbase : w4.heap.size ≤ wr.heap.size := HQ.out.size
              have hpm : w3.heap.size < wr.heap.size := HP.out.lt
              have HBS := Lib.hid (And.intro hbase hpm)
              clear hE htk cb hbg hbase hpm
              go_wp2_with (at_builtin; refine wpList_append_own _ rfl (.tmp 48) (.tmp 51) 22 rfl w4.heap.size 9 iS (.string ByteArray.empty) 1 16 Try.underlying22 hiS hzS hsS hbS rfl (by decide) _ i _ rfl ((HK.out.alloc _).alloc _) _ 1 1 [.string en.key] rfl ?_ ?_ ?_ ?_ ?_ ?_ ?_)
              · rfl
              · intro q u hq
                match q with
                | 0 => simp at hq; subst hq; simp [Addr.add]
                | q + 1 => simp at hq
              · intro u hu; simp at hu; subst hu; rfl
              · unfold maxLen; omega
              · omega
              · have := HBS.out.1; simp; omega
              · intro v5 w5 hown hg _
                obtain ⟨AK2, cK2, rfl, _, _⟩ := own_form hown
                have hrow := HK.out.lt
                have P5 : Hid (Bk w5 w3.heap.size 26 #[.int .i64 5, .int .i64 0, .string ⟨#[]⟩, .slice AI i cI, .slice AK i cK]) := Lib.hid (((HP.out.alloc _).alloc _).grown hg (by intro e; have := (hrow _ e.symm).1; have := Z4.out; omega))
                have E5 : Hid (Bk w5 wr.heap.size 66 #[.string en.key, .int .i64 en.k, .int .i64 en.i, .string en.t, .slice en.A en.n en.c, .slice en.A' en.n' en.c']) := Lib.hid (((Bk.new wr _ _).alloc _).grown hg (by intro e; have := (hrow _ e.symm).2; omega))
                have I5 : Hid (w5.ownsRow w4.heap.size 26 5 (.slice AI i cI) i ((l.take i).flatMap itemC)) := Lib.hid (((HI.out.alloc _).alloc _).kept hg (own_ne HI.out HK.out (by decide)))
                have G5 : Hid (w4.grownBy w5 (some w3.heap.size)) := Lib.hid (grown_low (grown_low (grown_low HQ.out (World.grownBy_alloc _ _ none) (fun q hq => by cases hq)) (World.grownBy_alloc _ _ none) (fun q hq => by cases hq)) hg (fun q hq => (hrow q hq).1))
                have K5 : Hid (w5.ownsRow w4.heap.size 9 1 (.slice AK2 (i + 1) cK2) (i + 1) ((l.take (i + 1)).map fun e => Value.string e.key)) := Lib.hid (by
                  rw [HTK.out, List.map_append, List.map_take]; exact hown)
                have I6 : Hid ((w5.setCell ⟨w3.heap.size, 4, none⟩ (.slice AK2 (i + 1) cK2)).ownsRow w4.heap.size 26 5 (.slice AI i cI) i ((l.take i).flatMap itemC)) := Lib.hid (own_same I5.out (fun b h1 _ => Below.heap_setCell _ _ _ _ (by have := Z4.out; show b ≠ w3.heap.size; omega)))
                have x1 := E5.out.cell 1
                have x2 := E5.out.cell 2
                have x3 := E5.out.cell 3
                have x4 := E5.out.cell 4
                have x5 := E5.out.cell 5
                change _ = some (Value.int .i64 en.k) at x1
                change _ = some (Value.int .i64 en.i) at x2
                change _ = some (Value.string en.t) at x3
                change _ = some (Value.slice en.A en.n en.c) at x4
                change _ = some (Value.slice en.A' en.n' en.c') at x5
                have y3 := P5.out.cell 3
                have y4 := P5.out.cell 4
                have z4 := P5.out.frozen 4
                have z3 := P5.out.frozen 3
                change _ = some (Value.slice AI i cI) at y3
                change _ = some (Value.slice AK i cK) at y4
                have nq1 : wr.heap.size ≠ w3.heap.size := by have := HBS.out.2; omega
                have nq2 : w3.heap.size ≠ wr.heap.size := by have := HBS.out.2; omega
                have S5 : Hid (wr.heap.size < w5.heap.size) := Lib.hid E5.out.lt
                clear hown hg hrow p4 e0 e1 e2 e3 e4 e5
                go_wp2_with (at_builtin; refine wpList_append_own _ rfl (.tmp 55) (.tmp 58) 23 rfl w4.heap.size 26 iV (.agg #[.int .i64 0, .int .i64 0, .string ByteArray.empty, .slice none 0 0, .slice none 0 0]) 5 80 Try.underlying23 hiV hzV hsV hbV rfl (by decide) _ i _ rfl (I6.out.alloc _) _ 1 1 (itemC en) rfl ?_ ?_ ?_ ?_ ?_ ?_ ?_)
                · rfl
                · intro q u hq
                  match q with
                  | 0 => simp [itemC] at hq; subst hq; simp only [Addr.add]; exact (World.cell?_alloc_at _ _ _ _ (by simp [World.setCell])).trans rfl
                  | 1 => simp [itemC] at hq; subst hq; simp only [Addr.add]; exact (World.cell?_alloc_at _ _ _ _ (by simp [World.setCell])).trans rfl
                  | 2 => simp [itemC] at hq; subst hq; simp only [Addr.add]; exact (World.cell?_alloc_at _ _ _ _ (by simp [World.setCell])).trans rfl
                  | 3 => simp [itemC] at hq; subst hq; simp only [Addr.add]; exact (World.cell?_alloc_at _ _ _ _ (by simp [World.setCell])).trans rfl
                  | 4 => simp [itemC] at hq; subst hq; simp only [Addr.add]; exact (World.cell?_alloc_at _ _ _ _ (by simp [World.setCell])).trans rfl
                  | q + 5 => simp [itemC] at hq
                · intro u hu
                  simp only [itemC, List.mem_cons, List.not_mem_nil, or_false] at hu
                  rcases hu with rfl | rfl | rfl | rfl | rfl <;> rfl
                · unfold maxLen; omega
                · omega
                · have := HBS.out.1; have := S5.out; simp [World.setCell]; omega
                · intro v7 w7 hown hg _
                  obtain ⟨AI2, cI2, rfl, _, _⟩ := own_formN hown
                  have hrow := I5.out.lt
                  have P7 : Hid (Bk w7 w3.heap.size 26 #[.int .i64 5, .int .i64 0, .string ⟨#[]⟩, .slice AI i cI, .slice AK2 (i + 1) cK2]) := Lib.hid (((P5.out.put 4 _).alloc _).grown hg (by intro e; have := (hrow _ e.symm).1; have := Z4.out; omega))
                  have K6 : Hid ((w5.setCell ⟨w3.heap.size, 4, none⟩ (.slice AK2 (i + 1) cK2)).ownsRow w4.heap.size 9 1 (.slice AK2 (i + 1) cK2) (i + 1) ((l.take (i + 1)).map fun e => Value.string e.key)) := Lib.hid (own_same K5.out (fun b h1 _ => Below.heap_setCell _ _ _ _ (by have := Z4.out; show b ≠ w3.heap.size; omega)))
                  have K7 : Hid (w7.ownsRow w4.heap.size 9 1 (.slice AK2 (i + 1) cK2) (i + 1) ((l.take (i + 1)).map fun e => Value.string e.key)) := Lib.hid ((K6.out.alloc _).kept hg (own_ne K6.out I6.out (by decide)))
                  have G7 : Hid (w4.grownBy w7 (some w3.heap.size)) := Lib.hid (grown_low (grown_low (grownBy_trans G5.out (turned w5 w3.heap.size 4 _)) (World.grownBy_alloc _ _ none) (fun q hq => by cases hq)) hg (fun q hq => (hrow q hq).1))
                  have I7 : Hid (w7.ownsRow w4.heap.size 26 5 (.slice AI2 (i + 1) cI2) (i + 1) ((l.take (i + 1)).flatMap itemC)) := Lib.hid (by
                    rw [HTK.out, List.flatMap_append]
                    have : [en].flatMap itemC = itemC en := by simp
                    rw [this]
                    exact hown)
                  have P8 : Hid (Bk (w7.setCell ⟨w3.heap.size, 3, none⟩ (.slice AI2 (i + 1) cI2)) w3.heap.size 26 #[.int .i64 5, .int .i64 0, .string ⟨#[]⟩, .slice AI2 (i + 1) cI2, .slice AK2 (i + 1) cK2]) := Lib.hid (P7.out.put 3 _)
                  have K8 : Hid ((w7.setCell ⟨w3.heap.size, 3, none⟩ (.slice AI2 (i + 1) cI2)).ownsRow w4.heap.size 9 1 (.slice AK2 (i + 1) cK2) (i + 1) ((l.take (i + 1)).map fun e => Value.string e.key)) := Lib.hid (own_same K7.out (fun b h1 _ => Below.heap_setCell _ _ _ _ (by have := Z4.out; show b ≠ w3.heap.size; omega)))
                  have I8 : Hid ((w7.setCell ⟨w3.heap.size, 3, none⟩ (.slice AI2 (i + 1) cI2)).ownsRow w4.heap.size 26 5 (.slice AI2 (i + 1) cI2) (i + 1) ((l.take (i + 1)).flatMap itemC)) := Lib.hid (own_same I7.out (fun b h1 _ => Below.heap_setCell _ _ _ _ (by have := Z4.out; show b ≠ w3.heap.size; omega)))
                  have G8 : Hid (w4.grownBy (w7.setCell ⟨w3.heap.size, 3, none⟩ (.slice AI2 (i + 1) cI2)) (some w3.heap.size)) := Lib.hid (grownBy_trans G7.out (turned w7 w3.heap.size 3 _))
                  have z7 := P7.out.cell 3
                  have zf := P7.out.frozen 3
                  clear hown hg hrow x1 x2 x3 x4 x5 y3 y4 z3 z4 nq1 nq2
                  go_wp2_with fail
                  go_roundw
                  case rel => exact ⟨i + 1, AI2, cI2, AK2, cK2, by omega, by go_num, P8, I8, K8, G8⟩
                  case measure => simp [intOf]; omega
            · obtain rfl : i = j := by omega
              have B4 := Lib.hid (B3.out.trans (B34.out.mono B3.out.size))
              have BQ := Lib.hid (B4.out.grown HQ.out B4.out.size (fun k hk => by injection hk with hk; have := B3.out.size; omega))
              have QQ := Lib.hid (Q4.out.grown HQ.out (by have := S3.out; have := L1.out; intro e; injection e with e; omega))
              have p3 := HP.out.cell 3
              have p4 := HP.out.cell 4
              change _ = some (Value.slice AI i cI) at p3
              change _ = some (Value.slice AK i cK) at p4
              have htl : l.take i = l := List.take_of_length_le (by have := HLL.out; omega)
              have hkeys : wr.ownsRow w4.heap.size 9 1 (.slice AK (l.map (·.key)).length cK) (l.map (·.key)).length ((l.map (·.key)).map Value.string) := by
                have := HK.out
                rw [htl] at this
                rw [List.length_map, HLL.out, List.map_map]
                exact this
              have hitems : wr.ownsRow w4.heap.size 26 5 (.slice AI (l.map (·.x)).length cI) (l.map (·.x)).length (l.flatMap itemC) := by
                have := HI.out
                rw [htl] at this
                rw [List.length_map, HLL.out]
                exact this
              have hSk := strs_own (fun s hs => by
                obtain ⟨en, he, rfl⟩ := List.mem_map.1 hs
                obtain ⟨q, hq⟩ := List.getElem?_of_mem he
                exact (HEN.out q en hq).1) hkeys
              have hLi := (items_liesC (fun en he => by
                obtain ⟨q, hq⟩ := List.getElem?_of_mem he
                exact (HEN.out q en hq).2.keep (fun p hp => BQ.out.cell hp) (fun b hb => Nat.lt_of_lt_of_le hb BQ.out.size) : ∀ en ∈ l, Lies wr (Lo wr) en.x en.val)).own hitems
              have bk := own_bounds hkeys
              have bi := own_bounds hitems
              obtain ⟨es, hes⟩ : ∃ es : List (ByteArray × VT), es = l.map (fun e => (e.key, e.x)) := ⟨_, rfl⟩
              have e1 : es.map (·.1) = l.map (·.key) := by rw [hes, List.map_map]; rfl
              have e2 : es.map (·.2) = l.map (·.x) := by rw [hes, List.map_map]; rfl
              have hM : Lies wr (Lo wr) (mapT es) (.agg #[.int .i64 5, .int .i64 0, .string ⟨#[]⟩, .slice AI i cI, .slice AK i cK]) := by
                unfold mapT
                rw [Lies, e1, e2]
                refine ⟨AI, cI, AK, cK, ?_, by omega, by omega, by decide, bi.1, bi.2, hLi, bk.1, bk.2, hSk⟩
                unfold vag
                rw [List.length_map, List.length_map, HLL.out]
              have hRM : (mapT es).all reachF = true := by
                unfold mapT
                rw [VT.all_mk, e1, e2, Bool.and_eq_true]
                constructor
                · unfold reachF VT.its VT.ks
                  rw [List.length_map, List.length_map, HLL.out, Bool.and_eq_true, decide_eq_true_eq, decide_eq_true_eq]
                  omega
                · rw [alls_iff]
                  intro x hx
                  have h1 : x ∈ es.map (·.2) := by rw [e2]; exact hx
                  obtain ⟨pr, hp, rfl⟩ := List.mem_map.1 h1
                  have hz : pr ∈ keys.zip items := (HSRT.out.1.mem_iff).1 (by rw [← hes]; exact hp)
                  have h2 : pr.2 ∈ items := (List.of_mem_zip (a := pr.1) (b := pr.2) hz).2
                  exact alls_iff.1 HR.out _ h2
              have hA := ascending_any AK cK (l.map (·.key)) wr hSk bk.1 bk.2
              rw [List.length_map, HLL.out, ← e1] at hA
              have SPEC : Hid (MapSpec keys items (mapV es) (mapE es)) := Lib.hid (Or.inr ⟨HLN.out, es, by rw [hes]; exact HSRT.out, rfl, rfl⟩)
              have HM := Lib.hid (fun (w' : World) (hb : Below wr.heap.size wr w') => limited_any (hM.below hb) hRM)
              have HA := Lib.hid hA
              have VY : Hid (rising (es.map (·.1)) = true → mapV es = limT (mapT es) ∧ mapE es = limE (mapT es)) := Lib.hid (fun h => by unfold mapV mapE; rw [if_pos h, if_pos h]; exact ⟨rfl, rfl⟩)
              have VN : Hid (rising (es.map (·.1)) = false → mapV es = nullT ∧ mapE es = 9) := Lib.hid (fun h => by unfold mapV mapE; rw [h]; exact ⟨rfl, rfl⟩)
              clear hkeys hitems hSk hLi bk bi hM hRM hA e1 e2 hes htl hlt
              generalize rising (es.map (·.1)) = rs at *
              go_wp2_with fail
              refine (HA.out).mono ?_
              rintro en w9 ⟨rfl, hb⟩
              have P9 := Lib.hid (HP.out.below hb HP.out.lt)
              have Q9 := Lib.hid (QQ.out.below hb QQ.out.lt)
              have B9 := Lib.hid (BQ.out.trans (hb.mono BQ.out.size))
              have HB9 := Lib.hid hb
              clear hb p3 p4
              cases rs with
              | false =>
                have V := Lib.hid (VN.out rfl)
                clear VY VN
                go_wp2_with fail
                refine (Null_any w9).mono ?_
                unfold zeroV
                rintro en w10 ⟨rfl, hb⟩
                have Q10 := Lib.hid (Q9.out.below hb Q9.out.lt)
                have B10 := Lib.hid (B9.out.trans (hb.mono B9.out.size))
                have q0 := Q10.out.cell 0
                have q1 := Q10.out.cell 1
                have q2 := Q10.out.cell 2
                have q3 := Q10.out.cell 3
                have q4 := Q10.out.cell 4
                have f0 := Q10.out.frozen 0
                have f1 := Q10.out.frozen 1
                have f2 := Q10.out.frozen 2
                have f3 := Q10.out.frozen 3
                have f4 := Q10.out.frozen 4
                clear hb
                go_wp2
                obtain ⟨wf, hwf⟩ : ∃ wf, wf = ((((w10.setCell ⟨w.heap.size, 0, none⟩ (.int .i64 0)).setCell ⟨w.heap.size, 1, none⟩ (.int .i64 0)).setCell ⟨w.heap.size, 2, none⟩ (.string ⟨#[]⟩)).setCell ⟨w.heap.size, 3, none⟩ (.slice none 0 0)).setCell ⟨w.heap.size, 4, none⟩ (.slice none 0 0) := ⟨_, rfl⟩
                have QF : Hid (Bk wf w.heap.size 26 #[.int .i64 0, .int .i64 0, .string ⟨#[]⟩, .slice none 0 0, .slice none 0 0]) := Lib.hid (by rw [hwf]; exact ((((Q10.out.put 0 _).put 1 _).put 2 _).put 3 _).put 4 _)
                have BF : Hid (Below w.heap.size w wf) := Lib.hid (by
                  rw [hwf]
                  exact ((((B10.out.setCell (p := ⟨w.heap.size, 0, none⟩) (Nat.le_refl _) _).setCell (p := ⟨w.heap.size, 1, none⟩) (Nat.le_refl _) _).setCell (p := ⟨w.heap.size, 2, none⟩) (Nat.le_refl _) _).setCell (p := ⟨w.heap.size, 3, none⟩) (Nat.le_refl _) _).setCell (p := ⟨w.heap.size, 4, none⟩) (Nat.le_refl _) _)
                rw [← hwf]
                refine bodyPost_ret (results_row2 rfl _ _ w.heap.size 26 _ (0, 0) _ rfl QF.out Try.underlying26 rfl (by kernel_rfl)) rfl ?_
                refine ⟨_, _, SPEC.out, ?_⟩
                rw [V.out.1, V.out.2]
                exact ⟨_, rfl, zero_ownd _ _, BF.out⟩
              | true =>
                have V := Lib.hid (VY.out rfl)
                have HL9 := Lib.hid (HM.out w9 HB9.out)
                have p0 := P9.out.cell 0
                have p1 := P9.out.cell 1
                have p2 := P9.out.cell 2
                have p3 := P9.out.cell 3
                have p4 := P9.out.cell 4
                clear VY VN
                go_wp2_with fail
                refine (HL9.out).mono ?_
                rintro en w10 ⟨v, rfl, hlv, hb⟩
                have Q10 := Lib.hid (Q9.out.below hb Q9.out.lt)
                have B10 := Lib.hid (B9.out.trans (hb.mono B9.out.size))
                have LV := Lib.hid hlv
                have q0 := Q10.out.cell 0
                have q1 := Q10.out.cell 1
                have q2 := Q10.out.cell 2
                have q3 := Q10.out.cell 3
                have q4 := Q10.out.cell 4
                have f0 := Q10.out.frozen 0
                have f1 := Q10.out.frozen 1
                have f2 := Q10.out.frozen 2
                have f3 := Q10.out.frozen 3
                have f4 := Q10.out.frozen 4
                obtain ⟨k2, i2, t2, D2, n3, c3, D3, n4, c4, rfl⟩ := hlv.form
                have LT9 := Lib.hid Q9.out.lt
                clear hb hlv p0 p1 p2 p3 p4
                go_wp2
                obtain ⟨wf, hwf⟩ : ∃ wf, wf = ((((w10.setCell ⟨w.heap.size, 0, none⟩ (.int .i64 k2)).setCell ⟨w.heap.size, 1, none⟩ (.int .i64 i2)).setCell ⟨w.heap.size, 2, none⟩ (.string t2)).setCell ⟨w.heap.size, 3, none⟩ (.slice D2 n3 c3)).setCell ⟨w.heap.size, 4, none⟩ (.slice D3 n4 c4) := ⟨_, rfl⟩
                have QF : Hid (Bk wf w.heap.size 26 #[.int .i64 k2, .int .i64 i2, .string t2, .slice D2 n3 c3, .slice D3 n4 c4]) := Lib.hid (by rw [hwf]; exact ((((Q10.out.put 0 _).put 1 _).put 2 _).put 3 _).put 4 _)
                have SF : Hid (∀ b, b ≠ w.heap.size → wf.heap[b]? = w10.heap[b]?) := Lib.hid (fun b hb => by
                  rw [hwf]; exact ((((Below.heap_setCell _ _ _ _ hb).trans (Below.heap_setCell _ _ _ _ hb)).trans (Below.heap_setCell _ _ _ _ hb)).trans (Below.heap_setCell _ _ _ _ hb)).trans (Below.heap_setCell _ _ _ _ hb))
                have BF : Hid (Below w.heap.size w wf) := Lib.hid (by
                  rw [hwf]
                  exact ((((B10.out.setCell (p := ⟨w.heap.size, 0, none⟩) (Nat.le_refl _) _).setCell (p := ⟨w.heap.size, 1, none⟩) (Nat.le_refl _) _).setCell (p := ⟨w.heap.size, 2, none⟩) (Nat.le_refl _) _).setCell (p := ⟨w.heap.size, 3, none⟩) (Nat.le_refl _) _).setCell (p := ⟨w.heap.size, 4, none⟩) (Nat.le_refl _) _)
                rw [← hwf]
                refine bodyPost_ret (results_row2 rfl _ _ w.heap.size 26 _ (0, 0) _ rfl QF.out Try.underlying26 rfl (by kernel_rfl)) rfl ?_
                refine ⟨_, _, SPEC.out, ?_⟩
                rw [V.out.1, V.out.2]
                exact ⟨_, rfl, (LV.out.keep (fun b h1 _ => SF.out b (by have := LT9.out; omega))).mono (by have := LT9.out; omega), BF.out⟩
  · have t0 : (((items.length : Nat) : Int) != ((keys.length : Nat) : Int)) = true := by rw [bne_iff_ne]; omega
    have HLN := Lib.hid hlen
    clear hlen hS hL
    obtain ⟨w1, hw1⟩ : ∃ w1, w1 = w.alloc (.cells #[.int .i64 0, .int .i64 0, .string ⟨#[]⟩, .slice none 0 0, .slice none 0 0] 26) := ⟨_, rfl⟩
    have B1 : Hid (Below w.heap.size w w1) := Lib.hid (by rw [hw1]; exact below_one _ _)
    have Q1 : Hid (Bk w1 w.heap.size 26 #[.int .i64 0, .int .i64 0, .string ⟨#[]⟩, .slice none 0 0, .slice none 0 0]) := Lib.hid (by rw [hw1]; exact Bk.new _ _ _)
    have HW1 := Lib.hid hw1
    clear hw1
    go_enter Try.func13, Try.ntmps13
    go_wp2_with fail
    rw [← HW1.out]
    refine (Null_any w1).mono ?_
    unfold zeroV
    rintro en w10 ⟨rfl, hb⟩
    have Q10 := Lib.hid (Q1.out.below hb Q1.out.lt)
    have B10 := Lib.hid (B1.out.trans (hb.mono B1.out.size))
    have q0 := Q10.out.cell 0
    have q1 := Q10.out.cell 1
    have q2 := Q10.out.cell 2
    have q3 := Q10.out.cell 3
    have q4 := Q10.out.cell 4
    have f0 := Q10.out.frozen 0
    have f1 := Q10.out.frozen 1
    have f2 := Q10.out.frozen 2
    have f3 := Q10.out.frozen 3
    have f4 := Q10.out.frozen 4
    clear hb
    go_wp2
    obtain ⟨wf, hwf⟩ : ∃ wf, wf = ((((w10.setCell ⟨w.heap.size, 0, none⟩ (.int .i64 0)).setCell ⟨w.heap.size, 1, none⟩ (.int .i64 0)).setCell ⟨w.heap.size, 2, none⟩ (.string ⟨#[]⟩)).setCell ⟨w.heap.size, 3, none⟩ (.slice none 0 0)).setCell ⟨w.heap.size, 4, none⟩ (.slice none 0 0) := ⟨_, rfl⟩
    have QF : Hid (Bk wf w.heap.size 26 #[.int .i64 0, .int .i64 0, .string ⟨#[]⟩, .slice none 0 0, .slice none 0 0]) := Lib.hid (by rw [hwf]; exact ((((Q10.out.put 0 _).put 1 _).put 2 _).put 3 _).put 4 _)
    have BF : Hid (Below w.heap.size w wf) := Lib.hid (by
      rw [hwf]
      exact ((((B10.out.setCell (p := ⟨w.heap.size, 0, none⟩) (Nat.le_refl _) _).setCell (p := ⟨w.heap.size, 1, none⟩) (Nat.le_refl _) _).setCell (p := ⟨w.heap.size, 2, none⟩) (Nat.le_refl _) _).setCell (p := ⟨w.heap.size, 3, none⟩) (Nat.le_refl _) _).setCell (p := ⟨w.heap.size, 4, none⟩) (Nat.le_refl _) _)
    rw [← hwf]
    refine bodyPost_ret (results_row2 rfl _ _ w.heap.size 26 _ (0, 0) _ rfl QF.out Try.underlying26 rfl (by kernel_rfl)) rfl ?_
    exact ⟨nullT, 6, Or.inl ⟨HLN.out, rfl, rfl⟩, _, rfl, zero_ownd _ _, BF.out⟩
end Go.Proofs.Ytidinbeanaifmaa
namespace Go.Proofs.Ytidinbeanaifmaa
open Go.RowKit

/-- a value that reads through blocks of R and new ones -/
def MakesR (R : Nat → Prop) (y : VT) (w : World) (e : Ending) (w' : World) : Prop := ∃ v, e = .returned v ∧ Lies w' (fun b => R b ∨ (w.heap.size ≤ b ∧ b < w'.heap.size)) y v ∧ Below w.heap.size w w'

/-- the cells of the block that was made last -/
theorem news_alloc {w : World} {cs : Array Value} {t : TypeId} {H : Nat} (h : w.heap.size = H) : ∀ (j : Nat) (u : Value), cs.toList[j]? = some u → (w.alloc (.cells cs t)).cell? ((⟨H, 0, none⟩ : Addr).add j) = some u := by
  subst h
  exact World.news_of_block (heap_alloc_new w _)
/-- a map under way: g its struct, B where its own rows begin; what the items hold lies in w -/
structure OutR (w : World) (R : Nat → Prop) (B g : Nat) (ps : List (ByteArray × VT)) (n : Nat) (AI : Option Addr) (cI : Nat) (AK : Option Addr) (cK : Nat) (wr : World) : Prop where
  len : ps.length = n
  blk : Bk wr g 26 #[.int .i64 5, .int .i64 0, .string ⟨#[]⟩, .slice AI n cI, .slice AK n cK]
  its : ∃ cs, LiesC w R (ps.map (·.2)) cs ∧ wr.ownsRow B 26 5 (.slice AI n cI) n cs
  kys : wr.ownsRow B 9 1 (.slice AK n cK) n (ps.map fun p => Value.string p.1)
/-- the same, with a key more -/
structure MidR (w : World) (R : Nat → Prop) (B g : Nat) (ps : List (ByteArray × VT)) (p : ByteArray × VT) (n : Nat) (AI : Option Addr) (cI : Nat) (AK : Option Addr) (cK : Nat) (wr : World) : Prop where
  len : ps.length = n
  blk : Bk wr g 26 #[.int .i64 5, .int .i64 0, .string ⟨#[]⟩, .slice AI n cI, .slice AK (n + 1) cK]
  its : ∃ cs, LiesC w R (ps.map (·.2)) cs ∧ wr.ownsRow B 26 5 (.slice AI n cI) n cs
  kys : wr.ownsRow B 9 1 (.slice AK (n + 1) cK) (n + 1) ((ps ++ [p]).map fun p => Value.string p.1)
section
variable {R : Nat → Prop} {w w5 wr w4 : World} {B g n : Nat} {ps : List (ByteArray × VT)} {p : ByteArray × VT} {AI AK AK2 AI2 : Option Addr} {cI cK cK2 cI2 : Nat}
theorem below_row {e : TypeId} {size m : Nat} {v : Value} {xs : List Value} (h : wr.ownsRow B e size v m xs) (hg : g < B) : some g ≠ v.ownBlock := fun e' => by
  have := (h.lt g e'.symm).1
  omega
theorem OutR.key (h : OutR w R B g ps n AI cI AK cK wr) (hg : wr.grownBy w5 (Value.slice AK n cK).ownBlock)
    (hown : w5.ownsRow B 9 1 (.slice AK2 (n + 1) cK2) (n + 1) ((ps.map fun p => Value.string p.1) ++ [.string p.1])) (hB : g < B) :
    MidR w R B g ps p n AI cI AK2 cK2 (w5.setCell ⟨g, 4, none⟩ (.slice AK2 (n + 1) cK2)) := by
  obtain ⟨cs, hcs, hi⟩ := h.its
  refine ⟨h.len, (h.blk.grown hg (below_row h.kys hB)).put 4 _, ⟨cs, hcs, ?_⟩, ?_⟩
  · exact own_same (hi.kept hg (own_ne hi h.kys (by decide))) (fun b h1 _ => Below.heap_setCell _ _ _ _ (by show b ≠ g; omega))
  · rw [List.map_append]
    exact own_same hown (fun b h1 _ => Below.heap_setCell _ _ _ _ (by show b ≠ g; omega))
theorem MidR.item {a b s y z : Value} {cs : List Value} (h : MidR w R B g ps p n AI cI AK cK wr) (hcs : LiesC w R (ps.map (·.2)) cs) (hi : wr.ownsRow B 26 5 (.slice AI n cI) n cs)
    (hx : Lies w R p.2 (.agg #[a, b, s, y, z])) (hg : wr.grownBy w5 (Value.slice AI n cI).ownBlock)
    (hown : w5.ownsRow B 26 5 (.slice AI2 (n + 1) cI2) (n + 1) (cs ++ [a, b, s, y, z])) (hB : g < B) :
    OutR w R B g (ps ++ [p]) (n + 1) AI2 cI2 AK cK (w5.setCell ⟨g, 3, none⟩ (.slice AI2 (n + 1) cI2)) := by
  refine ⟨by rw [List.length_append, h.len]; rfl, (h.blk.grown hg (below_row hi hB)).put 3 _, ⟨cs ++ [a, b, s, y, z], ?_, ?_⟩, ?_⟩
  · rw [List.map_append]
    exact LiesC.append hcs ⟨a, b, s, y, z, [], rfl, hx, rfl⟩
  · exact own_same hown (fun b h1 _ => Below.heap_setCell _ _ _ _ (by show b ≠ g; omega))
  · exact own_same (h.kys.kept hg (own_ne h.kys hi (by decide))) (fun b h1 _ => Below.heap_setCell _ _ _ _ (by show b ≠ g; omega))
/-- what has grown -/
theorem out_grown {e : TypeId} {size m i : Nat} {v u : Value} {xs : List Value} (h : w4.grownBy wr (some g)) (hr : wr.ownsRow w4.heap.size e size v m xs) (hg : wr.grownBy w5 v.ownBlock) : w4.grownBy (w5.setCell ⟨g, i, none⟩ u) (some g) :=
  grownBy_trans (grown_low h hg (fun q hq => (hr.lt q hq).1)) (turned w5 g i u)
theorem OutR.lies (h : OutR w R B g ps n AI cI AK cK wr) (hR : ∀ b, R b → b < w.heap.size) (hB : w.heap.size ≤ B) (hb : Below w.heap.size w wr) (hs : ∀ p ∈ ps, p.1.size ≤ 9223372036854775807) :
    Lies wr (fun b => R b ∨ (w.heap.size ≤ b ∧ b < wr.heap.size)) (mapT ps) (.agg #[.int .i64 5, .int .i64 0, .string ⟨#[]⟩, .slice AI n cI, .slice AK n cK]) := by
  obtain ⟨cs, hcs, hi⟩ := h.its
  have hl := h.len
  subst hl
  unfold mapT
  rw [Lies, List.length_map, List.length_map]
  have hk := own_bounds h.kys
  have hi' := own_bounds hi
  refine ⟨AI, cI, AK, cK, rfl, by omega, by omega, by decide, hi'.1, hi'.2, ?_, hk.1, hk.2, ?_⟩
  · exact (hcs.keep (R' := fun b => R b ∨ (w.heap.size ≤ b ∧ b < wr.heap.size)) (fun p hp => hb.cell (hR _ hp)) (fun b h => Or.inl h)).ownR (fun g h1 h2 => Or.inr ⟨by omega, h2⟩) (List.length_map _).symm hi
  · refine strs_ownR (base := B) (fun s hs' => ?_) (fun g h1 h2 => Or.inr ⟨by omega, h2⟩) (List.length_map _).symm (by rw [List.map_map]; exact h.kys)
    obtain ⟨q, hq, rfl⟩ := List.mem_map.1 hs'
    exact hs q hq
end
end Go.Proofs.Ytidinbeanaifmaa
