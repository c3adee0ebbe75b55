/-
  Five cells put in a row; the last of a row of values; a value made of rows of the call's own. (From XVdi, XVdj.)
-/
import Derived.Test.YtlgmhhimbabkjaaGreatDoorTc
import Derived.Test.YtlgmhhimbabkjaaGreatDoorVcq
namespace Go.Proofs.YtlgmhhimbabkjaaGreatDoor
open Go.RowKit

/-- five cells put in a row -/
def put5 (w : World) (g o : Nat) (a b c d e : Value) : World := ((((w.setCell ⟨g, o, none⟩ a).setCell ⟨g, o + 1, none⟩ b).setCell ⟨g, o + 2, none⟩ c).setCell ⟨g, o + 3, none⟩ d).setCell ⟨g, o + 4, none⟩ e
def setV (cs : Array Value) (o : Nat) (a b c d e : Value) : Array Value := ((((cs.setIfInBounds o a).setIfInBounds (o + 1) b).setIfInBounds (o + 2) c).setIfInBounds (o + 3) d).setIfInBounds (o + 4) e
section
variable {w : World} {g o : Nat} {a b c d e : Value}
theorem put5_bk {t : TypeId} {cs : Array Value} (h : Bk w g t cs) : Bk (put5 w g o a b c d e) g t (setV cs o a b c d e) := ((((h.put o a).put (o + 1) b).put (o + 2) c).put (o + 3) d).put (o + 4) e
theorem put5_far {i : Nat} (h : i ≠ g) : (put5 w g o a b c d e).heap[i]? = w.heap[i]? :=
  ((((Below.heap_setCell _ _ _ _ h).trans (Below.heap_setCell _ _ _ _ h)).trans (Below.heap_setCell _ _ _ _ h)).trans (Below.heap_setCell _ _ _ _ h)).trans (Below.heap_setCell _ _ _ _ h)
theorem put5_bk_far {i : Nat} {t : TypeId} {cs : Array Value} (h : Bk w i t cs) (hi : i ≠ g) : Bk (put5 w g o a b c d e) i t cs := (put5_far hi).trans h
theorem put5_size : (put5 w g o a b c d e).heap.size = w.heap.size := by simp [put5, World.setCell]
theorem put5_os : (put5 w g o a b c d e).os = w.os := rfl
theorem put5_tape : (put5 w g o a b c d e).tape = w.tape := rfl
theorem put5_output : (put5 w g o a b c d e).output = w.output := rfl
end
/-- the last of the rows: its cells, and the row when they are put -/
theorem own_last {w : World} {base g cap j : Nat} {t : TypeId} {cs : List Value} {z0 z1 z2 z3 z4 : Value} (h : w.ownsRow base t 5 (.slice (some ⟨g, 0, none⟩) (j + 1) cap) (j + 1) (cs ++ [z0, z1, z2, z3, z4])) :
    ∃ cur, Bk w g t cur ∧ cur[j * 5]? = some z0 ∧ cur[j * 5 + 1]? = some z1 ∧ cur[j * 5 + 2]? = some z2 ∧ cur[j * 5 + 3]? = some z3 ∧ cur[j * 5 + 4]? = some z4 ∧
      ∀ (W : World) (a b c d e : Value), Bk W g t (setV cur (j * 5) a b c d e) → W.ownsRow base t 5 (.slice (some ⟨g, 0, none⟩) (j + 1) cap) (j + 1) (cs ++ [a, b, c, d, e]) := by
  obtain ⟨h1, h2⟩ := h
  rcases h2 with ⟨h2, _⟩ | ⟨g', cap', cur, h2, hb, hg, hc, hm, hz, ht⟩
  · simp at h2
  · injection h2 with e1 _ e2
    injection e1 with e1
    injection e1 with e1
    subst e1
    subst e2
    have hl : cs.length = j * 5 := by simp at h1; omega
    have at_ : ∀ i, i < 5 → cur[j * 5 + i]? = [z0, z1, z2, z3, z4][i]? := fun i hi => by
      have h5 : (cur.toList.take ((j + 1) * 5))[j * 5 + i]? = [z0, z1, z2, z3, z4][i]? := by
        rw [ht, List.getElem?_append_right (by omega), hl]
        congr 1
        omega
      rw [List.getElem?_take_of_lt (by omega)] at h5
      rw [← h5, Array.getElem?_toList]
    refine ⟨cur, hg, at_ 0 (by omega), at_ 1 (by omega), at_ 2 (by omega), at_ 3 (by omega), at_ 4 (by omega), fun W a b c d e hW => ⟨by simp at h1 ⊢; omega, Or.inr ⟨g, cap, _, rfl, hb, hW, hc, hm, by simp [setV, hz], ?_⟩⟩⟩
    unfold setV
    simp only [Array.toList_setIfInBounds, List.take_set, ht]
    simp [hl]

/-- the stores behind an append -/
def Last (w1 wf : World) (g g2 : Nat) (G C : Array Value) : Prop := wf.os = w1.os ∧ wf.tape = w1.tape ∧ wf.output = w1.output ∧ wf.heap.size = w1.heap.size ∧ (∀ b, b ≠ g → b ≠ g2 → wf.heap[b]? = w1.heap[b]?) ∧ Bk wf g 25 G ∧ Bk wf g2 25 C
section
variable {w1 : World} {g g2 o : Nat} {G cur : Array Value} {a b c d e s : Value}
theorem last_a (hG : Bk w1 g 25 G) (hB : Bk w1 g2 25 cur) (hne : g2 ≠ g) : Last w1 ((put5 w1 g2 o a b c d e).setCell ⟨g, 3, none⟩ s) g g2 (G.setIfInBounds 3 s) (setV cur o a b c d e) := by
  have h1 := put5_bk_far (o := o) (a := a) (b := b) (c := c) (d := d) (e := e) hG (Ne.symm hne)
  have h2 := put5_bk (o := o) (a := a) (b := b) (c := c) (d := d) (e := e) hB
  have h3 := put5_os (w := w1) (g := g2) (o := o) (a := a) (b := b) (c := c) (d := d) (e := e)
  have h4 := put5_tape (w := w1) (g := g2) (o := o) (a := a) (b := b) (c := c) (d := d) (e := e)
  have h5 := put5_output (w := w1) (g := g2) (o := o) (a := a) (b := b) (c := c) (d := d) (e := e)
  have h6 := put5_size (w := w1) (g := g2) (o := o) (a := a) (b := b) (c := c) (d := d) (e := e)
  have h7 := fun i => put5_far (w := w1) (g := g2) (o := o) (a := a) (b := b) (c := c) (d := d) (e := e) (i := i)
  generalize put5 w1 g2 o a b c d e = wp at *
  refine ⟨h3, h4, h5, ?_, fun i k1 k2 => ?_, h1.put 3 s, h2.far (p := ⟨g, 3, none⟩) hne s⟩
  · rw [← h6]; simp [World.setCell]
  · rw [← h7 i k2]; exact Below.heap_setCell _ _ _ _ k1
theorem last_b (hG : Bk w1 g 25 G) (hB : Bk w1 g2 25 cur) (hne : g2 ≠ g) : Last w1 (put5 (w1.setCell ⟨g, 3, none⟩ s) g2 o a b c d e) g g2 (G.setIfInBounds 3 s) (setV cur o a b c d e) := by
  have h1 := hG.put 3 s
  have h2 := hB.far (p := ⟨g, 3, none⟩) hne s
  have h3 : (w1.setCell ⟨g, 3, none⟩ s).os = w1.os := rfl
  have h4 : (w1.setCell ⟨g, 3, none⟩ s).tape = w1.tape := rfl
  have h5 : (w1.setCell ⟨g, 3, none⟩ s).output = w1.output := rfl
  have h6 : (w1.setCell ⟨g, 3, none⟩ s).heap.size = w1.heap.size := by simp [World.setCell]
  have h7 : ∀ i, i ≠ g → (w1.setCell ⟨g, 3, none⟩ s).heap[i]? = w1.heap[i]? := fun i k1 => Below.heap_setCell _ _ _ _ k1
  generalize w1.setCell ⟨g, 3, none⟩ s = wp at *
  refine ⟨put5_os.trans h3, put5_tape.trans h4, put5_output.trans h5, put5_size.trans h6, fun i k1 k2 => ?_, put5_bk_far h1 (Ne.symm hne), put5_bk h2⟩
  rw [put5_far k2]; exact h7 i k1
end
theorem items_lies {wr : World} {lo j cI : Nat} {AI : Option Addr} {its : List VT} {cs : List Value} {K : Int} (ho : wr.ownsRow lo 25 5 (.slice AI j cI) j cs) (hl : LiesC wr (Off lo wr (.slice AI j cI)) its cs) (hil : its.length = j) (hK : 0 ≤ K ∧ K ≤ 5) :
    Lies wr (fun b => lo ≤ b ∧ b < wr.heap.size) (.mk K 0 ⟨#[]⟩ its []) (.agg #[.int .i64 K, .int .i64 0, .string ⟨#[]⟩, .slice AI j cI, .slice none 0 0]) := by
  subst hil
  have hb := own_bounds ho
  rw [Lies]
  exact ⟨AI, cI, none, 0, rfl, ⟨by omega, by omega⟩, ⟨by omega, by omega⟩, by decide, hb.1, hb.2, LiesC.ownR (hl.keep (fun _ _ => rfl) (fun b hb => ⟨hb.1, hb.2.1⟩)) (fun g h1 h2 => ⟨h1, h2⟩) rfl ho, Nat.le_refl _, by omega, LiesS.none_⟩
def Off2 (B : Nat) (w : World) (v v' : Value) : Nat → Prop := fun b => B ≤ b ∧ b < w.heap.size ∧ v.ownBlock ≠ some b ∧ v'.ownBlock ≠ some b
theorem items_liesK {wr : World} {lo j cI cK : Nat} {AI AK : Option Addr} {its : List VT} {ks : List ByteArray} {cs : List Value} {K : Int} (ho : wr.ownsRow lo 25 5 (.slice AI j cI) j cs) (hk : wr.ownsRow lo 9 1 (.slice AK j cK) j (ks.map Value.string)) (hl : LiesC wr (Off2 lo wr (.slice AI j cI) (.slice AK j cK)) its cs) (hil : its.length = j) (hkl : ks.length = j) (hks : ∀ s ∈ ks, s.size ≤ 9223372036854775807) (hK : 0 ≤ K ∧ K ≤ 5) :
    Lies wr (fun b => lo ≤ b ∧ b < wr.heap.size) (.mk K 0 ⟨#[]⟩ its ks) (.agg #[.int .i64 K, .int .i64 0, .string ⟨#[]⟩, .slice AI j cI, .slice AK j cK]) := by
  have hb := own_bounds ho
  have hb2 := own_bounds hk
  rw [Lies]
  refine ⟨AI, cI, AK, cK, by rw [hil, hkl]; rfl, ⟨by omega, by omega⟩, ⟨by omega, by omega⟩, by decide, by omega, hb.2, ?_, by omega, hb2.2, ?_⟩
  · exact LiesC.ownR (hl.keep (fun _ _ => rfl) (fun b hb => ⟨hb.1, hb.2.1⟩)) (fun g h1 h2 => ⟨h1, h2⟩) hil.symm ho
  · exact strs_ownR hks (fun g h1 h2 => ⟨h1, h2⟩) hkl.symm hk
set_option maxRecDepth 100000 in
set_option maxHeartbeats 16000000 in
theorem frs_put5 {w wr : World} {S : Nat → Prop} {g o : Nat} {a b c d e : Value} (h : FrS S w wr) (hg : w.heap.size ≤ g) : FrS S w (put5 wr g o a b c d e) :=
  ⟨put5_os.trans h.os, put5_tape.trans h.tape, put5_output.trans h.output, by rw [put5_size]; exact h.size, fun i hi hn => (put5_far (by omega)).trans (h.block i hi hn)⟩
end Go.Proofs.YtlgmhhimbabkjaaGreatDoor
