/-
  Contracts of the code's and of the reference's functions, part AE, and what they lean on.
-/
import Derived.Test.YtidinbeanaifmaaCAD
namespace Go.Proofs.Ytidinbeanaifmaa
open Go.RowKit

/-- a value, and what follows -/
def afterV {β : Type} (r : DR VT) (f : VT → List UInt8 → Nat → DR β) : DR β := match r with | .err e => .err e | .ok x l n => f x l n
/-- blocks that neither of two rows owns -/
def Off2 (B : Nat) (w : World) (v v' : Value) : Nat → Prop := fun b => B ≤ b ∧ b < w.heap.size ∧ v.ownBlock ≠ some b ∧ v'.ownBlock ≠ some b
/-- what stands when a round of items is done, with keys -/
def StepK (RD : World → Nat → List UInt8 → Int → Prop) (DT : TypeId) (dec : Nat → List UInt8 → DR VT) (R : DR (List VT × List ByteArray)) (p q g c j : Nat) (AI : Option Addr) (cI : Nat) (AK : Option Addr) (cK n : Nat) (w wr : World) : Prop :=
  FrS (Three p q g) w wr ∧ Bk wr q DT #[.pointer (some ⟨p, 0, none⟩), .int .i64 (n : Nat)] ∧ n ≤ 1001 ∧
    ((∃ its ks cs l2, n ≤ 1000 ∧ its.length = j ∧ ks.length = j ∧ (∀ s ∈ ks, s.size ≤ 9223372036854775807) ∧ l2.length ≤ 4611686018427387904 ∧ Hid (R = decL dec true (c - j) n l2 its ks) ∧ Hid (RD wr p l2 0) ∧ Hid (wr.ownsRow w.heap.size 26 5 (.slice AI j cI) j cs) ∧ Hid (LiesC wr (Off2 w.heap.size wr (.slice AI j cI) (.slice AK j cK)) its cs) ∧
        Hid (wr.ownsRow w.heap.size 9 1 (.slice AK j cK) j (ks.map Value.string))) ∨
      ∃ e l2, Hid (R = .err e) ∧ e ≠ 0 ∧ Hid (RD wr p l2 e))
theorem own_key {w : World} {base g cap m : Nat} {t : TypeId} {ks0 : List ByteArray} {kl : ByteArray} (h : w.ownsRow base t 1 (.slice (some ⟨g, 0, none⟩) (m + 1) cap) (m + 1) ((ks0 ++ [kl]).map Value.string)) (hl : ks0.length = m) : w.cell? ⟨g, m, none⟩ = some (.string kl) := by
  obtain ⟨h1, h2⟩ := h
  rcases h2 with ⟨h2, _⟩ | ⟨g', cap', cur, h2, hb, hg, hc, hm, hz, ht⟩
  · simp at h2
  · injection h2 with e1 _ e2
    injection e1 with e1
    injection e1 with e1
    subst e1
    have hB : Bk w g t cur := hg
    have h5 : (cur.toList.take ((m + 1) * 1))[m]? = some (Value.string kl) := by
      rw [ht]
      simp [← hl]
    rw [List.getElem?_take_of_lt (by omega)] at h5
    rw [hB.cell m, ← h5, Array.getElem?_toList]
theorem rise_eq (kl key : ByteArray) (m : Nat) : ((((m : Int) + 1 == 0) || (!Op.bytesLess key.toList kl.toList && !key.toList == kl.toList)) = true) ↔ less kl key = true := by
  have h0 : ((m : Int) + 1 == 0) = false := by rw [beq_eq_false_iff_ne]; omega
  rw [h0]
  unfold less
  rcases str_ways kl key with h | h | h
  · simp [h.1, h.2.2.1, h.2.2.2.1]
  · obtain ⟨rfl, h⟩ := h
    simp [h.1]
  · simp [h.1, h.2.2.1, h.2.2.2.1]
/-- a key is read, and what follows -/
theorem key_dec {dec : Nat → List UInt8 → DR VT} {l : List UInt8} {n r : Nat} {its : List VT} {ks : List ByteArray} {key : ByteArray} {ok : Bool} (hkey : key = ⟨(textR l 9223372036854775807).1.toArray⟩) (hok : ok = true ↔ (ks = [] ∨ less (ks.getLastD ByteArray.empty) key = true)) :
    (reqE ok (reqE (decide ((textR l 9223372036854775807).1.length ≤ 4096)) (textR l 9223372036854775807).2.2) = 0 ∧
      decL dec true (r + 1) n l its ks = afterV (dec n (textR l 9223372036854775807).2.1) (fun x l' n' => decL dec true r n' l' (its ++ [x]) (ks ++ [key]))) ∨
    (reqE ok (reqE (decide ((textR l 9223372036854775807).1.length ≤ 4096)) (textR l 9223372036854775807).2.2) ≠ 0 ∧
      decL dec true (r + 1) n l its ks = .err (reqE ok (reqE (decide ((textR l 9223372036854775807).1.length ≤ 4096)) (textR l 9223372036854775807).2.2))) := by
  rw [decL]
  unfold decK
  rw [if_pos rfl]
  by_cases h1 : (textR l 9223372036854775807).2.2 = 0
  · by_cases h2 : (textR l 9223372036854775807).1.length ≤ 4096
    · rw [decT_ok n h1 h2, decide_eq_true h2, h1, ← hkey]
      by_cases h3 : ks = [] ∨ less (ks.getLastD ByteArray.empty) key = true
      · rw [hok.2 h3]
        simp only [if_pos h3]
        exact Or.inl ⟨rfl, rfl⟩
      · have h4 : ok = false := by
          cases ok with
          | true => exact absurd (hok.1 rfl) h3
          | false => rfl
        rw [h4]
        simp only [if_neg h3]
        exact Or.inr ⟨by decide, rfl⟩
    · rw [decT_long n h1 h2, decide_eq_false h2, h1]
      have e1 : reqE false 0 = 3 := rfl
      rw [e1, reqE_ne (by decide)]
      exact Or.inr ⟨by decide, rfl⟩
  · rw [(decT_err n h1).1, reqE_ne h1, reqE_ne h1]
    exact Or.inr ⟨h1, rfl⟩
theorem own_bk {w : World} {base n c : Nat} {A : Option Addr} {xs : List Value} {b : Nat} (ho : w.ownsRow base 26 5 (.slice A n c) n xs) (h : (Value.slice A n c).ownBlock = some b) : ∃ t cs, Bk w b t cs ∧ t = 26 := by
  obtain ⟨_, h2⟩ := ho
  rcases h2 with ⟨h2, _⟩ | ⟨g', cap', cur', h2, _, hg', _⟩
  · rw [h2] at h; simp [Value.ownBlock] at h
  · rw [h2] at h
    have : g' = b := by simpa [Value.ownBlock] using h
    subst this
    exact ⟨_, _, hg', rfl⟩
theorem witem_step5 {dec : Nat → List UInt8 → DR VT} {R : DR (List VT × List ByteArray)} {w wr wB w1 wf : World} {p q g g2 c j n b2 cI cap : Nat} {AI : Option Addr} {l2 : List UInt8} {rr : DR VT} {AK : Option Addr} {cK : Nat} {ks : List ByteArray} {its : List VT} {cs : List Value} {G cur : Array Value}
    {k2 i2 : Int} {t2 : ByteArray} {E E' : Option Addr} {n3 c3 n4 c4 : Nat} {G' : Array Value}
    (hfit : rr.Fits l2 n) (sz : g < w.heap.size ∧ q < w.heap.size ∧ p < w.heap.size) (ng : g ≠ p) (nqg : q ≠ g) (hf : FrS (Three p q g) w wr) (hg : Bk wr g 26 G)
    (ho : wr.ownsRow w.heap.size 26 5 (.slice AI j cI) j cs) (hk : wr.ownsRow w.heap.size 9 1 (.slice AK (j + 1) cK) (j + 1) (ks.map Value.string)) (hl : LiesC wr (Off2 w.heap.size wr (.slice AI j cI) (.slice AK (j + 1) cK)) its cs) (hfb : FrS (Two p q) wr wB) (hqb : Bk wB q 90 #[.pointer (some ⟨p, 0, none⟩), .int .i64 (b2 : Nat)] ∧ b2 ≤ 1001)
    (hx : (∃ x l', rr = .ok x l' b2 ∧ WRd wB p l' 0 ∧ Lies wB (New wr wB) x (.agg #[.int .i64 k2, .int .i64 i2, .string t2, .slice E n3 c3, .slice E' n4 c4])) ∨ ∃ e l', rr = .err e ∧ e ≠ 0 ∧ WRd wB p l' e)
    (hgw : wB.grownBy w1 (Value.slice AI j cI).ownBlock) (hat : (Value.slice AI j cI).ownBlock = some g2 ∨ wB.heap.size ≤ g2) (hla : Last w1 wf g g2 G' (setV cur (j * 5) (.int .i64 k2) (.int .i64 i2) (.string t2) (.slice E n3 c3) (.slice E' n4 c4)))
    (hw5 : ∀ (W : World) (a b c d e : Value), Bk W g2 26 (setV cur (j * 5) a b c d e) → W.ownsRow w.heap.size 26 5 (.slice (some ⟨g2, 0, none⟩) (j + 1) cap) (j + 1) (cs ++ [a, b, c, d, e]))
    (hn : n ≤ 1000) (hl2 : l2.length ≤ 4611686018427387904) (hil : its.length = j) (hkl : ks.length = j + 1) (hks : ∀ s ∈ ks, s.size ≤ 9223372036854775807) (hD : R = afterV rr (fun x l' n' => decL dec true (c - (j + 1)) n' l' (its ++ [x]) ks)) :
    StepK WRd 90 dec R p q g c (j + 1) (some ⟨g2, 0, none⟩) cap AK cK b2 w wf := by
  obtain ⟨z1, z2, z3, z4, far, hgf, hcf⟩ := hla
  have hown := ho.lt
  have s1 := hf.size
  have s2 := hfb.size
  have s3 := hgw.size
  have fw : FrS (fun b => b = g ∨ (Value.slice AI j cI).ownBlock = some b) wB wf :=
    ⟨z1.trans hgw.os, z2.trans hgw.tape, z3.trans hgw.output, by omega, fun b hb hn => (far b (fun e => hn (Or.inl e)) (fun e => by
      rcases hat with h | h
      · exact hn (Or.inr (by rw [h, e]))
      · omega)).trans (hgw.block b hb (fun e => hn (Or.inr e.symm)))⟩
  have nS : ∀ b, b < w.heap.size → b ≠ g → ¬ (b = g ∨ (Value.slice AI j cI).ownBlock = some b) := fun b hb hne h => by
    rcases h with h | h
    · exact hne h
    · have := (hown b h).1; omega
  have hS : ∀ b, (b = g ∨ (Value.slice AI j cI).ownBlock = some b) → b < wB.heap.size → ∃ t cs, Bk wB b t cs ∧ t ≠ 5 := fun b hb _ => by
    rcases hb with rfl | hb
    · exact ⟨_, _, hfb.bk hg (fun h => by rcases h with h | h; exact ng h; exact nqg h.symm), by decide⟩
    · have hb1 := hown b hb
      obtain ⟨_, h2⟩ := ho
      rcases h2 with ⟨h2, _⟩ | ⟨g', cap', cur', h2, _, hg', _⟩
      · rw [h2] at hb; simp [Value.ownBlock] at hb
      · rw [h2] at hb
        have : g' = b := by simpa [Value.ownBlock] using hb
        subst this
        exact ⟨_, _, hfb.bk hg' (fun h => by rcases h with h | h <;> omega), by decide⟩
  refine ⟨(hf.next hfb (fun i _ h => ?_)).next fw (fun i hi h => ?_), fw.bk hqb.1 (nS q sz.2.1 nqg), hqb.2, ?_⟩
  · rcases h with h | h
    · exact Or.inl h
    · exact Or.inr (Or.inl h)
  · rcases h with h | h
    · exact Or.inr (Or.inr h)
    · have := (hown i h).1; omega
  · have hkt := hk.lt
    have hKf : wf.ownsRow w.heap.size 9 1 (.slice AK (j + 1) cK) (j + 1) (ks.map Value.string) := by
      obtain ⟨k1, k2⟩ := hk
      refine ⟨k1, ?_⟩
      rcases k2 with k2 | ⟨gk, capk, curk, hv, hbk, hgk, hr⟩
      · exact Or.inl k2
      · have hK : Bk wr gk 9 curk := hgk
        have hlt := hK.lt
        exact Or.inr ⟨gk, capk, curk, hv, hbk, fw.bk (hfb.bk hK (fun h => by rcases h with h | h <;> omega)) (fun h => by
          rcases h with h | h
          · omega
          · obtain ⟨t, cs', hb', ht'⟩ := own_bk ho h
            subst ht'
            exact hK.ne_ hb' (by decide) rfl), hr⟩
    rcases hx with ⟨x, l', h1, h2, h3⟩ | ⟨e, l', h1, h2, h3⟩
    · obtain ⟨f1, f2, f3⟩ := hfit x l' b2 h1
      refine Or.inl ⟨its ++ [x], ks, _, l', f3 hn, by simp [hil], hkl, hks, by omega, Lib.hid (by rw [hD, h1]; rfl), Lib.hid (h2.frs fw (nS p sz.2.2 (Ne.symm ng)) hS), Lib.hid (hw5 wf _ _ _ _ _ hcf), Lib.hid (LiesC.append (hl.keep (fun b hb => ?_) (fun b hb => ?_)) ⟨_, _, _, _, _, [], rfl, h3.keep (fun b hb => ?_) (fun b hb => ?_), rfl⟩), Lib.hid hKf⟩
      · obtain ⟨b1, b2, b3, b4⟩ := hb
        exact (fw.cell (Nat.lt_of_lt_of_le b2 s2) (fun h => by
          rcases h with h | h
          · omega
          · exact b3 h)).trans (hfb.cell b2 (fun h => by rcases h with h | h <;> omega))
      · obtain ⟨b1, b2, b3, b4⟩ := hb
        refine ⟨b1, by omega, fun e => ?_, b4⟩
        have e' : g2 = b := by simpa [Value.ownBlock] using e
        rcases hat with h | h
        · exact b3 (by rw [h, e'])
        · omega
      · obtain ⟨b1, b2⟩ := hb
        exact fw.cell b2 (fun h => by
          rcases h with h | h
          · omega
          · have := (hown _ h).2; omega)
      · obtain ⟨b1, b2⟩ := hb
        refine ⟨by omega, by omega, fun e => ?_, fun e => by have := (hkt _ e).2; omega⟩
        have e' : g2 = b := by simpa [Value.ownBlock] using e
        rcases hat with h | h
        · have := (hown _ h).2; omega
        · omega
    · exact Or.inr ⟨e, l', Lib.hid (by rw [hD, h1]; rfl), h2, Lib.hid (h3.frs fw (nS p sz.2.2 (Ne.symm ng)) hS)⟩

theorem own_frs {Q : Nat → Prop} {w w' : World} {base size n m c : Nat} {t : TypeId} {A : Option Addr} {xs : List Value} (h : w.ownsRow base t size (.slice A n c) m xs) (hf : FrS Q w w') (hQ : ∀ b, (Value.slice A n c).ownBlock = some b → ¬ Q b) : w'.ownsRow base t size (.slice A n c) m xs := by
  obtain ⟨k1, k2⟩ := h
  refine ⟨k1, ?_⟩
  rcases k2 with k2 | ⟨gk, capk, curk, hv, hbk, hgk, hr⟩
  · exact Or.inl k2
  · have hK : Bk w gk t curk := hgk
    exact Or.inr ⟨gk, capk, curk, hv, hbk, hf.bk hK (hQ gk (by rw [hv]; rfl)), hr⟩
theorem own_bkS {w : World} {base n m c : Nat} {A : Option Addr} {xs : List Value} {b : Nat} (ho : w.ownsRow base 9 1 (.slice A n c) m xs) (h : (Value.slice A n c).ownBlock = some b) : ∃ cs, Bk w b 9 cs := by
  obtain ⟨_, h2⟩ := ho
  rcases h2 with ⟨h2, _⟩ | ⟨g', cap', cur', h2, _, hg', _⟩
  · rw [h2] at h; simp [Value.ownBlock] at h
  · rw [h2] at h
    have : g' = b := by simpa [Value.ownBlock] using h
    subst this
    exact ⟨_, hg'⟩
theorem wkey_step {w wr w5 w6 w7 : World} {p q g gk2 j capk2 n cI cK : Nat} {AI AK : Option Addr} {its : List VT} {cs : List Value} {ks : List ByteArray} {key : ByteArray} {l3 : List UInt8} {e3 : Int}
    (sz : g < w.heap.size ∧ q < w.heap.size ∧ p < w.heap.size) (ng : g ≠ p) (nqg : q ≠ g) (hf : FrS (Three p q g) w wr) (hg : Bk wr g 26 #[.int .i64 5, .int .i64 0, .string ⟨#[]⟩, .slice AI j cI, .slice AK j cK])
    (ho : wr.ownsRow w.heap.size 26 5 (.slice AI j cI) j cs) (hk : wr.ownsRow w.heap.size 9 1 (.slice AK j cK) j (ks.map Value.string)) (hl : LiesC wr (Off2 w.heap.size wr (.slice AI j cI) (.slice AK j cK)) its cs)
    (h5 : FrS (fun b => b = p) wr w5) (q5 : Bk w5 q 90 #[.pointer (some ⟨p, 0, none⟩), .int .i64 (n : Nat)]) (r5 : WRd w5 p l3 e3) (ga : w5.grownBy w6 (Value.slice AK j cK).ownBlock) (hat : (Value.slice AK j cK).ownBlock = some gk2 ∨ w5.heap.size ≤ gk2)
    (hk6 : w6.ownsRow w.heap.size 9 1 (.slice (some ⟨gk2, 0, none⟩) (j + 1) capk2) (j + 1) ((ks ++ [key]).map Value.string)) (hw7 : w7 = w6.setCell ⟨g, 4, none⟩ (.slice (some ⟨gk2, 0, none⟩) (j + 1) capk2)) :
    FrS (Three p q g) w w7 ∧ Bk w7 q 90 #[.pointer (some ⟨p, 0, none⟩), .int .i64 (n : Nat)] ∧ Bk w7 g 26 #[.int .i64 5, .int .i64 0, .string ⟨#[]⟩, .slice AI j cI, .slice (some ⟨gk2, 0, none⟩) (j + 1) capk2] ∧ WRd w7 p l3 e3 ∧
      w7.ownsRow w.heap.size 26 5 (.slice AI j cI) j cs ∧ w7.ownsRow w.heap.size 9 1 (.slice (some ⟨gk2, 0, none⟩) (j + 1) capk2) (j + 1) ((ks ++ [key]).map Value.string) ∧
      LiesC w7 (Off2 w.heap.size w7 (.slice AI j cI) (.slice (some ⟨gk2, 0, none⟩) (j + 1) capk2)) its cs := by
  have s1 := hf.size
  have s2 := h5.size
  have hkt := hk.lt
  have hot := ho.lt
  have hk5 := own_frs hk h5 (fun b hb h => by have := (hkt b hb).1; omega)
  have ho5 := own_frs ho h5 (fun b hb h => by have := (hot b hb).1; omega)
  have g5 := h5.bk hg ng
  have nk : (Value.slice AK j cK).ownBlock ≠ some g := fun e => by have := (hkt g e).1; omega
  have g6 : Bk w6 g 26 #[.int .i64 5, .int .i64 0, .string ⟨#[]⟩, .slice AI j cI, .slice AK j cK] := g5.grown ga (Ne.symm nk)
  have g7 : Bk w7 g 26 #[.int .i64 5, .int .i64 0, .string ⟨#[]⟩, .slice AI j cI, .slice (some ⟨gk2, 0, none⟩) (j + 1) capk2] := by rw [hw7]; exact g6.put 4 _
  have f67 : FrS (fun b => b = g) w6 w7 := by rw [hw7]; exact FrS.of_grown (turned _ _ _ _) rfl
  have f57 : FrS (fun b => b = g ∨ (Value.slice AK j cK).ownBlock = some b) w5 w7 :=
    (FrS.of_row (S := fun b => b = g ∨ (Value.slice AK j cK).ownBlock = some b) ga (fun q hq => Or.inr hq)).next f67 (fun i _ h => Or.inl h)
  have nS : ∀ b, b < w.heap.size → b ≠ g → ¬ (b = g ∨ (Value.slice AK j cK).ownBlock = some b) := fun b hb hne h => by
    rcases h with h | h
    · exact hne h
    · have := (hkt b h).1; omega
  refine ⟨(hf.next h5 (fun i _ h => Or.inl h)).next f57 (fun i hi h => ?_), f57.bk q5 (nS q sz.2.1 nqg), g7, r5.frs f57 (nS p sz.2.2 (Ne.symm ng)) (fun b hb _ => ?_), own_frs ho5 f57 (fun b hb h => ?_), own_frs hk6 f67 (fun b hb h => ?_), hl.keep (fun b hb => ?_) (fun b hb => ?_)⟩
  · rcases h with h | h
    · exact Or.inr (Or.inr h)
    · have := (hkt i h).1; omega
  · rcases hb with rfl | hb
    · exact ⟨_, _, g5, by decide⟩
    · obtain ⟨cs', h⟩ := own_bkS hk5 hb
      exact ⟨_, _, h, by decide⟩
  · rcases h with h | h
    · have := (hot b hb).1; omega
    · obtain ⟨cs', h1⟩ := own_bkS hk5 h
      obtain ⟨t, cs2, h2, ht⟩ := own_bk ho5 hb
      subst ht
      exact h1.ne_ h2 (by decide) rfl
  · have e' : gk2 = b := by simpa [Value.ownBlock] using hb
    rcases hat with h1 | h1
    · have := (hkt _ h1).1; omega
    · omega
  · obtain ⟨b1, b2, b3, b4⟩ := hb
    exact (f57.cell (Nat.lt_of_lt_of_le b2 s2) (fun h => by
      rcases h with h | h
      · omega
      · exact b4 h)).trans (h5.cell b2 (fun h => by omega))
  · obtain ⟨b1, b2, b3, b4⟩ := hb
    have s3 := f57.size
    refine ⟨b1, by omega, b3, fun e => ?_⟩
    have e' : gk2 = b := by simpa [Value.ownBlock] using e
    rcases hat with h1 | h1
    · exact b4 (by rw [h1, e'])
    · omega
theorem items_liesK {wr : World} {lo j cI cK : Nat} {AI AK : Option Addr} {its : List VT} {ks : List ByteArray} {cs : List Value} {K : Int} (ho : wr.ownsRow lo 26 5 (.slice AI j cI) j cs) (hk : wr.ownsRow lo 9 1 (.slice AK j cK) j (ks.map Value.string)) (hl : LiesC wr (Off2 lo wr (.slice AI j cI) (.slice AK j cK)) its cs) (hil : its.length = j) (hkl : ks.length = j) (hks : ∀ s ∈ ks, s.size ≤ 9223372036854775807) (hK : 0 ≤ K ∧ K ≤ 5) :
    Lies wr (fun b => lo ≤ b ∧ b < wr.heap.size) (.mk K 0 ⟨#[]⟩ its ks) (.agg #[.int .i64 K, .int .i64 0, .string ⟨#[]⟩, .slice AI j cI, .slice AK j cK]) := by
  have hb := own_bounds ho
  have hb2 := own_bounds hk
  rw [Lies]
  refine ⟨AI, cI, AK, cK, by rw [hil, hkl]; rfl, ⟨by omega, by omega⟩, ⟨by omega, by omega⟩, by decide, by omega, hb.2, ?_, by omega, hb2.2, ?_⟩
  · exact LiesC.ownR (hl.keep (fun _ _ => rfl) (fun b hb => ⟨hb.1, hb.2.1⟩)) (fun g h1 h2 => ⟨h1, h2⟩) hil.symm ho
  · exact strs_ownR hks (fun g h1 h2 => ⟨h1, h2⟩) hkl.symm hk
set_option maxRecDepth 100000 in
set_option maxHeartbeats 16000000 in
theorem witems_5 {dec : Nat → List UInt8 → DR VT} {p q g b : Nat} {l : List UInt8} {d : Int} {w : World} (hfit : ∀ n l, (dec n l).Fits l n)
    (hv : ∀ (W : World) (n : Nat) (l : List UInt8), WRd W p l 0 → Bk W q 90 #[.pointer (some ⟨p, 0, none⟩), .int .i64 (n : Nat)] → n ≤ 1000 → l.length ≤ 4611686018427387904 → Calls Try.prog 86 #[.pointer (some ⟨q, 0, none⟩), .int .i64 d] W (DecP WRd 90 (dec n l) p q W))
    (hve : ∀ (W : World) (n : Nat) (l : List UInt8) (e : Int), e ≠ 0 → WRd W p l e → Bk W q 90 #[.pointer (some ⟨p, 0, none⟩), .int .i64 (n : Nat)] → n ≤ 1000 → Calls Try.prog 86 #[.pointer (some ⟨q, 0, none⟩), .int .i64 d] W (DecP WRd 90 (.err e) p q W))
    (hr : WRd w p l 0) (hq : Bk w q 90 #[.pointer (some ⟨p, 0, none⟩), .int .i64 (b : Nat)]) (hg : Bk w g 26 #[.int .i64 5, .int .i64 0, .string ⟨#[]⟩, .slice none 0 0, .slice none 0 0]) (hb : b ≤ 1000) (hl : l.length ≤ 4611686018427387904) :
    Calls Try.prog 113 #[.pointer (some ⟨q, 0, none⟩), .pointer (some ⟨g, 0, none⟩), .int .i64 d] w (ItsP WRd 90 (decI dec true b l) 5 p q g w) := by
  obtain ⟨iV, hiV, hzV, hsV, hbV⟩ := info_parts Try.infoV
  obtain ⟨c, l1, e1, hi⟩ : ∃ c l1 e1, intA l = (c, l1, e1) := ⟨_, _, _, rfl⟩
  have HFIT := Lib.hid hfit
  have HV := Lib.hid hv
  have NQ := Lib.hid (hr.dec_ne hq)
  have NG := Lib.hid (hr.val_ne hg)
  have NQG := Lib.hid (hq.ne_ hg (by decide))
  have HL := Lib.hid hl
  have HI := Lib.hid hi
  have W1 := Lib.hid hr
  have Q1 := Lib.hid hq
  have G1 := Lib.hid hg
  clear hfit hv hr hq hg hl hi
  have pre := fun (b0 : Unit) => Lib.hid (wint_k HI.out W1.out Q1.out)
  have HC := pre ()
  clear pre
  by_cases he1 : e1 = 0
  · subst he1
    by_cases hc : 0 ≤ c ∧ c ≤ 1000
    · obtain ⟨cn, rfl⟩ : ∃ cn : Nat, c = (cn : Int) := ⟨c.toNat, by omega⟩
      have hcn : cn ≤ 1000 := by omega
      have t1 : decide ((0 : Int) ≤ (cn : Int)) = true := by rw [decide_eq_true_eq]; omega
      have t2 : decide ((cn : Int) ≤ 1000) = true := by rw [decide_eq_true_eq]; omega
      have DI : Hid (decI dec true b l = decL dec true cn b l1 [] []) := Lib.hid (by
        unfold decI
        rw [HI.out, if_neg (by simp), if_neg (by show ¬ ((cn : Int) < 0 ∨ (1000 : Int) < cn); omega)]
        rfl)
      have HL1 : Hid (l1.length ≤ 4611686018427387904) := Lib.hid (by have h := intA_len l; rw [HI.out] at h; have := HL.out; simp only at h; omega)
      clear hc
      go_enter Try.func113, Try.ntmps113
      go_wp2_with fail
      refine (HC.out).mono ?_
      rintro e1 w2 ⟨rfl, hg, hr2⟩
      have Q2 := Lib.hid (Q1.out.grown hg (by intro e; injection e with e; exact NQ.out e))
      have G2 := Lib.hid (G1.out.grown hg (by intro e; injection e with e; exact NG.out e))
      have F2 : Hid (FrS (Three p q g) w w2) := Lib.hid (FrS.of_grown hg (Or.inl rfl))
      have W2 := Lib.hid hr2
      clear hg hr2
      go_wp2_with fail
      refine (wreq_any true W2.out Q2.out).mono ?_
      rintro e1 w3 ⟨rfl, hg, hr3⟩
      have Q3 := Lib.hid (Q2.out.grown hg (by intro e; injection e with e; exact NQ.out e))
      have G3 := Lib.hid (G2.out.grown hg (by intro e; injection e with e; exact NG.out e))
      have F3 : Hid (FrS (Three p q g) w w3) := Lib.hid (F2.out.trans (FrS.of_grown hg (Or.inl rfl)))
      have W3 := Lib.hid hr3
      have SZ : Hid (g < w.heap.size ∧ q < w.heap.size ∧ p < w.heap.size) := Lib.hid ⟨G1.out.lt, Q1.out.lt, W1.out.lt⟩
      clear hg hr3
      go_wp2_with fail
      go_loopg [7] cn (fun gh iv wr => ∃ (j n : Nat) (AI : Option Addr) (cI : Nat) (AK : Option Addr) (cK : Nat), j ≤ cn ∧ gh = cn - j ∧ iv = .int .i64 j ∧ Hid (StepK WRd 90 dec (decI dec true b l) p q g cn j AI cI AK cK n w wr) ∧ Hid (Bk wr g 26 #[.int .i64 5, .int .i64 0, .string ⟨#[]⟩, .slice AI j cI, .slice AK j cK]))
      case atStart => exact ⟨0, b, none, 0, none, 0, by omega, rfl, rfl, Lib.hid ⟨F3.out, Q3.out, by omega, Or.inl ⟨[], [], [], l1, hb, rfl, rfl, (by simp), HL1.out, DI, W3, Lib.hid (World.ownsRow_nil _ _ _ _), Lib.hid rfl, Lib.hid (World.ownsRow_nil _ _ _ _)⟩⟩, G3⟩
      case round =>
        obtain ⟨j, n, AI, cI, AK, cK, hjn, rfl, rfl, HST, HG⟩ := hrel
        obtain ⟨hf, hq, hn, hst⟩ := HST.out
        have HF := Lib.hid hf
        have HQ := Lib.hid hq
        clear hf hq HST
        have c0 := HQ.out.cell 0
        change _ = some (Value.pointer (some ⟨p, 0, none⟩)) at c0
        rcases hst with ⟨its, ks, cs, l2, hn2, hil, hkl, hks, hl2, HD, HW, HO, HLC, HK⟩ | ⟨e, l2, HD, he, HW⟩
        · by_cases hlt : j < cn
          · obtain ⟨iS, hiS, hzS, hsS, hbS⟩ := info_parts Try.infoS
            have g0 := HG.out.cell 0
            change _ = some (Value.int .i64 5) at g0
            have g4 := HG.out.cell 4
            change _ = some (Value.slice AK j cK) at g4
            have fg4 := HG.out.frozen 4
            have LTS : Hid (g < wr.heap.size ∧ q < wr.heap.size ∧ p < wr.heap.size ∧ w.heap.size ≤ wr.heap.size) := Lib.hid (by have := HF.out.size; have := SZ.out; exact ⟨by omega, by omega, by omega, by omega⟩)
            have ltg := LTS.out.1
            have HT := Lib.hid (wtext_k (q := q) (b := (n : Nat)) hl2 HW.out HQ.out)
            go_wp2_with fail
            refine (wErr_any HW.out).mono ?_
            rintro e1 w' ⟨rfl, rfl⟩
            go_wp2_with fail
            refine (HT.out).mono ?_
            rintro e1 w4 ⟨rfl, hg4, hr4⟩
            have Q4 := Lib.hid (HQ.out.grown hg4 (by intro e; injection e with e; exact NQ.out e))
            have G4 := Lib.hid (HG.out.grown hg4 (by intro e; injection e with e; exact NG.out e))
            have GW4 := Lib.hid hg4
            have W4 := Lib.hid hr4
            clear hg4 hr4 HT
            obtain ⟨key, hkey⟩ : ∃ key : ByteArray, key = ⟨(textR l2 9223372036854775807).1.toArray⟩ := ⟨_, rfl⟩
            rw [← hkey]
            have HKEY := Lib.hid hkey
            clear hkey
            have HK4 := Lib.hid (HK.out.kept GW4.out (by
              cases h : (Value.slice AK j cK).ownBlock with
              | none => exact Or.inl rfl
              | some gk => exact Or.inr (fun e => by injection e with e; have := (HK.out.lt gk h).1; have := SZ.out; omega)))
            have REQ := Lib.hid (fun ok => wreq_any ok W4.out Q4.out)
            by_cases hj0 : j = 0
            · have hjz : ((j : Int) == 0) = true := by rw [beq_iff_eq]; omega
              have HJ0 := Lib.hid hj0
              clear hj0
              go_wp2_with fail
              refine (REQ.out _).mono ?_
              rintro e1 w5 ⟨rfl, hg5, hr5⟩
              have Q5 := Lib.hid (Q4.out.grown hg5 (by intro e; injection e with e; exact NQ.out e))
              have G5 := Lib.hid (G4.out.grown hg5 (by intro e; injection e with e; exact NG.out e))
              have HK5 := Lib.hid (HK4.out.kept hg5 (by
                cases h : (Value.slice AK j cK).ownBlock with
                | none => exact Or.inl rfl
                | some gk' => exact Or.inr (fun e => by injection e with e; have := (HK4.out.lt gk' h).1; have := SZ.out; omega)))
              have F5 : Hid (FrS (Three p q g) w w5) := Lib.hid ((HF.out.trans (FrS.of_grown GW4.out (Or.inl rfl))).trans (FrS.of_grown hg5 (Or.inl rfl)))
              have W5 := Lib.hid hr5
              have GW5 := Lib.hid hg5
              have k5 := G5.out.cell 4
              change _ = some (Value.slice AK j cK) at k5
              clear hg5 hr5 Q4 HK4 W4 REQ
              go_wp2_with (at_builtin; refine wpList_append_lies _ rfl _ _ 22 rfl w.heap.size 9 iS (.string ByteArray.empty) 1 16 Try.underlying22 hiS hzS hsS hbS rfl (by decide) (.slice AK j cK) j (ks.map Value.string) rfl (HK5.out.alloc _) ⟨w5.heap.size, 0, none⟩ 1 1 [.string key] rfl (by rfl) (news_alloc (cs := #[.string key]) (t := 9) (by rfl)) (by simp [Value.oneCell']) (by omega) (by unfold maxLen; omega) (by omega) (by have := F5.out.size; simp; omega) (w5.heap.size + 1) (by simp) ?_)
              intro gk2 capk2 w6 hown6 hg6 hat6 hlt6
              have GA6 : Hid (w5.grownBy w6 (Value.slice AK j cK).ownBlock) := Lib.hid (grownBy_trans (World.grownBy_alloc w5 _ _) (by exact hg6))
              have NK6 : Hid ((Value.slice AK j cK).ownBlock ≠ some g) := Lib.hid (fun e => by have := (HK5.out.lt g e).1; have := SZ.out; omega)
              have G6 := Lib.hid (G5.out.grown GA6.out (Ne.symm NK6.out))
              have k6 := G6.out.cell 4
              change _ = some (Value.slice AK j cK) at k6
              have f6 := G6.out.frozen 4
              have HAT6 : Hid ((Value.slice AK j cK).ownBlock = some gk2 ∨ w5.heap.size ≤ gk2) := Lib.hid (by rcases hat6 with h | h; exact Or.inl h; exact Or.inr (by omega))
              have HK6 := Lib.hid hown6
              clear hown6 hg6 hat6 k5
              go_wp2_with fail
              obtain ⟨w7, hw7⟩ : ∃ w7, w7 = w6.setCell ⟨g, 4, none⟩ (.slice (some ⟨gk2, 0, none⟩) (j + 1) capk2) := ⟨_, rfl⟩
              rw [← hw7]
              have KS := wkey_step (key := key) SZ.out NG.out NQG.out HF.out HG.out HO.out HK.out HLC.out (FrS.trans (FrS.of_grown GW4.out rfl) (FrS.of_grown GW5.out rfl)) Q5.out W5.out GA6.out HAT6.out (by have h := HK6.out; simpa using h) hw7
              obtain ⟨f7, q7, g7, r7, o7, k7, l7⟩ := KS
              have hrc : cn - j = (cn - (j + 1)) + 1 := by omega
              have hok : (true) = true ↔ (ks = [] ∨ less ((ks).getLastD ByteArray.empty) key = true) := ⟨fun _ => Or.inl (List.eq_nil_of_length_eq_zero (by have := HJ0.out; omega)), fun _ => rfl⟩
              have hle : (textR l2 9223372036854775807).2.1.length ≤ l2.length := textA_rest l2
              obtain ⟨rr, hRR, hFR, hCR⟩ : ∃ rr : DR VT, decI dec true b l = afterV rr (fun x l' n' => decL dec true (cn - (j + 1)) n' l' (its ++ [x]) (ks ++ [key])) ∧ rr.Fits (textR l2 9223372036854775807).2.1 n ∧ (∀ W, Below w7.heap.size w7 W → Calls Try.prog 86 #[.pointer (some ⟨q, 0, none⟩), .int .i64 d] W (DecA WRd 90 rr p q w7 W)) := by
                rcases key_dec (dec := dec) (n := n) (r := cn - (j + 1)) (its := its) HKEY.out hok with ⟨h0, hR⟩ | ⟨h0, hR⟩
                · rw [h0] at r7
                  exact ⟨_, by rw [HD.out, hrc, hR], HFIT.out _ _, fun W hb => (HV.out W n _ (r7.below hb) (q7.below hb q7.lt) hn2 (by omega)).mono (fun _ _ h => h.after hb r7.lt q7.lt)⟩
                · exact ⟨.err _, by rw [HD.out, hrc, hR]; rfl, (fun a l' n' h => by cases h), fun W hb => (hve W n _ _ h0 (r7.below hb) (q7.below hb q7.lt) hn2).mono (fun _ _ h => h.after hb r7.lt q7.lt)⟩
              have HKS : Hid (∀ s ∈ ks ++ [key], s.size ≤ 9223372036854775807) := Lib.hid (fun s hs => by
                rcases List.mem_append.1 hs with h | h
                · exact hks s h
                · have e := List.mem_singleton.1 h
                  have h1 := textA_len l2
                  rw [e, HKEY.out]
                  simp only [ByteArray.size, List.size_toArray]
                  omega)
              have HRR := Lib.hid hRR
              have HFR := Lib.hid hFR
              have HCV := Lib.hid hCR
              have F7 := Lib.hid f7
              have Q7 := Lib.hid q7
              have G7 := Lib.hid g7
              have O7 := Lib.hid o7
              have K7 := Lib.hid k7
              have L7 := Lib.hid l7
              have HL3 := Lib.hid (Nat.le_trans hle hl2)
              clear hks hRR hFR hCR f7 q7 g7 r7 o7 k7 l7 hw7 hok hle hrc g0 g4 fg4 k6 f6 ltg LTS HO HLC HK HG HQ HF W5 Q5 G5 G6 HK5 HK6 F5 GW4 GW5 GA6 HAT6 NK6 HKEY HD c0 hlt6
              have HOS : Hid (∀ W, FrS (Two p q) w7 W → W.ownsRow w.heap.size 26 5 (.slice AI j cI) j cs) := Lib.hid (fun W h => own_same O7.out (h.same (fun b hb => by have := SZ.out; rcases hb with hb | hb <;> omega)))
              have GIN : Hid (¬ Two p q g) := Lib.hid (fun h => by rcases h with h | h; exact NG.out h; exact NQG.out h.symm)
              have LIM : Hid ((j + 1) * 80 ≤ 140737488355328) := Lib.hid (by omega)
              have HI5 := Lib.hid (And.intro hiV (And.intro hzV (And.intro hsV hbV)))
              have HNG : Hid ((Value.slice AI j cI).ownBlock ≠ some g) := Lib.hid (fun e => by have := (O7.out.lt g e).1; have := SZ.out; omega)
              have jj : ((j : Nat) : Int) < ((j : Nat) : Int) + 1 := by omega
              have ltg := G7.out.lt
              have LT7 : Hid (w.heap.size ≤ w7.heap.size) := Lib.hid F7.out.size
              have g3 := G7.out.cell 3
              change _ = some (Value.slice AI j cI) at g3
              have fg := G7.out.frozen 3
              go_region_law (first
                | (refine step_append_lies _ (by rfl) _ _ _ (by rfl) w.heap.size 26 iV _ 5 80 Try.underlying23 HI5.out.1 HI5.out.2.1 HI5.out.2.2.1 HI5.out.2.2.2 rfl (by omega) (.slice AI j cI) j cs (by rfl) (by first | exact (HOS.out _ HFB.out).alloc _ | exact ((HOS.out _ HFB.out).alloc _).drew | exact (HOS.out _ HFB.out).drew.alloc _) ⟨wB.heap.size, 0, none⟩ 1 1 [.int .i64 0, .int .i64 0, .string ⟨#[]⟩, .slice none 0 0, .slice none 0 0] (by rfl) (by rfl) (World.news_of_block (cs := #[.int .i64 0, .int .i64 0, .string ⟨#[]⟩, .slice none 0 0, .slice none 0 0]) (t := 26) (fr := (0, 0)) (heap_alloc_new wB _)) (by simp [Value.oneCell']) (by omega) (by have := LIM.out; unfold maxLen; omega) LIM.out (by have := HFB.out.size; have := LT7.out; simp; omega) (wB.heap.size + 1) (by simp) ?_; intro g2 cap w1 hown1 hgrow hat hlt1; have HGW : Hid (wB.grownBy w1 (Value.slice AI j cI).ownBlock) := Lib.hid (grownBy_trans (World.grownBy_alloc wB _ _) (by exact hgrow)); have HAT : Hid ((Value.slice AI j cI).ownBlock = some g2 ∨ wB.heap.size ≤ g2) := Lib.hid (by rcases hat with h | h; exact Or.inl h; exact Or.inr (by omega)); clear hat hgrow; obtain ⟨cur, hBK, y0, y1, y2, y3, y4, hW5⟩ := own_last hown1; have HW5 := Lib.hid hW5; have q0 := (hBK.cell (j * 5)).trans y0; have q1 := (hBK.cell (j * 5 + 1)).trans y1; have q2 := (hBK.cell (j * 5 + 2)).trans y2; have q3 := (hBK.cell (j * 5 + 3)).trans y3; have q4 := (hBK.cell (j * 5 + 4)).trans y4; have f0 := hBK.frozen (j * 5); have f1 := hBK.frozen (j * 5 + 1); have f2 := hBK.frozen (j * 5 + 2); have f3 := hBK.frozen (j * 5 + 3); have f4 := hBK.frozen (j * 5 + 4); have HBK := Lib.hid hBK; clear hBK y0 y1 y2 y3 y4 hW5 hown1; have HG1 : Hid (Bk w1 g 26 #[.int .i64 5, .int .i64 0, .string ⟨#[]⟩, .slice AI j cI, .slice (some ⟨gk2, 0, none⟩) (j + 1) capk2]) := Lib.hid ((HFB.out.bk G7.out GIN.out).grown HGW.out (Ne.symm HNG.out)); have gg3 := HG1.out.cell 3; change _ = some (Value.slice AI j cI) at gg3; have gf3 := HG1.out.frozen 3; have ne1 : g2 ≠ g := (fun e => by rcases HAT.out with h | h; exact HNG.out (by rw [h, e]); omega); have ne2 : g ≠ g2 := Ne.symm ne1)
                | (refine step_append_lies _ (by rfl) _ _ _ (by rfl) w.heap.size 26 iV _ 5 80 Try.underlying23 HI5.out.1 HI5.out.2.1 HI5.out.2.2.1 HI5.out.2.2.2 rfl (by omega) (.slice AI j cI) j cs (by rfl) (by first | exact HOS.out _ HFB.out | exact (HOS.out _ HFB.out).drew) ⟨w7.heap.size, 0, none⟩ 1 1 [.int .i64 0, .int .i64 0, .string ⟨#[]⟩, .slice none 0 0, .slice none 0 0] (by rfl) (by rfl) (World.news_of_block (cs := #[.int .i64 0, .int .i64 0, .string ⟨#[]⟩, .slice none 0 0, .slice none 0 0]) (t := 26) (fr := (0, 0)) ((HMB.out.2 w7.heap.size (Nat.le_refl _) (by simp)).trans (by first | exact heap_alloc_new w7 _ | exact heap_alloc_new w7.drew _))) (by simp [Value.oneCell']) (by omega) (by have := LIM.out; unfold maxLen; omega) LIM.out (by have := HFB.out.size; have := LT7.out; simp; omega) wB.heap.size (by simp) ?_; intro g2 cap w1 hown1 hgrow hat hlt1; have HGW : Hid (wB.grownBy w1 (Value.slice AI j cI).ownBlock) := Lib.hid (by exact hgrow); have HAT : Hid ((Value.slice AI j cI).ownBlock = some g2 ∨ wB.heap.size ≤ g2) := Lib.hid (by rcases hat with h | h; exact Or.inl h; exact Or.inr (by omega)); clear hat hgrow; obtain ⟨cur, hBK, y0, y1, y2, y3, y4, hW5⟩ := own_last hown1; have HW5 := Lib.hid hW5; have q0 := (hBK.cell (j * 5)).trans y0; have q1 := (hBK.cell (j * 5 + 1)).trans y1; have q2 := (hBK.cell (j * 5 + 2)).trans y2; have q3 := (hBK.cell (j * 5 + 3)).trans y3; have q4 := (hBK.cell (j * 5 + 4)).trans y4; have f0 := hBK.frozen (j * 5); have f1 := hBK.frozen (j * 5 + 1); have f2 := hBK.frozen (j * 5 + 2); have f3 := hBK.frozen (j * 5 + 3); have f4 := hBK.frozen (j * 5 + 4); have HBK := Lib.hid hBK; clear hBK y0 y1 y2 y3 y4 hW5 hown1; have HG1 : Hid (Bk w1 g 26 #[.int .i64 5, .int .i64 0, .string ⟨#[]⟩, .slice AI j cI, .slice (some ⟨gk2, 0, none⟩) (j + 1) capk2]) := Lib.hid ((HFB.out.bk G7.out GIN.out).grown HGW.out (Ne.symm HNG.out)); have gg3 := HG1.out.cell 3; change _ = some (Value.slice AI j cI) at gg3; have gf3 := HG1.out.frozen 3; have ne1 : g2 ≠ g := (fun e => by rcases HAT.out with h | h; exact HNG.out (by rw [h, e]); omega); have ne2 : g ≠ g2 := Ne.symm ne1)
                | (go_simp; go_at_call 86; refine (HCV.out _ (by first | exact Below.refl _ _ | exact (Below.refl _ _).drew | exact ⟨rfl, rfl, rfl, by simp, fun b hb => Below.heap_alloc _ _ b hb⟩)).mono ?_; rintro _ wB ⟨k2, i2, t2, E, n3, c3, E', n4, c4, b2, rfl, HFB, HMB, HQB, HXB⟩; have gB3 := (HFB.out.cell (p := ⟨g, 3, none⟩) ltg GIN.out).trans g3; have fgB := (HFB.out.bk G7.out GIN.out).frozen 3; have ltB : g < wB.heap.size := Nat.lt_of_lt_of_le ltg HFB.out.size))
              all_goals (
                first
                | (obtain ⟨wf, hwf, HLA⟩ : ∃ wf, wf = ((((((w1).setCell ⟨g2, j * 5, none⟩ (.int .i64 k2)).setCell ⟨g2, j * 5 + 1, none⟩ (.int .i64 i2)).setCell ⟨g2, j * 5 + 2, none⟩ (.string t2)).setCell ⟨g2, j * 5 + 3, none⟩ (.slice E n3 c3)).setCell ⟨g2, j * 5 + 4, none⟩ (.slice E' n4 c4)).setCell ⟨g, 3, none⟩ (.slice (some ⟨g2, 0, none⟩) (j + 1) cap) ∧ Hid (Last w1 wf g g2 #[.int .i64 5, .int .i64 0, .string ⟨#[]⟩, (.slice (some ⟨g2, 0, none⟩) (j + 1) cap), .slice (some ⟨gk2, 0, none⟩) (j + 1) capk2] (setV cur (j * 5) (.int .i64 k2) (.int .i64 i2) (.string t2) (.slice E n3 c3) (.slice E' n4 c4))) := ⟨_, rfl, Lib.hid (last_a HG1.out HBK.out ne1)⟩; rw [← hwf])
                | (obtain ⟨wf, hwf, HLA⟩ : ∃ wf, wf = (((((w1.setCell ⟨g, 3, none⟩ (.slice (some ⟨g2, 0, none⟩) (j + 1) cap)).setCell ⟨g2, j * 5, none⟩ (.int .i64 k2)).setCell ⟨g2, j * 5 + 1, none⟩ (.int .i64 i2)).setCell ⟨g2, j * 5 + 2, none⟩ (.string t2)).setCell ⟨g2, j * 5 + 3, none⟩ (.slice E n3 c3)).setCell ⟨g2, j * 5 + 4, none⟩ (.slice E' n4 c4) ∧ Hid (Last w1 wf g g2 #[.int .i64 5, .int .i64 0, .string ⟨#[]⟩, (.slice (some ⟨g2, 0, none⟩) (j + 1) cap), .slice (some ⟨gk2, 0, none⟩) (j + 1) capk2] (setV cur (j * 5) (.int .i64 k2) (.int .i64 i2) (.string t2) (.slice E n3 c3) (.slice E' n4 c4))) := ⟨_, rfl, Lib.hid (last_b HG1.out HBK.out ne1)⟩; rw [← hwf])
                have HGF := Lib.hid HLA.out.2.2.2.2.2.1
                have ST := Lib.hid (witem_step5 HFR.out SZ.out NG.out NQG.out F7.out G7.out O7.out K7.out L7.out HFB.out HQB.out HXB.out HGW.out HAT.out HLA.out HW5.out hn2 HL3.out hil (by simp; omega) HKS.out HRR.out)
                have HJ := Lib.hid hlt
                clear hwf HLA q0 q1 q2 q3 q4 f0 f1 f2 f3 f4 HG1 gg3 gf3 ne1 ne2 HBK HW5 HAT HGW gB3 fgB ltB HXB HQB HMB HFB HNG HI5 LIM GIN HOS fg g3 ltg LT7 HCV jj hlt1
                go_wp2_with fail
                go_roundg (cn - (j + 1))
                case measure => have := HJ.out; omega
                case rel => exact ⟨j + 1, b2, some ⟨g2, 0, none⟩, cap, some ⟨gk2, 0, none⟩, capk2, by have := HJ.out; omega, rfl, by go_num, ST, HGF⟩)
            · have hjz : ((j : Int) == 0) = false := by rw [beq_eq_false_iff_ne]; omega
              obtain ⟨m, rfl⟩ : ∃ m, j = m + 1 := ⟨j - 1, by omega⟩
              obtain ⟨ks0, kl, rfl⟩ : ∃ ks0 kl, ks = ks0 ++ [kl] := ⟨ks.dropLast, ks.getLast (by intro e; subst e; simp at hkl), (List.dropLast_concat_getLast _).symm⟩
              have hk0 : ks0.length = m := by simp at hkl; omega
              obtain ⟨gk, capk, hv, hb1, hb2⟩ := HK4.out.form (by omega)
              injection hv with hv1 _ hv3
              subst hv1 hv3
              have kc := own_key HK4.out hk0
              have k4 := G4.out.cell 4
              change _ = some (Value.slice (some ⟨gk, 0, none⟩) (m + 1) cK) at k4
              have m1 : (0 : Int) ≤ (m : Int) := by omega
              have m2 : (m : Int) < ((m + 1 : Nat) : Int) := by omega
              have m3 : ((m + 1 : Nat) : Int) - 1 = (m : Int) := by omega
              go_wp2_with fail
              refine (REQ.out _).mono ?_
              rintro e1 w5 ⟨rfl, hg5, hr5⟩
              have Q5 := Lib.hid (Q4.out.grown hg5 (by intro e; injection e with e; exact NQ.out e))
              have G5 := Lib.hid (G4.out.grown hg5 (by intro e; injection e with e; exact NG.out e))
              have HK5 := Lib.hid (HK4.out.kept hg5 (by
                cases h : (Value.slice (some ⟨gk, 0, none⟩) (m + 1) cK).ownBlock with
                | none => exact Or.inl rfl
                | some gk' => exact Or.inr (fun e => by injection e with e; have := (HK4.out.lt gk' h).1; have := SZ.out; omega)))
              have F5 : Hid (FrS (Three p q g) w w5) := Lib.hid ((HF.out.trans (FrS.of_grown GW4.out (Or.inl rfl))).trans (FrS.of_grown hg5 (Or.inl rfl)))
              have W5 := Lib.hid hr5
              have GW5 := Lib.hid hg5
              have k5 := G5.out.cell 4
              change _ = some (Value.slice (some ⟨gk, 0, none⟩) (m + 1) cK) at k5
              clear hg5 hr5 Q4 HK4 W4 REQ
              go_wp2_with (at_builtin; refine wpList_append_lies _ rfl _ _ 22 rfl w.heap.size 9 iS (.string ByteArray.empty) 1 16 Try.underlying22 hiS hzS hsS hbS rfl (by decide) (.slice (some ⟨gk, 0, none⟩) (m + 1) cK) (m + 1) ((ks0 ++ [kl]).map Value.string) rfl (HK5.out.alloc _) ⟨w5.heap.size, 0, none⟩ 1 1 [.string key] rfl (by rfl) (news_alloc (cs := #[.string key]) (t := 9) (by rfl)) (by simp [Value.oneCell']) (by omega) (by unfold maxLen; omega) (by omega) (by have := F5.out.size; simp; omega) (w5.heap.size + 1) (by simp) ?_)
              intro gk2 capk2 w6 hown6 hg6 hat6 hlt6
              have GA6 : Hid (w5.grownBy w6 (Value.slice (some ⟨gk, 0, none⟩) (m + 1) cK).ownBlock) := Lib.hid (grownBy_trans (World.grownBy_alloc w5 _ _) (by exact hg6))
              have NK6 : Hid ((Value.slice (some ⟨gk, 0, none⟩) (m + 1) cK).ownBlock ≠ some g) := Lib.hid (fun e => by have := (HK5.out.lt g e).1; have := SZ.out; omega)
              have G6 := Lib.hid (G5.out.grown GA6.out (Ne.symm NK6.out))
              have k6 := G6.out.cell 4
              change _ = some (Value.slice (some ⟨gk, 0, none⟩) (m + 1) cK) at k6
              have f6 := G6.out.frozen 4
              have HAT6 : Hid ((Value.slice (some ⟨gk, 0, none⟩) (m + 1) cK).ownBlock = some gk2 ∨ w5.heap.size ≤ gk2) := Lib.hid (by rcases hat6 with h | h; exact Or.inl h; exact Or.inr (by omega))
              have HK6 := Lib.hid hown6
              clear hown6 hg6 hat6 k5
              go_wp2_with fail
              obtain ⟨w7, hw7⟩ : ∃ w7, w7 = w6.setCell ⟨g, 4, none⟩ (.slice (some ⟨gk2, 0, none⟩) ((m + 1) + 1) capk2) := ⟨_, rfl⟩
              rw [← hw7]
              have KS := wkey_step (key := key) SZ.out NG.out NQG.out HF.out HG.out HO.out HK.out HLC.out (FrS.trans (FrS.of_grown GW4.out rfl) (FrS.of_grown GW5.out rfl)) Q5.out W5.out GA6.out HAT6.out (by have h := HK6.out; simpa using h) hw7
              obtain ⟨f7, q7, g7, r7, o7, k7, l7⟩ := KS
              have hrc : cn - (m + 1) = (cn - ((m + 1) + 1)) + 1 := by omega
              have hok : ((m : Int) + 1 == 0 || (!Op.bytesLess key.toList kl.toList && !key.toList == kl.toList)) = true ↔ ((ks0 ++ [kl]) = [] ∨ less (((ks0 ++ [kl])).getLastD ByteArray.empty) key = true) := (rise_eq kl key m).trans ⟨fun h => Or.inr (by simpa using h), fun h => by rcases h with h | h; simp at h; simpa using h⟩
              have hle : (textR l2 9223372036854775807).2.1.length ≤ l2.length := textA_rest l2
              obtain ⟨rr, hRR, hFR, hCR⟩ : ∃ rr : DR VT, decI dec true b l = afterV rr (fun x l' n' => decL dec true (cn - ((m + 1) + 1)) n' l' (its ++ [x]) ((ks0 ++ [kl]) ++ [key])) ∧ rr.Fits (textR l2 9223372036854775807).2.1 n ∧ (∀ W, Below w7.heap.size w7 W → Calls Try.prog 86 #[.pointer (some ⟨q, 0, none⟩), .int .i64 d] W (DecA WRd 90 rr p q w7 W)) := by
                rcases key_dec (dec := dec) (n := n) (r := cn - ((m + 1) + 1)) (its := its) HKEY.out hok with ⟨h0, hR⟩ | ⟨h0, hR⟩
                · rw [h0] at r7
                  exact ⟨_, by rw [HD.out, hrc, hR], HFIT.out _ _, fun W hb => (HV.out W n _ (r7.below hb) (q7.below hb q7.lt) hn2 (by omega)).mono (fun _ _ h => h.after hb r7.lt q7.lt)⟩
                · exact ⟨.err _, by rw [HD.out, hrc, hR]; rfl, (fun a l' n' h => by cases h), fun W hb => (hve W n _ _ h0 (r7.below hb) (q7.below hb q7.lt) hn2).mono (fun _ _ h => h.after hb r7.lt q7.lt)⟩
              have HKS : Hid (∀ s ∈ (ks0 ++ [kl]) ++ [key], s.size ≤ 9223372036854775807) := Lib.hid (fun s hs => by
                rcases List.mem_append.1 hs with h | h
                · exact hks s h
                · have e := List.mem_singleton.1 h
                  have h1 := textA_len l2
                  rw [e, HKEY.out]
                  simp only [ByteArray.size, List.size_toArray]
                  omega)
              have HRR := Lib.hid hRR
              have HFR := Lib.hid hFR
              have HCV := Lib.hid hCR
              have F7 := Lib.hid f7
              have Q7 := Lib.hid q7
              have G7 := Lib.hid g7
              have O7 := Lib.hid o7
              have K7 := Lib.hid k7
              have L7 := Lib.hid l7
              have HL3 := Lib.hid (Nat.le_trans hle hl2)
              clear hks hRR hFR hCR f7 q7 g7 r7 o7 k7 l7 hw7 hok hle hrc g0 g4 fg4 k6 f6 ltg LTS HO HLC HK HG HQ HF W5 Q5 G5 G6 HK5 HK6 F5 GW4 GW5 GA6 HAT6 NK6 HKEY HD c0 hlt6
              have HOS : Hid (∀ W, FrS (Two p q) w7 W → W.ownsRow w.heap.size 26 5 (.slice AI (m + 1) cI) (m + 1) cs) := Lib.hid (fun W h => own_same O7.out (h.same (fun b hb => by have := SZ.out; rcases hb with hb | hb <;> omega)))
              have GIN : Hid (¬ Two p q g) := Lib.hid (fun h => by rcases h with h | h; exact NG.out h; exact NQG.out h.symm)
              have LIM : Hid (((m + 1) + 1) * 80 ≤ 140737488355328) := Lib.hid (by omega)
              have HI5 := Lib.hid (And.intro hiV (And.intro hzV (And.intro hsV hbV)))
              have HNG : Hid ((Value.slice AI (m + 1) cI).ownBlock ≠ some g) := Lib.hid (fun e => by have := (O7.out.lt g e).1; have := SZ.out; omega)
              have jj : (0 : Int) ≤ (m : Int) + 1 := by omega
              have ltg := G7.out.lt
              have LT7 : Hid (w.heap.size ≤ w7.heap.size) := Lib.hid F7.out.size
              have g3 := G7.out.cell 3
              change _ = some (Value.slice AI (m + 1) cI) at g3
              have fg := G7.out.frozen 3
              go_region_law (first
                | (refine step_append_lies _ (by rfl) _ _ _ (by rfl) w.heap.size 26 iV _ 5 80 Try.underlying23 HI5.out.1 HI5.out.2.1 HI5.out.2.2.1 HI5.out.2.2.2 rfl (by omega) (.slice AI (m + 1) cI) (m + 1) cs (by rfl) (by first | exact (HOS.out _ HFB.out).alloc _ | exact ((HOS.out _ HFB.out).alloc _).drew | exact (HOS.out _ HFB.out).drew.alloc _) ⟨wB.heap.size, 0, none⟩ 1 1 [.int .i64 0, .int .i64 0, .string ⟨#[]⟩, .slice none 0 0, .slice none 0 0] (by rfl) (by rfl) (World.news_of_block (cs := #[.int .i64 0, .int .i64 0, .string ⟨#[]⟩, .slice none 0 0, .slice none 0 0]) (t := 26) (fr := (0, 0)) (heap_alloc_new wB _)) (by simp [Value.oneCell']) (by omega) (by have := LIM.out; unfold maxLen; omega) LIM.out (by have := HFB.out.size; have := LT7.out; simp; omega) (wB.heap.size + 1) (by simp) ?_; intro g2 cap w1 hown1 hgrow hat hlt1; have HGW : Hid (wB.grownBy w1 (Value.slice AI (m + 1) cI).ownBlock) := Lib.hid (grownBy_trans (World.grownBy_alloc wB _ _) (by exact hgrow)); have HAT : Hid ((Value.slice AI (m + 1) cI).ownBlock = some g2 ∨ wB.heap.size ≤ g2) := Lib.hid (by rcases hat with h | h; exact Or.inl h; exact Or.inr (by omega)); clear hat hgrow; obtain ⟨cur, hBK, y0, y1, y2, y3, y4, hW5⟩ := own_last hown1; have HW5 := Lib.hid hW5; have q0 := (hBK.cell ((m + 1) * 5)).trans y0; have q1 := (hBK.cell ((m + 1) * 5 + 1)).trans y1; have q2 := (hBK.cell ((m + 1) * 5 + 2)).trans y2; have q3 := (hBK.cell ((m + 1) * 5 + 3)).trans y3; have q4 := (hBK.cell ((m + 1) * 5 + 4)).trans y4; have f0 := hBK.frozen ((m + 1) * 5); have f1 := hBK.frozen ((m + 1) * 5 + 1); have f2 := hBK.frozen ((m + 1) * 5 + 2); have f3 := hBK.frozen ((m + 1) * 5 + 3); have f4 := hBK.frozen ((m + 1) * 5 + 4); have HBK := Lib.hid hBK; clear hBK y0 y1 y2 y3 y4 hW5 hown1; have HG1 : Hid (Bk w1 g 26 #[.int .i64 5, .int .i64 0, .string ⟨#[]⟩, .slice AI (m + 1) cI, .slice (some ⟨gk2, 0, none⟩) ((m + 1) + 1) capk2]) := Lib.hid ((HFB.out.bk G7.out GIN.out).grown HGW.out (Ne.symm HNG.out)); have gg3 := HG1.out.cell 3; change _ = some (Value.slice AI (m + 1) cI) at gg3; have gf3 := HG1.out.frozen 3; have ne1 : g2 ≠ g := (fun e => by rcases HAT.out with h | h; exact HNG.out (by rw [h, e]); omega); have ne2 : g ≠ g2 := Ne.symm ne1)
                | (refine step_append_lies _ (by rfl) _ _ _ (by rfl) w.heap.size 26 iV _ 5 80 Try.underlying23 HI5.out.1 HI5.out.2.1 HI5.out.2.2.1 HI5.out.2.2.2 rfl (by omega) (.slice AI (m + 1) cI) (m + 1) cs (by rfl) (by first | exact HOS.out _ HFB.out | exact (HOS.out _ HFB.out).drew) ⟨w7.heap.size, 0, none⟩ 1 1 [.int .i64 0, .int .i64 0, .string ⟨#[]⟩, .slice none 0 0, .slice none 0 0] (by rfl) (by rfl) (World.news_of_block (cs := #[.int .i64 0, .int .i64 0, .string ⟨#[]⟩, .slice none 0 0, .slice none 0 0]) (t := 26) (fr := (0, 0)) ((HMB.out.2 w7.heap.size (Nat.le_refl _) (by simp)).trans (by first | exact heap_alloc_new w7 _ | exact heap_alloc_new w7.drew _))) (by simp [Value.oneCell']) (by omega) (by have := LIM.out; unfold maxLen; omega) LIM.out (by have := HFB.out.size; have := LT7.out; simp; omega) wB.heap.size (by simp) ?_; intro g2 cap w1 hown1 hgrow hat hlt1; have HGW : Hid (wB.grownBy w1 (Value.slice AI (m + 1) cI).ownBlock) := Lib.hid (by exact hgrow); have HAT : Hid ((Value.slice AI (m + 1) cI).ownBlock = some g2 ∨ wB.heap.size ≤ g2) := Lib.hid (by rcases hat with h | h; exact Or.inl h; exact Or.inr (by omega)); clear hat hgrow; obtain ⟨cur, hBK, y0, y1, y2, y3, y4, hW5⟩ := own_last hown1; have HW5 := Lib.hid hW5; have q0 := (hBK.cell ((m + 1) * 5)).trans y0; have q1 := (hBK.cell ((m + 1) * 5 + 1)).trans y1; have q2 := (hBK.cell ((m + 1) * 5 + 2)).trans y2; have q3 := (hBK.cell ((m + 1) * 5 + 3)).trans y3; have q4 := (hBK.cell ((m + 1) * 5 + 4)).trans y4; have f0 := hBK.frozen ((m + 1) * 5); have f1 := hBK.frozen ((m + 1) * 5 + 1); have f2 := hBK.frozen ((m + 1) * 5 + 2); have f3 := hBK.frozen ((m + 1) * 5 + 3); have f4 := hBK.frozen ((m + 1) * 5 + 4); have HBK := Lib.hid hBK; clear hBK y0 y1 y2 y3 y4 hW5 hown1; have HG1 : Hid (Bk w1 g 26 #[.int .i64 5, .int .i64 0, .string ⟨#[]⟩, .slice AI (m + 1) cI, .slice (some ⟨gk2, 0, none⟩) ((m + 1) + 1) capk2]) := Lib.hid ((HFB.out.bk G7.out GIN.out).grown HGW.out (Ne.symm HNG.out)); have gg3 := HG1.out.cell 3; change _ = some (Value.slice AI (m + 1) cI) at gg3; have gf3 := HG1.out.frozen 3; have ne1 : g2 ≠ g := (fun e => by rcases HAT.out with h | h; exact HNG.out (by rw [h, e]); omega); have ne2 : g ≠ g2 := Ne.symm ne1)
                | (go_simp; go_at_call 86; refine (HCV.out _ (by first | exact Below.refl _ _ | exact (Below.refl _ _).drew | exact ⟨rfl, rfl, rfl, by simp, fun b hb => Below.heap_alloc _ _ b hb⟩)).mono ?_; rintro _ wB ⟨k2, i2, t2, E, n3, c3, E', n4, c4, b2, rfl, HFB, HMB, HQB, HXB⟩; have gB3 := (HFB.out.cell (p := ⟨g, 3, none⟩) ltg GIN.out).trans g3; have fgB := (HFB.out.bk G7.out GIN.out).frozen 3; have ltB : g < wB.heap.size := Nat.lt_of_lt_of_le ltg HFB.out.size))
              all_goals (
                first
                | (obtain ⟨wf, hwf, HLA⟩ : ∃ wf, wf = ((((((w1).setCell ⟨g2, (m + 1) * 5, none⟩ (.int .i64 k2)).setCell ⟨g2, (m + 1) * 5 + 1, none⟩ (.int .i64 i2)).setCell ⟨g2, (m + 1) * 5 + 2, none⟩ (.string t2)).setCell ⟨g2, (m + 1) * 5 + 3, none⟩ (.slice E n3 c3)).setCell ⟨g2, (m + 1) * 5 + 4, none⟩ (.slice E' n4 c4)).setCell ⟨g, 3, none⟩ (.slice (some ⟨g2, 0, none⟩) ((m + 1) + 1) cap) ∧ Hid (Last w1 wf g g2 #[.int .i64 5, .int .i64 0, .string ⟨#[]⟩, (.slice (some ⟨g2, 0, none⟩) ((m + 1) + 1) cap), .slice (some ⟨gk2, 0, none⟩) ((m + 1) + 1) capk2] (setV cur ((m + 1) * 5) (.int .i64 k2) (.int .i64 i2) (.string t2) (.slice E n3 c3) (.slice E' n4 c4))) := ⟨_, rfl, Lib.hid (last_a HG1.out HBK.out ne1)⟩; rw [← hwf])
                | (obtain ⟨wf, hwf, HLA⟩ : ∃ wf, wf = (((((w1.setCell ⟨g, 3, none⟩ (.slice (some ⟨g2, 0, none⟩) ((m + 1) + 1) cap)).setCell ⟨g2, (m + 1) * 5, none⟩ (.int .i64 k2)).setCell ⟨g2, (m + 1) * 5 + 1, none⟩ (.int .i64 i2)).setCell ⟨g2, (m + 1) * 5 + 2, none⟩ (.string t2)).setCell ⟨g2, (m + 1) * 5 + 3, none⟩ (.slice E n3 c3)).setCell ⟨g2, (m + 1) * 5 + 4, none⟩ (.slice E' n4 c4) ∧ Hid (Last w1 wf g g2 #[.int .i64 5, .int .i64 0, .string ⟨#[]⟩, (.slice (some ⟨g2, 0, none⟩) ((m + 1) + 1) cap), .slice (some ⟨gk2, 0, none⟩) ((m + 1) + 1) capk2] (setV cur ((m + 1) * 5) (.int .i64 k2) (.int .i64 i2) (.string t2) (.slice E n3 c3) (.slice E' n4 c4))) := ⟨_, rfl, Lib.hid (last_b HG1.out HBK.out ne1)⟩; rw [← hwf])
                have HGF := Lib.hid HLA.out.2.2.2.2.2.1
                have ST := Lib.hid (witem_step5 HFR.out SZ.out NG.out NQG.out F7.out G7.out O7.out K7.out L7.out HFB.out HQB.out HXB.out HGW.out HAT.out HLA.out HW5.out hn2 HL3.out hil (by simp; omega) HKS.out HRR.out)
                have HJ := Lib.hid hlt
                clear hwf HLA q0 q1 q2 q3 q4 f0 f1 f2 f3 f4 HG1 gg3 gf3 ne1 ne2 HBK HW5 HAT HGW gB3 fgB ltB HXB HQB HMB HFB HNG HI5 LIM GIN HOS fg g3 ltg LT7 HCV jj hlt1
                go_wp2_with fail
                go_roundg (cn - ((m + 1) + 1))
                case measure => have := HJ.out; omega
                case rel => exact ⟨(m + 1) + 1, b2, some ⟨g2, 0, none⟩, cap, some ⟨gk2, 0, none⟩, capk2, by have := HJ.out; omega, rfl, by go_num, ST, HGF⟩)
          · obtain rfl : cn = j := by omega
            have hff : decide ((cn : Int) < cn) = false := by simp
            go_wp2_with fail
            go_end0
            exact ⟨AI, cn, cI, AK, cn, cK, n, rfl, HF, HQ, hn, HG, Or.inl ⟨its, ks, l2, Lib.hid (by rw [HD.out, Nat.sub_self]; rfl), HW, Lib.hid (items_liesK HO.out HK.out HLC.out hil hkl hks (by omega))⟩⟩
        · have hee : decide (e = 0) = false := by simp [he]
          by_cases hlt : j < cn
          · go_wp2_with fail
            refine (wErr_any HW.out).mono ?_
            rintro e1 w' ⟨rfl, rfl⟩
            go_wp2_with fail
            go_end0
            exact ⟨AI, j, cI, AK, j, cK, n, rfl, HF, HQ, hn, HG, Or.inr ⟨e, l2, HD, he, HW⟩⟩
          · obtain rfl : cn = j := by omega
            have hff : decide ((cn : Int) < cn) = false := by simp
            go_wp2_with fail
            go_end0
            exact ⟨AI, cn, cI, AK, cn, cK, n, rfl, HF, HQ, hn, HG, Or.inr ⟨e, l2, HD, he, HW⟩⟩
    · by_cases hneg : c < 0
      · have t1 : decide ((0 : Int) ≤ c) = false := by rw [decide_eq_false_iff_not]; omega
        have DI : Hid (decI dec true b l = .err (reqE false 0) ∧ reqE false 0 ≠ 0) := Lib.hid (by
          unfold decI
          rw [HI.out]
          rw [if_neg (by simp), if_pos (by show c < 0 ∨ (1000 : Int) < c; omega)]
          exact ⟨rfl, by decide⟩)
        go_enter Try.func113, Try.ntmps113
        go_wp2_with fail
        refine (HC.out).mono ?_
        rintro e1x w2 ⟨rfl, hg, hr2⟩
        have Q2 := Lib.hid (Q1.out.grown hg (by intro e; injection e with e; exact NQ.out e))
        have G2 := Lib.hid (G1.out.grown hg (by intro e; injection e with e; exact NG.out e))
        have F2 : Hid (FrS (Three p q g) w w2) := Lib.hid (FrS.of_grown hg (Or.inl rfl))
        have W2 := Lib.hid hr2
        clear hg hr2
        go_wp2_with fail
        refine (wreq_any false W2.out Q2.out).mono ?_
        rintro e1x w3 ⟨rfl, hg, hr3⟩
        have Q3 := Lib.hid (Q2.out.grown hg (by intro e; injection e with e; exact NQ.out e))
        have G3 := Lib.hid (G2.out.grown hg (by intro e; injection e with e; exact NG.out e))
        have F3 : Hid (FrS (Three p q g) w w3) := Lib.hid (F2.out.trans (FrS.of_grown hg (Or.inl rfl)))
        have W3 := Lib.hid hr3
        clear hg hr3
        have IT : Hid (∀ w', w' = w3 → ItsP WRd 90 (decI dec true b l) 5 p q g w (.returned (.tuple #[])) w') := Lib.hid (fun w' hw => by subst hw; exact ⟨none, 0, 0, none, 0, 0, b, rfl, F3, Q3, by omega, G3, Or.inr ⟨_, l1, Lib.hid DI.out.1, DI.out.2, W3⟩⟩)
        have ER := Lib.hid DI.out.2
        generalize reqE false 0 = er at *
        have her := ER.out
        go_wp2_with fail
        go_loopg [7] 0 (fun gh iv wr => iv = .int .i64 0 ∧ wr = w3)
        case atStart => exact ⟨rfl, rfl⟩
        case round =>
          obtain ⟨rfl, rfl⟩ := hrel
          have c0 := Q3.out.cell 0
          change _ = some (Value.pointer (some ⟨p, 0, none⟩)) at c0
          have hpd : decide ((0 : Int) < c) = false := by rw [decide_eq_false_iff_not]; omega
          go_wp2_with fail
          go_end0
          exact IT.out _ rfl
      · have t1 : decide ((0 : Int) ≤ c) = true := by rw [decide_eq_true_eq]; omega
        have t2 : decide (c ≤ 1000) = false := by rw [decide_eq_false_iff_not]; omega
        have DI : Hid (decI dec true b l = .err (reqE false 0) ∧ reqE false 0 ≠ 0) := Lib.hid (by
          unfold decI
          rw [HI.out]
          rw [if_neg (by simp), if_pos (by show c < 0 ∨ (1000 : Int) < c; omega)]
          exact ⟨rfl, by decide⟩)
        go_enter Try.func113, Try.ntmps113
        go_wp2_with fail
        refine (HC.out).mono ?_
        rintro e1x w2 ⟨rfl, hg, hr2⟩
        have Q2 := Lib.hid (Q1.out.grown hg (by intro e; injection e with e; exact NQ.out e))
        have G2 := Lib.hid (G1.out.grown hg (by intro e; injection e with e; exact NG.out e))
        have F2 : Hid (FrS (Three p q g) w w2) := Lib.hid (FrS.of_grown hg (Or.inl rfl))
        have W2 := Lib.hid hr2
        clear hg hr2
        go_wp2_with fail
        refine (wreq_any false W2.out Q2.out).mono ?_
        rintro e1x w3 ⟨rfl, hg, hr3⟩
        have Q3 := Lib.hid (Q2.out.grown hg (by intro e; injection e with e; exact NQ.out e))
        have G3 := Lib.hid (G2.out.grown hg (by intro e; injection e with e; exact NG.out e))
        have F3 : Hid (FrS (Three p q g) w w3) := Lib.hid (F2.out.trans (FrS.of_grown hg (Or.inl rfl)))
        have W3 := Lib.hid hr3
        clear hg hr3
        have IT : Hid (∀ w', w' = w3 → ItsP WRd 90 (decI dec true b l) 5 p q g w (.returned (.tuple #[])) w') := Lib.hid (fun w' hw => by subst hw; exact ⟨none, 0, 0, none, 0, 0, b, rfl, F3, Q3, by omega, G3, Or.inr ⟨_, l1, Lib.hid DI.out.1, DI.out.2, W3⟩⟩)
        have ER := Lib.hid DI.out.2
        generalize reqE false 0 = er at *
        have her := ER.out
        go_wp2_with fail
        go_loopg [7] 0 (fun gh iv wr => iv = .int .i64 0 ∧ wr = w3)
        case atStart => exact ⟨rfl, rfl⟩
        case round =>
          obtain ⟨rfl, rfl⟩ := hrel
          have c0 := Q3.out.cell 0
          change _ = some (Value.pointer (some ⟨p, 0, none⟩)) at c0
          have hpd : decide ((0 : Int) < c) = true := by rw [decide_eq_true_eq]; omega
          go_wp2_with fail
          refine (wErr_any W3.out).mono ?_
          rintro e1x w' ⟨rfl, rfl⟩
          go_wp2_with fail
          go_end0
          exact IT.out _ rfl
  · by_cases hneg : c < 0
    · have t1 : decide ((0 : Int) ≤ c) = false := by rw [decide_eq_false_iff_not]; omega
      have DI : Hid (decI dec true b l = .err (reqE false e1) ∧ reqE false e1 ≠ 0) := Lib.hid (by
        unfold decI
        rw [HI.out]
        rw [if_pos (by exact he1)]
        exact ⟨by rw [reqE_ne he1], by rw [reqE_ne he1]; exact he1⟩)
      go_enter Try.func113, Try.ntmps113
      go_wp2_with fail
      refine (HC.out).mono ?_
      rintro e1x w2 ⟨rfl, hg, hr2⟩
      have Q2 := Lib.hid (Q1.out.grown hg (by intro e; injection e with e; exact NQ.out e))
      have G2 := Lib.hid (G1.out.grown hg (by intro e; injection e with e; exact NG.out e))
      have F2 : Hid (FrS (Three p q g) w w2) := Lib.hid (FrS.of_grown hg (Or.inl rfl))
      have W2 := Lib.hid hr2
      clear hg hr2
      go_wp2_with fail
      refine (wreq_any false W2.out Q2.out).mono ?_
      rintro e1x w3 ⟨rfl, hg, hr3⟩
      have Q3 := Lib.hid (Q2.out.grown hg (by intro e; injection e with e; exact NQ.out e))
      have G3 := Lib.hid (G2.out.grown hg (by intro e; injection e with e; exact NG.out e))
      have F3 : Hid (FrS (Three p q g) w w3) := Lib.hid (F2.out.trans (FrS.of_grown hg (Or.inl rfl)))
      have W3 := Lib.hid hr3
      clear hg hr3
      have IT : Hid (∀ w', w' = w3 → ItsP WRd 90 (decI dec true b l) 5 p q g w (.returned (.tuple #[])) w') := Lib.hid (fun w' hw => by subst hw; exact ⟨none, 0, 0, none, 0, 0, b, rfl, F3, Q3, by omega, G3, Or.inr ⟨_, l1, Lib.hid DI.out.1, DI.out.2, W3⟩⟩)
      have ER := Lib.hid DI.out.2
      generalize reqE false e1 = er at *
      have her := ER.out
      go_wp2_with fail
      go_loopg [7] 0 (fun gh iv wr => iv = .int .i64 0 ∧ wr = w3)
      case atStart => exact ⟨rfl, rfl⟩
      case round =>
        obtain ⟨rfl, rfl⟩ := hrel
        have c0 := Q3.out.cell 0
        change _ = some (Value.pointer (some ⟨p, 0, none⟩)) at c0
        have hpd : decide ((0 : Int) < c) = false := by rw [decide_eq_false_iff_not]; omega
        go_wp2_with fail
        go_end0
        exact IT.out _ rfl
    · by_cases hbig : 1000 < c
      · have t1 : decide ((0 : Int) ≤ c) = true := by rw [decide_eq_true_eq]; omega
        have t2 : decide (c ≤ 1000) = false := by rw [decide_eq_false_iff_not]; omega
        have DI : Hid (decI dec true b l = .err (reqE false e1) ∧ reqE false e1 ≠ 0) := Lib.hid (by
          unfold decI
          rw [HI.out]
          rw [if_pos (by exact he1)]
          exact ⟨by rw [reqE_ne he1], by rw [reqE_ne he1]; exact he1⟩)
        go_enter Try.func113, Try.ntmps113
        go_wp2_with fail
        refine (HC.out).mono ?_
        rintro e1x w2 ⟨rfl, hg, hr2⟩
        have Q2 := Lib.hid (Q1.out.grown hg (by intro e; injection e with e; exact NQ.out e))
        have G2 := Lib.hid (G1.out.grown hg (by intro e; injection e with e; exact NG.out e))
        have F2 : Hid (FrS (Three p q g) w w2) := Lib.hid (FrS.of_grown hg (Or.inl rfl))
        have W2 := Lib.hid hr2
        clear hg hr2
        go_wp2_with fail
        refine (wreq_any false W2.out Q2.out).mono ?_
        rintro e1x w3 ⟨rfl, hg, hr3⟩
        have Q3 := Lib.hid (Q2.out.grown hg (by intro e; injection e with e; exact NQ.out e))
        have G3 := Lib.hid (G2.out.grown hg (by intro e; injection e with e; exact NG.out e))
        have F3 : Hid (FrS (Three p q g) w w3) := Lib.hid (F2.out.trans (FrS.of_grown hg (Or.inl rfl)))
        have W3 := Lib.hid hr3
        clear hg hr3
        have IT : Hid (∀ w', w' = w3 → ItsP WRd 90 (decI dec true b l) 5 p q g w (.returned (.tuple #[])) w') := Lib.hid (fun w' hw => by subst hw; exact ⟨none, 0, 0, none, 0, 0, b, rfl, F3, Q3, by omega, G3, Or.inr ⟨_, l1, Lib.hid DI.out.1, DI.out.2, W3⟩⟩)
        have ER := Lib.hid DI.out.2
        generalize reqE false e1 = er at *
        have her := ER.out
        go_wp2_with fail
        go_loopg [7] 0 (fun gh iv wr => iv = .int .i64 0 ∧ wr = w3)
        case atStart => exact ⟨rfl, rfl⟩
        case round =>
          obtain ⟨rfl, rfl⟩ := hrel
          have c0 := Q3.out.cell 0
          change _ = some (Value.pointer (some ⟨p, 0, none⟩)) at c0
          have hpd : decide ((0 : Int) < c) = true := by rw [decide_eq_true_eq]; omega
          go_wp2_with fail
          refine (wErr_any W3.out).mono ?_
          rintro e1x w' ⟨rfl, rfl⟩
          go_wp2_with fail
          go_end0
          exact IT.out _ rfl
      · have t1 : decide ((0 : Int) ≤ c) = true := by rw [decide_eq_true_eq]; omega
        have t2 : decide (c ≤ 1000) = true := by rw [decide_eq_true_eq]; omega
        have DI : Hid (decI dec true b l = .err (reqE true e1) ∧ reqE true e1 ≠ 0) := Lib.hid (by
          unfold decI
          rw [HI.out]
          rw [if_pos (by exact he1)]
          exact ⟨by rw [reqE_ne he1], by rw [reqE_ne he1]; exact he1⟩)
        go_enter Try.func113, Try.ntmps113
        go_wp2_with fail
        refine (HC.out).mono ?_
        rintro e1x w2 ⟨rfl, hg, hr2⟩
        have Q2 := Lib.hid (Q1.out.grown hg (by intro e; injection e with e; exact NQ.out e))
        have G2 := Lib.hid (G1.out.grown hg (by intro e; injection e with e; exact NG.out e))
        have F2 : Hid (FrS (Three p q g) w w2) := Lib.hid (FrS.of_grown hg (Or.inl rfl))
        have W2 := Lib.hid hr2
        clear hg hr2
        go_wp2_with fail
        refine (wreq_any true W2.out Q2.out).mono ?_
        rintro e1x w3 ⟨rfl, hg, hr3⟩
        have Q3 := Lib.hid (Q2.out.grown hg (by intro e; injection e with e; exact NQ.out e))
        have G3 := Lib.hid (G2.out.grown hg (by intro e; injection e with e; exact NG.out e))
        have F3 : Hid (FrS (Three p q g) w w3) := Lib.hid (F2.out.trans (FrS.of_grown hg (Or.inl rfl)))
        have W3 := Lib.hid hr3
        clear hg hr3
        have IT : Hid (∀ w', w' = w3 → ItsP WRd 90 (decI dec true b l) 5 p q g w (.returned (.tuple #[])) w') := Lib.hid (fun w' hw => by subst hw; exact ⟨none, 0, 0, none, 0, 0, b, rfl, F3, Q3, by omega, G3, Or.inr ⟨_, l1, Lib.hid DI.out.1, DI.out.2, W3⟩⟩)
        have ER := Lib.hid DI.out.2
        generalize reqE true e1 = er at *
        have her := ER.out
        go_wp2_with fail
        go_loopg [7] 0 (fun gh iv wr => iv = .int .i64 0 ∧ wr = w3)
        case atStart => exact ⟨rfl, rfl⟩
        case round =>
          obtain ⟨rfl, rfl⟩ := hrel
          have c0 := Q3.out.cell 0
          change _ = some (Value.pointer (some ⟨p, 0, none⟩)) at c0
          by_cases hpos : (0 : Int) < c
          · have hpd : decide ((0 : Int) < c) = true := by rw [decide_eq_true_eq]; omega
            go_wp2_with fail
            refine (wErr_any W3.out).mono ?_
            rintro e1x w' ⟨rfl, rfl⟩
            go_wp2_with fail
            go_end0
            exact IT.out _ rfl
          · have hpd : decide ((0 : Int) < c) = false := by rw [decide_eq_false_iff_not]; omega
            go_wp2_with fail
            go_end0
            exact IT.out _ rfl
end Go.Proofs.Ytidinbeanaifmaa
namespace Go.Proofs.Ytidinbeanaifmaa
open Go.RowKit

theorem decV_many {f b : Nat} {l : List UInt8} (h : 1000 ≤ b) : decV (f + 1) b l = .err 3 := by rw [decV, if_pos h]
theorem decV_int {f b : Nat} {l : List UInt8} (h : ¬ 1000 ≤ b) (he : (intA l).2.2 ≠ 0) : decV (f + 1) b l = .err (intA l).2.2 := by rw [decV, if_neg h, if_pos he]
theorem decV_in {f b : Nat} {l l1 : List UInt8} {k : Int} (h : ¬ 1000 ≤ b) (hi : intA l = (k, l1, 0)) : decV (f + 1) b l = decB (decV f) k (b + 1) l1 := by
  rw [decV, if_neg h, hi, if_neg (by simp)]
theorem decB_bad {dec : Nat → List UInt8 → DR VT} {k : Int} {n : Nat} {l : List UInt8} (h : k < 0 ∨ 5 < k) : decB dec k n l = .err 3 := by rw [decB, if_pos h]
theorem decB_0 {dec : Nat → List UInt8 → DR VT} {n : Nat} {l : List UInt8} : decB dec 0 n l = .ok nullT l n := by rw [decB, if_neg (by omega), if_pos rfl]
theorem decB_1 {dec : Nat → List UInt8 → DR VT} {n : Nat} {l l2 : List UInt8} {i e : Int} (h : intA l = (i, l2, e)) : decB dec 1 n l = if e ≠ 0 then .err e else if i = 0 ∨ i = 1 then .ok (.mk 1 i ⟨#[]⟩ [] []) l2 n else .err 3 := by
  rw [decB, if_neg (by omega), if_neg (by omega), if_pos rfl, h]
theorem decB_2 {dec : Nat → List UInt8 → DR VT} {n : Nat} {l l2 : List UInt8} {i e : Int} (h : intA l = (i, l2, e)) : decB dec 2 n l = if e ≠ 0 then .err e else .ok (.mk 2 i ⟨#[]⟩ [] []) l2 n := by
  rw [decB, if_neg (by omega), if_neg (by omega), if_neg (by omega), if_pos rfl, h]
theorem decB_3 {dec : Nat → List UInt8 → DR VT} {n : Nat} {l : List UInt8} : decB dec 3 n l = (match decT l n with | .err e => .err e | .ok s l2 n1 => .ok (.mk 3 0 s [] []) l2 n1) := by
  rw [decB, if_neg (by omega), if_neg (by omega), if_neg (by omega), if_neg (by omega), if_pos rfl]
  rfl
theorem decB_4 {dec : Nat → List UInt8 → DR VT} {n : Nat} {l : List UInt8} : decB dec 4 n l = (match decI dec false n l with | .err e => .err e | .ok r l2 n2 => .ok (.mk 4 0 ⟨#[]⟩ r.1 r.2) l2 n2) := by
  rw [decB, if_neg (by omega), if_neg (by omega), if_neg (by omega), if_neg (by omega), if_neg (by omega)]
  rfl
theorem decB_5 {dec : Nat → List UInt8 → DR VT} {n : Nat} {l : List UInt8} : decB dec 5 n l = (match decI dec true n l with | .err e => .err e | .ok r l2 n2 => .ok (.mk 5 0 ⟨#[]⟩ r.1 r.2) l2 n2) := by
  rw [decB, if_neg (by omega), if_neg (by omega), if_neg (by omega), if_neg (by omega), if_neg (by omega)]
  rfl

/-- the code's value at a depth that leaves f levels -/
theorem dv_any {p q : Nat} : ∀ (f : Nat) (d : Int), d = 17 - (f : Int) → 0 ≤ d → ∀ (w : World) (b : Nat) (l : List UInt8), WRd w p l 0 → Bk w q 90 #[.pointer (some ⟨p, 0, none⟩), .int .i64 (b : Nat)] → b ≤ 1000 → l.length ≤ 4611686018427387904 →
    Calls Try.prog 86 #[.pointer (some ⟨q, 0, none⟩), .int .i64 d] w (DecP WRd 90 (decV f b l) p q w)
  | 0, d, hd, _, w, b, l, hr, hq, hb, _ => by
    rw [decV]
    exact dv_deep hr hq hb (by omega)
  | f + 1, d, hd, hd0, w, b, l, hr, hq, hb, hl => by
    have hdp : d ≤ 16 := by omega
    by_cases hm : 1000 ≤ b
    · rw [decV_many hm]
      exact dv_many hr hq hb hm
    · by_cases he : (intA l).2.2 ≠ 0
      · rw [decV_int hm he]
        exact dv_int hr hq hb (by omega) hdp (intA_err he) he
      · obtain ⟨k, l1, hi⟩ : ∃ k l1, intA l = (k, l1, 0) := ⟨(intA l).1, (intA l).2.1, by rw [← Decidable.not_not.1 he]⟩
        have hl1 : l1.length ≤ 4611686018427387904 := by have := intA_len l; rw [hi] at this; exact Nat.le_trans this hl
        rw [decV_in hm hi]
        have hlt : b < 1000 := by omega
        have hv : ∀ (W : World) (n : Nat) (l : List UInt8), WRd W p l 0 → Bk W q 90 #[.pointer (some ⟨p, 0, none⟩), .int .i64 (n : Nat)] → n ≤ 1000 → l.length ≤ 4611686018427387904 → Calls Try.prog 86 #[.pointer (some ⟨q, 0, none⟩), .int .i64 (d + 1)] W (DecP WRd 90 (decV f n l) p q W) :=
          fun W n l => dv_any f (d + 1) (by omega) (by omega) W n l
        by_cases hbad : k < 0 ∨ 5 < k
        · rw [decB_bad hbad]
          exact dv_bad hr hq hb hlt hdp hi hbad
        · have hk : k = 0 ∨ k = 1 ∨ k = 2 ∨ k = 3 ∨ k = 4 ∨ k = 5 := by omega
          rcases hk with rfl | rfl | rfl | rfl | rfl | rfl
          · rw [decB_0]
            exact dv_0 hr hq hb hlt hdp hi
          · rw [decB_1 (i := (intA l1).1) (l2 := (intA l1).2.1) (e := (intA l1).2.2) rfl]
            exact dv_1 hr hq hb hlt hdp hi rfl
          · rw [decB_2 (i := (intA l1).1) (l2 := (intA l1).2.1) (e := (intA l1).2.2) rfl]
            exact dv_2 hr hq hb hlt hdp hi rfl
          · rw [decB_3]
            exact dv_3 hr hq hb hlt hdp hl1 hi
          · rw [decB_4]
            exact dv_4 hr hq hb hlt hdp hd0 hi fun W g h1 h2 h3 => witems_4 (decV_fits f) hv h1 h2 h3 (by omega) hl1
          · rw [decB_5]
            exact dv_5 hr hq hb hlt hdp hd0 hi fun W g h1 h2 h3 => witems_5 (decV_fits f) hv (fun W n l e he h1 h2 h3 => dv_err h1 h2 h3 he) h1 h2 h3 (by omega) hl1
end Go.Proofs.Ytidinbeanaifmaa
