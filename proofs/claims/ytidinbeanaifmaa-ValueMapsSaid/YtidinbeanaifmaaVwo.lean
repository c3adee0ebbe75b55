/-
  A map that is being built: its struct, its rows of keys and of items, and what an append to one of them makes of it.
-/
import Derived.Test.YtidinbeanaifmaaVwi
import Derived.Test.YtidinbeanaifmaaVmp
import Derived.Test.YtidinbeanaifmaaVcq
import Derived.Deep.AppendLies
namespace Go.Proofs.Ytidinbeanaifmaa
open Go.RowKit

/-- a value that reads through blocks of R and new ones -/
def MakesR (R : Nat → Prop) (y : VT) (w : World) (e : Ending) (w' : World) : Prop := ∃ v, e = .returned v ∧ Lies w' (fun b => R b ∨ (w.heap.size ≤ b ∧ b < w'.heap.size)) y v ∧ Below w.heap.size w w'

/-- the cells of the block that was made last -/
theorem news_alloc {w : World} {cs : Array Value} {t : TypeId} {H : Nat} (h : w.heap.size = H) : ∀ (j : Nat) (u : Value), cs.toList[j]? = some u → (w.alloc (.cells cs t)).cell? ((⟨H, 0, none⟩ : Addr).add j) = some u := by
  subst h
  exact World.news_of_block (heap_alloc_new w _)
/-- a map under way: g its struct, B where its own rows begin; what the items hold lies in w -/
structure OutR (w : World) (R : Nat → Prop) (B g : Nat) (ps : List (ByteArray × VT)) (n : Nat) (AI : Option Addr) (cI : Nat) (AK : Option Addr) (cK : Nat) (wr : World) : Prop where
  len : ps.length = n
  blk : Bk wr g 26 #[.int .i64 5, .int .i64 0, .string ⟨#[]⟩, .slice AI n cI, .slice AK n cK]
  its : ∃ cs, LiesC w R (ps.map (·.2)) cs ∧ wr.ownsRow B 26 5 (.slice AI n cI) n cs
  kys : wr.ownsRow B 9 1 (.slice AK n cK) n (ps.map fun p => Value.string p.1)
/-- the same, with a key more -/
structure MidR (w : World) (R : Nat → Prop) (B g : Nat) (ps : List (ByteArray × VT)) (p : ByteArray × VT) (n : Nat) (AI : Option Addr) (cI : Nat) (AK : Option Addr) (cK : Nat) (wr : World) : Prop where
  len : ps.length = n
  blk : Bk wr g 26 #[.int .i64 5, .int .i64 0, .string ⟨#[]⟩, .slice AI n cI, .slice AK (n + 1) cK]
  its : ∃ cs, LiesC w R (ps.map (·.2)) cs ∧ wr.ownsRow B 26 5 (.slice AI n cI) n cs
  kys : wr.ownsRow B 9 1 (.slice AK (n + 1) cK) (n + 1) ((ps ++ [p]).map fun p => Value.string p.1)
section
variable {R : Nat → Prop} {w w5 wr w4 : World} {B g n : Nat} {ps : List (ByteArray × VT)} {p : ByteArray × VT} {AI AK AK2 AI2 : Option Addr} {cI cK cK2 cI2 : Nat}
theorem below_row {e : TypeId} {size m : Nat} {v : Value} {xs : List Value} (h : wr.ownsRow B e size v m xs) (hg : g < B) : some g ≠ v.ownBlock := fun e' => by
  have := (h.lt g e'.symm).1
  omega
theorem OutR.key (h : OutR w R B g ps n AI cI AK cK wr) (hg : wr.grownBy w5 (Value.slice AK n cK).ownBlock)
    (hown : w5.ownsRow B 9 1 (.slice AK2 (n + 1) cK2) (n + 1) ((ps.map fun p => Value.string p.1) ++ [.string p.1])) (hB : g < B) :
    MidR w R B g ps p n AI cI AK2 cK2 (w5.setCell ⟨g, 4, none⟩ (.slice AK2 (n + 1) cK2)) := by
  obtain ⟨cs, hcs, hi⟩ := h.its
  refine ⟨h.len, (h.blk.grown hg (below_row h.kys hB)).put 4 _, ⟨cs, hcs, ?_⟩, ?_⟩
  · exact own_same (hi.kept hg (own_ne hi h.kys (by decide))) (fun b h1 _ => Below.heap_setCell _ _ _ _ (by show b ≠ g; omega))
  · rw [List.map_append]
    exact own_same hown (fun b h1 _ => Below.heap_setCell _ _ _ _ (by show b ≠ g; omega))
theorem MidR.item {a b s y z : Value} {cs : List Value} (h : MidR w R B g ps p n AI cI AK cK wr) (hcs : LiesC w R (ps.map (·.2)) cs) (hi : wr.ownsRow B 26 5 (.slice AI n cI) n cs)
    (hx : Lies w R p.2 (.agg #[a, b, s, y, z])) (hg : wr.grownBy w5 (Value.slice AI n cI).ownBlock)
    (hown : w5.ownsRow B 26 5 (.slice AI2 (n + 1) cI2) (n + 1) (cs ++ [a, b, s, y, z])) (hB : g < B) :
    OutR w R B g (ps ++ [p]) (n + 1) AI2 cI2 AK cK (w5.setCell ⟨g, 3, none⟩ (.slice AI2 (n + 1) cI2)) := by
  refine ⟨by rw [List.length_append, h.len]; rfl, (h.blk.grown hg (below_row hi hB)).put 3 _, ⟨cs ++ [a, b, s, y, z], ?_, ?_⟩, ?_⟩
  · rw [List.map_append]
    exact LiesC.append hcs ⟨a, b, s, y, z, [], rfl, hx, rfl⟩
  · exact own_same hown (fun b h1 _ => Below.heap_setCell _ _ _ _ (by show b ≠ g; omega))
  · exact own_same (h.kys.kept hg (own_ne h.kys hi (by decide))) (fun b h1 _ => Below.heap_setCell _ _ _ _ (by show b ≠ g; omega))
/-- what has grown -/
theorem out_grown {e : TypeId} {size m i : Nat} {v u : Value} {xs : List Value} (h : w4.grownBy wr (some g)) (hr : wr.ownsRow w4.heap.size e size v m xs) (hg : wr.grownBy w5 v.ownBlock) : w4.grownBy (w5.setCell ⟨g, i, none⟩ u) (some g) :=
  grownBy_trans (grown_low h hg (fun q hq => (hr.lt q hq).1)) (turned w5 g i u)
theorem OutR.lies (h : OutR w R B g ps n AI cI AK cK wr) (hR : ∀ b, R b → b < w.heap.size) (hB : w.heap.size ≤ B) (hb : Below w.heap.size w wr) (hs : ∀ p ∈ ps, p.1.size ≤ 9223372036854775807) :
    Lies wr (fun b => R b ∨ (w.heap.size ≤ b ∧ b < wr.heap.size)) (mapT ps) (.agg #[.int .i64 5, .int .i64 0, .string ⟨#[]⟩, .slice AI n cI, .slice AK n cK]) := by
  obtain ⟨cs, hcs, hi⟩ := h.its
  have hl := h.len
  subst hl
  unfold mapT
  rw [Lies, List.length_map, List.length_map]
  have hk := own_bounds h.kys
  have hi' := own_bounds hi
  refine ⟨AI, cI, AK, cK, rfl, by omega, by omega, by decide, hi'.1, hi'.2, ?_, hk.1, hk.2, ?_⟩
  · exact (hcs.keep (R' := fun b => R b ∨ (w.heap.size ≤ b ∧ b < wr.heap.size)) (fun p hp => hb.cell (hR _ hp)) (fun b h => Or.inl h)).ownR (fun g h1 h2 => Or.inr ⟨by omega, h2⟩) (List.length_map _).symm hi
  · refine strs_ownR (base := B) (fun s hs' => ?_) (fun g h1 h2 => Or.inr ⟨by omega, h2⟩) (List.length_map _).symm (by rw [List.map_map]; exact h.kys)
    obtain ⟨q, hq, rfl⟩ := List.mem_map.1 hs'
    exact hs q hq
end
end Go.Proofs.Ytidinbeanaifmaa
