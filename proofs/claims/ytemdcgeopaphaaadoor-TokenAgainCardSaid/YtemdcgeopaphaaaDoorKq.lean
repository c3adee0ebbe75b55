/-
  The chapter's examples: works. The walk of TokenWords.
-/
import Derived.Test.YtemdcgeopaphaaaDoorKp
import Derived.Deep.CutRange
namespace Go.Proofs.YtemdcgeopaphaaaDoor
open Go.RowKit

def exL : List Tok := [⟨2, 0, [108, 101, 116], 0⟩, ⟨1, 4, [120], 0⟩, ⟨5, 6, [61], 0⟩, ⟨3, 8, [], 10⟩, ⟨5, 10, [59], 0⟩, ⟨0, 11, [], 0⟩]
theorem ex_1 : scanT [108, 101, 116, 32, 120, 32, 61, 32, 49, 48, 59] = .ok exL := by kernel_rfl
theorem ex_2 : scanT [97, 32, 33, 98] = .err 2 3 := by kernel_rfl
theorem ex_3 : quoL [97, 10] = [34, 97, 92, 110, 34] := by kernel_rfl
theorem exRow (w : World) : TRow (w.alloc (.cells (exL.flatMap tokC).toArray 30)) (some ⟨w.heap.size, 0, none⟩) exL := fun j k hj => by
  have hf := flat_at hj
  have hc : ∀ i u, (exL.flatMap tokC)[i]? = some u → (w.alloc (.cells (exL.flatMap tokC).toArray 30)).cell? ⟨w.heap.size, i, none⟩ = some u := fun i u hu => by
    rw [World.cell?_alloc_at _ _ _ _ rfl]
    simpa using hu
  refine ⟨w.heap.size, 0, rfl, by simp, ?_, ?_, ?_, ?_⟩
  · rw [Nat.zero_add]; exact hc _ _ hf.1
  · rw [Nat.zero_add]; exact hc _ _ hf.2.1
  · rw [Nat.zero_add]; exact hc _ _ hf.2.2.1
  · rw [Nat.zero_add]; exact hc _ _ hf.2.2.2

set_option maxRecDepth 100000 in
set_option maxHeartbeats 4000000 in
theorem works_any {w : World} (hE : NStd w) : Calls Tryd.prog 10 #[] w fun e w' => e = .returned (.bool true) ∧ Below w.heap.size w w' := by
  have HE := Lib.hid hE
  have S1 := Lib.hid (Scan_any ⟨#[108, 101, 116, 32, 120, 32, 61, 32, 49, 48, 59]⟩ w (by decide) hE)
  rw [show (⟨#[108, 101, 116, 32, 120, 32, 61, 32, 49, 48, 59]⟩ : ByteArray).data.toList = [108, 101, 116, 32, 120, 32, 61, 32, 49, 48, 59] from rfl, ex_1] at S1
  clear hE
  go_enter Tryd.func10, Tryd.ntmps10
  go_wp2_with fail
  refine (S1.out).mono ?_
  rintro _ w1 ⟨hb1, ⟨l, A, c, hl, rfl, ho⟩ | ⟨i, x, hl, _⟩⟩
  case inr => cases hl
  injection hl with hl
  have HL := Lib.hid hl.symm
  have B1 := Lib.hid hb1
  have T1 := Lib.hid (hl ▸ TRow.of_own ho : TRow w1 A exL)
  have hlen : l.length = 6 := by rw [← hl]; rfl
  rw [hlen]
  clear S1 hb1 ho hl hlen HL
  have S2 := Lib.hid (Scan_any ⟨#[97, 32, 33, 98]⟩ w1 (by decide) (HE.out.on B1.out))
  rw [show (⟨#[97, 32, 33, 98]⟩ : ByteArray).data.toList = [97, 32, 33, 98] from rfl, ex_2] at S2
  go_wp2_with fail
  refine (S2.out).mono ?_
  rintro _ w2 ⟨hb2, ⟨_, _, _, hl, _, _⟩ | ⟨i, x, hl, rfl⟩⟩
  case inl => cases hl
  injection hl with h1 h2
  subst h1 h2
  have B2 := Lib.hid (lnk B1.out hb2)
  have T2 := Lib.hid (T1.out.below hb2)
  clear S2 hb2
  go_upto_region 4 with (fail)
  obtain ⟨w3, hw3⟩ : ∃ w3, w3 = w2.alloc (.cells (exL.flatMap tokC).toArray 30) := ⟨_, rfl⟩
  have T3 : Hid (TRow w3 (some ⟨w2.heap.size, 0, none⟩) exL) := Lib.hid (by rw [hw3]; exact exRow w2)
  have hb3 : Below w2.heap.size w2 w3 := by rw [hw3]; exact (Below.refl _ _).alloc (Nat.le_refl _) _
  have U3 := Lib.hid (T2.out.below hb3)
  have B3 := Lib.hid (lnk B2.out hb3)
  change Code.wp _ _ _ _ (w2.alloc (.cells (exL.flatMap tokC).toArray 30))
  rw [← hw3]
  clear hw3 hb3
  have EQ := Lib.hid (equal_any (c := c) (c' := 6) U3.out T3.out (by decide))
  rw [show exL.length = 6 from rfl] at EQ
  have QU := Lib.hid (fun (V : World) => Quote_any ⟨#[97, 10]⟩ V (by decide))
  rw [show (⟨#[97, 10]⟩ : ByteArray).data.toList = [97, 10] from rfl, ex_3] at QU
  go_wp2_with fail
  refine (EQ.out).mono ?_
  rintro _ w4 ⟨rfl, hd4⟩
  have B4 := Lib.hid (lnk B3.out hd4.below)
  clear hd4
  go_wp2_with fail
  refine (QU.out _).mono ?_
  rintro _ w5 ⟨rfl, hb5⟩
  have B5 := Lib.hid (lnk B4.out hb5)
  clear hb5
  go_wp2_with fail
  go_ret
  exact ⟨rfl, B5.out⟩

set_option maxRecDepth 100000 in
set_option maxHeartbeats 4000000 in
theorem Words_any (s : ByteArray) (w : World) (hE : NStd w) : Calls Tryd.prog 4 #[.string s] w fun e w' => e = .returned (.bool true) ∧ Below w.heap.size w w' := by
  have HE := Lib.hid hE
  have KW := Lib.hid (fun (V : World) => Keyword_any s V)
  have RK := Lib.hid (fun (V : World) => refKeyword_any s V)
  obtain ⟨b, hb⟩ : ∃ b, b = kwB s.data.toList := ⟨_, rfl⟩
  rw [← hb] at KW RK
  have tb : (b == b) = true := by simp
  clear hE hb
  go_enter Tryd.func4, Tryd.ntmps4
  go_wp2_with fail
  refine (KW.out _).mono ?_
  rintro _ W ⟨rfl, rfl⟩
  go_wp2_with fail
  refine (RK.out _).mono ?_
  rintro _ w2 ⟨rfl, hb2⟩
  have B2 := Lib.hid hb2
  clear hb2
  go_wp2_with fail
  refine (works_any (HE.out.on B2.out)).mono ?_
  rintro _ w3 ⟨rfl, hb3⟩
  have B3 := Lib.hid (lnk B2.out hb3)
  clear hb3
  go_wp2
  go_ret
  exact ⟨rfl, B3.out⟩
theorem TokenWords_walk (s : ByteArray) (w : World) (_ : s.size ≤ maxLen) (h : NStd w) : Calls Tryd.prog 4 #[.string s] w fun e w' => e = .returned (.bool true) ∧ Below w.heap.size w w' := Words_any s w h
end Go.Proofs.YtemdcgeopaphaaaDoor
