/-
  Contracts of Run and Number, of package name and of the reference.
-/
import Derived.Test.YtegiicbbmkjplaaDoorNb
import Derived.Below
import Derived.Lib.AppendIntMem
namespace Go.Proofs.YtegiicbbmkjplaaDoor
open Go.RowKit Go.Sort

/-- the world has what Number and Run read of strconv -/
structure NStd (w : World) : Prop where
  es : ∃ a b, w.cell? ⟨0, 0, none⟩ = some (.iface a b)
  er : ∃ a b, w.cell? ⟨1, 0, none⟩ = some (.iface a b)
  tab : Lib.TabBelow Tryd.prog w.heap.size w "internal/strconv.uint64pow10" .u64 Lib.pow10Tab
theorem NStd.on {w w' : World} (h : NStd w) (hb : Below w.heap.size w w') : NStd w' := by
  obtain ⟨⟨a, b, h1⟩, ⟨c, d, h2⟩, h3⟩ := h
  exact ⟨⟨a, b, by rw [hb.cell (World.block_lt_of_cell? w _ h1)]; exact h1⟩, ⟨c, d, by rw [hb.cell (World.block_lt_of_cell? w _ h2)]; exact h2⟩, fun W hW => h3 W (hb.trans (hW.mono hb.size))⟩

theorem runS_0 {n : Int} (h : n < 1) : runS n = [] := by unfold runS; rw [if_pos h]
theorem runS_1 {n : Int} (h : ¬ n < 1) : runS n = 114 :: Lib.itoa n := by unfold runS; rw [if_neg h]
theorem itoa_len {n : Int} (h0 : -9223372036854775808 ≤ n) (h1 : n ≤ 9223372036854775807) : (Lib.itoa n).length ≤ 20 := by
  unfold Lib.itoa
  split
  · rw [List.length_cons]; have := dec_len n.natAbs (by omega); omega
  · have := dec_len n.toNat (by omega); omega

set_option maxHeartbeats 1000000 in
theorem Run_any (n : Int) (w : World) (h0 : -9223372036854775808 ≤ n) (h1 : n ≤ 9223372036854775807) (hw : NStd w) : Calls Tryd.prog 12 #[.int .i64 n] w fun e w' => e = .returned (.string ⟨(runS n).toArray⟩) ∧ Below w.heap.size w w' := by
  by_cases hn : n < 1
  · have HS := Lib.hid (runS_0 hn)
    go_enter Tryd.func12, Tryd.ntmps12
    go_wp2_with fail
    go_ret
    exact ⟨ret_str HS.out.symm, Below.refl _ _⟩
  · have HS := Lib.hid (runS_1 hn)
    have HI := Lib.hid (Tryd.strconv_Itoa n h0 h1 w hw.tab.here)
    have hsz : ¬ 9223372036854775807 < 1 + (Lib.itoa n).length := by have := itoa_len h0 h1; omega
    clear hw
    go_enter Tryd.func12, Tryd.ntmps12
    go_wp2_with fail
    refine HI.out.mono ?_
    rintro e w' ⟨rfl, k, os, rfl⟩
    have HB := Lib.hid (Lib.below_grow w.heap.size w (Nat.le_refl _) k os)
    generalize grow (w.drewN k) os = w' at *
    go_wp2_with fail
    go_ret
    exact ⟨by rw [HS.out]; exact congrArg (fun x => Ending.returned (.string x)) (str_app [114] _), HB.out⟩

set_option maxHeartbeats 1000000 in
theorem refRun_any (n : Int) (w : World) (h0 : -9223372036854775808 ≤ n) (h1 : n ≤ 9223372036854775807) : Calls Tryd.prog 13 #[.int .i64 n] w fun e w' => e = .returned (.string ⟨(runS n).toArray⟩) ∧ Below w.heap.size w w' := by
  by_cases hn : n < 1
  · have HS := Lib.hid (runS_0 hn)
    go_enter Tryd.func13, Tryd.ntmps13
    go_wp2_with fail
    go_ret
    exact ⟨ret_str HS.out.symm, Below.refl _ _⟩
  · have HS := Lib.hid (runS_1 hn)
    have HI := Lib.hid (refDec_any n w h0 h1)
    have hsz : ¬ 9223372036854775807 < 1 + (Lib.itoa n).length := by have := itoa_len h0 h1; omega
    go_enter Tryd.func13, Tryd.ntmps13
    go_wp2_with fail
    refine HI.out.mono ?_
    rintro e w' ⟨rfl, hb⟩
    have HB := Lib.hid hb
    clear hb
    go_wp2_with fail
    go_ret
    exact ⟨by rw [HS.out]; exact congrArg (fun x => Ending.returned (.string x)) (str_app [114] _), HB.out⟩

/-- Atoi's end as one pair: the number (or what stands beside an error), the error -/
def AtoiP (l : List UInt8) (z : Int) (ev : Value) : Prop := (Lib.atoiAll l = .ok z ∧ ev = .nilIface) ∨ ((∀ x, Lib.atoiAll l ≠ .ok x) ∧ ∃ T N, ev = .iface T (.pointer (some ⟨N, 0, none⟩)))
theorem atoi_any {w : World} (t : ByteArray) (ht : t.size ≤ 1000000) (hE : NStd w) :
    Calls Tryd.prog 21 #[.string t] w fun e w' => Below w.heap.size w w' ∧ ∃ z ev, AtoiP t.data.toList z ev ∧ e = .returned (.tuple #[.int .i64 z, ev]) := by
  obtain ⟨⟨a, b, h1⟩, ⟨c, d, h2⟩, _⟩ := hE
  unfold AtoiP
  cases hA : Lib.atoiAll t.data.toList with
  | ok v => exact (Tryd.strconv_Atoi_ok t (by omega) v hA w).mono fun e w' ⟨he, hw⟩ => ⟨by
      rcases hw with rfl | ⟨x, rfl⟩
      · exact Below.refl _ _
      · exact Lib.bytesWorld_below _ _ _, v, _, .inl ⟨rfl, rfl⟩, he⟩
  | range => exact (Tryd.strconv_Atoi_range t (by omega) hA _ w h2 (.inr ⟨_, _, rfl⟩)).mono fun e w' ⟨N, he, _, _, hb⟩ => ⟨hb, _, _, .inr ⟨fun v e => (by cases e), _, N, rfl⟩, he⟩
  | _ => exact (Tryd.strconv_Atoi_syntax t (by omega) (hA.trans rfl) _ w h1 (.inr ⟨_, _, rfl⟩)).mono fun e w' ⟨N, he, _, _, hb⟩ => ⟨hb, _, _, .inr ⟨fun v e => (by cases e), _, N, rfl⟩, he⟩
theorem trim_run {n : Int} (h : InR n) : Lib.trimPrefix (runS n) [114] = (runS n).drop 1 := by
  rw [runS_dec h]
  unfold Lib.trimPrefix Lib.hasPrefix
  rw [if_pos (by simp [List.isPrefixOf])]
  rfl
theorem num_bad {l : List UInt8} (h : ∀ x, Lib.atoiAll (Lib.trimPrefix l [114]) ≠ .ok x) : NumP l 0 false :=
  .inr ⟨rfl, rfl, fun n hn e => h n (by rw [← e, trim_run hn]; exact runS_atoi hn)⟩
theorem num_other {l : List UInt8} {z : Int} (h : Lib.atoiAll (Lib.trimPrefix l [114]) = .ok z) (hr : runS z ≠ l) : NumP l 0 false :=
  .inr ⟨rfl, rfl, fun n hn e => by
    have := runS_atoi hn
    rw [← e, trim_run hn, this] at h
    injection h with h
    exact hr (h ▸ e)⟩
theorem num_good {l : List UInt8} {z : Int} (h1 : z ≤ 9223372036854775807) (hr : runS z = l) (hl : l ≠ []) : NumP l z true :=
  .inl ⟨rfl, ⟨by rcases Int.lt_or_le z 1 with h | h
                 · rw [runS_0 h] at hr; exact absurd hr.symm hl
                 · exact h, h1⟩, hr⟩
theorem num_nil : Lib.atoiAll (Lib.trimPrefix [] [114]) = Lib.atoiAll [] := rfl
theorem trim_le (l : List UInt8) : (Lib.trimPrefix l [114]).length ≤ l.length := by
  unfold Lib.trimPrefix
  split
  · rw [List.length_drop]; omega
  · exact Nat.le_refl _

/-- what Number gives back -/
def NumR (l : List UInt8) (w : World) (e : Ending) (w' : World) : Prop := ∃ v b, e = .returned (.tuple #[.int .i64 v, .bool b]) ∧ NumP l v b ∧ -9223372036854775808 ≤ v ∧ v ≤ 9223372036854775807 ∧ Below w.heap.size w w'
theorem str_ne {a : ByteArray} {l : List UInt8} (h : l = a.data.toList) : (⟨l.toArray⟩ : ByteArray) = a := by
  subst h
  apply ByteArray.ext
  simp
end Go.Proofs.YtegiicbbmkjplaaDoor
