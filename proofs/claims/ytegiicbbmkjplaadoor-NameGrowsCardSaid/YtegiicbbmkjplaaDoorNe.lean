/-
  Contracts of Key and Split, of package name and of the reference.
-/
import Derived.Test.YtegiicbbmkjplaaDoorNd
import Derived.Shelf.RegionOpenPlain
import Derived.Deep.RegionLaw
namespace Go.Proofs.YtegiicbbmkjplaaDoor
open Go.RowKit

theorem ix_cases (c : UInt8) : ∀ (l : List UInt8), (Lib.indexByte l c = -1 ∧ c ∉ l) ∨ ∃ k : Nat, Lib.indexByte l c = k ∧ k < l.length ∧ l = l.take k ++ c :: l.drop (k + 1) ∧ c ∉ l.take k
  | [] => .inl ⟨rfl, List.not_mem_nil⟩
  | b :: r => by
    by_cases hb : b = c
    · subst hb
      exact .inr ⟨0, by unfold Lib.indexByte; rw [if_pos (by simp)]; rfl, by simp, by simp, by simp⟩
    · have h0 : ¬ (b == c) = true := by simpa using hb
      rcases ix_cases c r with ⟨h1, h2⟩ | ⟨k, h1, h2, h3, h4⟩
      · refine .inl ⟨by unfold Lib.indexByte; rw [if_neg h0, h1]; rfl, ?_⟩
        rw [List.mem_cons]
        rintro (e | e)
        · exact hb e.symm
        · exact h2 e
      · refine .inr ⟨k + 1, ?_, by rw [List.length_cons]; omega, by rw [List.take_succ_cons, List.drop_succ_cons, List.cons_append, ← h3], ?_⟩
        · unfold Lib.indexByte
          rw [if_neg h0, h1, if_neg (by simp)]
          rfl
        · rw [List.take_succ_cons, List.mem_cons]
          rintro (e | e)
          · exact hb e.symm
          · exact h4 e

theorem Key_any (s t : ByteArray) (w : World) (hs : s.size ≤ 10000) (ht : t.size ≤ 10000) : Calls Tryd.prog 14 #[.string s, .string t] w fun e w' => e = .returned (.string (s ++ ⟨#[47]⟩ ++ t)) ∧ w = w' := by
  have h1 : ¬ 9223372036854775807 < s.size + 1 := by omega
  have h2 : ¬ 9223372036854775807 < s.size + 1 + t.size := by omega
  go_enter Tryd.func14, Tryd.ntmps14
  go_wp2_with fail
  go_ret
  exact ⟨rfl, rfl⟩
theorem refKey_any (s t : ByteArray) (w : World) (hs : s.size ≤ 10000) (ht : t.size ≤ 10000) : Calls Tryd.prog 17 #[.string s, .string t] w fun e w' => e = .returned (.string (s ++ ⟨#[47]⟩ ++ t)) ∧ w = w' := by
  have h1 : ¬ 9223372036854775807 < s.size + 1 := by omega
  have h2 : ¬ 9223372036854775807 < s.size + 1 + t.size := by omega
  go_enter Tryd.func17, Tryd.ntmps17
  go_wp2_with fail
  go_ret
  exact ⟨rfl, rfl⟩

/-- what Cut gives at a slash -/
def CutP (l : List UInt8) (u v : ByteArray) (b : Bool) : Prop := (b = true ∧ l = u.data.toList ++ 47 :: v.data.toList ∧ (47 : UInt8) ∉ u.data.toList) ∨ (b = false ∧ (47 : UInt8) ∉ l)
/-- what Cut gives back -/
def CutR (s : ByteArray) (w : World) (e : Ending) (w' : World) : Prop := ∃ u v b, e = .returned (.tuple #[.string u, .string v, .bool b]) ∧ CutP s.data.toList u v b ∧ u.size ≤ s.size ∧ v.size ≤ s.size ∧ Below w.heap.size w w'
theorem ext_to (s : ByteArray) (k : Nat) : (s.extract 0 k).data.toList = s.data.toList.take k := by
  rw [ByteArray.data_extract, Array.toList_extract]
  show (s.data.toList.drop 0).take (k - 0) = _
  rw [List.drop_zero, Nat.sub_zero]
theorem ext_from (s : ByteArray) (k : Nat) : (s.extract k s.size).data.toList = s.data.toList.drop k := by
  rw [ByteArray.data_extract, Array.toList_extract]
  show (s.data.toList.drop k).take (s.size - k) = _
  rw [List.take_of_length_le]
  simp
theorem cut_hit {s : ByteArray} {k : Nat} (h3 : s.data.toList = s.data.toList.take k ++ 47 :: s.data.toList.drop (k + 1)) (h4 : (47 : UInt8) ∉ s.data.toList.take k) : CutP s.data.toList (s.extract 0 k) (s.extract (k + 1) s.size) true :=
  .inl ⟨rfl, by rw [ext_to, ext_from]; exact h3, by rw [ext_to]; exact h4⟩
theorem ext_size (s : ByteArray) (a b : Nat) : (s.extract a b).size ≤ s.size := by
  rw [ByteArray.size_extract]; omega
set_option maxHeartbeats 1000000 in
theorem Cut0_any (s : ByteArray) (w : World) (hs : s.size ≤ 30000) : Calls Tryd.prog 32 #[.string s, .string ⟨#[47]⟩] w (CutR s w) := by
  have hl : s.data.toList.length = s.size := by simp
  have HI := Lib.hid (Tryd.stringslite_Index_one s 47 w)
  rcases ix_cases 47 s.data.toList with ⟨h1, h2⟩ | ⟨k, h1, h2, h3, h4⟩
  · rw [h1] at HI
    have HC := Lib.hid h2
    clear h1 h2
    go_enter Tryd.func32, Tryd.ntmps32
    go_wp2_with fail
    refine HI.out.mono ?_
    rintro e w' ⟨rfl, rfl⟩
    go_wp2
    go_ret3
    exact ⟨_, _, _, rfl, .inr ⟨rfl, HC.out⟩, Nat.le_refl _, Nat.zero_le _, Below.refl _ _⟩
  · rw [h1] at HI
    have HC := Lib.hid (cut_hit h3 h4)
    clear h1 h3 h4
    have c1 : (0 : Int) ≤ ↑k := by omega
    have c2 : (↑k : Int) ≤ ↑s.size := by omega
    have c3 : (0 : Int) ≤ ↑k + 1 := by omega
    have c4 : (↑k + 1 : Int) ≤ ↑s.size := by omega
    go_enter Tryd.func32, Tryd.ntmps32
    go_wp2_with fail
    refine HI.out.mono ?_
    rintro e w' ⟨rfl, rfl⟩
    go_wp2_with fail
    go_region
    go_wp2
    go_ret3
    exact ⟨_, _, _, rfl, HC.out, ext_size _ _ _, ext_size _ _ _, (Below.refl _ _).drew⟩
theorem Cut_any (s : ByteArray) (w : World) (hs : s.size ≤ 30000) : Calls Tryd.prog 25 #[.string s, .string ⟨#[47]⟩] w (CutR s w) := by
  go_enter Tryd.func25, Tryd.ntmps25
  go_wp2_with fail
  refine (Cut0_any s _ hs).mono ?_
  rintro e w' ⟨u, v, b, rfl, h⟩
  have H := Lib.hid h
  clear h
  go_wp2
  go_ret3
  exact ⟨u, v, b, rfl, H.out⟩

/-- what Split gives back -/
def SplR (l : List UInt8) (w : World) (e : Ending) (w' : World) : Prop := ∃ u v b, e = .returned (.tuple #[.string u, .string v, .bool b]) ∧ SplP l u.data.toList v.data.toList b ∧ u.size ≤ l.length ∧ v.size ≤ l.length ∧ Below w.heap.size w w'
theorem spl_no {l : List UInt8} (h : (47 : UInt8) ∉ l) : SplP l [] [] false :=
  .inr ⟨rfl, rfl, rfl, fun x y e _ => absurd (by rw [e]; simp) h⟩
theorem spl_two {l u v : List UInt8} (h : l = u ++ 47 :: v) (hu : (47 : UInt8) ∉ u) (hv : (47 : UInt8) ∈ v) : SplP l [] [] false :=
  .inr ⟨rfl, rfl, rfl, fun x y e hx => by
    obtain ⟨e1, e2⟩ := cut_one (h.symm.trans e) hu hx
    exact e2 ▸ hv⟩
set_option maxHeartbeats 1000000 in
theorem Split_any (s : ByteArray) (w : World) (hs : s.size ≤ 30000) : Calls Tryd.prog 15 #[.string s] w (SplR s.data.toList w) := by
  have hl : s.data.toList.length = s.size := by simp
  go_enter Tryd.func15, Tryd.ntmps15
  go_wp2_with fail
  refine (Cut_any s _ hs).mono ?_
  rintro e w' ⟨u, v, b, rfl, hc, hu, hv, hb⟩
  have HB := Lib.hid hb
  have HU := Lib.hid (And.intro hu hv)
  clear hb hu hv
  rcases hc with ⟨rfl, h1, h2⟩ | ⟨rfl, h1⟩
  · have HC := Lib.hid (Tryd.strings_Contains_one v 47 w')
    rcases ix_cases 47 v.data.toList with ⟨k1, k2⟩ | ⟨k, k1, k2, k3, k4⟩
    · have HP : Hid (SplP s.data.toList u.data.toList v.data.toList true) := Lib.hid (.inl ⟨rfl, h1, h2, k2⟩)
      rw [k1] at HC
      clear h1 h2 k1 k2
      go_wp2_with fail
      refine HC.out.mono ?_
      rintro e w' ⟨rfl, rfl⟩
      go_wp2
      go_ret3
      exact ⟨_, _, _, rfl, HP.out, by rw [hl]; exact HU.out.1, by rw [hl]; exact HU.out.2, HB.out⟩
    · have HP : Hid (SplP s.data.toList [] [] false) := Lib.hid (spl_two h1 h2 (by rw [k3]; simp))
      rw [k1] at HC
      clear h1 h2 k1 k2 k3 k4
      go_wp2_with fail
      refine HC.out.mono ?_
      rintro e w' ⟨rfl, rfl⟩
      go_wp2
      go_ret3
      exact ⟨_, _, _, rfl, HP.out, Nat.zero_le _, Nat.zero_le _, HB.out⟩
  · have HP := Lib.hid (spl_no h1)
    clear h1
    go_wp2_with fail
    go_ret3
    exact ⟨_, _, _, rfl, HP.out, Nat.zero_le _, Nat.zero_le _, HB.out⟩

/-- how far the reference has come: no slash, or one at a -/
def At (l : List UInt8) (k : Nat) (a : Int) : Prop := (a = -1 ∧ (47 : UInt8) ∉ l.take k) ∨ ∃ j : Nat, a = j ∧ j < k ∧ l[j]? = some 47 ∧ (47 : UInt8) ∉ l.take j ∧ (47 : UInt8) ∉ (l.take k).drop (j + 1)
theorem At.same {l : List UInt8} {k : Nat} {a : Int} {c : UInt8} (h : At l k a) (hc : l[k]? = some c) (hn : c ≠ 47) : At l (k + 1) a := by
  have ht : l.take (k + 1) = l.take k ++ [c] := by
    obtain ⟨hk, rfl⟩ := List.getElem?_eq_some_iff.1 hc
    exact List.take_succ_eq_append_getElem hk
  have hkl := (List.getElem?_eq_some_iff.1 hc).1
  rcases h with ⟨rfl, h⟩ | ⟨j, rfl, hj, h1, h2, h3⟩
  · refine .inl ⟨rfl, ?_⟩
    rw [ht, List.mem_append, List.mem_singleton]
    rintro (e | e)
    · exact h e
    · exact hn e.symm
  · refine .inr ⟨j, rfl, by omega, h1, h2, ?_⟩
    rw [ht, List.drop_append_of_le_length (by rw [List.length_take]; omega), List.mem_append, List.mem_singleton]
    rintro (e | e)
    · exact h3 e
    · exact hn e.symm
theorem At.first {l : List UInt8} {k : Nat} {a : Int} (h : At l k a) (hc : l[k]? = some 47) (ha : a < 0) : At l (k + 1) k := by
  rcases h with ⟨rfl, h⟩ | ⟨j, rfl, hj, _⟩
  · refine .inr ⟨k, rfl, by omega, hc, h, ?_⟩
    rw [List.drop_of_length_le (by rw [List.length_take]; omega)]
    exact List.not_mem_nil
  · omega
theorem split_at {l : List UInt8} {j : Nat} {c : UInt8} (hc : l[j]? = some c) : l = l.take j ++ c :: l.drop (j + 1) := by
  obtain ⟨hk, rfl⟩ := List.getElem?_eq_some_iff.1 hc
  rw [← List.drop_eq_getElem_cons hk, List.take_append_drop]
theorem At.two {l : List UInt8} {k : Nat} {a : Int} (h : At l k a) (hc : l[k]? = some 47) (ha : 0 ≤ a) : SplP l [] [] false := by
  rcases h with ⟨rfl, h⟩ | ⟨j, rfl, hj, h1, h2, h3⟩
  · omega
  · refine spl_two (split_at h1) h2 (List.mem_of_getElem? (i := k - (j + 1)) ?_)
    rw [List.getElem?_drop, show j + 1 + (k - (j + 1)) = k by omega]
    exact hc
theorem At.none {l : List UInt8} {k : Nat} {a : Int} (h : At l k a) (hk : l.length ≤ k) (ha : a < 0) : SplP l [] [] false := by
  rcases h with ⟨rfl, h⟩ | ⟨j, rfl, _⟩
  · rw [List.take_of_length_le hk] at h
    exact spl_no h
  · omega
theorem At.one {l : List UInt8} {k : Nat} {a : Int} (h : At l k a) (hk : l.length ≤ k) (ha : 0 ≤ a) : ∃ j : Nat, a = j ∧ j < l.length ∧ SplP l (l.take j) (l.drop (j + 1)) true := by
  rcases h with ⟨rfl, h⟩ | ⟨j, rfl, _, h1, h2, h3⟩
  · omega
  · rw [List.take_of_length_le hk] at h3
    exact ⟨j, rfl, (List.getElem?_eq_some_iff.1 h1).1, .inl ⟨rfl, split_at h1, h2, h3⟩⟩
theorem At.lo {l : List UInt8} {k : Nat} {a : Int} (h : At l k a) : -1 ≤ a ∧ a < k + 1 := by
  rcases h with ⟨rfl, h⟩ | ⟨j, rfl, hj, _⟩ <;> omega

set_option maxHeartbeats 2000000 in
theorem refSplit_any (s : ByteArray) (w : World) (hs : s.size ≤ 30000) : Calls Tryd.prog 16 #[.string s] w (SplR s.data.toList w) := by
  have hl : s.data.toList.length = s.size := by simp
  go_enter Tryd.func16, Tryd.ntmps16
  go_wp2_with fail
  go_loop [5, 6] (fun x i => ∃ k : Nat, k ≤ s.size ∧ i = .int .i64 k ∧ ∃ z : Int, x = .int .i64 z ∧ -1 ≤ z ∧ z ≤ k ∧ Hid (At s.data.toList k z)) (fun _ i => s.size - (intOf i).toNat)
  case atStart => exact ⟨0, Nat.zero_le _, rfl, -1, rfl, by omega, by omega, Lib.hid (.inl ⟨rfl, by simp⟩)⟩
  case round =>
    obtain ⟨k, hk, rfl, z, rfl, hz0, hz1, HA⟩ := hrel
    by_cases hlt : k < s.size
    · have hb := byte_at s hlt
      by_cases hc : s[k] = 47
      · have ht : ((s[k].toNat : Int) == 47) = true := by rw [hc]; rfl
        rw [hc] at hb
        by_cases hz : z < 0
        · have HN := Lib.hid (HA.out.first hb hz)
          clear HA hb hc
          go_wp2
          go_round
          case rel => exact ⟨k + 1, by omega, by go_num, k, rfl, by omega, by omega, HN⟩
          case measure => simp [intOf]; omega
        · have HN := Lib.hid (HA.out.two hb (by omega))
          clear HA hb hc
          go_wp2
          go_ret3
          exact ⟨_, _, _, rfl, HN.out, Nat.zero_le _, Nat.zero_le _, Below.refl _ _⟩
      · have ht : ((s[k].toNat : Int) == 47) = false := by
          rw [beq_eq_false_iff_ne]
          intro e
          exact hc (UInt8.toNat_inj.1 (by rw [show (47 : UInt8).toNat = 47 from rfl]; omega))
        have HN := Lib.hid (HA.out.same hb hc)
        clear HA hb hc
        go_wp2
        go_round
        case rel => exact ⟨k + 1, by omega, by go_num, z, rfl, hz0, by omega, HN⟩
        case measure => simp [intOf]; omega
    · by_cases hz : z < 0
      · have HN := Lib.hid (HA.out.none (by omega) hz)
        clear HA
        go_wp2
        go_ret3
        exact ⟨_, _, _, rfl, HN.out, Nat.zero_le _, Nat.zero_le _, Below.refl _ _⟩
      · obtain ⟨j, rfl, hj, hp⟩ := HA.out.one (by omega) (by omega)
        have HN : Hid (SplP s.data.toList (s.extract 0 j).data.toList (s.extract (j + 1) s.size).data.toList true) := Lib.hid (by rw [ext_to, ext_from]; exact hp)
        clear HA hp
        have c1 : (0 : Int) ≤ ↑j := by omega
        have c2 : (↑j : Int) ≤ ↑s.size := by omega
        have c3 : (0 : Int) ≤ ↑j + 1 := by omega
        have c4 : (↑j + 1 : Int) ≤ ↑s.size := by omega
        go_wp2_with fail
        go_region
        go_wp2
        go_ret3
        exact ⟨_, _, _, rfl, HN.out, by rw [hl]; exact ext_size _ _ _, by rw [hl]; exact ext_size _ _ _, (Below.refl _ _).drew⟩
end Go.Proofs.YtegiicbbmkjplaaDoor
