/-
  Contracts of Number, of package name and of the reference.
-/
import Derived.Test.YtegiicbbmkjplaaDoorNc
namespace Go.Proofs.YtegiicbbmkjplaaDoor
open Go.RowKit

set_option maxHeartbeats 1000000 in
theorem Number_any (s : ByteArray) (w : World) (hs : s.size ≤ 10000) (hw : NStd w) : Calls Tryd.prog 10 #[.string s] w (NumR s.data.toList w) := by
  have hl : s.data.toList.length = s.size := by simp
  have HT : Hid (∀ W, Calls Tryd.prog 22 #[.string s, .string ⟨#[114]⟩] W fun e w' => e = .returned (.string ⟨(Lib.trimPrefix s.data.toList [114]).toArray⟩) ∧ w' = W) := Lib.hid (fun W => Tryd.strings_TrimPrefix s ⟨#[114]⟩ W)
  have hz := trim_le s.data.toList
  have HB := Lib.hid (@num_bad s.data.toList)
  have HO := Lib.hid (fun (z : Int) => @num_other s.data.toList z)
  have HG := Lib.hid (fun (z : Int) => @num_good s.data.toList z)
  have HN : Hid (s.data.toList = [] → Lib.trimPrefix s.data.toList [114] = []) := Lib.hid (fun e => by rw [e]; rfl)
  have HW := Lib.hid hw
  clear hw
  obtain ⟨t, ht⟩ : ∃ t, t = Lib.trimPrefix s.data.toList [114] := ⟨_, rfl⟩
  rw [← ht] at HT HB HO HN hz
  have hts : (⟨t.toArray⟩ : ByteArray).size = t.length := by simp [ByteArray.size]
  have HA := Lib.hid (atoi_any (w := w) ⟨t.toArray⟩ (by rw [hts]; omega) HW.out)
  clear ht hts
  go_enter Tryd.func10, Tryd.ntmps10
  go_wp2_with fail
  refine (HT.out _).mono ?_
  rintro e w' ⟨rfl, rfl⟩
  go_wp2_with fail
  refine HA.out.mono ?_
  rintro e w1 ⟨hb, z, ev, hP, rfl⟩
  have B1 := Lib.hid hb
  clear hb
  rcases hP with ⟨hA, rfl⟩ | ⟨hA, T, N, rfl⟩
  · have HZ : Hid (Lib.atoiAll t = .ok z) := Lib.hid hA
    have zb := Lib.atoiAll_bounds hA
    clear hA
    go_wp2_with fail
    refine (Run_any z _ zb.1 zb.2 (HW.out.on B1.out)).mono ?_
    rintro e w2 ⟨rfl, hb⟩
    have B2 := Lib.hid (B1.out.trans (hb.mono B1.out.size))
    clear hb
    go_wp2_with fail
    · rename_i hne
      have hne' : runS z ≠ s.data.toList := by
        rw [ByteArray.toList_eq, Bool.not_eq_true', beq_eq_false_iff_ne] at hne
        exact hne
      go_ret2
      exact ⟨0, false, rfl, HO.out z HZ.out hne', by omega, by omega, B2.out⟩
    · rename_i hne
      have heq' : runS z = s.data.toList := by
        rw [ByteArray.toList_eq, Bool.not_eq_false', beq_iff_eq] at hne
        exact hne
      have hnil : s.data.toList ≠ [] := fun e => by
        have h1 := HZ.out
        rw [HN.out e] at h1
        cases h1
      go_ret2
      exact ⟨z, true, rfl, HG.out z zb.2 heq' hnil, zb.1, zb.2, B2.out⟩
  · have HZ : Hid (∀ x, Lib.atoiAll t ≠ .ok x) := Lib.hid hA
    clear hA
    go_wp2_with fail
    go_ret2
    exact ⟨0, false, rfl, HB.out HZ.out, by omega, by omega, B1.out⟩

theorem loose_next {s : ByteArray} {k : Nat} (h : k < s.size) (h1 : 1 ≤ k) : loose ((s.data.toList.take (k + 1)).drop 1) = 10 * loose ((s.data.toList.take k).drop 1) + (s[k].toNat : Int) - 48 := by
  have e : (s.data.toList.take (k + 1)).drop 1 = (s.data.toList.take k).drop 1 ++ [s[k]] := by
    rw [List.take_succ_eq_append_getElem (by simpa using h), List.drop_append_of_le_length (by rw [List.length_take]; simp; omega)]
    rfl
  rw [e, loose_snoc]
theorem wrap_next {x y z c : Int} (hx : x = IntKind.i64.wrap y) (hz : z = 10 * y + c - 48) : wrap64 (wrap64 (wrap64 (10 * x) + c) - 48) = IntKind.i64.wrap z := by
  subst hx hz
  unfold wrap64
  simp only [IntKind.wrap, IntKind.signed, IntKind.bits]
  simp
  omega

theorem num_loose {l : List UInt8} {k : Nat} {z : Int} (hz : z = IntKind.i64.wrap (loose ((l.take k).drop 1))) (he : l.length ≤ k ∨ 20 < l.length) : ∀ n, InR n → runS n = l → z = n := by
  intro n hn e
  have hlen := runS_len hn
  rw [e] at hlen
  rw [List.take_of_length_le (by omega), ← e, runS_loose hn] at hz
  obtain ⟨h1, h2⟩ := hn
  rw [hz]
  simp only [IntKind.wrap, IntKind.signed, IntKind.bits]
  simp
  omega
theorem wrap_low (x : Int) : -9223372036854775808 ≤ wrap64 x ∧ wrap64 x ≤ 9223372036854775807 := by
  unfold wrap64
  omega
set_option maxHeartbeats 1000000 in
theorem refNumber_any (s : ByteArray) (w : World) (hs : s.size ≤ 10000) : Calls Tryd.prog 11 #[.string s] w (NumR s.data.toList w) := by
  have hl : s.data.toList.length = s.size := by simp
  go_enter Tryd.func11, Tryd.ntmps11
  go_wp2_with fail
  go_loop [4, 5] (fun x i => ∃ k : Nat, (k ≤ s.size ∨ k = 1) ∧ 1 ≤ k ∧ i = .int .i64 k ∧ ∃ z : Int, x = .int .i64 z ∧ -9223372036854775808 ≤ z ∧ z ≤ 9223372036854775807 ∧ Hid (z = IntKind.i64.wrap (loose ((s.data.toList.take k).drop 1)))) (fun _ i => s.size - (intOf i).toNat)
  case atStart => exact ⟨1, .inr rfl, Nat.le_refl _, rfl, 0, rfl, by omega, by omega, Lib.hid (by
    have : (s.data.toList.take 1).drop 1 = [] := by cases s.data.toList <;> simp
    rw [this]; decide)⟩
  case round =>
    obtain ⟨k, hk, hk1, rfl, z, rfl, hz0, hz1, HZ⟩ := hrel
    by_cases hlt : k < s.size ∧ s.size ≤ 20
    · obtain ⟨hlt, h20⟩ := hlt
      have hb : s[k].toNat < 256 := s[k].toNat_lt
      have HN := Lib.hid (wrap_next HZ.out (loose_next hlt hk1))
      have HL := Lib.hid (wrap_low (wrap64 (wrap64 (10 * z) + (s[k].toNat : Int)) - 48))
      clear HZ
      go_wp2
      go_round
      case rel => exact ⟨k + 1, by omega, by omega, by go_num, _, rfl, HL.out.1, HL.out.2, HN⟩
      case measure => simp [intOf]; omega
    · have HE := Lib.hid (num_loose HZ.out (by omega))
      clear HZ
      by_cases h1 : z < 1
      · have HP : Hid (NumP s.data.toList 0 false) := Lib.hid (.inr ⟨rfl, rfl, fun n hn e => by have := HE.out n hn e; have := hn.1; omega⟩)
        clear HE
        rcases Nat.lt_or_ge k s.size with h2 | h2
        · have h3 : ¬ s.size ≤ 20 := fun h => hlt ⟨h2, h⟩
          clear hlt
          go_wp2_with fail
          go_ret2
          exact ⟨0, false, rfl, HP.out, by omega, by omega, Below.refl _ _⟩
        · clear hlt
          go_wp2_with fail
          go_ret2
          exact ⟨0, false, rfl, HP.out, by omega, by omega, Below.refl _ _⟩
      · have HR := Lib.hid (refRun_any z w hz0 hz1)
        have HP : Hid (runS z ≠ s.data.toList → NumP s.data.toList 0 false) := Lib.hid (fun hne => .inr ⟨rfl, rfl, fun n hn e => hne (by rw [HE.out n hn e]; exact e)⟩)
        have HQ : Hid (runS z = s.data.toList → NumP s.data.toList z true) := Lib.hid (fun e => .inl ⟨rfl, ⟨by omega, hz1⟩, e⟩)
        clear HE
        have h2 : ¬ k < s.size ∨ ¬ s.size ≤ 20 := by omega
        clear hlt
        rcases h2 with h2 | h2
        all_goals (
          go_wp2_with fail
          all_goals (
            refine HR.out.mono ?_
            rintro e w' ⟨rfl, hb⟩
            have HB := Lib.hid hb
            clear hb
            go_wp2_with fail
            · rename_i hne
              have hne' : runS z ≠ s.data.toList := by
                rw [ByteArray.toList_eq, Bool.not_eq_true', beq_eq_false_iff_ne] at hne
                exact hne
              go_ret2
              exact ⟨0, false, rfl, HP.out hne', by omega, by omega, HB.out⟩
            · rename_i hne
              have heq' : runS z = s.data.toList := by
                rw [ByteArray.toList_eq, Bool.not_eq_false', beq_iff_eq] at hne
                exact hne
              go_ret2
              exact ⟨z, true, rfl, HQ.out heq', hz0, hz1, HB.out⟩))
end Go.Proofs.YtegiicbbmkjplaaDoor
