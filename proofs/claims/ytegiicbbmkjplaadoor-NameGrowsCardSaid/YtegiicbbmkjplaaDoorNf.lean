/-
  The chapter's examples, which every statement of names checks.
-/
import Derived.Test.YtegiicbbmkjplaaDoorNe
namespace Go.Proofs.YtegiicbbmkjplaaDoor
open Go.RowKit

theorem ex_a1 : nameB [95, 97, 49] = true := by decide +kernel
theorem ex_1a : nameB [49, 97] = false := by decide +kernel
theorem ex_3 : runS 3 = [114, 51] := by
  rw [runS_1 (by decide), itoa_pos' (by decide), dec_small (by decide)]
  rfl
theorem ex_12 : runS 12 = [114, 49, 50] := by
  rw [runS_1 (by decide), itoa_pos' (by decide), dec_big (by decide), dec_small (by decide)]
  rfl
theorem num_12 : NumP [114, 49, 50] 12 true := .inl ⟨rfl, ⟨by decide, by decide⟩, ex_12⟩
theorem spl_1 : SplP [111, 114, 100, 101, 114, 45, 55, 47, 114, 50] [111, 114, 100, 101, 114, 45, 55] [114, 50] true := .inl ⟨rfl, rfl, by decide, by decide⟩
theorem spl_2 : SplP [97, 47, 98, 47, 99] [] [] false := spl_two (u := [97]) (v := [98, 47, 99]) rfl (by decide) (by decide)
theorem str_of {a : ByteArray} {l : List UInt8} (h : a.data.toList = l) : a = ⟨l.toArray⟩ := by
  subst h
  apply ByteArray.ext
  simp

theorem run_3 {w : World} (h : NStd w) : Calls Tryd.prog 12 #[.int .i64 3] w fun e w' => e = .returned (.string ⟨#[114, 51]⟩) ∧ Below w.heap.size w w' := by
  have := Run_any 3 w (by decide) (by decide) h
  rw [ex_3] at this
  exact this
theorem run_0 {w : World} (h : NStd w) : Calls Tryd.prog 12 #[.int .i64 0] w fun e w' => e = .returned (.string ⟨#[]⟩) ∧ Below w.heap.size w w' := by
  have := Run_any 0 w (by decide) (by decide) h
  rw [runS_0 (by decide)] at this
  exact this
theorem key_1 (w : World) : Calls Tryd.prog 14 #[.string ⟨#[97]⟩, .string ⟨#[114, 49]⟩] w fun e w' => e = .returned (.string ⟨#[97, 47, 114, 49]⟩) ∧ w = w' := by
  have := Key_any ⟨#[97]⟩ ⟨#[114, 49]⟩ w (by decide) (by decide)
  rw [show (⟨#[97]⟩ ++ ⟨#[47]⟩ ++ ⟨#[114, 49]⟩ : ByteArray) = ⟨#[97, 47, 114, 49]⟩ from rfl] at this
  exact this
/-- the last of every statement: true, and what lay there stays -/
def Good (w0 : World) (e : Ending) (w' : World) : Prop := e = .returned (.bool true) ∧ Below w0.heap.size w0 w'

set_option maxHeartbeats 4000000 in
theorem lives_any (w w0 : World) (h : NStd w) (h0 : Below w0.heap.size w0 w) : Calls Tryd.prog 9 #[] w (Good w0) := by
  have R1 := Lib.hid (fun W => Right_any ⟨#[95, 97, 49]⟩ W (by decide))
  have R2 := Lib.hid (fun W => Right_any ⟨#[49, 97]⟩ W (by decide))
  have R3 := Lib.hid (fun W => Right_any ⟨#[]⟩ W (by decide))
  have e1 := ex_a1
  have e2 := ex_1a
  rw [show (⟨#[95, 97, 49]⟩ : ByteArray).data.toList = [95, 97, 49] from rfl, ex_a1] at R1
  rw [show (⟨#[49, 97]⟩ : ByteArray).data.toList = [49, 97] from rfl, ex_1a] at R2
  rw [show (⟨#[]⟩ : ByteArray).data.toList = [] from rfl, nameB_nil] at R3
  clear e1 e2
  have S0 := Lib.hid h
  have B0 := Lib.hid h0
  clear h h0
  go_enter Tryd.func9, Tryd.ntmps9
  go_wp2_with fail
  refine (Number_any ⟨#[114, 49, 50]⟩ _ (by decide) S0.out).mono ?_
  rintro e w1 ⟨v, b, rfl, hn, _, _, hb⟩
  obtain ⟨rfl, rfl⟩ := NumP.one hn num_12
  have S1 := Lib.hid (S0.out.on hb)
  have B1 := Lib.hid (B0.out.trans (hb.mono B0.out.size))
  clear hb hn S0 B0
  go_wp2_with fail
  refine (Split_any ⟨#[111, 114, 100, 101, 114, 45, 55, 47, 114, 50]⟩ _ (by decide)).mono ?_
  rintro e w2 ⟨u, v, b, rfl, hn, _, _, hb⟩
  obtain ⟨eu, ev, rfl⟩ := SplP.one hn spl_1
  obtain rfl := str_of eu
  obtain rfl := str_of ev
  have S2 := Lib.hid (S1.out.on hb)
  have B2 := Lib.hid (B1.out.trans (hb.mono B1.out.size))
  clear hb hn S1 B1 eu ev
  go_wp2_with fail
  refine (Split_any ⟨#[97, 47, 98, 47, 99]⟩ _ (by decide)).mono ?_
  rintro e w3 ⟨u, v, b, rfl, hn, _, _, hb⟩
  obtain ⟨eu, ev, rfl⟩ := SplP.one hn spl_2
  have S3 := Lib.hid (S2.out.on hb)
  have B3 := Lib.hid (B2.out.trans (hb.mono B2.out.size))
  clear hb hn S2 B2 eu ev
  go_wp2_with fail
  refine (R1.out _).mono ?_
  rintro e w' ⟨rfl, rfl⟩
  go_wp2_with fail
  refine (R2.out _).mono ?_
  rintro e w' ⟨rfl, rfl⟩
  go_wp2_with fail
  refine (R3.out _).mono ?_
  rintro e w' ⟨rfl, rfl⟩
  go_wp2_with fail
  refine (run_3 S3.out).mono ?_
  rintro e w4 ⟨rfl, hb⟩
  have S4 := Lib.hid (S3.out.on hb)
  have B4 := Lib.hid (B3.out.trans (hb.mono B3.out.size))
  clear hb S3 B3
  go_wp2_with fail
  refine (run_0 S4.out).mono ?_
  rintro e w5 ⟨rfl, hb⟩
  have B5 := Lib.hid (B4.out.trans (hb.mono B4.out.size))
  clear hb S4 B4
  go_wp2_with fail
  refine (key_1 _).mono ?_
  rintro e w' ⟨rfl, rfl⟩
  go_wp2_with fail
  go_ret
  exact ⟨rfl, B5.out⟩
end Go.Proofs.YtegiicbbmkjplaaDoor
