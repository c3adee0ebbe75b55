/-
  strings.IndexRune at a byte that is no ASCII, in a set of ASCII bytes.
-/
import Derived.Test.YtemdcgeopaphaaaDoorKa
namespace Go.Proofs.YtemdcgeopaphaaaDoor
open Go.RowKit

set_option maxHeartbeats 4000000 in
set_option maxRecDepth 1000000 in
/-- a set of ASCII bytes holds no other byte -/
theorem rune_high (s : ByteArray) (c : UInt8) (w : World) (hc : 128 ≤ c.toNat) (hs : ∀ x ∈ s.data.toList, x.toNat < 128) (hz : 1 ≤ s.size ∧ s.size ≤ 1000) :
    Calls Tryd.prog 47 #[.string s, .int .i32 (c.toNat : Int)] w fun e w' => e = .returned (.int .i64 (-1)) ∧ ∃ k, w' = w.drewN k := by
  have hlt := c.toNat_lt
  obtain ⟨hz1, hz2⟩ := hz
  obtain ⟨rs, hrs, henc, hr1⟩ := enc_two c hc
  have HENC := Lib.hid henc
  have HS := Lib.hid hs
  have HC : ∀ W : World, (convert 21 9 (.int .i32 (c.toNat : Int))).run Tryd.prog W = .ok (.string rs) W := fun W => by rw [run_convert_int_string W _ _ .i32 _ (by kernel_rfl) Tryd.underlying9, henc]
  clear henc hs
  go_enter Tryd.func47, Tryd.ntmps47
  go_wp2_with fail
  refine (valid_any _ _ (by omega) (by omega)).mono ?_
  rintro _ W ⟨rfl, rfl⟩
  have HC1 := HC W
  clear HC
  go_wp2_with fail
  go_step3
  by_cases hs1 : s.size = 1
  · go_wp2_with fail
    refine wp_loop_rounds 1 ?_
    rw [rounds_succ]
    go_wp2_with fail
    rw [Exit.noGoto_ret]
    go_ret
    exact ⟨rfl, 0, rfl⟩
  · have h1 : 1 < s.size := by omega
    have hm : s[1].toNat < 128 := HS.out _ (List.mem_of_getElem? (in_at h1))
    have t1 : ((s[1].toNat : Int) == (rs[1].toNat : Int)) = false := by rw [beq_eq_false_iff_ne]; omega
    have t1n : ((s[1].toNat : Int) != (rs[1].toNat : Int)) = true := by rw [bne_iff_ne]; omega
    go_wp2_with fail
    refine wp_loop_rounds 1 ?_
    rw [rounds_succ]
    go_wp2_with fail
    go_step3
    go_wp2_with fail
    go_region
    go_wp2_with fail
    have hw2 : IntKind.i64.wrap 2 = 2 := rfl
    have h2a : (2 : Int) ≤ (s.size : Int) := by omega
    have h2b : ¬ (s.size : Int) < 2 := by omega
    have h2c : 2 ≤ s.size := h1
    have h2d : ¬ s.size < 2 := by omega
    have HIX : ∀ V : World, Calls Tryd.prog 54 #[.string (s.extract 2 s.size), .int .u8 (rs[1].toNat : Int)] V fun e w' => e = .returned (.int .i64 (-1)) ∧ w' = V := fun V => by
      have := ix_any (s.extract 2 s.size) (rs[1].toNat : Int) V
      rw [ix_none (c := ((rs[1].toNat : Int)).toNat.toUInt8) (fun hm2 => by
        have h2 := HS.out ((rs[1].toNat : Int)).toNat.toUInt8 (by
          rw [ext_from] at hm2
          exact List.mem_of_mem_drop hm2)
        simp at h2
        omega)] at this
      exact this
    go_region_law (first
      | (go_simp; go_at_call 54; refine (HIX _).mono ?_; rintro _ _ ⟨rfl, rfl⟩))
    all_goals (
      go_wp2_with fail
      try rw [Exit.noGoto_ret]
      go_ret
      exact ⟨rfl, 2, rfl⟩)
end Go.Proofs.YtemdcgeopaphaaaDoor
