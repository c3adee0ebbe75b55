/-
  The reference's parser: its state, and its methods fail, peek, blank.
-/
import Derived.Test.YtlgmhhimbabkjaaGreatDoorTb
namespace Go.Proofs.YtlgmhhimbabkjaaGreatDoor
open Go.RowKit

/-- the parser's block, whole -/
def Sb (w : World) (p : Nat) (s : ByteArray) (i n a e : Int) : Prop := Bk w p 53 #[.string s, .int .i64 i, .int .i64 n, .int .i64 a, .int .i64 e]
/-- no error so far -/
def Rn (w : World) (p : Nat) (s : ByteArray) (i n : Nat) : Prop := Sb w p s i n 0 0 ∧ i ≤ s.size ∧ s.size ≤ 1000000 ∧ n ≤ 1000
/-- an error, where and which -/
def Bad (w : World) (p : Nat) (s : ByteArray) (j : Nat) (c : Int) : Prop := ∃ i n : Int, Sb w p s i n j c ∧ c ≠ 0 ∧ -9223372036854775808 ≤ i ∧ i ≤ 9223372036854775807

section
variable {w : World} {p : Nat} {s : ByteArray} {i n : Nat}
theorem Rn.bk {w' : World} (h : Rn w p s i n) (hb : Sb w' p s i n 0 0) : Rn w' p s i n := ⟨hb, h.2⟩
theorem Rn.dr {w' : World} (h : Rn w p s i n) (hd : Dr w w') : Rn w' p s i n := ⟨hd.bk h.1, h.2⟩
theorem Rn.frs {w' : World} {S : Nat → Prop} (h : Rn w p s i n) (hd : FrS S w w') (hp : ¬ S p) : Rn w' p s i n := ⟨hd.bk h.1 hp, h.2⟩
theorem Bad.dr {w' : World} {j : Nat} {c : Int} (h : Bad w p s j c) (hd : Dr w w') : Bad w' p s j c := by
  obtain ⟨i, n, h1, h2⟩ := h
  exact ⟨i, n, hd.bk h1, h2⟩
theorem Bad.frs {w' : World} {S : Nat → Prop} {j : Nat} {c : Int} (h : Bad w p s j c) (hd : FrS S w w') (hp : ¬ S p) : Bad w' p s j c := by
  obtain ⟨i, n, h1, h2⟩ := h
  exact ⟨i, n, hd.bk h1 hp, h2⟩
theorem Rn.to (h : Rn w p s i n) (j : Nat) (hj : j ≤ s.size) : Rn (w.setCell ⟨p, 1, none⟩ (.int .i64 (j : Nat))) p s j n := by
  refine ⟨?_, hj, h.2.2⟩
  have := h.1.put 1 (.int .i64 (j : Nat))
  simpa [Sb] using this
theorem Rn.ends (_ : Rn w p s i n) (hi : s.size ≤ i) : s.data.toList.length ≤ i := by rw [list_len]; exact hi

set_option maxRecDepth 100000 in
set_option maxHeartbeats 1000000 in
theorem fail_run {i n : Int} (h : Sb w p s i n 0 0) (j c : Int) :
    Calls Tryz.prog 29 #[.pointer (some ⟨p, 0, none⟩), .int .i64 j, .int .i64 c] w fun e w' => e = .returned (.tuple #[]) ∧ Sb w' p s i n j c ∧ FrS (One p) w w' := by
  have c3 := h.cell 3
  have c4 := h.cell 4
  have f3 := h.frozen 3
  have f4 := h.frozen 4
  have H : Hid (Sb ((w.setCell ⟨p, 4, none⟩ (.int .i64 c)).setCell ⟨p, 3, none⟩ (.int .i64 j)) p s i n j c) := Lib.hid (by have := (h.put 4 (.int .i64 c)).put 3 (.int .i64 j); simpa [Sb] using this)
  have F : Hid (FrS (One p) w ((w.setCell ⟨p, 4, none⟩ (.int .i64 c)).setCell ⟨p, 3, none⟩ (.int .i64 j))) := Lib.hid ((FrS.one w p 4 (.int .i64 c)).trans (FrS.one _ p 3 (.int .i64 j)))
  clear h
  go_enter Tryz.func29, Tryz.ntmps29
  go_wp2
  refine bodyPost_end (results_none rfl _ _ _) rfl ?_
  exact ⟨rfl, H.out, F.out⟩
set_option maxRecDepth 100000 in
set_option maxHeartbeats 1000000 in
theorem fail_bad {i n a e : Int} (h : Sb w p s i n a e) (he : e ≠ 0) (j c : Int) :
    Calls Tryz.prog 29 #[.pointer (some ⟨p, 0, none⟩), .int .i64 j, .int .i64 c] w (Says (.tuple #[]) w) := by
  have c4 := h.cell 4
  have he' : (e == 0) = false := beq_eq_false_iff_ne.2 he
  clear h
  go_enter Tryz.func29, Tryz.ntmps29
  go_wp2
  refine bodyPost_end (results_none rfl _ _ _) rfl ?_
  exact ⟨rfl, rfl⟩

set_option maxRecDepth 100000 in
set_option maxHeartbeats 1000000 in
theorem rpeek_run (h : Rn w p s i n) :
    Calls Tryz.prog 51 #[.pointer (some ⟨p, 0, none⟩)] w fun e w' => (∃ c, s.data.toList[i]? = some c ∧ e = .returned (.int .u8 (c.toNat : Int)) ∧ Dr w w') ∨ (s.data.toList.length ≤ i ∧ e = .returned (.int .u8 0) ∧ Bad w' p s i 4 ∧ FrS (One p) w w') := by
  have HP := Lib.hid h
  have hi := h.2.1
  have h1 := h.2.2.1
  have c0 := h.1.cell 0
  have c1 := h.1.cell 1
  have c4 := h.1.cell 4
  clear h
  by_cases hlt : i < s.size
  · have ht : decide ((s.size : Int) ≤ (i : Int)) = false := by rw [decide_eq_false_iff_not]; omega
    have HA := Lib.hid (in_at hlt)
    go_enter Tryz.func51, Tryz.ntmps51
    go_wp2_with fail
    go_quiet (fail)
    have e0 : (w.drewN nq).cell? ⟨p, 0, none⟩ = w.cell? ⟨p, 0, none⟩ := rfl
    have e1 : (w.drewN nq).cell? ⟨p, 1, none⟩ = w.cell? ⟨p, 1, none⟩ := rfl
    have e4 : (w.drewN nq).cell? ⟨p, 4, none⟩ = w.cell? ⟨p, 4, none⟩ := rfl
    rw [← e0] at c0
    rw [← e1] at c1
    rw [← e4] at c4
    have HD := Lib.hid (Dr.next w nq)
    clear e0 e1 e4
    generalize w.drewN nq = w1 at *
    go_wp2_with fail
    go_quiet (fail)
    go_wp2
    go_ret
    exact .inl ⟨_, HA.out, rfl, HD.out.trans (Dr.next _ _)⟩
  · have ht : decide ((s.size : Int) ≤ (i : Int)) = true := by rw [decide_eq_true_eq]; omega
    go_enter Tryz.func51, Tryz.ntmps51
    obtain rfl : i = s.size := by omega
    go_wp2_with fail
    go_quiet (fail)
    have e0 : (w.drewN nq).cell? ⟨p, 0, none⟩ = w.cell? ⟨p, 0, none⟩ := rfl
    rw [← e0] at c0
    have HD := Lib.hid (Dr.next w nq)
    have H1 := Lib.hid (HP.out.dr HD.out)
    clear e0 c1 c4
    generalize w.drewN nq = w1 at *
    go_wp2_with fail
    refine (fail_run H1.out.1 _ 4).mono ?_
    rintro _ w2 ⟨rfl, hb, hf⟩
    have c4 := hb.cell 4
    have HB := Lib.hid hb
    have HF := Lib.hid (HD.out.frs.trans hf)
    clear hb hf c0
    go_wp2
    go_ret
    exact .inr ⟨by rw [list_len]; exact Nat.le_refl _, rfl, ⟨_, _, HB.out, by decide, by omega, by omega⟩, HF.out⟩

set_option maxRecDepth 100000 in
set_option maxHeartbeats 1000000 in
theorem rpeek_bad {j : Nat} {c : Int} (h : Bad w p s j c) :
    Calls Tryz.prog 51 #[.pointer (some ⟨p, 0, none⟩)] w fun e w' => e = .returned (.int .u8 0) ∧ Dr w w' := by
  obtain ⟨i, n, h, hc, hi0, hi1⟩ := h
  have H := Lib.hid h
  have c0 := h.cell 0
  have c1 := h.cell 1
  have c4 := h.cell 4
  have hc' : (c == 0) = false := beq_eq_false_iff_ne.2 hc
  clear h
  go_enter Tryz.func51, Tryz.ntmps51
  go_wp2_with fail
  go_quiet (fail)
  have e0 : (w.drewN nq).cell? ⟨p, 0, none⟩ = w.cell? ⟨p, 0, none⟩ := rfl
  have e4 : (w.drewN nq).cell? ⟨p, 4, none⟩ = w.cell? ⟨p, 4, none⟩ := rfl
  rw [← e0] at c0
  rw [← e4] at c4
  have HD := Lib.hid (Dr.next w nq)
  have H1 := Lib.hid (HD.out.bk H.out)
  clear e0 e4 c1
  generalize w.drewN nq = w1 at *
  go_wp2_with fail
  · refine (fail_bad H1.out hc _ 4).mono ?_
    rintro _ _ ⟨rfl, rfl⟩
    go_wp2
    go_ret
    exact ⟨rfl, HD.out⟩
  · go_ret
    exact ⟨rfl, HD.out⟩

end
end Go.Proofs.YtlgmhhimbabkjaaGreatDoor
