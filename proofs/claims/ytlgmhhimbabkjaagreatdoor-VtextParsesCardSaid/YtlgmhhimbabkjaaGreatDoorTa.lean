/-
  The parser's small methods (package vtext): require, peek, take, blanks, atDigit, hex.
-/
import Derived.Test.YtlgmhhimbabkjaaGreatDoorTf
import Derived.StillTailTactics
import Derived.Deep.RegionLaw
namespace Go.Proofs.YtlgmhhimbabkjaaGreatDoor
open Go.RowKit

/-- a call inside a region that draws its order, when it panics: go_region_law's arm must leave one goal: it is left under a premise that is false -/
theorem dies_law {P : Program} {f : FuncId} {args : Array Value} {w : World} {R X : Ending → World → Prop} (v0 : Value) (w0 : World) (hc : Calls P f args w R) (h : ∀ e w', R e w' → X e w') (_ : Hid False → X (.returned v0) w0) : Calls P f args w X :=
  hc.mono fun e w' hr => h e w' hr
/-- likewise when it returns or panics -/
theorem two_law {P : Program} {f : FuncId} {args : Array Value} {w : World} {A B X : Ending → World → Prop} (hc : Calls P f args w fun e w' => A e w' ∨ B e w') (hB : ∀ e w', B e w' → X e w') (hA : ∀ e w', A e w' → X e w') : Calls P f args w X :=
  hc.mono fun e w' hr => hr.elim (hA e w') (hB e w')
/-- the parser p: the text, the offset, how many values have begun -/
def Ps (w : World) (p : Nat) (s : ByteArray) (i n : Nat) : Prop := Bk w p 48 #[.string s, .int .i64 (i : Nat), .int .i64 (n : Nat)] ∧ i ≤ s.size ∧ s.size ≤ 1000000 ∧ n ≤ 1000
/-- one block -/
def One (p : Nat) : Nat → Prop := fun b => b = p
/-- the panic of a fault -/
def fault (i : Nat) (e : Int) : Ending := .panicked [{ v := .iface 44 (.agg #[.int .i64 (i : Nat), .int .i64 e]), recovered := false }]
/-- the byte of a string that the code reads -/
theorem str_at {s : ByteArray} {i : Nat} {c : UInt8} (h : s.data.toList[i]? = some c) : ∃ hi : i < s.size, s[i] = c := by
  obtain ⟨hi, rfl⟩ := List.getElem?_eq_some_iff.1 h
  have hi2 : i < s.data.size := by simpa using hi
  exact ⟨hi2, by simp [ByteArray.getElem_eq_getElem_data]⟩

set_option maxHeartbeats 400000 in
theorem require_yes (P : Value) (i : Int) (e : Int) (w : World) : Calls Tryz.prog 26 #[P, .bool true, .int .i64 i, .int .i64 e] w (Says (.tuple #[]) w) := by
  go_enter Tryz.func26, Tryz.ntmps26
  go_wp2
  refine bodyPost_end (results_none rfl _ _ _) rfl ?_
  exact ⟨rfl, rfl⟩
set_option maxHeartbeats 400000 in
theorem require_no (P : Value) (i : Nat) (e : Int) (w : World) : Calls Tryz.prog 26 #[P, .bool false, .int .i64 (i : Nat), .int .i64 e] w fun x w' => x = fault i e ∧ w = w' := by
  go_enter Tryz.func26, Tryz.ntmps26
  go_wp2
  exact ⟨rfl, rfl, rfl⟩

theorem require_any (P : Value) (b : Bool) (i : Nat) (e : Int) (w : World) : Calls Tryz.prog 26 #[P, .bool b, .int .i64 (i : Nat), .int .i64 e] w fun x w' => (b = true ∧ x = .returned (.tuple #[]) ∧ w = w') ∨ (b = false ∧ x = fault i e ∧ w = w') := by
  cases b with
  | true => exact (require_yes P i e w).mono fun _ _ h => .inl ⟨rfl, h.1, h.2⟩
  | false => exact (require_no P i e w).mono fun _ _ h => .inr ⟨rfl, h.1, h.2⟩
/-- a world in which only draws have been made -/
def Dr (w w' : World) : Prop := ∃ k, w' = w.drewN k
theorem Dr.refl (w : World) : Dr w w := ⟨0, (World.drewN_zero w).symm⟩
theorem Dr.drew (w : World) : Dr w w.drew := ⟨1, rfl⟩
theorem Dr.next (w : World) (k : Nat) : Dr w (w.drewN k) := ⟨k, rfl⟩
theorem Dr.trans {a b c : World} (h : Dr a b) (k : Dr b c) : Dr a c := by
  obtain ⟨n, rfl⟩ := h
  obtain ⟨m, rfl⟩ := k
  exact ⟨n + m, World.drewN_drewN _ _ _⟩
theorem Dr.frs {S : Nat → Prop} {w w' : World} (h : Dr w w') : FrS S w w' := by
  obtain ⟨k, rfl⟩ := h
  exact ⟨rfl, rfl, rfl, Nat.le_refl _, fun _ _ _ => rfl⟩
theorem Dr.bk {w w' : World} {g : Nat} {t : TypeId} {cs : Array Value} (h : Dr w w') (k : Bk w g t cs) : Bk w' g t cs := by
  obtain ⟨n, rfl⟩ := h
  exact k

theorem Dr.cell {w w' : World} {g : Nat} (h : Dr w w') (i : Nat) : w'.cell? ⟨g, i, none⟩ = w.cell? ⟨g, i, none⟩ := by
  obtain ⟨n, rfl⟩ := h
  rfl

section
variable {w : World} {p : Nat} {s : ByteArray} {i n : Nat}

set_option maxRecDepth 100000 in
set_option maxHeartbeats 1000000 in
theorem peek_any (h : Ps w p s i n) :
    Calls Tryz.prog 68 #[.pointer (some ⟨p, 0, none⟩)] w fun e w' => (∃ c, s.data.toList[i]? = some c ∧ e = .returned (.int .u8 (c.toNat : Int)) ∧ Dr w w') ∨ (s.size ≤ i ∧ e = fault i 4 ∧ Dr w w') := by
  have c0 := h.1.cell 0
  have c1 := h.1.cell 1
  clear h
  go_enter Tryz.func68, Tryz.ntmps68
  go_wp2_with fail
  go_still_tail 15, (by kernel_rfl)
  change wpList _ _ _ _ _ w.drew
  go_wp2_with fail
  refine (require_any _ _ i 4 _).mono ?_
  rintro _ _ (⟨hb, rfl, rfl⟩ | ⟨hb, rfl, rfl⟩)
  · rw [decide_eq_true_eq] at hb
    have hd : s.data.toList[i]? = some s[i] := by
      rw [List.getElem?_eq_getElem (by simpa using hb)]
      simp [ByteArray.getElem_eq_getElem_data]
    go_wp2_with fail
    go_quiet (fail)
    go_wp2
    go_ret
    exact .inl ⟨_, hd, rfl, (Dr.drew w).trans ⟨_, rfl⟩⟩
  · exact ⟨rfl, .inr ⟨by simpa using hb, rfl, Dr.drew w⟩⟩

theorem list_len (s : ByteArray) : s.data.toList.length = s.size := by simp
theorem Ps.ends (_ : Ps w p s i n) (hi : s.size ≤ i) : s.data.toList.length ≤ i := by rw [list_len]; exact hi
theorem Ps.bk {w' : World} (h : Ps w p s i n) (hb : Bk w' p 48 #[.string s, .int .i64 (i : Nat), .int .i64 (n : Nat)]) : Ps w' p s i n := ⟨hb, h.2⟩
theorem Ps.dr {w' : World} (h : Ps w p s i n) (hd : Dr w w') : Ps w' p s i n := ⟨hd.bk h.1, h.2⟩
theorem Ps.frs {w' : World} {S : Nat → Prop} (h : Ps w p s i n) (hd : FrS S w w') (hp : ¬ S p) : Ps w' p s i n := ⟨hd.bk h.1 hp, h.2⟩
theorem at_lt {c : UInt8} (h : s.data.toList[i]? = some c) : i < s.size := by
  have := (List.getElem?_eq_some_iff.1 h).1
  rwa [list_len] at this
/-- the offset moves -/
theorem Ps.to (h : Ps w p s i n) (j : Nat) (hj : j ≤ s.size) : Ps (w.setCell ⟨p, 1, none⟩ (.int .i64 (j : Nat))) p s j n := by
  refine ⟨?_, hj, h.2.2⟩
  have := h.1.put 1 (.int .i64 (j : Nat))
  simpa using this
theorem FrS.one (w : World) (p i : Nat) (u : Value) : FrS (One p) w (w.setCell ⟨p, i, none⟩ u) :=
  ⟨rfl, rfl, rfl, by simp, fun b _ hn => Below.heap_setCell w _ u b (fun e => hn e)⟩
/-- what a reader of the parser hands back: its result r, as the value V says; or the fault -/
def Reads {α : Type} (r : PR α) (V : α → Value) (p : Nat) (s : ByteArray) (n : Nat) (w : World) (e : Ending) (w' : World) : Prop :=
  (∃ a j, Hid (r = .ok a j) ∧ e = .returned (V a) ∧ Hid (Ps w' p s j n) ∧ Hid (FrS (One p) w w')) ∨ ∃ j c, Hid (r = .err j c) ∧ e = fault j c ∧ Hid (FrS (One p) w w')
def byteV (c : UInt8) : Value := .int .u8 (c.toNat : Int)
def unitV (_ : Unit) : Value := .tuple #[]

set_option maxRecDepth 100000 in
set_option maxHeartbeats 1000000 in
theorem take_any {S : ByteArray} {P : UInt8 → Bool} (h : Ps w p s i n) (hS : IsSet S P) :
    Calls Tryz.prog 42 #[.pointer (some ⟨p, 0, none⟩), .string S] w (Reads (tkP P s.data.toList i) byteV p s n w) := by
  have HP := Lib.hid h
  have HS := Lib.hid hS
  clear h hS
  go_enter Tryz.func42, Tryz.ntmps42
  go_wp2_with fail
  refine (peek_any HP.out).mono ?_
  rintro _ w1 (⟨c, hc, rfl, hd⟩ | ⟨hi, rfl, hd⟩)
  · have HC := Lib.hid hc
    have HL := at_lt hc
    have HP1 := Lib.hid (HP.out.dr hd)
    have H2 := Lib.hid HP.out.2
    have HD := Lib.hid hd
    have HX := Lib.hid (fun (W : World) => ix_any S c W)
    have HSC := Lib.hid (HS.out c)
    generalize Lib.indexByte S.data.toList c = r at *
    have c1 := HP1.out.1.cell 1
    have hbig : i < 1000000 := by have := H2.out.2.1; omega
    clear hc hd
    go_wp2_with fail
    go_still_tail 9, (by kernel_rfl)
    still_call (HX.out _)
    repeat still_step
    refine wpStill_nil ?_
    change wpList _ _ _ _ _ w1.drew
    go_wp2_with fail
    refine (require_any _ _ i 3 _).mono ?_
    rintro _ _ (⟨hb, rfl, rfl⟩ | ⟨hb, rfl, rfl⟩)
    · have HK := Lib.hid (tkP_ok (p := P) HC.out (by rw [HSC.out]; exact hb))
      have HP2 := Lib.hid (HP1.out.dr (Dr.drew w1))
      have HD2 := Lib.hid (HD.out.trans (Dr.drew w1))
      clear c1
      generalize w1.drew = w2 at *
      have c1 := HP2.out.1.cell 1
      have fz := HP2.out.1.frozen 1
      have HP3 := Lib.hid (HP2.out.to (i + 1) HL)
      have HF := Lib.hid (HD2.out.frs.trans (FrS.one w2 p 1 (.int .i64 ((i + 1 : Nat) : Int))))
      clear hb
      go_wp2
      go_ret
      exact .inl ⟨c, i + 1, HK, rfl, HP3, HF⟩
    · have HK := Lib.hid (tkP_no (p := P) HC.out (by rw [HSC.out]; exact hb))
      exact ⟨rfl, .inr ⟨_, _, HK, rfl, Lib.hid (HD.out.trans (Dr.drew _)).frs⟩⟩
  · exact ⟨rfl, .inr ⟨i, 4, Lib.hid (tkP_none (HP.out.ends hi)), rfl, Lib.hid hd.frs⟩⟩
end
end Go.Proofs.YtlgmhhimbabkjaaGreatDoor
