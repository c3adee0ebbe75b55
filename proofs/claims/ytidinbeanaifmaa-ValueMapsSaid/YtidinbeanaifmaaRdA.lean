/-
  Contracts of the small methods of both readers: Err, Left, Fail, End (package wire); stopped, set, Err, Left, Fail, End (the reference).
-/
import Derived.Test.YtidinbeanaifmaaPutD
namespace Go.Proofs.Ytidinbeanaifmaa
open Go.RowKit

/-- a slice of bytes within a block of the program's own -/
def Ow (w : World) (A : Option Addr) (n : Nat) (l : List UInt8) : Prop :=
  l.length = n ∧ (l ≠ [] → ∃ (g o : Nat) (cs : Array Value), A = some ⟨g, o, none⟩ ∧ Bk w g 5 cs ∧ ∀ (j : Nat) (c : UInt8), l[j]? = some c → cs[o + j]? = some (b8 c))

section
variable {w w' : World} {A : Option Addr} {n p : Nat} {l : List UInt8} {t : TypeId} {cs : Array Value}
theorem Ow.rb (h : Ow w A n l) : Rb w w.heap.size A n l :=
  ⟨h.1, fun hn => by
    obtain ⟨g, o, cs, rfl, hb, hc⟩ := h.2 hn
    exact ⟨g, o, rfl, hb.lt, fun j c hj => (hb.cell _).trans (hc j c hj)⟩⟩
theorem Ow.below (h : Ow w A n l) (hb : Below w.heap.size w w') : Ow w' A n l :=
  ⟨h.1, fun hn => by
    obtain ⟨g, o, cs, e, hk, hc⟩ := h.2 hn
    exact ⟨g, o, cs, e, hk.below hb hk.lt, hc⟩⟩
theorem Ow.grown (h : Ow w A n l) (hp : Bk w p t cs) (ht : t ≠ 5) (hg : w.grownBy w' (some p)) : Ow w' A n l :=
  ⟨h.1, fun hn => by
    obtain ⟨g, o, cs', e, hk, hc⟩ := h.2 hn
    exact ⟨g, o, cs', e, hk.grown hg (fun e => hk.ne_ hp (fun e => ht e.symm) (by injection e)), hc⟩⟩
theorem Ow.cut {k cap : Nat} (h : Ow w A n l) (hk : k ≤ n) (hc : n ≤ cap) : Ow w (if cap = k then A else A.map (·.add k)) (n - k) (l.drop k) := by
  refine ⟨by rw [List.length_drop, h.1], fun hn => ?_⟩
  have hlt : k < n := by
    have := h.1
    rcases Nat.lt_or_ge k n with h1 | h1
    · exact h1
    · exact absurd (List.drop_eq_nil_of_le (by omega)) hn
  obtain ⟨g, o, cs, rfl, hb, hcell⟩ := h.2 (by intro e; subst e; simp at hn)
  rw [if_neg (by omega)]
  refine ⟨g, o + k, cs, by simp [Addr.add_lit], hb, fun j c hj => ?_⟩
  rw [Nat.add_assoc]
  exact hcell _ c (by rw [← hj, List.getElem?_drop])
theorem Ow.of_own {base c : Nat} (h : w.ownsRow base 5 1 (.slice A n c) n (l.map b8)) : Ow w A n l := by
  refine ⟨by simpa using h.1, fun hn => ?_⟩
  rcases h.2 with ⟨hv, rfl⟩ | ⟨g, cap, cur, hv, _, hg, _, _, _, ht⟩
  · exact absurd (List.eq_nil_of_length_eq_zero (by simpa using h.1)) hn
  · have hA : A = some ⟨g, 0, none⟩ := by injection hv
    subst hA
    refine ⟨g, 0, cur, rfl, hg, fun j c hj => ?_⟩
    have hm : (l.map b8)[j]? = some (b8 c) := by rw [List.getElem?_map, hj]; rfl
    rw [← ht, List.getElem?_take] at hm
    split at hm
    · simpa using hm
    · cases hm
end

/-- the reader of package wire in block p: what is left, and its error -/
def WRd (w : World) (p : Nat) (l : List UInt8) (e : Int) : Prop :=
  ∃ A n c l0, Bk w p 86 #[.slice A n c, .int .i64 e, .bool true] ∧ Ow w A n l0 ∧ n ≤ c ∧ c ≤ 9223372036854775807 ∧ (e = 0 → l0 = l)
/-- the reader of the reference in block p -/
def RRd (w : World) (p : Nat) (l : List UInt8) (e : Int) : Prop :=
  ∃ A n c l0, Bk w p 88 #[.bool true, .slice A n c, .int .i64 e] ∧ Ow w A n l0 ∧ n ≤ c ∧ c ≤ 9223372036854775807 ∧ (e = 0 → l0 = l)

section
variable {w : World} {p : Nat} {l : List UInt8} {e : Int}

/-- what a call says that only reads a reader -/
def Says (x : Value) (w : World) (e : Ending) (w' : World) : Prop := e = .returned x ∧ w = w'
/-- what a call says that may turn block p alone -/
def Turns (x : Value) (w : World) (p : Nat) (Q : World → Prop) (e : Ending) (w' : World) : Prop := e = .returned x ∧ w.grownBy w' (some p) ∧ Q w'

theorem turned (w : World) (p i : Nat) (u : Value) : w.grownBy (w.setCell ⟨p, i, none⟩ u) (some p) :=
  ⟨rfl, rfl, rfl, by simp [World.setCell], fun k _ hk => Below.heap_setCell _ _ _ _ (fun e => hk (by rw [e]))⟩
theorem grownBy_trans {a b c : World} {r : Option Nat} (h : a.grownBy b r) (k : b.grownBy c r) : a.grownBy c r :=
  ⟨k.os.trans h.os, k.tape.trans h.tape, k.output.trans h.output, Nat.le_trans h.size k.size, fun i hi hne => (k.block i (Nat.lt_of_lt_of_le hi h.size) hne).trans (h.block i hi hne)⟩

set_option maxHeartbeats 400000 in
theorem wErr_any (h : WRd w p l e) : Calls Try.prog 52 #[.pointer (some ⟨p, 0, none⟩)] w (Says (.int .i64 e) w) := by
  obtain ⟨A, n, c, l0, hb, _⟩ := h
  have h1 : w.cell? ⟨p, 1, none⟩ = some (.int .i64 e) := hb.cell 1
  have h2 : w.cell? ⟨p, 2, none⟩ = some (.bool true) := hb.cell 2
  have HB := Lib.hid hb
  clear hb
  go_enter Try.func52, Try.ntmps52
  go_wp2
  go_ret
  exact ⟨rfl, rfl⟩

set_option maxHeartbeats 400000 in
theorem wLeft_ok (h : WRd w p l 0) : Calls Try.prog 54 #[.pointer (some ⟨p, 0, none⟩)] w (Says (.int .i64 (l.length : Nat)) w) := by
  have HW := Lib.hid h
  obtain ⟨A, n, c, l0, hb, ho, _, _, hl⟩ := h
  obtain rfl := hl rfl
  have h0 : w.cell? ⟨p, 0, none⟩ = some (.slice A n c) := hb.cell 0
  have HL := Lib.hid ho.1
  clear hb ho hl
  go_enter Try.func54, Try.ntmps54
  go_wp2_with (go_at_call 52; refine (wErr_any HW.out).mono ?_; rintro e w' ⟨rfl, rfl⟩)
  go_ret
  exact ⟨ret_i64 (by rw [HL.out]), rfl⟩
theorem wLeft_err (h : WRd w p l e) (he : e ≠ 0) : Calls Try.prog 54 #[.pointer (some ⟨p, 0, none⟩)] w (Says (.int .i64 0) w) := by
  have HW := Lib.hid h
  clear h
  have hne : (e != 0) = true := by rw [bne_iff_ne]; exact he
  go_enter Try.func54, Try.ntmps54
  go_wp2_with (go_at_call 52; refine (wErr_any HW.out).mono ?_; rintro e w' ⟨rfl, rfl⟩)
  go_ret
  exact ⟨rfl, rfl⟩

/-- Left, whatever the error -/
def leftOf (l : List UInt8) (e : Int) : Int := if e = 0 then (l.length : Nat) else 0
theorem wLeft_any (h : WRd w p l e) : Calls Try.prog 54 #[.pointer (some ⟨p, 0, none⟩)] w (Says (.int .i64 (leftOf l e)) w) := by
  unfold leftOf
  by_cases he : e = 0
  · subst he; exact wLeft_ok h
  · rw [if_neg he]; exact wLeft_err h he

set_option maxHeartbeats 400000 in
theorem wFail_ok (x : Int) (h : WRd w p l 0) : Calls Try.prog 134 #[.pointer (some ⟨p, 0, none⟩), .int .i64 x] w (Turns (.tuple #[]) w p fun w' => WRd w' p l x) := by
  have HW := Lib.hid h
  obtain ⟨A, n, c, l0, hb, ho, hn, hc, hl⟩ := h
  obtain rfl := hl rfl
  have hcell : w.cell? ⟨p, 1, none⟩ = some (.int .i64 0) := hb.cell 1
  have hfr : w.frozen? ⟨p, 1, none⟩ = false := hb.frozen 1
  have HB := Lib.hid hb
  have HO := Lib.hid ho
  clear hb ho
  go_enter Try.func134, Try.ntmps134
  go_wp2_with (go_at_call 52; refine (wErr_any HW.out).mono ?_; rintro e w' ⟨rfl, rfl⟩)
  go_end0
  exact ⟨rfl, turned w p 1 _, A, n, c, l0, HB.out.put 1 _, HO.out.grown HB.out (by decide) (turned w p 1 _), hn, hc, fun _ => rfl⟩
theorem wFail_err (x : Int) (h : WRd w p l e) (he : e ≠ 0) : Calls Try.prog 134 #[.pointer (some ⟨p, 0, none⟩), .int .i64 x] w (Turns (.tuple #[]) w p fun w' => WRd w' p l e) := by
  have HW := Lib.hid h
  clear h
  have hne : (e == 0) = false := by rw [beq_eq_false_iff_ne]; exact he
  go_enter Try.func134, Try.ntmps134
  go_wp2_with (go_at_call 52; refine (wErr_any HW.out).mono ?_; rintro e w' ⟨rfl, rfl⟩)
  go_end0
  exact ⟨rfl, World.grownBy.refl _ _, HW.out⟩

/-- End -/
def endOf (l : List UInt8) (e : Int) : Int := if e = 0 ∧ l ≠ [] then 3 else e
end
end Go.Proofs.Ytidinbeanaifmaa
