/-
  Texts of layers 1 and 2, part B: contracts of the code's functions and what they lean on.
-/
import Derived.Test.YtjbjoalinfhahaaBA
import Derived.Laws.IdiomStrings
namespace Go.Proofs.Ytjbjoalinfhahaa
open Go.RowKit

/-- a slice of bytes within a block of the program's own -/
def Ow (w : World) (A : Option Addr) (n : Nat) (l : List UInt8) : Prop :=
  l.length = n ∧ (l ≠ [] → ∃ (g o : Nat) (cs : Array Value), A = some ⟨g, o, none⟩ ∧ Bk w g 5 cs ∧ ∀ (j : Nat) (c : UInt8), l[j]? = some c → cs[o + j]? = some (b8 c))

section
variable {w w' : World} {A : Option Addr} {n p : Nat} {l : List UInt8} {t : TypeId} {cs : Array Value}
theorem Ow.rb (h : Ow w A n l) : Rb w w.heap.size A n l :=
  ⟨h.1, fun hn => by
    obtain ⟨g, o, cs, rfl, hb, hc⟩ := h.2 hn
    exact ⟨g, o, rfl, hb.lt, fun j c hj => (hb.cell _).trans (hc j c hj)⟩⟩
theorem Ow.below (h : Ow w A n l) (hb : Below w.heap.size w w') : Ow w' A n l :=
  ⟨h.1, fun hn => by
    obtain ⟨g, o, cs, e, hk, hc⟩ := h.2 hn
    exact ⟨g, o, cs, e, hk.below hb hk.lt, hc⟩⟩
theorem Ow.grown (h : Ow w A n l) (hp : Bk w p t cs) (ht : t ≠ 5) (hg : w.grownBy w' (some p)) : Ow w' A n l :=
  ⟨h.1, fun hn => by
    obtain ⟨g, o, cs', e, hk, hc⟩ := h.2 hn
    exact ⟨g, o, cs', e, hk.grown hg (fun e => hk.ne_ hp (fun e => ht e.symm) (by injection e)), hc⟩⟩
theorem Ow.cut {k cap : Nat} (h : Ow w A n l) (hk : k ≤ n) (hc : n ≤ cap) : Ow w (if cap = k then A else A.map (·.add k)) (n - k) (l.drop k) := by
  refine ⟨by rw [List.length_drop, h.1], fun hn => ?_⟩
  have hlt : k < n := by
    have := h.1
    rcases Nat.lt_or_ge k n with h1 | h1
    · exact h1
    · exact absurd (List.drop_eq_nil_of_le (by omega)) hn
  obtain ⟨g, o, cs, rfl, hb, hcell⟩ := h.2 (by intro e; subst e; simp at hn)
  rw [if_neg (by omega)]
  refine ⟨g, o + k, cs, by simp [Addr.add_lit], hb, fun j c hj => ?_⟩
  rw [Nat.add_assoc]
  exact hcell _ c (by rw [← hj, List.getElem?_drop])
theorem Ow.of_own {base c : Nat} (h : w.ownsRow base 5 1 (.slice A n c) n (l.map b8)) : Ow w A n l := by
  refine ⟨by simpa using h.1, fun hn => ?_⟩
  rcases h.2 with ⟨hv, rfl⟩ | ⟨g, cap, cur, hv, _, hg, _, _, _, ht⟩
  · exact absurd (List.eq_nil_of_length_eq_zero (by simpa using h.1)) hn
  · have hA : A = some ⟨g, 0, none⟩ := by injection hv
    subst hA
    refine ⟨g, 0, cur, rfl, hg, fun j c hj => ?_⟩
    have hm : (l.map b8)[j]? = some (b8 c) := by rw [List.getElem?_map, hj]; rfl
    rw [← ht, List.getElem?_take] at hm
    split at hm
    · simpa using hm
    · cases hm
end

/-- the reader of package wire in block p: what is left, and its error -/
def WRd (w : World) (p : Nat) (l : List UInt8) (e : Int) : Prop :=
  ∃ A n c l0, Bk w p 86 #[.slice A n c, .int .i64 e, .bool true] ∧ Ow w A n l0 ∧ n ≤ c ∧ c ≤ 9223372036854775807 ∧ (e = 0 → l0 = l)
/-- the reader of the reference in block p -/
def RRd (w : World) (p : Nat) (l : List UInt8) (e : Int) : Prop :=
  ∃ A n c l0, Bk w p 88 #[.bool true, .slice A n c, .int .i64 e] ∧ Ow w A n l0 ∧ n ≤ c ∧ c ≤ 9223372036854775807 ∧ (e = 0 → l0 = l)

section
variable {w : World} {p : Nat} {l : List UInt8} {e : Int}

/-- what a call says that only reads a reader -/
def Says (x : Value) (w : World) (e : Ending) (w' : World) : Prop := e = .returned x ∧ w = w'
/-- what a call says that may turn block p alone -/
def Turns (x : Value) (w : World) (p : Nat) (Q : World → Prop) (e : Ending) (w' : World) : Prop := e = .returned x ∧ w.grownBy w' (some p) ∧ Q w'

theorem turned (w : World) (p i : Nat) (u : Value) : w.grownBy (w.setCell ⟨p, i, none⟩ u) (some p) :=
  ⟨rfl, rfl, rfl, by simp [World.setCell], fun k _ hk => Below.heap_setCell _ _ _ _ (fun e => hk (by rw [e]))⟩
theorem grownBy_trans {a b c : World} {r : Option Nat} (h : a.grownBy b r) (k : b.grownBy c r) : a.grownBy c r :=
  ⟨k.os.trans h.os, k.tape.trans h.tape, k.output.trans h.output, Nat.le_trans h.size k.size, fun i hi hne => (k.block i (Nat.lt_of_lt_of_le hi h.size) hne).trans (h.block i hi hne)⟩

set_option maxHeartbeats 400000 in
theorem wErr_any (h : WRd w p l e) : Calls Try.prog 52 #[.pointer (some ⟨p, 0, none⟩)] w (Says (.int .i64 e) w) := by
  obtain ⟨A, n, c, l0, hb, _⟩ := h
  have h1 : w.cell? ⟨p, 1, none⟩ = some (.int .i64 e) := hb.cell 1
  have h2 : w.cell? ⟨p, 2, none⟩ = some (.bool true) := hb.cell 2
  have HB := Lib.hid hb
  clear hb
  go_enter Try.func52, Try.ntmps52
  go_wp2
  go_ret
  exact ⟨rfl, rfl⟩

set_option maxHeartbeats 400000 in
theorem wLeft_ok (h : WRd w p l 0) : Calls Try.prog 54 #[.pointer (some ⟨p, 0, none⟩)] w (Says (.int .i64 (l.length : Nat)) w) := by
  have HW := Lib.hid h
  obtain ⟨A, n, c, l0, hb, ho, _, _, hl⟩ := h
  obtain rfl := hl rfl
  have h0 : w.cell? ⟨p, 0, none⟩ = some (.slice A n c) := hb.cell 0
  have HL := Lib.hid ho.1
  clear hb ho hl
  go_enter Try.func54, Try.ntmps54
  go_wp2_with (go_at_call 52; refine (wErr_any HW.out).mono ?_; rintro e w' ⟨rfl, rfl⟩)
  go_ret
  exact ⟨ret_i64 (by rw [HL.out]), rfl⟩
theorem wLeft_err (h : WRd w p l e) (he : e ≠ 0) : Calls Try.prog 54 #[.pointer (some ⟨p, 0, none⟩)] w (Says (.int .i64 0) w) := by
  have HW := Lib.hid h
  clear h
  have hne : (e != 0) = true := by rw [bne_iff_ne]; exact he
  go_enter Try.func54, Try.ntmps54
  go_wp2_with (go_at_call 52; refine (wErr_any HW.out).mono ?_; rintro e w' ⟨rfl, rfl⟩)
  go_ret
  exact ⟨rfl, rfl⟩

/-- Left, whatever the error -/
def leftOf (l : List UInt8) (e : Int) : Int := if e = 0 then (l.length : Nat) else 0
theorem wLeft_any (h : WRd w p l e) : Calls Try.prog 54 #[.pointer (some ⟨p, 0, none⟩)] w (Says (.int .i64 (leftOf l e)) w) := by
  unfold leftOf
  by_cases he : e = 0
  · subst he; exact wLeft_ok h
  · rw [if_neg he]; exact wLeft_err h he

set_option maxHeartbeats 400000 in
theorem wFail_ok (x : Int) (h : WRd w p l 0) : Calls Try.prog 134 #[.pointer (some ⟨p, 0, none⟩), .int .i64 x] w (Turns (.tuple #[]) w p fun w' => WRd w' p l x) := by
  have HW := Lib.hid h
  obtain ⟨A, n, c, l0, hb, ho, hn, hc, hl⟩ := h
  obtain rfl := hl rfl
  have hcell : w.cell? ⟨p, 1, none⟩ = some (.int .i64 0) := hb.cell 1
  have hfr : w.frozen? ⟨p, 1, none⟩ = false := hb.frozen 1
  have HB := Lib.hid hb
  have HO := Lib.hid ho
  clear hb ho
  go_enter Try.func134, Try.ntmps134
  go_wp2_with (go_at_call 52; refine (wErr_any HW.out).mono ?_; rintro e w' ⟨rfl, rfl⟩)
  go_end0
  exact ⟨rfl, turned w p 1 _, A, n, c, l0, HB.out.put 1 _, HO.out.grown HB.out (by decide) (turned w p 1 _), hn, hc, fun _ => rfl⟩
theorem wFail_err (x : Int) (h : WRd w p l e) (he : e ≠ 0) : Calls Try.prog 134 #[.pointer (some ⟨p, 0, none⟩), .int .i64 x] w (Turns (.tuple #[]) w p fun w' => WRd w' p l e) := by
  have HW := Lib.hid h
  clear h
  have hne : (e == 0) = false := by rw [beq_eq_false_iff_ne]; exact he
  go_enter Try.func134, Try.ntmps134
  go_wp2_with (go_at_call 52; refine (wErr_any HW.out).mono ?_; rintro e w' ⟨rfl, rfl⟩)
  go_end0
  exact ⟨rfl, World.grownBy.refl _ _, HW.out⟩

/-- End -/
def endOf (l : List UInt8) (e : Int) : Int := if e = 0 ∧ l ≠ [] then 3 else e
end
end Go.Proofs.Ytjbjoalinfhahaa
namespace Go.Proofs.Ytjbjoalinfhahaa
open Go.RowKit

theorem ret_bool {a b : Bool} (h : a = b) : Ending.returned (.bool a) = .returned (.bool b) := by rw [h]

section
variable {w : World} {p : Nat} {l : List UInt8} {e : Int}

set_option maxHeartbeats 400000 in
theorem rStopped_any (h : RRd w p l e) : Calls Try.prog 89 #[.pointer (some ⟨p, 0, none⟩)] w (Says (.bool (e != 0)) w) := by
  obtain ⟨A, n, c, l0, hb, _⟩ := h
  have h1 : w.cell? ⟨p, 2, none⟩ = some (.int .i64 e) := hb.cell 2
  have h2 : w.cell? ⟨p, 0, none⟩ = some (.bool true) := hb.cell 0
  have HB := Lib.hid hb
  clear hb
  go_enter Try.func89, Try.ntmps89
  go_wp2
  go_ret
  exact ⟨rfl, rfl⟩

set_option maxHeartbeats 400000 in
theorem rErr_any (h : RRd w p l e) : Calls Try.prog 53 #[.pointer (some ⟨p, 0, none⟩)] w (Says (.int .i64 e) w) := by
  obtain ⟨A, n, c, l0, hb, _⟩ := h
  have h1 : w.cell? ⟨p, 2, none⟩ = some (.int .i64 e) := hb.cell 2
  have h2 : w.cell? ⟨p, 0, none⟩ = some (.bool true) := hb.cell 0
  have HB := Lib.hid hb
  clear hb
  go_enter Try.func53, Try.ntmps53
  go_wp2
  go_ret
  exact ⟨rfl, rfl⟩

set_option maxHeartbeats 400000 in
theorem rSet_any (x : Int) (h : RRd w p l e) (hx : x ≠ 0) (l' : List UInt8) : Calls Try.prog 151 #[.pointer (some ⟨p, 0, none⟩), .int .i64 x] w (Turns (.tuple #[]) w p fun w' => RRd w' p l' x) := by
  obtain ⟨A, n, c, l0, hb, ho, hn, hc, hl⟩ := h
  have hc1 : w.cell? ⟨p, 1, none⟩ = some (.slice A n c) := hb.cell 1
  have hc2 : w.cell? ⟨p, 2, none⟩ = some (.int .i64 e) := hb.cell 2
  have hf1 : w.frozen? ⟨p, 1, none⟩ = false := hb.frozen 1
  have hf2 : w.frozen? ⟨p, 2, none⟩ = false := hb.frozen 2
  have HB := Lib.hid hb
  clear hb ho
  go_enter Try.func151, Try.ntmps151
  go_wp2
  go_end0
  exact ⟨rfl, grownBy_trans (turned w p 2 _) (turned _ p 1 _), none, 0, 0, [], (HB.out.put 2 _).put 1 _, ⟨rfl, fun h => absurd rfl h⟩, Nat.le_refl _, by omega, fun h => absurd h hx⟩

set_option maxHeartbeats 400000 in
theorem rLeft_any (h : RRd w p l e) : Calls Try.prog 55 #[.pointer (some ⟨p, 0, none⟩)] w (Says (.int .i64 (leftOf l e)) w) := by
  have HW := Lib.hid h
  obtain ⟨A, n, c, l0, hb, ho, hn, hc, hl⟩ := h
  have hc1 : w.cell? ⟨p, 1, none⟩ = some (.slice A n c) := hb.cell 1
  by_cases he : e = 0
  · have hs : (e != 0) = false := by simp [he]
    have HL : Hid (leftOf l e = (n : Nat)) := Lib.hid (by unfold leftOf; rw [if_pos he, ← hl he, ho.1])
    clear hb ho hl he
    go_enter Try.func55, Try.ntmps55
    go_wp2_with (go_at_call 89; refine (rStopped_any HW.out).mono ?_; rintro e w' ⟨rfl, rfl⟩)
    go_ret
    exact ⟨ret_i64 HL.out.symm, rfl⟩
  · have hs : (e != 0) = true := by simp [he]
    have HL : Hid (leftOf l e = 0) := Lib.hid (by unfold leftOf; rw [if_neg he])
    clear hb ho hl he
    go_enter Try.func55, Try.ntmps55
    go_wp2_with (go_at_call 89; refine (rStopped_any HW.out).mono ?_; rintro e w' ⟨rfl, rfl⟩)
    go_ret
    exact ⟨ret_i64 HL.out.symm, rfl⟩

set_option maxHeartbeats 400000 in
theorem rFail_any (x : Int) (h : RRd w p l e) : Calls Try.prog 137 #[.pointer (some ⟨p, 0, none⟩), .int .i64 x] w (Turns (.tuple #[]) w p fun w' => RRd w' p l (if e = 0 then x else e)) := by
  have HW := Lib.hid h
  clear h
  by_cases he : e = 0
  · rw [if_pos he]
    by_cases hx : x = 0
    · have hs : (e != 0) = false := by simp [he]
      have hx2 : (x != 0) = false := by simp [hx]
      have HX := Lib.hid hx
      have HE := Lib.hid he
      clear he hx
      go_enter Try.func137, Try.ntmps137
      go_wp2_with (go_at_call 89; refine (rStopped_any HW.out).mono ?_; rintro e w' ⟨rfl, rfl⟩)
      go_end0
      exact ⟨rfl, World.grownBy.refl _ _, by rw [HX.out, ← HE.out]; exact HW.out⟩
    · have hs : (e != 0) = false := by simp [he]
      have hx2 : (x != 0) = true := by simp [hx]
      clear he
      go_enter Try.func137, Try.ntmps137
      go_wp2_with (first | (go_at_call 89; refine (rStopped_any HW.out).mono ?_; rintro e w' ⟨rfl, rfl⟩) | (go_at_call 151; refine (rSet_any x HW.out hx l).mono ?_; rintro e w' ⟨rfl, hg, hq⟩))
      have HG := Lib.hid hg
      have HQ := Lib.hid hq
      clear hg hq
      go_end0
      exact ⟨rfl, HG.out, HQ.out⟩
  · rw [if_neg he]
    have hs : (e != 0) = true := by simp [he]
    clear he
    go_enter Try.func137, Try.ntmps137
    go_wp2_with (go_at_call 89; refine (rStopped_any HW.out).mono ?_; rintro e w' ⟨rfl, rfl⟩)
    go_end0
    exact ⟨rfl, World.grownBy.refl _ _, HW.out⟩

end
end Go.Proofs.Ytjbjoalinfhahaa
namespace Go.Proofs.Ytjbjoalinfhahaa
open Go.RowKit

theorem drop_at {l : List UInt8} {k : Nat} {x : UInt8} (h : l[k]? = some x) : l.drop k = x :: l.drop (k + 1) := by
  obtain ⟨hk, rfl⟩ := List.getElem?_eq_some_iff.1 h
  exact List.drop_eq_getElem_cons hk
theorem take_at {l : List UInt8} {k : Nat} {x : UInt8} (h : l[k]? = some x) : l.take (k + 1) = l.take k ++ [x] := by
  obtain ⟨hk, rfl⟩ := List.getElem?_eq_some_iff.1 h
  exact List.take_succ_eq_append_getElem hk

theorem ret_2 {a b a' b' : Int} (h : a = a') (h' : b = b') : Ending.returned (.tuple #[.int .i64 a, .int .i64 b]) = .returned (.tuple #[.int .i64 a', .int .i64 b']) := by rw [h, h']

section
variable {w : World} {B : Nat} {A : Option Addr} {n c : Nat} {l : List UInt8}

set_option maxHeartbeats 2000000 in
theorem intSize_any (hr : Rb w B A n l) (hn : n ≤ c) :
    Calls Try.prog 148 #[.slice A n c] w (Says (.tuple #[.int .i64 ((szAt 0 l).1 : Nat), .int .i64 (szAt 0 l).2]) w) := by
  have HR := Lib.hid hr
  clear hr
  have hcase : n < 10 ∨ (n ≤ 10 ∧ 10 ≤ n) ∨ 10 < n := by omega
  rcases hcase with hcase | ⟨hca, hcb⟩ | hcase
  all_goals
    go_enter Try.func148, Try.ntmps148
    go_wp2
    go_loop [12] (fun i => ∃ k : Nat, k ≤ n ∧ k ≤ 10 ∧ i = .int .i64 k ∧ Hid (szAt 0 l = szAt k (l.drop k))) (fun i => 10 - (intOf i).toNat)
    case atStart => exact ⟨0, by omega, by omega, rfl, rfl⟩
    case round =>
      obtain ⟨k, hkn, hk10, rfl, hs⟩ := hrel
      by_cases hlt : k < n ∧ k < 10
      · obtain ⟨hlt, hlt10⟩ := hlt
        obtain ⟨g, o, x, rfl, _, hx, hcell⟩ := HR.out.at_ hlt
        unfold b8 at hcell
        have hx8 := x.toNat_lt
        have HX : Hid (szAt 0 l = szAt k (x :: l.drop (k + 1))) := Lib.hid (by rw [hs.out, drop_at hx])
        clear hx hs HR hn
        by_cases h128 : 128 ≤ x.toNat
        · have HX2 : Hid (szAt 0 l = szAt (k + 1) (l.drop (k + 1))) := Lib.hid (by rw [HX.out, szAt_on hlt10 h128])
          have t1 : decide ((128 : Int) ≤ (x.toNat : Int)) = true := by rw [decide_eq_true_eq]; omega
          clear HX h128
          go_wp2
          go_round
          case rel => exact ⟨k + 1, by omega, by omega, by go_num, HX2⟩
          case measure => simp [intOf]; omega
        · have t1 : decide ((128 : Int) ≤ (x.toNat : Int)) = false := by rw [decide_eq_false_iff_not]; omega
          rcases Nat.eq_zero_or_pos k with h0 | h0
          · subst h0
            have HX2 : Hid (szAt 0 l = (0 + 1, 0)) := Lib.hid (by rw [HX.out, szAt_ok hlt10 (by omega) (by omega)])
            have hcell0 : w.cell? ⟨g, o, none⟩ = some (.int .u8 (x.toNat : Int)) := hcell
            clear HX hcell
            go_wp2
            go_ret2
            exact ⟨ret_2 (by rw [HX2.out]; rfl) (by rw [HX2.out]), rfl⟩
          · have hk0 : decide ((0 : Int) < (k : Int)) = true := by rw [decide_eq_true_eq]; omega
            by_cases hx0 : x.toNat = 0
            · have HX2 : Hid (szAt 0 l = (0, 3)) := Lib.hid (by rw [HX.out, szAt_bad hlt10 (by omega) (by omega)])
              have hb : ((x.toNat : Int) == 0) = true := by simp [hx0]
              clear HX hx0
              go_wp2
              go_ret2
              exact ⟨ret_2 (by rw [HX2.out]; rfl) (by rw [HX2.out]), rfl⟩
            · have hb : ((x.toNat : Int) == 0) = false := by rw [beq_eq_false_iff_ne]; omega
              by_cases h9 : k = 9
              · subst h9
                by_cases h1 : 1 < x.toNat
                · have HX2 : Hid (szAt 0 l = (0, 3)) := Lib.hid (by rw [HX.out, szAt_bad hlt10 (by omega) (by omega)])
                  have t2 : decide ((1 : Int) < (x.toNat : Int)) = true := by rw [decide_eq_true_eq]; omega
                  clear HX h1
                  go_wp2
                  all_goals (go_ret2; exact ⟨ret_2 (by rw [HX2.out]; rfl) (by rw [HX2.out]), rfl⟩)
                · have HX2 : Hid (szAt 0 l = (9 + 1, 0)) := Lib.hid (by rw [HX.out, szAt_ok hlt10 (by omega) (by omega)])
                  have t2 : decide ((1 : Int) < (x.toNat : Int)) = false := by rw [decide_eq_false_iff_not]; omega
                  clear HX h1
                  go_wp2
                  all_goals (go_ret2; exact ⟨ret_2 (by rw [HX2.out]; rfl) (by rw [HX2.out]), rfl⟩)
              · have hb9 : ((k : Int) == 9) = false := by rw [beq_eq_false_iff_ne]; omega
                have HX2 : Hid (szAt 0 l = (k + 1, 0)) := Lib.hid (by rw [HX.out, szAt_ok hlt10 (by omega) (by omega)])
                clear HX
                go_wp2
                go_ret2
                exact ⟨ret_2 (by rw [HX2.out]; rfl) (by rw [HX2.out]), rfl⟩
      · have hl := HR.out.len
        have HX2 : Hid (szAt 0 l = if 10 ≤ n then (0, 3) else (0, 4)) := Lib.hid (by
          rw [hs.out]
          rcases Nat.lt_or_ge n 10 with h10 | h10
          · rw [if_neg (by omega), List.drop_eq_nil_of_le (by omega), szAt_nil (by omega)]
          · rw [if_pos h10, szAt_end (by omega)])
        clear hs hl
        go_wp2
        go_ret2
        exact ⟨ret_2 (by rw [HX2.out]; split <;> rfl) (by rw [HX2.out]; split <;> first | rfl | omega), rfl⟩
end
end Go.Proofs.Ytjbjoalinfhahaa
namespace Go.Proofs.Ytjbjoalinfhahaa
open Go.RowKit

theorem val_lt (l : List UInt8) : val l < 128 ^ l.length := by
  induction l with
  | nil => simp [val]
  | cons c r ih => simp only [val, List.length_cons, Nat.pow_succ]; omega
theorem val_app (l r : List UInt8) : val (l ++ r) = val l + 128 ^ l.length * val r := by
  induction l with
  | nil => simp [val]
  | cons c s ih =>
    simp only [val, List.cons_append, List.length_cons, Nat.pow_succ, ih]
    rw [Nat.mul_add, ← Nat.add_assoc, ← Nat.mul_assoc, Nat.mul_comm 128 (128 ^ s.length)]
theorem val_take_le (l : List UInt8) (k : Nat) : val (l.take k) ≤ val l := by
  have h := val_app (l.take k) (l.drop k)
  rw [List.take_append_drop] at h
  omega
theorem or_step (X y k : Nat) (hX : X < 128 ^ k) (hs : X + 128 ^ k * y < 18446744073709551616) :
    bits .or .u64 (X : Int) (IntKind.u64.wrap ((y : Int) * 2 ^ (7 * k))) = ((X + 128 ^ k * y : Nat) : Int) := by
  have e2 : (128 : Nat) ^ k = 2 ^ (7 * k) := by rw [show (128 : Nat) = 2 ^ 7 from rfl, ← Nat.pow_mul]
  have e3 : (y : Int) * 2 ^ (7 * k) = ((128 ^ k * y : Nat) : Int) := by rw [e2, Int.natCast_mul, Int.natCast_pow, Int.mul_comm]; rfl
  have hlt : 128 ^ k * y < 18446744073709551616 := by omega
  rw [e3, IntWalk.u64_in _ ⟨by omega, by omega⟩, u64_or_nat X (128 ^ k * y) (by omega) hlt, e2, Nat.or_comm, Nat.mul_comm]
  rw [e2] at hX
  rw [← Nat.shiftLeft_eq, ← Nat.shiftLeft_add_eq_or_of_lt hX, Nat.add_comm]

section
variable {w : World} {B : Nat} {A : Option Addr} {n c : Nat} {l : List UInt8}

set_option maxHeartbeats 1000000 in
theorem joinGroups_any (hr : Rb w B A n l) (h10 : n ≤ 10) (hv : val l < 18446744073709551616) :
    Calls Try.prog 150 #[.slice A n c] w (Says (.int .u64 (val l : Nat)) w) := by
  have HR := Lib.hid hr
  have HV := Lib.hid hv
  clear hr hv
  go_enter Try.func150, Try.ntmps150
  go_wp2
  go_loop [3, 8] (fun u i => ∃ (k X : Nat), k ≤ n ∧ i = .int .i64 k ∧ u = .int .u64 (X : Int) ∧ Hid (X = val (l.take k))) (fun _ i => n - (intOf i).toNat)
  case atStart => exact ⟨0, 0, by omega, rfl, rfl, by simp [Hid, val]⟩
  case round =>
    obtain ⟨k, X, hkn, rfl, rfl, hX⟩ := hrel
    by_cases hlt : k < n
    · obtain ⟨g, o, x, rfl, _, hx, hcell⟩ := HR.out.at_ hlt
      unfold b8 at hcell
      have hX2 : Hid (X + 128 ^ k * (x.toNat % 128) = val (l.take (k + 1))) := Lib.hid (by
        rw [take_at hx, val_app, ← hX.out]
        have : (l.take k).length = k := by rw [List.length_take, HR.out.len]; omega
        rw [this]; simp [val])
      have hor : Hid (bits .or .u64 (X : Int) (IntKind.u64.wrap (((x.toNat % 128 : Nat) : Int) * 2 ^ (7 * k))) = ((X + 128 ^ k * (x.toNat % 128) : Nat) : Int)) := Lib.hid (or_step X _ k (by
          have h1 := val_lt (l.take k)
          rw [← hX.out] at h1
          have : (l.take k).length = k := by rw [List.length_take, HR.out.len]; omega
          rwa [this] at h1) (by have h1 := val_take_le l (k + 1); have h2 := HV.out; have h3 := hX2.out; omega))
      clear hx hX HR HV
      go_wp2
      go_round
      case rel =>
        refine ⟨k + 1, X + 128 ^ k * (x.toNat % 128), by omega, by go_num, ?_, hX2⟩
        rw [← hor.out]
        rfl
      case measure => simp [intOf]; omega
    · have HX : Hid (X = val l) := Lib.hid (by rw [hX.out, List.take_of_length_le (by have := HR.out.len; omega)])
      clear hX
      go_wp2
      go_ret
      exact ⟨ret_u64 (by rw [HX.out]), rfl⟩
end
end Go.Proofs.Ytjbjoalinfhahaa
namespace Go.Proofs.Ytjbjoalinfhahaa
open Go.RowKit

theorem WRd.any {w : World} {p : Nat} {l l' : List UInt8} {e : Int} (h : WRd w p l e) (he : e ≠ 0) : WRd w p l' e := by
  obtain ⟨A, n, c, l0, hb, ho, hn, hc, hl⟩ := h
  exact ⟨A, n, c, l0, hb, ho, hn, hc, fun h => absurd h he⟩
theorem RRd.any {w : World} {p : Nat} {l l' : List UInt8} {e : Int} (h : RRd w p l e) (he : e ≠ 0) : RRd w p l' e := by
  obtain ⟨A, n, c, l0, hb, ho, hn, hc, hl⟩ := h
  exact ⟨A, n, c, l0, hb, ho, hn, hc, fun h => absurd h he⟩

/-- what is left behind a cut at the capacity, and before it -/
theorem wrd_end {w : World} {p : Nat} {l : List UInt8} {A B : Option Addr} {n c m d : Nat} (hb : Bk w p 86 #[.slice A n c, .int .i64 0, .bool true]) (hm : m = 0) (hl : l = []) (hd : m ≤ d ∧ d ≤ 9223372036854775807) :
    WRd (w.setCell ⟨p, 0, none⟩ (.slice B m d)) p l 0 :=
  ⟨_, _, _, [], hb.put 0 _, ⟨by simp [hm], fun h => absurd rfl h⟩, hd.1, hd.2, fun _ => hl.symm⟩
theorem wrd_cut {w : World} {p : Nat} {l : List UInt8} {g o n c k : Nat} (hb : Bk w p 86 #[.slice (some ⟨g, o, none⟩) n c, .int .i64 0, .bool true]) (ho : Ow w (some ⟨g, o, none⟩) n l)
    (hk : k ≤ n) (hn : n ≤ c) (hc : c ≤ 9223372036854775807) (hck : c ≠ k) : WRd (w.setCell ⟨p, 0, none⟩ (.slice (some ⟨g, o + k, none⟩) (n - k) (c - k))) p (l.drop k) 0 := by
  have h := ho.cut hk hn
  rw [if_neg hck] at h
  simp only [Option.map_some, Addr.add_lit] at h
  exact ⟨_, _, _, _, hb.put 0 _, h.grown hb (by decide) (turned w p 0 _), by omega, by omega, fun _ => rfl⟩

section
variable {w : World} {p : Nat} {l : List UInt8} {e : Int}

set_option maxHeartbeats 1000000 in
theorem wInt_err (low high : Int) (h : WRd w p l e) (he : e ≠ 0) : Calls Try.prog 135 #[.pointer (some ⟨p, 0, none⟩), .int .i64 low, .int .i64 high] w (Turns (.int .i64 0) w p fun w' => WRd w' p l e) := by
  have HW := Lib.hid h
  clear h
  have hne : (e != 0) = true := by rw [bne_iff_ne]; exact he
  go_enter Try.func135, Try.ntmps135
  go_wp2_with (go_at_call 52; refine (wErr_any HW.out).mono ?_; rintro e w' ⟨rfl, rfl⟩)
  go_ret
  exact ⟨rfl, World.grownBy.refl _ _, HW.out⟩

set_option maxHeartbeats 1000000 in
theorem wInt_ok (low high : Int) (h : WRd w p l 0) : Calls Try.prog 135 #[.pointer (some ⟨p, 0, none⟩), .int .i64 low, .int .i64 high] w
    (Turns (.int .i64 (intR l low high).1) w p fun w' => WRd w' p (intR l low high).2.1 (intR l low high).2.2) := by
  have HW := Lib.hid h
  obtain ⟨A, n, c, l0, hb, ho, hn, hc, hl⟩ := h
  obtain rfl := hl rfl
  have h0 : w.cell? ⟨p, 0, none⟩ = some (.slice A n c) := hb.cell 0
  have hf0 : w.frozen? ⟨p, 0, none⟩ = false := hb.frozen 0
  have HB := Lib.hid hb
  have HO := Lib.hid ho
  clear hb ho hl
  rcases szAt_facts 0 l0 with ⟨hs, hk1, h2, h3⟩ | ⟨_, hs⟩
  · have hs1 : szAt 0 l0 = ((szAt 0 l0).1, 0) := by rw [← hs]
    have he := enc_sz hs
    obtain ⟨k, hk⟩ : ∃ k, k = (szAt 0 l0).1 := ⟨_, rfl⟩
    rw [← hk] at hs1 he h2 h3 hk1
    have hkn : k ≤ n := by have := HO.out.1; omega
    have HI : Hid (intR l0 low high = if unz (val (l0.take k)) < low ∨ high < unz (val (l0.take k)) then (0, [], 14) else (unz (val (l0.take k)), l0.drop k, 0)) := Lib.hid (by
      unfold intR
      rw [hs1, if_neg (by simp)])
    have HS := Lib.hid hs1
    have HE := Lib.hid he
    clear hs hs1 he hk h2
    go_enter Try.func135, Try.ntmps135
    go_wp2_with fail
    refine (wErr_any HW.out).mono ?_
    rintro e w' ⟨rfl, rfl⟩
    go_wp2_with fail
    refine (intSize_any HO.out.rb hn).mono ?_
    rintro e w' ⟨rfl, rfl⟩
    rw [HS.out]
    go_wp2_with fail
    refine (joinGroups_any (HO.out.rb.front hkn) (by omega) HE.out.2).mono ?_
    rintro e w' ⟨rfl, rfl⟩
    go_wp2_with fail
    refine (unfold_any _ _ HE.out.2).mono ?_
    rintro e w' ⟨rfl, rfl⟩
    obtain ⟨x, hx⟩ : ∃ x, x = unz (val (l0.take k)) := ⟨_, rfl⟩
    rw [← hx]
    have HX := Lib.hid hx
    clear hx
    by_cases hr : x < low ∨ high < x
    · have HI2 : Hid (intR l0 low high = (0, [], 14)) := Lib.hid (by rw [HI.out, ← HX.out, if_pos hr])
      by_cases h1 : x < low
      · have t1 : decide (x < low) = true := by rw [decide_eq_true_eq]; exact h1
        clear hr h1
        go_wp2_with fail
        refine (wFail_ok 14 HW.out).mono ?_
        rintro e w' ⟨rfl, hg, hq⟩
        have HG := Lib.hid hg
        have HQ := Lib.hid hq
        clear hg hq
        go_wp2
        go_ret
        exact ⟨ret_i64 (by rw [HI2.out]), HG.out, by rw [HI2.out]; exact HQ.out.any (by decide)⟩
      · have t1 : decide (x < low) = false := by rw [decide_eq_false_iff_not]; exact h1
        have t2 : decide (high < x) = true := by rw [decide_eq_true_eq]; omega
        clear hr h1
        go_wp2_with fail
        refine (wFail_ok 14 HW.out).mono ?_
        rintro e w' ⟨rfl, hg, hq⟩
        have HG := Lib.hid hg
        have HQ := Lib.hid hq
        clear hg hq
        go_wp2
        go_ret
        exact ⟨ret_i64 (by rw [HI2.out]), HG.out, by rw [HI2.out]; exact HQ.out.any (by decide)⟩
    · have HI2 : Hid (intR l0 low high = (x, l0.drop k, 0)) := Lib.hid (by rw [HI.out, ← HX.out, if_neg hr])
      have t1 : decide (x < low) = false := by rw [decide_eq_false_iff_not]; omega
      have t2 : decide (high < x) = false := by rw [decide_eq_false_iff_not]; omega
      clear hr
      by_cases hck : c = k
      · subst hck
        have hnc : n = c := by omega
        have HN := Lib.hid hnc
        clear hnc
        go_wp2
        go_ret
        exact ⟨ret_i64 (by rw [HI2.out]), turned w p 0 _, by rw [HI2.out]; exact wrd_end HB.out (by have := HN.out; omega) (by have := HO.out.1; have := HN.out; rw [List.drop_eq_nil_of_le (by omega)]) (by omega)⟩
      · have hne : l0 ≠ [] := by intro h; have := HO.out.1; rw [h] at this; simp at this; omega
        obtain ⟨g, o, cs, rfl, hbk, hcs⟩ := HO.out.2 hne
        have HK := Lib.hid hbk
        have HC := Lib.hid hcs
        clear hbk hcs hne
        have tk : (c == k) = false := by rw [beq_eq_false_iff_ne]; exact hck
        have hck' : ¬ (c : Int) = k := by omega
        go_wp2
        go_ret
        exact ⟨ret_i64 (by rw [HI2.out]), turned w p 0 _, by rw [HI2.out]; exact wrd_cut HB.out HO.out hkn hn hc hck⟩
  · have hs0 : (szAt 0 l0).2 ≠ 0 := by omega
    have hne : ((szAt 0 l0).2 != 0) = true := by rw [bne_iff_ne]; exact hs0
    have HI := Lib.hid (intR_err (low := low) (high := high) hs0)
    have HS := Lib.hid hs0
    clear hs hs0
    go_enter Try.func135, Try.ntmps135
    go_wp2_with fail
    refine (wErr_any HW.out).mono ?_
    rintro e w' ⟨rfl, rfl⟩
    go_wp2_with fail
    refine (intSize_any HO.out.rb hn).mono ?_
    rintro e w' ⟨rfl, rfl⟩
    go_wp2_with fail
    refine (wFail_ok _ HW.out).mono ?_
    rintro e w' ⟨rfl, hg, hq⟩
    have HG := Lib.hid hg
    have HQ := Lib.hid hq
    clear hg hq
    go_wp2
    go_ret
    exact ⟨ret_i64 (by rw [HI.out]), HG.out, by rw [HI.out]; exact HQ.out.any HS.out⟩
end
end Go.Proofs.Ytjbjoalinfhahaa
namespace Go.Proofs.Ytjbjoalinfhahaa
open Go.RowKit

theorem run_str {P : Program} {w : World} {B : Nat} {A : Option Addr} {n c : Nat} {l : List UInt8} (src dst e : TypeId) (hs : P.underlying src = some (.slice e)) (he : P.underlying e = some (.int .u8)) (hd : P.underlying dst = some .string)
    (h : Rb w B A n l) : (convert src dst (.slice A n c)).run P w = .ok (.string ⟨l.toArray⟩) w := by
  obtain rfl := h.1
  cases A with
  | none =>
    have hl : l = [] := by
      rcases List.eq_nil_or_concat l with h0 | ⟨r, x, h0⟩
      · exact h0
      · obtain ⟨_, _, ha, _⟩ := h.2 (by rw [h0]; simp)
        cases ha
    subst hl
    rw [run_convert_bytes_string w src dst e _ _ c hs he hd]
    simp [Conv.bytesToString, Sem.run_pure]
    rfl
  | some a =>
    refine run_convert_bytes_back w src dst e a c l hs he hd fun j hj => ?_
    obtain ⟨g, o, ha, _, hc⟩ := h.2 (by intro h0; subst h0; simp at hj)
    injection ha with ha
    subst ha
    rw [Addr.add_lit]
    exact hc j _ (List.getElem?_eq_getElem hj)

theorem ret_str {a b : List UInt8} (h : a = b) : Ending.returned (.string ⟨a.toArray⟩) = .returned (.string ⟨b.toArray⟩) := by rw [h]

section
variable {w : World} {p : Nat} {l : List UInt8} {e : Int}

set_option maxHeartbeats 1000000 in
theorem wText_err (most : Int) (h : WRd w p l e) (he : e ≠ 0) : Calls Try.prog 136 #[.pointer (some ⟨p, 0, none⟩), .int .i64 most] w (Turns (.string ⟨(([] : List UInt8)).toArray⟩) w p fun w' => WRd w' p l e) := by
  have HW := Lib.hid h
  clear h
  have hne : (e != 0) = true := by rw [bne_iff_ne]; exact he
  go_enter Try.func136, Try.ntmps136
  go_wp2_with fail
  refine (wInt_err 0 most HW.out he).mono ?_
  rintro e1 w1 ⟨rfl, hg, hq⟩
  have HG := Lib.hid hg
  have HQ := Lib.hid hq
  clear hg hq
  go_wp2_with fail
  refine (wLeft_err HQ.out he).mono ?_
  rintro e1 w' ⟨rfl, rfl⟩
  go_wp2_with fail
  refine (wErr_any HQ.out).mono ?_
  rintro e1 w' ⟨rfl, rfl⟩
  go_wp2
  go_ret
  exact ⟨rfl, HG.out, HQ.out⟩

theorem wrd_cut2 {w : World} {p : Nat} {l : List UInt8} {a : Addr} {n c k : Nat} (hb : Bk w p 86 #[.slice (some a) n c, .int .i64 0, .bool true]) (ho : Ow w (some a) n l)
    (hk : k ≤ n) (hn : n ≤ c) (hc : c ≤ 9223372036854775807) (hck : c ≠ k) : WRd (w.setCell ⟨p, 0, none⟩ (.slice (some (a.add k)) (n - k) (c - k))) p (l.drop k) 0 := by
  have h := ho.cut hk hn
  rw [if_neg hck] at h
  exact ⟨_, _, _, _, hb.put 0 _, h.grown hb (by decide) (turned w p 0 _), by omega, by omega, fun _ => rfl⟩

set_option maxHeartbeats 1000000 in
theorem wText_ok (most : Int) (h : WRd w p l 0) : Calls Try.prog 136 #[.pointer (some ⟨p, 0, none⟩), .int .i64 most] w
    (Turns (.string ⟨(textR l most).1.toArray⟩) w p fun w' => WRd w' p (textR l most).2.1 (textR l most).2.2) := by
  have HW := Lib.hid h
  clear h
  rcases intR_ways l 0 most with hi | ⟨k, _, _, _, hi, hx0, _, _, hv⟩
  · have hT : textR l most = ([], [], (intR l 0 most).2.2) ∧ (intR l 0 most).1 = 0 ∧ (intR l 0 most).2.2 ≠ 0 := by
      rcases hi with hi | hi | hi <;> simp [textR, hi]
    obtain ⟨e1, he1⟩ : ∃ e1, e1 = (intR l 0 most).2.2 := ⟨_, rfl⟩
    rw [← he1] at hT
    have HT := Lib.hid hT
    have HE := Lib.hid he1
    have hne : (e1 != 0) = true := by rw [bne_iff_ne]; exact hT.2.2
    clear hi hT he1
    go_enter Try.func136, Try.ntmps136
    go_wp2_with fail
    refine (wInt_ok 0 most HW.out).mono ?_
    rw [HT.out.2.1, ← HE.out]
    rintro e w1 ⟨rfl, hg, hq⟩
    have HG := Lib.hid hg
    have HQ := Lib.hid hq
    clear hg hq
    go_wp2_with fail
    refine (wLeft_err HQ.out HT.out.2.2).mono ?_
    rintro e w' ⟨rfl, rfl⟩
    go_wp2_with fail
    refine (wErr_any HQ.out).mono ?_
    rintro e w' ⟨rfl, rfl⟩
    go_wp2
    go_ret
    exact ⟨ret_str (by rw [HT.out.1]), HG.out, by rw [HT.out.1]; exact HQ.out.any HT.out.2.2⟩
  · obtain ⟨x, hx⟩ : ∃ x : Nat, unz (val (l.take k)) = (x : Int) := ⟨(unz (val (l.take k))).toNat, by omega⟩
    rw [hx] at hi
    have hxm := (unz_in hv).2
    rw [hx] at hxm
    have HI := Lib.hid hi
    obtain ⟨r, hr⟩ : ∃ r, r = l.drop k := ⟨_, rfl⟩
    rw [← hr] at hi
    have HI := Lib.hid hi
    by_cases hlen : r.length < x
    · have hT : textR l most = ([], [], 4) := by
        unfold textR
        rw [hi]
        simp only [ne_eq, not_true_eq_false, ↓reduceIte]
        rw [if_pos (by omega)]
      have HT := Lib.hid hT
      have hgt : decide (r.length < x) = true := by rw [decide_eq_true_eq]; exact hlen
      clear hi hT hr hx hx0 hv hlen
      go_enter Try.func136, Try.ntmps136
      go_wp2_with fail
      refine (wInt_ok 0 most HW.out).mono ?_
      rw [HI.out]
      rintro e w1 ⟨rfl, hg, hq⟩
      have HG := Lib.hid hg
      have HQ := Lib.hid hq
      clear hg hq
      go_wp2_with fail
      refine (wLeft_ok HQ.out).mono ?_
      rintro e w' ⟨rfl, rfl⟩
      go_wp2_with fail
      refine (wFail_ok 4 HQ.out).mono ?_
      rintro e w2 ⟨rfl, hg, hq⟩
      have HG2 := Lib.hid hg
      have HQ2 := Lib.hid hq
      clear hg hq
      go_wp2_with fail
      refine (wErr_any HQ2.out).mono ?_
      rintro e w' ⟨rfl, rfl⟩
      go_wp2
      go_ret
      exact ⟨ret_str (by rw [HT.out]), grownBy_trans HG.out HG2.out, by rw [HT.out]; exact HQ2.out.any (by decide)⟩
    · have hT : textR l most = (r.take x, r.drop x, 0) := by
        unfold textR
        rw [hi]
        simp only [ne_eq, not_true_eq_false, ↓reduceIte]
        rw [if_neg (by omega)]
        simp
      have HT := Lib.hid hT
      have hgt : decide (r.length < x) = false := by rw [decide_eq_false_iff_not]; exact hlen
      have hle : x ≤ r.length := by omega
      clear hi hT hr hx hx0 hv hlen
      go_enter Try.func136, Try.ntmps136
      go_wp2_with fail
      refine (wInt_ok 0 most HW.out).mono ?_
      rw [HI.out]
      rintro e w1 ⟨rfl, hg, hq⟩
      have HG := Lib.hid hg
      have HQ := Lib.hid hq
      clear hg hq
      go_wp2_with fail
      refine (wLeft_ok HQ.out).mono ?_
      rintro e w' ⟨rfl, rfl⟩
      go_wp2_with fail
      refine (wErr_any HQ.out).mono ?_
      rintro e w' ⟨rfl, rfl⟩
      obtain ⟨A, n, c, l0, hb, ho, hn, hc, hl⟩ := HQ.out
      obtain rfl := hl rfl
      have hxn : x ≤ n := by have := ho.1; omega
      have h0 : w1.cell? ⟨p, 0, none⟩ = some (.slice A n c) := hb.cell 0
      have hf0 : w1.frozen? ⟨p, 0, none⟩ = false := hb.frozen 0
      have hstr := run_str (P := Try.prog) (c := c) 50 9 5 Try.underlying50 Try.underlying5 Try.underlying9 (ho.rb.front hxn)
      have HB := Lib.hid hb
      have HO := Lib.hid ho
      clear hb ho hl hle
      by_cases hcx : c = x
      · subst hcx
        have hnc : n = c := by omega
        have HN := Lib.hid hnc
        clear hnc
        go_wp2
        go_ret
        exact ⟨ret_str (by rw [HT.out]), grownBy_trans HG.out (turned w1 p 0 _), by rw [HT.out]; exact wrd_end HB.out (by have := HN.out; omega) (by have := HO.out.1; have := HN.out; rw [List.drop_eq_nil_of_le (by omega)]) (by omega)⟩
      · have hck' : ¬ (c : Int) = x := by omega
        cases A with
        | none =>
          have hn0 : n = 0 := by
            have h1 := HO.out
            rcases Nat.eq_zero_or_pos n with h2 | h2
            · exact h2
            · obtain ⟨_, _, _, ha, _⟩ := h1.2 (by intro h3; have := h1.1; rw [h3] at this; simp at this; omega)
              cases ha
          have HN := Lib.hid hn0
          clear hn0
          go_wp2
          go_ret
          exact ⟨ret_str (by rw [HT.out]), grownBy_trans HG.out (turned w1 p 0 _), by rw [HT.out]; exact wrd_end HB.out (by have := HN.out; omega) (by have := HO.out.1; have := HN.out; rw [List.drop_eq_nil_of_le (by omega)]) (by omega)⟩
        | some a =>
          go_wp2
          go_ret
          exact ⟨ret_str (by rw [HT.out]), grownBy_trans HG.out (turned w1 p 0 _), by rw [HT.out]; exact wrd_cut2 HB.out HO.out hxn hn hc hcx⟩
end
end Go.Proofs.Ytjbjoalinfhahaa
namespace Go.Proofs.Ytjbjoalinfhahaa
open Go.RowKit

theorem rrd_end {w : World} {p : Nat} {l : List UInt8} {A B : Option Addr} {n c m d : Nat} (hb : Bk w p 88 #[.bool true, .slice A n c, .int .i64 0]) (hm : m = 0) (hl : l = []) (hd : m ≤ d ∧ d ≤ 9223372036854775807) :
    RRd (w.setCell ⟨p, 1, none⟩ (.slice B m d)) p l 0 :=
  ⟨_, _, _, [], hb.put 1 _, ⟨by simp [hm], fun h => absurd rfl h⟩, hd.1, hd.2, fun _ => hl.symm⟩
theorem rrd_cut2 {w : World} {p : Nat} {l : List UInt8} {a : Addr} {n c k : Nat} (hb : Bk w p 88 #[.bool true, .slice (some a) n c, .int .i64 0]) (ho : Ow w (some a) n l)
    (hk : k ≤ n) (hn : n ≤ c) (hc : c ≤ 9223372036854775807) (hck : c ≠ k) : RRd (w.setCell ⟨p, 1, none⟩ (.slice (some (a.add k)) (n - k) (c - k))) p (l.drop k) 0 := by
  have h := ho.cut hk hn
  rw [if_neg hck] at h
  exact ⟨_, _, _, _, hb.put 1 _, h.grown hb (by decide) (turned w p 1 _), by omega, by omega, fun _ => rfl⟩

section
variable {w : World} {p : Nat} {l : List UInt8} {e : Int}

theorem rstop_ok (h : RRd w p l 0) : Calls Try.prog 89 #[.pointer (some ⟨p, 0, none⟩)] w (Says (.bool false) w) := rStopped_any h

end
end Go.Proofs.Ytjbjoalinfhahaa
namespace Go.Proofs.Ytjbjoalinfhahaa
open Go.RowKit

section
variable {w : World} {p : Nat} {l : List UInt8} {e : Int}

set_option maxHeartbeats 2000000 in
theorem rCount_any (h : RRd w p l 0) : Calls Try.prog 152 #[.pointer (some ⟨p, 0, none⟩)] w (Says (.tuple #[.int .i64 ((szAt 0 l).1 : Nat), .int .i64 (szAt 0 l).2]) w) := by
  obtain ⟨A, n, c, l0, hb, ho, hn, hc, hl⟩ := h
  obtain rfl := hl rfl
  have h0 : w.cell? ⟨p, 1, none⟩ = some (.slice A n c) := hb.cell 1
  have HR := Lib.hid ho.rb
  clear hb ho hl hn hc
  go_enter Try.func152, Try.ntmps152
  go_wp2
  go_loop [4] (fun i => ∃ k : Nat, k ≤ n ∧ k ≤ 10 ∧ i = .int .i64 ((k : Int) + 1) ∧ Hid (szAt 0 l0 = szAt k (l0.drop k))) (fun i => 11 - (intOf i).toNat)
  case atStart => exact ⟨0, by omega, by omega, rfl, rfl⟩
  case round =>
    obtain ⟨k, hkn, hk10, rfl, hs⟩ := hrel
    by_cases h10 : k = 10
    · subst h10
      have HX2 : Hid (szAt 0 l0 = (0, 3)) := Lib.hid (by rw [hs.out, szAt_end (by omega)])
      clear hs
      go_wp2
      go_ret2
      exact ⟨ret_2 (by rw [HX2.out]; rfl) (by rw [HX2.out]), rfl⟩
    have hlt10 : k < 10 := by omega
    clear h10
    have t0 : decide ((k : Int) + 1 ≤ 10) = true := by rw [decide_eq_true_eq]; omega
    by_cases hlt : k < n
    · obtain ⟨g, o, x, rfl, _, hx, hcell⟩ := HR.out.at_ hlt
      unfold b8 at hcell
      have HX : Hid (szAt 0 l0 = szAt k (x :: l0.drop (k + 1))) := Lib.hid (by rw [hs.out, drop_at hx])
      have ti : decide ((n : Int) < (k : Int) + 1) = false := by rw [decide_eq_false_iff_not]; omega
      have tk : ((k : Int) + 1 - 1) = (k : Int) := by omega
      clear hx hs HR
      by_cases h128 : 128 ≤ x.toNat
      · have HX2 : Hid (szAt 0 l0 = szAt (k + 1) (l0.drop (k + 1))) := Lib.hid (by rw [HX.out, szAt_on hlt10 h128])
        have t1 : decide ((x.toNat : Int) < 128) = false := by rw [decide_eq_false_iff_not]; omega
        clear HX h128
        go_wp2
        go_round
        case rel => exact ⟨k + 1, by omega, by omega, by go_num, HX2⟩
        case measure => simp [intOf]; omega
      · have t1 : decide ((x.toNat : Int) < 128) = true := by rw [decide_eq_true_eq]; omega
        rcases Nat.eq_zero_or_pos k with h0 | h0
        · subst h0
          have HX2 : Hid (szAt 0 l0 = (0 + 1, 0)) := Lib.hid (by rw [HX.out, szAt_ok hlt10 (by omega) (by omega)])
          have hcell0 : w.cell? ⟨g, o, none⟩ = some (.int .u8 (x.toNat : Int)) := hcell
          have ti0 : decide ((n : Int) < 1) = false := by rw [decide_eq_false_iff_not]; omega
          clear HX hcell ti t0 tk
          go_wp2
          go_ret2
          exact ⟨ret_2 (by rw [HX2.out]; rfl) (by rw [HX2.out]), rfl⟩
        · have hk0 : decide ((1 : Int) < (k : Int) + 1) = true := by rw [decide_eq_true_eq]; omega
          by_cases hx0 : x.toNat = 0
          · have HX2 : Hid (szAt 0 l0 = (0, 3)) := Lib.hid (by rw [HX.out, szAt_bad hlt10 (by omega) (by omega)])
            have hb : ((x.toNat : Int) == 0) = true := by simp [hx0]
            clear HX hx0
            go_wp2
            go_ret2
            exact ⟨ret_2 (by rw [HX2.out]; rfl) (by rw [HX2.out]), rfl⟩
          · have hb : ((x.toNat : Int) == 0) = false := by rw [beq_eq_false_iff_ne]; omega
            by_cases h9 : k = 9
            · subst h9
              have ti9 : decide ((n : Int) < 10) = false := by rw [decide_eq_false_iff_not]; omega
              by_cases h1 : 1 < x.toNat
              · have HX2 : Hid (szAt 0 l0 = (0, 3)) := Lib.hid (by rw [HX.out, szAt_bad hlt10 (by omega) (by omega)])
                have t2 : decide ((1 : Int) < (x.toNat : Int)) = true := by rw [decide_eq_true_eq]; omega
                clear HX h1
                go_wp2
                all_goals (go_ret2; exact ⟨ret_2 (by rw [HX2.out]; rfl) (by rw [HX2.out]), rfl⟩)
              · have HX2 : Hid (szAt 0 l0 = (9 + 1, 0)) := Lib.hid (by rw [HX.out, szAt_ok hlt10 (by omega) (by omega)])
                have t2 : decide ((1 : Int) < (x.toNat : Int)) = false := by rw [decide_eq_false_iff_not]; omega
                clear HX h1
                go_wp2
                all_goals (go_ret2; exact ⟨ret_2 (by rw [HX2.out]; rfl) (by rw [HX2.out]), rfl⟩)
            · have hb9 : ((k : Int) + 1 == 10) = false := by rw [beq_eq_false_iff_ne]; omega
              have HX2 : Hid (szAt 0 l0 = (k + 1, 0)) := Lib.hid (by rw [HX.out, szAt_ok hlt10 (by omega) (by omega)])
              clear HX
              go_wp2
              go_ret2
              exact ⟨ret_2 (by rw [HX2.out]; rfl) (by rw [HX2.out]), rfl⟩
    · have hl := HR.out.len
      have HX2 : Hid (szAt 0 l0 = (0, 4)) := Lib.hid (by rw [hs.out, List.drop_eq_nil_of_le (by omega), szAt_nil hlt10])
      have ti : decide ((n : Int) < (k : Int) + 1) = true := by rw [decide_eq_true_eq]; omega
      clear hs hl
      go_wp2
      go_ret2
      exact ⟨ret_2 (by rw [HX2.out]; rfl) (by rw [HX2.out]), rfl⟩
end
end Go.Proofs.Ytjbjoalinfhahaa
namespace Go.Proofs.Ytjbjoalinfhahaa
open Go.RowKit

theorem val_cons (c : UInt8) (r : List UInt8) : val (c :: r) = c.toNat % 128 + 128 * val r := rfl
theorem val_drop_le (l : List UInt8) (j : Nat) : val (l.drop j) ≤ val l := by
  have h := val_app (l.take j) (l.drop j)
  rw [List.take_append_drop] at h
  have h2 : 1 * val (l.drop j) ≤ 128 ^ (l.take j).length * val (l.drop j) := Nat.mul_le_mul_right _ (Nat.pow_pos (by decide))
  omega
theorem rrd_cut {w : World} {p : Nat} {l : List UInt8} {g o n c k : Nat} (hb : Bk w p 88 #[.bool true, .slice (some ⟨g, o, none⟩) n c, .int .i64 0]) (ho : Ow w (some ⟨g, o, none⟩) n l)
    (hk : k ≤ n) (hn : n ≤ c) (hc : c ≤ 9223372036854775807) (hck : c ≠ k) : RRd (w.setCell ⟨p, 1, none⟩ (.slice (some ⟨g, o + k, none⟩) (n - k) (c - k))) p (l.drop k) 0 := by
  have h := rrd_cut2 hb ho hk hn hc hck
  rw [Addr.add_lit] at h
  exact h
theorem unz_odd (u : Nat) (h : u % 2 = 1) : unz u = -((u / 2 : Nat) : Int) - 1 := by unfold unz; rw [if_pos h]

section
variable {w : World} {p : Nat} {l : List UInt8} {e : Int}

set_option maxHeartbeats 1000000 in
theorem rInt_err (low high : Int) (h : RRd w p l e) (he : e ≠ 0) : Calls Try.prog 138 #[.pointer (some ⟨p, 0, none⟩), .int .i64 low, .int .i64 high] w (Turns (.int .i64 0) w p fun w' => RRd w' p l e) := by
  have HW := Lib.hid h
  clear h
  have hne : (e != 0) = true := by rw [bne_iff_ne]; exact he
  go_enter Try.func138, Try.ntmps138
  go_wp2_with (go_at_call 89; refine (rStopped_any HW.out).mono ?_; rintro e w' ⟨rfl, rfl⟩)
  go_ret
  exact ⟨rfl, World.grownBy.refl _ _, HW.out⟩

set_option maxHeartbeats 2000000 in
theorem rInt_ok (low high : Int) (h : RRd w p l 0) : Calls Try.prog 138 #[.pointer (some ⟨p, 0, none⟩), .int .i64 low, .int .i64 high] w
    (Turns (.int .i64 (intR l low high).1) w p fun w' => RRd w' p (intR l low high).2.1 (intR l low high).2.2) := by
  have HW := Lib.hid h
  obtain ⟨A, n, c, l0, hb, ho, hn, hc, hl⟩ := h
  obtain rfl := hl rfl
  have h0 : w.cell? ⟨p, 1, none⟩ = some (.slice A n c) := hb.cell 1
  have hf0 : w.frozen? ⟨p, 1, none⟩ = false := hb.frozen 1
  have HB := Lib.hid hb
  have HO := Lib.hid ho
  clear hb ho hl
  rcases szAt_facts 0 l0 with ⟨hs, hk1, h2, h3⟩ | ⟨_, hs⟩
  · have hs1 : szAt 0 l0 = ((szAt 0 l0).1, 0) := by rw [← hs]
    have he := enc_sz hs
    obtain ⟨k, hk⟩ : ∃ k, k = (szAt 0 l0).1 := ⟨_, rfl⟩
    rw [← hk] at hs1 he h2 h3 hk1
    have hkn : k ≤ n := by have := HO.out.1; omega
    have HI : Hid (intR l0 low high = if unz (val (l0.take k)) < low ∨ high < unz (val (l0.take k)) then (0, [], 14) else (unz (val (l0.take k)), l0.drop k, 0)) := Lib.hid (by
      unfold intR
      rw [hs1, if_neg (by simp)])
    have HS := Lib.hid hs1
    have HE := Lib.hid he
    have hne : l0 ≠ [] := by intro h; have := HO.out.1; rw [h] at this; simp at this; omega
    obtain ⟨g, o, cs, rfl, hbk, hcs⟩ := HO.out.2 hne
    have HK := Lib.hid hbk
    have HC := Lib.hid hcs
    clear hs hs1 he hk h2 hbk hcs hne
    go_enter Try.func138, Try.ntmps138
    go_wp2_with fail
    refine (rstop_ok HW.out).mono ?_
    rintro e w' ⟨rfl, rfl⟩
    go_wp2_with fail
    refine (rCount_any HW.out).mono ?_
    rintro e w' ⟨rfl, rfl⟩
    rw [HS.out]
    go_wp2_with fail
    go_loop [9, 10] (fun u i => ∃ (j X : Nat), j ≤ k ∧ i = .int .i64 ((j : Int) - 1) ∧ u = .int .u64 (X : Int) ∧ Hid (X = val ((l0.take k).drop j))) (fun _ i => (intOf i + 1).toNat)
    case atStart => exact ⟨k, 0, by omega, rfl, rfl, by rw [List.drop_eq_nil_of_le (by rw [List.length_take]; omega)]; exact Lib.hid rfl⟩
    case round =>
      obtain ⟨j, X, hjk, rfl, rfl, hX⟩ := hrel
      by_cases hj : 0 < j
      · obtain ⟨j, rfl⟩ : ∃ i, j = i + 1 := ⟨j - 1, by omega⟩
        have hjn : j < n := by omega
        obtain ⟨x, hx⟩ : ∃ x, l0[j]? = some x := ⟨_, List.getElem?_eq_getElem (by have := HO.out.1; omega)⟩
        have hcell : w.cell? ⟨g, o + j, none⟩ = some (.int .u8 (x.toNat : Int)) := (HK.out.cell _).trans (HC.out j x hx)
        have hx2 : (l0.take k).drop j = x :: (l0.take k).drop (j + 1) := drop_at (by rw [List.getElem?_take, if_pos (by omega)]; exact hx)
        have hX2 : Hid (X * 128 + x.toNat % 128 = val ((l0.take k).drop j)) := Lib.hid (by rw [hx2, val_cons, ← hX.out]; omega)
        have hle := val_drop_le (l0.take k) j
        have hw1 : IntKind.u64.wrap ((X : Int) * 128) = (X : Int) * 128 := IntWalk.u64_in _ ⟨by omega, by have := HE.out.2; have := hX2.out; omega⟩
        have hw2 : IntKind.u64.wrap ((X : Int) * 128 + (x.toNat : Int) % 128) = (X : Int) * 128 + (x.toNat : Int) % 128 := IntWalk.u64_in _ ⟨by omega, by have := HE.out.2; have := hX2.out; omega⟩
        have tj : (((j + 1 : Nat) : Int) - 1) = (j : Int) := by omega
        rw [tj]
        have t0 : decide ((0 : Int) ≤ (j : Int)) = true := by rw [decide_eq_true_eq]; omega
        clear hx hx2 hX hle tj hj
        go_wp2
        go_round
        case rel => exact ⟨j, X * 128 + x.toNat % 128, by omega, rfl, by go_num, hX2⟩
        case measure => simp [intOf]
      · obtain rfl : j = 0 := by omega
        obtain ⟨u, hu⟩ : ∃ u, u = val (l0.take k) := ⟨_, rfl⟩
        have HU : Hid (X = u) := Lib.hid (by rw [hX.out, hu]; rfl)
        have hu64 : u < 18446744073709551616 := by rw [hu]; exact HE.out.2
        rw [← hu] at HI
        obtain rfl := HU.out
        have HU64 := Lib.hid hu64
        clear hX hj hu HU hu64
        obtain ⟨x, hx⟩ : ∃ x, x = unz X := ⟨_, rfl⟩
        rw [← hx] at HI
        have hwz : IntKind.u64.wrap ((X : Int) / 2) = (X : Int) / 2 := IntWalk.u64_in _ ⟨by omega, by have := HU64.out; omega⟩
        have hxb := unz_in HU64.out
        rw [← hx] at hxb
        have hev : X % 2 = 0 → wrap64 (IntKind.u64.wrap ((X : Int) / 2)) = x := fun hm => by
          rw [hwz, IntWalk.wrap64_in _ ⟨by omega, by have := HU64.out; omega⟩, hx, unz_even X hm]; omega
        have hod : X % 2 = 1 → wrap64 (wrap64 (-wrap64 (IntKind.u64.wrap ((X : Int) / 2))) - 1) = x := fun hm => by
          have h1 : -((X : Int) / 2) - 1 = x := by rw [hx, unz_odd X hm]; omega
          have hlt := HU64.out
          rw [hwz, IntWalk.wrap64_in ((X : Int) / 2) ⟨by omega, by omega⟩, IntWalk.wrap64_in (-((X : Int) / 2)) ⟨by omega, by omega⟩, h1]
          exact IntWalk.wrap64_in _ hxb
        have HV := Lib.hid hev
        have HD := Lib.hid hod
        have hmod : X % 2 = 0 ∨ X % 2 = 1 := by omega
        clear hx hwz hxb hev hod
        rcases hmod with hm | hm
        · have tm : ((X : Int) % 2 == 1) = false := by rw [beq_eq_false_iff_ne]; omega
          have hval := HV.out hm
          clear hm HV HD
          by_cases hr : x < low ∨ high < x
          · have HI2 : Hid (intR l0 low high = (0, [], 14)) := Lib.hid (by rw [HI.out, if_pos hr])
            by_cases h1 : x < low
            · have t1 : decide (x < low) = true := by rw [decide_eq_true_eq]; exact h1
              clear hr h1
              go_wp2_with fail
              refine (rSet_any 14 HW.out (by decide) []).mono ?_
              rintro e w' ⟨rfl, hg, hq⟩
              have HG := Lib.hid hg
              have HQ := Lib.hid hq
              clear hg hq
              go_wp2
              go_ret
              exact ⟨ret_i64 (by rw [HI2.out]), HG.out, by rw [HI2.out]; exact HQ.out⟩
            · have t1 : decide (x < low) = false := by rw [decide_eq_false_iff_not]; exact h1
              have t2 : decide (high < x) = true := by rw [decide_eq_true_eq]; omega
              clear hr h1
              go_wp2_with fail
              refine (rSet_any 14 HW.out (by decide) []).mono ?_
              rintro e w' ⟨rfl, hg, hq⟩
              have HG := Lib.hid hg
              have HQ := Lib.hid hq
              clear hg hq
              go_wp2
              go_ret
              exact ⟨ret_i64 (by rw [HI2.out]), HG.out, by rw [HI2.out]; exact HQ.out⟩
          · have HI2 : Hid (intR l0 low high = (x, l0.drop k, 0)) := Lib.hid (by rw [HI.out, if_neg hr])
            have t1 : decide (x < low) = false := by rw [decide_eq_false_iff_not]; omega
            have t2 : decide (high < x) = false := by rw [decide_eq_false_iff_not]; omega
            clear hr
            by_cases hck : c = k
            · subst hck
              have hnc : n = c := by omega
              have HN := Lib.hid hnc
              clear hnc
              go_wp2
              go_ret
              exact ⟨ret_i64 (by rw [HI2.out]), turned w p 1 _, by rw [HI2.out]; exact rrd_end HB.out (by have := HN.out; omega) (by have := HO.out.1; have := HN.out; rw [List.drop_eq_nil_of_le (by omega)]) (by omega)⟩
            · have hck' : ¬ (c : Int) = k := by omega
              go_wp2
              go_ret
              exact ⟨ret_i64 (by rw [HI2.out]), turned w p 1 _, by rw [HI2.out]; exact rrd_cut HB.out HO.out hkn hn hc hck⟩
        · have tm : ((X : Int) % 2 == 1) = true := by rw [beq_iff_eq]; omega
          have hval := HD.out hm
          clear hm HV HD
          by_cases hr : x < low ∨ high < x
          · have HI2 : Hid (intR l0 low high = (0, [], 14)) := Lib.hid (by rw [HI.out, if_pos hr])
            by_cases h1 : x < low
            · have t1 : decide (x < low) = true := by rw [decide_eq_true_eq]; exact h1
              clear hr h1
              go_wp2_with fail
              refine (rSet_any 14 HW.out (by decide) []).mono ?_
              rintro e w' ⟨rfl, hg, hq⟩
              have HG := Lib.hid hg
              have HQ := Lib.hid hq
              clear hg hq
              go_wp2
              go_ret
              exact ⟨ret_i64 (by rw [HI2.out]), HG.out, by rw [HI2.out]; exact HQ.out⟩
            · have t1 : decide (x < low) = false := by rw [decide_eq_false_iff_not]; exact h1
              have t2 : decide (high < x) = true := by rw [decide_eq_true_eq]; omega
              clear hr h1
              go_wp2_with fail
              refine (rSet_any 14 HW.out (by decide) []).mono ?_
              rintro e w' ⟨rfl, hg, hq⟩
              have HG := Lib.hid hg
              have HQ := Lib.hid hq
              clear hg hq
              go_wp2
              go_ret
              exact ⟨ret_i64 (by rw [HI2.out]), HG.out, by rw [HI2.out]; exact HQ.out⟩
          · have HI2 : Hid (intR l0 low high = (x, l0.drop k, 0)) := Lib.hid (by rw [HI.out, if_neg hr])
            have t1 : decide (x < low) = false := by rw [decide_eq_false_iff_not]; omega
            have t2 : decide (high < x) = false := by rw [decide_eq_false_iff_not]; omega
            clear hr
            by_cases hck : c = k
            · subst hck
              have hnc : n = c := by omega
              have HN := Lib.hid hnc
              clear hnc
              go_wp2
              go_ret
              exact ⟨ret_i64 (by rw [HI2.out]), turned w p 1 _, by rw [HI2.out]; exact rrd_end HB.out (by have := HN.out; omega) (by have := HO.out.1; have := HN.out; rw [List.drop_eq_nil_of_le (by omega)]) (by omega)⟩
            · have hck' : ¬ (c : Int) = k := by omega
              go_wp2
              go_ret
              exact ⟨ret_i64 (by rw [HI2.out]), turned w p 1 _, by rw [HI2.out]; exact rrd_cut HB.out HO.out hkn hn hc hck⟩
  · have hs0 : (szAt 0 l0).2 ≠ 0 := by omega
    have hne : ((szAt 0 l0).2 != 0) = true := by rw [bne_iff_ne]; exact hs0
    have HI := Lib.hid (intR_err (low := low) (high := high) hs0)
    have HS := Lib.hid hs0
    clear hs hs0
    go_enter Try.func138, Try.ntmps138
    go_wp2_with fail
    refine (rstop_ok HW.out).mono ?_
    rintro e w' ⟨rfl, rfl⟩
    go_wp2_with fail
    refine (rCount_any HW.out).mono ?_
    rintro e w' ⟨rfl, rfl⟩
    go_wp2_with fail
    refine (rSet_any _ HW.out HS.out []).mono ?_
    rintro e w' ⟨rfl, hg, hq⟩
    have HG := Lib.hid hg
    have HQ := Lib.hid hq
    clear hg hq
    go_wp2
    go_ret
    exact ⟨ret_i64 (by rw [HI.out]), HG.out, by rw [HI.out]; exact HQ.out.any HS.out⟩
end
end Go.Proofs.Ytjbjoalinfhahaa
namespace Go.Proofs.Ytjbjoalinfhahaa
open Go.RowKit

section
variable {w : World} {p : Nat} {l : List UInt8} {e : Int}

set_option maxHeartbeats 1000000 in
theorem rText_err (most : Int) (h : RRd w p l e) (he : e ≠ 0) : Calls Try.prog 139 #[.pointer (some ⟨p, 0, none⟩), .int .i64 most] w (Turns (.string ⟨(([] : List UInt8)).toArray⟩) w p fun w' => RRd w' p l e) := by
  have HW := Lib.hid h
  clear h
  have hne : (e != 0) = true := by rw [bne_iff_ne]; exact he
  go_enter Try.func139, Try.ntmps139
  go_wp2_with fail
  refine (rInt_err 0 most HW.out he).mono ?_
  rintro e1 w1 ⟨rfl, hg, hq⟩
  have HG := Lib.hid hg
  have HQ := Lib.hid hq
  clear hg hq
  go_wp2_with fail
  refine (rStopped_any HQ.out).mono ?_
  rintro e1 w' ⟨rfl, rfl⟩
  go_wp2
  go_ret
  exact ⟨rfl, HG.out, HQ.out⟩

set_option maxHeartbeats 1000000 in
theorem rText_ok (most : Int) (h : RRd w p l 0) : Calls Try.prog 139 #[.pointer (some ⟨p, 0, none⟩), .int .i64 most] w
    (Turns (.string ⟨(textR l most).1.toArray⟩) w p fun w' => RRd w' p (textR l most).2.1 (textR l most).2.2) := by
  have HW := Lib.hid h
  clear h
  rcases intR_ways l 0 most with hi | ⟨k, _, _, _, hi, hx0, _, _, hv⟩
  · have hT : textR l most = ([], [], (intR l 0 most).2.2) ∧ (intR l 0 most).1 = 0 ∧ (intR l 0 most).2.2 ≠ 0 := by
      rcases hi with hi | hi | hi <;> simp [textR, hi]
    obtain ⟨e1, he1⟩ : ∃ e1, e1 = (intR l 0 most).2.2 := ⟨_, rfl⟩
    rw [← he1] at hT
    have HT := Lib.hid hT
    have HE := Lib.hid he1
    have hne : (e1 != 0) = true := by rw [bne_iff_ne]; exact hT.2.2
    clear hi hT he1
    go_enter Try.func139, Try.ntmps139
    go_wp2_with fail
    refine (rInt_ok 0 most HW.out).mono ?_
    rw [HT.out.2.1, ← HE.out]
    rintro e w1 ⟨rfl, hg, hq⟩
    have HG := Lib.hid hg
    have HQ := Lib.hid hq
    clear hg hq
    go_wp2_with fail
    refine (rStopped_any HQ.out).mono ?_
    rintro e w' ⟨rfl, rfl⟩
    go_wp2
    go_ret
    exact ⟨ret_str (by rw [HT.out.1]), HG.out, by rw [HT.out.1]; exact HQ.out.any HT.out.2.2⟩
  · obtain ⟨x, hx⟩ : ∃ x : Nat, unz (val (l.take k)) = (x : Int) := ⟨(unz (val (l.take k))).toNat, by omega⟩
    rw [hx] at hi
    obtain ⟨r, hr⟩ : ∃ r, r = l.drop k := ⟨_, rfl⟩
    rw [← hr] at hi
    have HI := Lib.hid hi
    by_cases hlen : r.length < x
    · have hT : textR l most = ([], [], 4) := by
        unfold textR
        rw [hi]
        simp only [ne_eq, not_true_eq_false, ↓reduceIte]
        rw [if_pos (by omega)]
      have HT := Lib.hid hT
      have HLEN := Lib.hid hlen
      clear hi hT hr hx hx0 hv hlen
      go_enter Try.func139, Try.ntmps139
      go_wp2_with fail
      refine (rInt_ok 0 most HW.out).mono ?_
      rw [HI.out]
      rintro e w1 ⟨rfl, hg, hq⟩
      have HG := Lib.hid hg
      have HQ := Lib.hid hq
      clear hg hq
      go_wp2_with fail
      refine (rstop_ok HQ.out).mono ?_
      rintro e w' ⟨rfl, rfl⟩
      obtain ⟨A, n, c, l0, hb, ho, hn, hc, hl⟩ := HQ.out
      obtain rfl := hl rfl
      have h0 : w1.cell? ⟨p, 1, none⟩ = some (.slice A n c) := hb.cell 1
      have hgt : decide (n < x) = true := by rw [decide_eq_true_eq]; have := ho.1; have := HLEN.out; omega
      clear hb ho hl
      go_wp2_with fail
      refine (rSet_any 4 HQ.out (by decide) []).mono ?_
      rintro e w2 ⟨rfl, hg, hq⟩
      have HG2 := Lib.hid hg
      have HQ2 := Lib.hid hq
      clear hg hq
      go_wp2
      go_ret
      exact ⟨ret_str (by rw [HT.out]), grownBy_trans HG.out HG2.out, by rw [HT.out]; exact HQ2.out⟩
    · have hT : textR l most = (r.take x, r.drop x, 0) := by
        unfold textR
        rw [hi]
        simp only [ne_eq, not_true_eq_false, ↓reduceIte]
        rw [if_neg (by omega)]
        simp
      have HT := Lib.hid hT
      have hle : x ≤ r.length := by omega
      have HLE := Lib.hid hle
      clear hi hT hr hx hx0 hv hlen hle
      go_enter Try.func139, Try.ntmps139
      go_wp2_with fail
      refine (rInt_ok 0 most HW.out).mono ?_
      rw [HI.out]
      rintro e w1 ⟨rfl, hg, hq⟩
      have HG := Lib.hid hg
      have HQ := Lib.hid hq
      clear hg hq
      go_wp2_with fail
      refine (rstop_ok HQ.out).mono ?_
      rintro e w' ⟨rfl, rfl⟩
      obtain ⟨A, n, c, l0, hb, ho, hn, hc, hl⟩ := HQ.out
      obtain rfl := hl rfl
      have hxn : x ≤ n := by have := ho.1; have := HLE.out; omega
      have hgt : decide (n < x) = false := by rw [decide_eq_false_iff_not]; omega
      have h0 : w1.cell? ⟨p, 1, none⟩ = some (.slice A n c) := hb.cell 1
      have hf0 : w1.frozen? ⟨p, 1, none⟩ = false := hb.frozen 1
      have hstr := run_str (P := Try.prog) (c := c) 50 9 5 Try.underlying50 Try.underlying5 Try.underlying9 (ho.rb.front hxn)
      have HB := Lib.hid hb
      have HO := Lib.hid ho
      clear hb ho hl
      by_cases hcx : c = x
      · subst hcx
        have hnc : n = c := by omega
        have HN := Lib.hid hnc
        clear hnc
        go_wp2
        go_ret
        exact ⟨ret_str (by rw [HT.out]), grownBy_trans HG.out (turned w1 p 1 _), by rw [HT.out]; exact rrd_end HB.out (by have := HN.out; omega) (by have := HO.out.1; have := HN.out; rw [List.drop_eq_nil_of_le (by omega)]) (by omega)⟩
      · have hck' : ¬ (c : Int) = x := by omega
        cases A with
        | none =>
          have hn0 : n = 0 := by
            have h1 := HO.out
            rcases Nat.eq_zero_or_pos n with h2 | h2
            · exact h2
            · obtain ⟨_, _, _, ha, _⟩ := h1.2 (by intro h3; have := h1.1; rw [h3] at this; simp at this; omega)
              cases ha
          have HN := Lib.hid hn0
          clear hn0
          go_wp2
          go_ret
          exact ⟨ret_str (by rw [HT.out]), grownBy_trans HG.out (turned w1 p 1 _), by rw [HT.out]; exact rrd_end HB.out (by have := HN.out; omega) (by have := HO.out.1; have := HN.out; rw [List.drop_eq_nil_of_le (by omega)]) (by omega)⟩
        | some a =>
          go_wp2
          go_ret
          exact ⟨ret_str (by rw [HT.out]), grownBy_trans HG.out (turned w1 p 1 _), by rw [HT.out]; exact rrd_cut2 HB.out HO.out hxn hn hc hcx⟩
end
end Go.Proofs.Ytjbjoalinfhahaa
