/-
  How a string is written as a literal: a plain function; appendEscaped of the code. (From XUa.)
-/
import Derived.Test.YtemdcgeopaphaaaDoorKk
import Derived.Test.YtemdcgeopaphaaaDoorUz
import Derived.Deep.AppendLies
import Derived.Deep.RegionLaw
import Derived.Deep.CutBlock
import Derived.Laws.BitsAllLaws
namespace Go.Proofs.YtemdcgeopaphaaaDoor
open Go.RowKit

/-- a hexadecimal digit -/
def hxc (n : Nat) : UInt8 := if n < 10 then UInt8.ofNat (48 + n) else UInt8.ofNat (87 + n)
/-- a byte as it is written within a literal -/
def escB (c : UInt8) : List UInt8 :=
  if c = 34 ∨ c = 92 then [92, c] else if c = 10 then [92, 110] else if c = 9 then [92, 116] else if plnT c = false then [92, 120, hxc (c.toNat / 16), hxc (c.toNat % 16)] else [c]
/-- a literal -/
def quoL (l : List UInt8) : List UInt8 := 34 :: (l.flatMap escB ++ [34])

/-- below base nothing turns, and no block of another type than byte -/
structure Frm (base : Nat) (w w' : World) : Prop where
  below : Below base w w'
  keep : ∀ (g : Nat) (t : TypeId) (cs : Array Value), Bk w g t cs → t ≠ 5 → Bk w' g t cs
theorem Frm.refl (base : Nat) (w : World) : Frm base w w := ⟨Below.refl _ _, fun _ _ _ h _ => h⟩
theorem Frm.trans {base : Nat} {a b c : World} (h : Frm base a b) (k : Frm base b c) : Frm base a c := ⟨h.below.trans k.below, fun g t cs hg ht => k.keep g t cs (h.keep g t cs hg ht) ht⟩
theorem Frm.of_below {base : Nat} {w w' : World} (h : Below w.heap.size w w') (hB : base ≤ w.heap.size) : Frm base w w' := ⟨h.mono hB, fun _ _ _ hg _ => hg.below h hg.lt⟩
theorem Frm.of_grown {base n : Nat} {w w' : World} {v : Value} {xs : List Value} (hg : w.grownBy w' v.ownBlock) (ho : w.ownsRow base 5 1 v n xs) (hB : base ≤ w.heap.size) : Frm base w w' :=
  ⟨(Below.refl _ _).grown hg hB (fun k hk => (ho.lt k hk).1), fun g t cs h ht => h.grown hg (by
    intro e
    rcases ho.2 with ⟨rfl, _⟩ | ⟨g', cap, cur, rfl, _, hgg, _⟩
    · cases e
    · injection e with e
      subst e
      unfold Bk at h
      have h' : w.heap[g]? = some (.cells cur 5 (0, 0)) := hgg
      rw [h] at h'
      injection h' with h'
      injection h' with _ e2
      exact ht e2)⟩
/-- a row of bytes of the call's own, onto which something was appended -/
def AppB (base : Nat) (v : Value) (w : World) (o : List UInt8) (e : Ending) (w' : World) : Prop :=
  ∃ A n c, e = .returned (.slice A n c) ∧ Hid (o.length = n) ∧ n ≤ c ∧ c ≤ 9223372036854775807 ∧ Hid (w'.ownsRow base 5 1 (.slice A n c) n (o.map b8)) ∧ Hid (Grw w v.ownBlock (Value.slice A n c).ownBlock w')
theorem Frm.of_grw {base n : Nat} {w w' : World} {v : Value} {r : Option Nat} {xs : List Value} (hg : Grw w v.ownBlock r w') (ho : w.ownsRow base 5 1 v n xs) (hB : base ≤ w.heap.size) : Frm base w w' := Frm.of_grown hg.1 ho hB
theorem AppB.mk' {base n : Nat} {w w' : World} {u v : Value} {o : List UInt8} (h : w'.ownsRow base 5 1 v n (o.map b8)) (hb : Grw w u.ownBlock v.ownBlock w') : AppB base u w o (.returned v) w' := by
  obtain ⟨A, c, rfl, h1, h2⟩ := own_form h
  have hl : o.length = n := own_len h
  exact ⟨A, n, c, rfl, Lib.hid hl, h1, by unfold maxLen at h2; omega, Lib.hid h, Lib.hid hb⟩

theorem grown_draw {w w' : World} {o : Obj} {row : Option Nat} (h : (w.alloc o).drew.grownBy w' row) : w.grownBy w' row :=
  grownBy_trans (b := (w.alloc o).drew) ⟨rfl, rfl, rfl, by simp, fun b hb _ => Below.heap_alloc w o b hb⟩ h
theorem hx_char : ∀ n : Nat, (h : n < 16) → ((⟨#[48, 49, 50, 51, 52, 53, 54, 55, 56, 57, 97, 98, 99, 100, 101, 102]⟩ : ByteArray)[n]'h) = hxc n := by
  intro n h
  have H : ((List.range 16).all fun n => (#[48, 49, 50, 51, 52, 53, 54, 55, 56, 57, 97, 98, 99, 100, 101, 102] : Array UInt8).getD n 0 == hxc n) = true := by decide +kernel
  have := beq_iff_eq.1 (List.all_eq_true.1 H n (List.mem_range.2 h))
  rw [← this, Array.getD_eq_getD_getElem?, Array.getElem?_eq_getElem (by simpa using h)]
  rfl

set_option maxRecDepth 100000 in
set_option maxHeartbeats 4000000 in
theorem escaped_any (base : Nat) (A : Option Addr) (n cp : Nat) (o : List UInt8) (c : UInt8) (w : World) (hown : w.ownsRow base 5 1 (.slice A n cp) n (o.map b8)) (hb : base ≤ w.heap.size) (hn : n ≤ 100000000) :
    Calls Tryd.prog 29 #[.slice A n cp, .int .u8 (c.toNat : Int)] w (AppB base (.slice A n cp) w (o ++ escB c)) := by
  obtain ⟨ti, hti, hz, hsz, hby⟩ := info_parts Tryd.infob
  have HO := Lib.hid hown
  have HB := Lib.hid hb
  have HC := Lib.hid (fun (W : World) => (isPlain_any c W).mono (fun _ _ (h : _ ∧ _) => (⟨h.1, h.2.symm⟩ : _ ∧ W = _)))
  clear hown hb
  by_cases h1 : c = 34 ∨ c = 92
  · have HE : Hid (escB c = [92, c]) := Lib.hid (by unfold escB; rw [if_pos h1])
    have ways : ((c.toNat : Int) == 34) = true ∨ ((c.toNat : Int) == 34) = false ∧ ((c.toNat : Int) == 92) = true := by
      rcases h1 with h | h
      · subst h; exact .inl rfl
      · subst h; exact .inr ⟨rfl, rfl⟩
    clear h1
    have HX : Hid (Rb (w.alloc (.cells #[.int .u8 92, .int .u8 (c.toNat : Int)] 5)) (w.heap.size + 1) (some ⟨w.heap.size, 0, none⟩) 2 [92, c]) := Lib.hid (Rb.lit w 5 [92, c])
    rcases ways with t1 | ⟨t1, t2⟩
    all_goals (
      go_enter Tryd.func29, Tryd.ntmps29
      go_wp2_with (at_builtin; refine wpList_append_b8_at rfl _ _ 44 rfl base 5 ti (.int .u8 0) Tryd.underlying44 hti hz hsz hby rfl _ n (o.map b8) rfl (HO.out.alloc _) (w.heap.size + 1) ⟨w.heap.size, 0, none⟩ 2 2 [92, c] rfl HX.out (by simp) ?_ ?_ ?_)
      · omega
      · rw [World.size_alloc]; have := HB.out; omega
      · intro v3 w3 ho hg
        have FIN : Hid (AppB base (.slice A n cp) w (o ++ escB c) (.returned v3) w3) := Lib.hid (AppB.mk' (n := n + 2) (by rw [HE.out, List.map_append]; exact ho) hg.new)
        clear ho hg
        go_wp2
        go_ret
        exact FIN.out)
  · have n34 : ((c.toNat : Int) == 34) = false := by
      rw [beq_eq_false_iff_ne]
      intro e
      exact h1 (.inl (UInt8.toNat_inj.1 (by show c.toNat = 34; omega)))
    have n92 : ((c.toNat : Int) == 92) = false := by
      rw [beq_eq_false_iff_ne]
      intro e
      exact h1 (.inr (UInt8.toNat_inj.1 (by show c.toNat = 92; omega)))
    by_cases h10 : c = 10
    · skip
      have HE : Hid (escB c = [92, 110]) := Lib.hid (by unfold escB; rw [if_neg h1]; rw [if_pos h10])
      have t3 : ((c.toNat : Int) == 10) = true := by rw [h10]; rfl
      clear h1 h10 
      go_enter Tryd.func29, Tryd.ntmps29
      go_wp2_with (at_builtin; refine wpList_append_str_at rfl _ _ 44 9 rfl base 5 ti Tryd.underlying44 Tryd.underlying9 hti hz hsz hby _ _ _ rfl HO.out ⟨#[92, 110]⟩ rfl ?_ ?_ ?_ ?_)
      · show n + 2 ≤ maxLen; unfold maxLen; omega
      · show n + 2 ≤ _; omega
      · exact HB.out
      · intro v3 w3 ho hg
        have FIN : Hid (AppB base (.slice A n cp) w (o ++ escB c) (.returned v3) w3) := Lib.hid (AppB.mk' (n := n + 2) (by rw [HE.out, List.map_append]; exact ho) hg)
        clear ho hg
        go_wp2
        go_ret
        exact FIN.out
    · have n10 : ((c.toNat : Int) == 10) = false := by
        rw [beq_eq_false_iff_ne]
        intro e
        exact h10 (UInt8.toNat_inj.1 (by show c.toNat = 10; omega))
      by_cases h9 : c = 9
      · skip
        have HE : Hid (escB c = [92, 116]) := Lib.hid (by unfold escB; rw [if_neg h1]; rw [if_neg h10, if_pos h9])
        have t3 : ((c.toNat : Int) == 9) = true := by rw [h9]; rfl
        clear h1 h10 h9
        go_enter Tryd.func29, Tryd.ntmps29
        go_wp2_with (at_builtin; refine wpList_append_str_at rfl _ _ 44 9 rfl base 5 ti Tryd.underlying44 Tryd.underlying9 hti hz hsz hby _ _ _ rfl HO.out ⟨#[92, 116]⟩ rfl ?_ ?_ ?_ ?_)
        · show n + 2 ≤ maxLen; unfold maxLen; omega
        · show n + 2 ≤ _; omega
        · exact HB.out
        · intro v3 w3 ho hg
          have FIN : Hid (AppB base (.slice A n cp) w (o ++ escB c) (.returned v3) w3) := Lib.hid (AppB.mk' (n := n + 2) (by rw [HE.out, List.map_append]; exact ho) hg)
          clear ho hg
          go_wp2
          go_ret
          exact FIN.out
      · have n9 : ((c.toNat : Int) == 9) = false := by
          rw [beq_eq_false_iff_ne]
          intro e
          exact h9 (UInt8.toNat_inj.1 (by show c.toNat = 9; omega))
        have hwr := wrap_byte c
        cases hp : plnT c with
        | true =>
          have HE : Hid (escB c = [c]) := Lib.hid (by unfold escB; rw [if_neg h1, if_neg h10, if_neg h9, hp]; rfl)
          rw [hp] at HC
          have HX := Lib.hid (Rb.one w 5 (c.toNat : Int) c rfl)
          clear h1 h10 h9 hp
          go_enter Tryd.func29, Tryd.ntmps29
          go_wp2_with fail
          refine (HC.out _).mono ?_
          rintro _ _ ⟨rfl, rfl⟩
          go_wp2_with (at_builtin; refine wpList_append_b8_at rfl _ _ 44 rfl base 5 ti (.int .u8 0) Tryd.underlying44 hti hz hsz hby rfl _ n (o.map b8) rfl (HO.out.alloc _) (w.heap.size + 1) ⟨w.heap.size, 0, none⟩ 1 1 [c] rfl HX.out (by simp) ?_ ?_ ?_)
          · omega
          · rw [World.size_alloc]; have := HB.out; omega
          · intro v3 w3 ho hg
            have FIN : Hid (AppB base (.slice A n cp) w (o ++ escB c) (.returned v3) w3) := Lib.hid (AppB.mk' (n := n + 1) (by rw [HE.out, List.map_append]; exact ho) hg.new)
            clear ho hg
            go_wp2
            go_ret
            exact FIN.out
        | false =>
          have HE0 : escB c = [92, 120, hxc (c.toNat / 16), hxc (c.toNat % 16)] := by unfold escB; rw [if_neg h1, if_neg h10, if_neg h9, hp]; rfl
          rw [hp] at HC
          have hc256 : c.toNat < 256 := c.toNat_lt
          have had0 : bits .and .u8 (c.toNat : Int) 15 = ((c.toNat % 16 : Nat) : Int) := by
            rw [show (15 : Int) = ((15 : Nat) : Int) from rfl, u8_and_nat _ _ hc256 (by omega)]
            exact congrArg _ (nat_mask4 _)
          obtain ⟨p, q, hp1, hq1, hE1, hsh, had⟩ : ∃ p q : Nat, p < 16 ∧ q < 16 ∧ escB c = [92, 120, hxc p, hxc q] ∧ (c.toNat : Int) / 16 = (p : Int) ∧ bits .and .u8 (c.toNat : Int) 15 = (q : Int) :=
            ⟨c.toNat / 16, c.toNat % 16, by omega, by omega, HE0, by omega, had0⟩
          clear had0
          have HE := Lib.hid hE1
          have X1 := Lib.hid (hx_char _ hp1)
          have X2 := Lib.hid (hx_char _ hq1)
          have b1 : (p : Int) < 16 := by omega
          have b2 : (q : Int) < 16 := by omega
          have b3 : (0:Int) ≤ (p : Int) := by omega
          have b4 : (0:Int) ≤ (q : Int) := by omega
          clear h1 h10 h9 hp HE0 hE1
          go_enter Tryd.func29, Tryd.ntmps29
          go_wp2_with fail
          refine (HC.out _).mono ?_
          rintro _ _ ⟨rfl, rfl⟩
          go_upto_region 8 with (fail)
          go_region_law (refine step_append_lies _ (by rfl) _ _ _ (by rfl) base 5 ti (.int .u8 0) 1 1 Tryd.underlying44 hti hz hsz hby rfl (by omega) (.slice A n cp) n (o.map b8) (by rfl) (by first | exact (HO.out.alloc _).drew | exact HO.out.drew.alloc _ | exact HO.out.alloc _) ⟨w.heap.size, 0, none⟩ 4 4 [.int .u8 92, .int .u8 120, .int .u8 (((⟨#[48, 49, 50, 51, 52, 53, 54, 55, 56, 57, 97, 98, 99, 100, 101, 102]⟩ : ByteArray)[p]'hp1).toNat : Int), .int .u8 (((⟨#[48, 49, 50, 51, 52, 53, 54, 55, 56, 57, 97, 98, 99, 100, 101, 102]⟩ : ByteArray)[q]'hq1).toNat : Int)] (by rfl) (by rfl) (World.news_of_block (cs := #[.int .u8 92, .int .u8 120, .int .u8 (((⟨#[48, 49, 50, 51, 52, 53, 54, 55, 56, 57, 97, 98, 99, 100, 101, 102]⟩ : ByteArray)[p]'hp1).toNat : Int), .int .u8 (((⟨#[48, 49, 50, 51, 52, 53, 54, 55, 56, 57, 97, 98, 99, 100, 101, 102]⟩ : ByteArray)[q]'hq1).toNat : Int)]) (t := 5) (fr := (0, 0)) (by first | exact heap_alloc_new w _ | exact heap_alloc_new w.drew _)) (by simp [Value.oneCell']) (by omega) (by unfold maxLen; omega) (by omega) (by have := HB.out; simp; omega) (w.heap.size + 1) (by simp) ?_; intro g2 cap w1 hown1 hgrow hat hlt1; have FIN : Hid (AppB base (.slice A n cp) w (o ++ escB c) (.returned (.slice (some ⟨g2, 0, none⟩) (n + 4) cap)) w1) := Lib.hid (AppB.mk' (n := n + 4) (by rw [HE.out, List.map_append, ← X1.out, ← X2.out]; exact hown1) ⟨grown_draw hgrow, fun b h => by have e : g2 = b := Option.some.inj h; rcases hat with h2 | h2; exact .inl (by rw [h2, e]); exact .inr (by rw [← e, h2]; exact Nat.le_succ _)⟩); clear hat hgrow hown1 hlt1)
          all_goals (
            try go_wp2
            refine bodyPost_ret_by (results_tmp (t := 4) (by rfl) _ _ _) (by rfl) ?_
            exact FIN.out)
end Go.Proofs.YtemdcgeopaphaaaDoor
