/-
  VtextParses returns true for every input, and its arguments read afterwards as they read before: what it leans on.
-/
import Derived.Test.YtlgmhhimbabkjaaGreatDoorVpre
import Derived.Test.YtlgmhhimbabkjaaGreatDoorBytes
import Derived.Lib.AppendStr
import Derived.Maps.AppendAt
import Derived.Test.YtlgmhhimbabkjaaGreatDoorTm
import Derived.Test.YtlgmhhimbabkjaaGreatDoorTf
import Derived.Test.YtlgmhhimbabkjaaGreatDoorTc
import Derived.Deep.AppendLies
import Derived.Deep.RegionLaw
import Derived.Deep.CutBlock
import Derived.Laws.BitsAllLaws
import Derived.Test.YtlgmhhimbabkjaaGreatDoorYCVtextParses
import Derived.Test.YtlgmhhimbabkjaaGreatDoorSh
import Derived.Test.YtlgmhhimbabkjaaGreatDoorVrf
import Derived.Test.YtlgmhhimbabkjaaGreatDoorVsz
import Derived.Test.YtlgmhhimbabkjaaGreatDoorVfit
namespace Go.Proofs.YtlgmhhimbabkjaaGreatDoor
open Go.RowKit

/-- nothing but the row in block r has turned; the row lies in its old block (r) or in a new one -/
def Grw (w : World) (r r' : Option Nat) (w' : World) : Prop := w.grownBy w' r ∧ ∀ b, r' = some b → r = some b ∨ w.heap.size ≤ b
theorem Grw.refl (w : World) (r : Option Nat) : Grw w r r w := ⟨World.grownBy.refl w r, fun _ h => .inl h⟩
theorem Grw.trans {a b c : World} {r r1 r2 : Option Nat} (h : Grw a r r1 b) (k : Grw b r1 r2 c) : Grw a r r2 c := by
  refine ⟨⟨k.1.os.trans h.1.os, k.1.tape.trans h.1.tape, k.1.output.trans h.1.output, Nat.le_trans h.1.size k.1.size, fun i hi hne => ?_⟩, fun i hi => ?_⟩
  · refine (k.1.block i (Nat.lt_of_lt_of_le hi h.1.size) ?_).trans (h.1.block i hi hne)
    intro e
    rcases h.2 i e.symm with h2 | h2
    · exact hne h2.symm
    · omega
  · rcases k.2 i hi with h2 | h2
    · exact h.2 i h2
    · exact .inr (Nat.le_trans h.1.size h2)
theorem Grw.new {w w' : World} {o : Obj} {r r' : Option Nat} (h : Grw (w.alloc o) r r' w') : Grw w r r' w' :=
  ⟨grownBy_trans (World.grownBy_alloc w o r) h.1, fun b hb => (h.2 b hb).imp id (fun h => by rw [World.size_alloc] at h; omega)⟩
theorem Grw.drew {w w' : World} {r r' : Option Nat} (h : Grw w.drew r r' w') : Grw w r r' w' :=
  ⟨⟨h.1.os, h.1.tape, h.1.output, h.1.size, h.1.block⟩, h.2⟩

theorem run_append_b8_at {P : Program} (w : World) (base t ty e : Nat) (i : TypeInfo) (z : Value) (ht : P.underlying t = some (.slice e)) (hi : P.info? e = some i) (hz : i.zero = some z)
    (hsize : i.size = 1) (hby : i.bytes = 1) (hzs : z.cells.size = 1)
    (v : Value) (n : Nat) (xs : List Value) (hown : w.ownsRow base e 1 v n xs)
    (B : Nat) (a : Addr) (m c : Nat) (l : List UInt8) (hr : Rb w B (some a) m l) (hl : l ≠ [])
    (hbytes : n + m ≤ 140737488355328) (hbase : base ≤ w.heap.size) :
    ∃ v' w', (Builtin.append_ #[t, t] ty #[v, .slice (some a) m c]).run P w = .ok v' w' ∧ w'.ownsRow base e 1 v' (n + m) (xs ++ l.map b8) ∧ Grw w v.ownBlock v'.ownBlock w' := by
  have hlen := hr.1
  obtain ⟨g, o, ha, _, hc⟩ := hr.2 hl
  injection ha with ha
  subst ha
  obtain ⟨v', w', h1, h2, h3, _, h5⟩ := run_append_own_at (P := P) w base t ty e i z 1 1 ht hi hz hsize hby hzs (by decide) v n xs hown ⟨g, o, none⟩ m c (l.map b8) (by simp [hlen])
    (fun j u hu => by
      rw [List.getElem?_map] at hu
      cases hj : l[j]? with
      | none => rw [hj] at hu; cases hu
      | some c => rw [hj] at hu; simp at hu; subst hu; rw [Addr.add_lit]; exact hc j c hj) (b8_one l) (by unfold maxLen; omega) (by omega) hbase
  refine ⟨v', w', h1, h2, h3, fun b hb => ?_⟩
  rcases h5 with h5 | h5
  · exact .inl (h5.symm.trans hb)
  · rw [h5] at hb
    injection hb with hb
    exact .inr (by omega)
theorem wpList_append_b8_at {P : Program} {w : World} {ops : Array Oper} {rest : List Oper} {o : Oper} {a : Act} {Q : Exit → Act → World → Prop} (hgd : o.guard = none) (s x : Operand) (t : TypeId)
    (ho : o.op = .call { callee := .builtin .append, args := #[s, x], argTypes := #[t, t] })
    (base e : Nat) (i : TypeInfo) (z : Value) (ht : P.underlying t = some (.slice e)) (hi : P.info? e = some i) (hz : i.zero = some z)
    (hsize : i.size = 1) (hby : i.bytes = 1) (hzs : z.cells.size = 1)
    (v : Value) (n : Nat) (xs : List Value) (hs : a.eval s = v) (hown : w.ownsRow base e 1 v n xs)
    (B : Nat) (A : Addr) (m c : Nat) (l : List UInt8) (hx : a.eval x = .slice (some A) m c) (hr : Rb w B (some A) m l) (hl : l ≠ [])
    (hbytes : n + m ≤ 140737488355328) (hbase : base ≤ w.heap.size)
    (h : ∀ v' w', w'.ownsRow base e 1 v' (n + m) (xs ++ l.map b8) → Grw w v.ownBlock v'.ownBlock w' → wpList P ops Q rest (a.put o.dst v') w') : wpList P ops Q (o :: rest) a w := by
  refine wpList_plain hgd fun K hK => ?_
  obtain ⟨v', w', hrun, h2, h3⟩ := run_append_b8_at (P := P) w base t o.type e i z ht hi hz hsize hby hzs v n xs hown B A m c l hr hl hbytes hbase
  unfold Oper.wp execOp
  simp only [ho, resolve, invoke, builtin, Sem.run_bind, Sem.run_pure, Result.andThen_ok, List.map_toArray, List.map_cons, List.map_nil, hs, hx, hrun]
  exact hK _ _ (h v' w' h2 h3)

theorem run_append_str_at {P : Program} (w : World) (base : Nat) (t u ty e : TypeId) (i : TypeInfo) (ht : P.underlying t = some (.slice e)) (hu : P.underlying u = some .string) (hi : P.info? e = some i) (hz : i.zero = some (.int .u8 0))
    (hsize : i.size = 1) (hby : i.bytes = 1) (v : Value) (n : Nat) (xs : List Value) (hown : w.ownsRow base e 1 v n xs) (s : ByteArray)
    (h63 : n + s.size ≤ maxLen) (hbytes : n + s.size ≤ 140737488355328) (hbase : base ≤ w.heap.size) :
    ∃ v' w', (Builtin.append_ #[t, u] ty #[v, .string s]).run P w = .ok v' w' ∧ w'.ownsRow base e 1 v' (n + s.size) (xs ++ Lib.strCells s) ∧ Grw w v.ownBlock v'.ownBlock w' := by
  obtain ⟨v', w', hr, h2, h3, _⟩ := Lib.run_append_own_string (P := P) w base t u ty e i ht hu hi hz hsize hby v n xs hown s h63 hbytes hbase
  refine ⟨v', w', hr, h2, h3, fun b hb => ?_⟩
  rcases hown.2 with ⟨rfl, rfl⟩ | ⟨g, cap, cur, rfl, hbg, hg, hnc, hcm, hcs, _⟩
  · -- a nil row: it is as well a row of blocks that are all new
    have hown' : w.ownsRow w.heap.size e 1 (.slice none 0 0) 0 xs := ⟨hown.1, .inl ⟨rfl, rfl⟩⟩
    obtain ⟨v2, w2, hr2, h4, _⟩ := Lib.run_append_own_string (P := P) w w.heap.size t u ty e i ht hu hi hz hsize hby _ 0 xs hown' s h63 hbytes (Nat.le_refl _)
    rw [hr] at hr2
    injection hr2 with e1 e2
    subst e1 e2
    exact .inr (h4.lt b hb).1
  · have hcs' : cur.size = cap := by simpa using hcs
    by_cases hroom : n + s.size ≤ cap
    · have hr2 := Lib.run_append_room_string (P := P) w t u ty e i ht hu hi hsize g n cap cur hg s hroom (by omega)
      rw [hr] at hr2
      injection hr2 with e1 _
      subst e1
      exact .inl hb
    · have hr2 := Lib.run_append_grow_string (P := P) w t u ty e i (.int .u8 0) ht hu hi hz ⟨g, 0, none⟩ n cap xs (by rw [hsize]; exact hown.1) (hown.cells (g := g) rfl) s (by omega) (by omega) (by rw [hby]; exact growslice_fits (by omega) (by omega))
      rw [hr] at hr2
      injection hr2 with e1 _
      subst e1
      have hb' : some w.heap.size = some b := hb
      injection hb' with hb'
      exact .inr (by omega)
theorem wpList_append_str_at {P : Program} {w : World} {ops : Array Oper} {rest : List Oper} {o : Oper} {a : Act} {Q : Exit → Act → World → Prop} (hgd : o.guard = none) (sl x : Operand) (t u : TypeId)
    (ho : o.op = .call { callee := .builtin .append, args := #[sl, x], argTypes := #[t, u] })
    (base : Nat) (e : TypeId) (i : TypeInfo) (ht : P.underlying t = some (.slice e)) (hu : P.underlying u = some .string) (hi : P.info? e = some i) (hz : i.zero = some (.int .u8 0))
    (hsize : i.size = 1) (hby : i.bytes = 1)
    (v : Value) (n : Nat) (xs : List Value) (hs : a.eval sl = v) (hown : w.ownsRow base e 1 v n xs) (s : ByteArray) (hx : a.eval x = .string s)
    (h63 : n + s.size ≤ maxLen) (hbytes : n + s.size ≤ 140737488355328) (hbase : base ≤ w.heap.size)
    (h : ∀ v' w', w'.ownsRow base e 1 v' (n + s.size) (xs ++ Lib.strCells s) → Grw w v.ownBlock v'.ownBlock w' → wpList P ops Q rest (a.put o.dst v') w') : wpList P ops Q (o :: rest) a w := by
  refine wpList_plain hgd fun K hK => ?_
  obtain ⟨v', w', hr, h2, h3⟩ := run_append_str_at (P := P) w base t u o.type e i ht hu hi hz hsize hby v n xs hown s h63 hbytes hbase
  unfold Oper.wp execOp
  simp only [ho, resolve, invoke, builtin, Sem.run_bind, Sem.run_pure, Result.andThen_ok, List.map_toArray, List.map_cons, List.map_nil, hs, hx, hr]
  exact hK _ _ (h v' w' h2 h3)
end Go.Proofs.YtlgmhhimbabkjaaGreatDoor
namespace Go.Proofs.YtlgmhhimbabkjaaGreatDoor
open Go.RowKit

/-- a hexadecimal digit -/
def hxc (n : Nat) : UInt8 := if n < 10 then UInt8.ofNat (48 + n) else UInt8.ofNat (87 + n)
/-- a byte as it is written within a literal -/
def escB (c : UInt8) : List UInt8 :=
  if c = 34 ∨ c = 92 then [92, c] else if c = 10 then [92, 110] else if c = 9 then [92, 116] else if pln c = false then [92, 120, hxc (c.toNat / 16), hxc (c.toNat % 16)] else [c]
/-- a literal -/
def quoL (l : List UInt8) : List UInt8 := 34 :: (l.flatMap escB ++ [34])

/-- below base nothing turns, and no block of another type than byte -/
structure Frm (base : Nat) (w w' : World) : Prop where
  below : Below base w w'
  keep : ∀ (g : Nat) (t : TypeId) (cs : Array Value), Bk w g t cs → t ≠ 5 → Bk w' g t cs
theorem Frm.refl (base : Nat) (w : World) : Frm base w w := ⟨Below.refl _ _, fun _ _ _ h _ => h⟩
theorem Frm.trans {base : Nat} {a b c : World} (h : Frm base a b) (k : Frm base b c) : Frm base a c := ⟨h.below.trans k.below, fun g t cs hg ht => k.keep g t cs (h.keep g t cs hg ht) ht⟩
theorem Frm.of_below {base : Nat} {w w' : World} (h : Below w.heap.size w w') (hB : base ≤ w.heap.size) : Frm base w w' := ⟨h.mono hB, fun _ _ _ hg _ => hg.below h hg.lt⟩
theorem Frm.of_grown {base n : Nat} {w w' : World} {v : Value} {xs : List Value} (hg : w.grownBy w' v.ownBlock) (ho : w.ownsRow base 5 1 v n xs) (hB : base ≤ w.heap.size) : Frm base w w' :=
  ⟨(Below.refl _ _).grown hg hB (fun k hk => (ho.lt k hk).1), fun g t cs h ht => h.grown hg (by
    intro e
    rcases ho.2 with ⟨rfl, _⟩ | ⟨g', cap, cur, rfl, _, hgg, _⟩
    · cases e
    · injection e with e
      subst e
      unfold Bk at h
      have h' : w.heap[g]? = some (.cells cur 5 (0, 0)) := hgg
      rw [h] at h'
      injection h' with h'
      injection h' with _ e2
      exact ht e2)⟩
/-- a row of bytes of the call's own, onto which something was appended -/
def AppB (base : Nat) (v : Value) (w : World) (o : List UInt8) (e : Ending) (w' : World) : Prop :=
  ∃ A n c, e = .returned (.slice A n c) ∧ Hid (o.length = n) ∧ n ≤ c ∧ c ≤ 9223372036854775807 ∧ Hid (w'.ownsRow base 5 1 (.slice A n c) n (o.map b8)) ∧ Hid (Grw w v.ownBlock (Value.slice A n c).ownBlock w')
theorem Frm.of_grw {base n : Nat} {w w' : World} {v : Value} {r : Option Nat} {xs : List Value} (hg : Grw w v.ownBlock r w') (ho : w.ownsRow base 5 1 v n xs) (hB : base ≤ w.heap.size) : Frm base w w' := Frm.of_grown hg.1 ho hB
theorem AppB.mk' {base n : Nat} {w w' : World} {u v : Value} {o : List UInt8} (h : w'.ownsRow base 5 1 v n (o.map b8)) (hb : Grw w u.ownBlock v.ownBlock w') : AppB base u w o (.returned v) w' := by
  obtain ⟨A, c, rfl, h1, h2⟩ := own_form h
  have hl : o.length = n := own_len h
  exact ⟨A, n, c, rfl, Lib.hid hl, h1, by unfold maxLen at h2; omega, Lib.hid h, Lib.hid hb⟩

theorem grown_draw {w w' : World} {o : Obj} {row : Option Nat} (h : (w.alloc o).drew.grownBy w' row) : w.grownBy w' row :=
  grownBy_trans (b := (w.alloc o).drew) ⟨rfl, rfl, rfl, by simp, fun b hb _ => Below.heap_alloc w o b hb⟩ h
theorem hx_char : ∀ n : Nat, (h : n < 16) → ((⟨#[48, 49, 50, 51, 52, 53, 54, 55, 56, 57, 97, 98, 99, 100, 101, 102]⟩ : ByteArray)[n]'h) = hxc n := by
  intro n h
  have H : ((List.range 16).all fun n => (#[48, 49, 50, 51, 52, 53, 54, 55, 56, 57, 97, 98, 99, 100, 101, 102] : Array UInt8).getD n 0 == hxc n) = true := by decide +kernel
  have := beq_iff_eq.1 (List.all_eq_true.1 H n (List.mem_range.2 h))
  rw [← this, Array.getD_eq_getD_getElem?, Array.getElem?_eq_getElem (by simpa using h)]
  rfl

set_option maxRecDepth 100000 in
set_option maxHeartbeats 4000000 in
theorem escaped_any (base : Nat) (A : Option Addr) (n cp : Nat) (o : List UInt8) (c : UInt8) (w : World) (hown : w.ownsRow base 5 1 (.slice A n cp) n (o.map b8)) (hb : base ≤ w.heap.size) (hn : n ≤ 100000000) :
    Calls Tryz.prog 41 #[.slice A n cp, .int .u8 (c.toNat : Int)] w (AppB base (.slice A n cp) w (o ++ escB c)) := by
  obtain ⟨ti, hti, hz, hsz, hby⟩ := info_parts Tryz.infob
  have HO := Lib.hid hown
  have HB := Lib.hid hb
  have HC := Lib.hid (fun (W : World) => (plain_any c W).mono (fun _ _ (h : _ ∧ _) => (⟨h.1, h.2.symm⟩ : _ ∧ W = _)))
  clear hown hb
  by_cases h1 : c = 34 ∨ c = 92
  · have HE : Hid (escB c = [92, c]) := Lib.hid (by unfold escB; rw [if_pos h1])
    have ways : ((c.toNat : Int) == 34) = true ∨ ((c.toNat : Int) == 34) = false ∧ ((c.toNat : Int) == 92) = true := by
      rcases h1 with h | h
      · subst h; exact .inl rfl
      · subst h; exact .inr ⟨rfl, rfl⟩
    clear h1
    have HX : Hid (Rb (w.alloc (.cells #[.int .u8 92, .int .u8 (c.toNat : Int)] 5)) (w.heap.size + 1) (some ⟨w.heap.size, 0, none⟩) 2 [92, c]) := Lib.hid (Rb.lit w 5 [92, c])
    rcases ways with t1 | ⟨t1, t2⟩
    all_goals (
      go_enter Tryz.func41, Tryz.ntmps41
      go_wp2_with (at_builtin; refine wpList_append_b8_at rfl _ _ 38 rfl base 5 ti (.int .u8 0) Tryz.underlying38 hti hz hsz hby rfl _ n (o.map b8) rfl (HO.out.alloc _) (w.heap.size + 1) ⟨w.heap.size, 0, none⟩ 2 2 [92, c] rfl HX.out (by simp) ?_ ?_ ?_)
      · omega
      · rw [World.size_alloc]; have := HB.out; omega
      · intro v3 w3 ho hg
        have FIN : Hid (AppB base (.slice A n cp) w (o ++ escB c) (.returned v3) w3) := Lib.hid (AppB.mk' (n := n + 2) (by rw [HE.out, List.map_append]; exact ho) hg.new)
        clear ho hg
        go_wp2
        go_ret
        exact FIN.out)
  · have n34 : ((c.toNat : Int) == 34) = false := by
      rw [beq_eq_false_iff_ne]
      intro e
      exact h1 (.inl (UInt8.toNat_inj.1 (by show c.toNat = 34; omega)))
    have n92 : ((c.toNat : Int) == 92) = false := by
      rw [beq_eq_false_iff_ne]
      intro e
      exact h1 (.inr (UInt8.toNat_inj.1 (by show c.toNat = 92; omega)))
    by_cases h10 : c = 10
    · skip
      have HE : Hid (escB c = [92, 110]) := Lib.hid (by unfold escB; rw [if_neg h1]; rw [if_pos h10])
      have t3 : ((c.toNat : Int) == 10) = true := by rw [h10]; rfl
      clear h1 h10 
      go_enter Tryz.func41, Tryz.ntmps41
      go_wp2_with (at_builtin; refine wpList_append_str_at rfl _ _ 38 9 rfl base 5 ti Tryz.underlying38 Tryz.underlying9 hti hz hsz hby _ _ _ rfl HO.out ⟨#[92, 110]⟩ rfl ?_ ?_ ?_ ?_)
      · show n + 2 ≤ maxLen; unfold maxLen; omega
      · show n + 2 ≤ _; omega
      · exact HB.out
      · intro v3 w3 ho hg
        have FIN : Hid (AppB base (.slice A n cp) w (o ++ escB c) (.returned v3) w3) := Lib.hid (AppB.mk' (n := n + 2) (by rw [HE.out, List.map_append]; exact ho) hg)
        clear ho hg
        go_wp2
        go_ret
        exact FIN.out
    · have n10 : ((c.toNat : Int) == 10) = false := by
        rw [beq_eq_false_iff_ne]
        intro e
        exact h10 (UInt8.toNat_inj.1 (by show c.toNat = 10; omega))
      by_cases h9 : c = 9
      · skip
        have HE : Hid (escB c = [92, 116]) := Lib.hid (by unfold escB; rw [if_neg h1]; rw [if_neg h10, if_pos h9])
        have t3 : ((c.toNat : Int) == 9) = true := by rw [h9]; rfl
        clear h1 h10 h9
        go_enter Tryz.func41, Tryz.ntmps41
        go_wp2_with (at_builtin; refine wpList_append_str_at rfl _ _ 38 9 rfl base 5 ti Tryz.underlying38 Tryz.underlying9 hti hz hsz hby _ _ _ rfl HO.out ⟨#[92, 116]⟩ rfl ?_ ?_ ?_ ?_)
        · show n + 2 ≤ maxLen; unfold maxLen; omega
        · show n + 2 ≤ _; omega
        · exact HB.out
        · intro v3 w3 ho hg
          have FIN : Hid (AppB base (.slice A n cp) w (o ++ escB c) (.returned v3) w3) := Lib.hid (AppB.mk' (n := n + 2) (by rw [HE.out, List.map_append]; exact ho) hg)
          clear ho hg
          go_wp2
          go_ret
          exact FIN.out
      · have n9 : ((c.toNat : Int) == 9) = false := by
          rw [beq_eq_false_iff_ne]
          intro e
          exact h9 (UInt8.toNat_inj.1 (by show c.toNat = 9; omega))
        cases hp : pln c with
        | true =>
          have HE : Hid (escB c = [c]) := Lib.hid (by unfold escB; rw [if_neg h1, if_neg h10, if_neg h9, hp]; rfl)
          rw [hp] at HC
          have HX := Lib.hid (Rb.one w 5 (c.toNat : Int) c rfl)
          clear h1 h10 h9 hp
          go_enter Tryz.func41, Tryz.ntmps41
          go_wp2_with fail
          refine (HC.out _).mono ?_
          rintro _ _ ⟨rfl, rfl⟩
          go_wp2_with (at_builtin; refine wpList_append_b8_at rfl _ _ 38 rfl base 5 ti (.int .u8 0) Tryz.underlying38 hti hz hsz hby rfl _ n (o.map b8) rfl (HO.out.alloc _) (w.heap.size + 1) ⟨w.heap.size, 0, none⟩ 1 1 [c] rfl HX.out (by simp) ?_ ?_ ?_)
          · omega
          · rw [World.size_alloc]; have := HB.out; omega
          · intro v3 w3 ho hg
            have FIN : Hid (AppB base (.slice A n cp) w (o ++ escB c) (.returned v3) w3) := Lib.hid (AppB.mk' (n := n + 1) (by rw [HE.out, List.map_append]; exact ho) hg.new)
            clear ho hg
            go_wp2
            go_ret
            exact FIN.out
        | false =>
          have HE0 : escB c = [92, 120, hxc (c.toNat / 16), hxc (c.toNat % 16)] := by unfold escB; rw [if_neg h1, if_neg h10, if_neg h9, hp]; rfl
          rw [hp] at HC
          have hc256 : c.toNat < 256 := c.toNat_lt
          have had0 : bits .and .u8 (c.toNat : Int) 15 = ((c.toNat % 16 : Nat) : Int) := by
            rw [show (15 : Int) = ((15 : Nat) : Int) from rfl, u8_and_nat _ _ hc256 (by omega)]
            exact congrArg _ (nat_mask4 _)
          obtain ⟨p, q, hp1, hq1, hE1, hsh, had⟩ : ∃ p q : Nat, p < 16 ∧ q < 16 ∧ escB c = [92, 120, hxc p, hxc q] ∧ (c.toNat : Int) / 16 = (p : Int) ∧ bits .and .u8 (c.toNat : Int) 15 = (q : Int) :=
            ⟨c.toNat / 16, c.toNat % 16, by omega, by omega, HE0, by omega, had0⟩
          clear had0
          have HE := Lib.hid hE1
          have X1 := Lib.hid (hx_char _ hp1)
          have X2 := Lib.hid (hx_char _ hq1)
          have b1 : (p : Int) < 16 := by omega
          have b2 : (q : Int) < 16 := by omega
          have b3 : (0:Int) ≤ (p : Int) := by omega
          have b4 : (0:Int) ≤ (q : Int) := by omega
          clear h1 h10 h9 hp HE0 hE1
          go_enter Tryz.func41, Tryz.ntmps41
          go_wp2_with fail
          refine (HC.out _).mono ?_
          rintro _ _ ⟨rfl, rfl⟩
          go_upto_region 8 with (fail)
          go_region_law (refine step_append_lies _ (by rfl) _ _ _ (by rfl) base 5 ti (.int .u8 0) 1 1 Tryz.underlying38 hti hz hsz hby rfl (by omega) (.slice A n cp) n (o.map b8) (by rfl) (by first | exact (HO.out.alloc _).drew | exact HO.out.drew.alloc _ | exact HO.out.alloc _) ⟨w.heap.size, 0, none⟩ 4 4 [.int .u8 92, .int .u8 120, .int .u8 (((⟨#[48, 49, 50, 51, 52, 53, 54, 55, 56, 57, 97, 98, 99, 100, 101, 102]⟩ : ByteArray)[p]'hp1).toNat : Int), .int .u8 (((⟨#[48, 49, 50, 51, 52, 53, 54, 55, 56, 57, 97, 98, 99, 100, 101, 102]⟩ : ByteArray)[q]'hq1).toNat : Int)] (by rfl) (by rfl) (World.news_of_block (cs := #[.int .u8 92, .int .u8 120, .int .u8 (((⟨#[48, 49, 50, 51, 52, 53, 54, 55, 56, 57, 97, 98, 99, 100, 101, 102]⟩ : ByteArray)[p]'hp1).toNat : Int), .int .u8 (((⟨#[48, 49, 50, 51, 52, 53, 54, 55, 56, 57, 97, 98, 99, 100, 101, 102]⟩ : ByteArray)[q]'hq1).toNat : Int)]) (t := 5) (fr := (0, 0)) (by first | exact heap_alloc_new w _ | exact heap_alloc_new w.drew _)) (by simp [Value.oneCell']) (by omega) (by unfold maxLen; omega) (by omega) (by have := HB.out; simp; omega) (w.heap.size + 1) (by simp) ?_; intro g2 cap w1 hown1 hgrow hat hlt1; have FIN : Hid (AppB base (.slice A n cp) w (o ++ escB c) (.returned (.slice (some ⟨g2, 0, none⟩) (n + 4) cap)) w1) := Lib.hid (AppB.mk' (n := n + 4) (by rw [HE.out, List.map_append, ← X1.out, ← X2.out]; exact hown1) ⟨grown_draw hgrow, fun b h => by have e : g2 = b := Option.some.inj h; rcases hat with h2 | h2; exact .inl (by rw [h2, e]); exact .inr (by rw [← e, h2]; exact Nat.le_succ _)⟩); clear hat hgrow hown1 hlt1)
          all_goals (
            try go_wp2
            refine bodyPost_ret_by (results_tmp (t := 4) (by rfl) _ _ _) (by rfl) ?_
            exact FIN.out)
end Go.Proofs.YtlgmhhimbabkjaaGreatDoor
namespace Go.Proofs.YtlgmhhimbabkjaaGreatDoor
open Go.RowKit

theorem escB_len (c : UInt8) : (escB c).length ≤ 4 := by
  unfold escB
  split
  · simp
  · split
    · simp
    · split
      · simp
      · split
        · simp
        · simp
theorem AppB.trans {base : Nat} {u v : Value} {w w1 w2 : World} {o : List UInt8} {e : Ending} (h : AppB base v w1 o e w2) (hb : Grw w u.ownBlock v.ownBlock w1) : AppB base u w o e w2 := by
  obtain ⟨A, n, c, rfl, h1, h2, h3, h4, h5⟩ := h
  exact ⟨A, n, c, rfl, h1, h2, h3, h4, Lib.hid (hb.trans h5.out)⟩
theorem bytes_take (s : ByteArray) (k : Nat) (h : k < s.size) : s.data.toList.take (k + 1) = s.data.toList.take k ++ [s[k]] := by
  rw [List.take_succ_eq_append_getElem (by simpa using h)]; rfl
theorem esc_step (o o' : List UInt8) (s : ByteArray) (k : Nat) (h : k < s.size) (e : o' = o ++ 34 :: (s.data.toList.take k).flatMap escB) : o' ++ escB s[k] = o ++ 34 :: (s.data.toList.take (k + 1)).flatMap escB := by
  rw [bytes_take s k h, List.flatMap_append, e]
  simp

set_option maxRecDepth 100000 in
set_option maxHeartbeats 4000000 in
theorem literal_app (base : Nat) (A : Option Addr) (n cp : Nat) (o : List UInt8) (s : ByteArray) (w : World) (hown : w.ownsRow base 5 1 (.slice A n cp) n (o.map b8)) (hb : base ≤ w.heap.size) (hn : n + 4 * s.size + 2 ≤ 100000000) :
    Calls Tryz.prog 20 #[.slice A n cp, .string s] w (AppB base (.slice A n cp) w (o ++ quoL s.data.toList)) := by
  obtain ⟨ti, hti, hz, hsz, hby⟩ := info_parts Tryz.infob
  have HO := Lib.hid hown
  have HB := Lib.hid hb
  have HX : Hid (Rb (w.alloc (.cells #[.int .u8 34] 5)) (w.heap.size + 1) (some ⟨w.heap.size, 0, none⟩) 1 [34]) := Lib.hid (Rb.lit w 5 [34])
  clear hown hb
  go_enter Tryz.func20, Tryz.ntmps20
  go_wp2_with (at_builtin; refine wpList_append_b8_at rfl _ _ 38 rfl base 5 ti (.int .u8 0) Tryz.underlying38 hti hz hsz hby rfl _ n (o.map b8) rfl (HO.out.alloc _) (w.heap.size + 1) ⟨w.heap.size, 0, none⟩ 1 1 [34] rfl HX.out (by simp) ?_ ?_ ?_)
  · omega
  · rw [World.size_alloc]; have := HB.out; omega
  · intro v3 w3 ho hg
    have HA : Hid (AppB base (.slice A n cp) w (o ++ [34]) (.returned v3) w3) := Lib.hid (AppB.mk' (n := n + 1) (by rw [List.map_append]; exact ho) hg.new)
    obtain ⟨A1, n1, c1, hv, hl1, h1, h2, ho1, hw1⟩ := HA.out
    injection hv with hv
    subst hv
    have hn1 : n1 = n + 1 := by
      have := hl1.out
      have h9 := own_len ho1.out
      have h8 := own_len HO.out
      simp at this h8
      omega
    subst hn1
    clear ho hg HA
    go_wp2
    go_loopg [0, 11] (s.size) (fun gh b x wr => ∃ (k : Nat) (A' : Option Addr) (n' c' : Nat) (o' : List UInt8), k ≤ s.size ∧ gh = s.size - k ∧ x = .int .i64 k ∧ b = .slice A' n' c' ∧ n' ≤ c' ∧ c' ≤ 9223372036854775807 ∧ n' ≤ n + 1 + 4 * k ∧ Hid (o'.length = n') ∧ Hid (o' = o ++ 34 :: (s.data.toList.take k).flatMap escB) ∧ Hid (wr.ownsRow base 5 1 (.slice A' n' c') n' (o'.map b8)) ∧ Hid (Grw w (Value.slice A n cp).ownBlock (Value.slice A' n' c').ownBlock wr))
    case atStart => exact ⟨0, A1, n + 1, c1, o ++ [34], by omega, by omega, rfl, rfl, h1, h2, by omega, hl1, Lib.hid (by simp), ho1, hw1⟩
    case round =>
      obtain ⟨k, A', n', c', o', hk, hg, rfl, rfl, hnc, hcm, hn', HL, HE, HW, HBL⟩ := hrel
      by_cases hlt : k < s.size
      · have HE2 := Lib.hid (esc_step o o' s k hlt HE.out)
        have HBw : Hid (base ≤ wr.heap.size) := Lib.hid (Nat.le_trans HB.out HBL.out.1.size)
        have HLE := Lib.hid (escB_len s[k])
        go_wp2_with fail
        refine (escaped_any base A' n' c' o' s[k] wr HW.out HBw.out (by omega)).mono ?_
        rintro _ w4 ⟨A2, n2, c2, rfl, hl2, h3, h4, ho2, hw2⟩
        have hn2 : n2 ≤ n + 1 + 4 * (k + 1) := by
          have e1 := hl2.out
          have e2 := HLE.out
          have e3 := HL.out
          rw [List.length_append] at e1
          omega
        have HBL2 := Lib.hid (HBL.out.trans hw2.out)
        go_wp2
        go_roundg (s.size - (k + 1))
        case rel => exact ⟨k + 1, A2, n2, c2, o' ++ escB s[k], by omega, rfl, by go_num, rfl, h3, h4, hn2, hl2, HE2, ho2, HBL2⟩
        case measure => omega
      · have HE2 : Hid (o' = o ++ 34 :: s.data.toList.flatMap escB) := Lib.hid (by rw [HE.out, List.take_of_length_le (by simpa using Nat.le_of_not_lt hlt)])
        have HX2 : Hid (Rb (wr.alloc (.cells #[.int .u8 34] 5)) (wr.heap.size + 1) (some ⟨wr.heap.size, 0, none⟩) 1 [34]) := Lib.hid (Rb.lit wr 5 [34])
        have HBw : Hid (base ≤ wr.heap.size) := Lib.hid (Nat.le_trans HB.out HBL.out.1.size)
        go_wp2_with (at_builtin; refine wpList_append_b8_at rfl _ _ 38 rfl base 5 ti (.int .u8 0) Tryz.underlying38 hti hz hsz hby rfl _ n' (o'.map b8) rfl (HW.out.alloc _) (wr.heap.size + 1) ⟨wr.heap.size, 0, none⟩ 1 1 [34] rfl HX2.out (by simp) ?_ ?_ ?_)
        · omega
        · rw [World.size_alloc]; have := HBw.out; omega
        · intro v4 w4 ho hg
          have FIN : Hid (AppB base (.slice A n cp) w (o ++ quoL s.data.toList) (.returned v4) w4) := Lib.hid ((AppB.mk' (u := .slice A' n' c') (n := n' + 1) (o := o ++ quoL s.data.toList) (by
            have e : o ++ quoL s.data.toList = o' ++ [34] := by rw [HE2.out]; unfold quoL; simp
            rw [e, List.map_append]; exact ho) hg.new).trans HBL.out)
          clear ho hg
          go_wp2
          go_ret
          exact FIN.out
end Go.Proofs.YtlgmhhimbabkjaaGreatDoor
namespace Go.Proofs.YtlgmhhimbabkjaaGreatDoor
open Go.RowKit

set_option maxRecDepth 100000 in
set_option maxHeartbeats 4000000 in
theorem Quote_any (s : ByteArray) (w : World) (hn : 4 * s.size + 2 ≤ 100000000) :
    Calls Tryz.prog 11 #[.string s] w fun e w' => e = .returned (.string ⟨(quoL s.data.toList).toArray⟩) ∧ Below w.heap.size w w' := by
  go_enter Tryz.func11, Tryz.ntmps11
  go_wp2_with fail
  refine (literal_app w.heap.size none 0 0 [] s w ⟨rfl, .inl ⟨rfl, rfl⟩⟩ (Nat.le_refl _) (by omega)).mono ?_
  rintro _ w1 ⟨A, n, c, rfl, hl, h1, h2, ho, hbl⟩
  rw [List.nil_append] at ho
  have HS := run_str (P := Tryz.prog) (c := c) 38 9 5 Tryz.underlying38 Tryz.underlying5 Tryz.underlying9 (Rb.of_own ho.out)
  go_wp2
  go_ret
  exact ⟨rfl, (Below.refl _ _).grown hbl.out.1 (Nat.le_refl _) (fun k hk => by cases hk)⟩
end Go.Proofs.YtlgmhhimbabkjaaGreatDoor
namespace Go.Proofs.YtlgmhhimbabkjaaGreatDoor
open Go.RowKit

/-- the words of a truth -/
def boolL (b : Bool) : List UInt8 := if b then [116, 114, 117, 101] else [102, 97, 108, 115, 101]

set_option maxRecDepth 100000 in
set_option maxHeartbeats 4000000 in
theorem inBool_app (b : Bool) (base : Nat) (A : Option Addr) (n cp : Nat) (o : List UInt8) (w : World) (hown : w.ownsRow base 5 1 (.slice A n cp) n (o.map b8)) (hb : base ≤ w.heap.size) (hn : n ≤ 100000000) :
    Calls Tryz.prog 64 #[.slice A n cp, .bool b] w (AppB base (.slice A n cp) w (o ++ boolL b)) := by
  obtain ⟨ti, hti, hz, hsz, hby⟩ := info_parts Tryz.infob
  have HO := Lib.hid hown
  have HB := Lib.hid hb
  clear hown hb
  cases b with
  | true =>
    go_enter Tryz.func64, Tryz.ntmps64
    go_wp2_with (at_builtin; refine wpList_append_str_at rfl _ _ 38 9 rfl base 5 ti Tryz.underlying38 Tryz.underlying9 hti hz hsz hby _ _ _ rfl HO.out ⟨#[116, 114, 117, 101]⟩ rfl ?_ ?_ ?_ ?_)
    · show n + 4 ≤ maxLen; unfold maxLen; omega
    · show n + 4 ≤ _; omega
    · exact HB.out
    · intro v3 w3 ho hg
      have FIN : Hid (AppB base (.slice A n cp) w (o ++ boolL true) (.returned v3) w3) := Lib.hid (AppB.mk' (n := n + 4) (by rw [List.map_append]; exact ho) hg)
      clear ho hg
      go_wp2
      go_ret
      exact FIN.out
  | false =>
    go_enter Tryz.func64, Tryz.ntmps64
    go_wp2_with (at_builtin; refine wpList_append_str_at rfl _ _ 38 9 rfl base 5 ti Tryz.underlying38 Tryz.underlying9 hti hz hsz hby _ _ _ rfl HO.out ⟨#[102, 97, 108, 115, 101]⟩ rfl ?_ ?_ ?_ ?_)
    · show n + 5 ≤ maxLen; unfold maxLen; omega
    · show n + 5 ≤ _; omega
    · exact HB.out
    · intro v3 w3 ho hg
      have FIN : Hid (AppB base (.slice A n cp) w (o ++ boolL false) (.returned v3) w3) := Lib.hid (AppB.mk' (n := n + 5) (by rw [List.map_append]; exact ho) hg)
      clear ho hg
      go_wp2
      go_ret
      exact FIN.out
set_option maxRecDepth 100000 in
set_option maxHeartbeats 4000000 in
theorem bool_app (b : Bool) (base : Nat) (A : Option Addr) (n cp : Nat) (o : List UInt8) (w : World) (hown : w.ownsRow base 5 1 (.slice A n cp) n (o.map b8)) (hb : base ≤ w.heap.size) (hn : n ≤ 100000000) :
    Calls Tryz.prog 37 #[.slice A n cp, .bool b] w (AppB base (.slice A n cp) w (o ++ boolL b)) := by
  have HI := Lib.hid (inBool_app b base A n cp o w hown hb hn)
  clear hown hb
  go_enter Tryz.func37, Tryz.ntmps37
  go_wp2_with fail
  refine (HI.out).mono ?_
  rintro _ w1 ⟨A2, n2, c2, rfl, hl, h1, h2, ho, hf⟩
  go_wp2
  go_ret
  exact ⟨A2, n2, c2, rfl, hl, h1, h2, ho, hf⟩

/-- the table of powers of ten, below a bound -/
def PowTab (B : Nat) (w : World) : Prop := Lib.TabBelow Tryz.prog B w "internal/strconv.uint64pow10" .u64 Lib.pow10Tab
theorem PowTab.on {B : Nat} {w w1 : World} (h : PowTab B w) (hb : Below B w w1) : PowTab B w1 := Lib.TabBelow.on h hb
end Go.Proofs.YtlgmhhimbabkjaaGreatDoor
namespace Go.Proofs.YtlgmhhimbabkjaaGreatDoor
open Go.RowKit Go.Sort

theorem dec_len (u : Nat) (h : u < 18446744073709551616) (h1 : 1 ≤ u) : (Lib.decDigits u).length ≤ 20 := by
  rw [Lib.decDigits_length]
  have := Lib.numDigits_eq u h1 h
  split at this <;> omega
theorem dec_ne (u : Nat) : Lib.decDigits u ≠ [] := by
  intro e
  have h := Lib.decDigits_length u
  rw [e] at h
  by_cases h10 : u < 10
  · rw [Lib.nDigits_small h10] at h; simp at h
  · rw [Lib.nDigits_big h10] at h; simp at h

set_option maxRecDepth 100000 in
set_option maxHeartbeats 4000000 in
theorem uint_small (u : Nat) (hu : u < 100) (base : Nat) (A : Option Addr) (n cp : Nat) (o : List UInt8) (w : World) (hown : w.ownsRow base 5 1 (.slice A n cp) n (o.map b8)) (hb : base ≤ w.heap.size) (hn : n ≤ 100000000) :
    Calls Tryz.prog 86 #[.slice A n cp, .int .u64 u, .int .i64 10] w (AppB base (.slice A n cp) w (o ++ Lib.decDigits u)) := by
  obtain ⟨ti, hti, hz, htz, hby⟩ := info_parts Tryz.infob
  have HO := Lib.hid hown
  have HB := Lib.hid hb
  have HC := Lib.hid (fun (W : World) => (Tryz.internal_strconv_small u hu W).mono (fun _ _ (h : _ ∧ _) => (⟨h.1, h.2.symm⟩ : _ ∧ W = _)))
  have hl : (Lib.decDigits u).length ≤ 20 := by
    rcases Nat.eq_zero_or_pos u with h | h
    · subst h; rw [Lib.decDigits_length, Lib.nDigits_small (by omega)]; omega
    · exact dec_len u (by omega) h
  have HS : Hid ((⟨(Lib.decDigits u).toArray⟩ : ByteArray).size = (Lib.decDigits u).length) := Lib.hid (by simp [ByteArray.size])
  have HL := Lib.hid hl
  clear hown hb hl
  go_enter Tryz.func86, Tryz.ntmps86
  go_wp2_with fail
  refine (HC.out _).mono ?_
  rintro _ _ ⟨rfl, rfl⟩
  go_wp2_with (at_builtin; refine wpList_append_str_at rfl _ _ 38 9 rfl base 5 ti Tryz.underlying38 Tryz.underlying9 hti hz htz hby _ _ _ rfl HO.out ⟨(Lib.decDigits u).toArray⟩ rfl ?_ ?_ ?_ ?_)
  · have h1 := HS.out; have h2 := HL.out; rw [h1]; unfold maxLen; omega
  · have h1 := HS.out; have h2 := HL.out; rw [h1]; omega
  · exact HB.out
  · intro v3 w3 ho hg
    have FIN : Hid (AppB base (.slice A n cp) w (o ++ Lib.decDigits u) (.returned v3) w3) := Lib.hid (AppB.mk' (n := n + (Lib.decDigits u).length) (by rw [List.map_append, ← HS.out]; exact ho) hg)
    clear ho hg
    go_wp2
    go_ret
    exact FIN.out

set_option maxRecDepth 100000 in
set_option maxHeartbeats 4000000 in
theorem uint_big (u : Nat) (hu : 100 ≤ u) (h64 : u < 18446744073709551616) (base : Nat) (A : Option Addr) (n cp : Nat) (o : List UInt8) (w : World) (hown : w.ownsRow base 5 1 (.slice A n cp) n (o.map b8)) (hb : base ≤ w.heap.size) (hn : n ≤ 100000000) (hT : PowTab base w) :
    Calls Tryz.prog 86 #[.slice A n cp, .int .u64 u, .int .i64 10] w (AppB base (.slice A n cp) w (o ++ Lib.decDigits u)) := by
  obtain ⟨ti, hti, hz, htz, hby⟩ := info_parts Tryz.infob
  have HO := Lib.hid hown
  have HB := Lib.hid hb
  have hlen := dec_len u h64 (by omega)
  rw [Lib.decDigits_length] at hlen
  obtain ⟨w1, hw1⟩ : ∃ w1, w1 = w.alloc (.cells Lib.zeros24 94) := ⟨_, rfl⟩
  have HN := Lib.hid ((Tryz.internal_strconv_numDigits u (by omega) h64 w1 (by rw [hw1]; exact Lib.tabIs_alloc hT.here _)).mono (fun _ _ (h : _ ∧ _) => (⟨h.1, h.2.symm⟩ : _ ∧ w1 = _)))
  have hH : Holds (fun (b : UInt8) => Value.int .u8 (b.toNat : Int)) w1 w.heap.size 0 (Array.replicate (Lib.nDigits u) 0) := by rw [hw1]; exact Lib.holds_zero0 w _ _ (by omega)
  have HF := Lib.hid (Tryz.internal_strconv_formatBase10 w.heap.size 0 24 u (Array.replicate (Lib.nDigits u) 0) w1 hH (by rw [Array.size_replicate]; exact Lib.lt_pow_nDigits u) h64 (by rw [Array.size_replicate]; omega))
  rw [Array.size_replicate] at HF
  have HH := Lib.hid hH
  have hsl : ∀ W, (Instr.sliceAt 94 (.pointer (some ⟨w.heap.size, 0, none⟩)) none (some (.int .i64 (Lib.nDigits u : Int))) none).run Tryz.prog W = .ok (.slice (some ⟨w.heap.size, 0, none⟩) (Lib.nDigits u) 24) W := fun W => by
    have hal : Tryz.prog.arrayLen 94 = 24 := by kernel_rfl
    rw [run_sliceAt_array_h W 94 ⟨w.heap.size, 0, none⟩ (by kernel_rfl) .i64 (Lib.nDigits u : Int) (by omega) (by rw [hal]; omega), hal]
    have hel : Tryz.prog.elem 94 = 5 := by kernel_rfl
    rw [hel]
    simp [sizeOf, typeInfo, hti, htz, Result.andThen, slicedAt, Lib.add_plain]
  have iu : (100 : Int) ≤ (u : Int) := by omega
  have HW := Lib.hid hw1
  clear hown hb hH hT hw1
  go_enter Tryz.func86, Tryz.ntmps86
  go_wp2_with fail
  change Calls _ _ _ (w.alloc (.cells Lib.zeros24 94)) _
  rw [← HW.out]
  refine (HN.out).mono ?_
  rintro _ _ ⟨rfl, rfl⟩
  go_wp2_with fail
  refine (HF.out).mono ?_
  rintro _ w2 ⟨rfl, k, v', dk, hw2, hfi⟩
  obtain ⟨os, eo⟩ := Lib.fin_at w (.cells Lib.zeros24 94) dk k 0
  rw [← HW.out, ← hw2] at eo
  have O2 : Hid (w2.ownsRow base 5 1 (.slice A n cp) n (o.map b8)) := Lib.hid (by rw [eo]; exact Lib.ownsRow_grow HO.out k os)
  have B2 : Hid (Below w.heap.size w w2) := Lib.hid (by rw [eo]; exact Lib.below_grow _ w (Nat.le_refl _) k os)
  have R2 : Hid (Rb w2 (w.heap.size + 1) (some ⟨w.heap.size, 0, none⟩) (Lib.nDigits u) (Lib.decDigits u)) := Lib.hid ⟨Lib.decDigits_length u, fun _ => ⟨_, 0, rfl, by omega, fun j c hj => by
    obtain ⟨hjl, hc⟩ := List.getElem?_eq_some_iff.1 hj
    have hjd : j < dk.size := by rw [hfi.size]; rw [Lib.decDigits_length] at hjl; exact hjl
    rw [hw2, World.cell?_drewN, cell?_putRow (fun (b : UInt8) => Value.int .u8 (b.toNat : Int)) w1 w.heap.size 0 _ dk HH.out (by rw [hfi.size, Array.size_replicate]) j hjd, ← Lib.row_is_numeral hfi j hjl, hc]
    rfl⟩⟩
  clear hw2 eo hfi
  go_wp2_with (at_builtin; refine wpList_append_b8_at rfl _ _ 38 rfl base 5 ti (.int .u8 0) Tryz.underlying38 hti hz htz hby rfl _ n (o.map b8) rfl O2.out (w.heap.size + 1) ⟨w.heap.size, 0, none⟩ (Lib.nDigits u) 24 (Lib.decDigits u) rfl R2.out (dec_ne u) ?_ ?_ ?_)
  · omega
  · have := B2.out.size; have := HB.out; omega
  · intro v3 w3 ho hg
    have FIN : Hid (AppB base (.slice A n cp) w (o ++ Lib.decDigits u) (.returned v3) w3) := Lib.hid (AppB.mk' (n := n + Lib.nDigits u) (by rw [List.map_append]; exact ho) (Grw.trans (r1 := (Value.slice A n cp).ownBlock) ⟨grown_of_below B2.out, fun b h => .inl h⟩ hg))
    clear ho hg
    go_wp2
    go_ret
    exact FIN.out
theorem uint_app (u : Nat) (h64 : u < 18446744073709551616) (base : Nat) (A : Option Addr) (n cp : Nat) (o : List UInt8) (w : World) (hown : w.ownsRow base 5 1 (.slice A n cp) n (o.map b8)) (hb : base ≤ w.heap.size) (hn : n ≤ 100000000) (hT : PowTab base w) :
    Calls Tryz.prog 86 #[.slice A n cp, .int .u64 u, .int .i64 10] w (AppB base (.slice A n cp) w (o ++ Lib.decDigits u)) := by
  rcases Nat.lt_or_ge u 100 with h | h
  · exact uint_small u h base A n cp o w hown hb hn
  · exact uint_big u h h64 base A n cp o w hown hb hn hT

set_option maxRecDepth 100000 in
set_option maxHeartbeats 4000000 in
theorem inInt_app (i : Int) (base : Nat) (A : Option Addr) (n cp : Nat) (o : List UInt8) (w : World) (hown : w.ownsRow base 5 1 (.slice A n cp) n (o.map b8)) (hb : base ≤ w.heap.size) (hn : n + 1 ≤ 100000000) (h1 : -9223372036854775808 ≤ i) (h2 : i ≤ 9223372036854775807) (hT : PowTab base w) :
    Calls Tryz.prog 65 #[.slice A n cp, .int .i64 i, .int .i64 10] w (AppB base (.slice A n cp) w (o ++ Lib.itoa i)) := by
  obtain ⟨ti, hti, hz, htz, hby⟩ := info_parts Tryz.infob
  rcases Int.lt_or_le i 0 with hneg | hpos
  · obtain ⟨u, rfl⟩ : ∃ u : Nat, i = -(u : Int) := ⟨i.natAbs, by omega⟩
    have hu1 : 1 ≤ u := by omega
    rw [Lib.itoa_neg u hu1]
    have hwr : IntKind.u64.wrap (-IntKind.u64.wrap (-(u : Int))) = (u : Int) := by rw [IntKind.wrap_u64, IntKind.wrap_u64]; omega
    have HO := Lib.hid hown
    have HB := Lib.hid hb
    have HT := Lib.hid hT
    have HX : Hid (Rb (w.alloc (.cells #[.int .u8 45] 5)) (w.heap.size + 1) (some ⟨w.heap.size, 0, none⟩) 1 [45]) := Lib.hid (Rb.lit w 5 [45])
    clear hown hb hT
    go_enter Tryz.func65, Tryz.ntmps65
    go_wp2_with (at_builtin; refine wpList_append_b8_at rfl _ _ 38 rfl base 5 ti (.int .u8 0) Tryz.underlying38 hti hz htz hby rfl _ n (o.map b8) rfl (HO.out.alloc _) (w.heap.size + 1) ⟨w.heap.size, 0, none⟩ 1 1 [45] rfl HX.out (by simp) ?_ ?_ ?_)
    · omega
    · rw [World.size_alloc]; have := HB.out; omega
    · intro v3 w3 ho hg
      have HA : Hid (AppB base (.slice A n cp) w (o ++ [45]) (.returned v3) w3) := Lib.hid (AppB.mk' (n := n + 1) (by rw [List.map_append]; exact ho) hg.new)
      obtain ⟨A1, n1, c1, hv, hl1, g1, g2, ho1, hw1⟩ := HA.out
      injection hv with hv
      subst hv
      have hn1 : n1 = n + 1 := by
        have h := hl1.out
        have h9 := own_len HO.out
        rw [List.length_append] at h
        simp at h h9
        omega
      subst hn1
      have HBw : Hid (base ≤ w3.heap.size) := Lib.hid (Nat.le_trans HB.out hw1.out.1.size)
      have HU := Lib.hid (uint_app u (by omega) base A1 (n + 1) c1 (o ++ [45]) w3 ho1.out HBw.out (by omega) (HT.out.on (Frm.of_grw hw1.out HO.out HB.out).below))
      clear ho hg HA
      go_wp2_with fail
      refine (HU.out).mono ?_
      rintro _ w4 ⟨A2, n2, c2, rfl, hl2, g3, g4, ho2, hw2⟩
      have HE : Hid (o ++ 45 :: Lib.decDigits u = o ++ [45] ++ Lib.decDigits u) := Lib.hid (by simp)
      go_wp2
      go_ret
      exact ⟨A2, n2, c2, rfl, Lib.hid (by rw [HE.out]; exact hl2.out), g3, g4, Lib.hid (by rw [HE.out]; exact ho2.out), Lib.hid (hw1.out.trans hw2.out)⟩
  · obtain ⟨u, rfl⟩ : ∃ u : Nat, i = u := ⟨i.toNat, by omega⟩
    rw [Lib.itoa_nonneg]
    have HU := Lib.hid (uint_app u (by omega) base A n cp o w hown hb (by omega) hT)
    clear hown hb hT
    go_enter Tryz.func65, Tryz.ntmps65
    go_wp2_with fail
    refine (HU.out).mono ?_
    rintro _ w4 ⟨A2, n2, c2, rfl, hl2, g3, g4, ho2, hw2⟩
    go_wp2
    go_ret
    exact ⟨A2, n2, c2, rfl, hl2, g3, g4, ho2, hw2⟩
set_option maxRecDepth 100000 in
set_option maxHeartbeats 4000000 in
theorem int_app (i : Int) (base : Nat) (A : Option Addr) (n cp : Nat) (o : List UInt8) (w : World) (hown : w.ownsRow base 5 1 (.slice A n cp) n (o.map b8)) (hb : base ≤ w.heap.size) (hn : n + 1 ≤ 100000000) (h1 : -9223372036854775808 ≤ i) (h2 : i ≤ 9223372036854775807) (hT : PowTab base w) :
    Calls Tryz.prog 38 #[.slice A n cp, .int .i64 i, .int .i64 10] w (AppB base (.slice A n cp) w (o ++ Lib.itoa i)) := by
  have HI := Lib.hid (inInt_app i base A n cp o w hown hb hn h1 h2 hT)
  clear hown hb hT h1 h2
  go_enter Tryz.func38, Tryz.ntmps38
  go_wp2_with fail
  refine (HI.out).mono ?_
  rintro _ w1 ⟨A2, n2, c2, rfl, hl, h1, h2, ho, hf⟩
  go_wp2
  go_ret
  exact ⟨A2, n2, c2, rfl, hl, h1, h2, ho, hf⟩
end Go.Proofs.YtlgmhhimbabkjaaGreatDoor
namespace Go.Proofs.YtlgmhhimbabkjaaGreatDoor
open Go.RowKit

set_option maxRecDepth 100000 in
set_option maxHeartbeats 4000000 in
set_option linter.unusedVariables false in
theorem wfr_0 (m : Nat) (IH : Hid (∀ (x : VT) (w : World) (v : Value), x.size ≤ m → Lies w (Lo w) x v → Calls Tryz.prog 30 #[v] w (Gives (.bool x.wf) w))) (i : Int) (t : ByteArray) (its : List VT) (ks : List ByteArray) (A : Option Addr) (c : Nat) (A' : Option Addr) (c' : Nat) (w : World) (hL : LiesL w (Lo w) A 0 its) (hS : LiesS w (Lo w) A' ks)
    (hlc : its.length ≤ c) (hcm : c ≤ 9223372036854775807) (hkc : ks.length ≤ c') (hcm' : c' ≤ 9223372036854775807) (hsz : sizes its ≤ m) :
    Calls Tryz.prog 30 #[vag 0 i t A its.length c A' ks.length c'] w (Gives (.bool (VT.mk 0 i t its ks).wf) w) := by
  have HS := Lib.hid hS
  have HL := Lib.hid hL
  clear hS hL
  unfold vag
  go_enter Tryz.func30, Tryz.ntmps30
  go_wp2
  obtain ⟨w1, hw1⟩ : ∃ w1, w1 = w.alloc (.cells #[.int .i64 0, .int .i64 i, .string t, .slice A its.length c, .slice A' ks.length c'] 25) := ⟨_, rfl⟩
  have B0 : Hid (Below w.heap.size w w1) := Lib.hid (by rw [hw1]; exact below_one _ _)
  have S1 : Hid (w.heap.size < w1.heap.size) := Lib.hid (by rw [hw1]; simp)
  have D : Hid (∀ j, w1.cell? ⟨w.heap.size, j, none⟩ = (#[.int .i64 0, .int .i64 i, .string t, .slice A its.length c, .slice A' ks.length c'] : Array Value)[j]?) := Lib.hid (fun j => by rw [hw1, World.cell?_alloc_at _ _ _ _ rfl])
  rw [← hw1]
  have HW := Lib.hid hw1
  clear hw1
  go_loopw [3] (fun s wr => ∃ j : Nat, j ≤ its.length ∧ s = .int .i64 j ∧ Hid (alls okF (its.take j) = true) ∧ Hid (Below w1.heap.size w1 wr)) (fun s _ => its.length - (intOf s).toNat)
  case atStart => exact ⟨0, by omega, rfl, Lib.hid rfl, Lib.hid (Below.refl _ _)⟩
  case round =>
    obtain ⟨j, hjn, rfl, ha, hb⟩ := hrel
    have C3 := (hb.out.cell (p := ⟨w.heap.size, 3, none⟩) S1.out).trans (D.out 3)
    by_cases hlt : j < its.length
    · obtain ⟨g, o, k', i', t', B, n', c1, B', n1, c2, rfl, hg, e0, e1, e2, e3, e4, hx⟩ := (HL.out).at_ (j := j) (x := its[j]'hlt) (List.getElem?_eq_getElem _)
      have hj := alls_take (p := okF) (List.getElem?_eq_getElem (l := its) (i := j) hlt)
      have hle := size_at (List.getElem?_eq_getElem (l := its) (i := j) hlt)
      have hfl := fun h => alls_false (p := okF) (List.getElem?_eq_getElem (l := its) (i := j) hlt) h
      have hb' : Below w.heap.size w wr := below_next B0.out hb.out
      have cc := fun (q : Nat) => hb'.cell (p := ⟨g, q, none⟩) hg
      rw [Nat.zero_add] at e0 e1 e2 e3 e4
      rw [← cc] at e0 e1 e2 e3 e4
      have hc := IH.out (its[j]'hlt) wr _ (by omega) (hx.below hb')
      generalize its[j]'hlt = x at *
      unfold VT.wf at hc
      have HC := Lib.hid hc
      rw [ha.out, Bool.true_and] at hj
      have HJ := Lib.hid hj
      have HF := Lib.hid hfl
      clear hc hx hb' cc hj hfl
      unfold vag at HC
      go_wp2_with fail
      refine (HC.out).mono ?_
      rintro e w' ⟨rfl, hb2⟩
      have HB2 := Lib.hid (below_next hb.out hb2)
      clear hb2
      cases hxx : x.all okF with
      | true =>
        have HXX := Lib.hid hxx
        clear hxx
        go_wp2
        go_roundw
        case rel => exact ⟨j + 1, by omega, by go_num, Lib.hid (by rw [HJ.out, HXX.out]), HB2⟩
        case measure => simp [intOf]; omega
      | false =>
        have HXX := Lib.hid (HF.out hxx)
        clear hxx
        go_wp2
        go_ret
        exact ⟨ret_bool (by rw [VT.wf, VT.all_mk, HXX.out, Bool.and_false]), below_next B0.out HB2.out⟩
    · obtain rfl : j = its.length := by omega
      have HA : Hid (alls okF its = true) := Lib.hid (by rw [← ha.out, List.take_length])
      have C0 := (hb.out.cell (p := ⟨w.heap.size, 0, none⟩) S1.out).trans (D.out 0)
      have C1 := (hb.out.cell (p := ⟨w.heap.size, 1, none⟩) S1.out).trans (D.out 1)
      have C2 := (hb.out.cell (p := ⟨w.heap.size, 2, none⟩) S1.out).trans (D.out 2)
      have C4 := (hb.out.cell (p := ⟨w.heap.size, 4, none⟩) S1.out).trans (D.out 4)
      clear hlt ha
      by_cases hI0 : i = 0
      · have fhI0 : (i == 0) = true := by rw [beq_iff_eq]; omega
        by_cases hT : t.size = 0
        · have fhT : (t.toList == []) = true := by rw [tl_empty]; exact decide_eq_true hT
          by_cases hN : its.length = 0
          · have fhN : (((its.length : Nat) : Int) == 0) = true := by rw [beq_iff_eq]; omega
            by_cases hK : ks.length = 0
            · have fhK : (((ks.length : Nat) : Int) == 0) = true := by rw [beq_iff_eq]; omega
              have key : okF (.mk 0 i t its ks) = true := by rw [okF_0]; simp [*]
              have KEY := Lib.hid key
              clear hI0 hT hN hK key
              go_wp2
              go_ret
              exact ⟨ret_bool (by rw [VT.wf, VT.all_mk, KEY.out, HA.out]; rfl), below_next B0.out hb.out⟩
            · have fhK : (((ks.length : Nat) : Int) == 0) = false := by rw [beq_eq_false_iff_ne]; omega
              have key : okF (.mk 0 i t its ks) = false := by rw [okF_0]; simp [*]
              have KEY := Lib.hid key
              clear hI0 hT hN hK key
              go_wp2
              go_ret
              exact ⟨ret_bool (by rw [VT.wf, VT.all_mk, KEY.out, HA.out]; rfl), below_next B0.out hb.out⟩
          · have fhN : (((its.length : Nat) : Int) == 0) = false := by rw [beq_eq_false_iff_ne]; omega
            have key : okF (.mk 0 i t its ks) = false := by rw [okF_0]; simp [*]
            have KEY := Lib.hid key
            clear hI0 hT hN key
            go_wp2
            go_ret
            exact ⟨ret_bool (by rw [VT.wf, VT.all_mk, KEY.out, HA.out]; rfl), below_next B0.out hb.out⟩
        · have fhT : (t.toList == []) = false := by rw [tl_empty]; exact decide_eq_false hT
          have key : okF (.mk 0 i t its ks) = false := by rw [okF_0]; simp [*]
          have KEY := Lib.hid key
          clear hI0 hT key
          go_wp2
          go_ret
          exact ⟨ret_bool (by rw [VT.wf, VT.all_mk, KEY.out, HA.out]; rfl), below_next B0.out hb.out⟩
      · have fhI0 : (i == 0) = false := by rw [beq_eq_false_iff_ne]; omega
        have key : okF (.mk 0 i t its ks) = false := by rw [okF_0]; simp [*]
        have KEY := Lib.hid key
        clear hI0 key
        go_wp2
        go_ret
        exact ⟨ret_bool (by rw [VT.wf, VT.all_mk, KEY.out, HA.out]; rfl), below_next B0.out hb.out⟩

set_option maxRecDepth 100000 in
set_option maxHeartbeats 4000000 in
set_option linter.unusedVariables false in
theorem wfr_1 (m : Nat) (IH : Hid (∀ (x : VT) (w : World) (v : Value), x.size ≤ m → Lies w (Lo w) x v → Calls Tryz.prog 30 #[v] w (Gives (.bool x.wf) w))) (i : Int) (t : ByteArray) (its : List VT) (ks : List ByteArray) (A : Option Addr) (c : Nat) (A' : Option Addr) (c' : Nat) (w : World) (hL : LiesL w (Lo w) A 0 its) (hS : LiesS w (Lo w) A' ks)
    (hlc : its.length ≤ c) (hcm : c ≤ 9223372036854775807) (hkc : ks.length ≤ c') (hcm' : c' ≤ 9223372036854775807) (hsz : sizes its ≤ m) :
    Calls Tryz.prog 30 #[vag 1 i t A its.length c A' ks.length c'] w (Gives (.bool (VT.mk 1 i t its ks).wf) w) := by
  have HS := Lib.hid hS
  have HL := Lib.hid hL
  clear hS hL
  unfold vag
  go_enter Tryz.func30, Tryz.ntmps30
  go_wp2
  obtain ⟨w1, hw1⟩ : ∃ w1, w1 = w.alloc (.cells #[.int .i64 1, .int .i64 i, .string t, .slice A its.length c, .slice A' ks.length c'] 25) := ⟨_, rfl⟩
  have B0 : Hid (Below w.heap.size w w1) := Lib.hid (by rw [hw1]; exact below_one _ _)
  have S1 : Hid (w.heap.size < w1.heap.size) := Lib.hid (by rw [hw1]; simp)
  have D : Hid (∀ j, w1.cell? ⟨w.heap.size, j, none⟩ = (#[.int .i64 1, .int .i64 i, .string t, .slice A its.length c, .slice A' ks.length c'] : Array Value)[j]?) := Lib.hid (fun j => by rw [hw1, World.cell?_alloc_at _ _ _ _ rfl])
  rw [← hw1]
  have HW := Lib.hid hw1
  clear hw1
  go_loopw [3] (fun s wr => ∃ j : Nat, j ≤ its.length ∧ s = .int .i64 j ∧ Hid (alls okF (its.take j) = true) ∧ Hid (Below w1.heap.size w1 wr)) (fun s _ => its.length - (intOf s).toNat)
  case atStart => exact ⟨0, by omega, rfl, Lib.hid rfl, Lib.hid (Below.refl _ _)⟩
  case round =>
    obtain ⟨j, hjn, rfl, ha, hb⟩ := hrel
    have C3 := (hb.out.cell (p := ⟨w.heap.size, 3, none⟩) S1.out).trans (D.out 3)
    by_cases hlt : j < its.length
    · obtain ⟨g, o, k', i', t', B, n', c1, B', n1, c2, rfl, hg, e0, e1, e2, e3, e4, hx⟩ := (HL.out).at_ (j := j) (x := its[j]'hlt) (List.getElem?_eq_getElem _)
      have hj := alls_take (p := okF) (List.getElem?_eq_getElem (l := its) (i := j) hlt)
      have hle := size_at (List.getElem?_eq_getElem (l := its) (i := j) hlt)
      have hfl := fun h => alls_false (p := okF) (List.getElem?_eq_getElem (l := its) (i := j) hlt) h
      have hb' : Below w.heap.size w wr := below_next B0.out hb.out
      have cc := fun (q : Nat) => hb'.cell (p := ⟨g, q, none⟩) hg
      rw [Nat.zero_add] at e0 e1 e2 e3 e4
      rw [← cc] at e0 e1 e2 e3 e4
      have hc := IH.out (its[j]'hlt) wr _ (by omega) (hx.below hb')
      generalize its[j]'hlt = x at *
      unfold VT.wf at hc
      have HC := Lib.hid hc
      rw [ha.out, Bool.true_and] at hj
      have HJ := Lib.hid hj
      have HF := Lib.hid hfl
      clear hc hx hb' cc hj hfl
      unfold vag at HC
      go_wp2_with fail
      refine (HC.out).mono ?_
      rintro e w' ⟨rfl, hb2⟩
      have HB2 := Lib.hid (below_next hb.out hb2)
      clear hb2
      cases hxx : x.all okF with
      | true =>
        have HXX := Lib.hid hxx
        clear hxx
        go_wp2
        go_roundw
        case rel => exact ⟨j + 1, by omega, by go_num, Lib.hid (by rw [HJ.out, HXX.out]), HB2⟩
        case measure => simp [intOf]; omega
      | false =>
        have HXX := Lib.hid (HF.out hxx)
        clear hxx
        go_wp2
        go_ret
        exact ⟨ret_bool (by rw [VT.wf, VT.all_mk, HXX.out, Bool.and_false]), below_next B0.out HB2.out⟩
    · obtain rfl : j = its.length := by omega
      have HA : Hid (alls okF its = true) := Lib.hid (by rw [← ha.out, List.take_length])
      have C0 := (hb.out.cell (p := ⟨w.heap.size, 0, none⟩) S1.out).trans (D.out 0)
      have C1 := (hb.out.cell (p := ⟨w.heap.size, 1, none⟩) S1.out).trans (D.out 1)
      have C2 := (hb.out.cell (p := ⟨w.heap.size, 2, none⟩) S1.out).trans (D.out 2)
      have C4 := (hb.out.cell (p := ⟨w.heap.size, 4, none⟩) S1.out).trans (D.out 4)
      clear hlt ha
      by_cases hI0 : i = 0
      · have fhI0 : (i == 0) = true := by rw [beq_iff_eq]; omega
        by_cases hT : t.size = 0
        · have fhT : (t.toList == []) = true := by rw [tl_empty]; exact decide_eq_true hT
          by_cases hN : its.length = 0
          · have fhN : (((its.length : Nat) : Int) == 0) = true := by rw [beq_iff_eq]; omega
            by_cases hK : ks.length = 0
            · have fhK : (((ks.length : Nat) : Int) == 0) = true := by rw [beq_iff_eq]; omega
              have key : okF (.mk 1 i t its ks) = true := by rw [okF_1]; simp [*]
              have KEY := Lib.hid key
              clear hI0 hT hN hK key
              go_wp2
              go_ret
              exact ⟨ret_bool (by rw [VT.wf, VT.all_mk, KEY.out, HA.out]; rfl), below_next B0.out hb.out⟩
            · have fhK : (((ks.length : Nat) : Int) == 0) = false := by rw [beq_eq_false_iff_ne]; omega
              have key : okF (.mk 1 i t its ks) = false := by rw [okF_1]; simp [*]
              have KEY := Lib.hid key
              clear hI0 hT hN hK key
              go_wp2
              go_ret
              exact ⟨ret_bool (by rw [VT.wf, VT.all_mk, KEY.out, HA.out]; rfl), below_next B0.out hb.out⟩
          · have fhN : (((its.length : Nat) : Int) == 0) = false := by rw [beq_eq_false_iff_ne]; omega
            have key : okF (.mk 1 i t its ks) = false := by rw [okF_1]; simp [*]
            have KEY := Lib.hid key
            clear hI0 hT hN key
            go_wp2
            go_ret
            exact ⟨ret_bool (by rw [VT.wf, VT.all_mk, KEY.out, HA.out]; rfl), below_next B0.out hb.out⟩
        · have fhT : (t.toList == []) = false := by rw [tl_empty]; exact decide_eq_false hT
          have key : okF (.mk 1 i t its ks) = false := by rw [okF_1]; simp [*]
          have KEY := Lib.hid key
          clear hI0 hT key
          go_wp2
          go_ret
          exact ⟨ret_bool (by rw [VT.wf, VT.all_mk, KEY.out, HA.out]; rfl), below_next B0.out hb.out⟩
      · have fhI0 : (i == 0) = false := by rw [beq_eq_false_iff_ne]; omega
        by_cases hI1 : i = 1
        · have fhI1 : (i == 1) = true := by rw [beq_iff_eq]; omega
          by_cases hT : t.size = 0
          · have fhT : (t.toList == []) = true := by rw [tl_empty]; exact decide_eq_true hT
            by_cases hN : its.length = 0
            · have fhN : (((its.length : Nat) : Int) == 0) = true := by rw [beq_iff_eq]; omega
              by_cases hK : ks.length = 0
              · have fhK : (((ks.length : Nat) : Int) == 0) = true := by rw [beq_iff_eq]; omega
                have key : okF (.mk 1 i t its ks) = true := by rw [okF_1]; simp [*]
                have KEY := Lib.hid key
                clear hI0 hI1 hT hN hK key
                go_wp2
                go_ret
                exact ⟨ret_bool (by rw [VT.wf, VT.all_mk, KEY.out, HA.out]; rfl), below_next B0.out hb.out⟩
              · have fhK : (((ks.length : Nat) : Int) == 0) = false := by rw [beq_eq_false_iff_ne]; omega
                have key : okF (.mk 1 i t its ks) = false := by rw [okF_1]; simp [*]
                have KEY := Lib.hid key
                clear hI0 hI1 hT hN hK key
                go_wp2
                go_ret
                exact ⟨ret_bool (by rw [VT.wf, VT.all_mk, KEY.out, HA.out]; rfl), below_next B0.out hb.out⟩
            · have fhN : (((its.length : Nat) : Int) == 0) = false := by rw [beq_eq_false_iff_ne]; omega
              have key : okF (.mk 1 i t its ks) = false := by rw [okF_1]; simp [*]
              have KEY := Lib.hid key
              clear hI0 hI1 hT hN key
              go_wp2
              go_ret
              exact ⟨ret_bool (by rw [VT.wf, VT.all_mk, KEY.out, HA.out]; rfl), below_next B0.out hb.out⟩
          · have fhT : (t.toList == []) = false := by rw [tl_empty]; exact decide_eq_false hT
            have key : okF (.mk 1 i t its ks) = false := by rw [okF_1]; simp [*]
            have KEY := Lib.hid key
            clear hI0 hI1 hT key
            go_wp2
            go_ret
            exact ⟨ret_bool (by rw [VT.wf, VT.all_mk, KEY.out, HA.out]; rfl), below_next B0.out hb.out⟩
        · have fhI1 : (i == 1) = false := by rw [beq_eq_false_iff_ne]; omega
          have key : okF (.mk 1 i t its ks) = false := by rw [okF_1]; simp [*]
          have KEY := Lib.hid key
          clear hI0 hI1 key
          go_wp2
          go_ret
          exact ⟨ret_bool (by rw [VT.wf, VT.all_mk, KEY.out, HA.out]; rfl), below_next B0.out hb.out⟩

set_option maxRecDepth 100000 in
set_option maxHeartbeats 4000000 in
set_option linter.unusedVariables false in
theorem wfr_2 (m : Nat) (IH : Hid (∀ (x : VT) (w : World) (v : Value), x.size ≤ m → Lies w (Lo w) x v → Calls Tryz.prog 30 #[v] w (Gives (.bool x.wf) w))) (i : Int) (t : ByteArray) (its : List VT) (ks : List ByteArray) (A : Option Addr) (c : Nat) (A' : Option Addr) (c' : Nat) (w : World) (hL : LiesL w (Lo w) A 0 its) (hS : LiesS w (Lo w) A' ks)
    (hlc : its.length ≤ c) (hcm : c ≤ 9223372036854775807) (hkc : ks.length ≤ c') (hcm' : c' ≤ 9223372036854775807) (hsz : sizes its ≤ m) :
    Calls Tryz.prog 30 #[vag 2 i t A its.length c A' ks.length c'] w (Gives (.bool (VT.mk 2 i t its ks).wf) w) := by
  have HS := Lib.hid hS
  have HL := Lib.hid hL
  clear hS hL
  unfold vag
  go_enter Tryz.func30, Tryz.ntmps30
  go_wp2
  obtain ⟨w1, hw1⟩ : ∃ w1, w1 = w.alloc (.cells #[.int .i64 2, .int .i64 i, .string t, .slice A its.length c, .slice A' ks.length c'] 25) := ⟨_, rfl⟩
  have B0 : Hid (Below w.heap.size w w1) := Lib.hid (by rw [hw1]; exact below_one _ _)
  have S1 : Hid (w.heap.size < w1.heap.size) := Lib.hid (by rw [hw1]; simp)
  have D : Hid (∀ j, w1.cell? ⟨w.heap.size, j, none⟩ = (#[.int .i64 2, .int .i64 i, .string t, .slice A its.length c, .slice A' ks.length c'] : Array Value)[j]?) := Lib.hid (fun j => by rw [hw1, World.cell?_alloc_at _ _ _ _ rfl])
  rw [← hw1]
  have HW := Lib.hid hw1
  clear hw1
  go_loopw [3] (fun s wr => ∃ j : Nat, j ≤ its.length ∧ s = .int .i64 j ∧ Hid (alls okF (its.take j) = true) ∧ Hid (Below w1.heap.size w1 wr)) (fun s _ => its.length - (intOf s).toNat)
  case atStart => exact ⟨0, by omega, rfl, Lib.hid rfl, Lib.hid (Below.refl _ _)⟩
  case round =>
    obtain ⟨j, hjn, rfl, ha, hb⟩ := hrel
    have C3 := (hb.out.cell (p := ⟨w.heap.size, 3, none⟩) S1.out).trans (D.out 3)
    by_cases hlt : j < its.length
    · obtain ⟨g, o, k', i', t', B, n', c1, B', n1, c2, rfl, hg, e0, e1, e2, e3, e4, hx⟩ := (HL.out).at_ (j := j) (x := its[j]'hlt) (List.getElem?_eq_getElem _)
      have hj := alls_take (p := okF) (List.getElem?_eq_getElem (l := its) (i := j) hlt)
      have hle := size_at (List.getElem?_eq_getElem (l := its) (i := j) hlt)
      have hfl := fun h => alls_false (p := okF) (List.getElem?_eq_getElem (l := its) (i := j) hlt) h
      have hb' : Below w.heap.size w wr := below_next B0.out hb.out
      have cc := fun (q : Nat) => hb'.cell (p := ⟨g, q, none⟩) hg
      rw [Nat.zero_add] at e0 e1 e2 e3 e4
      rw [← cc] at e0 e1 e2 e3 e4
      have hc := IH.out (its[j]'hlt) wr _ (by omega) (hx.below hb')
      generalize its[j]'hlt = x at *
      unfold VT.wf at hc
      have HC := Lib.hid hc
      rw [ha.out, Bool.true_and] at hj
      have HJ := Lib.hid hj
      have HF := Lib.hid hfl
      clear hc hx hb' cc hj hfl
      unfold vag at HC
      go_wp2_with fail
      refine (HC.out).mono ?_
      rintro e w' ⟨rfl, hb2⟩
      have HB2 := Lib.hid (below_next hb.out hb2)
      clear hb2
      cases hxx : x.all okF with
      | true =>
        have HXX := Lib.hid hxx
        clear hxx
        go_wp2
        go_roundw
        case rel => exact ⟨j + 1, by omega, by go_num, Lib.hid (by rw [HJ.out, HXX.out]), HB2⟩
        case measure => simp [intOf]; omega
      | false =>
        have HXX := Lib.hid (HF.out hxx)
        clear hxx
        go_wp2
        go_ret
        exact ⟨ret_bool (by rw [VT.wf, VT.all_mk, HXX.out, Bool.and_false]), below_next B0.out HB2.out⟩
    · obtain rfl : j = its.length := by omega
      have HA : Hid (alls okF its = true) := Lib.hid (by rw [← ha.out, List.take_length])
      have C0 := (hb.out.cell (p := ⟨w.heap.size, 0, none⟩) S1.out).trans (D.out 0)
      have C1 := (hb.out.cell (p := ⟨w.heap.size, 1, none⟩) S1.out).trans (D.out 1)
      have C2 := (hb.out.cell (p := ⟨w.heap.size, 2, none⟩) S1.out).trans (D.out 2)
      have C4 := (hb.out.cell (p := ⟨w.heap.size, 4, none⟩) S1.out).trans (D.out 4)
      clear hlt ha
      by_cases hT : t.size = 0
      · have fhT : (t.toList == []) = true := by rw [tl_empty]; exact decide_eq_true hT
        by_cases hN : its.length = 0
        · have fhN : (((its.length : Nat) : Int) == 0) = true := by rw [beq_iff_eq]; omega
          by_cases hK : ks.length = 0
          · have fhK : (((ks.length : Nat) : Int) == 0) = true := by rw [beq_iff_eq]; omega
            have key : okF (.mk 2 i t its ks) = true := by rw [okF_2]; simp [*]
            have KEY := Lib.hid key
            clear hT hN hK key
            go_wp2
            go_ret
            exact ⟨ret_bool (by rw [VT.wf, VT.all_mk, KEY.out, HA.out]; rfl), below_next B0.out hb.out⟩
          · have fhK : (((ks.length : Nat) : Int) == 0) = false := by rw [beq_eq_false_iff_ne]; omega
            have key : okF (.mk 2 i t its ks) = false := by rw [okF_2]; simp [*]
            have KEY := Lib.hid key
            clear hT hN hK key
            go_wp2
            go_ret
            exact ⟨ret_bool (by rw [VT.wf, VT.all_mk, KEY.out, HA.out]; rfl), below_next B0.out hb.out⟩
        · have fhN : (((its.length : Nat) : Int) == 0) = false := by rw [beq_eq_false_iff_ne]; omega
          have key : okF (.mk 2 i t its ks) = false := by rw [okF_2]; simp [*]
          have KEY := Lib.hid key
          clear hT hN key
          go_wp2
          go_ret
          exact ⟨ret_bool (by rw [VT.wf, VT.all_mk, KEY.out, HA.out]; rfl), below_next B0.out hb.out⟩
      · have fhT : (t.toList == []) = false := by rw [tl_empty]; exact decide_eq_false hT
        have key : okF (.mk 2 i t its ks) = false := by rw [okF_2]; simp [*]
        have KEY := Lib.hid key
        clear hT key
        go_wp2
        go_ret
        exact ⟨ret_bool (by rw [VT.wf, VT.all_mk, KEY.out, HA.out]; rfl), below_next B0.out hb.out⟩

set_option maxRecDepth 100000 in
set_option maxHeartbeats 4000000 in
set_option linter.unusedVariables false in
theorem wfr_3 (m : Nat) (IH : Hid (∀ (x : VT) (w : World) (v : Value), x.size ≤ m → Lies w (Lo w) x v → Calls Tryz.prog 30 #[v] w (Gives (.bool x.wf) w))) (i : Int) (t : ByteArray) (its : List VT) (ks : List ByteArray) (A : Option Addr) (c : Nat) (A' : Option Addr) (c' : Nat) (w : World) (hL : LiesL w (Lo w) A 0 its) (hS : LiesS w (Lo w) A' ks)
    (hlc : its.length ≤ c) (hcm : c ≤ 9223372036854775807) (hkc : ks.length ≤ c') (hcm' : c' ≤ 9223372036854775807) (hsz : sizes its ≤ m) :
    Calls Tryz.prog 30 #[vag 3 i t A its.length c A' ks.length c'] w (Gives (.bool (VT.mk 3 i t its ks).wf) w) := by
  have HS := Lib.hid hS
  have HL := Lib.hid hL
  clear hS hL
  unfold vag
  go_enter Tryz.func30, Tryz.ntmps30
  go_wp2
  obtain ⟨w1, hw1⟩ : ∃ w1, w1 = w.alloc (.cells #[.int .i64 3, .int .i64 i, .string t, .slice A its.length c, .slice A' ks.length c'] 25) := ⟨_, rfl⟩
  have B0 : Hid (Below w.heap.size w w1) := Lib.hid (by rw [hw1]; exact below_one _ _)
  have S1 : Hid (w.heap.size < w1.heap.size) := Lib.hid (by rw [hw1]; simp)
  have D : Hid (∀ j, w1.cell? ⟨w.heap.size, j, none⟩ = (#[.int .i64 3, .int .i64 i, .string t, .slice A its.length c, .slice A' ks.length c'] : Array Value)[j]?) := Lib.hid (fun j => by rw [hw1, World.cell?_alloc_at _ _ _ _ rfl])
  rw [← hw1]
  have HW := Lib.hid hw1
  clear hw1
  go_loopw [3] (fun s wr => ∃ j : Nat, j ≤ its.length ∧ s = .int .i64 j ∧ Hid (alls okF (its.take j) = true) ∧ Hid (Below w1.heap.size w1 wr)) (fun s _ => its.length - (intOf s).toNat)
  case atStart => exact ⟨0, by omega, rfl, Lib.hid rfl, Lib.hid (Below.refl _ _)⟩
  case round =>
    obtain ⟨j, hjn, rfl, ha, hb⟩ := hrel
    have C3 := (hb.out.cell (p := ⟨w.heap.size, 3, none⟩) S1.out).trans (D.out 3)
    by_cases hlt : j < its.length
    · obtain ⟨g, o, k', i', t', B, n', c1, B', n1, c2, rfl, hg, e0, e1, e2, e3, e4, hx⟩ := (HL.out).at_ (j := j) (x := its[j]'hlt) (List.getElem?_eq_getElem _)
      have hj := alls_take (p := okF) (List.getElem?_eq_getElem (l := its) (i := j) hlt)
      have hle := size_at (List.getElem?_eq_getElem (l := its) (i := j) hlt)
      have hfl := fun h => alls_false (p := okF) (List.getElem?_eq_getElem (l := its) (i := j) hlt) h
      have hb' : Below w.heap.size w wr := below_next B0.out hb.out
      have cc := fun (q : Nat) => hb'.cell (p := ⟨g, q, none⟩) hg
      rw [Nat.zero_add] at e0 e1 e2 e3 e4
      rw [← cc] at e0 e1 e2 e3 e4
      have hc := IH.out (its[j]'hlt) wr _ (by omega) (hx.below hb')
      generalize its[j]'hlt = x at *
      unfold VT.wf at hc
      have HC := Lib.hid hc
      rw [ha.out, Bool.true_and] at hj
      have HJ := Lib.hid hj
      have HF := Lib.hid hfl
      clear hc hx hb' cc hj hfl
      unfold vag at HC
      go_wp2_with fail
      refine (HC.out).mono ?_
      rintro e w' ⟨rfl, hb2⟩
      have HB2 := Lib.hid (below_next hb.out hb2)
      clear hb2
      cases hxx : x.all okF with
      | true =>
        have HXX := Lib.hid hxx
        clear hxx
        go_wp2
        go_roundw
        case rel => exact ⟨j + 1, by omega, by go_num, Lib.hid (by rw [HJ.out, HXX.out]), HB2⟩
        case measure => simp [intOf]; omega
      | false =>
        have HXX := Lib.hid (HF.out hxx)
        clear hxx
        go_wp2
        go_ret
        exact ⟨ret_bool (by rw [VT.wf, VT.all_mk, HXX.out, Bool.and_false]), below_next B0.out HB2.out⟩
    · obtain rfl : j = its.length := by omega
      have HA : Hid (alls okF its = true) := Lib.hid (by rw [← ha.out, List.take_length])
      have C0 := (hb.out.cell (p := ⟨w.heap.size, 0, none⟩) S1.out).trans (D.out 0)
      have C1 := (hb.out.cell (p := ⟨w.heap.size, 1, none⟩) S1.out).trans (D.out 1)
      have C2 := (hb.out.cell (p := ⟨w.heap.size, 2, none⟩) S1.out).trans (D.out 2)
      have C4 := (hb.out.cell (p := ⟨w.heap.size, 4, none⟩) S1.out).trans (D.out 4)
      clear hlt ha
      by_cases hI0 : i = 0
      · have fhI0 : (i == 0) = true := by rw [beq_iff_eq]; omega
        by_cases hN : its.length = 0
        · have fhN : (((its.length : Nat) : Int) == 0) = true := by rw [beq_iff_eq]; omega
          by_cases hK : ks.length = 0
          · have fhK : (((ks.length : Nat) : Int) == 0) = true := by rw [beq_iff_eq]; omega
            have key : okF (.mk 3 i t its ks) = true := by rw [okF_3]; simp [*]
            have KEY := Lib.hid key
            clear hI0 hN hK key
            go_wp2
            go_ret
            exact ⟨ret_bool (by rw [VT.wf, VT.all_mk, KEY.out, HA.out]; rfl), below_next B0.out hb.out⟩
          · have fhK : (((ks.length : Nat) : Int) == 0) = false := by rw [beq_eq_false_iff_ne]; omega
            have key : okF (.mk 3 i t its ks) = false := by rw [okF_3]; simp [*]
            have KEY := Lib.hid key
            clear hI0 hN hK key
            go_wp2
            go_ret
            exact ⟨ret_bool (by rw [VT.wf, VT.all_mk, KEY.out, HA.out]; rfl), below_next B0.out hb.out⟩
        · have fhN : (((its.length : Nat) : Int) == 0) = false := by rw [beq_eq_false_iff_ne]; omega
          have key : okF (.mk 3 i t its ks) = false := by rw [okF_3]; simp [*]
          have KEY := Lib.hid key
          clear hI0 hN key
          go_wp2
          go_ret
          exact ⟨ret_bool (by rw [VT.wf, VT.all_mk, KEY.out, HA.out]; rfl), below_next B0.out hb.out⟩
      · have fhI0 : (i == 0) = false := by rw [beq_eq_false_iff_ne]; omega
        have key : okF (.mk 3 i t its ks) = false := by rw [okF_3]; simp [*]
        have KEY := Lib.hid key
        clear hI0 key
        go_wp2
        go_ret
        exact ⟨ret_bool (by rw [VT.wf, VT.all_mk, KEY.out, HA.out]; rfl), below_next B0.out hb.out⟩

set_option maxRecDepth 100000 in
set_option maxHeartbeats 4000000 in
set_option linter.unusedVariables false in
theorem wfr_4 (m : Nat) (IH : Hid (∀ (x : VT) (w : World) (v : Value), x.size ≤ m → Lies w (Lo w) x v → Calls Tryz.prog 30 #[v] w (Gives (.bool x.wf) w))) (i : Int) (t : ByteArray) (its : List VT) (ks : List ByteArray) (A : Option Addr) (c : Nat) (A' : Option Addr) (c' : Nat) (w : World) (hL : LiesL w (Lo w) A 0 its) (hS : LiesS w (Lo w) A' ks)
    (hlc : its.length ≤ c) (hcm : c ≤ 9223372036854775807) (hkc : ks.length ≤ c') (hcm' : c' ≤ 9223372036854775807) (hsz : sizes its ≤ m) :
    Calls Tryz.prog 30 #[vag 4 i t A its.length c A' ks.length c'] w (Gives (.bool (VT.mk 4 i t its ks).wf) w) := by
  have HS := Lib.hid hS
  have HL := Lib.hid hL
  clear hS hL
  unfold vag
  go_enter Tryz.func30, Tryz.ntmps30
  go_wp2
  obtain ⟨w1, hw1⟩ : ∃ w1, w1 = w.alloc (.cells #[.int .i64 4, .int .i64 i, .string t, .slice A its.length c, .slice A' ks.length c'] 25) := ⟨_, rfl⟩
  have B0 : Hid (Below w.heap.size w w1) := Lib.hid (by rw [hw1]; exact below_one _ _)
  have S1 : Hid (w.heap.size < w1.heap.size) := Lib.hid (by rw [hw1]; simp)
  have D : Hid (∀ j, w1.cell? ⟨w.heap.size, j, none⟩ = (#[.int .i64 4, .int .i64 i, .string t, .slice A its.length c, .slice A' ks.length c'] : Array Value)[j]?) := Lib.hid (fun j => by rw [hw1, World.cell?_alloc_at _ _ _ _ rfl])
  rw [← hw1]
  have HW := Lib.hid hw1
  clear hw1
  go_loopw [3] (fun s wr => ∃ j : Nat, j ≤ its.length ∧ s = .int .i64 j ∧ Hid (alls okF (its.take j) = true) ∧ Hid (Below w1.heap.size w1 wr)) (fun s _ => its.length - (intOf s).toNat)
  case atStart => exact ⟨0, by omega, rfl, Lib.hid rfl, Lib.hid (Below.refl _ _)⟩
  case round =>
    obtain ⟨j, hjn, rfl, ha, hb⟩ := hrel
    have C3 := (hb.out.cell (p := ⟨w.heap.size, 3, none⟩) S1.out).trans (D.out 3)
    by_cases hlt : j < its.length
    · obtain ⟨g, o, k', i', t', B, n', c1, B', n1, c2, rfl, hg, e0, e1, e2, e3, e4, hx⟩ := (HL.out).at_ (j := j) (x := its[j]'hlt) (List.getElem?_eq_getElem _)
      have hj := alls_take (p := okF) (List.getElem?_eq_getElem (l := its) (i := j) hlt)
      have hle := size_at (List.getElem?_eq_getElem (l := its) (i := j) hlt)
      have hfl := fun h => alls_false (p := okF) (List.getElem?_eq_getElem (l := its) (i := j) hlt) h
      have hb' : Below w.heap.size w wr := below_next B0.out hb.out
      have cc := fun (q : Nat) => hb'.cell (p := ⟨g, q, none⟩) hg
      rw [Nat.zero_add] at e0 e1 e2 e3 e4
      rw [← cc] at e0 e1 e2 e3 e4
      have hc := IH.out (its[j]'hlt) wr _ (by omega) (hx.below hb')
      generalize its[j]'hlt = x at *
      unfold VT.wf at hc
      have HC := Lib.hid hc
      rw [ha.out, Bool.true_and] at hj
      have HJ := Lib.hid hj
      have HF := Lib.hid hfl
      clear hc hx hb' cc hj hfl
      unfold vag at HC
      go_wp2_with fail
      refine (HC.out).mono ?_
      rintro e w' ⟨rfl, hb2⟩
      have HB2 := Lib.hid (below_next hb.out hb2)
      clear hb2
      cases hxx : x.all okF with
      | true =>
        have HXX := Lib.hid hxx
        clear hxx
        go_wp2
        go_roundw
        case rel => exact ⟨j + 1, by omega, by go_num, Lib.hid (by rw [HJ.out, HXX.out]), HB2⟩
        case measure => simp [intOf]; omega
      | false =>
        have HXX := Lib.hid (HF.out hxx)
        clear hxx
        go_wp2
        go_ret
        exact ⟨ret_bool (by rw [VT.wf, VT.all_mk, HXX.out, Bool.and_false]), below_next B0.out HB2.out⟩
    · obtain rfl : j = its.length := by omega
      have HA : Hid (alls okF its = true) := Lib.hid (by rw [← ha.out, List.take_length])
      have C0 := (hb.out.cell (p := ⟨w.heap.size, 0, none⟩) S1.out).trans (D.out 0)
      have C1 := (hb.out.cell (p := ⟨w.heap.size, 1, none⟩) S1.out).trans (D.out 1)
      have C2 := (hb.out.cell (p := ⟨w.heap.size, 2, none⟩) S1.out).trans (D.out 2)
      have C4 := (hb.out.cell (p := ⟨w.heap.size, 4, none⟩) S1.out).trans (D.out 4)
      clear hlt ha
      by_cases hI0 : i = 0
      · have fhI0 : (i == 0) = true := by rw [beq_iff_eq]; omega
        by_cases hT : t.size = 0
        · have fhT : (t.toList == []) = true := by rw [tl_empty]; exact decide_eq_true hT
          by_cases hK : ks.length = 0
          · have fhK : (((ks.length : Nat) : Int) == 0) = true := by rw [beq_iff_eq]; omega
            have key : okF (.mk 4 i t its ks) = true := by rw [okF_4]; simp [*]
            have KEY := Lib.hid key
            clear hI0 hT hK key
            go_wp2
            go_ret
            exact ⟨ret_bool (by rw [VT.wf, VT.all_mk, KEY.out, HA.out]; rfl), below_next B0.out hb.out⟩
          · have fhK : (((ks.length : Nat) : Int) == 0) = false := by rw [beq_eq_false_iff_ne]; omega
            have key : okF (.mk 4 i t its ks) = false := by rw [okF_4]; simp [*]
            have KEY := Lib.hid key
            clear hI0 hT hK key
            go_wp2
            go_ret
            exact ⟨ret_bool (by rw [VT.wf, VT.all_mk, KEY.out, HA.out]; rfl), below_next B0.out hb.out⟩
        · have fhT : (t.toList == []) = false := by rw [tl_empty]; exact decide_eq_false hT
          have key : okF (.mk 4 i t its ks) = false := by rw [okF_4]; simp [*]
          have KEY := Lib.hid key
          clear hI0 hT key
          go_wp2
          go_ret
          exact ⟨ret_bool (by rw [VT.wf, VT.all_mk, KEY.out, HA.out]; rfl), below_next B0.out hb.out⟩
      · have fhI0 : (i == 0) = false := by rw [beq_eq_false_iff_ne]; omega
        have key : okF (.mk 4 i t its ks) = false := by rw [okF_4]; simp [*]
        have KEY := Lib.hid key
        clear hI0 key
        go_wp2
        go_ret
        exact ⟨ret_bool (by rw [VT.wf, VT.all_mk, KEY.out, HA.out]; rfl), below_next B0.out hb.out⟩

set_option maxRecDepth 100000 in
set_option maxHeartbeats 4000000 in
set_option linter.unusedVariables false in
theorem wfr_5 (m : Nat) (IH : Hid (∀ (x : VT) (w : World) (v : Value), x.size ≤ m → Lies w (Lo w) x v → Calls Tryz.prog 30 #[v] w (Gives (.bool x.wf) w))) (i : Int) (t : ByteArray) (its : List VT) (ks : List ByteArray) (A : Option Addr) (c : Nat) (A' : Option Addr) (c' : Nat) (w : World) (hL : LiesL w (Lo w) A 0 its) (hS : LiesS w (Lo w) A' ks)
    (hlc : its.length ≤ c) (hcm : c ≤ 9223372036854775807) (hkc : ks.length ≤ c') (hcm' : c' ≤ 9223372036854775807) (hsz : sizes its ≤ m) :
    Calls Tryz.prog 30 #[vag 5 i t A its.length c A' ks.length c'] w (Gives (.bool (VT.mk 5 i t its ks).wf) w) := by
  have HS := Lib.hid hS
  have HL := Lib.hid hL
  clear hS hL
  unfold vag
  go_enter Tryz.func30, Tryz.ntmps30
  go_wp2
  obtain ⟨w1, hw1⟩ : ∃ w1, w1 = w.alloc (.cells #[.int .i64 5, .int .i64 i, .string t, .slice A its.length c, .slice A' ks.length c'] 25) := ⟨_, rfl⟩
  have B0 : Hid (Below w.heap.size w w1) := Lib.hid (by rw [hw1]; exact below_one _ _)
  have S1 : Hid (w.heap.size < w1.heap.size) := Lib.hid (by rw [hw1]; simp)
  have D : Hid (∀ j, w1.cell? ⟨w.heap.size, j, none⟩ = (#[.int .i64 5, .int .i64 i, .string t, .slice A its.length c, .slice A' ks.length c'] : Array Value)[j]?) := Lib.hid (fun j => by rw [hw1, World.cell?_alloc_at _ _ _ _ rfl])
  rw [← hw1]
  have HW := Lib.hid hw1
  clear hw1
  go_loopw [3] (fun s wr => ∃ j : Nat, j ≤ its.length ∧ s = .int .i64 j ∧ Hid (alls okF (its.take j) = true) ∧ Hid (Below w1.heap.size w1 wr)) (fun s _ => its.length - (intOf s).toNat)
  case atStart => exact ⟨0, by omega, rfl, Lib.hid rfl, Lib.hid (Below.refl _ _)⟩
  case round =>
    obtain ⟨j, hjn, rfl, ha, hb⟩ := hrel
    have C3 := (hb.out.cell (p := ⟨w.heap.size, 3, none⟩) S1.out).trans (D.out 3)
    by_cases hlt : j < its.length
    · obtain ⟨g, o, k', i', t', B, n', c1, B', n1, c2, rfl, hg, e0, e1, e2, e3, e4, hx⟩ := (HL.out).at_ (j := j) (x := its[j]'hlt) (List.getElem?_eq_getElem _)
      have hj := alls_take (p := okF) (List.getElem?_eq_getElem (l := its) (i := j) hlt)
      have hle := size_at (List.getElem?_eq_getElem (l := its) (i := j) hlt)
      have hfl := fun h => alls_false (p := okF) (List.getElem?_eq_getElem (l := its) (i := j) hlt) h
      have hb' : Below w.heap.size w wr := below_next B0.out hb.out
      have cc := fun (q : Nat) => hb'.cell (p := ⟨g, q, none⟩) hg
      rw [Nat.zero_add] at e0 e1 e2 e3 e4
      rw [← cc] at e0 e1 e2 e3 e4
      have hc := IH.out (its[j]'hlt) wr _ (by omega) (hx.below hb')
      generalize its[j]'hlt = x at *
      unfold VT.wf at hc
      have HC := Lib.hid hc
      rw [ha.out, Bool.true_and] at hj
      have HJ := Lib.hid hj
      have HF := Lib.hid hfl
      clear hc hx hb' cc hj hfl
      unfold vag at HC
      go_wp2_with fail
      refine (HC.out).mono ?_
      rintro e w' ⟨rfl, hb2⟩
      have HB2 := Lib.hid (below_next hb.out hb2)
      clear hb2
      cases hxx : x.all okF with
      | true =>
        have HXX := Lib.hid hxx
        clear hxx
        go_wp2
        go_roundw
        case rel => exact ⟨j + 1, by omega, by go_num, Lib.hid (by rw [HJ.out, HXX.out]), HB2⟩
        case measure => simp [intOf]; omega
      | false =>
        have HXX := Lib.hid (HF.out hxx)
        clear hxx
        go_wp2
        go_ret
        exact ⟨ret_bool (by rw [VT.wf, VT.all_mk, HXX.out, Bool.and_false]), below_next B0.out HB2.out⟩
    · obtain rfl : j = its.length := by omega
      have HA : Hid (alls okF its = true) := Lib.hid (by rw [← ha.out, List.take_length])
      have C0 := (hb.out.cell (p := ⟨w.heap.size, 0, none⟩) S1.out).trans (D.out 0)
      have C1 := (hb.out.cell (p := ⟨w.heap.size, 1, none⟩) S1.out).trans (D.out 1)
      have C2 := (hb.out.cell (p := ⟨w.heap.size, 2, none⟩) S1.out).trans (D.out 2)
      have C4 := (hb.out.cell (p := ⟨w.heap.size, 4, none⟩) S1.out).trans (D.out 4)
      clear hlt ha
      by_cases hI0 : i = 0
      · have fhI0 : (i == 0) = true := by rw [beq_iff_eq]; omega
        by_cases hT : t.size = 0
        · have fhT : (t.toList == []) = true := by rw [tl_empty]; exact decide_eq_true hT
          by_cases hL : ks.length = its.length
          · have fhL : (((ks.length : Nat) : Int) == ((its.length : Nat) : Int)) = true := by rw [beq_iff_eq]; omega
            by_cases hR : rising ks = true
            · have fhR : rising ks = true := by simpa using hR
              have key : okF (.mk 5 i t its ks) = true := by rw [okF_5]; simp [*]
              have KEY := Lib.hid key
              clear hI0 hT hL hR key
              go_wp2_with fail
              refine (rising_any _ _ _ _ (HS.out.below (below_next B0.out hb.out)) hkc hcm').mono ?_
              rintro e w' ⟨rfl, hb2⟩
              have HB2 := Lib.hid (below_next hb.out hb2)
              clear hb2
              rw [fhR]
              go_wp2
              go_ret
              exact ⟨ret_bool (by rw [VT.wf, VT.all_mk, KEY.out, HA.out]; rfl), below_next B0.out HB2.out⟩
            · have fhR : rising ks = false := by simpa using hR
              have key : okF (.mk 5 i t its ks) = false := by rw [okF_5]; simp [*]
              have KEY := Lib.hid key
              clear hI0 hT hL hR key
              go_wp2_with fail
              refine (rising_any _ _ _ _ (HS.out.below (below_next B0.out hb.out)) hkc hcm').mono ?_
              rintro e w' ⟨rfl, hb2⟩
              have HB2 := Lib.hid (below_next hb.out hb2)
              clear hb2
              rw [fhR]
              go_wp2
              go_ret
              exact ⟨ret_bool (by rw [VT.wf, VT.all_mk, KEY.out, HA.out]; rfl), below_next B0.out HB2.out⟩
          · have fhL : (((ks.length : Nat) : Int) == ((its.length : Nat) : Int)) = false := by rw [beq_eq_false_iff_ne]; omega
            have key : okF (.mk 5 i t its ks) = false := by rw [okF_5]; simp [*]
            have KEY := Lib.hid key
            clear hI0 hT hL key
            go_wp2
            go_ret
            exact ⟨ret_bool (by rw [VT.wf, VT.all_mk, KEY.out, HA.out]; rfl), below_next B0.out hb.out⟩
        · have fhT : (t.toList == []) = false := by rw [tl_empty]; exact decide_eq_false hT
          have key : okF (.mk 5 i t its ks) = false := by rw [okF_5]; simp [*]
          have KEY := Lib.hid key
          clear hI0 hT key
          go_wp2
          go_ret
          exact ⟨ret_bool (by rw [VT.wf, VT.all_mk, KEY.out, HA.out]; rfl), below_next B0.out hb.out⟩
      · have fhI0 : (i == 0) = false := by rw [beq_eq_false_iff_ne]; omega
        have key : okF (.mk 5 i t its ks) = false := by rw [okF_5]; simp [*]
        have KEY := Lib.hid key
        clear hI0 key
        go_wp2
        go_ret
        exact ⟨ret_bool (by rw [VT.wf, VT.all_mk, KEY.out, HA.out]; rfl), below_next B0.out hb.out⟩

set_option maxRecDepth 100000 in
set_option maxHeartbeats 4000000 in
set_option linter.unusedVariables false in
theorem wfr_6 (m : Nat) (IH : Hid (∀ (x : VT) (w : World) (v : Value), x.size ≤ m → Lies w (Lo w) x v → Calls Tryz.prog 30 #[v] w (Gives (.bool x.wf) w))) (i : Int) (t : ByteArray) (its : List VT) (ks : List ByteArray) (A : Option Addr) (c : Nat) (A' : Option Addr) (c' : Nat) (w : World) (hL : LiesL w (Lo w) A 0 its) (hS : LiesS w (Lo w) A' ks)
    (hlc : its.length ≤ c) (hcm : c ≤ 9223372036854775807) (hkc : ks.length ≤ c') (hcm' : c' ≤ 9223372036854775807) (hsz : sizes its ≤ m) :
    Calls Tryz.prog 30 #[vag 6 i t A its.length c A' ks.length c'] w (Gives (.bool (VT.mk 6 i t its ks).wf) w) := by
  have HS := Lib.hid hS
  have HL := Lib.hid hL
  clear hS hL
  unfold vag
  go_enter Tryz.func30, Tryz.ntmps30
  go_wp2
  obtain ⟨w1, hw1⟩ : ∃ w1, w1 = w.alloc (.cells #[.int .i64 6, .int .i64 i, .string t, .slice A its.length c, .slice A' ks.length c'] 25) := ⟨_, rfl⟩
  have B0 : Hid (Below w.heap.size w w1) := Lib.hid (by rw [hw1]; exact below_one _ _)
  have S1 : Hid (w.heap.size < w1.heap.size) := Lib.hid (by rw [hw1]; simp)
  have D : Hid (∀ j, w1.cell? ⟨w.heap.size, j, none⟩ = (#[.int .i64 6, .int .i64 i, .string t, .slice A its.length c, .slice A' ks.length c'] : Array Value)[j]?) := Lib.hid (fun j => by rw [hw1, World.cell?_alloc_at _ _ _ _ rfl])
  rw [← hw1]
  have HW := Lib.hid hw1
  clear hw1
  go_loopw [3] (fun s wr => ∃ j : Nat, j ≤ its.length ∧ s = .int .i64 j ∧ Hid (alls okF (its.take j) = true) ∧ Hid (Below w1.heap.size w1 wr)) (fun s _ => its.length - (intOf s).toNat)
  case atStart => exact ⟨0, by omega, rfl, Lib.hid rfl, Lib.hid (Below.refl _ _)⟩
  case round =>
    obtain ⟨j, hjn, rfl, ha, hb⟩ := hrel
    have C3 := (hb.out.cell (p := ⟨w.heap.size, 3, none⟩) S1.out).trans (D.out 3)
    by_cases hlt : j < its.length
    · obtain ⟨g, o, k', i', t', B, n', c1, B', n1, c2, rfl, hg, e0, e1, e2, e3, e4, hx⟩ := (HL.out).at_ (j := j) (x := its[j]'hlt) (List.getElem?_eq_getElem _)
      have hj := alls_take (p := okF) (List.getElem?_eq_getElem (l := its) (i := j) hlt)
      have hle := size_at (List.getElem?_eq_getElem (l := its) (i := j) hlt)
      have hfl := fun h => alls_false (p := okF) (List.getElem?_eq_getElem (l := its) (i := j) hlt) h
      have hb' : Below w.heap.size w wr := below_next B0.out hb.out
      have cc := fun (q : Nat) => hb'.cell (p := ⟨g, q, none⟩) hg
      rw [Nat.zero_add] at e0 e1 e2 e3 e4
      rw [← cc] at e0 e1 e2 e3 e4
      have hc := IH.out (its[j]'hlt) wr _ (by omega) (hx.below hb')
      generalize its[j]'hlt = x at *
      unfold VT.wf at hc
      have HC := Lib.hid hc
      rw [ha.out, Bool.true_and] at hj
      have HJ := Lib.hid hj
      have HF := Lib.hid hfl
      clear hc hx hb' cc hj hfl
      unfold vag at HC
      go_wp2_with fail
      refine (HC.out).mono ?_
      rintro e w' ⟨rfl, hb2⟩
      have HB2 := Lib.hid (below_next hb.out hb2)
      clear hb2
      cases hxx : x.all okF with
      | true =>
        have HXX := Lib.hid hxx
        clear hxx
        go_wp2
        go_roundw
        case rel => exact ⟨j + 1, by omega, by go_num, Lib.hid (by rw [HJ.out, HXX.out]), HB2⟩
        case measure => simp [intOf]; omega
      | false =>
        have HXX := Lib.hid (HF.out hxx)
        clear hxx
        go_wp2
        go_ret
        exact ⟨ret_bool (by rw [VT.wf, VT.all_mk, HXX.out, Bool.and_false]), below_next B0.out HB2.out⟩
    · obtain rfl : j = its.length := by omega
      have HA : Hid (alls okF its = true) := Lib.hid (by rw [← ha.out, List.take_length])
      have C0 := (hb.out.cell (p := ⟨w.heap.size, 0, none⟩) S1.out).trans (D.out 0)
      have C1 := (hb.out.cell (p := ⟨w.heap.size, 1, none⟩) S1.out).trans (D.out 1)
      have C2 := (hb.out.cell (p := ⟨w.heap.size, 2, none⟩) S1.out).trans (D.out 2)
      have C4 := (hb.out.cell (p := ⟨w.heap.size, 4, none⟩) S1.out).trans (D.out 4)
      clear hlt ha
      by_cases hP : 0 ≤ i
      · have fhP : decide ((0 : Int) ≤ i) = true := decide_eq_true hP
        by_cases hT : t.size = 0
        · have fhT : (t.toList == []) = true := by rw [tl_empty]; exact decide_eq_true hT
          by_cases hN : its.length = 0
          · have fhN : (((its.length : Nat) : Int) == 0) = true := by rw [beq_iff_eq]; omega
            by_cases hK : ks.length = 0
            · have fhK : (((ks.length : Nat) : Int) == 0) = true := by rw [beq_iff_eq]; omega
              have key : okF (.mk 6 i t its ks) = true := by rw [okF_6]; simp [*]
              have KEY := Lib.hid key
              clear hP hT hN hK key
              go_wp2
              go_ret
              exact ⟨ret_bool (by rw [VT.wf, VT.all_mk, KEY.out, HA.out]; rfl), below_next B0.out hb.out⟩
            · have fhK : (((ks.length : Nat) : Int) == 0) = false := by rw [beq_eq_false_iff_ne]; omega
              have key : okF (.mk 6 i t its ks) = false := by rw [okF_6]; simp [*]
              have KEY := Lib.hid key
              clear hP hT hN hK key
              go_wp2
              go_ret
              exact ⟨ret_bool (by rw [VT.wf, VT.all_mk, KEY.out, HA.out]; rfl), below_next B0.out hb.out⟩
          · have fhN : (((its.length : Nat) : Int) == 0) = false := by rw [beq_eq_false_iff_ne]; omega
            have key : okF (.mk 6 i t its ks) = false := by rw [okF_6]; simp [*]
            have KEY := Lib.hid key
            clear hP hT hN key
            go_wp2
            go_ret
            exact ⟨ret_bool (by rw [VT.wf, VT.all_mk, KEY.out, HA.out]; rfl), below_next B0.out hb.out⟩
        · have fhT : (t.toList == []) = false := by rw [tl_empty]; exact decide_eq_false hT
          have key : okF (.mk 6 i t its ks) = false := by rw [okF_6]; simp [*]
          have KEY := Lib.hid key
          clear hP hT key
          go_wp2
          go_ret
          exact ⟨ret_bool (by rw [VT.wf, VT.all_mk, KEY.out, HA.out]; rfl), below_next B0.out hb.out⟩
      · have fhP : decide ((0 : Int) ≤ i) = false := decide_eq_false hP
        have key : okF (.mk 6 i t its ks) = false := by rw [okF_6]; simp [*]
        have KEY := Lib.hid key
        clear hP key
        go_wp2
        go_ret
        exact ⟨ret_bool (by rw [VT.wf, VT.all_mk, KEY.out, HA.out]; rfl), below_next B0.out hb.out⟩

set_option maxRecDepth 100000 in
set_option maxHeartbeats 4000000 in
set_option linter.unusedVariables false in
theorem wfr_o (m : Nat) (IH : Hid (∀ (x : VT) (w : World) (v : Value), x.size ≤ m → Lies w (Lo w) x v → Calls Tryz.prog 30 #[v] w (Gives (.bool x.wf) w))) (k : Int) (hk : ¬ (0 ≤ k ∧ k ≤ 6)) (i : Int) (t : ByteArray) (its : List VT) (ks : List ByteArray) (A : Option Addr) (c : Nat) (A' : Option Addr) (c' : Nat) (w : World) (hL : LiesL w (Lo w) A 0 its) (hS : LiesS w (Lo w) A' ks)
    (hlc : its.length ≤ c) (hcm : c ≤ 9223372036854775807) (hkc : ks.length ≤ c') (hcm' : c' ≤ 9223372036854775807) (hsz : sizes its ≤ m) :
    Calls Tryz.prog 30 #[vag k i t A its.length c A' ks.length c'] w (Gives (.bool (VT.mk k i t its ks).wf) w) := by
  have HS := Lib.hid hS
  have HL := Lib.hid hL
  clear hS hL
  unfold vag
  go_enter Tryz.func30, Tryz.ntmps30
  go_wp2
  obtain ⟨w1, hw1⟩ : ∃ w1, w1 = w.alloc (.cells #[.int .i64 k, .int .i64 i, .string t, .slice A its.length c, .slice A' ks.length c'] 25) := ⟨_, rfl⟩
  have B0 : Hid (Below w.heap.size w w1) := Lib.hid (by rw [hw1]; exact below_one _ _)
  have S1 : Hid (w.heap.size < w1.heap.size) := Lib.hid (by rw [hw1]; simp)
  have D : Hid (∀ j, w1.cell? ⟨w.heap.size, j, none⟩ = (#[.int .i64 k, .int .i64 i, .string t, .slice A its.length c, .slice A' ks.length c'] : Array Value)[j]?) := Lib.hid (fun j => by rw [hw1, World.cell?_alloc_at _ _ _ _ rfl])
  rw [← hw1]
  have HW := Lib.hid hw1
  clear hw1
  go_loopw [3] (fun s wr => ∃ j : Nat, j ≤ its.length ∧ s = .int .i64 j ∧ Hid (alls okF (its.take j) = true) ∧ Hid (Below w1.heap.size w1 wr)) (fun s _ => its.length - (intOf s).toNat)
  case atStart => exact ⟨0, by omega, rfl, Lib.hid rfl, Lib.hid (Below.refl _ _)⟩
  case round =>
    obtain ⟨j, hjn, rfl, ha, hb⟩ := hrel
    have C3 := (hb.out.cell (p := ⟨w.heap.size, 3, none⟩) S1.out).trans (D.out 3)
    by_cases hlt : j < its.length
    · obtain ⟨g, o, k', i', t', B, n', c1, B', n1, c2, rfl, hg, e0, e1, e2, e3, e4, hx⟩ := (HL.out).at_ (j := j) (x := its[j]'hlt) (List.getElem?_eq_getElem _)
      have hj := alls_take (p := okF) (List.getElem?_eq_getElem (l := its) (i := j) hlt)
      have hle := size_at (List.getElem?_eq_getElem (l := its) (i := j) hlt)
      have hfl := fun h => alls_false (p := okF) (List.getElem?_eq_getElem (l := its) (i := j) hlt) h
      have hb' : Below w.heap.size w wr := below_next B0.out hb.out
      have cc := fun (q : Nat) => hb'.cell (p := ⟨g, q, none⟩) hg
      rw [Nat.zero_add] at e0 e1 e2 e3 e4
      rw [← cc] at e0 e1 e2 e3 e4
      have hc := IH.out (its[j]'hlt) wr _ (by omega) (hx.below hb')
      generalize its[j]'hlt = x at *
      unfold VT.wf at hc
      have HC := Lib.hid hc
      rw [ha.out, Bool.true_and] at hj
      have HJ := Lib.hid hj
      have HF := Lib.hid hfl
      clear hc hx hb' cc hj hfl
      unfold vag at HC
      go_wp2_with fail
      refine (HC.out).mono ?_
      rintro e w' ⟨rfl, hb2⟩
      have HB2 := Lib.hid (below_next hb.out hb2)
      clear hb2
      cases hxx : x.all okF with
      | true =>
        have HXX := Lib.hid hxx
        clear hxx
        go_wp2
        go_roundw
        case rel => exact ⟨j + 1, by omega, by go_num, Lib.hid (by rw [HJ.out, HXX.out]), HB2⟩
        case measure => simp [intOf]; omega
      | false =>
        have HXX := Lib.hid (HF.out hxx)
        clear hxx
        go_wp2
        go_ret
        exact ⟨ret_bool (by rw [VT.wf, VT.all_mk, HXX.out, Bool.and_false]), below_next B0.out HB2.out⟩
    · obtain rfl : j = its.length := by omega
      have HA : Hid (alls okF its = true) := Lib.hid (by rw [← ha.out, List.take_length])
      have C0 := (hb.out.cell (p := ⟨w.heap.size, 0, none⟩) S1.out).trans (D.out 0)
      have C1 := (hb.out.cell (p := ⟨w.heap.size, 1, none⟩) S1.out).trans (D.out 1)
      have C2 := (hb.out.cell (p := ⟨w.heap.size, 2, none⟩) S1.out).trans (D.out 2)
      have C4 := (hb.out.cell (p := ⟨w.heap.size, 4, none⟩) S1.out).trans (D.out 4)
      clear hlt ha
      have f0 : (k == 0) = false := by rw [beq_eq_false_iff_ne]; omega
      have f1 : (k == 1) = false := by rw [beq_eq_false_iff_ne]; omega
      have f2 : (k == 2) = false := by rw [beq_eq_false_iff_ne]; omega
      have f3 : (k == 3) = false := by rw [beq_eq_false_iff_ne]; omega
      have f4 : (k == 4) = false := by rw [beq_eq_false_iff_ne]; omega
      have f5 : (k == 5) = false := by rw [beq_eq_false_iff_ne]; omega
      have f6 : (k == 6) = false := by rw [beq_eq_false_iff_ne]; omega
      have key : okF (.mk k i t its ks) = false := by
        simp only [beq_eq_false_iff_ne] at f0 f1 f2 f3 f4 f5 f6
        simp [okF, VT.k, f0, f1, f2, f3, f4, f5, f6]
      have KEY := Lib.hid key
      clear key hk
      go_wp2
      go_ret
      exact ⟨ret_bool (by rw [VT.wf, VT.all_mk, KEY.out, HA.out]; rfl), below_next B0.out hb.out⟩

theorem refWf_all (m : Nat) : ∀ (x : VT) (w : World) (v : Value), x.size ≤ m → Lies w (Lo w) x v → Calls Tryz.prog 30 #[v] w (Gives (.bool x.wf) w) := by
  induction m with
  | zero => intro x _ _ h; have := size_pos x; omega
  | succ m ih =>
    intro x w v hsz hv
    have IH := Lib.hid ih
    obtain ⟨k, i, t, its, ks⟩ := x
    obtain ⟨A, c, A', c', rfl, _, _, _, h1, h2, hL, h3, h4, hS⟩ := hv.open
    rw [VT.size_mk] at hsz
    by_cases hk : 0 ≤ k ∧ k ≤ 6
    · obtain rfl | rfl | rfl | rfl | rfl | rfl | rfl : k = 0 ∨ k = 1 ∨ k = 2 ∨ k = 3 ∨ k = 4 ∨ k = 5 ∨ k = 6 := by omega
      · exact wfr_0 m IH i t its ks A c A' c' w hL hS h1 h2 h3 h4 (by omega)
      · exact wfr_1 m IH i t its ks A c A' c' w hL hS h1 h2 h3 h4 (by omega)
      · exact wfr_2 m IH i t its ks A c A' c' w hL hS h1 h2 h3 h4 (by omega)
      · exact wfr_3 m IH i t its ks A c A' c' w hL hS h1 h2 h3 h4 (by omega)
      · exact wfr_4 m IH i t its ks A c A' c' w hL hS h1 h2 h3 h4 (by omega)
      · exact wfr_5 m IH i t its ks A c A' c' w hL hS h1 h2 h3 h4 (by omega)
      · exact wfr_6 m IH i t its ks A c A' c' w hL hS h1 h2 h3 h4 (by omega)
    · exact wfr_o m IH k hk i t its ks A c A' c' w hL hS h1 h2 h3 h4 (by omega)
theorem refWf_any {x : VT} {v : Value} {w : World} (h : Lies w (Lo w) x v) : Calls Tryz.prog 30 #[v] w (Gives (.bool x.wf) w) := refWf_all x.size x w v (Nat.le_refl _) h
end Go.Proofs.YtlgmhhimbabkjaaGreatDoor
namespace Go.Proofs.YtlgmhhimbabkjaaGreatDoor
open Go.RowKit

set_option maxHeartbeats 400000 in
theorem refDepth_all (m : Nat) : ∀ (x : VT) (w : World) (v : Value), x.size ≤ m → m < 4611686018427387904 → Lies w (Lo w) x v → Calls Tryz.prog 60 #[v] w (Gives (.int .i64 (x.depth : Nat)) w) := by
  induction m with
  | zero => intro x _ _ h; have := size_pos x; omega
  | succ m ih =>
    intro x w v hsz hm hv
    obtain ⟨k, i, t, its, ks⟩ := x
    obtain ⟨A, c, A', c', rfl, hk, hi, ht, hlc, hcm, hL, hkc, hcm', hS⟩ := hv.open
    rw [VT.size_mk] at hsz
    have hdz := depth_le_size _ (VT.mk k i t its ks) (Nat.le_refl _)
    rw [VT.size_mk, VT.depth_mk] at hdz
    have HL := Lib.hid hL
    have IH := Lib.hid ih
    have hlen : its.length ≤ sizes its := by have := sizes_room its 0; simp [sizes] at this; omega
    clear hS hL ih hv
    obtain ⟨n, hn⟩ : ∃ n, n = its.length := ⟨_, rfl⟩
    rw [← hn] at hlc hlen ⊢
    have HN := Lib.hid hn
    clear hn
    unfold vag
    go_enter Tryz.func60, Tryz.ntmps60
    go_wp2
    obtain ⟨w1, hw1⟩ : ∃ w1, w1 = w.alloc (.cells #[.int .i64 k, .int .i64 i, .string t, .slice A n c, .slice A' ks.length c'] 25) := ⟨_, rfl⟩
    have B0 : Hid (Below w.heap.size w w1) := Lib.hid (by rw [hw1]; exact below_one _ _)
    have S1 : Hid (w.heap.size < w1.heap.size) := Lib.hid (by rw [hw1]; simp)
    have C3 : w1.cell? ⟨w.heap.size, 3, none⟩ = some (.slice A n c) := by rw [hw1, World.cell?_alloc_at _ _ _ _ rfl]; rfl
    rw [← hw1]
    have HW := Lib.hid hw1
    clear hw1
    go_loopw [3, 4, 5] (fun r t _ wr => ∃ j : Nat, j ≤ n ∧ t = .int .i64 j ∧ r = .int .i64 ((depths (its.take j) : Nat) : Int) ∧ Hid (Below w1.heap.size w1 wr)) (fun _ t _ _ => n - (intOf t).toNat)
    case atStart => exact ⟨0, by omega, rfl, by simp [depths], Lib.hid (Below.refl _ _)⟩
    case round =>
      obtain ⟨j, hjn, rfl, rfl, hb⟩ := hrel
      by_cases hlt : j < n
      · obtain ⟨g, o, k', i', t', B, n', c1, B', n1, c2, rfl, hg, e0, e1, e2, e3, e4, hx⟩ := (HL.out).at_ (j := j) (x := its[j]'(by rw [← HN.out]; exact hlt)) (List.getElem?_eq_getElem _)
        have hj := sizes_take (List.getElem?_eq_getElem (l := its) (i := j) (by rw [← HN.out]; exact hlt))
        have hle := sizes_take_le its (j + 1)
        have hdj := depths_take (List.getElem?_eq_getElem (l := its) (i := j) (by rw [← HN.out]; exact hlt))
        have hdl := depths_take_le its (j + 1)
        have hdj0 := depths_take_le its j
        have hb' : Below w.heap.size w wr := B0.out.trans (hb.out.mono (by have := S1.out; omega))
        have cc := fun (q : Nat) => hb'.cell (p := ⟨g, q, none⟩) hg
        rw [Nat.zero_add] at e0 e1 e2 e3 e4
        rw [← cc] at e0 e1 e2 e3 e4
        have C3' := (hb.out.cell (p := ⟨w.heap.size, 3, none⟩) S1.out).trans C3
        have hc := IH.out (its[j]'(by rw [← HN.out]; exact hlt)) wr _ (by omega) (by omega) (hx.below hb')
        generalize its[j]'(by rw [← HN.out]; exact hlt) = x at *
        have HC := Lib.hid hc
        have HB := Lib.hid hb'
        clear hc hx hb' cc C3
        unfold vag at HC
        go_wp2_with fail
        refine (HC.out).mono ?_
        rintro e w' ⟨rfl, hb2⟩
        have HB2 := Lib.hid (hb.out.trans (hb2.mono hb.out.size))
        clear hb2
        by_cases hmx : depths (its.take j) < x.depth
        · go_wp2
          go_roundw
          case rel => exact ⟨j + 1, by omega, by go_num, by rw [hdj]; go_num, HB2⟩
          case measure => simp [intOf]; omega
        · go_wp2
          go_roundw
          case rel => exact ⟨j + 1, by omega, by go_num, by rw [hdj]; go_num, HB2⟩
          case measure => simp [intOf]; omega
      · have C3' := (hb.out.cell (p := ⟨w.heap.size, 3, none⟩) S1.out).trans C3
        obtain rfl : j = n := by omega
        have hdl := depths_take_le its j
        go_wp2
        go_ret
        refine ⟨?_, B0.out.trans (hb.out.mono (by have := S1.out; omega))⟩
        rw [VT.depth_mk, HN.out, List.take_length]
        rfl
end Go.Proofs.YtlgmhhimbabkjaaGreatDoor
namespace Go.Proofs.YtlgmhhimbabkjaaGreatDoor
open Go.RowKit

set_option maxHeartbeats 1000000 in
theorem refFuture_all (m : Nat) : ∀ (x : VT) (w : World) (v : Value), x.size ≤ m → Lies w (Lo w) x v → Calls Tryz.prog 32 #[v] w (Gives (.bool (!x.all noFut)) w) := by
  induction m with
  | zero => intro x _ _ h; have := size_pos x; omega
  | succ m ih =>
    intro x w v hsz hv
    obtain ⟨k, i, t, its, ks⟩ := x
    obtain ⟨A, c, A', c', rfl, _, _, _, hlc, hcm, hL, _, _, _⟩ := hv.open
    rw [VT.size_mk] at hsz
    obtain ⟨r, hr⟩ : ∃ r, r = !(VT.mk k i t its ks).all noFut := ⟨_, rfl⟩
    rw [← hr]
    rw [VT.all_mk] at hr
    have hno : ∀ (j : Nat) (y : VT), its[j]? = some y → y.all noFut = false → r = true := fun j y h h' => by rw [hr, alls_false h h', Bool.and_false]; rfl
    have hyes : alls noFut its = true → r = (k == 6) := fun h => by
      rw [hr, h, Bool.and_true]
      unfold noFut VT.k
      by_cases hk : k = 6 <;> simp [hk]
    have HNO := Lib.hid hno
    have HYES := Lib.hid hyes
    have HL := Lib.hid hL
    have IH := Lib.hid ih
    clear hL ih hv hr hno hyes
    obtain ⟨n, hn⟩ : ∃ n, n = its.length := ⟨_, rfl⟩
    rw [← hn] at hlc ⊢
    have HN := Lib.hid hn
    clear hn
    unfold vag
    go_enter Tryz.func32, Tryz.ntmps32
    go_wp2
    obtain ⟨w1, hw1⟩ : ∃ w1, w1 = w.alloc (.cells #[.int .i64 k, .int .i64 i, .string t, .slice A n c, .slice A' ks.length c'] 25) := ⟨_, rfl⟩
    have B0 : Hid (Below w.heap.size w w1) := Lib.hid (by rw [hw1]; exact below_one _ _)
    have S1 : Hid (w.heap.size < w1.heap.size) := Lib.hid (by rw [hw1]; simp)
    have X1 : Hid (∀ q, w1.cell? ⟨w.heap.size, q, none⟩ = (#[.int .i64 k, .int .i64 i, .string t, .slice A n c, .slice A' ks.length c'] : Array Value)[q]?) := Lib.hid (fun q => by rw [hw1, World.cell?_alloc_at _ _ _ _ rfl])
    rw [← hw1]
    have HW := Lib.hid hw1
    clear hw1
    go_loopw [3] (fun s wr => ∃ j : Nat, j ≤ n ∧ s = .int .i64 j ∧ Hid (alls noFut (its.take j) = true) ∧ Hid (Below w1.heap.size w1 wr)) (fun s _ => n - (intOf s).toNat)
    case atStart => exact ⟨0, by omega, rfl, Lib.hid (by simp [alls]), Lib.hid (Below.refl _ _)⟩
    case round =>
      obtain ⟨j, hjn, rfl, ha, hb⟩ := hrel
      have b0 := (hb.out.cell (p := ⟨w.heap.size, 0, none⟩) S1.out).trans (X1.out 0)
      have b3 := (hb.out.cell (p := ⟨w.heap.size, 3, none⟩) S1.out).trans (X1.out 3)
      change _ = some (Value.int .i64 k) at b0
      change _ = some (Value.slice A n c) at b3
      by_cases hlt : j < n
      · have g1 := List.getElem?_eq_getElem (l := its) (i := j) (by rw [← HN.out]; exact hlt)
        obtain ⟨g, o, k', i', t', B, n', c1, B', n1, c2, rfl, hg, e0, e1, e2, e3, e4, hx⟩ := (HL.out).at_ g1
        have hle := size_at g1
        have htk := alls_take (p := noFut) g1
        have HN2 := Lib.hid (HNO.out j _ g1)
        have HB := Lib.hid (below_next B0.out hb.out)
        generalize its[j]'(by rw [← HN.out]; exact hlt) = x at *
        have cc := fun (q : Nat) => HB.out.cell (p := ⟨g, q, none⟩) hg
        rw [Nat.zero_add] at e0 e1 e2 e3 e4
        rw [← cc] at e0 e1 e2 e3 e4
        have hc := IH.out x wr _ (by omega) (hx.below HB.out)
        generalize x.all noFut = p at *
        have HC := Lib.hid hc
        have HTK := Lib.hid htk
        clear hc hx cc g1 htk b0
        unfold vag at HC
        go_wp2_with fail
        refine (HC.out).mono ?_
        rintro e w' ⟨rfl, hb2⟩
        have HB2 := Lib.hid (below_next hb.out hb2)
        clear hb2
        cases p with
        | true =>
          go_wp2
          go_roundw
          case rel => exact ⟨j + 1, by omega, by go_num, Lib.hid (by rw [HTK.out, ha.out]; rfl), HB2⟩
          case measure => simp [intOf]; omega
        | false =>
          have HR := Lib.hid (HN2.out rfl)
          go_wp2
          go_ret
          exact ⟨ret_bool HR.out.symm, below_next B0.out HB2.out⟩
      · have HR := Lib.hid (HYES.out (by
          have := ha.out
          rwa [show j = n by omega, HN.out, List.take_length] at this))
        go_wp2
        go_ret
        exact ⟨ret_bool HR.out.symm, below_next B0.out hb.out⟩
theorem refFuture_any {x : VT} {v : Value} {w : World} (h : Lies w (Lo w) x v) : Calls Tryz.prog 32 #[v] w (Gives (.bool (!x.all noFut)) w) := refFuture_all x.size x w v (Nat.le_refl _) h

set_option maxHeartbeats 1000000 in
theorem refShort_all (m : Nat) : ∀ (x : VT) (w : World) (v : Value), x.size ≤ m → Lies w (Lo w) x v → Calls Tryz.prog 59 #[v] w (Gives (.bool (x.all shortF)) w) := by
  induction m with
  | zero => intro x _ _ h; have := size_pos x; omega
  | succ m ih =>
    intro x w v hsz hv
    obtain ⟨k, i, t, its, ks⟩ := x
    obtain ⟨A, c, A', c', rfl, _, _, htm, hlc, hcm, hL, hkc, hcm', hS⟩ := hv.open
    rw [VT.size_mk] at hsz
    obtain ⟨r, hr⟩ : ∃ r, r = (VT.mk k i t its ks).all shortF := ⟨_, rfl⟩
    rw [← hr]
    rw [VT.all_mk] at hr
    have hno : ∀ (j : Nat) (y : VT), its[j]? = some y → y.all shortF = false → r = false := fun j y h h' => by rw [hr, alls_false h h', Bool.and_false]
    have hnk : (ks.all fun s => decide (s.size ≤ 4096)) = false → r = false := fun h => by rw [hr]; unfold shortF VT.ks; rw [h, Bool.and_false, Bool.false_and]
    have hyes : t.size ≤ 4096 → (ks.all fun s => decide (s.size ≤ 4096)) = true → alls shortF its = true → r = true := fun h1 h2 h3 => by
      rw [hr, h3]; unfold shortF VT.ks VT.t; rw [h2, decide_eq_true h1]; rfl
    have hnt : ¬ t.size ≤ 4096 → r = false := fun h => by rw [hr]; unfold shortF VT.t; rw [decide_eq_false h, Bool.false_and, Bool.false_and]
    have HNO := Lib.hid hno
    have HNK := Lib.hid hnk
    have HYES := Lib.hid hyes
    have HNT := Lib.hid hnt
    have HL := Lib.hid hL
    have HS := Lib.hid hS
    have IH := Lib.hid ih
    clear hL hS ih hv hr hno hyes hnk hnt
    obtain ⟨n, hn⟩ : ∃ n, n = its.length := ⟨_, rfl⟩
    rw [← hn] at hlc ⊢
    have HN := Lib.hid hn
    clear hn
    unfold vag
    by_cases ht : t.size ≤ 4096
    · have g2 : decide (4096 < (t.size : Int)) = false := decide_eq_false (by omega)
      have HT := Lib.hid ht
      clear ht HNT
      go_enter Tryz.func59, Tryz.ntmps59
      go_wp2
      obtain ⟨w1, hw1⟩ : ∃ w1, w1 = w.alloc (.cells #[.int .i64 k, .int .i64 i, .string t, .slice A n c, .slice A' ks.length c'] 25) := ⟨_, rfl⟩
      have B0 : Hid (Below w.heap.size w w1) := Lib.hid (by rw [hw1]; exact below_one _ _)
      have S1 : Hid (w.heap.size < w1.heap.size) := Lib.hid (by rw [hw1]; simp)
      have X1 : Hid (∀ q, w1.cell? ⟨w.heap.size, q, none⟩ = (#[.int .i64 k, .int .i64 i, .string t, .slice A n c, .slice A' ks.length c'] : Array Value)[q]?) := Lib.hid (fun q => by rw [hw1, World.cell?_alloc_at _ _ _ _ rfl])
      rw [← hw1]
      have x4 := X1.out 4
      change _ = some (Value.slice A' ks.length c') at x4
      have HW := Lib.hid hw1
      clear hw1
      go_loopw [3] (fun s wr => ∃ j : Nat, j ≤ ks.length ∧ s = .int .i64 j ∧ w1 = wr ∧ Hid ((ks.take j).all (fun s => decide (s.size ≤ 4096)) = true)) (fun s _ => ks.length - (intOf s).toNat)
      case atStart => exact ⟨0, by omega, rfl, rfl, Lib.hid rfl⟩
      case round =>
        obtain ⟨j, hjn, rfl, rfl, ha⟩ := hrel
        by_cases hlt : j < ks.length
        · have hkj : ks[j]? = some (ks.getD j ByteArray.empty) := by rw [List.getD_eq_getElem?_getD, List.getElem?_eq_getElem hlt]; rfl
          obtain ⟨hsz2, g, o, rfl, hg, e0⟩ := HS.out j _ hkj
          rw [← B0.out.cell (p := ⟨g, o + j, none⟩) hg] at e0
          have hst := fun h => short_take hkj ha.out h
          have hno := fun h => short_no hkj h
          generalize ks.getD j ByteArray.empty = s at *
          have HST := Lib.hid hst
          have HNO2 := Lib.hid hno
          clear hst hno hkj
          by_cases hs : s.size ≤ 4096
          · have g3 : decide (4096 < (s.size : Int)) = false := decide_eq_false (by omega)
            go_wp2
            go_roundw
            case rel => exact ⟨j + 1, by omega, by go_num, trivial, Lib.hid (HST.out hs)⟩
            case measure => simp [intOf]; omega
          · have g3 : decide (4096 < (s.size : Int)) = true := decide_eq_true (by omega)
            have HR := Lib.hid (HNK.out (HNO2.out hs))
            go_wp2
            go_ret
            exact ⟨ret_bool HR.out.symm, B0.out⟩
        · have HK : Hid ((ks.all fun s => decide (s.size ≤ 4096)) = true) := Lib.hid (by
            have := ha.out
            rwa [show j = ks.length by omega, List.take_length] at this)
          clear ha
          go_wp2
          obtain ⟨w6, hw6⟩ : ∃ w6, w6 = w1 := ⟨_, rfl⟩
          go_loopw [4] (fun s wr => ∃ j : Nat, j ≤ n ∧ s = .int .i64 j ∧ Hid (alls shortF (its.take j) = true) ∧ Hid (Below w1.heap.size w1 wr)) (fun s _ => n - (intOf s).toNat)
          case atStart => exact ⟨0, by omega, rfl, Lib.hid (by simp [alls]), Lib.hid (Below.refl _ _)⟩
          case round =>
            obtain ⟨j, hjn, rfl, ha, hb⟩ := hrel
            have b3 := (hb.out.cell (p := ⟨w.heap.size, 3, none⟩) S1.out).trans (X1.out 3)
            change _ = some (Value.slice A n c) at b3
            by_cases hlt : j < n
            · have g1 := List.getElem?_eq_getElem (l := its) (i := j) (by rw [← HN.out]; exact hlt)
              obtain ⟨g, o, k', i', t', B, n', c1, B', n1, c2, rfl, hg, e0, e1, e2, e3, e4, hx⟩ := (HL.out).at_ g1
              have hle := size_at g1
              have htk := alls_take (p := shortF) g1
              have HN2 := Lib.hid (HNO.out j _ g1)
              have HB := Lib.hid (below_next B0.out hb.out)
              generalize its[j]'(by rw [← HN.out]; exact hlt) = x at *
              have cc := fun (q : Nat) => HB.out.cell (p := ⟨g, q, none⟩) hg
              rw [Nat.zero_add] at e0 e1 e2 e3 e4
              rw [← cc] at e0 e1 e2 e3 e4
              have hc := IH.out x wr _ (by omega) (hx.below HB.out)
              generalize x.all shortF = p at *
              have HC := Lib.hid hc
              have HTK := Lib.hid htk
              clear hc hx cc g1 htk
              unfold vag at HC
              go_wp2_with fail
              refine (HC.out).mono ?_
              rintro e w' ⟨rfl, hb2⟩
              have HB2 := Lib.hid (below_next hb.out hb2)
              clear hb2
              cases p with
              | true =>
                go_wp2
                go_roundw
                case rel => exact ⟨j + 1, by omega, by go_num, Lib.hid (by rw [HTK.out, ha.out]; rfl), HB2⟩
                case measure => simp [intOf]; omega
              | false =>
                have HR := Lib.hid (HN2.out rfl)
                go_wp2
                go_ret
                exact ⟨ret_bool HR.out.symm, below_next B0.out HB2.out⟩
            · have HR := Lib.hid (HYES.out HT.out HK.out (by
                have := ha.out
                rwa [show j = n by omega, HN.out, List.take_length] at this))
              go_wp2
              go_ret
              exact ⟨ret_bool HR.out.symm, below_next B0.out hb.out⟩
    · have g2 : decide (4096 < (t.size : Int)) = true := decide_eq_true (by omega)
      have HR := Lib.hid (HNT.out ht)
      clear ht
      go_enter Tryz.func59, Tryz.ntmps59
      go_wp2
      go_ret
      exact ⟨ret_bool HR.out.symm, below_one _ _⟩
theorem refShort_any {x : VT} {v : Value} {w : World} (h : Lies w (Lo w) x v) : Calls Tryz.prog 59 #[v] w (Gives (.bool (x.all shortF)) w) := refShort_all x.size x w v (Nat.le_refl _) h
end Go.Proofs.YtlgmhhimbabkjaaGreatDoor
namespace Go.Proofs.YtlgmhhimbabkjaaGreatDoor
open Go.RowKit

set_option maxHeartbeats 1000000 in
theorem refWithin_any {x : VT} {v : Value} {w : World} (hsz : x.size < 4611686018427387904) (h : Lies w (Lo w) x v) : Calls Tryz.prog 31 #[v] w (Gives (.bool x.within) w) := by
  obtain ⟨r, hr⟩ : ∃ r, r = x.within := ⟨_, rfl⟩
  rw [← hr]
  unfold VT.within at hr
  have HA := Lib.hid (fun (w' : World) (hb : Below w.heap.size w w') => refShort_any (h.below hb))
  have HB := Lib.hid (fun (w' : World) (hb : Below w.heap.size w w') => refDepth_all x.size x w' v (Nat.le_refl _) hsz (h.below hb))
  have HC := Lib.hid (fun (w' : World) (hb : Below w.heap.size w w') => refSize_all x.size x w' v (Nat.le_refl _) hsz (h.below hb))
  have hdz := depth_le_size _ x (Nat.le_refl _)
  obtain ⟨k, i, t, its, ks⟩ := x
  obtain ⟨A, c, A', c', rfl, _, _, _, h1, h2, hL, h3, h4, hS⟩ := h.open
  obtain ⟨w2, hw2⟩ : ∃ w2, w2 = w.alloc (.cells #[.int .i64 k, .int .i64 i, .string t, .slice A its.length c, .slice A' ks.length c'] 25) := ⟨_, rfl⟩
  have B2 : Hid (Below w.heap.size w w2) := Lib.hid (by rw [hw2]; exact below_one _ _)
  have S2 : Hid (w.heap.size < w2.heap.size) := Lib.hid (by rw [hw2]; simp)
  have X1 : Hid (∀ j, w2.cell? ⟨w.heap.size, j, none⟩ = (#[.int .i64 k, .int .i64 i, .string t, .slice A its.length c, .slice A' ks.length c'] : Array Value)[j]?) := Lib.hid (fun j => by
    rw [hw2, World.cell?_alloc_at _ _ _ _ rfl])
  have HW := Lib.hid hw2
  clear h hL hS hw2
  have H1 := Lib.hid (HA.out w2 B2.out)
  unfold vag at H1 HA HB HC ⊢
  generalize (VT.mk k i t its ks).all shortF = p at *
  generalize (VT.mk k i t its ks).depth = d at *
  generalize (VT.mk k i t its ks).size = z at *
  have O1 : Hid (p = false → r = false) := Lib.hid (fun h => by rw [hr, h]; rfl)
  have O2 : Hid (¬ d ≤ 16 → r = false) := Lib.hid (fun h => by rw [hr, decide_eq_false h, Bool.false_and, Bool.and_false])
  have O3 : Hid (¬ z ≤ 1000 → r = false) := Lib.hid (fun h => by rw [hr, decide_eq_false h, Bool.and_false, Bool.and_false])
  have O4 : Hid (p = true → d ≤ 16 → z ≤ 1000 → r = true) := Lib.hid (fun h h' h'' => by rw [hr, h, decide_eq_true h', decide_eq_true h'']; rfl)
  clear hr
  go_enter Tryz.func31, Tryz.ntmps31
  go_wp2_with fail
  rw [← HW.out]
  refine (H1.out).mono ?_
  rintro e3 w3 ⟨rfl, hb⟩
  have HB3 := Lib.hid (below_next B2.out hb)
  have S3 : Hid (w.heap.size < w3.heap.size) := Lib.hid (by have := S2.out; have := hb.size; omega)
  have a30 := (hb.cell (p := ⟨w.heap.size, 0, none⟩) S2.out).trans (X1.out 0)
  have a31 := (hb.cell (p := ⟨w.heap.size, 1, none⟩) S2.out).trans (X1.out 1)
  have a32 := (hb.cell (p := ⟨w.heap.size, 2, none⟩) S2.out).trans (X1.out 2)
  have a33 := (hb.cell (p := ⟨w.heap.size, 3, none⟩) S2.out).trans (X1.out 3)
  have a34 := (hb.cell (p := ⟨w.heap.size, 4, none⟩) S2.out).trans (X1.out 4)
  change _ = some (Value.int .i64 k) at a30
  change _ = some (Value.int .i64 i) at a31
  change _ = some (Value.string t) at a32
  change _ = some (Value.slice A its.length c) at a33
  change _ = some (Value.slice A' ks.length c') at a34
  clear hb
  cases p with
  | false =>
    have HR := Lib.hid (O1.out rfl)
    go_wp2
    go_ret
    exact ⟨ret_bool HR.out.symm, HB3.out⟩
  | true =>
    go_wp2_with fail
    refine (HB.out w3 HB3.out).mono ?_
    rintro e4 w4 ⟨rfl, hb⟩
    have HB4 := Lib.hid (below_next HB3.out hb)
    have S4 : Hid (w.heap.size < w4.heap.size) := Lib.hid (by have := S3.out; have := hb.size; omega)
    have a40 := (hb.cell (p := ⟨w.heap.size, 0, none⟩) S3.out).trans a30
    have a41 := (hb.cell (p := ⟨w.heap.size, 1, none⟩) S3.out).trans a31
    have a42 := (hb.cell (p := ⟨w.heap.size, 2, none⟩) S3.out).trans a32
    have a43 := (hb.cell (p := ⟨w.heap.size, 3, none⟩) S3.out).trans a33
    have a44 := (hb.cell (p := ⟨w.heap.size, 4, none⟩) S3.out).trans a34
    change _ = some (Value.int .i64 k) at a40
    change _ = some (Value.int .i64 i) at a41
    change _ = some (Value.string t) at a42
    change _ = some (Value.slice A its.length c) at a43
    change _ = some (Value.slice A' ks.length c') at a44
    clear a30 a31 a32 a33 a34
    clear hb
    by_cases hd : d ≤ 16
    · have f1 : decide ((d : Int) ≤ 16) = true := decide_eq_true (by omega)
      have HD := Lib.hid hd
      clear hd
      go_wp2_with fail
      refine (HC.out w4 HB4.out).mono ?_
      rintro e5 w5 ⟨rfl, hb⟩
      have HB5 := Lib.hid (below_next HB4.out hb)
      have S5 : Hid (w.heap.size < w5.heap.size) := Lib.hid (by have := S4.out; have := hb.size; omega)
      have a50 := (hb.cell (p := ⟨w.heap.size, 0, none⟩) S4.out).trans a40
      have a51 := (hb.cell (p := ⟨w.heap.size, 1, none⟩) S4.out).trans a41
      have a52 := (hb.cell (p := ⟨w.heap.size, 2, none⟩) S4.out).trans a42
      have a53 := (hb.cell (p := ⟨w.heap.size, 3, none⟩) S4.out).trans a43
      have a54 := (hb.cell (p := ⟨w.heap.size, 4, none⟩) S4.out).trans a44
      change _ = some (Value.int .i64 k) at a50
      change _ = some (Value.int .i64 i) at a51
      change _ = some (Value.string t) at a52
      change _ = some (Value.slice A its.length c) at a53
      change _ = some (Value.slice A' ks.length c') at a54
      clear a40 a41 a42 a43 a44
      clear hb
      by_cases hz : z ≤ 1000
      · have f2 : decide ((z : Int) ≤ 1000) = true := decide_eq_true (by omega)
        have HR := Lib.hid (O4.out (by trivial) HD.out hz)
        clear hz
        go_wp2
        go_ret
        exact ⟨ret_bool HR.out.symm, HB5.out⟩
      · have f2 : decide ((z : Int) ≤ 1000) = false := decide_eq_false (by omega)
        have HR := Lib.hid (O3.out hz)
        clear hz
        go_wp2
        go_ret
        exact ⟨ret_bool HR.out.symm, HB5.out⟩
    · have f1 : decide ((d : Int) ≤ 16) = false := decide_eq_false (by omega)
      have HR := Lib.hid (O2.out hd)
      clear hd
      go_wp2
      go_ret
      exact ⟨ret_bool HR.out.symm, HB4.out⟩

set_option maxHeartbeats 1000000 in
theorem refRight_any {x : VT} {v : Value} {w : World} (hsz : x.size < 4611686018427387904) (h : Lies w (Lo w) x v) : Calls Tryz.prog 16 #[v] w (Gives (.bool x.right) w) := by
  obtain ⟨r, hr⟩ : ∃ r, r = x.right := ⟨_, rfl⟩
  rw [← hr]
  unfold VT.right at hr
  have HA := Lib.hid (fun (w' : World) (hb : Below w.heap.size w w') => refWf_any (h.below hb))
  have HB := Lib.hid (fun (w' : World) (hb : Below w.heap.size w w') => refWithin_any hsz (h.below hb))
  have HC := Lib.hid (fun (w' : World) (hb : Below w.heap.size w w') => refFuture_any (h.below hb))
  obtain ⟨k, i, t, its, ks⟩ := x
  obtain ⟨A, c, A', c', rfl, _, _, _, h1, h2, hL, h3, h4, hS⟩ := h.open
  obtain ⟨w2, hw2⟩ : ∃ w2, w2 = w.alloc (.cells #[.int .i64 k, .int .i64 i, .string t, .slice A its.length c, .slice A' ks.length c'] 25) := ⟨_, rfl⟩
  have B2 : Hid (Below w.heap.size w w2) := Lib.hid (by rw [hw2]; exact below_one _ _)
  have S2 : Hid (w.heap.size < w2.heap.size) := Lib.hid (by rw [hw2]; simp)
  have X1 : Hid (∀ j, w2.cell? ⟨w.heap.size, j, none⟩ = (#[.int .i64 k, .int .i64 i, .string t, .slice A its.length c, .slice A' ks.length c'] : Array Value)[j]?) := Lib.hid (fun j => by
    rw [hw2, World.cell?_alloc_at _ _ _ _ rfl])
  have HW := Lib.hid hw2
  clear h hL hS hw2
  have H1 := Lib.hid (HA.out w2 B2.out)
  unfold vag at H1 HA HB HC ⊢
  generalize (VT.mk k i t its ks).wf = p at *
  generalize (VT.mk k i t its ks).within = q at *
  generalize (VT.mk k i t its ks).all noFut = z at *
  have O1 : Hid (p = false → r = false) := Lib.hid (fun h => by rw [hr, h]; rfl)
  have O2 : Hid (q = false → r = false) := Lib.hid (fun h => by rw [hr, h, Bool.false_and, Bool.and_false])
  have O3 : Hid (p = true → q = true → r = z) := Lib.hid (fun h h' => by rw [hr, h, h']; rfl)
  clear hr
  go_enter Tryz.func16, Tryz.ntmps16
  go_wp2_with fail
  rw [← HW.out]
  refine (H1.out).mono ?_
  rintro e3 w3 ⟨rfl, hb⟩
  have HB3 := Lib.hid (below_next B2.out hb)
  have S3 : Hid (w.heap.size < w3.heap.size) := Lib.hid (by have := S2.out; have := hb.size; omega)
  have a30 := (hb.cell (p := ⟨w.heap.size, 0, none⟩) S2.out).trans (X1.out 0)
  have a31 := (hb.cell (p := ⟨w.heap.size, 1, none⟩) S2.out).trans (X1.out 1)
  have a32 := (hb.cell (p := ⟨w.heap.size, 2, none⟩) S2.out).trans (X1.out 2)
  have a33 := (hb.cell (p := ⟨w.heap.size, 3, none⟩) S2.out).trans (X1.out 3)
  have a34 := (hb.cell (p := ⟨w.heap.size, 4, none⟩) S2.out).trans (X1.out 4)
  change _ = some (Value.int .i64 k) at a30
  change _ = some (Value.int .i64 i) at a31
  change _ = some (Value.string t) at a32
  change _ = some (Value.slice A its.length c) at a33
  change _ = some (Value.slice A' ks.length c') at a34
  clear hb
  cases p with
  | false =>
    have HR := Lib.hid (O1.out rfl)
    go_wp2
    go_ret
    exact ⟨ret_bool HR.out.symm, HB3.out⟩
  | true =>
    go_wp2_with fail
    refine (HB.out w3 HB3.out).mono ?_
    rintro e4 w4 ⟨rfl, hb⟩
    have HB4 := Lib.hid (below_next HB3.out hb)
    have S4 : Hid (w.heap.size < w4.heap.size) := Lib.hid (by have := S3.out; have := hb.size; omega)
    have a40 := (hb.cell (p := ⟨w.heap.size, 0, none⟩) S3.out).trans a30
    have a41 := (hb.cell (p := ⟨w.heap.size, 1, none⟩) S3.out).trans a31
    have a42 := (hb.cell (p := ⟨w.heap.size, 2, none⟩) S3.out).trans a32
    have a43 := (hb.cell (p := ⟨w.heap.size, 3, none⟩) S3.out).trans a33
    have a44 := (hb.cell (p := ⟨w.heap.size, 4, none⟩) S3.out).trans a34
    change _ = some (Value.int .i64 k) at a40
    change _ = some (Value.int .i64 i) at a41
    change _ = some (Value.string t) at a42
    change _ = some (Value.slice A its.length c) at a43
    change _ = some (Value.slice A' ks.length c') at a44
    clear a30 a31 a32 a33 a34
    clear hb
    cases q with
    | false =>
      have HR := Lib.hid (O2.out rfl)
      go_wp2
      go_ret
      exact ⟨ret_bool HR.out.symm, HB4.out⟩
    | true =>
      have HR := Lib.hid (O3.out (by trivial) (by trivial))
      go_wp2_with fail
      refine (HC.out w4 HB4.out).mono ?_
      rintro e5 w5 ⟨rfl, hb⟩
      have HB5 := Lib.hid (below_next HB4.out hb)
      have S5 : Hid (w.heap.size < w5.heap.size) := Lib.hid (by have := S4.out; have := hb.size; omega)
      have a50 := (hb.cell (p := ⟨w.heap.size, 0, none⟩) S4.out).trans a40
      have a51 := (hb.cell (p := ⟨w.heap.size, 1, none⟩) S4.out).trans a41
      have a52 := (hb.cell (p := ⟨w.heap.size, 2, none⟩) S4.out).trans a42
      have a53 := (hb.cell (p := ⟨w.heap.size, 3, none⟩) S4.out).trans a43
      have a54 := (hb.cell (p := ⟨w.heap.size, 4, none⟩) S4.out).trans a44
      change _ = some (Value.int .i64 k) at a50
      change _ = some (Value.int .i64 i) at a51
      change _ = some (Value.string t) at a52
      change _ = some (Value.slice A its.length c) at a53
      change _ = some (Value.slice A' ks.length c') at a54
      clear a40 a41 a42 a43 a44
      clear hb
      cases z with
      | false =>
        go_wp2
        go_ret
        exact ⟨ret_bool HR.out.symm, HB5.out⟩
      | true =>
        go_wp2
        go_ret
        exact ⟨ret_bool HR.out.symm, HB5.out⟩

set_option maxHeartbeats 1000000 in
theorem valRight_any {x : VT} {v : Value} {w : World} (h : Lies w (Lo w) x v) : Calls Tryz.prog 17 #[v] w (Gives (.bool x.right) w) := by
  obtain ⟨r, hr⟩ : ∃ r, r = x.right := ⟨_, rfl⟩
  rw [← hr]
  unfold VT.right at hr
  have HA := Lib.hid (fun (w' : World) (hb : Below w.heap.size w w') => within_any (h.below hb))
  have HB := Lib.hid (fun (w' : World) (hb : Below w.heap.size w w') => wf_any (h.below hb))
  have HC := Lib.hid (fun (w' : World) (hb : Below w.heap.size w w') => everyNf_all x.size x w' v (Nat.le_refl _) (h.below hb))
  obtain ⟨k, i, t, its, ks⟩ := x
  obtain ⟨A, c, A', c', rfl, _, _, _, h1, h2, hL, h3, h4, hS⟩ := h.open
  obtain ⟨w2, hw2⟩ : ∃ w2, w2 = w.alloc (.cells #[.int .i64 k, .int .i64 i, .string t, .slice A its.length c, .slice A' ks.length c'] 25) := ⟨_, rfl⟩
  have B2 : Hid (Below w.heap.size w w2) := Lib.hid (by rw [hw2]; exact below_one _ _)
  have S2 : Hid (w.heap.size < w2.heap.size) := Lib.hid (by rw [hw2]; simp)
  have X1 : Hid (∀ j, w2.cell? ⟨w.heap.size, j, none⟩ = (#[.int .i64 k, .int .i64 i, .string t, .slice A its.length c, .slice A' ks.length c'] : Array Value)[j]?) := Lib.hid (fun j => by
    rw [hw2, World.cell?_alloc_at _ _ _ _ rfl])
  have HW := Lib.hid hw2
  clear h hL hS hw2
  have H1 := Lib.hid (HA.out w2 B2.out)
  unfold vag at H1 HA HB HC ⊢
  generalize (VT.mk k i t its ks).within = p at *
  generalize (VT.mk k i t its ks).wf = q at *
  generalize (VT.mk k i t its ks).all noFut = z at *
  have O2 : Hid (q = false → r = false) := Lib.hid (fun h => by rw [hr, h]; rfl)
  have O1 : Hid (p = false → r = false) := Lib.hid (fun h => by rw [hr, h, Bool.false_and, Bool.and_false])
  have O3 : Hid (p = true → q = true → r = z) := Lib.hid (fun h h' => by rw [hr, h', h]; rfl)
  clear hr
  go_enter Tryz.func17, Tryz.ntmps17
  go_wp2_with fail
  rw [← HW.out]
  refine (H1.out).mono ?_
  rintro e3 w3 ⟨rfl, hb⟩
  have HB3 := Lib.hid (below_next B2.out hb)
  have S3 : Hid (w.heap.size < w3.heap.size) := Lib.hid (by have := S2.out; have := hb.size; omega)
  have a30 := (hb.cell (p := ⟨w.heap.size, 0, none⟩) S2.out).trans (X1.out 0)
  have a31 := (hb.cell (p := ⟨w.heap.size, 1, none⟩) S2.out).trans (X1.out 1)
  have a32 := (hb.cell (p := ⟨w.heap.size, 2, none⟩) S2.out).trans (X1.out 2)
  have a33 := (hb.cell (p := ⟨w.heap.size, 3, none⟩) S2.out).trans (X1.out 3)
  have a34 := (hb.cell (p := ⟨w.heap.size, 4, none⟩) S2.out).trans (X1.out 4)
  change _ = some (Value.int .i64 k) at a30
  change _ = some (Value.int .i64 i) at a31
  change _ = some (Value.string t) at a32
  change _ = some (Value.slice A its.length c) at a33
  change _ = some (Value.slice A' ks.length c') at a34
  clear hb
  cases p with
  | false =>
    have HR := Lib.hid (O1.out rfl)
    go_wp2
    go_ret
    exact ⟨ret_bool HR.out.symm, HB3.out⟩
  | true =>
    go_wp2_with fail
    refine (HB.out w3 HB3.out).mono ?_
    rintro e4 w4 ⟨rfl, hb⟩
    have HB4 := Lib.hid (below_next HB3.out hb)
    have S4 : Hid (w.heap.size < w4.heap.size) := Lib.hid (by have := S3.out; have := hb.size; omega)
    have a40 := (hb.cell (p := ⟨w.heap.size, 0, none⟩) S3.out).trans a30
    have a41 := (hb.cell (p := ⟨w.heap.size, 1, none⟩) S3.out).trans a31
    have a42 := (hb.cell (p := ⟨w.heap.size, 2, none⟩) S3.out).trans a32
    have a43 := (hb.cell (p := ⟨w.heap.size, 3, none⟩) S3.out).trans a33
    have a44 := (hb.cell (p := ⟨w.heap.size, 4, none⟩) S3.out).trans a34
    change _ = some (Value.int .i64 k) at a40
    change _ = some (Value.int .i64 i) at a41
    change _ = some (Value.string t) at a42
    change _ = some (Value.slice A its.length c) at a43
    change _ = some (Value.slice A' ks.length c') at a44
    clear a30 a31 a32 a33 a34
    clear hb
    cases q with
    | false =>
      have HR := Lib.hid (O2.out rfl)
      go_wp2
      go_ret
      exact ⟨ret_bool HR.out.symm, HB4.out⟩
    | true =>
      have HR := Lib.hid (O3.out (by trivial) (by trivial))
      go_wp2_with fail
      refine (HC.out w4 HB4.out).mono ?_
      rintro e5 w5 ⟨rfl, hb⟩
      have HB5 := Lib.hid (below_next HB4.out hb)
      have S5 : Hid (w.heap.size < w5.heap.size) := Lib.hid (by have := S4.out; have := hb.size; omega)
      have a50 := (hb.cell (p := ⟨w.heap.size, 0, none⟩) S4.out).trans a40
      have a51 := (hb.cell (p := ⟨w.heap.size, 1, none⟩) S4.out).trans a41
      have a52 := (hb.cell (p := ⟨w.heap.size, 2, none⟩) S4.out).trans a42
      have a53 := (hb.cell (p := ⟨w.heap.size, 3, none⟩) S4.out).trans a43
      have a54 := (hb.cell (p := ⟨w.heap.size, 4, none⟩) S4.out).trans a44
      change _ = some (Value.int .i64 k) at a50
      change _ = some (Value.int .i64 i) at a51
      change _ = some (Value.string t) at a52
      change _ = some (Value.slice A its.length c) at a53
      change _ = some (Value.slice A' ks.length c') at a54
      clear a40 a41 a42 a43 a44
      clear hb
      cases z with
      | false =>
        go_wp2
        go_ret
        exact ⟨ret_bool HR.out.symm, HB5.out⟩
      | true =>
        go_wp2
        go_ret
        exact ⟨ret_bool HR.out.symm, HB5.out⟩
end Go.Proofs.YtlgmhhimbabkjaaGreatDoor
namespace Go.Proofs.YtlgmhhimbabkjaaGreatDoor
open Go.RowKit

mutual
def VT.txt : VT → List UInt8
  | .mk k i t its ks => if k = 1 then boolL (decide (i = 1)) else if k = 2 then Lib.itoa i else if k = 3 then quoL t.data.toList else if k = 4 then 91 :: (txts false true its ks ++ [93]) else if k = 5 then 123 :: (txts true true its ks ++ [125]) else [110, 117, 108, 108]
def txts (m : Bool) (f : Bool) : List VT → List ByteArray → List UInt8
  | [], _ => []
  | x :: r, ks => (if f then [] else [44, 32]) ++ ((if m then quoL (ks.headD ByteArray.empty).data.toList ++ [58, 32] else []) ++ (x.txt ++ txts m false r ks.tail))
end
theorem VT.txt_mk (k i : Int) (t : ByteArray) (its : List VT) (ks : List ByteArray) : (VT.mk k i t its ks).txt =
    if k = 1 then boolL (decide (i = 1)) else if k = 2 then Lib.itoa i else if k = 3 then quoL t.data.toList else if k = 4 then 91 :: (txts false true its ks ++ [93]) else if k = 5 then 123 :: (txts true true its ks ++ [125]) else [110, 117, 108, 108] := by rw [VT.txt]
theorem txts_append (m : Bool) : ∀ (f : Bool) (a b : List VT) (ks : List ByteArray), txts m f (a ++ b) ks = txts m f a ks ++ txts m (f && a.isEmpty) b (ks.drop a.length)
  | f, [], b, ks => by simp [txts]
  | f, x :: a, b, ks => by
    rw [List.cons_append, txts, txts, txts_append m false a b ks.tail]
    simp [List.drop_tail]
theorem txts_take {m f : Bool} {its : List VT} {ks : List ByteArray} {j : Nat} {x : VT} (h : its[j]? = some x) :
    txts m f (its.take (j + 1)) ks = txts m f (its.take j) ks ++ ((if (f && decide (j = 0)) = true then [] else [44, 32]) ++ ((if m then quoL (ks.getD j ByteArray.empty).data.toList ++ [58, 32] else []) ++ x.txt)) := by
  have hj := (List.getElem?_eq_some_iff.1 h).1
  rw [List.take_add_one, h, txts_append]
  simp only [Option.toList_some, txts, List.append_nil]
  have e : (ks.drop (its.take j).length).headD ByteArray.empty = ks.getD j ByteArray.empty := by
    rw [List.headD_eq_head?_getD, List.head?_drop, List.getD_eq_getElem?_getD, List.length_take, Nat.min_eq_left (by omega)]
  have e2 : (its.take j).isEmpty = decide (j = 0) := by
    cases j with
    | zero => simp
    | succ j => cases its with
      | nil => simp at hj
      | cons a r => simp
  rw [e, e2]
theorem txts_take_len (m f : Bool) (its : List VT) (ks : List ByteArray) (j : Nat) : (txts m f (its.take j) ks).length ≤ (txts m f its ks).length := by
  have := txts_append m f (its.take j) (its.drop j) ks
  rw [List.take_append_drop] at this
  rw [this, List.length_append]
  omega
theorem quoL_len (l : List UInt8) : l.length + 2 ≤ (quoL l).length := by
  unfold quoL
  rw [List.length_cons, List.length_append]
  have : l.length ≤ (l.flatMap escB).length := by
    induction l with
    | nil => simp
    | cons c r ih =>
      rw [List.flatMap_cons, List.length_append, List.length_cons]
      have : 1 ≤ (escB c).length := by
        unfold escB
        repeat' split
        all_goals simp
      omega
  have e : ([34] : List UInt8).length = 1 := rfl
  omega
end Go.Proofs.YtlgmhhimbabkjaaGreatDoor
namespace Go.Proofs.YtlgmhhimbabkjaaGreatDoor
open Go.RowKit

/-- what appendPayload is asked of values of at most m nodes -/
def TxtUpto (m : Nat) : Prop := ∀ (x : VT) (w : World) (v : Value) (base n c : Nat) (A : Option Addr) (l : List UInt8), x.size ≤ m → x.all okF = true → Lies w (fun b => b < base) x v → w.ownsRow base 5 1 (.slice A n c) n (l.map b8) → base ≤ w.heap.size →
  n + 4 * x.txt.length ≤ 100000000 → PowTab base w → Calls Tryz.prog 18 #[.slice A n c, v] w (AppB base (.slice A n c) w (l ++ x.txt))

set_option maxRecDepth 100000 in
set_option maxHeartbeats 4000000 in
set_option linter.unusedVariables false in
theorem elems_4 (m : Nat) (IH : Hid (TxtUpto m)) (i : Int) (t : ByteArray) (its : List VT) (ks : List ByteArray) (A : Option Addr) (c : Nat) (A' : Option Addr) (c' : Nat) (w : World) (base n0 c0 : Nat) (A0 : Option Addr) (l : List UInt8)
    (hL : LiesL w (fun b => b < base) A 0 its) (h1 : its.length ≤ c) (h2 : c ≤ 9223372036854775807) (hsz : sizes its ≤ m) (hw : alls okF its = true)
    (ho : w.ownsRow base 5 1 (.slice A0 n0 c0) n0 (l.map b8)) (hB : base ≤ w.heap.size) (hn : n0 + 4 * (txts false true its ks).length ≤ 100000000) (hT : PowTab base w) :
    Calls Tryz.prog 39 #[.slice A0 n0 c0, vag 4 i t A its.length c A' ks.length c'] w (AppB base (.slice A0 n0 c0) w (l ++ txts false true its ks)) := by
  obtain ⟨ti, hti, hz, htz, hby⟩ := info_parts Tryz.infob
  have HL := Lib.hid hL
  have HWF := Lib.hid hw
  have HNN := Lib.hid hn
  have Hfalse := Lib.hid hB
  have HTT := Lib.hid hT
  have HL0 := Lib.hid (own_len ho)
  have hcc : n0 ≤ c0 ∧ c0 ≤ 9223372036854775807 := by
    obtain ⟨A9, c9, e9, e1, e2⟩ := own_form ho
    injection e9 with _ _ e3
    subst e3
    unfold maxLen at e2
    exact ⟨e1, by omega⟩
  obtain ⟨w1, hw1⟩ : ∃ w1, w1 = w.alloc (.cells #[.int .i64 4, .int .i64 i, .string t, .slice A its.length c, .slice A' ks.length c'] 25) := ⟨_, rfl⟩
  have P1 : Hid (Bk w1 w.heap.size 25 #[.int .i64 4, .int .i64 i, .string t, .slice A its.length c, .slice A' ks.length c']) := Lib.hid (by rw [hw1]; exact Bk.new _ _ _)
  have F1 : Hid (Frm base w w1) := Lib.hid (by rw [hw1]; exact Frm.of_below (below_one _ _) hB)
  have G1 : Hid (Grw w (Value.slice A0 n0 c0).ownBlock (Value.slice A0 n0 c0).ownBlock w1) := Lib.hid (by rw [hw1]; exact Grw.new (Grw.refl _ _))
  have O1 : Hid (w1.ownsRow base 5 1 (.slice A0 n0 c0) n0 (l.map b8)) := Lib.hid (by rw [hw1]; exact ho.alloc _)
  have HW := Lib.hid hw1
  clear hL hw hn hB ho hw1 hT
  unfold vag
  have p3 := P1.out.cell 3
  change _ = some (Value.slice A its.length c) at p3
  rw [HW.out] at p3
  go_enter Tryz.func39, Tryz.ntmps39
  go_wp2_with fail
  rw [← HW.out]
  go_loopw [10, 0, 5, 6] (fun s b _ _ wr => ∃ (j : Nat) (AI : Option Addr) (ni ci : Nat), j ≤ its.length ∧ s = .int .i64 j ∧ b = .slice AI ni ci ∧ ni ≤ ci ∧ ci ≤ 9223372036854775807 ∧ Hid ((l ++ txts false true (its.take j) ks).length = ni) ∧
    Hid (wr.ownsRow base 5 1 (.slice AI ni ci) ni ((l ++ txts false true (its.take j) ks).map b8)) ∧ Hid (Frm base w wr) ∧ Hid (Grw w (Value.slice A0 n0 c0).ownBlock (Value.slice AI ni ci).ownBlock wr) ∧ Hid (Bk wr w.heap.size 25 #[.int .i64 4, .int .i64 i, .string t, .slice A its.length c, .slice A' ks.length c'])) (fun s _ _ _ _ => its.length - (intOf s).toNat)
  case atStart => exact ⟨0, A0, n0, c0, by omega, rfl, rfl, hcc.1, hcc.2, Lib.hid (by simpa [txts] using HL0.out), Lib.hid (by simpa [txts] using O1.out), F1, G1, P1⟩
  case round =>
    obtain ⟨j, AI, ni, ci, hjn, rfl, rfl, hnc, hcm, hni, HO, HF, HG, HP⟩ := hrel
    have p0 := HP.out.cell 0
    change _ = some (Value.int .i64 4) at p0
    have p4 := HP.out.cell 4
    change _ = some (Value.slice A' ks.length c') at p4
    by_cases hlt : j < its.length
    · have g1 := List.getElem?_eq_getElem (l := its) (i := j) hlt
      obtain ⟨g, o, k', i', t', B, n', c1, B', n1, cc2, rfl, hg, e0, e1, e2, e3, e4, hx⟩ := (HL.out).at_ g1
      have hwx := all_at HWF.out g1
      have hle := size_at g1
      have htk := txts_take (m := false) (f := true) (ks := ks) g1
      have htl := txts_take_len false true its ks (j + 1)
      generalize its[j]'hlt = x at *
      have cc := fun (q : Nat) => HF.out.below.cell (p := ⟨g, q, none⟩) hg
      rw [Nat.zero_add] at e0 e1 e2 e3 e4
      rw [← cc] at e0 e1 e2 e3 e4
      have hlen : ni + 4 * ((if (true && decide (j = 0)) = true then [] else [44, 32]) ++ ((if false = true then quoL (ks.getD j ByteArray.empty).data.toList ++ [58, 32] else []) ++ x.txt)).length ≤ 100000000 := by
        have h3 := HNN.out
        have h4 := hni.out
        have h5 := HL0.out
        rw [htk, List.length_append] at htl
        rw [List.length_append] at h4
        omega
      have HX := Lib.hid (fun (W : World) (hb : Below base w W) => (hx.keep (fun p hp => hb.cell hp) (fun _ h => h) : Lies W (fun b => b < base) x _))
      have HTK := Lib.hid htk
      have HWX := Lib.hid hwx
      have HLE := Lib.hid hle
      obtain ⟨wa, hwa⟩ : ∃ wa, wa = wr.alloc (.cells #[.int .i64 k', .int .i64 i', .string t', .slice B n' c1, .slice B' n1 cc2] 25) := ⟨_, rfl⟩
      have hbr : base ≤ wr.heap.size := Nat.le_trans Hfalse.out HF.out.below.size
      have QA : Hid (Bk wa wr.heap.size 25 #[.int .i64 k', .int .i64 i', .string t', .slice B n' c1, .slice B' n1 cc2]) := Lib.hid (by rw [hwa]; exact Bk.new _ _ _)
      have PA : Hid (Bk wa w.heap.size 25 #[.int .i64 4, .int .i64 i, .string t, .slice (some ⟨g, o, none⟩) its.length c, .slice A' ks.length c']) := Lib.hid (by rw [hwa]; exact HP.out.alloc _)
      have FA : Hid (Frm base w wa) := Lib.hid (by rw [hwa]; exact HF.out.trans (Frm.of_below (below_one _ _) hbr))
      have GA : Hid (Grw w (Value.slice A0 n0 c0).ownBlock (Value.slice AI ni ci).ownBlock wa) := Lib.hid (by rw [hwa]; exact HG.out.trans (Grw.new (Grw.refl _ _)))
      have OA : Hid (wa.ownsRow base 5 1 (.slice AI ni ci) ni ((l ++ txts false true (its.take j) ks).map b8)) := Lib.hid (by rw [hwa]; exact HO.out.alloc _)
      have BA : Hid (base ≤ wa.heap.size) := Lib.hid (by rw [hwa]; simp; omega)
      have HWA := Lib.hid hwa
      obtain ⟨L1, hL1⟩ : ∃ L1, L1 = l ++ txts false true (its.take j) ks := ⟨_, rfl⟩
      rw [← hL1] at OA
      have HL1 := Lib.hid hL1
      clear hx cc htk htl hwx hle g1 hwa hbr hL1
      rcases Nat.eq_zero_or_pos j with hj0 | hj0
      · have hd : (if (true && decide (j = 0)) = true then ([] : List UInt8) else [44, 32]) = [] := by subst hj0; rfl
        rw [hd, List.nil_append] at hlen HTK
        have HLN := Lib.hid hlen
        have hgt : ¬ ((0 : Int) < (j : Int)) := by omega
        clear hlen hd hj0
        have pa0 := PA.out.cell 0
        change _ = some (Value.int .i64 4) at pa0
        rw [HWA.out] at pa0
        clear p4 p0
        have HNW : Hid (ni + 4 * x.txt.length ≤ 100000000) := Lib.hid (by have := HLN.out; simpa using this)
        have HEQ : Hid (L1 ++ x.txt = l ++ txts false true (its.take (j + 1)) ks) := Lib.hid (by rw [HTK.out, HL1.out]; simp)
        have HV := Lib.hid (IH.out x wa _ base ni ci AI _ (by have := HLE.out; omega) HWX.out (HX.out wa FA.out.below) OA.out BA.out HNW.out (HTT.out.on FA.out.below))
        have PW := PA
        have FX := FA
        have GX := GA
        have OX := OA
        have BO := BA
        unfold vag at HV
        go_wp2_with fail
        rw [← HWA.out]
        refine (HV.out).mono ?_
        rintro _ w5 ⟨A5, n5, c5, rfl, hl5, h5, h6, O5, G5⟩
        have F5 := Lib.hid (Frm.of_grw G5.out OX.out BO.out)
        have GG5 := Lib.hid (GX.out.trans G5.out)
        have P5 := Lib.hid (F5.out.keep _ _ _ PW.out (by decide))
        have FF5 := Lib.hid (FX.out.trans F5.out)
        have E5 := Lib.hid HEQ.out
        go_wp2
        go_roundw
        case rel => exact ⟨j + 1, A5, n5, c5, by omega, by go_num, rfl, h5, h6, Lib.hid (by rw [← E5.out]; exact hl5.out), Lib.hid (by rw [← E5.out]; exact O5.out), FF5, GG5, P5⟩
        case measure => simp [intOf]; omega
      · have hd : (if (true && decide (j = 0)) = true then ([] : List UInt8) else [44, 32]) = [44, 32] := by
          have : j ≠ 0 := by omega
          simp [this]
        rw [hd] at hlen HTK
        have HLN := Lib.hid hlen
        have hgt : (0 : Int) < (j : Int) := by omega
        have hni2 : ni + 2 ≤ 100000000 := by
          rw [List.length_append] at hlen
          have : ([44, 32] : List UInt8).length = 2 := rfl
          omega
        clear hlen hd p4 p0
        go_wp2_with (at_builtin; rw [← HWA.out]; refine wpList_append_str_at rfl _ _ 38 9 rfl base 5 ti Tryz.underlying38 Tryz.underlying9 hti hz htz hby _ _ _ rfl OA.out ⟨#[44, 32]⟩ rfl ?_ ?_ ?_ ?_)
        · first | omega | (unfold maxLen; omega) | (show ni + 2 ≤ maxLen; unfold maxLen; omega)
        · first | omega | (show ni + 2 ≤ _; omega)
        · exact BA.out
        · intro v3 w3 ho3 hg3
          obtain ⟨L3, hL3⟩ : ∃ L3, L3 = L1 ++ [44, 32] := ⟨_, rfl⟩
          have ho4 : w3.ownsRow base 5 1 v3 (ni + 2) (L3.map b8) := by rw [hL3, List.map_append]; exact ho3
          have HL3 := Lib.hid hL3
          have F3 := Lib.hid (Frm.of_grw hg3 OA.out BA.out)
          obtain ⟨A3, c3, rfl, h3, h4⟩ := own_form ho4
          have O3 := Lib.hid ho4
          have G3 := Lib.hid (GA.out.trans hg3)
          have P3 := Lib.hid (F3.out.keep _ _ _ PA.out (by decide))
          have Q3 := Lib.hid (F3.out.keep _ _ _ QA.out (by decide))
          have FW := Lib.hid (FA.out.trans F3.out)
          have BW : Hid (base ≤ w3.heap.size) := Lib.hid (Nat.le_trans BA.out F3.out.below.size)
          clear ho3 ho4 hg3 hL3
          have pa0 := P3.out.cell 0
          change _ = some (Value.int .i64 4) at pa0
          have HNW : Hid (ni + 2 + 4 * x.txt.length ≤ 100000000) := Lib.hid (by have := HLN.out; simp at this; omega)
          have HEQ : Hid (L3 ++ x.txt = l ++ txts false true (its.take (j + 1)) ks) := Lib.hid (by rw [HTK.out, HL3.out, HL1.out]; simp)
          have HV := Lib.hid (IH.out x w3 _ base (ni + 2) c3 A3 _ (by have := HLE.out; omega) HWX.out (HX.out w3 FW.out.below) O3.out BW.out HNW.out (HTT.out.on FW.out.below))
          have q0 := Q3.out.cell 0
          have q1 := Q3.out.cell 1
          have q2 := Q3.out.cell 2
          have q3 := Q3.out.cell 3
          have q4 := Q3.out.cell 4
          have PW := P3
          have FX := FW
          have GX := G3
          have OX := O3
          have BO := BW
          unfold vag at HV
          clear e0 e1 e2 e3 e4
          go_wp2_with fail
          refine (HV.out).mono ?_
          rintro _ w5 ⟨A5, n5, c5, rfl, hl5, h5, h6, O5, G5⟩
          have F5 := Lib.hid (Frm.of_grw G5.out OX.out BO.out)
          have GG5 := Lib.hid (GX.out.trans G5.out)
          have P5 := Lib.hid (F5.out.keep _ _ _ PW.out (by decide))
          have FF5 := Lib.hid (FX.out.trans F5.out)
          have E5 := Lib.hid HEQ.out
          go_wp2
          go_roundw
          case rel => exact ⟨j + 1, A5, n5, c5, by omega, by go_num, rfl, h5, h6, Lib.hid (by rw [← E5.out]; exact hl5.out), Lib.hid (by rw [← E5.out]; exact O5.out), FF5, GG5, P5⟩
          case measure => simp [intOf]; omega
    · obtain rfl : j = its.length := by omega
      have O8 : Hid (wr.ownsRow base 5 1 (.slice AI ni ci) ni ((l ++ txts false true its ks).map b8)) := Lib.hid (by have := HO.out; rwa [List.take_length] at this)
      have L8 : Hid ((l ++ txts false true its ks).length = ni) := Lib.hid (by have := hni.out; rwa [List.take_length] at this)
      go_wp2
      go_ret
      exact ⟨AI, ni, ci, rfl, L8, hnc, hcm, O8, HG⟩

set_option maxRecDepth 100000 in
set_option maxHeartbeats 4000000 in
set_option linter.unusedVariables false in
theorem elems_5 (m : Nat) (IH : Hid (TxtUpto m)) (i : Int) (t : ByteArray) (its : List VT) (ks : List ByteArray) (A : Option Addr) (c : Nat) (A' : Option Addr) (c' : Nat) (w : World) (base n0 c0 : Nat) (A0 : Option Addr) (l : List UInt8)
    (hL : LiesL w (fun b => b < base) A 0 its) (hS : LiesS w (fun b => b < base) A' ks) (hk : ks.length = its.length) (hkc : ks.length ≤ c') (hcm' : c' ≤ 9223372036854775807) (h1 : its.length ≤ c) (h2 : c ≤ 9223372036854775807) (hsz : sizes its ≤ m) (hw : alls okF its = true)
    (ho : w.ownsRow base 5 1 (.slice A0 n0 c0) n0 (l.map b8)) (hB : base ≤ w.heap.size) (hn : n0 + 4 * (txts true true its ks).length ≤ 100000000) (hT : PowTab base w) :
    Calls Tryz.prog 39 #[.slice A0 n0 c0, vag 5 i t A its.length c A' ks.length c'] w (AppB base (.slice A0 n0 c0) w (l ++ txts true true its ks)) := by
  obtain ⟨ti, hti, hz, htz, hby⟩ := info_parts Tryz.infob
  have HL := Lib.hid hL
  have HWF := Lib.hid hw
  have HNN := Lib.hid hn
  have Htrue := Lib.hid hB
  have HTT := Lib.hid hT
  have HL0 := Lib.hid (own_len ho)
  have HS := Lib.hid hS
  have HKL := Lib.hid hk
  have hcc : n0 ≤ c0 ∧ c0 ≤ 9223372036854775807 := by
    obtain ⟨A9, c9, e9, e1, e2⟩ := own_form ho
    injection e9 with _ _ e3
    subst e3
    unfold maxLen at e2
    exact ⟨e1, by omega⟩
  obtain ⟨w1, hw1⟩ : ∃ w1, w1 = w.alloc (.cells #[.int .i64 5, .int .i64 i, .string t, .slice A its.length c, .slice A' ks.length c'] 25) := ⟨_, rfl⟩
  have P1 : Hid (Bk w1 w.heap.size 25 #[.int .i64 5, .int .i64 i, .string t, .slice A its.length c, .slice A' ks.length c']) := Lib.hid (by rw [hw1]; exact Bk.new _ _ _)
  have F1 : Hid (Frm base w w1) := Lib.hid (by rw [hw1]; exact Frm.of_below (below_one _ _) hB)
  have G1 : Hid (Grw w (Value.slice A0 n0 c0).ownBlock (Value.slice A0 n0 c0).ownBlock w1) := Lib.hid (by rw [hw1]; exact Grw.new (Grw.refl _ _))
  have O1 : Hid (w1.ownsRow base 5 1 (.slice A0 n0 c0) n0 (l.map b8)) := Lib.hid (by rw [hw1]; exact ho.alloc _)
  have HW := Lib.hid hw1
  clear hL hw hn hB ho hw1 hT hS hk
  unfold vag
  have p3 := P1.out.cell 3
  change _ = some (Value.slice A its.length c) at p3
  rw [HW.out] at p3
  go_enter Tryz.func39, Tryz.ntmps39
  go_wp2_with fail
  rw [← HW.out]
  go_loopw [10, 0, 5, 6] (fun s b _ _ wr => ∃ (j : Nat) (AI : Option Addr) (ni ci : Nat), j ≤ its.length ∧ s = .int .i64 j ∧ b = .slice AI ni ci ∧ ni ≤ ci ∧ ci ≤ 9223372036854775807 ∧ Hid ((l ++ txts true true (its.take j) ks).length = ni) ∧
    Hid (wr.ownsRow base 5 1 (.slice AI ni ci) ni ((l ++ txts true true (its.take j) ks).map b8)) ∧ Hid (Frm base w wr) ∧ Hid (Grw w (Value.slice A0 n0 c0).ownBlock (Value.slice AI ni ci).ownBlock wr) ∧ Hid (Bk wr w.heap.size 25 #[.int .i64 5, .int .i64 i, .string t, .slice A its.length c, .slice A' ks.length c'])) (fun s _ _ _ _ => its.length - (intOf s).toNat)
  case atStart => exact ⟨0, A0, n0, c0, by omega, rfl, rfl, hcc.1, hcc.2, Lib.hid (by simpa [txts] using HL0.out), Lib.hid (by simpa [txts] using O1.out), F1, G1, P1⟩
  case round =>
    obtain ⟨j, AI, ni, ci, hjn, rfl, rfl, hnc, hcm, hni, HO, HF, HG, HP⟩ := hrel
    have p0 := HP.out.cell 0
    change _ = some (Value.int .i64 5) at p0
    have p4 := HP.out.cell 4
    change _ = some (Value.slice A' ks.length c') at p4
    by_cases hlt : j < its.length
    · have g1 := List.getElem?_eq_getElem (l := its) (i := j) hlt
      obtain ⟨g, o, k', i', t', B, n', c1, B', n1, cc2, rfl, hg, e0, e1, e2, e3, e4, hx⟩ := (HL.out).at_ g1
      have hwx := all_at HWF.out g1
      have hle := size_at g1
      have htk := txts_take (m := true) (f := true) (ks := ks) g1
      have htl := txts_take_len true true its ks (j + 1)
      generalize its[j]'hlt = x at *
      have cc := fun (q : Nat) => HF.out.below.cell (p := ⟨g, q, none⟩) hg
      rw [Nat.zero_add] at e0 e1 e2 e3 e4
      rw [← cc] at e0 e1 e2 e3 e4
      have hlen : ni + 4 * ((if (true && decide (j = 0)) = true then [] else [44, 32]) ++ ((if true = true then quoL (ks.getD j ByteArray.empty).data.toList ++ [58, 32] else []) ++ x.txt)).length ≤ 100000000 := by
        have h3 := HNN.out
        have h4 := hni.out
        have h5 := HL0.out
        rw [htk, List.length_append] at htl
        rw [List.length_append] at h4
        omega
      have HX := Lib.hid (fun (W : World) (hb : Below base w W) => (hx.keep (fun p hp => hb.cell hp) (fun _ h => h) : Lies W (fun b => b < base) x _))
      have HTK := Lib.hid htk
      have HWX := Lib.hid hwx
      have HLE := Lib.hid hle
      obtain ⟨wa, hwa⟩ : ∃ wa, wa = wr.alloc (.cells #[.int .i64 k', .int .i64 i', .string t', .slice B n' c1, .slice B' n1 cc2] 25) := ⟨_, rfl⟩
      have hbr : base ≤ wr.heap.size := Nat.le_trans Htrue.out HF.out.below.size
      have QA : Hid (Bk wa wr.heap.size 25 #[.int .i64 k', .int .i64 i', .string t', .slice B n' c1, .slice B' n1 cc2]) := Lib.hid (by rw [hwa]; exact Bk.new _ _ _)
      have PA : Hid (Bk wa w.heap.size 25 #[.int .i64 5, .int .i64 i, .string t, .slice (some ⟨g, o, none⟩) its.length c, .slice A' ks.length c']) := Lib.hid (by rw [hwa]; exact HP.out.alloc _)
      have FA : Hid (Frm base w wa) := Lib.hid (by rw [hwa]; exact HF.out.trans (Frm.of_below (below_one _ _) hbr))
      have GA : Hid (Grw w (Value.slice A0 n0 c0).ownBlock (Value.slice AI ni ci).ownBlock wa) := Lib.hid (by rw [hwa]; exact HG.out.trans (Grw.new (Grw.refl _ _)))
      have OA : Hid (wa.ownsRow base 5 1 (.slice AI ni ci) ni ((l ++ txts true true (its.take j) ks).map b8)) := Lib.hid (by rw [hwa]; exact HO.out.alloc _)
      have BA : Hid (base ≤ wa.heap.size) := Lib.hid (by rw [hwa]; simp; omega)
      have HWA := Lib.hid hwa
      obtain ⟨L1, hL1⟩ : ∃ L1, L1 = l ++ txts true true (its.take j) ks := ⟨_, rfl⟩
      rw [← hL1] at OA
      have HL1 := Lib.hid hL1
      clear hx cc htk htl hwx hle g1 hwa hbr hL1
      rcases Nat.eq_zero_or_pos j with hj0 | hj0
      · have hd : (if (true && decide (j = 0)) = true then ([] : List UInt8) else [44, 32]) = [] := by subst hj0; rfl
        rw [hd, List.nil_append] at hlen HTK
        have HLN := Lib.hid hlen
        have hgt : ¬ ((0 : Int) < (j : Int)) := by omega
        clear hlen hd hj0
        have pa0 := PA.out.cell 0
        change _ = some (Value.int .i64 5) at pa0
        rw [HWA.out] at pa0
        clear p4 p0
        have hkj : ks[j]? = some (ks.getD j ByteArray.empty) := by rw [List.getD_eq_getElem?_getD, List.getElem?_eq_getElem (by have := HKL.out; omega)]; rfl
        obtain ⟨_, gk, ok, rfl, hgk, f0⟩ := HS.out j _ hkj
        have hjk : j < ks.length := by have := HKL.out; omega
        rw [← FA.out.below.cell (p := ⟨gk, ok + j, none⟩) hgk] at f0
        generalize ks.getD j ByteArray.empty = sk at *
        have hsk := quoL_len sk.data.toList
        have hsl : sk.data.toList.length = sk.size := rfl
        have hbd : ni + 4 * (quoL sk.data.toList).length + 8 + 4 * x.txt.length ≤ 100000000 := by have := HLN.out; simp at this; omega
        have HT4 := Lib.hid (literal_app base AI (ni) ci L1 sk wa OA.out BA.out (by omega))
        have HBD := Lib.hid hbd
        have pa4 := PA.out.cell 4
        change _ = some (Value.slice (some ⟨gk, ok, none⟩) ks.length c') at pa4
        rw [HWA.out] at pa4 f0
        clear hkj hbd hsk hsl
        go_wp2_with fail
        rw [← HWA.out]
        refine (HT4.out).mono ?_
        rintro _ w6 ⟨A6, n6, c6, rfl, hl6, h61, h62, O6, G6⟩
        have F6 := Lib.hid (Frm.of_grw G6.out OA.out BA.out)
        have GG6 := Lib.hid (GA.out.trans G6.out)
        have hn6 : n6 = ni + (quoL sk.data.toList).length := by
          have h3 := hl6.out
          have h4 := own_len OA.out
          rw [List.length_append] at h3
          omega
        obtain ⟨L6, hL6⟩ : ∃ L6, L6 = L1 ++ quoL sk.data.toList := ⟨_, rfl⟩
        rw [← hL6] at O6
        have HL6 := Lib.hid hL6
        clear hL6 hl6
        have Q6 := Lib.hid (F6.out.keep _ _ _ QA.out (by decide))
        have P6 := Lib.hid (F6.out.keep _ _ _ PA.out (by decide))
        have FW6 := Lib.hid (FA.out.trans F6.out)
        have BW6 : Hid (base ≤ w6.heap.size) := Lib.hid (Nat.le_trans BA.out F6.out.below.size)
        have hn7 : n6 ≤ 100000000 := by have := HBD.out; omega
        have HN6 := Lib.hid hn6
        clear pa0 pa4 f0 e0 e1 e2 e3 e4 hn6
        go_wp2_with (at_builtin; refine wpList_append_str_at rfl _ _ 38 9 rfl base 5 ti Tryz.underlying38 Tryz.underlying9 hti hz htz hby _ _ _ rfl O6.out ⟨#[58, 32]⟩ rfl ?_ ?_ ?_ ?_)
        · first | omega | (unfold maxLen; omega) | (show n6 + 2 ≤ maxLen; unfold maxLen; omega)
        · first | omega | (show n6 + 2 ≤ _; omega)
        · exact BW6.out
        · intro v7 w7 ho7 hg7
          obtain ⟨L7, hL7⟩ : ∃ L7, L7 = L6 ++ [58, 32] := ⟨_, rfl⟩
          have ho8 : w7.ownsRow base 5 1 v7 (n6 + 2) (L7.map b8) := by rw [hL7, List.map_append]; exact ho7
          have HL7 := Lib.hid hL7
          have F7 := Lib.hid (Frm.of_grw hg7 O6.out BW6.out)
          obtain ⟨A7, c7, rfl, h71, h72⟩ := own_form ho8
          have O7 := Lib.hid ho8
          have GX := Lib.hid (GG6.out.trans hg7)
          have OX := O7
          have PW := Lib.hid (F7.out.keep _ _ _ P6.out (by decide))
          have Q7 := Lib.hid (F7.out.keep _ _ _ Q6.out (by decide))
          have FX := Lib.hid (FW6.out.trans F7.out)
          have BX : Hid (base ≤ w7.heap.size) := Lib.hid (Nat.le_trans BW6.out F7.out.below.size)
          have BO := BX
          clear ho7 ho8 hg7 hL7
          have HEQ : Hid (L7 ++ x.txt = l ++ txts true true (its.take (j + 1)) ks) := Lib.hid (by rw [HTK.out, HL7.out, HL6.out, HL1.out]; simp)
          have HV := Lib.hid (IH.out x w7 _ base (n6 + 2) c7 A7 _ (by have := HLE.out; omega) HWX.out (HX.out w7 FX.out.below) O7.out BX.out (by have := HBD.out; have := HN6.out; omega) (HTT.out.on FX.out.below))
          have q0 := Q7.out.cell 0
          have q1 := Q7.out.cell 1
          have q2 := Q7.out.cell 2
          have q3 := Q7.out.cell 3
          have q4 := Q7.out.cell 4
          unfold vag at HV
          go_wp2_with fail
          refine (HV.out).mono ?_
          rintro _ w5 ⟨A5, n5, c5, rfl, hl5, h5, h6, O5, G5⟩
          have F5 := Lib.hid (Frm.of_grw G5.out OX.out BO.out)
          have GG5 := Lib.hid (GX.out.trans G5.out)
          have P5 := Lib.hid (F5.out.keep _ _ _ PW.out (by decide))
          have FF5 := Lib.hid (FX.out.trans F5.out)
          have E5 := Lib.hid HEQ.out
          go_wp2
          go_roundw
          case rel => exact ⟨j + 1, A5, n5, c5, by omega, by go_num, rfl, h5, h6, Lib.hid (by rw [← E5.out]; exact hl5.out), Lib.hid (by rw [← E5.out]; exact O5.out), FF5, GG5, P5⟩
          case measure => simp [intOf]; omega
      · have hd : (if (true && decide (j = 0)) = true then ([] : List UInt8) else [44, 32]) = [44, 32] := by
          have : j ≠ 0 := by omega
          simp [this]
        rw [hd] at hlen HTK
        have HLN := Lib.hid hlen
        have hgt : (0 : Int) < (j : Int) := by omega
        have hni2 : ni + 2 ≤ 100000000 := by
          rw [List.length_append] at hlen
          have : ([44, 32] : List UInt8).length = 2 := rfl
          omega
        clear hlen hd p4 p0
        go_wp2_with (at_builtin; rw [← HWA.out]; refine wpList_append_str_at rfl _ _ 38 9 rfl base 5 ti Tryz.underlying38 Tryz.underlying9 hti hz htz hby _ _ _ rfl OA.out ⟨#[44, 32]⟩ rfl ?_ ?_ ?_ ?_)
        · first | omega | (unfold maxLen; omega) | (show ni + 2 ≤ maxLen; unfold maxLen; omega)
        · first | omega | (show ni + 2 ≤ _; omega)
        · exact BA.out
        · intro v3 w3 ho3 hg3
          obtain ⟨L3, hL3⟩ : ∃ L3, L3 = L1 ++ [44, 32] := ⟨_, rfl⟩
          have ho4 : w3.ownsRow base 5 1 v3 (ni + 2) (L3.map b8) := by rw [hL3, List.map_append]; exact ho3
          have HL3 := Lib.hid hL3
          have F3 := Lib.hid (Frm.of_grw hg3 OA.out BA.out)
          obtain ⟨A3, c3, rfl, h3, h4⟩ := own_form ho4
          have O3 := Lib.hid ho4
          have G3 := Lib.hid (GA.out.trans hg3)
          have P3 := Lib.hid (F3.out.keep _ _ _ PA.out (by decide))
          have Q3 := Lib.hid (F3.out.keep _ _ _ QA.out (by decide))
          have FW := Lib.hid (FA.out.trans F3.out)
          have BW : Hid (base ≤ w3.heap.size) := Lib.hid (Nat.le_trans BA.out F3.out.below.size)
          clear ho3 ho4 hg3 hL3
          have pa0 := P3.out.cell 0
          change _ = some (Value.int .i64 5) at pa0
          have hkj : ks[j]? = some (ks.getD j ByteArray.empty) := by rw [List.getD_eq_getElem?_getD, List.getElem?_eq_getElem (by have := HKL.out; omega)]; rfl
          obtain ⟨_, gk, ok, rfl, hgk, f0⟩ := HS.out j _ hkj
          have hjk : j < ks.length := by have := HKL.out; omega
          rw [← FW.out.below.cell (p := ⟨gk, ok + j, none⟩) hgk] at f0
          generalize ks.getD j ByteArray.empty = sk at *
          have hsk := quoL_len sk.data.toList
          have hsl : sk.data.toList.length = sk.size := rfl
          have hbd : ni + 2 + 4 * (quoL sk.data.toList).length + 8 + 4 * x.txt.length ≤ 100000000 := by have := HLN.out; simp at this; omega
          have HT4 := Lib.hid (literal_app base A3 (ni + 2) c3 L3 sk w3 O3.out BW.out (by omega))
          have HBD := Lib.hid hbd
          have pa4 := P3.out.cell 4
          change _ = some (Value.slice (some ⟨gk, ok, none⟩) ks.length c') at pa4
          clear hkj hbd hsk hsl
          go_wp2_with fail
          refine (HT4.out).mono ?_
          rintro _ w6 ⟨A6, n6, c6, rfl, hl6, h61, h62, O6, G6⟩
          have F6 := Lib.hid (Frm.of_grw G6.out O3.out BW.out)
          have GG6 := Lib.hid (G3.out.trans G6.out)
          have hn6 : n6 = ni + 2 + (quoL sk.data.toList).length := by
            have h3 := hl6.out
            have h4 := own_len O3.out
            rw [List.length_append] at h3
            omega
          obtain ⟨L6, hL6⟩ : ∃ L6, L6 = L3 ++ quoL sk.data.toList := ⟨_, rfl⟩
          rw [← hL6] at O6
          have HL6 := Lib.hid hL6
          clear hL6 hl6
          have Q6 := Lib.hid (F6.out.keep _ _ _ Q3.out (by decide))
          have P6 := Lib.hid (F6.out.keep _ _ _ P3.out (by decide))
          have FW6 := Lib.hid (FW.out.trans F6.out)
          have BW6 : Hid (base ≤ w6.heap.size) := Lib.hid (Nat.le_trans BW.out F6.out.below.size)
          have hn7 : n6 ≤ 100000000 := by have := HBD.out; omega
          have HN6 := Lib.hid hn6
          clear pa0 pa4 f0 e0 e1 e2 e3 e4 hn6
          go_wp2_with (at_builtin; refine wpList_append_str_at rfl _ _ 38 9 rfl base 5 ti Tryz.underlying38 Tryz.underlying9 hti hz htz hby _ _ _ rfl O6.out ⟨#[58, 32]⟩ rfl ?_ ?_ ?_ ?_)
          · first | omega | (unfold maxLen; omega) | (show n6 + 2 ≤ maxLen; unfold maxLen; omega)
          · first | omega | (show n6 + 2 ≤ _; omega)
          · exact BW6.out
          · intro v7 w7 ho7 hg7
            obtain ⟨L7, hL7⟩ : ∃ L7, L7 = L6 ++ [58, 32] := ⟨_, rfl⟩
            have ho8 : w7.ownsRow base 5 1 v7 (n6 + 2) (L7.map b8) := by rw [hL7, List.map_append]; exact ho7
            have HL7 := Lib.hid hL7
            have F7 := Lib.hid (Frm.of_grw hg7 O6.out BW6.out)
            obtain ⟨A7, c7, rfl, h71, h72⟩ := own_form ho8
            have O7 := Lib.hid ho8
            have GX := Lib.hid (GG6.out.trans hg7)
            have OX := O7
            have PW := Lib.hid (F7.out.keep _ _ _ P6.out (by decide))
            have Q7 := Lib.hid (F7.out.keep _ _ _ Q6.out (by decide))
            have FX := Lib.hid (FW6.out.trans F7.out)
            have BX : Hid (base ≤ w7.heap.size) := Lib.hid (Nat.le_trans BW6.out F7.out.below.size)
            have BO := BX
            clear ho7 ho8 hg7 hL7
            have HEQ : Hid (L7 ++ x.txt = l ++ txts true true (its.take (j + 1)) ks) := Lib.hid (by rw [HTK.out, HL7.out, HL6.out, HL3.out, HL1.out]; simp)
            have HV := Lib.hid (IH.out x w7 _ base (n6 + 2) c7 A7 _ (by have := HLE.out; omega) HWX.out (HX.out w7 FX.out.below) O7.out BX.out (by have := HBD.out; have := HN6.out; omega) (HTT.out.on FX.out.below))
            have q0 := Q7.out.cell 0
            have q1 := Q7.out.cell 1
            have q2 := Q7.out.cell 2
            have q3 := Q7.out.cell 3
            have q4 := Q7.out.cell 4
            unfold vag at HV
            go_wp2_with fail
            refine (HV.out).mono ?_
            rintro _ w5 ⟨A5, n5, c5, rfl, hl5, h5, h6, O5, G5⟩
            have F5 := Lib.hid (Frm.of_grw G5.out OX.out BO.out)
            have GG5 := Lib.hid (GX.out.trans G5.out)
            have P5 := Lib.hid (F5.out.keep _ _ _ PW.out (by decide))
            have FF5 := Lib.hid (FX.out.trans F5.out)
            have E5 := Lib.hid HEQ.out
            go_wp2
            go_roundw
            case rel => exact ⟨j + 1, A5, n5, c5, by omega, by go_num, rfl, h5, h6, Lib.hid (by rw [← E5.out]; exact hl5.out), Lib.hid (by rw [← E5.out]; exact O5.out), FF5, GG5, P5⟩
            case measure => simp [intOf]; omega
    · obtain rfl : j = its.length := by omega
      have O8 : Hid (wr.ownsRow base 5 1 (.slice AI ni ci) ni ((l ++ txts true true its ks).map b8)) := Lib.hid (by have := HO.out; rwa [List.take_length] at this)
      have L8 : Hid ((l ++ txts true true its ks).length = ni) := Lib.hid (by have := hni.out; rwa [List.take_length] at this)
      go_wp2
      go_ret
      exact ⟨AI, ni, ci, rfl, L8, hnc, hcm, O8, HG⟩
end Go.Proofs.YtlgmhhimbabkjaaGreatDoor
namespace Go.Proofs.YtlgmhhimbabkjaaGreatDoor
open Go.RowKit

theorem itoa_ne (i : Int) : 1 ≤ (Lib.itoa i).length := by
  unfold Lib.itoa
  split
  · simp
  · have := dec_ne i.toNat
    exact List.length_pos_iff.2 this

set_option maxRecDepth 100000 in
set_option maxHeartbeats 2000000 in
set_option linter.unusedVariables false in
theorem pay_0 (i : Int) (t : ByteArray) (its : List VT) (ks : List ByteArray) (A : Option Addr) (c : Nat) (A' : Option Addr) (c' : Nat) (w : World) (base n0 c0 : Nat) (A0 : Option Addr) (l : List UInt8)
    (hi : -9223372036854775808 ≤ i ∧ i ≤ 9223372036854775807)
    (ho : w.ownsRow base 5 1 (.slice A0 n0 c0) n0 (l.map b8)) (hB : base ≤ w.heap.size) (hn : n0 + 4 * (VT.mk 0 i t its ks).txt.length ≤ 100000000) (hT : PowTab base w) :
    Calls Tryz.prog 18 #[.slice A0 n0 c0, vag 0 i t A its.length c A' ks.length c'] w (AppB base (.slice A0 n0 c0) w (l ++ (VT.mk 0 i t its ks).txt)) := by
  obtain ⟨ti, hti, hz, htz, hby⟩ := info_parts Tryz.infob
  rw [VT.txt_mk] at hn
  have HE := Lib.hid (VT.txt_mk 0 i t its ks)
  rw [if_neg (by decide), if_neg (by decide), if_neg (by decide), if_neg (by decide), if_neg (by decide)] at hn HE
  obtain ⟨w1, hw1⟩ : ∃ w1, w1 = w.alloc (.cells #[.int .i64 0, .int .i64 i, .string t, .slice A its.length c, .slice A' ks.length c'] 25) := ⟨_, rfl⟩
  have G1 : Hid (Grw w (Value.slice A0 n0 c0).ownBlock (Value.slice A0 n0 c0).ownBlock w1) := Lib.hid (by rw [hw1]; exact Grw.new (Grw.refl _ _))
  have O1 : Hid (w1.ownsRow base 5 1 (.slice A0 n0 c0) n0 (l.map b8)) := Lib.hid (by rw [hw1]; exact ho.alloc _)
  have B1 : Hid (base ≤ w1.heap.size) := Lib.hid (Nat.le_trans hB G1.out.1.size)
  have T1 : Hid (PowTab base w1) := Lib.hid (hT.on (Frm.of_grw G1.out ho hB).below)
  have HW := Lib.hid hw1

  clear ho hB hw1 hT hi
  unfold vag
  go_enter Tryz.func18, Tryz.ntmps18
  go_wp2_with (at_builtin; rw [← HW.out]; refine wpList_append_str_at rfl _ _ 38 9 rfl base 5 ti Tryz.underlying38 Tryz.underlying9 hti hz htz hby _ _ _ rfl O1.out ⟨#[110, 117, 108, 108]⟩ rfl ?_ ?_ ?_ ?_)
  · first | omega | (show n0 + 4 ≤ maxLen; unfold maxLen; simp at hn; omega)
  · first | omega | (show n0 + 4 ≤ _; simp at hn; omega)
  · exact B1.out
  · intro v3 w3 ho hg
    have FIN : Hid (AppB base (.slice A0 n0 c0) w (l ++ (VT.mk 0 i t its ks).txt) (.returned v3) w3) := Lib.hid (AppB.mk' (n := n0 + 4) (by rw [HE.out, List.map_append]; exact ho) (G1.out.trans hg))
    clear ho hg
    go_wp2
    go_ret
    exact FIN.out

set_option maxRecDepth 100000 in
set_option maxHeartbeats 2000000 in
set_option linter.unusedVariables false in
theorem pay_6 (i : Int) (t : ByteArray) (its : List VT) (ks : List ByteArray) (A : Option Addr) (c : Nat) (A' : Option Addr) (c' : Nat) (w : World) (base n0 c0 : Nat) (A0 : Option Addr) (l : List UInt8)
    (hi : -9223372036854775808 ≤ i ∧ i ≤ 9223372036854775807)
    (ho : w.ownsRow base 5 1 (.slice A0 n0 c0) n0 (l.map b8)) (hB : base ≤ w.heap.size) (hn : n0 + 4 * (VT.mk 6 i t its ks).txt.length ≤ 100000000) (hT : PowTab base w) :
    Calls Tryz.prog 18 #[.slice A0 n0 c0, vag 6 i t A its.length c A' ks.length c'] w (AppB base (.slice A0 n0 c0) w (l ++ (VT.mk 6 i t its ks).txt)) := by
  obtain ⟨ti, hti, hz, htz, hby⟩ := info_parts Tryz.infob
  rw [VT.txt_mk] at hn
  have HE := Lib.hid (VT.txt_mk 6 i t its ks)
  rw [if_neg (by decide), if_neg (by decide), if_neg (by decide), if_neg (by decide), if_neg (by decide)] at hn HE
  obtain ⟨w1, hw1⟩ : ∃ w1, w1 = w.alloc (.cells #[.int .i64 6, .int .i64 i, .string t, .slice A its.length c, .slice A' ks.length c'] 25) := ⟨_, rfl⟩
  have G1 : Hid (Grw w (Value.slice A0 n0 c0).ownBlock (Value.slice A0 n0 c0).ownBlock w1) := Lib.hid (by rw [hw1]; exact Grw.new (Grw.refl _ _))
  have O1 : Hid (w1.ownsRow base 5 1 (.slice A0 n0 c0) n0 (l.map b8)) := Lib.hid (by rw [hw1]; exact ho.alloc _)
  have B1 : Hid (base ≤ w1.heap.size) := Lib.hid (Nat.le_trans hB G1.out.1.size)
  have T1 : Hid (PowTab base w1) := Lib.hid (hT.on (Frm.of_grw G1.out ho hB).below)
  have HW := Lib.hid hw1

  clear ho hB hw1 hT hi
  unfold vag
  go_enter Tryz.func18, Tryz.ntmps18
  go_wp2_with (at_builtin; rw [← HW.out]; refine wpList_append_str_at rfl _ _ 38 9 rfl base 5 ti Tryz.underlying38 Tryz.underlying9 hti hz htz hby _ _ _ rfl O1.out ⟨#[110, 117, 108, 108]⟩ rfl ?_ ?_ ?_ ?_)
  · first | omega | (show n0 + 4 ≤ maxLen; unfold maxLen; simp at hn; omega)
  · first | omega | (show n0 + 4 ≤ _; simp at hn; omega)
  · exact B1.out
  · intro v3 w3 ho hg
    have FIN : Hid (AppB base (.slice A0 n0 c0) w (l ++ (VT.mk 6 i t its ks).txt) (.returned v3) w3) := Lib.hid (AppB.mk' (n := n0 + 4) (by rw [HE.out, List.map_append]; exact ho) (G1.out.trans hg))
    clear ho hg
    go_wp2
    go_ret
    exact FIN.out

set_option maxRecDepth 100000 in
set_option maxHeartbeats 2000000 in
set_option linter.unusedVariables false in
theorem pay_2 (i : Int) (t : ByteArray) (its : List VT) (ks : List ByteArray) (A : Option Addr) (c : Nat) (A' : Option Addr) (c' : Nat) (w : World) (base n0 c0 : Nat) (A0 : Option Addr) (l : List UInt8)
    (hi : -9223372036854775808 ≤ i ∧ i ≤ 9223372036854775807)
    (ho : w.ownsRow base 5 1 (.slice A0 n0 c0) n0 (l.map b8)) (hB : base ≤ w.heap.size) (hn : n0 + 4 * (VT.mk 2 i t its ks).txt.length ≤ 100000000) (hT : PowTab base w) :
    Calls Tryz.prog 18 #[.slice A0 n0 c0, vag 2 i t A its.length c A' ks.length c'] w (AppB base (.slice A0 n0 c0) w (l ++ (VT.mk 2 i t its ks).txt)) := by
  obtain ⟨ti, hti, hz, htz, hby⟩ := info_parts Tryz.infob
  rw [VT.txt_mk] at hn
  have HE := Lib.hid (VT.txt_mk 2 i t its ks)
  rw [if_neg (by decide), if_pos rfl] at hn HE
  obtain ⟨w1, hw1⟩ : ∃ w1, w1 = w.alloc (.cells #[.int .i64 2, .int .i64 i, .string t, .slice A its.length c, .slice A' ks.length c'] 25) := ⟨_, rfl⟩
  have G1 : Hid (Grw w (Value.slice A0 n0 c0).ownBlock (Value.slice A0 n0 c0).ownBlock w1) := Lib.hid (by rw [hw1]; exact Grw.new (Grw.refl _ _))
  have O1 : Hid (w1.ownsRow base 5 1 (.slice A0 n0 c0) n0 (l.map b8)) := Lib.hid (by rw [hw1]; exact ho.alloc _)
  have B1 : Hid (base ≤ w1.heap.size) := Lib.hid (Nat.le_trans hB G1.out.1.size)
  have T1 : Hid (PowTab base w1) := Lib.hid (hT.on (Frm.of_grw G1.out ho hB).below)
  have HW := Lib.hid hw1
  have hne := itoa_ne i
  have HC := Lib.hid (int_app i base A0 n0 c0 l w1 O1.out B1.out (by omega) hi.1 hi.2 T1.out)
  clear ho hB hw1 hT hi
  unfold vag
  go_enter Tryz.func18, Tryz.ntmps18
  go_wp2_with fail
  rw [← HW.out]
  refine (HC.out).mono ?_
  rintro _ w5 ⟨A5, n5, c5, rfl, hl5, h5, h6, O5, G5⟩
  go_wp2
  go_ret
  exact ⟨A5, n5, c5, rfl, Lib.hid (by rw [HE.out]; exact hl5.out), h5, h6, Lib.hid (by rw [HE.out]; exact O5.out), Lib.hid (G1.out.trans G5.out)⟩

set_option maxRecDepth 100000 in
set_option maxHeartbeats 2000000 in
set_option linter.unusedVariables false in
theorem pay_3 (i : Int) (t : ByteArray) (its : List VT) (ks : List ByteArray) (A : Option Addr) (c : Nat) (A' : Option Addr) (c' : Nat) (w : World) (base n0 c0 : Nat) (A0 : Option Addr) (l : List UInt8)
    (hi : -9223372036854775808 ≤ i ∧ i ≤ 9223372036854775807)
    (ho : w.ownsRow base 5 1 (.slice A0 n0 c0) n0 (l.map b8)) (hB : base ≤ w.heap.size) (hn : n0 + 4 * (VT.mk 3 i t its ks).txt.length ≤ 100000000) (hT : PowTab base w) :
    Calls Tryz.prog 18 #[.slice A0 n0 c0, vag 3 i t A its.length c A' ks.length c'] w (AppB base (.slice A0 n0 c0) w (l ++ (VT.mk 3 i t its ks).txt)) := by
  obtain ⟨ti, hti, hz, htz, hby⟩ := info_parts Tryz.infob
  rw [VT.txt_mk] at hn
  have HE := Lib.hid (VT.txt_mk 3 i t its ks)
  rw [if_neg (by decide), if_neg (by decide), if_pos rfl] at hn HE
  obtain ⟨w1, hw1⟩ : ∃ w1, w1 = w.alloc (.cells #[.int .i64 3, .int .i64 i, .string t, .slice A its.length c, .slice A' ks.length c'] 25) := ⟨_, rfl⟩
  have G1 : Hid (Grw w (Value.slice A0 n0 c0).ownBlock (Value.slice A0 n0 c0).ownBlock w1) := Lib.hid (by rw [hw1]; exact Grw.new (Grw.refl _ _))
  have O1 : Hid (w1.ownsRow base 5 1 (.slice A0 n0 c0) n0 (l.map b8)) := Lib.hid (by rw [hw1]; exact ho.alloc _)
  have B1 : Hid (base ≤ w1.heap.size) := Lib.hid (Nat.le_trans hB G1.out.1.size)
  have T1 : Hid (PowTab base w1) := Lib.hid (hT.on (Frm.of_grw G1.out ho hB).below)
  have HW := Lib.hid hw1
  have hq := quoL_len t.data.toList
  have hqs : t.data.toList.length = t.size := rfl
  have HC := Lib.hid (literal_app base A0 n0 c0 l t w1 O1.out B1.out (by omega))
  clear hq hqs
  clear ho hB hw1 hT hi
  unfold vag
  go_enter Tryz.func18, Tryz.ntmps18
  go_wp2_with fail
  rw [← HW.out]
  refine (HC.out).mono ?_
  rintro _ w5 ⟨A5, n5, c5, rfl, hl5, h5, h6, O5, G5⟩
  go_wp2
  go_ret
  exact ⟨A5, n5, c5, rfl, Lib.hid (by rw [HE.out]; exact hl5.out), h5, h6, Lib.hid (by rw [HE.out]; exact O5.out), Lib.hid (G1.out.trans G5.out)⟩

set_option maxRecDepth 100000 in
set_option maxHeartbeats 2000000 in
set_option linter.unusedVariables false in
theorem pay_1 (i : Int) (t : ByteArray) (its : List VT) (ks : List ByteArray) (A : Option Addr) (c : Nat) (A' : Option Addr) (c' : Nat) (w : World) (base n0 c0 : Nat) (A0 : Option Addr) (l : List UInt8)
    (hi : -9223372036854775808 ≤ i ∧ i ≤ 9223372036854775807)
    (ho : w.ownsRow base 5 1 (.slice A0 n0 c0) n0 (l.map b8)) (hB : base ≤ w.heap.size) (hn : n0 + 4 * (VT.mk 1 i t its ks).txt.length ≤ 100000000) (hT : PowTab base w) :
    Calls Tryz.prog 18 #[.slice A0 n0 c0, vag 1 i t A its.length c A' ks.length c'] w (AppB base (.slice A0 n0 c0) w (l ++ (VT.mk 1 i t its ks).txt)) := by
  obtain ⟨ti, hti, hz, htz, hby⟩ := info_parts Tryz.infob
  rw [VT.txt_mk] at hn
  have HE := Lib.hid (VT.txt_mk 1 i t its ks)
  rw [if_pos rfl] at hn HE
  obtain ⟨w1, hw1⟩ : ∃ w1, w1 = w.alloc (.cells #[.int .i64 1, .int .i64 i, .string t, .slice A its.length c, .slice A' ks.length c'] 25) := ⟨_, rfl⟩
  have G1 : Hid (Grw w (Value.slice A0 n0 c0).ownBlock (Value.slice A0 n0 c0).ownBlock w1) := Lib.hid (by rw [hw1]; exact Grw.new (Grw.refl _ _))
  have O1 : Hid (w1.ownsRow base 5 1 (.slice A0 n0 c0) n0 (l.map b8)) := Lib.hid (by rw [hw1]; exact ho.alloc _)
  have B1 : Hid (base ≤ w1.heap.size) := Lib.hid (Nat.le_trans hB G1.out.1.size)
  have T1 : Hid (PowTab base w1) := Lib.hid (hT.on (Frm.of_grw G1.out ho hB).below)
  have HW := Lib.hid hw1

  clear ho hB hw1 hT hi
  by_cases hb : i = 1
  · subst hb
    have HC := Lib.hid (bool_app true base A0 n0 c0 l w1 O1.out B1.out (by omega))
    have HE : Hid ((VT.mk 1 1 t its ks).txt = boolL true) := Lib.hid HE.out
    unfold vag
    go_enter Tryz.func18, Tryz.ntmps18
    go_wp2_with fail
    rw [← HW.out]
    refine (HC.out).mono ?_
    rintro _ w5 ⟨A5, n5, c5, rfl, hl5, h5, h6, O5, G5⟩
    go_wp2
    go_ret
    exact ⟨A5, n5, c5, rfl, Lib.hid (by rw [HE.out]; exact hl5.out), h5, h6, Lib.hid (by rw [HE.out]; exact O5.out), Lib.hid (G1.out.trans G5.out)⟩
  · have hne : (i == 1) = false := by rw [beq_eq_false_iff_ne]; exact hb
    have HC := Lib.hid (bool_app false base A0 n0 c0 l w1 O1.out B1.out (by omega))
    have HE : Hid ((VT.mk 1 i t its ks).txt = boolL false) := Lib.hid (by rw [HE.out, show decide (i = 1) = false by rw [decide_eq_false_iff_not]; exact hb])
    clear hb
    unfold vag
    go_enter Tryz.func18, Tryz.ntmps18
    go_wp2_with fail
    rw [← HW.out]
    refine (HC.out).mono ?_
    rintro _ w5 ⟨A5, n5, c5, rfl, hl5, h5, h6, O5, G5⟩
    go_wp2
    go_ret
    exact ⟨A5, n5, c5, rfl, Lib.hid (by rw [HE.out]; exact hl5.out), h5, h6, Lib.hid (by rw [HE.out]; exact O5.out), Lib.hid (G1.out.trans G5.out)⟩
end Go.Proofs.YtlgmhhimbabkjaaGreatDoor
namespace Go.Proofs.YtlgmhhimbabkjaaGreatDoor
open Go.RowKit

theorem step_append_b8_at {P : Program} {w : World} {ops : Array Oper} {o : Oper} {a : Act} {K : Act → World → Prop} {Q : Exit → Act → World → Prop} {E : Prop} (hgd : o.guard = none) (s x : Operand) (t : TypeId)
    (ho : o.op = .call { callee := .builtin .append, args := #[s, x], argTypes := #[t, t] })
    (base e : Nat) (i : TypeInfo) (z : Value) (ht : P.underlying t = some (.slice e)) (hi : P.info? e = some i) (hz : i.zero = some z)
    (hsize : i.size = 1) (hby : i.bytes = 1) (hzs : z.cells.size = 1)
    (v : Value) (n : Nat) (xs : List Value) (hs : a.eval s = v) (hown : w.ownsRow base e 1 v n xs)
    (B : Nat) (A : Addr) (m c : Nat) (l : List UInt8) (hx : a.eval x = .slice (some A) m c) (hr : Rb w B (some A) m l) (hl : l ≠ [])
    (hbytes : n + m ≤ 140737488355328) (hbase : base ≤ w.heap.size)
    (h : ∀ v' w', w'.ownsRow base e 1 v' (n + m) (xs ++ l.map b8) → Grw w v.ownBlock v'.ownBlock w' → K (a.put o.dst v') w') :
    if Region.wanted o (yielded ops a.tmps) = true then Oper.wp P o a w K Q else E := by
  obtain ⟨v', w', hrun, h2, h3⟩ := run_append_b8_at (P := P) w base t o.type e i z ht hi hz hsize hby hzs v n xs hown B A m c l hr hl hbytes hbase
  have hw : Region.wanted o (yielded ops a.tmps) = true := by simp [Region.wanted, hgd]
  rw [if_pos hw]
  unfold Oper.wp execOp
  simp only [ho, resolve, invoke, builtin, Sem.run_bind, Sem.run_pure, Result.andThen_ok, List.map_toArray, List.map_cons, List.map_nil, hs, hx, hrun]
  exact h v' w' h2 h3
theorem lit_a (w : World) (o p : Obj) : ((w.alloc o).alloc p).heap[w.heap.size]? = some o := by
  rw [Below.heap_alloc (w.alloc o) p w.heap.size (by rw [World.size_alloc]; omega)]
  exact heap_alloc_new w o
theorem lit_b (w : World) (o p : Obj) : ((w.alloc o).alloc p).heap[w.heap.size + 1]? = some p := by
  have := heap_alloc_new (w.alloc o) p
  rwa [World.size_alloc] at this
/-- a block of one byte, read as a row -/
theorem Rb.block {w : World} {b : Nat} {x : UInt8} (h : w.heap[b]? = some (.cells #[.int .u8 (x.toNat : Int)] 5 (0, 0))) : Rb w (b + 1) (some ⟨b, 0, none⟩) 1 [x] :=
  ⟨rfl, fun _ => ⟨b, 0, rfl, by omega, fun j c hj => by
    cases j with
    | zero =>
      simp at hj
      subst hj
      rw [cell_of_row w b (0 + 0) _ 5 (0, 0) h]
      rfl
    | succ j => simp at hj⟩⟩

set_option maxRecDepth 100000 in
set_option maxHeartbeats 4000000 in
set_option linter.unusedVariables false in
theorem pay_4 (m : Nat) (IH : Hid (TxtUpto m)) (i : Int) (t : ByteArray) (its : List VT) (ks : List ByteArray) (A : Option Addr) (c : Nat) (A' : Option Addr) (c' : Nat) (w : World) (base n0 c0 : Nat) (A0 : Option Addr) (l : List UInt8)
    (hL : LiesL w (fun b => b < base) A 0 its) (hS : LiesS w (fun b => b < base) A' ks) (hk : 4 = 5 → ks.length = its.length) (hkc : ks.length ≤ c') (hcm' : c' ≤ 9223372036854775807) (h1 : its.length ≤ c) (h2 : c ≤ 9223372036854775807) (hsz : sizes its ≤ m) (hw : alls okF its = true)
    (ho : w.ownsRow base 5 1 (.slice A0 n0 c0) n0 (l.map b8)) (hB : base ≤ w.heap.size) (hn : n0 + 4 * (VT.mk 4 i t its ks).txt.length ≤ 100000000) (hT : PowTab base w) :
    Calls Tryz.prog 18 #[.slice A0 n0 c0, vag 4 i t A its.length c A' ks.length c'] w (AppB base (.slice A0 n0 c0) w (l ++ (VT.mk 4 i t its ks).txt)) := by
  obtain ⟨ti, hti, hz, htz, hby⟩ := info_parts Tryz.infob
  have he : (VT.mk 4 i t its ks).txt = 91 :: (txts false true its ks ++ [93]) := by
    rw [VT.txt_mk, if_neg (by decide), if_neg (by decide), if_neg (by decide), if_pos rfl]
  rw [he] at hn ⊢
  have hnn : n0 + 8 + 4 * (txts false true its ks).length ≤ 100000000 := by simp at hn; omega
  clear he hn
  obtain ⟨w1, hw1⟩ : ∃ w1, w1 = w.alloc (.cells #[.int .i64 4, .int .i64 i, .string t, .slice A its.length c, .slice A' ks.length c'] 25) := ⟨_, rfl⟩
  have G1 : Hid (Grw w (Value.slice A0 n0 c0).ownBlock (Value.slice A0 n0 c0).ownBlock w1) := Lib.hid (by rw [hw1]; exact Grw.new (Grw.refl _ _))
  have O1 : Hid (w1.ownsRow base 5 1 (.slice A0 n0 c0) n0 (l.map b8)) := Lib.hid (by rw [hw1]; exact ho.alloc _)
  have P1 : Hid (Bk w1 w.heap.size 25 #[.int .i64 4, .int .i64 i, .string t, .slice A its.length c, .slice A' ks.length c']) := Lib.hid (by rw [hw1]; exact Bk.new _ _ _)
  have B1 : Hid (base ≤ w1.heap.size) := Lib.hid (Nat.le_trans hB G1.out.1.size)
  have F1 : Hid (Frm base w w1) := Lib.hid (Frm.of_grw G1.out ho hB)
  have NB : Hid (∀ b, (Value.slice A0 n0 c0).ownBlock = some b → b < w1.heap.size) := Lib.hid (fun b hb => (O1.out.lt b hb).2)
  have HCALL : Hid (∀ (W : World) (A2 : Option Addr) (n2 c2 : Nat) (L : List UInt8), Frm base w W → W.ownsRow base 5 1 (.slice A2 n2 c2) n2 (L.map b8) → base ≤ W.heap.size → n2 ≤ n0 + 1 → Calls Tryz.prog 39 #[.slice A2 n2 c2, vag 4 i t A its.length c A' ks.length c'] W (AppB base (.slice A2 n2 c2) W (L ++ txts false true its ks))) :=
    Lib.hid (fun W A2 n2 c2 L hf ho2 hb2 hn2 => elems_4 m IH i t its ks A c A' c' W base n2 c2 A2 L (hL.keep (fun p hp => hf.below.cell hp) (fun _ h => h)) h1 h2 hsz hw ho2 hb2 (by omega) (hT.on hf.below))
  have HW := Lib.hid hw1
  have SZ : Hid (w.heap.size < w1.heap.size) := Lib.hid P1.out.lt
  clear hL hS hk hw ho hB hT IH hw1
  have p0 := P1.out.cell 0
  have p1 := P1.out.cell 1
  have p2 := P1.out.cell 2
  have p3 := P1.out.cell 3
  have p4 := P1.out.cell 4
  rw [HW.out] at p0 p1 p2 p3 p4
  unfold vag at *
  go_enter Tryz.func18, Tryz.ntmps18
  go_upto_region 9 with (fail)
  rw [← HW.out]
  rw [← HW.out] at p0 p1 p2 p3 p4
  clear HW
  have sz1 : w.heap.size < w1.heap.size := SZ.out
  go_region_law (first | (refine step_append_b8_at rfl _ _ _ (by rfl) base 5 ti (.int .u8 0) Tryz.underlying38 hti hz htz hby rfl (.slice A0 n0 c0) n0 (l.map b8) (by rfl) (by first | exact (O1.out.alloc _).drew | exact O1.out.drew.alloc _ | exact O1.out.alloc _) (w1.heap.size + 1) ⟨w1.heap.size, 0, none⟩ 1 1 [91] (by rfl) (Rb.block (x := 91) (by first | exact heap_alloc_new w1 _ | exact heap_alloc_new w1.drew _)) (by simp) (by omega) (by have := B1.out; simp; omega) ?_; intro v3 w3 ho3 hg3; have G3' : Grw w1 (Value.slice A0 n0 c0).ownBlock v3.ownBlock w3 := (by first | exact Grw.new (Grw.drew hg3) | exact Grw.drew (Grw.new hg3) | exact Grw.new hg3); obtain ⟨A3, c3, rfl, h31, h32⟩ := own_form ho3; have O3 : Hid (w3.ownsRow base 5 1 (.slice A3 (n0 + 1) c3) (n0 + 1) ((l ++ [91]).map b8)) := Lib.hid (by rw [List.map_append]; exact ho3); have G3 := Lib.hid G3'; have F3 := Lib.hid (Frm.of_grw G3' O1.out B1.out); have FF3 := Lib.hid (F1.out.trans F3.out); have P3 := Lib.hid (F3.out.keep _ _ _ P1.out (by decide)); have false3 : Hid (base ≤ w3.heap.size) := Lib.hid (Nat.le_trans B1.out G3'.1.size); have q0 := P3.out.cell 0; have q1 := P3.out.cell 1; have q2 := P3.out.cell 2; have q3 := P3.out.cell 3; have q4 := P3.out.cell 4; have sz3 : w.heap.size < w3.heap.size := P3.out.lt; clear G3' ho3 hg3) | (refine step_append_b8_at rfl _ _ _ (by rfl) base 5 ti (.int .u8 0) Tryz.underlying38 hti hz htz hby rfl (.slice A0 n0 c0) n0 (l.map b8) (by rfl) (by first | exact ((O1.out.alloc _).alloc _).drew | exact (O1.out.drew.alloc _).alloc _ | exact (O1.out.alloc _).alloc _) (w1.heap.size + 1) ⟨w1.heap.size, 0, none⟩ 1 1 [91] (by rfl) (Rb.block (x := 91) (by first | exact lit_a w1 _ _ | exact lit_a w1.drew _ _)) (by simp) (by omega) (by have := B1.out; simp; omega) ?_; intro v3 w3 ho3 hg3; have G3' : Grw w1 (Value.slice A0 n0 c0).ownBlock v3.ownBlock w3 := (by first | exact Grw.new (Grw.new (Grw.drew hg3)) | exact Grw.drew (Grw.new (Grw.new hg3)) | exact Grw.new (Grw.new hg3)); have BK3 : Hid (w3.heap[w1.heap.size + 1]? = some (.cells #[.int .u8 93] 5 (0, 0)) ∧ v3.ownBlock ≠ some (w1.heap.size + 1)) := Lib.hid ⟨(hg3.1.block (w1.heap.size + 1) (by simp; try omega) (by intro e; have := NB.out _ e.symm; omega)).trans (by first | exact lit_b w1 _ _ | exact lit_b w1.drew _ _), by intro e; rcases hg3.2 _ e with h | h; have := NB.out _ h; omega; simp at h; omega⟩; obtain ⟨A3, c3, rfl, h31, h32⟩ := own_form ho3; have O3 : Hid (w3.ownsRow base 5 1 (.slice A3 (n0 + 1) c3) (n0 + 1) ((l ++ [91]).map b8)) := Lib.hid (by rw [List.map_append]; exact ho3); have G3 := Lib.hid G3'; have F3 := Lib.hid (Frm.of_grw G3' O1.out B1.out); have FF3 := Lib.hid (F1.out.trans F3.out); have P3 := Lib.hid (F3.out.keep _ _ _ P1.out (by decide)); have false3 : Hid (base ≤ w3.heap.size) := Lib.hid (Nat.le_trans B1.out G3'.1.size); have q0 := P3.out.cell 0; have q1 := P3.out.cell 1; have q2 := P3.out.cell 2; have q3 := P3.out.cell 3; have q4 := P3.out.cell 4; have sz3 : w.heap.size < w3.heap.size := P3.out.lt; clear G3' ho3 hg3) | (refine step_append_b8_at rfl _ _ _ (by rfl) base 5 ti (.int .u8 0) Tryz.underlying38 hti hz htz hby rfl (.slice A0 n0 c0) n0 (l.map b8) (by rfl) (by first | exact ((O1.out.alloc _).alloc _).drew | exact (O1.out.drew.alloc _).alloc _ | exact (O1.out.alloc _).alloc _) (w1.heap.size + 1 + 1) ⟨w1.heap.size + 1, 0, none⟩ 1 1 [91] (by rfl) (Rb.block (x := 91) (by first | exact lit_b w1 _ _ | exact lit_b w1.drew _ _)) (by simp) (by omega) (by have := B1.out; simp; omega) ?_; intro v3 w3 ho3 hg3; have G3' : Grw w1 (Value.slice A0 n0 c0).ownBlock v3.ownBlock w3 := (by first | exact Grw.new (Grw.new (Grw.drew hg3)) | exact Grw.drew (Grw.new (Grw.new hg3)) | exact Grw.new (Grw.new hg3)); have BK3 : Hid (w3.heap[w1.heap.size]? = some (.cells #[.int .u8 93] 5 (0, 0)) ∧ v3.ownBlock ≠ some (w1.heap.size)) := Lib.hid ⟨(hg3.1.block (w1.heap.size) (by simp; try omega) (by intro e; have := NB.out _ e.symm; omega)).trans (by first | exact lit_a w1 _ _ | exact lit_a w1.drew _ _), by intro e; rcases hg3.2 _ e with h | h; have := NB.out _ h; omega; simp at h; omega⟩; obtain ⟨A3, c3, rfl, h31, h32⟩ := own_form ho3; have O3 : Hid (w3.ownsRow base 5 1 (.slice A3 (n0 + 1) c3) (n0 + 1) ((l ++ [91]).map b8)) := Lib.hid (by rw [List.map_append]; exact ho3); have G3 := Lib.hid G3'; have F3 := Lib.hid (Frm.of_grw G3' O1.out B1.out); have FF3 := Lib.hid (F1.out.trans F3.out); have P3 := Lib.hid (F3.out.keep _ _ _ P1.out (by decide)); have false3 : Hid (base ≤ w3.heap.size) := Lib.hid (Nat.le_trans B1.out G3'.1.size); have q0 := P3.out.cell 0; have q1 := P3.out.cell 1; have q2 := P3.out.cell 2; have q3 := P3.out.cell 3; have q4 := P3.out.cell 4; have sz3 : w.heap.size < w3.heap.size := P3.out.lt; clear G3' ho3 hg3) | (go_simp; go_at_call 39; refine (HCALL.out _ A3 (n0 + 1) c3 (l ++ [91]) (by first | exact FF3.out | exact FF3.out.trans (Frm.of_below (below_one _ _) false3.out)) (by first | exact O3.out | exact O3.out.alloc _) (by first | exact false3.out | (rw [World.size_alloc]; exact Nat.le_succ_of_le false3.out)) (Nat.le_refl _)).mono ?_; rintro _ w4 ⟨A4, n4, c4, rfl, hl4, h41, h42, O4, G4⟩; have G34 : Hid (Grw w1 (Value.slice A0 n0 c0).ownBlock (Value.slice A4 n4 c4).ownBlock w4) := Lib.hid (by first | exact G3.out.trans G4.out | exact G3.out.trans (Grw.new G4.out)); have false4 : Hid (base ≤ w4.heap.size) := Lib.hid (Nat.le_trans B1.out G34.out.1.size); have hn4 : n4 ≤ 100000000 := (by have e1 := hl4.out; have e2 := own_len O1.out; simp at e1 e2; omega); first | (have BK4 : Hid (w4.heap[w1.heap.size + 1]? = some (.cells #[.int .u8 93] 5 (0, 0))) := Lib.hid ((G4.out.1.block (w1.heap.size + 1) (Nat.lt_of_not_le (fun hh => by have e := BK3.out.1; rw [Array.getElem?_eq_none hh] at e; cases e)) (Ne.symm BK3.out.2)).trans BK3.out.1)) | (have BK4 : Hid (w4.heap[w1.heap.size]? = some (.cells #[.int .u8 93] 5 (0, 0))) := Lib.hid ((G4.out.1.block w1.heap.size (Nat.lt_of_not_le (fun hh => by have e := BK3.out.1; rw [Array.getElem?_eq_none hh] at e; cases e)) (Ne.symm BK3.out.2)).trans BK3.out.1)) | (have BK4 : Hid (w4.heap[w3.heap.size]? = some (.cells #[.int .u8 93] 5 (0, 0))) := Lib.hid ((G4.out.1.block w3.heap.size (by simp) (by intro e; have := (O3.out.lt _ e.symm).2; omega)).trans (by first | exact heap_alloc_new w3 _ | exact heap_alloc_new w3.drew _))) | skip) | (refine step_append_b8_at rfl _ _ _ (by rfl) base 5 ti (.int .u8 0) Tryz.underlying38 hti hz htz hby rfl (.slice A4 n4 c4) n4 ((l ++ [91] ++ txts false true its ks).map b8) (by rfl) (by first | exact O4.out.alloc _) (w4.heap.size + 1) ⟨w4.heap.size, 0, none⟩ 1 1 [93] (by rfl) (Rb.block (x := 93) (by first | exact heap_alloc_new w4 _)) (by simp) (by omega) (by have := false4.out; first | exact this | (simp; omega)) ?_; intro v5 w5 ho5 hg5; have FIN : Hid (AppB base (.slice A0 n0 c0) w (l ++ 91 :: (txts false true its ks ++ [93])) (.returned v5) w5) := Lib.hid (AppB.mk' (n := n4 + 1) (by rw [show l ++ 91 :: (txts false true its ks ++ [93]) = (l ++ [91] ++ txts false true its ks) ++ [93] by simp, List.map_append]; exact ho5) (G1.out.trans (G34.out.trans (by first | exact hg5 | exact hg5.new)))); clear ho5 hg5) | (refine step_append_b8_at rfl _ _ _ (by rfl) base 5 ti (.int .u8 0) Tryz.underlying38 hti hz htz hby rfl (.slice A4 n4 c4) n4 ((l ++ [91] ++ txts false true its ks).map b8) (by rfl) (by first | exact O4.out) (w1.heap.size + 1 + 1) ⟨w1.heap.size + 1, 0, none⟩ 1 1 [93] (by rfl) (Rb.block (x := 93) (by first | exact BK4.out)) (by simp) (by omega) (by have := false4.out; first | exact this | (simp; omega)) ?_; intro v5 w5 ho5 hg5; have FIN : Hid (AppB base (.slice A0 n0 c0) w (l ++ 91 :: (txts false true its ks ++ [93])) (.returned v5) w5) := Lib.hid (AppB.mk' (n := n4 + 1) (by rw [show l ++ 91 :: (txts false true its ks ++ [93]) = (l ++ [91] ++ txts false true its ks) ++ [93] by simp, List.map_append]; exact ho5) (G1.out.trans (G34.out.trans (by first | exact hg5 | exact hg5.new)))); clear ho5 hg5) | (refine step_append_b8_at rfl _ _ _ (by rfl) base 5 ti (.int .u8 0) Tryz.underlying38 hti hz htz hby rfl (.slice A4 n4 c4) n4 ((l ++ [91] ++ txts false true its ks).map b8) (by rfl) (by first | exact O4.out) (w1.heap.size + 1) ⟨w1.heap.size, 0, none⟩ 1 1 [93] (by rfl) (Rb.block (x := 93) (by first | exact BK4.out)) (by simp) (by omega) (by have := false4.out; first | exact this | (simp; omega)) ?_; intro v5 w5 ho5 hg5; have FIN : Hid (AppB base (.slice A0 n0 c0) w (l ++ 91 :: (txts false true its ks ++ [93])) (.returned v5) w5) := Lib.hid (AppB.mk' (n := n4 + 1) (by rw [show l ++ 91 :: (txts false true its ks ++ [93]) = (l ++ [91] ++ txts false true its ks) ++ [93] by simp, List.map_append]; exact ho5) (G1.out.trans (G34.out.trans (by first | exact hg5 | exact hg5.new)))); clear ho5 hg5) | (refine step_append_b8_at rfl _ _ _ (by rfl) base 5 ti (.int .u8 0) Tryz.underlying38 hti hz htz hby rfl (.slice A4 n4 c4) n4 ((l ++ [91] ++ txts false true its ks).map b8) (by rfl) (by first | exact O4.out) (w3.heap.size + 1) ⟨w3.heap.size, 0, none⟩ 1 1 [93] (by rfl) (Rb.block (x := 93) (by first | exact BK4.out)) (by simp) (by omega) (by have := false4.out; first | exact this | (simp; omega)) ?_; intro v5 w5 ho5 hg5; have FIN : Hid (AppB base (.slice A0 n0 c0) w (l ++ 91 :: (txts false true its ks ++ [93])) (.returned v5) w5) := Lib.hid (AppB.mk' (n := n4 + 1) (by rw [show l ++ 91 :: (txts false true its ks ++ [93]) = (l ++ [91] ++ txts false true its ks) ++ [93] by simp, List.map_append]; exact ho5) (G1.out.trans (G34.out.trans (by first | exact hg5 | exact hg5.new)))); clear ho5 hg5))
  all_goals (
    try go_wp2
    go_ret
    exact FIN.out)
end Go.Proofs.YtlgmhhimbabkjaaGreatDoor
namespace Go.Proofs.YtlgmhhimbabkjaaGreatDoor
open Go.RowKit

set_option maxRecDepth 100000 in
set_option maxHeartbeats 4000000 in
set_option linter.unusedVariables false in
theorem pay_5 (m : Nat) (IH : Hid (TxtUpto m)) (i : Int) (t : ByteArray) (its : List VT) (ks : List ByteArray) (A : Option Addr) (c : Nat) (A' : Option Addr) (c' : Nat) (w : World) (base n0 c0 : Nat) (A0 : Option Addr) (l : List UInt8)
    (hL : LiesL w (fun b => b < base) A 0 its) (hS : LiesS w (fun b => b < base) A' ks) (hk : 5 = 5 → ks.length = its.length) (hkc : ks.length ≤ c') (hcm' : c' ≤ 9223372036854775807) (h1 : its.length ≤ c) (h2 : c ≤ 9223372036854775807) (hsz : sizes its ≤ m) (hw : alls okF its = true)
    (ho : w.ownsRow base 5 1 (.slice A0 n0 c0) n0 (l.map b8)) (hB : base ≤ w.heap.size) (hn : n0 + 4 * (VT.mk 5 i t its ks).txt.length ≤ 100000000) (hT : PowTab base w) :
    Calls Tryz.prog 18 #[.slice A0 n0 c0, vag 5 i t A its.length c A' ks.length c'] w (AppB base (.slice A0 n0 c0) w (l ++ (VT.mk 5 i t its ks).txt)) := by
  obtain ⟨ti, hti, hz, htz, hby⟩ := info_parts Tryz.infob
  have he : (VT.mk 5 i t its ks).txt = 123 :: (txts true true its ks ++ [125]) := by
    rw [VT.txt_mk, if_neg (by decide), if_neg (by decide), if_neg (by decide), if_neg (by decide), if_pos rfl]
  rw [he] at hn ⊢
  have hnn : n0 + 8 + 4 * (txts true true its ks).length ≤ 100000000 := by simp at hn; omega
  clear he hn
  obtain ⟨w1, hw1⟩ : ∃ w1, w1 = w.alloc (.cells #[.int .i64 5, .int .i64 i, .string t, .slice A its.length c, .slice A' ks.length c'] 25) := ⟨_, rfl⟩
  have G1 : Hid (Grw w (Value.slice A0 n0 c0).ownBlock (Value.slice A0 n0 c0).ownBlock w1) := Lib.hid (by rw [hw1]; exact Grw.new (Grw.refl _ _))
  have O1 : Hid (w1.ownsRow base 5 1 (.slice A0 n0 c0) n0 (l.map b8)) := Lib.hid (by rw [hw1]; exact ho.alloc _)
  have P1 : Hid (Bk w1 w.heap.size 25 #[.int .i64 5, .int .i64 i, .string t, .slice A its.length c, .slice A' ks.length c']) := Lib.hid (by rw [hw1]; exact Bk.new _ _ _)
  have B1 : Hid (base ≤ w1.heap.size) := Lib.hid (Nat.le_trans hB G1.out.1.size)
  have F1 : Hid (Frm base w w1) := Lib.hid (Frm.of_grw G1.out ho hB)
  have NB : Hid (∀ b, (Value.slice A0 n0 c0).ownBlock = some b → b < w1.heap.size) := Lib.hid (fun b hb => (O1.out.lt b hb).2)
  have HCALL : Hid (∀ (W : World) (A2 : Option Addr) (n2 c2 : Nat) (L : List UInt8), Frm base w W → W.ownsRow base 5 1 (.slice A2 n2 c2) n2 (L.map b8) → base ≤ W.heap.size → n2 ≤ n0 + 1 → Calls Tryz.prog 39 #[.slice A2 n2 c2, vag 5 i t A its.length c A' ks.length c'] W (AppB base (.slice A2 n2 c2) W (L ++ txts true true its ks))) :=
    Lib.hid (fun W A2 n2 c2 L hf ho2 hb2 hn2 => elems_5 m IH i t its ks A c A' c' W base n2 c2 A2 L (hL.keep (fun p hp => hf.below.cell hp) (fun _ h => h)) (hS.keep (fun p hp => hf.below.cell hp) (fun _ h => h)) (hk rfl) hkc hcm' h1 h2 hsz hw ho2 hb2 (by omega) (hT.on hf.below))
  have HW := Lib.hid hw1
  have SZ : Hid (w.heap.size < w1.heap.size) := Lib.hid P1.out.lt
  clear hL hS hk hw ho hB hT IH hw1
  have p0 := P1.out.cell 0
  have p1 := P1.out.cell 1
  have p2 := P1.out.cell 2
  have p3 := P1.out.cell 3
  have p4 := P1.out.cell 4
  rw [HW.out] at p0 p1 p2 p3 p4
  unfold vag at *
  go_enter Tryz.func18, Tryz.ntmps18
  go_upto_region 11 with (fail)
  rw [← HW.out]
  rw [← HW.out] at p0 p1 p2 p3 p4
  clear HW
  have sz1 : w.heap.size < w1.heap.size := SZ.out
  go_region_law (first | (refine step_append_b8_at rfl _ _ _ (by rfl) base 5 ti (.int .u8 0) Tryz.underlying38 hti hz htz hby rfl (.slice A0 n0 c0) n0 (l.map b8) (by rfl) (by first | exact (O1.out.alloc _).drew | exact O1.out.drew.alloc _ | exact O1.out.alloc _) (w1.heap.size + 1) ⟨w1.heap.size, 0, none⟩ 1 1 [123] (by rfl) (Rb.block (x := 123) (by first | exact heap_alloc_new w1 _ | exact heap_alloc_new w1.drew _)) (by simp) (by omega) (by have := B1.out; simp; omega) ?_; intro v3 w3 ho3 hg3; have G3' : Grw w1 (Value.slice A0 n0 c0).ownBlock v3.ownBlock w3 := (by first | exact Grw.new (Grw.drew hg3) | exact Grw.drew (Grw.new hg3) | exact Grw.new hg3); obtain ⟨A3, c3, rfl, h31, h32⟩ := own_form ho3; have O3 : Hid (w3.ownsRow base 5 1 (.slice A3 (n0 + 1) c3) (n0 + 1) ((l ++ [123]).map b8)) := Lib.hid (by rw [List.map_append]; exact ho3); have G3 := Lib.hid G3'; have F3 := Lib.hid (Frm.of_grw G3' O1.out B1.out); have FF3 := Lib.hid (F1.out.trans F3.out); have P3 := Lib.hid (F3.out.keep _ _ _ P1.out (by decide)); have true3 : Hid (base ≤ w3.heap.size) := Lib.hid (Nat.le_trans B1.out G3'.1.size); have q0 := P3.out.cell 0; have q1 := P3.out.cell 1; have q2 := P3.out.cell 2; have q3 := P3.out.cell 3; have q4 := P3.out.cell 4; have sz3 : w.heap.size < w3.heap.size := P3.out.lt; clear G3' ho3 hg3) | (refine step_append_b8_at rfl _ _ _ (by rfl) base 5 ti (.int .u8 0) Tryz.underlying38 hti hz htz hby rfl (.slice A0 n0 c0) n0 (l.map b8) (by rfl) (by first | exact ((O1.out.alloc _).alloc _).drew | exact (O1.out.drew.alloc _).alloc _ | exact (O1.out.alloc _).alloc _) (w1.heap.size + 1) ⟨w1.heap.size, 0, none⟩ 1 1 [123] (by rfl) (Rb.block (x := 123) (by first | exact lit_a w1 _ _ | exact lit_a w1.drew _ _)) (by simp) (by omega) (by have := B1.out; simp; omega) ?_; intro v3 w3 ho3 hg3; have G3' : Grw w1 (Value.slice A0 n0 c0).ownBlock v3.ownBlock w3 := (by first | exact Grw.new (Grw.new (Grw.drew hg3)) | exact Grw.drew (Grw.new (Grw.new hg3)) | exact Grw.new (Grw.new hg3)); have BK3 : Hid (w3.heap[w1.heap.size + 1]? = some (.cells #[.int .u8 125] 5 (0, 0)) ∧ v3.ownBlock ≠ some (w1.heap.size + 1)) := Lib.hid ⟨(hg3.1.block (w1.heap.size + 1) (by simp; try omega) (by intro e; have := NB.out _ e.symm; omega)).trans (by first | exact lit_b w1 _ _ | exact lit_b w1.drew _ _), by intro e; rcases hg3.2 _ e with h | h; have := NB.out _ h; omega; simp at h; omega⟩; obtain ⟨A3, c3, rfl, h31, h32⟩ := own_form ho3; have O3 : Hid (w3.ownsRow base 5 1 (.slice A3 (n0 + 1) c3) (n0 + 1) ((l ++ [123]).map b8)) := Lib.hid (by rw [List.map_append]; exact ho3); have G3 := Lib.hid G3'; have F3 := Lib.hid (Frm.of_grw G3' O1.out B1.out); have FF3 := Lib.hid (F1.out.trans F3.out); have P3 := Lib.hid (F3.out.keep _ _ _ P1.out (by decide)); have true3 : Hid (base ≤ w3.heap.size) := Lib.hid (Nat.le_trans B1.out G3'.1.size); have q0 := P3.out.cell 0; have q1 := P3.out.cell 1; have q2 := P3.out.cell 2; have q3 := P3.out.cell 3; have q4 := P3.out.cell 4; have sz3 : w.heap.size < w3.heap.size := P3.out.lt; clear G3' ho3 hg3) | (refine step_append_b8_at rfl _ _ _ (by rfl) base 5 ti (.int .u8 0) Tryz.underlying38 hti hz htz hby rfl (.slice A0 n0 c0) n0 (l.map b8) (by rfl) (by first | exact ((O1.out.alloc _).alloc _).drew | exact (O1.out.drew.alloc _).alloc _ | exact (O1.out.alloc _).alloc _) (w1.heap.size + 1 + 1) ⟨w1.heap.size + 1, 0, none⟩ 1 1 [123] (by rfl) (Rb.block (x := 123) (by first | exact lit_b w1 _ _ | exact lit_b w1.drew _ _)) (by simp) (by omega) (by have := B1.out; simp; omega) ?_; intro v3 w3 ho3 hg3; have G3' : Grw w1 (Value.slice A0 n0 c0).ownBlock v3.ownBlock w3 := (by first | exact Grw.new (Grw.new (Grw.drew hg3)) | exact Grw.drew (Grw.new (Grw.new hg3)) | exact Grw.new (Grw.new hg3)); have BK3 : Hid (w3.heap[w1.heap.size]? = some (.cells #[.int .u8 125] 5 (0, 0)) ∧ v3.ownBlock ≠ some (w1.heap.size)) := Lib.hid ⟨(hg3.1.block (w1.heap.size) (by simp; try omega) (by intro e; have := NB.out _ e.symm; omega)).trans (by first | exact lit_a w1 _ _ | exact lit_a w1.drew _ _), by intro e; rcases hg3.2 _ e with h | h; have := NB.out _ h; omega; simp at h; omega⟩; obtain ⟨A3, c3, rfl, h31, h32⟩ := own_form ho3; have O3 : Hid (w3.ownsRow base 5 1 (.slice A3 (n0 + 1) c3) (n0 + 1) ((l ++ [123]).map b8)) := Lib.hid (by rw [List.map_append]; exact ho3); have G3 := Lib.hid G3'; have F3 := Lib.hid (Frm.of_grw G3' O1.out B1.out); have FF3 := Lib.hid (F1.out.trans F3.out); have P3 := Lib.hid (F3.out.keep _ _ _ P1.out (by decide)); have true3 : Hid (base ≤ w3.heap.size) := Lib.hid (Nat.le_trans B1.out G3'.1.size); have q0 := P3.out.cell 0; have q1 := P3.out.cell 1; have q2 := P3.out.cell 2; have q3 := P3.out.cell 3; have q4 := P3.out.cell 4; have sz3 : w.heap.size < w3.heap.size := P3.out.lt; clear G3' ho3 hg3) | (go_simp; go_at_call 39; refine (HCALL.out _ A3 (n0 + 1) c3 (l ++ [123]) (by first | exact FF3.out | exact FF3.out.trans (Frm.of_below (below_one _ _) true3.out)) (by first | exact O3.out | exact O3.out.alloc _) (by first | exact true3.out | (rw [World.size_alloc]; exact Nat.le_succ_of_le true3.out)) (Nat.le_refl _)).mono ?_; rintro _ w4 ⟨A4, n4, c4, rfl, hl4, h41, h42, O4, G4⟩; have G34 : Hid (Grw w1 (Value.slice A0 n0 c0).ownBlock (Value.slice A4 n4 c4).ownBlock w4) := Lib.hid (by first | exact G3.out.trans G4.out | exact G3.out.trans (Grw.new G4.out)); have true4 : Hid (base ≤ w4.heap.size) := Lib.hid (Nat.le_trans B1.out G34.out.1.size); have hn4 : n4 ≤ 100000000 := (by have e1 := hl4.out; have e2 := own_len O1.out; simp at e1 e2; omega); first | (have BK4 : Hid (w4.heap[w1.heap.size + 1]? = some (.cells #[.int .u8 125] 5 (0, 0))) := Lib.hid ((G4.out.1.block (w1.heap.size + 1) (Nat.lt_of_not_le (fun hh => by have e := BK3.out.1; rw [Array.getElem?_eq_none hh] at e; cases e)) (Ne.symm BK3.out.2)).trans BK3.out.1)) | (have BK4 : Hid (w4.heap[w1.heap.size]? = some (.cells #[.int .u8 125] 5 (0, 0))) := Lib.hid ((G4.out.1.block w1.heap.size (Nat.lt_of_not_le (fun hh => by have e := BK3.out.1; rw [Array.getElem?_eq_none hh] at e; cases e)) (Ne.symm BK3.out.2)).trans BK3.out.1)) | (have BK4 : Hid (w4.heap[w3.heap.size]? = some (.cells #[.int .u8 125] 5 (0, 0))) := Lib.hid ((G4.out.1.block w3.heap.size (by simp) (by intro e; have := (O3.out.lt _ e.symm).2; omega)).trans (by first | exact heap_alloc_new w3 _ | exact heap_alloc_new w3.drew _))) | skip) | (refine step_append_b8_at rfl _ _ _ (by rfl) base 5 ti (.int .u8 0) Tryz.underlying38 hti hz htz hby rfl (.slice A4 n4 c4) n4 ((l ++ [123] ++ txts true true its ks).map b8) (by rfl) (by first | exact O4.out.alloc _) (w4.heap.size + 1) ⟨w4.heap.size, 0, none⟩ 1 1 [125] (by rfl) (Rb.block (x := 125) (by first | exact heap_alloc_new w4 _)) (by simp) (by omega) (by have := true4.out; first | exact this | (simp; omega)) ?_; intro v5 w5 ho5 hg5; have FIN : Hid (AppB base (.slice A0 n0 c0) w (l ++ 123 :: (txts true true its ks ++ [125])) (.returned v5) w5) := Lib.hid (AppB.mk' (n := n4 + 1) (by rw [show l ++ 123 :: (txts true true its ks ++ [125]) = (l ++ [123] ++ txts true true its ks) ++ [125] by simp, List.map_append]; exact ho5) (G1.out.trans (G34.out.trans (by first | exact hg5 | exact hg5.new)))); clear ho5 hg5) | (refine step_append_b8_at rfl _ _ _ (by rfl) base 5 ti (.int .u8 0) Tryz.underlying38 hti hz htz hby rfl (.slice A4 n4 c4) n4 ((l ++ [123] ++ txts true true its ks).map b8) (by rfl) (by first | exact O4.out) (w1.heap.size + 1 + 1) ⟨w1.heap.size + 1, 0, none⟩ 1 1 [125] (by rfl) (Rb.block (x := 125) (by first | exact BK4.out)) (by simp) (by omega) (by have := true4.out; first | exact this | (simp; omega)) ?_; intro v5 w5 ho5 hg5; have FIN : Hid (AppB base (.slice A0 n0 c0) w (l ++ 123 :: (txts true true its ks ++ [125])) (.returned v5) w5) := Lib.hid (AppB.mk' (n := n4 + 1) (by rw [show l ++ 123 :: (txts true true its ks ++ [125]) = (l ++ [123] ++ txts true true its ks) ++ [125] by simp, List.map_append]; exact ho5) (G1.out.trans (G34.out.trans (by first | exact hg5 | exact hg5.new)))); clear ho5 hg5) | (refine step_append_b8_at rfl _ _ _ (by rfl) base 5 ti (.int .u8 0) Tryz.underlying38 hti hz htz hby rfl (.slice A4 n4 c4) n4 ((l ++ [123] ++ txts true true its ks).map b8) (by rfl) (by first | exact O4.out) (w1.heap.size + 1) ⟨w1.heap.size, 0, none⟩ 1 1 [125] (by rfl) (Rb.block (x := 125) (by first | exact BK4.out)) (by simp) (by omega) (by have := true4.out; first | exact this | (simp; omega)) ?_; intro v5 w5 ho5 hg5; have FIN : Hid (AppB base (.slice A0 n0 c0) w (l ++ 123 :: (txts true true its ks ++ [125])) (.returned v5) w5) := Lib.hid (AppB.mk' (n := n4 + 1) (by rw [show l ++ 123 :: (txts true true its ks ++ [125]) = (l ++ [123] ++ txts true true its ks) ++ [125] by simp, List.map_append]; exact ho5) (G1.out.trans (G34.out.trans (by first | exact hg5 | exact hg5.new)))); clear ho5 hg5) | (refine step_append_b8_at rfl _ _ _ (by rfl) base 5 ti (.int .u8 0) Tryz.underlying38 hti hz htz hby rfl (.slice A4 n4 c4) n4 ((l ++ [123] ++ txts true true its ks).map b8) (by rfl) (by first | exact O4.out) (w3.heap.size + 1) ⟨w3.heap.size, 0, none⟩ 1 1 [125] (by rfl) (Rb.block (x := 125) (by first | exact BK4.out)) (by simp) (by omega) (by have := true4.out; first | exact this | (simp; omega)) ?_; intro v5 w5 ho5 hg5; have FIN : Hid (AppB base (.slice A0 n0 c0) w (l ++ 123 :: (txts true true its ks ++ [125])) (.returned v5) w5) := Lib.hid (AppB.mk' (n := n4 + 1) (by rw [show l ++ 123 :: (txts true true its ks ++ [125]) = (l ++ [123] ++ txts true true its ks) ++ [125] by simp, List.map_append]; exact ho5) (G1.out.trans (G34.out.trans (by first | exact hg5 | exact hg5.new)))); clear ho5 hg5))
  all_goals (
    try go_wp2
    go_ret
    exact FIN.out)
end Go.Proofs.YtlgmhhimbabkjaaGreatDoor
namespace Go.Proofs.YtlgmhhimbabkjaaGreatDoor
open Go.RowKit

theorem okF_kind {k i : Int} {t : ByteArray} {its : List VT} {ks : List ByteArray} (h : okF (.mk k i t its ks) = true) : 0 ≤ k ∧ k ≤ 6 := by
  by_cases hk : 0 ≤ k ∧ k ≤ 6
  · exact hk
  · unfold okF VT.k at h
    simp only [show ¬ k = 0 from by omega, show ¬ k = 1 from by omega, show ¬ k = 2 from by omega, show ¬ k = 3 from by omega, show ¬ k = 4 from by omega, show ¬ k = 5 from by omega, show ¬ k = 6 from by omega, if_false] at h
    cases h
theorem okF_keys {k i : Int} {t : ByteArray} {its : List VT} {ks : List ByteArray} (h : okF (.mk k i t its ks) = true) (hk : k = 5) : ks.length = its.length := by
  subst hk
  rw [okF_5] at h
  simp only [Bool.and_eq_true, decide_eq_true_eq] at h
  exact h.2.2.1
theorem txt_all (m : Nat) : TxtUpto m := by
  induction m with
  | zero => intro x _ _ _ _ _ _ _ h; have := size_pos x; omega
  | succ m ih =>
    intro x w v base n c A l hsz hw hv ho hB hn hT
    have IH := Lib.hid ih
    obtain ⟨k, i, t, its, ks⟩ := x
    obtain ⟨A1, c1, A', c', rfl, _, hi, _, h1, h2, hL, h3, h4, hS⟩ := hv.open
    rw [VT.size_mk] at hsz
    rw [VT.all_mk, Bool.and_eq_true] at hw
    have hk := okF_kind hw.1
    have hks := okF_keys hw.1
    obtain rfl | rfl | rfl | rfl | rfl | rfl | rfl : k = 0 ∨ k = 1 ∨ k = 2 ∨ k = 3 ∨ k = 4 ∨ k = 5 ∨ k = 6 := by omega
    · exact pay_0 i t its ks A1 c1 A' c' w base n c A l hi ho hB hn hT
    · exact pay_1 i t its ks A1 c1 A' c' w base n c A l hi ho hB hn hT
    · exact pay_2 i t its ks A1 c1 A' c' w base n c A l hi ho hB hn hT
    · exact pay_3 i t its ks A1 c1 A' c' w base n c A l hi ho hB hn hT
    · exact pay_4 m IH i t its ks A1 c1 A' c' w base n c A l hL hS (fun e => by omega) h3 h4 h1 h2 (by omega) hw.2 ho hB hn hT
    · exact pay_5 m IH i t its ks A1 c1 A' c' w base n c A l hL hS (fun _ => hks rfl) h3 h4 h1 h2 (by omega) hw.2 ho hB hn hT
    · exact pay_6 i t its ks A1 c1 A' c' w base n c A l hi ho hB hn hT

/-- what Print gives -/
def PrtR (x : VT) (w : World) (e : Ending) (w' : World) : Prop :=
  e = .returned (.tuple (if x.right = true then #[.string ⟨x.txt.toArray⟩, .int .i64 0] else #[.string ⟨#[]⟩, .int .i64 2])) ∧ Below w.heap.size w w'
theorem right_ok {x : VT} (h : x.right = true) : x.all okF = true := by
  unfold VT.right VT.wf at h
  rw [Bool.and_eq_true] at h
  exact h.1

set_option maxRecDepth 100000 in
set_option maxHeartbeats 4000000 in
theorem Print_any {x : VT} {v : Value} {w : World} (hv : Lies w (Lo w) x v) (hn : 4 * x.txt.length ≤ 100000000) (hT : PowTab w.heap.size w) :
    Calls Tryz.prog 9 #[v] w (PrtR x w) := by
  have HR := Lib.hid (fun (w' : World) (hb : Below w.heap.size w w') => valRight_any (hv.below hb))
  have HP := Lib.hid (fun (w' : World) (hb : Below w.heap.size w w') (hx : x.right = true) => txt_all x.size x w' v w.heap.size 0 0 none [] (Nat.le_refl _) (right_ok hx) (hv.keep (fun p hp => hb.cell hp) (fun _ h => h)) ⟨rfl, .inl ⟨rfl, rfl⟩⟩ hb.size (by omega) (hT.on hb))
  have HX : Hid (∀ (w' : World), Below w.heap.size w w' → PrtR x w (.returned (.tuple (if x.right = true then #[.string ⟨x.txt.toArray⟩, .int .i64 0] else #[.string ⟨#[]⟩, .int .i64 2]))) w') := Lib.hid (fun w' hb => ⟨rfl, hb⟩)
  obtain ⟨k, i, t, its, ks⟩ := x
  obtain ⟨A1, c1, A', c', rfl, _, _, _, _, _, _, _, _, _⟩ := hv.open
  clear hv hn hT
  generalize hx : VT.mk k i t its ks = x at *
  clear hx
  generalize hb : x.right = b at *
  obtain ⟨w1, hw1⟩ : ∃ w1, w1 = w.alloc (.cells #[.int .i64 k, .int .i64 i, .string t, .slice A1 its.length c1, .slice A' ks.length c'] 25) := ⟨_, rfl⟩
  have P1 : Hid (Bk w1 w.heap.size 25 #[.int .i64 k, .int .i64 i, .string t, .slice A1 its.length c1, .slice A' ks.length c']) := Lib.hid (by rw [hw1]; exact Bk.new _ _ _)
  have B1 : Hid (Below w.heap.size w w1) := Lib.hid (by rw [hw1]; exact below_one _ _)
  have R1 := Lib.hid (HR.out w1 B1.out)
  have HW := Lib.hid hw1
  have p0 := P1.out.cell 0
  have p1 := P1.out.cell 1
  have p2 := P1.out.cell 2
  have p3 := P1.out.cell 3
  have p4 := P1.out.cell 4
  rw [HW.out] at p0 p1 p2 p3 p4
  clear hw1 hb
  unfold vag at *
  go_enter Tryz.func9, Tryz.ntmps9
  go_wp2_with fail
  rw [← HW.out]
  refine (R1.out).mono ?_
  rintro e w2 ⟨rfl, hb2⟩
  have B2 : Hid (Below w.heap.size w w2) := Lib.hid (B1.out.trans (hb2.mono B1.out.size))
  have P2 := Lib.hid (P1.out.below hb2 P1.out.lt)
  clear hb2 p0 p1 p2 p3 p4
  cases b with
  | false =>
    have FIN := Lib.hid (HX.out w2 B2.out)
    clear HP HR R1 HX
    go_wp2
    go_ret2
    exact FIN.out
  | true =>
    have E2 := Lib.hid (HP.out w2 B2.out rfl)
    have p0 := P2.out.cell 0
    have p1 := P2.out.cell 1
    have p2 := P2.out.cell 2
    have p3 := P2.out.cell 3
    have p4 := P2.out.cell 4
    clear HP HR R1
    go_wp2_with fail
    refine (E2.out).mono ?_
    rintro e w5 ⟨A5, n5, c5, rfl, hl5, _, _, O5, G5⟩
    have B5 : Hid (Below w.heap.size w w5) := Lib.hid (B2.out.trans ((Below.refl _ _).grown G5.out.1 B2.out.size (fun k hk => by cases hk)))
    rw [List.nil_append] at O5
    have HS := run_str (P := Tryz.prog) (c := c5) 38 9 5 Tryz.underlying38 Tryz.underlying5 Tryz.underlying9 (Rb.of_own O5.out)
    have FIN := Lib.hid (HX.out w5 B5.out)
    clear p0 p1 p2 p3 p4 HX
    go_wp2
    go_ret2
    exact FIN.out
end Go.Proofs.YtlgmhhimbabkjaaGreatDoor
namespace Go.Proofs.YtlgmhhimbabkjaaGreatDoor
open Go.RowKit

/-- the first example's value -/
def exV : VT := .mk 5 0 ⟨#[]⟩ [.mk 4 0 ⟨#[]⟩ [nullT, .mk 1 1 ⟨#[]⟩ [] []] [], .mk 2 (-5) ⟨#[]⟩ [] []] [⟨#[97]⟩, ⟨#[98]⟩]
theorem ex_1 : parP [123, 34, 98, 34, 58, 32, 45, 53, 44, 32, 34, 97, 34, 32, 58, 91, 110, 117, 108, 108, 44, 116, 114, 117, 101, 93, 125] = .ok exV 27 := by kernel_rfl
theorem ex_2 : parP [123, 34, 97, 34, 58, 32, 48, 49, 125] = .err 7 3 := by kernel_rfl
theorem ex_3 : parP [123, 34, 97, 34, 58, 32, 49, 44, 32, 34, 97, 34, 58, 32, 50, 125] = .err 9 9 := by kernel_rfl
theorem ex_4 : parP [91, 49, 44] = .err 3 4 := by kernel_rfl
theorem ex_right : exV.right = true := by kernel_rfl
theorem itoa_5 : Lib.itoa (-5) = [45, 53] := by
  rw [show (-5 : Int) = -((5 : Nat) : Int) from rfl, Lib.itoa_neg 5 (by decide), Lib.decDigits, dif_pos (by decide)]
  rfl
theorem ex_txt : exV.txt = [123, 34, 97, 34, 58, 32, 91, 110, 117, 108, 108, 44, 32, 116, 114, 117, 101, 93, 44, 32, 34, 98, 34, 58, 32, 45, 53, 125] := by
  have h5 : (VT.mk 2 (-5) ⟨#[]⟩ [] []).txt = [45, 53] := by rw [VT.txt_mk, if_neg (by decide), if_pos rfl, itoa_5]
  unfold exV
  rw [VT.txt_mk, if_neg (by decide), if_neg (by decide), if_neg (by decide), if_neg (by decide), if_pos rfl, txts, txts, h5]
  rfl
theorem ex_quo : quoL [97, 10, 7] = [34, 97, 92, 110, 92, 120, 48, 55, 34] := by kernel_rfl
end Go.Proofs.YtlgmhhimbabkjaaGreatDoor
namespace Go.Proofs.YtlgmhhimbabkjaaGreatDoor
open Go.RowKit

/-- the world has what Parse and Print read of strconv -/
structure Std (w : World) : Prop where
  ev : Ev w w.heap.size
  tab : PowTab w.heap.size w
theorem Std.on {w w' : World} (h : Std w) (hb : Below w.heap.size w w') : Std w' := by
  obtain ⟨⟨a, b, h1⟩, ⟨c, d, h2⟩, h3, h4⟩ := h.ev
  have l1 := World.block_lt_of_cell? w _ h1
  have l2 := World.block_lt_of_cell? w _ h2
  have hs := hb.size
  refine ⟨⟨⟨a, b, by rw [hb.cell l1]; exact h1⟩, ⟨c, d, by rw [hb.cell l2]; exact h2⟩, fun e => ?_, fun e => ?_⟩, fun W hW => h.tab W (hb.trans (hW.mono hs))⟩
  · have l1' : 2 < w.heap.size := l1
    omega
  · have l2' : 3 < w.heap.size := l2
    omega
theorem par_1 {w : World} (h : Std w) : Calls Tryz.prog 13 #[.string ⟨#[123, 34, 98, 34, 58, 32, 45, 53, 44, 32, 34, 97, 34, 32, 58, 91, 110, 117, 108, 108, 44, 116, 114, 117, 101, 93, 125]⟩] w (ParR (.ok exV 27) w) := by
  rw [← ex_1]
  exact Parse_any ⟨#[123, 34, 98, 34, 58, 32, 45, 53, 44, 32, 34, 97, 34, 32, 58, 91, 110, 117, 108, 108, 44, 116, 114, 117, 101, 93, 125]⟩ w (by decide) h.ev
theorem par_2 {w : World} (h : Std w) : Calls Tryz.prog 13 #[.string ⟨#[123, 34, 97, 34, 58, 32, 48, 49, 125]⟩] w (ParR (.err 7 3) w) := by
  rw [← ex_2]
  exact Parse_any ⟨#[123, 34, 97, 34, 58, 32, 48, 49, 125]⟩ w (by decide) h.ev
theorem par_3 {w : World} (h : Std w) : Calls Tryz.prog 13 #[.string ⟨#[123, 34, 97, 34, 58, 32, 49, 44, 32, 34, 97, 34, 58, 32, 50, 125]⟩] w (ParR (.err 9 9) w) := by
  rw [← ex_3]
  exact Parse_any ⟨#[123, 34, 97, 34, 58, 32, 49, 44, 32, 34, 97, 34, 58, 32, 50, 125]⟩ w (by decide) h.ev
theorem par_4 {w : World} (h : Std w) : Calls Tryz.prog 13 #[.string ⟨#[91, 49, 44]⟩] w (ParR (.err 3 4) w) := by
  rw [← ex_4]
  exact Parse_any ⟨#[91, 49, 44]⟩ w (by decide) h.ev
theorem prt_1 {v : Value} {w : World} (hv : Lies w (Lo w) exV v) (h : Std w) : Calls Tryz.prog 9 #[v] w fun e w' => e = .returned (.tuple #[.string ⟨#[123, 34, 97, 34, 58, 32, 91, 110, 117, 108, 108, 44, 32, 116, 114, 117, 101, 93, 44, 32, 34, 98, 34, 58, 32, 45, 53, 125]⟩, .int .i64 0]) ∧ Below w.heap.size w w' := by
  refine (Print_any hv (by rw [ex_txt]; decide) h.tab).mono ?_
  rintro e w' ⟨rfl, hb⟩
  rw [if_pos ex_right, ex_txt]
  exact ⟨rfl, hb⟩
theorem quo_1 (w : World) : Calls Tryz.prog 11 #[.string ⟨#[97, 10, 7]⟩] w fun e w' => e = .returned (.string ⟨#[34, 97, 92, 110, 92, 120, 48, 55, 34]⟩) ∧ Below w.heap.size w w' := by
  refine (Quote_any ⟨#[97, 10, 7]⟩ w (by decide)).mono ?_
  rintro e w' ⟨rfl, hb⟩
  exact ⟨congrArg (fun x : List UInt8 => Ending.returned (.string ⟨x.toArray⟩)) ex_quo, hb⟩

set_option maxRecDepth 100000 in
set_option maxHeartbeats 4000000 in
theorem lives_any {w : World} (h : Std w) : Calls Tryz.prog 8 #[] w fun e w' => e = .returned (.bool true) ∧ Below w.heap.size w w' := by
  have S0 := Lib.hid h
  clear h
  go_enter Tryz.func8, Tryz.ntmps8
  go_wp2_with fail
  refine (par_1 S0.out).mono ?_
  rintro _ w1 ⟨hb1, ⟨k, i, t, A, m, c, A', m', c', x, j, rfl, hr, hl⟩ | ⟨j, c, hr, _⟩⟩
  case inr => exact absurd hr.out (by intro e; cases e)
  obtain ⟨rfl, rfl⟩ : exV = x ∧ _ = j := by have := hr.out; injection this with a b; exact ⟨a, b⟩
  clear hr
  go_wp2_with fail
  obtain ⟨w2, hw2⟩ : ∃ w2, w2 = w1.alloc (.cells #[.int .i64 k, .int .i64 i, .string t, .slice A m c, .slice A' m' c'] 25) := ⟨_, rfl⟩
  rw [← hw2]
  have hb12 : Below w1.heap.size w1 w2 := by rw [hw2]; exact below_one _ _
  have B2 : Hid (Below w.heap.size w w2) := Lib.hid (hb1.trans (hb12.mono hb1.size))
  have L2 := Lib.hid ((hl.out.keep (fun p hp => hb12.cell hp.2) (fun b hp => Nat.lt_of_lt_of_le hp.2 hb12.size) : Lies w2 (Lo w2) exV _))
  have HW := Lib.hid hw2
  clear hb1 hl hb12 hw2
  refine (prt_1 L2.out (S0.out.on B2.out)).mono ?_
  rintro _ w3 ⟨rfl, hb3⟩
  have B3 : Hid (Below w.heap.size w w3) := Lib.hid (B2.out.trans (hb3.mono B2.out.size))
  clear hb3
  go_wp2_with fail
  refine (par_2 (S0.out.on B3.out)).mono ?_
  rintro _ w4 ⟨hb4, ⟨k2, i2, t2, A2, m2, c2, A2', m2', c2', x2, j2, _, hr, _⟩ | ⟨j2, c2, hr, rfl⟩⟩
  · exact absurd hr.out (by intro e; cases e)
  obtain ⟨rfl, rfl⟩ : 7 = j2 ∧ (3 : Int) = c2 := by have := hr.out; injection this with a b; exact ⟨a, b⟩
  have B4 : Hid (Below w.heap.size w w4) := Lib.hid (B3.out.trans (hb4.mono B3.out.size))
  clear hb4 hr
  go_wp2_with fail
  refine (par_3 (S0.out.on (Below.alloc B4.out B4.out.size _))).mono ?_
  rintro _ w5 ⟨hb5, ⟨k2, i2, t2, A2, m2, c2, A2', m2', c2', x2, j2, _, hr, _⟩ | ⟨j2, c2, hr, rfl⟩⟩
  · exact absurd hr.out (by intro e; cases e)
  obtain ⟨rfl, rfl⟩ : 9 = j2 ∧ (9 : Int) = c2 := by have := hr.out; injection this with a b; exact ⟨a, b⟩
  have B5 : Hid (Below w.heap.size w w5) := Lib.hid ((Below.alloc B4.out B4.out.size _).trans (hb5.mono (Below.alloc B4.out B4.out.size _).size))
  clear hb5 hr
  go_wp2_with fail
  refine (par_4 (S0.out.on (Below.alloc B5.out B5.out.size _))).mono ?_
  rintro _ w6 ⟨hb6, ⟨k2, i2, t2, A2, m2, c2, A2', m2', c2', x2, j2, _, hr, _⟩ | ⟨j2, c2, hr, rfl⟩⟩
  · exact absurd hr.out (by intro e; cases e)
  obtain ⟨rfl, rfl⟩ : 3 = j2 ∧ (4 : Int) = c2 := by have := hr.out; injection this with a b; exact ⟨a, b⟩
  have B6 : Hid (Below w.heap.size w w6) := Lib.hid ((Below.alloc B5.out B5.out.size _).trans (hb6.mono (Below.alloc B5.out B5.out.size _).size))
  clear hb6 hr
  go_wp2_with fail
  refine (quo_1 _).mono ?_
  rintro _ w7 ⟨rfl, hb7⟩
  have B7 : Hid (Below w.heap.size w w7) := Lib.hid ((Below.alloc B6.out B6.out.size _).trans (hb7.mono (Below.alloc B6.out B6.out.size _).size))
  clear hb7
  go_wp2
  go_ret
  exact ⟨rfl, B7.out⟩
end Go.Proofs.YtlgmhhimbabkjaaGreatDoor
namespace Go.Proofs.YtlgmhhimbabkjaaGreatDoor
open Go.RowKit

theorem at_mid {α : Type} (pre e post : List α) (k : Nat) (h : k < e.length) : (pre ++ (e ++ post))[pre.length + k]? = e[k]? := by
  rw [List.getElem?_append_right (by omega), show pre.length + k - pre.length = k by omega, List.getElem?_append_left h]

theorem hx_all : ((List.range 16).all fun n => hxd (hxc n) && (hxv (hxc n) == n)) = true := by decide +kernel
theorem hxc_ok {n : Nat} (h : n < 16) : hxd (hxc n) = true ∧ hxv (hxc n) = n := by
  have := List.all_eq_true.1 hx_all n (List.mem_range.2 h)
  rw [Bool.and_eq_true, beq_iff_eq] at this
  exact this

theorem chr_esc (c : UInt8) (pre post : List UInt8) : chrP (pre ++ (escB c ++ post)) pre.length = .ok c (pre.length + (escB c).length) := by
  by_cases h1 : c = 34 ∨ c = 92
  · have HE : escB c = [92, c] := by unfold escB; rw [if_pos h1]
    rw [HE]
    unfold chrP
    rw [tkP_ok (c := 92) (by simp) (by decide)]
    show (if (92 : UInt8) = 92 then escP _ (pre.length + 1) else PR.ok 92 (pre.length + 1)) = _
    rw [if_pos rfl]
    unfold escP
    rw [tkP_ok (c := c) (by simp) (by rcases h1 with rfl | rfl <;> decide)]
    rcases h1 with rfl | rfl <;> rfl
  · by_cases h10 : c = 10
    · subst h10
      show chrP (pre ++ ([92, 110] ++ post)) pre.length = _
      unfold chrP
      rw [tkP_ok (c := 92) (by simp) (by decide)]
      show (if (92 : UInt8) = 92 then escP _ (pre.length + 1) else PR.ok 92 (pre.length + 1)) = _
      rw [if_pos rfl]
      unfold escP
      rw [tkP_ok (c := 110) (by simp) (by decide)]
      rfl
    · by_cases h9 : c = 9
      · subst h9
        show chrP (pre ++ ([92, 116] ++ post)) pre.length = _
        unfold chrP
        rw [tkP_ok (c := 92) (by simp) (by decide)]
        show (if (92 : UInt8) = 92 then escP _ (pre.length + 1) else PR.ok 92 (pre.length + 1)) = _
        rw [if_pos rfl]
        unfold escP
        rw [tkP_ok (c := 116) (by simp) (by decide)]
        rfl
      · cases hp : pln c with
        | true =>
          have HE : escB c = [c] := by unfold escB; rw [if_neg h1, if_neg h10, if_neg h9, hp]; rfl
          rw [HE]
          unfold chrP
          rw [tkP_ok (c := c) (by simp) hp]
          show (if c = 92 then escP _ (pre.length + 1) else _) = _
          rw [if_neg (fun e => h1 (.inr e))]
          rfl
        | false =>
          have HE : escB c = [92, 120, hxc (c.toNat / 16), hxc (c.toNat % 16)] := by unfold escB; rw [if_neg h1, if_neg h10, if_neg h9, hp]; rfl
          have hc : c.toNat < 256 := c.toNat_lt
          obtain ⟨d1, v1⟩ := hxc_ok (n := c.toNat / 16) (by omega)
          obtain ⟨d2, v2⟩ := hxc_ok (n := c.toNat % 16) (by omega)
          rw [HE]
          generalize hxc (c.toNat / 16) = x at *
          generalize hxc (c.toNat % 16) = y at *
          unfold chrP
          rw [tkP_ok (c := 92) (by simp) (by decide)]
          show (if (92 : UInt8) = 92 then escP _ (pre.length + 1) else PR.ok 92 (pre.length + 1)) = _
          rw [if_pos rfl]
          unfold escP
          rw [tkP_ok (c := 120) (by simp) (by decide)]
          rw [PR.bind_ok, if_neg (by decide), if_neg (by decide), if_pos rfl, tkP_ok (c := x) (at_mid pre [92, 120, x, y] post 2 (by simp)) d1, PR.bind_ok, tkP_ok (c := y) (at_mid pre [92, 120, x, y] post 3 (by simp)) d2, PR.bind_ok, v1, v2, show 16 * (c.toNat / 16) + c.toNat % 16 = c.toNat by omega, UInt8.ofNat_toNat]
          rfl
theorem escB_head (c : UInt8) : ∃ d r, escB c = d :: r ∧ d ≠ 34 := by
  unfold escB
  split
  · exact ⟨92, _, rfl, by decide⟩
  · rename_i h
    split
    · exact ⟨92, _, rfl, by decide⟩
    · split
      · exact ⟨92, _, rfl, by decide⟩
      · split
        · exact ⟨92, _, rfl, by decide⟩
        · exact ⟨c, _, rfl, fun e => h (.inl e)⟩
theorem litL_quo (a : Nat) (post : List UInt8) : ∀ (r pre o : List UInt8) (f : Nat), r.length < f →
    litL (pre ++ (r.flatMap escB ++ 34 :: post)) a f pre.length o = if (o ++ r).length ≤ 4096 then .ok (o ++ r) (pre.length + (r.flatMap escB).length + 1) else .err a 6
  | [], pre, o, f, hf => by
    obtain ⟨g, rfl⟩ : ∃ g, f = g + 1 := ⟨f - 1, by simp at hf; omega⟩
    rw [List.flatMap_nil, List.nil_append, litL_quote (by simp), List.append_nil]
    rfl
  | c :: r, pre, o, f, hf => by
    obtain ⟨g, rfl⟩ : ∃ g, f = g + 1 := ⟨f - 1, by simp at hf; omega⟩
    obtain ⟨d, q, hd, hq⟩ := escB_head c
    have a0 : (pre ++ ((c :: r).flatMap escB ++ 34 :: post))[pre.length]? = some d := by
      rw [List.flatMap_cons, List.append_assoc, hd]
      simp
    have hk := chr_esc c pre (r.flatMap escB ++ 34 :: post)
    rw [litL_char a0 hq, List.flatMap_cons, List.append_assoc, hk]
    have ih := litL_quo a post r (pre ++ escB c) (o ++ [c]) g (by simp at hf; omega)
    rw [List.length_append, List.append_assoc] at ih
    show litL _ a g (pre.length + (escB c).length) (o ++ [c]) = _
    rw [ih, List.append_assoc]
    simp only [List.singleton_append, List.length_append]
    rw [← Nat.add_assoc]
theorem parP_quo (r : List UInt8) : parP (32 :: quoL r) = if r.length ≤ 4096 then .ok (.mk 3 0 ⟨r.toArray⟩ [] []) (quoL r).length.succ else .err 1 6 := by
  have hL : (32 :: quoL r) = [32, 34] ++ (r.flatMap escB ++ 34 :: []) := rfl
  have hlen : (32 :: quoL r).length = 2 + (r.flatMap escB).length + 1 := by rw [hL]; simp; omega
  have hsk : skip (32 :: quoL r) 0 = 1 := by
    unfold skip
    rw [run_on (c := 32) (by rfl) (by decide), run_off (c := 34) (by rfl) (by decide)]
  have hr : r.length ≤ (r.flatMap escB).length := by
    have h1 := quoL_len r
    have h2 : (quoL r).length = (r.flatMap escB).length + 2 := by unfold quoL; simp
    omega
  have hq := litL_quo 1 [] r [32, 34] [] ((32 :: quoL r).length + 1) (by omega)
  rw [← hL, List.nil_append] at hq
  unfold parP
  rw [valP, hsk, tkP_ok (c := 34) (by rfl) (by decide)]
  show (if 1000 ≤ 0 then (PR.err 1 6 : PR (VT × Nat)) else bodP (valP (32 :: quoL r) 15) (32 :: quoL r) 34 2 1).bind _ = _
  rw [if_neg (by omega)]
  unfold bodP
  rw [if_neg (by decide), if_neg (by decide), if_neg (by decide), if_pos rfl]
  unfold litP
  show (((litL _ 1 _ 2 []).bind _).bind _).bind _ = _
  have hq' : litL (32 :: quoL r) 1 ((32 :: quoL r).length + 1) 2 [] = if r.length ≤ 4096 then .ok r (32 :: quoL r).length else .err 1 6 := hq.trans (by rw [hlen]; rfl)
  rw [hq']
  by_cases hb : r.length ≤ 4096
  · rw [if_pos hb, if_pos hb]
    show (if skip (32 :: quoL r) (32 :: quoL r).length = (32 :: quoL r).length then _ else _) = _
    have he : skip (32 :: quoL r) (32 :: quoL r).length = (32 :: quoL r).length := run_end (Nat.le_refl _)
    rw [if_pos he, he]
    rfl
  · rw [if_neg hb, if_neg hb]
    rfl
end Go.Proofs.YtlgmhhimbabkjaaGreatDoor
