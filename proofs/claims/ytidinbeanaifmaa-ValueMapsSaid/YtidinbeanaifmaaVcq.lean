/-
  Copy of the reference: an equal value in new blocks.
-/
import Derived.Test.YtidinbeanaifmaaVco
import Derived.Deep.AppendLies
import Derived.Deep.RegionLaw
namespace Go.Proofs.Ytidinbeanaifmaa
open Go.RowKit

/-- append of strings that may be nil onto an owned row of strings -/
theorem run_append_strs {P : Program} (w : World) (base t ty e : Nat) (i : TypeInfo) (z : Value) (ht : P.underlying t = some (.slice e)) (hi : P.info? e = some i) (hz : i.zero = some z)
    (hsize : i.size = 1) (hby : i.bytes = 16) (hzs : z.cells.size = 1)
    (v : Value) (n : Nat) (xs : List Value) (hown : w.ownsRow base e 1 v n xs)
    (R : Nat → Prop) (A : Option Addr) (c : Nat) (l : List ByteArray) (hr : LiesS w R A l)
    (hbytes : (n + l.length) * 16 ≤ 140737488355328) (hbase : base ≤ w.heap.size) :
    ∃ v' w', (Builtin.append_ #[t, t] ty #[v, .slice A l.length c]).run P w = .ok v' w' ∧ w'.ownsRow base e 1 v' (n + l.length) (xs ++ l.map Value.string) ∧ w.grownBy w' v.ownBlock := by
  cases A with
  | none =>
    have hl : l = [] := by
      cases l with
      | nil => rfl
      | cons s r => obtain ⟨_, g, o, e, _⟩ := hr 0 s rfl; cases e
    subst hl
    refine ⟨v, w, ?_, by simpa using hown, World.grownBy.refl w _⟩
    rcases hown.2 with ⟨rfl, rfl⟩ | ⟨g, cap, cur, rfl, _, _, hnc, _⟩
    · simp [Builtin.append_, run_underlying ht, sizeOf, typeInfo, hi, Builtin.lenOf, Builtin.firstCells]
    · simp [Builtin.append_, run_underlying ht, sizeOf, typeInfo, hi, Builtin.lenOf, Builtin.firstCells, hnc, storeCells]
  | some ad =>
    obtain ⟨v', w', h1, h2, h3, _⟩ := run_append_own (P := P) w base t ty e i z 1 16 ht hi hz hsize hby hzs (by decide) v n xs hown ad l.length c (l.map Value.string) (by simp)
      (fun j u hj => by
        rw [List.getElem?_map] at hj
        cases hk : l[j]? with
        | none => rw [hk] at hj; cases hj
        | some s =>
          rw [hk] at hj
          simp at hj
          subst hj
          obtain ⟨_, g, o, e, hg, hc⟩ := hr j s hk
          injection e with e
          subst e
          rw [Addr.add_lit]
          exact hc) (by intro u hu; obtain ⟨s, _, rfl⟩ := List.mem_map.1 hu; rfl) (by unfold maxLen; omega) hbytes hbase
    exact ⟨v', w', h1, h2, h3⟩
theorem wpList_append_strs {P : Program} {w : World} {ops : Array Oper} {rest : List Oper} {o : Oper} {a : Act} {Q : Exit → Act → World → Prop} (hgd : o.guard = none) (s x : Operand) (t : TypeId)
    (ho : o.op = .call { callee := .builtin .append, args := #[s, x], argTypes := #[t, t] })
    (base e : Nat) (i : TypeInfo) (z : Value) (ht : P.underlying t = some (.slice e)) (hi : P.info? e = some i) (hz : i.zero = some z)
    (hsize : i.size = 1) (hby : i.bytes = 16) (hzs : z.cells.size = 1)
    (v : Value) (n : Nat) (xs : List Value) (hs : a.eval s = v) (hown : w.ownsRow base e 1 v n xs)
    (R : Nat → Prop) (A : Option Addr) (c : Nat) (l : List ByteArray) (hx : a.eval x = .slice A l.length c) (hr : LiesS w R A l)
    (hbytes : (n + l.length) * 16 ≤ 140737488355328) (hbase : base ≤ w.heap.size)
    (h : ∀ v' w', w'.ownsRow base e 1 v' (n + l.length) (xs ++ l.map Value.string) → w.grownBy w' v.ownBlock → wpList P ops Q rest (a.put o.dst v') w') : wpList P ops Q (o :: rest) a w := by
  refine wpList_plain hgd fun K hK => ?_
  obtain ⟨v', w', hrun, h2, h3⟩ := run_append_strs (P := P) w base t o.type e i z ht hi hz hsize hby hzs v n xs hown R A c l hr hbytes hbase
  unfold Oper.wp execOp
  simp only [ho, resolve, invoke, builtin, Sem.run_bind, Sem.run_pure, Result.andThen_ok, List.map_toArray, List.map_cons, List.map_nil, hs, hx, hrun]
  exact hK _ _ (h v' w' h2 h3)

theorem Lies.formV {w : World} {R : Nat → Prop} {x : VT} {v : Value} (h : Lies w R x v) : ∃ k i t A n c A' n' c', v = .agg #[.int .i64 k, .int .i64 i, .string t, .slice A n c, .slice A' n' c'] := by
  obtain ⟨k, i, t, its, ks⟩ := x
  obtain ⟨A, c, A', c', rfl, _⟩ := h.open
  exact ⟨k, i, t, A, its.length, c, A', ks.length, c', rfl⟩
/-- an equal value, all of it in new blocks -/
def Fresh (x : VT) (w : World) (e : Ending) (w' : World) : Prop := ∃ v, e = .returned v ∧ Lies w' (fun b => w.heap.size ≤ b ∧ b < w'.heap.size) x v ∧ Below w.heap.size w w'
section
variable {w : World} {R : Nat → Prop}
theorem LiesC.ownR {base c n : Nat} {A : Option Addr} {l : List VT} {cs : List Value} (h : LiesC w R l cs) (hR : ∀ g, base ≤ g → g < w.heap.size → R g) (hn : n = l.length) (ho : w.ownsRow base 26 5 (.slice A n c) n cs) : LiesL w R A 0 l := by
  subst hn
  rcases ho.2 with ⟨_, h0⟩ | ⟨g, cap, cur, hv, hb, hg, _⟩
  · rw [List.eq_nil_of_length_eq_zero h0]; exact LiesL.none_
  · have hA : A = some ⟨g, 0, none⟩ := by injection hv
    subst hA
    refine LiesC.row (hR g hb (Array.getElem?_eq_some_iff.1 hg).1) h (fun j u hj => ?_)
    have := ho.cells (g := g) rfl j u hj
    simpa [Addr.add_lit] using this
theorem strs_ownR {base c n : Nat} {A : Option Addr} {l : List ByteArray} (hs : ∀ s ∈ l, s.size ≤ 9223372036854775807) (hR : ∀ g, base ≤ g → g < w.heap.size → R g) (hn : n = l.length) (ho : w.ownsRow base 9 1 (.slice A n c) n (l.map Value.string)) : LiesS w R A l := by
  subst hn
  intro j s hj
  refine ⟨hs s (List.mem_of_getElem? hj), ?_⟩
  rcases ho.2 with ⟨_, h0⟩ | ⟨g, cap, cur, hv, hb, hg, _⟩
  · rw [List.eq_nil_of_length_eq_zero h0] at hj; simp at hj
  · have hA : A = some ⟨g, 0, none⟩ := by injection hv
    subst hA
    refine ⟨g, 0, rfl, hR g hb (Array.getElem?_eq_some_iff.1 hg).1, ?_⟩
    have := ho.cells (g := g) rfl j (.string s) (by rw [List.getElem?_map, hj]; rfl)
    simpa [Addr.add_lit] using this
end
/-- blocks from B on that are not the row's -/
def Off (B : Nat) (w : World) (v : Value) : Nat → Prop := fun b => B ≤ b ∧ b < w.heap.size ∧ v.ownBlock ≠ some b

set_option maxRecDepth 100000 in
set_option maxHeartbeats 4000000 in
theorem refCopy_all (m : Nat) : ∀ (x : VT) (w : World) (v : Value), x.size ≤ m → x.all reachF = true → Lies w (Lo w) x v → Calls Try.prog 27 #[v] w (Fresh x w) := by
  induction m with
  | zero => intro x _ _ h; have := size_pos x; omega
  | succ m ih =>
    intro x w v hsz hre hv
    obtain ⟨i1, hi1, hz1, hs1, hb1⟩ := info_parts Try.infoS
    obtain ⟨i2, hi2, hz2, hs2, hb2⟩ := info_parts Try.infoV
    have IH := Lib.hid ih
    clear ih
    obtain ⟨k, i, t, its, ks⟩ := x
    obtain ⟨A, c, A', c', rfl, hki, hii, htm, hlc, hcm, hL, hkc, hcm', hS⟩ := hv.open
    rw [VT.size_mk] at hsz
    obtain ⟨r1, r2, r3⟩ := reach_mk hre
    have HK0 := Lib.hid (And.intro hki (And.intro hii htm))
    have HRE := Lib.hid r3
    have R1 := Lib.hid r1
    have HL := Lib.hid hL
    have SS0 := Lib.hid hS.sizes
    have I2 := Lib.hid (And.intro hi2 (And.intro hz2 (And.intro hs2 hb2)))
    have NIL : Hid (∀ (W : World) (b : Nat) (e : TypeId) (s : Nat), W.ownsRow b e s (.slice none 0 0) 0 []) := Lib.hid (fun W b e s => ⟨by simp, Or.inl ⟨rfl, rfl⟩⟩)
    have B3 : Hid (Below w.heap.size w (((w.alloc (.cells #[.int .i64 k, .int .i64 i, .string t, .slice A its.length c, .slice A' ks.length c'] 26)).alloc (.cells #[.int .i64 0, .int .i64 0, .string ⟨#[]⟩, .slice none 0 0, .slice none 0 0] 26)).alloc (.cells #[.int .i64 k, .int .i64 i, .string t, .slice none 0 0, .slice none 0 0] 26))) := Lib.hid (((below_one _ _).trans (Below.alloc (Below.refl _ _) (by simp) _)).trans (Below.alloc (Below.refl _ _) (by simp; omega) _))
    have P3 : Hid (Bk (((w.alloc (.cells #[.int .i64 k, .int .i64 i, .string t, .slice A its.length c, .slice A' ks.length c'] 26)).alloc (.cells #[.int .i64 0, .int .i64 0, .string ⟨#[]⟩, .slice none 0 0, .slice none 0 0] 26)).alloc (.cells #[.int .i64 k, .int .i64 i, .string t, .slice none 0 0, .slice none 0 0] 26)) w.heap.size 26 #[.int .i64 k, .int .i64 i, .string t, .slice A its.length c, .slice A' ks.length c']) := Lib.hid (((Bk.new _ _ _).alloc _).alloc _)
    have Q3 : Hid (Bk (((w.alloc (.cells #[.int .i64 k, .int .i64 i, .string t, .slice A its.length c, .slice A' ks.length c'] 26)).alloc (.cells #[.int .i64 0, .int .i64 0, .string ⟨#[]⟩, .slice none 0 0, .slice none 0 0] 26)).alloc (.cells #[.int .i64 k, .int .i64 i, .string t, .slice none 0 0, .slice none 0 0] 26)) (w.heap.size + 1) 26 #[.int .i64 0, .int .i64 0, .string ⟨#[]⟩, .slice none 0 0, .slice none 0 0]) := Lib.hid (Bk.alloc (by have := Bk.new (w.alloc (.cells #[.int .i64 k, .int .i64 i, .string t, .slice A its.length c, .slice A' ks.length c'] 26)) 26 #[.int .i64 0, .int .i64 0, .string ⟨#[]⟩, .slice none 0 0, .slice none 0 0]; simpa using this) _)
    have U3 : Hid (Bk (((w.alloc (.cells #[.int .i64 k, .int .i64 i, .string t, .slice A its.length c, .slice A' ks.length c'] 26)).alloc (.cells #[.int .i64 0, .int .i64 0, .string ⟨#[]⟩, .slice none 0 0, .slice none 0 0] 26)).alloc (.cells #[.int .i64 k, .int .i64 i, .string t, .slice none 0 0, .slice none 0 0] 26)) (w.heap.size + 1 + 1) 26 #[.int .i64 k, .int .i64 i, .string t, .slice none 0 0, .slice none 0 0]) := Lib.hid (by have := Bk.new ((w.alloc (.cells #[.int .i64 k, .int .i64 i, .string t, .slice A its.length c, .slice A' ks.length c'] 26)).alloc (.cells #[.int .i64 0, .int .i64 0, .string ⟨#[]⟩, .slice none 0 0, .slice none 0 0] 26)) 26 #[.int .i64 k, .int .i64 i, .string t, .slice none 0 0, .slice none 0 0]; simpa using this)
    have N3 : Hid ((((w.alloc (.cells #[.int .i64 k, .int .i64 i, .string t, .slice A its.length c, .slice A' ks.length c'] 26)).alloc (.cells #[.int .i64 0, .int .i64 0, .string ⟨#[]⟩, .slice none 0 0, .slice none 0 0] 26)).alloc (.cells #[.int .i64 k, .int .i64 i, .string t, .slice none 0 0, .slice none 0 0] 26)).heap.size = w.heap.size + 3) := Lib.hid (by simp)
    have S3 := Lib.hid (hS.below B3.out)
    have R2 := Lib.hid r2
    clear hv hL hS hre r1 r2 r3 hki hii htm hi2 hz2 hs2 hb2
    unfold vag
    go_enter Try.func27, Try.ntmps27
    go_wp2_with (at_builtin; refine wpList_append_strs rfl _ _ 22 rfl (w.heap.size + 3) 9 i1 (.string ByteArray.empty) Try.underlying22 hi1 hz1 hs1 hb1 rfl _ 0 [] rfl (NIL.out _ _ _ _) _ A' c' ks rfl S3.out (by have := R2.out; omega) (by have := N3.out; omega) ?_)
    intro v4 w4 hown hg
    obtain ⟨Ak, ck, rfl, hkk, hkm⟩ := own_formN hown
    have b4 : Below (w.heap.size + 3) (((w.alloc (.cells #[.int .i64 k, .int .i64 i, .string t, .slice A its.length c, .slice A' ks.length c'] 26)).alloc (.cells #[.int .i64 0, .int .i64 0, .string ⟨#[]⟩, .slice none 0 0, .slice none 0 0] 26)).alloc (.cells #[.int .i64 k, .int .i64 i, .string t, .slice none 0 0, .slice none 0 0] 26)) w4 := (Below.refl _ _).grown hg (by have := N3.out; omega) (fun k hk => by simp [Value.ownBlock] at hk)
    have P4 := Lib.hid (P3.out.below b4 (by omega))
    have Q4 := Lib.hid (Q3.out.below b4 (by omega))
    have U4 := Lib.hid (U3.out.below b4 (by omega))
    have B4 : Hid (Below w.heap.size w w4) := Lib.hid (B3.out.trans (b4.mono (by omega)))
    have N4 : Hid (w.heap.size + 3 ≤ w4.heap.size) := Lib.hid (by have := b4.size; have := N3.out; omega)
    have OK4 := Lib.hid hown
    have KL := Lib.hid (And.intro hkk hkm)
    have u4 := U4.out.cell 4
    have f4 := U4.out.frozen 4
    change _ = some (Value.slice none 0 0) at u4
    clear hown hg b4 B3 P3 Q3 U3 N3 S3 hi1 hz1 hs1 hb1 hkk hkm
    go_wp2_with fail
    obtain ⟨w5, hw5⟩ : ∃ w5, w5 = w4.setCell ⟨w.heap.size + 1 + 1, 4, none⟩ (.slice Ak ks.length ck) := ⟨_, rfl⟩
    have P5 : Hid (Bk w5 w.heap.size 26 #[.int .i64 k, .int .i64 i, .string t, .slice A its.length c, .slice A' ks.length c']) := Lib.hid (by rw [hw5]; exact P4.out.far (by show w.heap.size ≠ w.heap.size + 1 + 1; omega) _)
    have Q5 : Hid (Bk w5 (w.heap.size + 1) 26 #[.int .i64 0, .int .i64 0, .string ⟨#[]⟩, .slice none 0 0, .slice none 0 0]) := Lib.hid (by rw [hw5]; exact Q4.out.far (by show w.heap.size + 1 ≠ w.heap.size + 1 + 1; omega) _)
    have U5 : Hid (Bk w5 (w.heap.size + 1 + 1) 26 #[.int .i64 k, .int .i64 i, .string t, .slice none 0 0, .slice Ak ks.length ck]) := Lib.hid (by rw [hw5]; exact U4.out.put 4 _)
    have Z5 : Hid (w5.heap.size = w4.heap.size) := Lib.hid (by rw [hw5]; simp [World.setCell])
    have B5 : Hid (Below w.heap.size w w5) := Lib.hid (by rw [hw5]; exact B4.out.setCell (p := ⟨w.heap.size + 1 + 1, 4, none⟩) (by show w.heap.size ≤ w.heap.size + 1 + 1; omega) _)
    have OK5 : Hid (w5.ownsRow (w.heap.size + 3) 9 1 (.slice Ak ks.length ck) ks.length (ks.map Value.string)) := Lib.hid (by
      rw [hw5]; exact own_same OK4.out (fun b h1 _ => Below.heap_setCell _ _ _ _ (by show b ≠ w.heap.size + 1 + 1; omega)))
    have N5 : Hid (w.heap.size + 3 ≤ w5.heap.size) := Lib.hid (by have := Z5.out; have := N4.out; omega)
    rw [← hw5]
    have HW5 := Lib.hid hw5
    clear hw5 u4 f4 P4 Q4 U4 B4 N4 OK4
    go_loopw [4] (fun s wr => ∃ (j : Nat) (Ai : Option Addr) (ci : Nat) (cs : List Value), j ≤ its.length ∧ s = .int .i64 j ∧ Hid (wr.ownsRow w5.heap.size 26 5 (.slice Ai j ci) j cs) ∧
      Hid (LiesC wr (Off w5.heap.size wr (.slice Ai j ci)) (its.take j) cs) ∧ Hid (Bk wr (w.heap.size + 1 + 1) 26 #[.int .i64 k, .int .i64 i, .string t, .slice Ai j ci, .slice Ak ks.length ck]) ∧
      Hid (w5.grownBy wr (some (w.heap.size + 1 + 1)))) (fun s _ => its.length - (intOf s).toNat)
    case atStart => exact ⟨0, none, 0, [], by omega, rfl, Lib.hid (NIL.out _ _ _ _), Lib.hid (by rw [List.take_zero]; exact rfl), U5, Lib.hid (World.grownBy.refl _ _)⟩
    case round =>
      obtain ⟨j, Ai, ci, cs, hjn, rfl, HO, HC, HU, HG⟩ := hrel
      have PR := Lib.hid (P5.out.grown HG.out (by intro e; injection e with e; omega))
      have BW : Hid (Below w.heap.size w wr) := Lib.hid (B5.out.grown HG.out (by have := N5.out; omega) (fun k hk => by injection hk with hk; omega))
      have a3 := PR.out.cell 3
      change _ = some (Value.slice A its.length c) at a3
      have NW : Hid (∀ b, (Value.slice Ai j ci).ownBlock = some b → w5.heap.size ≤ b ∧ b < wr.heap.size) := Lib.hid (HO.out.lt)
      by_cases hlt : j < its.length
      · have h1 := List.getElem?_eq_getElem (l := its) (i := j) hlt
        have hre := all_at HRE.out h1
        have hle := size_at h1
        obtain ⟨g, o, k', i', t', E, n1, c1, E', n2, c2, rfl, hg, e0, e1, e2, e3, e4, hx⟩ := (HL.out).at_ h1
        have htk : its.take (j + 1) = its.take j ++ [its[j]'hlt] := by rw [List.take_add_one, h1]; rfl
        generalize its[j]'hlt = x at *
        have cc := fun (q : Nat) => BW.out.cell (p := ⟨g, q, none⟩) hg
        rw [Nat.zero_add] at e0 e1 e2 e3 e4
        rw [← cc] at e0 e1 e2 e3 e4
        have u3 := HU.out.cell 3
        have uf := HU.out.frozen 3
        change _ = some (Value.slice Ai j ci) at u3
        have kA := And.intro a3 (And.intro e0 (And.intro e1 (And.intro e2 (And.intro e3 e4))))
        have hgl : g < w.heap.size := hg
        have MV : Hid (∀ W' : World, (∀ b q, b ≤ w.heap.size → W'.cell? ⟨b, q, none⟩ = wr.cell? ⟨b, q, none⟩) → W'.cell? ⟨w.heap.size, 3, none⟩ = some (.slice (some ⟨g, o, none⟩) its.length c) ∧ W'.cell? ⟨g, o + j * 5, none⟩ = some (.int .i64 k') ∧ W'.cell? ⟨g, o + j * 5 + 1, none⟩ = some (.int .i64 i') ∧ W'.cell? ⟨g, o + j * 5 + 2, none⟩ = some (.string t') ∧ W'.cell? ⟨g, o + j * 5 + 3, none⟩ = some (.slice E n1 c1) ∧ W'.cell? ⟨g, o + j * 5 + 4, none⟩ = some (.slice E' n2 c2)) := Lib.hid (fun W' h => by
          rw [h _ _ (Nat.le_refl _), h _ _ (Nat.le_of_lt hgl), h _ _ (Nat.le_of_lt hgl), h _ _ (Nat.le_of_lt hgl), h _ _ (Nat.le_of_lt hgl), h _ _ (Nat.le_of_lt hgl)]
          exact kA)
        have HCW : Hid (∀ W, Below wr.heap.size wr W → Calls Try.prog 27 #[.agg #[.int .i64 k', .int .i64 i', .string t', .slice E n1 c1, .slice E' n2 c2]] W (Fresh x W)) := Lib.hid (fun W hb => IH.out x W _ (by omega) hre (hx.below (BW.out.trans (hb.mono BW.out.size))))
        have HTK := Lib.hid htk
        have HJN := Lib.hid hlt
        have PA := Lib.hid (And.intro PR.out.lt HU.out.lt)
        have LIM : Hid ((j + 1) * 80 ≤ 140737488355328) := Lib.hid (by have := R1.out; omega)
        have HN := Lib.hid (And.intro N5.out HG.out.size)
        have NOB : Hid (∀ b, b < w5.heap.size → (Value.slice Ai j ci).ownBlock ≠ some b) := Lib.hid (fun b hb e => by have := (NW.out b e).1; omega)
        have PA2 := Lib.hid (And.intro (show w.heap.size < w5.heap.size by have := N5.out; omega) (And.intro (show w.heap.size + 1 + 1 < w5.heap.size by have := N5.out; omega) (show g < w5.heap.size by have := N5.out; omega)))
        have FRB : Hid (∀ W, Below wr.heap.size wr W → W.frozen? ⟨w.heap.size + 1 + 1, 3, none⟩ = false) := Lib.hid (fun W hb => (HU.out.below hb HU.out.lt).frozen 3)
        clear cc hx htk hre h1 e0 e1 e2 e3 e4 hlt
        go_wp2_with fail
        have r0 := kA.1
        have r1 := kA.2.1
        have r2 := kA.2.2.1
        have r3 := kA.2.2.2.1
        have r4 := kA.2.2.2.2.1
        have r5 := kA.2.2.2.2.2
        clear kA
        go_region_law (first
            | (refine step_append_lies _ (by rfl) _ _ _ (by rfl) w5.heap.size 26 i2 _ 5 80 Try.underlying23 I2.out.1 I2.out.2.1 I2.out.2.2.1 I2.out.2.2.2 rfl (by omega) (.slice Ai j ci) j cs (by rfl) (by first | exact HOB.out.alloc _ | exact (HOB.out.alloc _).drew | exact HOB.out.drew.alloc _) ⟨wB.heap.size, 0, none⟩ 1 1 [.int .i64 k2, .int .i64 i2', .string t2, .slice D n3 c3, .slice D' n4 c4] (by rfl) (by rfl) (World.news_of_block (cs := #[.int .i64 k2, .int .i64 i2', .string t2, .slice D n3 c3, .slice D' n4 c4]) (t := 26) (fr := (0, 0)) (heap_alloc_new wB _)) (by simp [Value.oneCell']) (by omega) (by have := LIM.out; unfold maxLen; omega) LIM.out (by have := HB2.out.size; have := HN.out.2; simp; omega) (wB.heap.size + 1) (by simp) ?_; intro g2 cap w1 hown1 hgrow hat hlt; have HGW : Hid (wB.grownBy w1 (Value.slice Ai j ci).ownBlock) := Lib.hid (by first | exact grownBy_trans (World.grownBy_alloc wB _ _) hgrow | exact grownBy_trans ⟨rfl, rfl, rfl, by simp, fun b hb _ => Below.heap_alloc wB _ b hb⟩ hgrow); have MC : Hid (∀ b q, b ≤ w.heap.size → w1.cell? ⟨b, q, none⟩ = wr.cell? ⟨b, q, none⟩) := Lib.hid (fun b q hb => (HGW.out.cell_far ⟨b, q, none⟩ (Nat.lt_of_le_of_lt hb (Nat.lt_of_lt_of_le PA.out.1 HB2.out.size)) (Ne.symm (NOB.out _ (Nat.lt_of_le_of_lt hb PA2.out.1)))).trans (MB.out b q hb)); have kC := MV.out w1 MC.out; obtain ⟨d0, d1, d2, d3, d4, d5⟩ := kC; have KD : Hid (∀ u, (w1.setCell ⟨w.heap.size + 1 + 1, 3, none⟩ u).cell? ⟨w.heap.size, 3, none⟩ = some (.slice (some ⟨g, o, none⟩) its.length c) ∧ (w1.setCell ⟨w.heap.size + 1 + 1, 3, none⟩ u).cell? ⟨g, o + j * 5, none⟩ = some (.int .i64 k') ∧ (w1.setCell ⟨w.heap.size + 1 + 1, 3, none⟩ u).cell? ⟨g, o + j * 5 + 1, none⟩ = some (.int .i64 i') ∧ (w1.setCell ⟨w.heap.size + 1 + 1, 3, none⟩ u).cell? ⟨g, o + j * 5 + 2, none⟩ = some (.string t') ∧ (w1.setCell ⟨w.heap.size + 1 + 1, 3, none⟩ u).cell? ⟨g, o + j * 5 + 3, none⟩ = some (.slice E n1 c1) ∧ (w1.setCell ⟨w.heap.size + 1 + 1, 3, none⟩ u).cell? ⟨g, o + j * 5 + 4, none⟩ = some (.slice E' n2 c2)) := Lib.hid (fun u => MV.out _ (fun b q hb => (World.cell?_of_block (Below.heap_setCell _ _ _ _ (show b ≠ w.heap.size + 1 + 1 by omega))).trans (MC.out b q hb))); have f3 : w1.frozen? ⟨w.heap.size + 1 + 1, 3, none⟩ = false := (HGW.out.frozen_far ⟨w.heap.size + 1 + 1, 3, none⟩ uzB (Ne.symm (NOB.out _ PA2.out.2.1))).trans (FRB.out _ HB2.out); have u31 := (HGW.out.cell_far ⟨w.heap.size + 1 + 1, 3, none⟩ uzB (Ne.symm (NOB.out _ PA2.out.2.1))).trans u3B)
            | (go_simp; go_at_call 27; refine (HCW.out _ (by first | exact Below.refl _ _ | exact (Below.refl _ _).drew)).mono ?_; rintro _ wB ⟨vx, rfl, hox, hbx⟩; obtain ⟨k2, i2', t2, D, n3, c3, D', n4, c4, rfl⟩ := hox.formV; have HOX := Lib.hid hox; clear hox; have HB2 : Hid (Below wr.heap.size wr wB) := Lib.hid ⟨hbx.os, hbx.tape, hbx.output, hbx.size, hbx.block⟩; have HOB := Lib.hid (own_same (lo := w5.heap.size) HO.out (same_of_below HB2.out (Nat.le_refl _))); have MB : Hid (∀ b q, b ≤ w.heap.size → wB.cell? ⟨b, q, none⟩ = wr.cell? ⟨b, q, none⟩) := Lib.hid (fun b q hb => HB2.out.cell (p := ⟨b, q, none⟩) (Nat.lt_of_le_of_lt hb PA.out.1)); have kB := MV.out wB MB.out; have u3B := (HB2.out.cell (p := ⟨w.heap.size + 1 + 1, 3, none⟩) PA.out.2).trans u3; have uzB : w.heap.size + 1 + 1 < wB.heap.size := Nat.lt_of_lt_of_le PA.out.2 HB2.out.size; obtain ⟨b0, b1, b2, b3, b4, b5⟩ := kB))
        all_goals (
          obtain ⟨wf, hwf⟩ : ∃ wf, wf = w1.setCell ⟨w.heap.size + 1 + 1, 3, none⟩ (.slice (some ⟨g2, 0, none⟩) (j + 1) cap) := ⟨_, rfl⟩
          have zf : wf.heap.size = w1.heap.size := by rw [hwf]; simp [World.setCell]
          have z1 := HGW.out.size
          have zB := HB2.out.size
          have z5 := HN.out.2
          have z0 := HN.out.1
          have FU : Hid (Bk wf (w.heap.size + 1 + 1) 26 #[.int .i64 k, .int .i64 i, .string t, (.slice (some ⟨g2, 0, none⟩) (j + 1) cap), .slice Ak ks.length ck]) := Lib.hid (by
            rw [hwf]; exact ((HU.out.below HB2.out HU.out.lt).grown HGW.out (Ne.symm (NOB.out _ PA2.out.2.1))).put 3 _)
          have FO : Hid (wf.ownsRow w5.heap.size 26 5 (.slice (some ⟨g2, 0, none⟩) (j + 1) cap) (j + 1) (cs ++ [.int .i64 k2, .int .i64 i2', .string t2, .slice D n3 c3, .slice D' n4 c4])) := Lib.hid (by
            rw [hwf]; exact own_same (lo := w5.heap.size) hown1 (fun b h1 _ => Below.heap_setCell _ _ _ _ (show b ≠ w.heap.size + 1 + 1 by omega)))
          have CF : ∀ p : Addr, p.block < wB.heap.size → p.block ≠ w.heap.size + 1 + 1 → (Value.slice Ai j ci).ownBlock ≠ some p.block → wf.cell? p = wB.cell? p := fun p h1 h2 h3 => by
            rw [hwf]; exact (World.cell?_of_block (Below.heap_setCell _ _ _ _ h2)).trans (HGW.out.cell_far p h1 (Ne.symm h3))
          have hOld : LiesC wf (Off w5.heap.size wf (.slice (some ⟨g2, 0, none⟩) (j + 1) cap)) (its.take j) cs := by
            refine HC.out.keep (fun p hp => ?_) (fun b hp => ?_)
            · obtain ⟨h1, h2, h3⟩ := hp
              exact (CF p (by omega) (by omega) h3).trans (HB2.out.cell h2)
            · obtain ⟨h1, h2, h3⟩ := hp
              refine ⟨h1, by omega, fun e => ?_⟩
              have e' : g2 = b := by simpa [Value.ownBlock] using e
              rcases hat with h | h
              · exact h3 (by rw [h, e'])
              · omega
          have hNew : Lies wf (Off w5.heap.size wf (.slice (some ⟨g2, 0, none⟩) (j + 1) cap)) x (.agg #[.int .i64 k2, .int .i64 i2', .string t2, .slice D n3 c3, .slice D' n4 c4]) := by
            refine HOX.out.keep (fun p hp => ?_) (fun b hp => ?_)
            · obtain ⟨h1, h2⟩ := hp
              have h1' : wr.heap.size ≤ p.block := h1
              exact CF p h2 (by omega) (fun e => by have := (NW.out _ e).2; omega)
            · obtain ⟨h1, h2⟩ := hp
              have h1' : wr.heap.size ≤ b := h1
              refine ⟨by omega, by omega, fun e => ?_⟩
              have e' : g2 = b := by simpa [Value.ownBlock] using e
              rcases hat with h | h
              · have := (NW.out _ h).2; omega
              · omega
          have FC : Hid (LiesC wf (Off w5.heap.size wf (.slice (some ⟨g2, 0, none⟩) (j + 1) cap)) (its.take (j + 1)) (cs ++ [.int .i64 k2, .int .i64 i2', .string t2, .slice D n3 c3, .slice D' n4 c4])) := Lib.hid (by
            rw [HTK.out]; exact LiesC.append hOld ⟨_, _, _, _, _, [], rfl, hNew, rfl⟩)
          have FG : Hid (w5.grownBy wf (some (w.heap.size + 1 + 1))) := Lib.hid (by
            refine ⟨?_, ?_, ?_, by omega, fun b hb hne => ?_⟩
            · rw [hwf]; exact HGW.out.os.trans (HB2.out.os.trans HG.out.os)
            · rw [hwf]; exact HGW.out.tape.trans (HB2.out.tape.trans HG.out.tape)
            · rw [hwf]; exact HGW.out.output.trans (HB2.out.output.trans HG.out.output)
            · rw [hwf]; exact (Below.heap_setCell _ _ _ _ (fun e => hne (by rw [e]))).trans ((HGW.out.block b (by omega) (Ne.symm (NOB.out b hb))).trans ((HB2.out.block b (by omega)).trans (HG.out.block b hb hne))))
          rw [← hwf]
          clear hwf hown1 hgrow hat hlt CF hOld hNew zf z1 zB z5 z0 HOX HOB HGW KD hbx
          go_wp2
          go_roundw
          case rel => exact ⟨j + 1, some ⟨g2, 0, none⟩, cap, _, by have := HJN.out; omega, by go_num, FO, FC, FU, FG⟩
          case measure => have := HJN.out; simp [intOf]; omega)
      · obtain rfl : j = its.length := by omega
        have QR := Lib.hid (Q5.out.grown HG.out (by intro e; injection e with e; omega))
        have OKR := Lib.hid (OK5.out.kept HG.out (by
          cases h : (Value.slice Ak ks.length ck).ownBlock with
          | none => exact Or.inl rfl
          | some gk => exact Or.inr (fun e => by injection e with e; have := (OK5.out.lt gk h).1; omega)))
        have u0 := HU.out.cell 0
        have u1 := HU.out.cell 1
        have u2 := HU.out.cell 2
        have u3 := HU.out.cell 3
        have u4 := HU.out.cell 4
        have r0 := QR.out.frozen 0
        have r1 := QR.out.frozen 1
        have r2 := QR.out.frozen 2
        have r3 := QR.out.frozen 3
        have r4 := QR.out.frozen 4
        have z0 := QR.out.cell 0
        have z1 := QR.out.cell 1
        have z2 := QR.out.cell 2
        have z3 := QR.out.cell 3
        have z4 := QR.out.cell 4
        change _ = some (Value.int .i64 k) at u0
        change _ = some (Value.int .i64 i) at u1
        change _ = some (Value.string t) at u2
        change _ = some (Value.slice Ai its.length ci) at u3
        change _ = some (Value.slice Ak ks.length ck) at u4
        go_wp2
        obtain ⟨wf, hwf⟩ : ∃ wf, wf = ((((wr.setCell ⟨w.heap.size + 1, 0, none⟩ (.int .i64 k)).setCell ⟨w.heap.size + 1, 1, none⟩ (.int .i64 i)).setCell ⟨w.heap.size + 1, 2, none⟩ (.string t)).setCell ⟨w.heap.size + 1, 3, none⟩ (.slice Ai its.length ci)).setCell ⟨w.heap.size + 1, 4, none⟩ (.slice Ak ks.length ck) := ⟨_, rfl⟩
        have QF : Hid (Bk wf (w.heap.size + 1) 26 #[.int .i64 k, .int .i64 i, .string t, .slice Ai its.length ci, .slice Ak ks.length ck]) := Lib.hid (by rw [hwf]; exact ((((QR.out.put 0 _).put 1 _).put 2 _).put 3 _).put 4 _)
        have SF : Hid (∀ b, b ≠ w.heap.size + 1 → wf.heap[b]? = wr.heap[b]?) := Lib.hid (fun b hb => by
          rw [hwf]; exact ((((Below.heap_setCell _ _ _ _ hb).trans (Below.heap_setCell _ _ _ _ hb)).trans (Below.heap_setCell _ _ _ _ hb)).trans (Below.heap_setCell _ _ _ _ hb)).trans (Below.heap_setCell _ _ _ _ hb))
        have BF : Hid (Below w.heap.size w wf) := Lib.hid (by
          rw [hwf]
          exact ((((BW.out.setCell (p := ⟨w.heap.size + 1, 0, none⟩) (by show w.heap.size ≤ w.heap.size + 1; omega) _).setCell (p := ⟨w.heap.size + 1, 1, none⟩) (by show w.heap.size ≤ w.heap.size + 1; omega) _).setCell (p := ⟨w.heap.size + 1, 2, none⟩) (by show w.heap.size ≤ w.heap.size + 1; omega) _).setCell (p := ⟨w.heap.size + 1, 3, none⟩) (by show w.heap.size ≤ w.heap.size + 1; omega) _).setCell (p := ⟨w.heap.size + 1, 4, none⟩) (by show w.heap.size ≤ w.heap.size + 1; omega) _)
        have ZF : Hid (wf.heap.size = wr.heap.size) := Lib.hid (by rw [hwf]; simp [World.setCell])
        rw [← hwf]
        refine bodyPost_ret (results_cell_row rfl _ _ (w.heap.size + 1) 26 #[.int .i64 k, .int .i64 i, .string t, .slice Ai its.length ci, .slice Ak ks.length ck] (0, 0) _ rfl QF.out Try.underlying26 rfl (by kernel_rfl)) rfl ?_
        refine ⟨_, rfl, ?_, BF.out⟩
        have hsz := ZF.out
        have hn5 := N5.out
        have hb := own_bounds HO.out
        have hkl := KL.out
        unfold maxLen at hkl
        rw [Lies]
        refine ⟨Ai, ci, Ak, ck, rfl, HK0.out.1, HK0.out.2.1, HK0.out.2.2, hb.1, hb.2, ?_, hkl.1, hkl.2, ?_⟩
        · refine LiesC.ownR (cs := cs) (base := w5.heap.size) ?_ (fun g h1 h2 => ⟨by omega, h2⟩) rfl (own_same (lo := w5.heap.size) HO.out (fun b h1 _ => SF.out b (by omega)))
          have hC := HC.out
          rw [List.take_length] at hC
          exact hC.keep (fun p hp => World.cell?_of_block (SF.out _ (by have := hp.1; omega))) (fun b hp => ⟨by have := hp.1; omega, by have := hp.2.1; omega⟩)
        · exact strs_ownR (base := w.heap.size + 3) SS0.out (fun g h1 h2 => ⟨by omega, h2⟩) rfl (own_same (lo := w.heap.size + 3) OKR.out (fun b h1 _ => SF.out b (by omega)))
theorem refCopy_any {x : VT} {v : Value} {w : World} (h : Lies w (Lo w) x v) (hr : x.all reachF = true) : Calls Try.prog 27 #[v] w (Fresh x w) := refCopy_all x.size x w v (Nat.le_refl _) hr h
end Go.Proofs.Ytidinbeanaifmaa
