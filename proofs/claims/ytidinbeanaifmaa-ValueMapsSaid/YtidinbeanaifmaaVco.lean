/-
  Copy of the code: an equal value in memory of its own.
-/
import Derived.Test.YtidinbeanaifmaaVow
import Derived.Deep.RegionHeld3
namespace Go.Proofs.Ytidinbeanaifmaa
open Go.RowKit

/-- no row needs more memory than there is -/
def reachF (x : VT) : Bool := decide (x.its.length * 80 ≤ 140737488355328) && decide (x.ks.length * 16 ≤ 140737488355328)
theorem reach_mk {k i : Int} {t : ByteArray} {its : List VT} {ks : List ByteArray} (h : (VT.mk k i t its ks).all reachF = true) : its.length * 80 ≤ 140737488355328 ∧ ks.length * 16 ≤ 140737488355328 ∧ alls reachF its = true := by
  rw [VT.all_mk, Bool.and_eq_true] at h
  obtain ⟨h1, h2⟩ := h
  unfold reachF at h1
  rw [Bool.and_eq_true, decide_eq_true_eq, decide_eq_true_eq] at h1
  exact ⟨h1.1, h1.2, h2⟩
/-- what Copy hands back -/
def Copies (x : VT) (w : World) (e : Ending) (w' : World) : Prop := ∃ v, e = .returned v ∧ Ownd w' w.heap.size x v ∧ Below w.heap.size w w'

theorem grown_of_below {r : Option Nat} {w w' : World} (h : Below w.heap.size w w') : w.grownBy w' r := ⟨h.os, h.tape, h.output, h.size, fun k hk _ => h.block k hk⟩
theorem same_trans {lo : Nat} {a b c : World} (h : SameFrom lo a b) (k : SameFrom lo b c) (hs : a.heap.size ≤ b.heap.size) : SameFrom lo a c := fun i h1 h2 => (k i h1 (by omega)).trans (h i h1 h2)
theorem same_of_below {lo B : Nat} {w w' : World} (h : Below B w w') (hB : w.heap.size ≤ B) : SameFrom lo w w' := fun b _ hb => h.block b (by omega)
theorem same_grown {lo g : Nat} {w w' : World} (h : w.grownBy w' (some g)) (hg : g < lo) : SameFrom lo w w' := fun b h1 h2 => h.block b h2 (by intro e; injection e with e; omega)

theorem Lies.form {w : World} {R : Nat → Prop} {x : VT} {a b s y z : Value} (h : Lies w R x (.agg #[a, b, s, y, z])) : ∃ k i t A n c A' n' c', a = .int .i64 k ∧ b = .int .i64 i ∧ s = .string t ∧ y = .slice A n c ∧ z = .slice A' n' c' := by
  obtain ⟨k, i, t, its, ks⟩ := x
  obtain ⟨A, c, A', c', e, _⟩ := h.open
  unfold vag at e
  simp only [Value.agg.injEq, Array.mk.injEq, List.cons.injEq, and_true] at e
  obtain ⟨rfl, rfl, rfl, rfl, rfl⟩ := e
  exact ⟨_, _, _, _, _, _, _, _, _, rfl, rfl, rfl, rfl, rfl⟩
theorem Ownd.form {w : World} {lo : Nat} {x : VT} {v : Value} (h : Ownd w lo x v) : ∃ k i t A n c A' n' c', v = .agg #[.int .i64 k, .int .i64 i, .string t, .slice A n c, .slice A' n' c'] := by
  obtain ⟨k, i, t, its, ks⟩ := x
  rw [Ownd] at h
  obtain ⟨A, c, A', c', cs, rfl, _⟩ := h
  exact ⟨_, _, _, _, _, _, _, _, _, rfl⟩
theorem own_at {w : World} {lo n c size : Nat} {e : TypeId} {A : Option Addr} {xs : List Value} (h : w.ownsRow lo e size (.slice A n c) n xs) (hn : 0 < n) : ∃ g, A = some ⟨g, 0, none⟩ ∧ lo ≤ g ∧ g < w.heap.size := by
  rcases h.2 with ⟨_, h0⟩ | ⟨g, cap, cur, hv, hb, hg, _⟩
  · omega
  · injection hv with hv
    exact ⟨g, hv, hb, (Array.getElem?_eq_some_iff.1 hg).1⟩
theorem mid_at {new rest : List Value} {a b s y z : Value} {m : Nat} (h : new.length = m) :
    (new ++ a :: b :: s :: y :: z :: rest)[m]? = some a ∧ (new ++ a :: b :: s :: y :: z :: rest)[m + 1]? = some b ∧ (new ++ a :: b :: s :: y :: z :: rest)[m + 2]? = some s ∧
    (new ++ a :: b :: s :: y :: z :: rest)[m + 3]? = some y ∧ (new ++ a :: b :: s :: y :: z :: rest)[m + 4]? = some z := by
  subst h
  refine ⟨?_, ?_, ?_, ?_, ?_⟩ <;> rw [List.getElem?_append_right (by omega)] <;> simp

set_option maxRecDepth 100000 in
set_option maxHeartbeats 4000000 in
theorem copy_all (m : Nat) : ∀ (x : VT) (w : World) (v : Value), x.size ≤ m → x.all reachF = true → Lies w (Lo w) x v → Calls Try.prog 28 #[v] w (Copies x w) := by
  induction m with
  | zero => intro x _ _ h; have := size_pos x; omega
  | succ m ih =>
    intro x w v hsz hre hv
    have IH := Lib.hid ih
    clear ih
    obtain ⟨k, i, t, its, ks⟩ := x
    obtain ⟨A, c, A', c', rfl, hki, hii, htm, hlc, hcm, hL, hkc, hcm', hS⟩ := hv.open
    rw [VT.size_mk] at hsz
    obtain ⟨r1, r2, r3⟩ := reach_mk hre
    have HK0 := Lib.hid (And.intro hki (And.intro hii htm))
    have HRE := Lib.hid r3
    obtain ⟨w2, hw2⟩ : ∃ w2, w2 = (w.alloc (.cells #[.int .i64 k, .int .i64 i, .string t, .slice A its.length c, .slice A' ks.length c'] 26)).alloc (.cells #[.int .i64 0, .int .i64 0, .string ⟨#[]⟩, .slice none 0 0, .slice none 0 0] 26) := ⟨_, rfl⟩
    have B2 : Hid (Below w.heap.size w w2) := Lib.hid (by rw [hw2]; exact (below_one _ _).trans (Below.alloc (Below.refl _ _) (by simp) _))
    have P2 : Hid (Bk w2 w.heap.size 26 #[.int .i64 k, .int .i64 i, .string t, .slice A its.length c, .slice A' ks.length c']) := Lib.hid (by rw [hw2]; exact (Bk.new _ _ _).alloc _)
    have Q2 : Hid (Bk w2 (w.heap.size + 1) 26 #[.int .i64 0, .int .i64 0, .string ⟨#[]⟩, .slice none 0 0, .slice none 0 0]) := Lib.hid (by rw [hw2]; have := Bk.new (w.alloc (.cells #[.int .i64 k, .int .i64 i, .string t, .slice A its.length c, .slice A' ks.length c'] 26)) 26 #[.int .i64 0, .int .i64 0, .string ⟨#[]⟩, .slice none 0 0, .slice none 0 0]; simpa using this)
    have HL := Lib.hid hL
    have K2 := Lib.hid (cloneS_any A' c' ks w2 (hS.below B2.out) r2)
    have R1 := Lib.hid r1
    have SS0 := Lib.hid hS.sizes
    have HW := Lib.hid hw2
    clear hw2 hv hL hS hre r1 r2 r3 hki hii htm
    unfold vag
    go_enter Try.func28, Try.ntmps28
    go_wp2_with fail
    rw [← HW.out]
    refine (K2.out).mono ?_
    rintro e w3 ⟨vk, rfl, hok, hb⟩
    obtain ⟨Ak, ck, rfl, _, _⟩ := own_form hok
    have p3 := P2.out.below hb P2.out.lt
    have q3 := Q2.out.below hb Q2.out.lt
    have hlt : w.heap.size + 1 < w2.heap.size := Q2.out.lt
    have f3 := p3.frozen 4
    have B3 := Lib.hid (below_next B2.out hb)
    have S3 : Hid (w2.heap.size ≤ w3.heap.size) := Lib.hid hb.size
    have OK3 := Lib.hid hok
    have PP := Lib.hid p3
    have QQ := Lib.hid q3
    have HLT := Lib.hid hlt
    have d4 := p3.cell 4
    have d3 := p3.cell 3
    clear hb hok p3 q3 hlt
    have B4 : Hid (Below w.heap.size w (w3.setCell ⟨w.heap.size, 4, none⟩ (.slice Ak ks.length ck))) := Lib.hid (B3.out.setCell (p := ⟨w.heap.size, 4, none⟩) (Nat.le_refl _) _)
    have K4 := Lib.hid (cloneV_any (fun b => b < w.heap.size) A c its _ (fun b hb => Nat.lt_of_lt_of_le hb B4.out.size) (HL.out.keep (fun q hq => B4.out.cell hq) (fun _ h => h)) R1.out)
    go_wp2_with fail
    obtain ⟨w4, hw4⟩ : ∃ w4, w4 = w3.setCell ⟨w.heap.size, 4, none⟩ (.slice Ak ks.length ck) := ⟨_, rfl⟩
    have P4 : Hid (Bk w4 w.heap.size 26 #[.int .i64 k, .int .i64 i, .string t, .slice A its.length c, .slice Ak ks.length ck]) := Lib.hid (by rw [hw4]; exact PP.out.put 4 _)
    have Q4 : Hid (Bk w4 (w.heap.size + 1) 26 #[.int .i64 0, .int .i64 0, .string ⟨#[]⟩, .slice none 0 0, .slice none 0 0]) := Lib.hid (by rw [hw4]; exact QQ.out.far (by show w.heap.size + 1 ≠ w.heap.size; omega) _)
    have Z4 : Hid (w3.heap.size = w4.heap.size) := Lib.hid (by rw [hw4]; simp [World.setCell])
    have OK4 : Hid (w4.ownsRow w2.heap.size 9 1 (.slice Ak ks.length ck) ks.length (ks.map Value.string)) := Lib.hid (by
      rw [hw4]; exact own_same OK3.out (fun b h1 _ => Below.heap_setCell _ _ _ _ (by have := HLT.out; show b ≠ w.heap.size; omega)))
    have OKB : Hid (∀ g, (Value.slice Ak ks.length ck).ownBlock = some g → g < w4.heap.size) := Lib.hid (fun g hg => (OK4.out.lt g hg).2)
    rw [← hw4] at K4 B4 ⊢
    have HW4 := Lib.hid hw4
    clear hw4 K2 d3 d4 f3
    refine (K4.out).mono ?_
    rintro e w5 ⟨vi, cs, rfl, hcs, hoi, hb⟩
    obtain ⟨Ai, ci, rfl, hnc, _⟩ := own_formN hoi
    have P5 := Lib.hid (P4.out.below hb P4.out.lt)
    have Q5 := Lib.hid (Q4.out.below hb Q4.out.lt)
    have OK5 := Lib.hid (own_same (lo := w2.heap.size) OK4.out (same_of_below hb (Nat.le_refl _)))
    have OI5 := Lib.hid hoi
    have B5 := Lib.hid (below_next B4.out hb)
    have CS := Lib.hid (hcs.keep (w' := w) (fun q hq => (B4.out.cell hq).symm) (fun _ h => h))
    have Z5 : Hid (w4.heap.size ≤ w5.heap.size) := Lib.hid hb.size
    have e3 := P5.out.cell 3
    have f3 := P5.out.frozen 3
    clear hb hcs hoi
    go_wp2_with fail
    obtain ⟨w6, hw6⟩ : ∃ w6, w6 = w5.setCell ⟨w.heap.size, 3, none⟩ (.slice Ai its.length ci) := ⟨_, rfl⟩
    have P6 : Hid (Bk w6 w.heap.size 26 #[.int .i64 k, .int .i64 i, .string t, .slice Ai its.length ci, .slice Ak ks.length ck]) := Lib.hid (by rw [hw6]; exact P5.out.put 3 _)
    have Q6 : Hid (Bk w6 (w.heap.size + 1) 26 #[.int .i64 0, .int .i64 0, .string ⟨#[]⟩, .slice none 0 0, .slice none 0 0]) := Lib.hid (by rw [hw6]; exact Q5.out.far (by show w.heap.size + 1 ≠ w.heap.size; omega) _)
    have Z6 : Hid (w6.heap.size = w5.heap.size) := Lib.hid (by rw [hw6]; simp [World.setCell])
    have OK6 : Hid (w6.ownsRow w2.heap.size 9 1 (.slice Ak ks.length ck) ks.length (ks.map Value.string)) := Lib.hid (by
      rw [hw6]; exact own_same OK5.out (fun b h1 _ => Below.heap_setCell _ _ _ _ (by have := HLT.out; show b ≠ w.heap.size; omega)))
    have OI6 : Hid (w6.ownsRow w4.heap.size 26 5 (.slice Ai its.length ci) its.length cs) := Lib.hid (by
      rw [hw6]; exact own_same OI5.out (fun b h1 _ => Below.heap_setCell _ _ _ _ (by have := HLT.out; have := S3.out; have := Z4.out; show b ≠ w.heap.size; omega)))
    have B6 : Hid (Below w.heap.size w w6) := Lib.hid (by rw [hw6]; exact B5.out.setCell (p := ⟨w.heap.size, 3, none⟩) (Nat.le_refl _) _)
    have g3 := P6.out.cell 3
    rw [← hw6]
    have HW6 := Lib.hid hw6
    have HLT6 : Hid (w.heap.size + 1 < w4.heap.size) := Lib.hid (by have := HLT.out; have := S3.out; have := Z4.out; omega)
    clear hw6 e3 f3 K4 R1 PP QQ OK3 P4 Q4 OK4 P5 Q5 OK5 OI5
    go_wp2_with fail
    go_loopw [16, 3, 4] (fun s _ _ wr => ∃ (j : Nat) (new old : List Value), j ≤ its.length ∧ s = .int .i64 j ∧ Hid (wr.ownsRow w4.heap.size 26 5 (.slice Ai its.length ci) its.length (new ++ old)) ∧
      Hid (OwnC wr w6.heap.size (its.take j) new) ∧ Hid (LiesC w (fun b => b < w.heap.size) (its.drop j) old) ∧ Hid (w6.grownBy wr (Value.slice Ai its.length ci).ownBlock)) (fun s _ _ _ => its.length - (intOf s).toNat)
    case atStart => exact ⟨0, [], cs, by omega, rfl, OI6, Lib.hid (by rw [List.take_zero, OwnC]), CS, Lib.hid (World.grownBy.refl _ _)⟩
    case round =>
      obtain ⟨j, new, old, hjn, rfl, HO, HN, HD, HG⟩ := hrel
      have HLO := Lib.hid (HO.out.lt)
      have pz : w.heap.size < w6.heap.size := P6.out.lt
      have BR : Hid (Below w4.heap.size w6 wr) := Lib.hid ((Below.refl _ _).grown HG.out (by have := Z6.out; have := Z5.out; omega) (fun k hk => (HLO.out k hk).1))
      have PR := Lib.hid (P6.out.below BR.out (by have := HLT6.out; omega))
      have g3' := PR.out.cell 3
      by_cases hlt : j < its.length
      · have h1 := List.getElem?_eq_getElem (l := its) (i := j) hlt
        have hre := all_at HRE.out h1
        have hle := size_at h1
        have hdr := HD.out
        have htk : its.take (j + 1) = its.take j ++ [its[j]'hlt] := by rw [List.take_add_one, h1]; rfl
        rw [List.drop_eq_getElem_cons hlt] at hdr
        generalize its[j]'hlt = x at *
        obtain ⟨a, b, s, y, z, rest, rfl, hx, hr⟩ := hdr
        obtain ⟨k', i', t', E, n1, c1, E', n2, c2, rfl, rfl, rfl, rfl, rfl⟩ := hx.form
        obtain ⟨g, rfl, hg1, hg2⟩ := own_at HO.out (by omega)
        have hnl : new.length = j * 5 := by rw [HN.out.len, List.length_take]; congr 1; omega
        obtain ⟨m0, m1, m2, m3, m4⟩ := mid_at (rest := rest) (a := .int .i64 k') (b := .int .i64 i') (s := .string t') (y := .slice E n1 c1) (z := .slice E' n2 c2) hnl
        have e0 := (HO.out.cellAt (j * 5) (by omega)).trans m0
        have e1 := (HO.out.cellAt (j * 5 + 1) (by omega)).trans m1
        have e2 := (HO.out.cellAt (j * 5 + 2) (by omega)).trans m2
        have e3 := (HO.out.cellAt (j * 5 + 3) (by omega)).trans m3
        have e4 := (HO.out.cellAt (j * 5 + 4) (by omega)).trans m4
        have HX := Lib.hid hx
        have HRR := Lib.hid hr
        have HTK := Lib.hid htk
        have HNL := Lib.hid hnl
        have HRX := Lib.hid hre
        clear m0 m1 m2 m3 m4 hx hr htk hnl hre h1
        go_wp2_with fail
        obtain ⟨wa, hwa⟩ : ∃ wa, wa = wr.alloc (.cells #[.int .i64 k', .int .i64 i', .string t', .slice E n1 c1, .slice E' n2 c2] 26) := ⟨_, rfl⟩
        have BA : Hid (Below w.heap.size w wa) := Lib.hid (by rw [hwa]; exact ((B6.out.trans (BR.out.mono (by have := HLT6.out; omega))).alloc (by have := (B6.out.trans (BR.out.mono (by have := HLT6.out; omega))).size; omega) _))
        have qa := hwa ▸ (Bk.new wr 26 #[.int .i64 k', .int .i64 i', .string t', .slice E n1 c1, .slice E' n2 c2])
        have pa := hwa ▸ (PR.out.alloc (.cells #[.int .i64 k', .int .i64 i', .string t', .slice E n1 c1, .slice E' n2 c2] 26))
        rw [← hwa]
        have HWA := Lib.hid hwa
        have u0 := qa.cell 0
        have u1 := qa.cell 1
        have u2 := qa.cell 2
        have u3 := qa.cell 3
        have u4 := qa.cell 4
        have v3 := pa.cell 3
        change _ = some (Value.int .i64 k') at u0
        change _ = some (Value.int .i64 i') at u1
        change _ = some (Value.string t') at u2
        change _ = some (Value.slice E n1 c1) at u3
        change _ = some (Value.slice E' n2 c2) at u4
        change _ = some (Value.slice (some ⟨g, 0, none⟩) its.length ci) at v3
        have QA := Lib.hid qa.lt
        have BWA : Hid (Below wr.heap.size wr wa) := Lib.hid (by rw [hwa]; exact below_one _ _)
        have MID := Lib.hid (mid_at (rest := rest) (a := .int .i64 k') (b := .int .i64 i') (s := .string t') (y := .slice E n1 c1) (z := .slice E' n2 c2) HNL.out)
        have HJN := Lib.hid hlt
        have PA := Lib.hid pa.lt
        have ne1 : g ≠ w.heap.size := by have := HLT6.out; omega
        have ne2 : g ≠ wr.heap.size := by omega
        have kA := And.intro v3 (And.intro u0 (And.intro u1 (And.intro u2 (And.intro u3 u4))))
        have HCW : Hid (∀ W, Below w.heap.size w W → Calls Try.prog 28 #[.agg #[.int .i64 k', .int .i64 i', .string t', .slice E n1 c1, .slice E' n2 c2]] W (Copies x W)) := Lib.hid (fun W hb => IH.out x W _ (by omega) HRX.out (HX.out.keep (fun q hq => hb.cell hq) (fun b hq => Nat.lt_of_lt_of_le hq hb.size)))
        clear hwa qa pa g3' e0 e1 e2 e3 e4
        go_region_held3 (fun w' => w'.cell? ⟨w.heap.size, 3, none⟩ = some (.slice (some ⟨g, 0, none⟩) its.length ci) ∧ w'.cell? ⟨wr.heap.size, 0, none⟩ = some (.int .i64 k') ∧ w'.cell? ⟨wr.heap.size, 1, none⟩ = some (.int .i64 i') ∧
            w'.cell? ⟨wr.heap.size, 2, none⟩ = some (.string t') ∧ w'.cell? ⟨wr.heap.size, 3, none⟩ = some (.slice E n1 c1) ∧ w'.cell? ⟨wr.heap.size, 4, none⟩ = some (.slice E' n2 c2))
          (first
            | go_keep
            | exact kA
            | exact kB)
          (first
            | (go_at_call 28; refine (HCW.out _ (by first | exact BA.out | exact BA.out.drew)).mono ?_; rintro _ wB ⟨vx, rfl, hox, hbx⟩; obtain ⟨k2, i2, t2, D, n3, c3, D', n4, c4, rfl⟩ := hox.form; have HOX := Lib.hid hox; clear hox; have hB2 : Below wr.heap.size wr wB := BWA.out.trans (Below.mono ⟨hbx.os, hbx.tape, hbx.output, hbx.size, hbx.block⟩ (Nat.le_of_lt QA.out)); have HOB := Lib.hid (own_same (lo := w4.heap.size) HO.out (same_of_below hB2 (Nat.le_refl _))); have e0 := (HOB.out.cellAt (j * 5) (by have := HJN.out; omega)).trans MID.out.1; have e1 := (HOB.out.cellAt (j * 5 + 1) (by have := HJN.out; omega)).trans MID.out.2.1; have e2 := (HOB.out.cellAt (j * 5 + 2) (by have := HJN.out; omega)).trans MID.out.2.2.1; have e3 := (HOB.out.cellAt (j * 5 + 3) (by have := HJN.out; omega)).trans MID.out.2.2.2.1; have e4 := (HOB.out.cellAt (j * 5 + 4) (by have := HJN.out; omega)).trans MID.out.2.2.2.2; have f0 := HOB.out.frozenAt (j * 5); have f1 := HOB.out.frozenAt (j * 5 + 1); have f2 := HOB.out.frozenAt (j * 5 + 2); have f3 := HOB.out.frozenAt (j * 5 + 3); have f4 := HOB.out.frozenAt (j * 5 + 4); have HB2 := Lib.hid hB2; clear hB2; have kB := And.intro ((hbx.cell (p := ⟨w.heap.size, 3, none⟩) PA.out).trans kA.1) (And.intro ((hbx.cell (p := ⟨wr.heap.size, 0, none⟩) QA.out).trans kA.2.1) (And.intro ((hbx.cell (p := ⟨wr.heap.size, 1, none⟩) QA.out).trans kA.2.2.1) (And.intro ((hbx.cell (p := ⟨wr.heap.size, 2, none⟩) QA.out).trans kA.2.2.2.1) (And.intro ((hbx.cell (p := ⟨wr.heap.size, 3, none⟩) QA.out).trans kA.2.2.2.2.1) ((hbx.cell (p := ⟨wr.heap.size, 4, none⟩) QA.out).trans kA.2.2.2.2.2)))))))
        have hgl : g < w6.heap.size := (OI6.out.lt g rfl).2
        obtain ⟨hst, hgr⟩ := own_store5 (a := .int .i64 k2) (b := .int .i64 i2) (s := .string t2) (y := .slice D n3 c3) (z := .slice D' n4 c4) HOB.out HNL.out (by simp)
        have S1 : SameFrom w6.heap.size wr wB := same_of_below HB2.out (Nat.le_refl _)
        have S2 := same_grown (lo := w6.heap.size) hgr hgl
        have ho2 := OwnC.snoc ((HOX.out.mono (lo' := w6.heap.size) (by have h1 := BWA.out.size; have h2 := HG.out.size; show w6.heap.size ≤ wa.heap.size; omega)).keep S2) (HN.out.keep (same_trans S1 S2 HB2.out.size))
        rw [← HTK.out] at ho2
        have hg2 := grownBy_trans HG.out (grownBy_trans (grown_of_below HB2.out) hgr)
        have FO := Lib.hid hst
        have FN := Lib.hid ho2
        have FG := Lib.hid hg2
        clear hst hgr S1 S2 ho2 hg2 e0 e1 e2 e3 e4 f0 f1 f2 f3 f4 kA kB hbx u0 u1 u2 u3 u4 v3
        go_wp2
        go_roundw
        case rel => exact ⟨j + 1, _, rest, by have := HJN.out; omega, by go_num, FO, FN, HRR, FG⟩
        case measure => have := HJN.out; simp [intOf]; omega
      · obtain rfl : j = its.length := by omega
        have hold : old = [] := by have := HD.out; rw [List.drop_length] at this; exact this
        subst hold
        have QR := Lib.hid (Q6.out.below BR.out HLT6.out)
        have b0 := PR.out.cell 0
        have b1 := PR.out.cell 1
        have b2 := PR.out.cell 2
        have b4 := PR.out.cell 4
        have r0 := QR.out.frozen 0
        have r1 := QR.out.frozen 1
        have r2 := QR.out.frozen 2
        have r3 := QR.out.frozen 3
        have r4 := QR.out.frozen 4
        have z0 := QR.out.cell 0
        have z1 := QR.out.cell 1
        have z2 := QR.out.cell 2
        have z3 := QR.out.cell 3
        have z4 := QR.out.cell 4
        go_wp2
        obtain ⟨wf, hwf⟩ : ∃ wf, wf = ((((wr.setCell ⟨w.heap.size + 1, 0, none⟩ (.int .i64 k)).setCell ⟨w.heap.size + 1, 1, none⟩ (.int .i64 i)).setCell ⟨w.heap.size + 1, 2, none⟩ (.string t)).setCell ⟨w.heap.size + 1, 3, none⟩ (.slice Ai its.length ci)).setCell ⟨w.heap.size + 1, 4, none⟩ (.slice Ak ks.length ck) := ⟨_, rfl⟩
        have QF : Hid (Bk wf (w.heap.size + 1) 26 #[.int .i64 k, .int .i64 i, .string t, .slice Ai its.length ci, .slice Ak ks.length ck]) := Lib.hid (by rw [hwf]; exact ((((QR.out.put 0 _).put 1 _).put 2 _).put 3 _).put 4 _)
        have SF : Hid (∀ b, b ≠ w.heap.size + 1 → wf.heap[b]? = wr.heap[b]?) := Lib.hid (fun b hb => by
          rw [hwf]; exact ((((Below.heap_setCell _ _ _ _ hb).trans (Below.heap_setCell _ _ _ _ hb)).trans (Below.heap_setCell _ _ _ _ hb)).trans (Below.heap_setCell _ _ _ _ hb)).trans (Below.heap_setCell _ _ _ _ hb))
        have BF : Hid (Below w.heap.size w wf) := Lib.hid (by
          rw [hwf]
          have h0 := B6.out.trans (BR.out.mono (by have := HLT6.out; omega : w.heap.size ≤ w4.heap.size))
          exact ((((h0.setCell (p := ⟨w.heap.size + 1, 0, none⟩) (by show w.heap.size ≤ w.heap.size + 1; omega) _).setCell (p := ⟨w.heap.size + 1, 1, none⟩) (by show w.heap.size ≤ w.heap.size + 1; omega) _).setCell (p := ⟨w.heap.size + 1, 2, none⟩) (by show w.heap.size ≤ w.heap.size + 1; omega) _).setCell (p := ⟨w.heap.size + 1, 3, none⟩) (by show w.heap.size ≤ w.heap.size + 1; omega) _).setCell (p := ⟨w.heap.size + 1, 4, none⟩) (by show w.heap.size ≤ w.heap.size + 1; omega) _)
        rw [← hwf]
        refine bodyPost_ret (results_cell_row rfl _ _ (w.heap.size + 1) 26 #[.int .i64 k, .int .i64 i, .string t, .slice Ai its.length ci, .slice Ak ks.length ck] (0, 0) _ rfl QF.out Try.underlying26 rfl (by kernel_rfl)) rfl ?_
        have hsz := BR.out.size
        have l4 := HLT6.out
        have l2 := HLT.out
        refine ⟨_, rfl, ?_, BF.out⟩
        rw [Ownd]
        have hnew : OwnC wr w6.heap.size its new := by have := HN.out; rwa [List.take_length] at this
        have hrow : wr.ownsRow w4.heap.size 26 5 (.slice Ai its.length ci) its.length new := by have := HO.out; rwa [List.append_nil] at this
        have hks : wr.ownsRow w2.heap.size 9 1 (.slice Ak ks.length ck) ks.length (ks.map Value.string) := by
          refine OK6.out.kept HG.out ?_
          cases hb : (Value.slice Ak ks.length ck).ownBlock with
          | none => exact Or.inl rfl
          | some gk => exact Or.inr (fun e => by have h1 := (HLO.out gk e.symm).1; have h2 := OKB.out gk hb; omega)
        exact ⟨Ai, ci, Ak, ck, new, rfl, HK0.out.1, HK0.out.2.1, HK0.out.2.2, own_mono (own_same hrow (fun b h1 _ => SF.out b (by omega))) (by omega),
          (hnew.keep (fun b h1 _ => SF.out b (by have := Z6.out; have := Z5.out; omega))).mono (by have := Z6.out; have := Z5.out; omega), own_mono (own_same hks (fun b h1 _ => SF.out b (by omega))) (by omega), SS0.out⟩
theorem Copy_any {x : VT} {v : Value} {w : World} (h : Lies w (Lo w) x v) (hr : x.all reachF = true) : Calls Try.prog 28 #[v] w (Copies x w) := copy_all x.size x w v (Nat.le_refl _) hr h
end Go.Proofs.Ytidinbeanaifmaa
