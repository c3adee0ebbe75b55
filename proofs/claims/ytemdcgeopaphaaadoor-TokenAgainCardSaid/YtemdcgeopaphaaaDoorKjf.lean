/-
  How tokens are spelled: a plain function; Spell of the code. (gen_kjf.py)
-/
import Derived.Test.YtemdcgeopaphaaaDoorKje
import Derived.Test.YtemdcgeopaphaaaDoorKp
import Derived.Test.YtemdcgeopaphaaaDoorSj
namespace Go.Proofs.YtemdcgeopaphaaaDoor
open Go.RowKit Go.Sort

/-- a token's text; none if it isn't spelled -/
def spO (k : Tok) : Option (List UInt8) := if k.kind = 1 ∨ k.kind = 2 ∨ k.kind = 5 then some k.text else if k.kind = 3 then some (Lib.itoa k.int) else if k.kind = 4 then some (quoL k.text) else none
def spP (l : List Tok) : List (List UInt8) := l.filterMap spO
def spL (l : List Tok) : List UInt8 := Lib.join (spP l) [32]
/-- the row at A holds these tokens, whatever their offsets -/
def URow (w : World) (A : Option Addr) (l : List Tok) : Prop := ∀ (j : Nat) (k : Tok), l[j]? = some k → ∃ g o z, A = some ⟨g, o, none⟩ ∧ g < w.heap.size ∧ w.cell? ⟨g, o + j * 4, none⟩ = some (.int .i64 k.kind) ∧ w.cell? ⟨g, o + j * 4 + 1, none⟩ = some (.int .i64 z) ∧
  w.cell? ⟨g, o + j * 4 + 2, none⟩ = some (strV k.text) ∧ w.cell? ⟨g, o + j * 4 + 3, none⟩ = some (.int .i64 k.int)
theorem URow.below {w w' : World} {A : Option Addr} {l : List Tok} (h : URow w A l) (hb : Below w.heap.size w w') : URow w' A l := fun j k hj => by
  obtain ⟨g, o, z, h0, hg, h1, h2, h3, h4⟩ := h j k hj
  exact ⟨g, o, z, h0, Nat.lt_of_lt_of_le hg hb.size, (hb.cell (p := ⟨g, _, none⟩) hg).trans h1, (hb.cell (p := ⟨g, _, none⟩) hg).trans h2, (hb.cell (p := ⟨g, _, none⟩) hg).trans h3, (hb.cell (p := ⟨g, _, none⟩) hg).trans h4⟩
theorem TRow.u {w : World} {A : Option Addr} {l : List Tok} (h : TRow w A l) : URow w A l := fun j k hj => by
  obtain ⟨g, o, h0, hg, h1, h2, h3, h4⟩ := h j k hj
  exact ⟨g, o, _, h0, hg, h1, h2, h3, h4⟩
/-- tokens of moderate size -/
structure Mod (l : List Tok) : Prop where
  len : l.length ≤ 1000
  each : ∀ k ∈ l, k.text.length ≤ 1000 ∧ -9223372036854775808 ≤ k.int ∧ k.int ≤ 9223372036854775807
theorem quoL_len (l : List UInt8) : (quoL l).length ≤ 4 * l.length + 2 := by
  have : ∀ l : List UInt8, (l.flatMap escB).length ≤ 4 * l.length := fun l => by
    induction l with
    | nil => simp
    | cons a r ih =>
      have := escB_len a
      rw [List.flatMap_cons, List.length_append, List.length_cons]
      omega
  have := this l
  unfold quoL
  rw [List.length_cons, List.length_append, List.length_singleton]
  omega
theorem spO_len {k : Tok} {x : List UInt8} (h : spO k = some x) (hk : k.text.length ≤ 1000 ∧ -9223372036854775808 ≤ k.int ∧ k.int ≤ 9223372036854775807) : x.length ≤ 4002 := by
  unfold spO at h
  split at h
  · injection h with h; rw [← h]; omega
  · split at h
    · injection h with h; rw [← h]; have := itoa_lenT hk.2.1 hk.2.2; omega
    · split at h
      · injection h with h; rw [← h]; have := quoL_len k.text; omega
      · cases h
theorem join_len (sep : List UInt8) (B : Nat) : ∀ l : List (List UInt8), (∀ x ∈ l, x.length ≤ B) → (Lib.join l sep).length ≤ l.length * (B + sep.length)
  | [], _ => by rw [Lib.join_nil]; simp
  | x :: r, h => by
    rw [Lib.join_cons]
    have hr : ∀ r : List (List UInt8), (∀ x ∈ r, x.length ≤ B) → (Lib.joinTail sep r).length ≤ r.length * (B + sep.length) := fun r => by
      induction r with
      | nil => intro _; simp [Lib.joinTail]
      | cons y s ih =>
        intro hy
        have h1 := ih (fun z hz => hy z (List.mem_cons_of_mem _ hz))
        have h2 := hy y List.mem_cons_self
        have e : Lib.joinTail sep (y :: s) = sep ++ y ++ Lib.joinTail sep s := by simp [Lib.joinTail]
        rw [e, List.length_append, List.length_append, List.length_cons, Nat.succ_mul]
        omega
    have h1 := hr r (fun z hz => h z (List.mem_cons_of_mem _ hz))
    have h2 := h x List.mem_cons_self
    rw [List.length_append, List.length_cons, Nat.succ_mul]
    omega
theorem spP_mem {l : List Tok} {x : List UInt8} (hM : Mod l) (h : x ∈ spP l) : x.length ≤ 4002 := by
  obtain ⟨k, hk, hx⟩ := List.mem_filterMap.1 h
  exact spO_len hx (hM.each k hk)
theorem spP_len (l : List Tok) : (spP l).length ≤ l.length := List.length_filterMap_le ..
theorem spL_len {l : List Tok} (hM : Mod l) : (spL l).length ≤ 4003000 := by
  have h1 := join_len [32] 4002 (spP l) (fun x hx => spP_mem hM hx)
  have h2 := spP_len l
  have h3 := hM.len
  have h4 : (spP l).length * 4003 ≤ 1000 * 4003 := Nat.mul_le_mul_right _ (by omega)
  have e : ([32] : List UInt8).length = 1 := rfl
  rw [e] at h1
  unfold spL
  omega
theorem sp_some {l : List Tok} {j : Nat} {k : Tok} {x : List UInt8} (h : l[j]? = some k) (hx : spO k = some x) : spP (l.take (j + 1)) = spP (l.take j) ++ [x] := by
  obtain ⟨hj, hv⟩ := List.getElem?_eq_some_iff.1 h
  unfold spP
  rw [List.take_succ_eq_append_getElem hj, hv, List.filterMap_append, List.filterMap_cons, hx]
  rfl
theorem sp_none {l : List Tok} {j : Nat} {k : Tok} (h : l[j]? = some k) (hx : spO k = none) : spP (l.take (j + 1)) = spP (l.take j) := by
  obtain ⟨hj, hv⟩ := List.getElem?_eq_some_iff.1 h
  unfold spP
  rw [List.take_succ_eq_append_getElem hj, hv, List.filterMap_append, List.filterMap_cons, hx]
  simp
theorem itoa_any (n : Int) (w : World) (h0 : -9223372036854775808 ≤ n) (h1 : n ≤ 9223372036854775807) (hE : NStd w) : Calls Tryd.prog 26 #[.int .i64 n] w fun e w' => e = .returned (.string ⟨(Lib.itoa n).toArray⟩) ∧ Below w.heap.size w w' := by
  refine (Tryd.strconv_Itoa n h0 h1 w hE.tab.here).mono ?_
  rintro e w' ⟨rfl, k, os, rfl⟩
  exact ⟨rfl, Lib.below_grow w.heap.size w (Nat.le_refl _) k os⟩
theorem Tryd.infoS : (Tryd.prog.info? 9).map (fun i => (i.zero, i.size, i.bytes)) = some (some (.string ByteArray.empty), 1, 16) := by kernel_rfl
theorem join_any {w : World} {base m c : Nat} {A : Option Addr} {o : List (List UInt8)} (h : w.ownsRow base 9 1 (.slice A m c) m (o.map strV)) (hm : m ≤ 1000000) (hj : (Lib.join o [32]).length ≤ 140737488355328) :
    Calls Tryd.prog 27 #[.slice A m c, .string ⟨#[32]⟩] w fun e w' => e = .returned (.string ⟨(Lib.join o [32]).toArray⟩) ∧ Below w.heap.size w w' := by
  have hl : o.length = m := by have := h.1; simpa using this
  cases m with
  | zero =>
    rw [List.eq_nil_of_length_eq_zero hl]
    refine (Tryd.strings_Join_none A c ⟨#[32]⟩ w).mono ?_
    rintro _ _ ⟨rfl, rfl⟩
    exact ⟨rfl, Below.refl _ _⟩
  | succ m =>
    rcases h.2 with ⟨_, h0⟩ | ⟨g, cap, cur, hv, _, hg, h1, _, _⟩
    · omega
    · injection hv with hv _ hc
      subst hv hc
      have he : (o.map fun x : List UInt8 => (⟨x.toArray⟩ : ByteArray)).map (fun x => x.data.toList) = o := by
        rw [List.map_map]
        exact List.map_id' o
      have key := Tryd.strings_Join g 0 c (o.map fun x : List UInt8 => (⟨x.toArray⟩ : ByteArray)) ⟨#[32]⟩ w (by
        intro j x hx
        rw [List.getElem?_map] at hx
        cases ho : o[j]? with
        | none => rw [ho] at hx; cases hx
        | some y =>
          rw [ho] at hx
          injection hx with hx
          have := h.cells (g := g) rfl j (strV y) (by rw [List.getElem?_map, ho]; rfl)
          rw [Addr.add_lit] at this
          rw [this, ← hx]; rfl) (Array.getElem?_eq_some_iff.1 hg).1 (by rw [List.length_map]; omega) (by rw [List.length_map]; omega) (by rw [he]; exact hj)
      rw [he, List.length_map, hl] at key
      exact key
set_option maxRecDepth 100000 in
set_option maxHeartbeats 16000000 in
theorem Spell_any {w : World} {A : Option Addr} {c0 : Nat} {l : List Tok} (hU : URow w A l) (hM : Mod l) (hE : NStd w) :
    Calls Tryd.prog 16 #[.slice A l.length c0] w fun e w' => e = .returned (.string ⟨(spL l).toArray⟩) ∧ Below w.heap.size w w' := by
  obtain ⟨iS, hiS, hzS, hsS, hbS⟩ := info_parts Tryd.infoS
  have HE := Lib.hid hE
  have HU := Lib.hid hU
  have HM := Lib.hid hM
  obtain ⟨n, hn⟩ : ∃ n, n = l.length := ⟨_, rfl⟩
  have hn1 : n ≤ 1000 := by have := hM.len; omega
  rw [← hn]
  have HN := Lib.hid hn
  clear hE hU hM hn
  go_enter Tryd.func16, Tryd.ntmps16
  go_wp2_with fail
  go_loopw [3, 8] (fun tv iv wr => ∃ (j m c : Nat) (T : Option Addr) (o : List (List UInt8)), j ≤ n ∧ iv = .int .i64 j ∧ tv = .slice T m c ∧ m ≤ j ∧ Hid (o.length = m) ∧ Hid (o = spP (l.take j)) ∧
    Hid (Below w.heap.size w wr) ∧ Hid (wr.ownsRow w.heap.size 9 1 (.slice T m c) m (o.map strV))) (fun _ iv _ => n - (intOf iv).toNat)
  case atStart => exact ⟨0, 0, 0, none, [], Nat.zero_le _, rfl, rfl, Nat.le_refl _, Lib.hid rfl, Lib.hid rfl, Lib.hid (Below.refl _ _), Lib.hid (World.ownsRow_nil _ _ _ _)⟩
  case round =>
    obtain ⟨j, m, c, T, o, hj, rfl, rfl, hmj, HO, HS, HB, HW⟩ := hrel
    by_cases hlt : j < n
    · obtain ⟨x, hx⟩ : ∃ x, l[j]? = some x := ⟨_, List.getElem?_eq_getElem (by rw [← HN.out]; exact hlt)⟩
      have HX := Lib.hid hx
      have HEA := Lib.hid (HM.out.each x (List.mem_of_getElem? hx))
      obtain ⟨g, q, z, rfl, _, a0, a1, a2, a3⟩ := (HU.out.below HB.out) j x hx
      obtain ⟨st, hst⟩ : ∃ st : ByteArray, strV x.text = .string st := ⟨_, rfl⟩
      have HST : Hid (st.data.toList = x.text) := Lib.hid (by
        unfold strV at hst
        injection hst with hst
        rw [← hst])
      rw [hst] at a2
      have HSV := Lib.hid hst
      clear hx hst
      go_upto_region 5 with (fail)
      obtain ⟨k, hk⟩ : ∃ k, k = x.kind := ⟨_, rfl⟩
      obtain ⟨zi, hzi⟩ : ∃ zi, zi = x.int := ⟨_, rfl⟩
      rw [← hk, ← hzi]
      have HK := Lib.hid hk
      have HZI := Lib.hid hzi
      clear hk hzi
      obtain ⟨w4, hw4⟩ : ∃ w4, w4 = wr.alloc (.cells #[.int .i64 k, .int .i64 z, .string st, .int .i64 zi] 30) := ⟨_, rfl⟩
      have hb4 : Below wr.heap.size wr w4 := by rw [hw4]; exact (Below.refl _ _).alloc (Nat.le_refl _) _
      have K4 : Hid (Bk w4 wr.heap.size 30 #[.int .i64 k, .int .i64 z, .string st, .int .i64 zi]) := Lib.hid (by rw [hw4]; exact Bk.new _ _ _)
      have B4 := Lib.hid (lnk HB.out hb4)
      have W4 := Lib.hid (own_bel HW.out hb4)
      have LR : Hid (wr.heap.size < w4.heap.size) := Lib.hid K4.out.lt
      change Code.wp _ _ _ _ (wr.alloc (.cells #[.int .i64 k, .int .i64 z, .string st, .int .i64 zi] 30))
      rw [← hw4]
      clear hw4 hb4 a0 a1 a2 a3
      obtain ⟨b, hb⟩ : ∃ b, b = wr.heap.size := ⟨_, rfl⟩
      rw [← hb] at K4 LR ⊢
      clear hb
      by_cases h1 : k = 1
      · have t1 : (k == 1) = true := beq_iff_eq.2 h1
        have HSO : Hid (spO x = some (x.text)) := Lib.hid (by unfold spO; rw [← HK.out]; exact if_pos (.inl h1))
        clear h1
        have q0 := K4.out.cell 0
        have q2 := K4.out.cell 2
        have hm9 : m ≤ 1000000 := by omega
        have SZ4 : Hid (w.heap.size ≤ w4.heap.size) := Lib.hid B4.out.size
        go_wp2_with (at_builtin; refine wpList_append_own _ rfl (.tmp 18) (.tmp 21) 40 rfl w.heap.size 9 iS (.string ByteArray.empty) 1 16 Tryd.underlying40 hiS hzS hsS hbS rfl (by decide) _ (m) _ rfl (W4.out.alloc _) ⟨w4.heap.size, 0, none⟩ 1 1 [.string st] rfl (by rfl) (new_alloc (cs := #[.string st]) (t := 9) (by rfl)) (by simp [Value.oneCell']) (by unfold maxLen; omega) (by omega) (by have := SZ4.out; simp; omega) ?_)
        intro v5 w5 hown hgr _
        obtain ⟨A5, c5, rfl, _, _⟩ := own_formN hown
        have W5 : Hid (w5.ownsRow w.heap.size 9 1 (.slice A5 (m + 1) c5) (m + 1) ((o ++ [x.text]).map strV)) := Lib.hid (by
          rw [List.map_append]
          rw [show [x.text].map strV = [Value.string st] from by rw [List.map_singleton]; first | rw [HSV.out] | rfl]
          exact hown)
        have B5 : Hid (Below w.heap.size w w5) := Lib.hid (by
          have hA : Below w.heap.size w (w4.alloc (.cells #[.string st] 9)) := Below.alloc B4.out B4.out.size _
          exact hA.grown hgr hA.size (fun b hb => (W4.out.lt b hb).1))
        have HO5 : Hid ((o ++ [x.text]).length = m + 1) := Lib.hid (by rw [List.length_append, HO.out]; rfl)
        have HS5 : Hid (o ++ [x.text] = spP (l.take (j + 1))) := Lib.hid (by rw [sp_some HX.out HSO.out, HS.out])
        clear hown hgr
        go_wp2_with fail
        go_roundw
        case rel => exact ⟨j + 1, m + 1, c5, A5, _, hlt, by go_num, rfl, by omega, HO5, HS5, B5, W5⟩
        case measure => simp [intOf]; omega
      by_cases h2 : k = 2
      · have t2 : (k == 2) = true := beq_iff_eq.2 h2
        have t1 : (k == 1) = false := beq_eq_false_iff_ne.2 h1
        have HSO : Hid (spO x = some (x.text)) := Lib.hid (by unfold spO; rw [← HK.out]; exact if_pos (.inr (.inl h2)))
        clear h1 h2
        have q0 := K4.out.cell 0
        have q2 := K4.out.cell 2
        have hm9 : m ≤ 1000000 := by omega
        have SZ4 : Hid (w.heap.size ≤ w4.heap.size) := Lib.hid B4.out.size
        go_wp2_with (at_builtin; refine wpList_append_own _ rfl (.tmp 18) (.tmp 21) 40 rfl w.heap.size 9 iS (.string ByteArray.empty) 1 16 Tryd.underlying40 hiS hzS hsS hbS rfl (by decide) _ (m) _ rfl (W4.out.alloc _) ⟨w4.heap.size, 0, none⟩ 1 1 [.string st] rfl (by rfl) (new_alloc (cs := #[.string st]) (t := 9) (by rfl)) (by simp [Value.oneCell']) (by unfold maxLen; omega) (by omega) (by have := SZ4.out; simp; omega) ?_)
        intro v5 w5 hown hgr _
        obtain ⟨A5, c5, rfl, _, _⟩ := own_formN hown
        have W5 : Hid (w5.ownsRow w.heap.size 9 1 (.slice A5 (m + 1) c5) (m + 1) ((o ++ [x.text]).map strV)) := Lib.hid (by
          rw [List.map_append]
          rw [show [x.text].map strV = [Value.string st] from by rw [List.map_singleton]; first | rw [HSV.out] | rfl]
          exact hown)
        have B5 : Hid (Below w.heap.size w w5) := Lib.hid (by
          have hA : Below w.heap.size w (w4.alloc (.cells #[.string st] 9)) := Below.alloc B4.out B4.out.size _
          exact hA.grown hgr hA.size (fun b hb => (W4.out.lt b hb).1))
        have HO5 : Hid ((o ++ [x.text]).length = m + 1) := Lib.hid (by rw [List.length_append, HO.out]; rfl)
        have HS5 : Hid (o ++ [x.text] = spP (l.take (j + 1))) := Lib.hid (by rw [sp_some HX.out HSO.out, HS.out])
        clear hown hgr
        go_wp2_with fail
        go_roundw
        case rel => exact ⟨j + 1, m + 1, c5, A5, _, hlt, by go_num, rfl, by omega, HO5, HS5, B5, W5⟩
        case measure => simp [intOf]; omega
      by_cases h5 : k = 5
      · have t5 : (k == 5) = true := beq_iff_eq.2 h5
        have t1 : (k == 1) = false := beq_eq_false_iff_ne.2 h1
        have t2 : (k == 2) = false := beq_eq_false_iff_ne.2 h2
        have HSO : Hid (spO x = some (x.text)) := Lib.hid (by unfold spO; rw [← HK.out]; exact if_pos (.inr (.inr h5)))
        clear h1 h2 h5
        have q0 := K4.out.cell 0
        have q2 := K4.out.cell 2
        have hm9 : m ≤ 1000000 := by omega
        have SZ4 : Hid (w.heap.size ≤ w4.heap.size) := Lib.hid B4.out.size
        go_wp2_with (at_builtin; refine wpList_append_own _ rfl (.tmp 18) (.tmp 21) 40 rfl w.heap.size 9 iS (.string ByteArray.empty) 1 16 Tryd.underlying40 hiS hzS hsS hbS rfl (by decide) _ (m) _ rfl (W4.out.alloc _) ⟨w4.heap.size, 0, none⟩ 1 1 [.string st] rfl (by rfl) (new_alloc (cs := #[.string st]) (t := 9) (by rfl)) (by simp [Value.oneCell']) (by unfold maxLen; omega) (by omega) (by have := SZ4.out; simp; omega) ?_)
        intro v5 w5 hown hgr _
        obtain ⟨A5, c5, rfl, _, _⟩ := own_formN hown
        have W5 : Hid (w5.ownsRow w.heap.size 9 1 (.slice A5 (m + 1) c5) (m + 1) ((o ++ [x.text]).map strV)) := Lib.hid (by
          rw [List.map_append]
          rw [show [x.text].map strV = [Value.string st] from by rw [List.map_singleton]; first | rw [HSV.out] | rfl]
          exact hown)
        have B5 : Hid (Below w.heap.size w w5) := Lib.hid (by
          have hA : Below w.heap.size w (w4.alloc (.cells #[.string st] 9)) := Below.alloc B4.out B4.out.size _
          exact hA.grown hgr hA.size (fun b hb => (W4.out.lt b hb).1))
        have HO5 : Hid ((o ++ [x.text]).length = m + 1) := Lib.hid (by rw [List.length_append, HO.out]; rfl)
        have HS5 : Hid (o ++ [x.text] = spP (l.take (j + 1))) := Lib.hid (by rw [sp_some HX.out HSO.out, HS.out])
        clear hown hgr
        go_wp2_with fail
        go_roundw
        case rel => exact ⟨j + 1, m + 1, c5, A5, _, hlt, by go_num, rfl, by omega, HO5, HS5, B5, W5⟩
        case measure => simp [intOf]; omega
      by_cases h3 : k = 3
      · have t3 : (k == 3) = true := beq_iff_eq.2 h3
        have t1 : (k == 1) = false := beq_eq_false_iff_ne.2 h1
        have t2 : (k == 2) = false := beq_eq_false_iff_ne.2 h2
        have t5 : (k == 5) = false := beq_eq_false_iff_ne.2 h5
        have HSO : Hid (spO x = some (Lib.itoa zi)) := Lib.hid (by unfold spO; rw [← HK.out, ← HZI.out]; rw [if_neg (by omega)]; exact if_pos h3)
        clear h1 h2 h5 h3
        have q0 := K4.out.cell 0
        have q3 := K4.out.cell 3
        have IT := Lib.hid (itoa_any zi w4 (by rw [HZI.out]; exact HEA.out.2.1) (by rw [HZI.out]; exact HEA.out.2.2) (HE.out.on B4.out))
        obtain ⟨pc, hpc⟩ : ∃ pc, pc = Lib.itoa zi := ⟨_, rfl⟩
        rw [← hpc] at IT HSO
        clear hpc
        go_wp2_with fail
        refine (IT.out).mono ?_
        rintro _ w6 ⟨rfl, hb6⟩
        have B6 := Lib.hid (lnk B4.out hb6)
        have W6 := Lib.hid (own_bel W4.out hb6)
        clear hb6 IT q0 q3
        have hm9 : m ≤ 1000000 := by omega
        have SZ4 : Hid (w.heap.size ≤ w6.heap.size) := Lib.hid B6.out.size
        go_wp2_with (at_builtin; refine wpList_append_own _ rfl (.tmp 25) (.tmp 29) 40 rfl w.heap.size 9 iS (.string ByteArray.empty) 1 16 Tryd.underlying40 hiS hzS hsS hbS rfl (by decide) _ (m) _ rfl (W6.out.alloc _) ⟨w6.heap.size, 0, none⟩ 1 1 [.string ⟨pc.toArray⟩] rfl (by rfl) (new_alloc (cs := #[.string ⟨pc.toArray⟩]) (t := 9) (by rfl)) (by simp [Value.oneCell']) (by unfold maxLen; omega) (by omega) (by have := SZ4.out; simp; omega) ?_)
        intro v5 w5 hown hgr _
        obtain ⟨A5, c5, rfl, _, _⟩ := own_formN hown
        have W5 : Hid (w5.ownsRow w.heap.size 9 1 (.slice A5 (m + 1) c5) (m + 1) ((o ++ [pc]).map strV)) := Lib.hid (by
          rw [List.map_append]
          rw [show [pc].map strV = [Value.string ⟨pc.toArray⟩] from by rw [List.map_singleton]; first | rw [HSV.out] | rfl]
          exact hown)
        have B5 : Hid (Below w.heap.size w w5) := Lib.hid (by
          have hA : Below w.heap.size w (w6.alloc (.cells #[.string ⟨pc.toArray⟩] 9)) := Below.alloc B6.out B6.out.size _
          exact hA.grown hgr hA.size (fun b hb => (W6.out.lt b hb).1))
        have HO5 : Hid ((o ++ [pc]).length = m + 1) := Lib.hid (by rw [List.length_append, HO.out]; rfl)
        have HS5 : Hid (o ++ [pc] = spP (l.take (j + 1))) := Lib.hid (by rw [sp_some HX.out HSO.out, HS.out])
        clear hown hgr
        go_wp2_with fail
        go_roundw
        case rel => exact ⟨j + 1, m + 1, c5, A5, _, hlt, by go_num, rfl, by omega, HO5, HS5, B5, W5⟩
        case measure => simp [intOf]; omega
      by_cases h4 : k = 4
      · have t4 : (k == 4) = true := beq_iff_eq.2 h4
        have t1 : (k == 1) = false := beq_eq_false_iff_ne.2 h1
        have t2 : (k == 2) = false := beq_eq_false_iff_ne.2 h2
        have t5 : (k == 5) = false := beq_eq_false_iff_ne.2 h5
        have t3 : (k == 3) = false := beq_eq_false_iff_ne.2 h3
        have HSO : Hid (spO x = some (quoL x.text)) := Lib.hid (by unfold spO; rw [← HK.out]; rw [if_neg (by omega), if_neg h3]; exact if_pos h4)
        clear h1 h2 h5 h3 h4
        have q0 := K4.out.cell 0
        have q2 := K4.out.cell 2
        have QU := Lib.hid (Quote_any st w4 (by have e1 : st.data.toList.length = st.size := by simp
                                                have := HEA.out.1; rw [HST.out] at e1; omega))
        rw [HST.out] at QU
        obtain ⟨pc, hpc⟩ : ∃ pc, pc = quoL x.text := ⟨_, rfl⟩
        rw [← hpc] at QU HSO
        clear hpc
        go_wp2_with fail
        refine (QU.out).mono ?_
        rintro _ w6 ⟨rfl, hb6⟩
        have B6 := Lib.hid (lnk B4.out hb6)
        have W6 := Lib.hid (own_bel W4.out hb6)
        clear hb6 QU q0 q2
        have hm9 : m ≤ 1000000 := by omega
        have SZ4 : Hid (w.heap.size ≤ w6.heap.size) := Lib.hid B6.out.size
        go_wp2_with (at_builtin; refine wpList_append_own _ rfl (.tmp 33) (.tmp 37) 40 rfl w.heap.size 9 iS (.string ByteArray.empty) 1 16 Tryd.underlying40 hiS hzS hsS hbS rfl (by decide) _ (m) _ rfl (W6.out.alloc _) ⟨w6.heap.size, 0, none⟩ 1 1 [.string ⟨pc.toArray⟩] rfl (by rfl) (new_alloc (cs := #[.string ⟨pc.toArray⟩]) (t := 9) (by rfl)) (by simp [Value.oneCell']) (by unfold maxLen; omega) (by omega) (by have := SZ4.out; simp; omega) ?_)
        intro v5 w5 hown hgr _
        obtain ⟨A5, c5, rfl, _, _⟩ := own_formN hown
        have W5 : Hid (w5.ownsRow w.heap.size 9 1 (.slice A5 (m + 1) c5) (m + 1) ((o ++ [pc]).map strV)) := Lib.hid (by
          rw [List.map_append]
          rw [show [pc].map strV = [Value.string ⟨pc.toArray⟩] from by rw [List.map_singleton]; first | rw [HSV.out] | rfl]
          exact hown)
        have B5 : Hid (Below w.heap.size w w5) := Lib.hid (by
          have hA : Below w.heap.size w (w6.alloc (.cells #[.string ⟨pc.toArray⟩] 9)) := Below.alloc B6.out B6.out.size _
          exact hA.grown hgr hA.size (fun b hb => (W6.out.lt b hb).1))
        have HO5 : Hid ((o ++ [pc]).length = m + 1) := Lib.hid (by rw [List.length_append, HO.out]; rfl)
        have HS5 : Hid (o ++ [pc] = spP (l.take (j + 1))) := Lib.hid (by rw [sp_some HX.out HSO.out, HS.out])
        clear hown hgr
        go_wp2_with fail
        go_roundw
        case rel => exact ⟨j + 1, m + 1, c5, A5, _, hlt, by go_num, rfl, by omega, HO5, HS5, B5, W5⟩
        case measure => simp [intOf]; omega
      have t1 : (k == 1) = false := beq_eq_false_iff_ne.2 h1
      have t2 : (k == 2) = false := beq_eq_false_iff_ne.2 h2
      have t5 : (k == 5) = false := beq_eq_false_iff_ne.2 h5
      have t3 : (k == 3) = false := beq_eq_false_iff_ne.2 h3
      have t4 : (k == 4) = false := beq_eq_false_iff_ne.2 h4
      have HSO : Hid (spO x = none) := Lib.hid (by unfold spO; rw [← HK.out, if_neg (by omega), if_neg h3, if_neg h4])
      clear h1 h2 h3 h4 h5
      have q0 := K4.out.cell 0
      have HS5 : Hid (o = spP (l.take (j + 1))) := Lib.hid (by rw [sp_none HX.out HSO.out, HS.out])
      go_wp2_with fail
      go_roundw
      case rel => exact ⟨j + 1, m, c, T, o, hlt, by go_num, rfl, by omega, HO, HS5, B4, W4⟩
      case measure => simp [intOf]; omega
    · have HSL : Hid (Lib.join o [32] = spL l) := Lib.hid (by
        rw [HS.out, List.take_of_length_le (by rw [← HN.out]; omega)]; rfl)
      have JO := Lib.hid (join_any HW.out (by omega) (by rw [HSL.out]; have := spL_len HM.out; omega))
      rw [HSL.out] at JO
      go_wp2_with fail
      refine (JO.out).mono ?_
      rintro _ w6 ⟨rfl, hb6⟩
      have B6 := Lib.hid (lnk HB.out hb6)
      clear hb6
      go_wp2
      go_ret
      exact ⟨rfl, B6.out⟩
end Go.Proofs.YtemdcgeopaphaaaDoor
