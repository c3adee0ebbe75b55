/-
  Texts of layers 1 and 2, part N: contracts of the code's functions and what they lean on.
-/
import Derived.Test.YtjbjoalinfhahaaBM
import Derived.Test.YtjbjoalinfhahaaBI
import Derived.SizedLaws
import Derived.Test.YtjbjoalinfhahaaBK
import Derived.Test.YtjbjoalinfhahaaRows
import Derived.Test.YtjbjoalinfhahaaBA
import Derived.Test.YtjbjoalinfhahaaBF
namespace Go.Proofs.Ytjbjoalinfhahaa.opens
open Go.ChangeShapes Go.WideShapes Go.ChangeAt Go.RowKit

theorem Try.vbytes : Try.prog.bytesOf 26 = 80 := by kernel_rfl
theorem Try.sbytes : Try.prog.bytesOf 9 = 16 := by kernel_rfl
theorem alls_of {p : VT → Bool} : ∀ {l : List VT}, (∀ (j : Nat) (x : VT), l[j]? = some x → x.all p = true) → alls p l = true
  | [], _ => rfl
  | x :: r, h => by
    rw [alls, h 0 x rfl, alls_of (fun j y hj => h (j + 1) y (by simpa using hj))]
    rfl
theorem weightsAll_in {H : Type} {P : Program} {e : TypeId} : ∀ {l : List (DataW H)} {d : DataW H}, d ∈ l → ∀ n ∈ d.weights P e, n ∈ DataW.weightsAll P e l
  | [], _, h, _, _ => by cases h
  | x :: r, d, h, n, hn => by
    rw [DataW.weightsAll]
    rcases List.mem_cons.1 h with rfl | h
    · exact List.mem_append_left _ hn
    · exact List.mem_append_right _ (weightsAll_in h n hn)
section
variable {H : Type} {enc : TypeId × Value → H} {W : World} {base : Nat} {spare : Nat → Bool} {held : Bool}
theorem row_reach {e t : TypeId} {bytes fuel : Nat} {A : Option Addr} {m c : Nat} {y : DataW H × List MemPlace} (ht : Try.prog.underlying t = some (.slice e)) (hb : Try.prog.bytesOf e = bytes)
    (h : DataW.trod enc Try.prog W base spare held fuel t [.slice A m c] = some y) (hw : ∀ n ∈ y.1.weights Try.prog t, n ≤ reachBytes) : m * bytes ≤ 140737488355328 := by
  rcases DataW.trod_slice ht h with ⟨e1, _⟩ | ⟨ad, len, cap, elems, rest, n', _, e1, rfl, _, _, _, hlen, _⟩
  · simp only [List.cons.injEq, and_true, Value.slice.injEq] at e1
    rw [e1.2.1]; omega
  · simp only [List.cons.injEq, and_true, Value.slice.injEq] at e1
    have h1 := hw ((elems.length + rest.length) * bytes) (by rw [DataW.weights, ht]; simp [hb])
    rw [e1.2.1, ← hlen]
    unfold reachBytes at h1
    rw [Nat.add_mul] at h1
    omega
set_option maxRecDepth 100000 in
theorem reach_lies : ∀ (fuel : Nat) (a b s p q : Value) (y : DataW H × List MemPlace), DataW.trod enc Try.prog W base spare held fuel 26 [a, b, s, p, q] = some y → (∀ n ∈ y.1.weights Try.prog 26, n ≤ reachBytes) →
    ∀ x : VT, Lies W (Lo W) x (.agg #[a, b, s, p, q]) → x.all reachF = true := by
  intro fuel
  induction fuel using Nat.strongRecOn with
  | ind fuel ih =>
    intro a b s p q y h hw x hx
    obtain ⟨xs, n, rfl, rfl, hl, hxs, hf⟩ := DataW.trod_struct Try.underlying26 h
    match xs, hxs with
    | [x0, x1, x2, x3, x4], _ =>
      have f3 := hf 3 _ rfl
      have f4 := hf 4 _ rfl
      change DataW.trod enc Try.prog W base spare held n 23 (([a, b, s, p, q].drop 3).take (Try.prog.cellsOf 23)) = some x3 at f3
      rw [Try.lcells] at f3
      change DataW.trod enc Try.prog W base spare held n 22 (([a, b, s, p, q].drop 4).take (Try.prog.cellsOf 22)) = some x4 at f4
      rw [Try.kcells] at f4
      change DataW.trod enc Try.prog W base spare held n 23 [p] = some x3 at f3
      change DataW.trod enc Try.prog W base spare held n 22 [q] = some x4 at f4
      have w3 : ∀ n ∈ x3.1.weights Try.prog 23, n ≤ reachBytes := fun m hm => hw m (by
        show m ∈ DataW.weights _ _ (.agg _)
        rw [DataW.weights, Try.underlying26]
        exact DataW.weights_mem_each (j := 3) rfl rfl m hm)
      have w4 : ∀ n ∈ x4.1.weights Try.prog 22, n ≤ reachBytes := fun m hm => hw m (by
        show m ∈ DataW.weights _ _ (.agg _)
        rw [DataW.weights, Try.underlying26]
        exact DataW.weights_mem_each (j := 4) rfl rfl m hm)
      obtain ⟨k, i, t, its, ks⟩ := x
      obtain ⟨A, c, A', c', e, _, _, _, _, _, hL, _, _, hS⟩ := hx.open
      unfold vag at e
      injection e with e
      have e' := congrArg Array.toList e
      simp only [List.cons.injEq, and_true] at e'
      obtain ⟨rfl, rfl, rfl, rfl, rfl⟩ := e'
      have r1 := row_reach Try.underlying23 Try.vbytes f3 w3
      have r2 := row_reach Try.underlying22 Try.sbytes f4 w4
      rw [VT.all_mk]
      have hr : reachF (.mk k i t its ks) = true := by
        unfold reachF VT.its VT.ks
        rw [decide_eq_true r1, decide_eq_true r2]
        rfl
      rw [hr, Bool.true_and]
      refine alls_of (fun j z hj => ?_)
      have hjl := (List.getElem?_eq_some_iff.1 hj).1
      obtain ⟨g, o, k', i', t', B, n', c1, B', n1, c2, hA, hg, e0, e1, e2, e3, e4, hz⟩ := hL.at_ hj
      subst hA
      rcases DataW.trod_slice Try.underlying23 f3 with ⟨q1, _⟩ | ⟨ad, len, cap, elems, rest, n2, rfl, q1, rfl, _, _, _, hlen, hel, _⟩
      · simp only [List.cons.injEq, and_true, Value.slice.injEq] at q1
        omega
      · simp only [List.cons.injEq, and_true, Value.slice.injEq, Option.some.injEq] at q1
        obtain ⟨rfl, hl2, _⟩ := q1
        have h1 := hel j (by omega)
        rw [Try.vcells] at h1
        have h2 : elems[j]? = some (elems[j]'(by omega)) := List.getElem?_eq_getElem _
        rw [h2] at h1
        obtain ⟨cs', hc1, hc2⟩ := Option.bind_eq_some_iff.1 h1
        obtain ⟨_, hcl, h3⟩ := World.cells?_some hc1
        have wz : ∀ n ∈ (elems[j]'(by omega)).1.weights Try.prog 26, n ≤ reachBytes := fun m hm => w3 m (by
          show m ∈ DataW.weights _ _ (.slice _ _)
          rw [DataW.weights, Try.underlying23]
          exact List.mem_cons_of_mem _ (List.mem_append_left _ (weightsAll_in (List.mem_map_of_mem (List.getElem_mem _)) m hm)))
        obtain ⟨d0, d1, d2, d3, d4, rfl⟩ : ∃ d0 d1 d2 d3 d4, cs' = [d0, d1, d2, d3, d4] := by
          match cs', hcl with
          | [d0, d1, d2, d3, d4], _ => exact ⟨_, _, _, _, _, rfl⟩
        have g0 := h3 0 (by omega)
        have g1 := h3 1 (by omega)
        have g2 := h3 2 (by omega)
        have g3 := h3 3 (by omega)
        have g4 := h3 4 (by omega)
        rw [Addr.add_lit, Addr.add_lit] at g0 g1 g2 g3 g4
        rw [Nat.zero_add] at e0 e1 e2 e3 e4
        obtain rfl := Option.some.inj (e0.symm.trans (show W.cell? ⟨g, o + j * 5, none⟩ = some d0 from g0))
        obtain rfl := Option.some.inj (e1.symm.trans (show W.cell? ⟨g, o + j * 5 + 1, none⟩ = some d1 from g1))
        obtain rfl := Option.some.inj (e2.symm.trans (show W.cell? ⟨g, o + j * 5 + 2, none⟩ = some d2 from g2))
        obtain rfl := Option.some.inj (e3.symm.trans (show W.cell? ⟨g, o + j * 5 + 3, none⟩ = some d3 from g3))
        obtain rfl := Option.some.inj (e4.symm.trans (show W.cell? ⟨g, o + j * 5 + 4, none⟩ = some d4 from g4))
        exact ih n2 (by omega) _ _ _ _ _ _ hc2 wz z hz

set_option maxRecDepth 100000 in
theorem value_reach {r : Reach} {b0 : Nat} {v : Value} {d : DataW H} {ps : List MemPlace} (hval : Value.okWide Try.prog W r b0 26 v) (hd : DataW.Trod enc Try.prog W base spare held 26 v d ps) (hw : ∀ n ∈ d.weights Try.prog 26, n ≤ reachBytes) :
    ∃ x : VT, Lies W (Lo W) x v ∧ x.all reachF = true := by
  obtain ⟨cs, rfl, _⟩ := okWide_struct Try.underlying26 hval
  obtain ⟨fuel, hf⟩ := hd
  obtain ⟨x, a, b, s, p, q, hcs, hx⟩ := value_lies fuel _ _ hf
  have : cs = #[a, b, s, p, q] := by
    apply Array.toList_inj.1
    simpa [Value.cells] using hcs
  subst this
  exact ⟨x, hx, reach_lies fuel a b s p q _ hf hw x hx⟩
end
end Go.Proofs.Ytjbjoalinfhahaa.opens
namespace Go.Proofs.Ytjbjoalinfhahaa
open Go.RowKit

def kws : List ByteArray → Nat
  | [] => 0
  | s :: r => s.size + kws r
mutual
def VT.wt : VT → Nat
  | .mk _ _ t its ks => 40 + t.size + wts its + kws ks
def wts : List VT → Nat
  | [] => 0
  | x :: r => x.wt + wts r
end
theorem encText_le (s : ByteArray) : (encText s.data.toList).length ≤ 10 + s.size := by
  unfold encText
  rw [List.length_append]
  have := enc_len (s.data.toList.length : Nat)
  have e : s.data.toList.length = s.size := rfl
  omega
mutual
theorem enc_wt : ∀ x : VT, x.enc.length + 10 ≤ x.wt
  | .mk k i t its ks => by
    rw [VT.enc_mk, VT.wt]
    have h1 := enc_len k
    have h2 := enc_len i
    have h3 := enc_len (its.length : Nat)
    have h4 := encs_wt (decide (k = 5)) its ks
    have h5 := encText_le t
    rw [List.length_append]
    split
    · omega
    · split
      · omega
      · split
        · rw [List.length_append]; omega
        · rw [List.length_nil]; omega
theorem encs_wt (m : Bool) : ∀ (its : List VT) (ks : List ByteArray), (encs m its ks).length ≤ wts its + kws ks
  | [], _ => by rw [encs]; simp
  | x :: r, ks => by
    rw [encs, wts]
    have h1 := enc_wt x
    have h2 := encs_wt m r ks.tail
    have h3 : (ks.headD ByteArray.empty).size + kws ks.tail = kws ks := by
      cases ks with
      | nil => rfl
      | cons s l => rfl
    have h4 := encText_le (ks.headD ByteArray.empty)
    rw [List.length_append, List.length_append]
    cases m
    · rw [if_neg (by decide), List.length_nil]; omega
    · rw [if_pos rfl]; omega
end
end Go.Proofs.Ytjbjoalinfhahaa
namespace Go.Proofs.Ytjbjoalinfhahaa.opens
open Go.ChangeShapes Go.WideShapes Go.ChangeAt Go.RowKit

theorem kws_le {H : Type} : ∀ l : List ByteArray, kws l ≤ Rows.uptoBulkAll (l.map fun s => DataW.lit (H := H) (.string s.data.toList))
  | [] => by rw [kws]; omega
  | s :: r => by
    have := kws_le (H := H) r
    have e : s.data.toList.length = s.size := rfl
    rw [kws, List.map_cons, Rows.uptoBulkAll, Rows.uptoBulk]
    omega
theorem wts_le {H : Type} : ∀ (l : List VT) (ds : List (DataW H)), l.length ≤ ds.length → (∀ (j : Nat) (x : VT) (d : DataW H), l[j]? = some x → ds[j]? = some d → x.wt ≤ 40 * Rows.uptoBulk d) → wts l ≤ 40 * Rows.uptoBulkAll ds
  | [], _, _, _ => by rw [wts]; omega
  | x :: r, [], h, _ => by simp at h
  | x :: r, d :: ds, h, hp => by
    have h1 := wts_le r ds (by simpa using h) (fun j y e h1 h2 => hp (j + 1) y e (by simpa using h1) (by simpa using h2))
    have h2 := hp 0 x d rfl rfl
    rw [wts, Rows.uptoBulkAll]
    omega
section
variable {H : Type} {enc : TypeId × Value → H} {W : World} {base : Nat} {spare : Nat → Bool} {held : Bool}
theorem strs_bulk {fuel : Nat} {A : Option Addr} {m c : Nat} {R : Nat → Prop} {ks : List ByteArray} {y : DataW H × List MemPlace} (h : DataW.trod enc Try.prog W base spare held fuel 22 [.slice A m c] = some y) (hm : ks.length = m) (hS : LiesS W R A ks) :
    kws ks ≤ Rows.uptoBulk y.1 := by
  rcases open_strings Try.underlying22 Try.underlying9 Try.scells h with ⟨e1, _⟩ | ⟨a, len, cap, ss, e1, _, hl, _, hss, rfl, hc, _⟩
  · simp only [List.cons.injEq, and_true, Value.slice.injEq] at e1
    obtain ⟨_, rfl, _⟩ := e1
    rw [List.eq_nil_of_length_eq_zero hm, kws]
    omega
  · simp only [List.cons.injEq, and_true, Value.slice.injEq] at e1
    obtain ⟨rfl, rfl, rfl⟩ := e1
    have hle : m ≤ ss.length := by rw [hss]; split <;> omega
    have e : ks = ss.take m := by
      apply List.ext_getElem?
      intro j
      by_cases hj : j < m
      · have h1 := List.getElem?_eq_getElem (l := ks) (i := j) (by omega)
        obtain ⟨_, g, o, e, _, h2⟩ := hS j _ h1
        injection e with e
        subst e
        have h3 := hc j (by omega)
        rw [Addr.add_lit, h2] at h3
        injection h3 with h3
        injection h3 with h3
        rw [h1, h3, List.getElem?_take, if_pos hj, List.getD_eq_getElem?_getD, List.getElem?_eq_getElem (show j < ss.length by omega)]
        rfl
      · rw [List.getElem?_eq_none (by omega), List.getElem?_eq_none (by rw [List.length_take]; omega)]
    rw [e]
    have := kws_le (H := H) (ss.take m)
    show _ ≤ Rows.uptoBulk (DataW.slice (strs (ss.take m)) _)
    rw [Rows.uptoBulk]
    have e2 : (strs (ss.take m) : List (DataW H)) = (ss.take m).map fun s => DataW.lit (H := H) (.string s.data.toList) := rfl
    rw [e2]
    omega
set_option maxRecDepth 100000 in
theorem bulk_lies : ∀ (fuel : Nat) (a b s p q : Value) (y : DataW H × List MemPlace), DataW.trod enc Try.prog W base spare held fuel 26 [a, b, s, p, q] = some y →
    ∀ x : VT, Lies W (Lo W) x (.agg #[a, b, s, p, q]) → x.wt ≤ 40 * Rows.uptoBulk y.1 := by
  intro fuel
  induction fuel using Nat.strongRecOn with
  | ind fuel ih =>
    intro a b s p q y h x hx
    obtain ⟨xs, n, rfl, rfl, hl, hxs, hf⟩ := DataW.trod_struct Try.underlying26 h
    match xs, hxs with
    | [x0, x1, x2, x3, x4], _ =>
      have f2 := hf 2 _ rfl
      have f3 := hf 3 _ rfl
      have f4 := hf 4 _ rfl
      change DataW.trod enc Try.prog W base spare held n 9 (([a, b, s, p, q].drop 2).take (Try.prog.cellsOf 9)) = some x2 at f2
      rw [Try.scells] at f2
      change DataW.trod enc Try.prog W base spare held n 23 (([a, b, s, p, q].drop 3).take (Try.prog.cellsOf 23)) = some x3 at f3
      rw [Try.lcells] at f3
      change DataW.trod enc Try.prog W base spare held n 22 (([a, b, s, p, q].drop 4).take (Try.prog.cellsOf 22)) = some x4 at f4
      rw [Try.kcells] at f4
      change DataW.trod enc Try.prog W base spare held n 9 [s] = some x2 at f2
      change DataW.trod enc Try.prog W base spare held n 23 [p] = some x3 at f3
      change DataW.trod enc Try.prog W base spare held n 22 [q] = some x4 at f4
      obtain ⟨k, i, t, its, ks⟩ := x
      obtain ⟨A, c, A', c', e, _, _, _, _, _, hL, _, _, hS⟩ := hx.open
      unfold vag at e
      injection e with e
      have e' := congrArg Array.toList e
      simp only [List.cons.injEq, and_true] at e'
      obtain ⟨rfl, rfl, rfl, rfl, rfl⟩ := e'
      obtain ⟨t', ht, rfl, _⟩ := DataW.trod_string Try.underlying9 f2
      simp only [List.cons.injEq, and_true, Value.string.injEq] at ht
      subst ht
      have hk := strs_bulk f4 rfl hS
      have hi : wts its ≤ 40 * Rows.uptoBulk x3.1 := by
        rcases DataW.trod_slice Try.underlying23 f3 with ⟨q1, _⟩ | ⟨ad, len, cap, elems, rest, n2, rfl, q1, rfl, _, _, _, hlen, hel, _⟩
        · simp only [List.cons.injEq, and_true, Value.slice.injEq] at q1
          rw [List.eq_nil_of_length_eq_zero q1.2.1, wts]
          omega
        · simp only [List.cons.injEq, and_true, Value.slice.injEq] at q1
          obtain ⟨rfl, hl2, _⟩ := q1
          have := wts_le its (elems.map (·.1)) (by rw [List.length_map]; omega) (fun j z d hj hd => by
            have hjl := (List.getElem?_eq_some_iff.1 hj).1
            obtain ⟨g, o, k', i', t', B, n', c1, B', n1, c2, hA, hg, e0, e1, e2, e3, e4, hz⟩ := hL.at_ hj
            injection hA with hA
            subst hA
            have h1 := hel j (by omega)
            rw [Try.vcells] at h1
            have h2 : elems[j]? = some (elems[j]'(by omega)) := List.getElem?_eq_getElem _
            rw [h2] at h1
            rw [List.getElem?_map, h2] at hd
            simp only [Option.map_some, Option.some.injEq] at hd
            subst hd
            obtain ⟨cs', hc1, hc2⟩ := Option.bind_eq_some_iff.1 h1
            obtain ⟨_, hcl, h3⟩ := World.cells?_some hc1
            obtain ⟨d0, d1, d2, d3, d4, rfl⟩ : ∃ d0 d1 d2 d3 d4, cs' = [d0, d1, d2, d3, d4] := by
              match cs', hcl with
              | [d0, d1, d2, d3, d4], _ => exact ⟨_, _, _, _, _, rfl⟩
            have g0 := h3 0 (by omega)
            have g1 := h3 1 (by omega)
            have g2 := h3 2 (by omega)
            have g3 := h3 3 (by omega)
            have g4 := h3 4 (by omega)
            rw [Addr.add_lit, Addr.add_lit] at g0 g1 g2 g3 g4
            rw [Nat.zero_add] at e0 e1 e2 e3 e4
            obtain rfl := Option.some.inj (e0.symm.trans (show W.cell? ⟨g, o + j * 5, none⟩ = some d0 from g0))
            obtain rfl := Option.some.inj (e1.symm.trans (show W.cell? ⟨g, o + j * 5 + 1, none⟩ = some d1 from g1))
            obtain rfl := Option.some.inj (e2.symm.trans (show W.cell? ⟨g, o + j * 5 + 2, none⟩ = some d2 from g2))
            obtain rfl := Option.some.inj (e3.symm.trans (show W.cell? ⟨g, o + j * 5 + 3, none⟩ = some d3 from g3))
            obtain rfl := Option.some.inj (e4.symm.trans (show W.cell? ⟨g, o + j * 5 + 4, none⟩ = some d4 from g4))
            exact ih n2 (by omega) _ _ _ _ _ _ hc2 z hz)
          rw [Rows.uptoBulk]
          omega
      have e2 : t.data.toList.length = t.size := rfl
      rw [VT.wt]
      show _ ≤ 40 * Rows.uptoBulk (DataW.agg [x0.1, x1.1, DataW.lit (.string t.data.toList), x3.1, x4.1])
      rw [Rows.uptoBulk]
      simp only [Rows.uptoBulkAll]
      rw [show Rows.uptoBulk (DataW.lit (H := H) (.string t.data.toList)) = t.data.toList.length + 1 by rw [Rows.uptoBulk]]
      omega

set_option maxRecDepth 100000 in
theorem value_bulk {r : Reach} {b0 : Nat} {v : Value} {d : DataW H} {ps : List MemPlace} (hval : Value.okWide Try.prog W r b0 26 v) (hd : DataW.Trod enc Try.prog W base spare held 26 v d ps) :
    ∃ x : VT, Lies W (Lo W) x v ∧ x.wt ≤ 40 * Rows.uptoBulk d := by
  obtain ⟨cs, rfl, _⟩ := okWide_struct Try.underlying26 hval
  obtain ⟨fuel, hf⟩ := hd
  obtain ⟨x, a, b, s, p, q, hcs, hx⟩ := value_lies fuel _ _ hf
  have : cs = #[a, b, s, p, q] := by
    apply Array.toList_inj.1
    simpa [Value.cells] using hcs
  subst this
  exact ⟨x, hx, bulk_lies fuel a b s p q _ hf x hx⟩
end
end Go.Proofs.Ytjbjoalinfhahaa.opens
namespace Go.Proofs.Ytjbjoalinfhahaa
open Go.RowKit

/-- what put of the reference is asked of values of at most m nodes -/
def RefPutUpto (m : Nat) : Prop := ∀ (x : VT) (w : World) (v : Value) (B n c : Nat) (A : Option Addr) (l : List UInt8), x.size ≤ m → x.all okF = true → Lies w (Lo w) x v → Rb w B A n l → B ≤ w.heap.size →
  n + x.enc.length ≤ 30000000000000 → Calls Try.prog 84 #[.slice A n c, v] w (OwnRes w (l ++ x.enc))

set_option maxRecDepth 100000 in
set_option maxHeartbeats 4000000 in
set_option linter.unusedVariables false in
theorem rp_0 (m : Nat) (IH : Hid (RefPutUpto m)) (i : Int) (t : ByteArray) (its : List VT) (ks : List ByteArray) (A : Option Addr) (c : Nat) (A' : Option Addr) (c' : Nat) (w : World) (B n0 c0 : Nat) (A0 : Option Addr) (l : List UInt8)
    (hi : -9223372036854775808 ≤ i ∧ i ≤ 9223372036854775807) (hL : LiesL w (Lo w) A 0 its) (hS : LiesS w (Lo w) A' ks) (hkc : ks.length ≤ c') (hcm' : c' ≤ 9223372036854775807) (h1 : its.length ≤ c) (h2 : c ≤ 9223372036854775807) (hsz : sizes its ≤ m) (hw : alls okF its = true) (hf : okF (.mk 0 i t its ks) = true)
    (hr : Rb w B A0 n0 l) (hB : B ≤ w.heap.size) (hn : n0 + (VT.mk 0 i t its ks).enc.length ≤ 30000000000000) :
    Calls Try.prog 84 #[.slice A0 n0 c0, vag 0 i t A its.length c A' ks.length c'] w (OwnRes w (l ++ (VT.mk 0 i t its ks).enc)) := by
  have HNN := Lib.hid hn
  obtain ⟨w1, hw1⟩ : ∃ w1, w1 = w.alloc (.cells #[.int .i64 0, .int .i64 i, .string t, .slice A its.length c, .slice A' ks.length c'] 26) := ⟨_, rfl⟩
  have P1 : Hid (Bk w1 w.heap.size 26 #[.int .i64 0, .int .i64 i, .string t, .slice A its.length c, .slice A' ks.length c']) := Lib.hid (by rw [hw1]; exact Bk.new _ _ _)
  have B1 : Hid (Below w.heap.size w w1) := Lib.hid (by rw [hw1]; exact below_one _ _)
  have LL := Lib.hid hr.len
  have HA := Lib.hid (refPutInt_any A0 n0 c0 l B w1 0 (hr.below (B1.out.mono hB)) (Nat.le_trans hB B1.out.size) (by omega) (by omega) (by omega))
  have HW := Lib.hid hw1
  have HL := Lib.hid hL
  have HS := Lib.hid hS
  have HI := Lib.hid hi
  have HWF := Lib.hid hw
  have HFF := Lib.hid hf
  have HE := Lib.hid (encN (i := i) (t := t) (its := its) (ks := ks))
  clear hL hS hw hf hr hB hn hw1 hi
  unfold vag
  go_enter Try.func84, Try.ntmps84
  go_wp2_with fail
  rw [← HW.out]
  refine (HA.out).mono ?_
  intro e w2 hq
  obtain ⟨A2, n2, c2, rfl, hl2, hc2, hm2, R2, O2, B2⟩ := own_named hq
  have P2 := Lib.hid (P1.out.below B2.out P1.out.lt)
  have BB := Lib.hid (below_next B1.out B2.out)
  have Z2 : Hid (w.heap.size ≤ w2.heap.size) := Lib.hid BB.out.size
  have p0 := P2.out.cell 0
  have p1 := P2.out.cell 1
  have p2 := P2.out.cell 2
  have p3 := P2.out.cell 3
  have p4 := P2.out.cell 4
  clear hq HA
  go_wp2
  go_ret
  exact ⟨_, rfl, by rw [HE.out, hl2.out]; exact own_mono O2.out B1.out.size, BB.out⟩

set_option maxRecDepth 100000 in
set_option maxHeartbeats 4000000 in
set_option linter.unusedVariables false in
theorem rp_1 (m : Nat) (IH : Hid (RefPutUpto m)) (i : Int) (t : ByteArray) (its : List VT) (ks : List ByteArray) (A : Option Addr) (c : Nat) (A' : Option Addr) (c' : Nat) (w : World) (B n0 c0 : Nat) (A0 : Option Addr) (l : List UInt8)
    (hi : -9223372036854775808 ≤ i ∧ i ≤ 9223372036854775807) (hL : LiesL w (Lo w) A 0 its) (hS : LiesS w (Lo w) A' ks) (hkc : ks.length ≤ c') (hcm' : c' ≤ 9223372036854775807) (h1 : its.length ≤ c) (h2 : c ≤ 9223372036854775807) (hsz : sizes its ≤ m) (hw : alls okF its = true) (hf : okF (.mk 1 i t its ks) = true)
    (hr : Rb w B A0 n0 l) (hB : B ≤ w.heap.size) (hn : n0 + (VT.mk 1 i t its ks).enc.length ≤ 30000000000000) :
    Calls Try.prog 84 #[.slice A0 n0 c0, vag 1 i t A its.length c A' ks.length c'] w (OwnRes w (l ++ (VT.mk 1 i t its ks).enc)) := by
  have HNN := Lib.hid hn
  obtain ⟨w1, hw1⟩ : ∃ w1, w1 = w.alloc (.cells #[.int .i64 1, .int .i64 i, .string t, .slice A its.length c, .slice A' ks.length c'] 26) := ⟨_, rfl⟩
  have P1 : Hid (Bk w1 w.heap.size 26 #[.int .i64 1, .int .i64 i, .string t, .slice A its.length c, .slice A' ks.length c']) := Lib.hid (by rw [hw1]; exact Bk.new _ _ _)
  have B1 : Hid (Below w.heap.size w w1) := Lib.hid (by rw [hw1]; exact below_one _ _)
  have LL := Lib.hid hr.len
  have HA := Lib.hid (refPutInt_any A0 n0 c0 l B w1 1 (hr.below (B1.out.mono hB)) (Nat.le_trans hB B1.out.size) (by omega) (by omega) (by omega))
  have HW := Lib.hid hw1
  have HL := Lib.hid hL
  have HS := Lib.hid hS
  have HI := Lib.hid hi
  have HWF := Lib.hid hw
  have HFF := Lib.hid hf
  have HE := Lib.hid (encI (k := 1) (i := i) (t := t) (its := its) (ks := ks) (by omega))
  clear hL hS hw hf hr hB hn hw1 hi
  unfold vag
  go_enter Try.func84, Try.ntmps84
  go_wp2_with fail
  rw [← HW.out]
  refine (HA.out).mono ?_
  intro e w2 hq
  obtain ⟨A2, n2, c2, rfl, hl2, hc2, hm2, R2, O2, B2⟩ := own_named hq
  have P2 := Lib.hid (P1.out.below B2.out P1.out.lt)
  have BB := Lib.hid (below_next B1.out B2.out)
  have Z2 : Hid (w.heap.size ≤ w2.heap.size) := Lib.hid BB.out.size
  have p0 := P2.out.cell 0
  have p1 := P2.out.cell 1
  have p2 := P2.out.cell 2
  have p3 := P2.out.cell 3
  have p4 := P2.out.cell 4
  clear hq HA
  have HC := Lib.hid (refPutInt_any A2 n2 c2 _ w2.heap.size w2 i R2.out (Nat.le_refl _) (by
    have h3 := hl2.out
    have h4 := HNN.out
    have h5 := LL.out
    rw [HE.out, List.length_append] at h4
    rw [List.length_append] at h3
    omega) HI.out.1 HI.out.2)
  go_wp2_with fail
  refine (HC.out).mono ?_
  intro e w3 hq
  obtain ⟨A3, n3, c3, rfl, hl3, hc3, hm3, R3, O3, B3⟩ := own_named hq
  clear p0 p1 p2 p3 p4 hq
  go_wp2
  go_ret
  exact ⟨_, rfl, by rw [HE.out, ← List.append_assoc, hl3.out]; exact own_mono O3.out Z2.out, below_next BB.out B3.out⟩

set_option maxRecDepth 100000 in
set_option maxHeartbeats 4000000 in
set_option linter.unusedVariables false in
theorem rp_2 (m : Nat) (IH : Hid (RefPutUpto m)) (i : Int) (t : ByteArray) (its : List VT) (ks : List ByteArray) (A : Option Addr) (c : Nat) (A' : Option Addr) (c' : Nat) (w : World) (B n0 c0 : Nat) (A0 : Option Addr) (l : List UInt8)
    (hi : -9223372036854775808 ≤ i ∧ i ≤ 9223372036854775807) (hL : LiesL w (Lo w) A 0 its) (hS : LiesS w (Lo w) A' ks) (hkc : ks.length ≤ c') (hcm' : c' ≤ 9223372036854775807) (h1 : its.length ≤ c) (h2 : c ≤ 9223372036854775807) (hsz : sizes its ≤ m) (hw : alls okF its = true) (hf : okF (.mk 2 i t its ks) = true)
    (hr : Rb w B A0 n0 l) (hB : B ≤ w.heap.size) (hn : n0 + (VT.mk 2 i t its ks).enc.length ≤ 30000000000000) :
    Calls Try.prog 84 #[.slice A0 n0 c0, vag 2 i t A its.length c A' ks.length c'] w (OwnRes w (l ++ (VT.mk 2 i t its ks).enc)) := by
  have HNN := Lib.hid hn
  obtain ⟨w1, hw1⟩ : ∃ w1, w1 = w.alloc (.cells #[.int .i64 2, .int .i64 i, .string t, .slice A its.length c, .slice A' ks.length c'] 26) := ⟨_, rfl⟩
  have P1 : Hid (Bk w1 w.heap.size 26 #[.int .i64 2, .int .i64 i, .string t, .slice A its.length c, .slice A' ks.length c']) := Lib.hid (by rw [hw1]; exact Bk.new _ _ _)
  have B1 : Hid (Below w.heap.size w w1) := Lib.hid (by rw [hw1]; exact below_one _ _)
  have LL := Lib.hid hr.len
  have HA := Lib.hid (refPutInt_any A0 n0 c0 l B w1 2 (hr.below (B1.out.mono hB)) (Nat.le_trans hB B1.out.size) (by omega) (by omega) (by omega))
  have HW := Lib.hid hw1
  have HL := Lib.hid hL
  have HS := Lib.hid hS
  have HI := Lib.hid hi
  have HWF := Lib.hid hw
  have HFF := Lib.hid hf
  have HE := Lib.hid (encI (k := 2) (i := i) (t := t) (its := its) (ks := ks) (by omega))
  clear hL hS hw hf hr hB hn hw1 hi
  unfold vag
  go_enter Try.func84, Try.ntmps84
  go_wp2_with fail
  rw [← HW.out]
  refine (HA.out).mono ?_
  intro e w2 hq
  obtain ⟨A2, n2, c2, rfl, hl2, hc2, hm2, R2, O2, B2⟩ := own_named hq
  have P2 := Lib.hid (P1.out.below B2.out P1.out.lt)
  have BB := Lib.hid (below_next B1.out B2.out)
  have Z2 : Hid (w.heap.size ≤ w2.heap.size) := Lib.hid BB.out.size
  have p0 := P2.out.cell 0
  have p1 := P2.out.cell 1
  have p2 := P2.out.cell 2
  have p3 := P2.out.cell 3
  have p4 := P2.out.cell 4
  clear hq HA
  have HC := Lib.hid (refPutInt_any A2 n2 c2 _ w2.heap.size w2 i R2.out (Nat.le_refl _) (by
    have h3 := hl2.out
    have h4 := HNN.out
    have h5 := LL.out
    rw [HE.out, List.length_append] at h4
    rw [List.length_append] at h3
    omega) HI.out.1 HI.out.2)
  go_wp2_with fail
  refine (HC.out).mono ?_
  intro e w3 hq
  obtain ⟨A3, n3, c3, rfl, hl3, hc3, hm3, R3, O3, B3⟩ := own_named hq
  clear p0 p1 p2 p3 p4 hq
  go_wp2
  go_ret
  exact ⟨_, rfl, by rw [HE.out, ← List.append_assoc, hl3.out]; exact own_mono O3.out Z2.out, below_next BB.out B3.out⟩

set_option maxRecDepth 100000 in
set_option maxHeartbeats 4000000 in
set_option linter.unusedVariables false in
theorem rp_3 (m : Nat) (IH : Hid (RefPutUpto m)) (i : Int) (t : ByteArray) (its : List VT) (ks : List ByteArray) (A : Option Addr) (c : Nat) (A' : Option Addr) (c' : Nat) (w : World) (B n0 c0 : Nat) (A0 : Option Addr) (l : List UInt8)
    (hi : -9223372036854775808 ≤ i ∧ i ≤ 9223372036854775807) (hL : LiesL w (Lo w) A 0 its) (hS : LiesS w (Lo w) A' ks) (hkc : ks.length ≤ c') (hcm' : c' ≤ 9223372036854775807) (h1 : its.length ≤ c) (h2 : c ≤ 9223372036854775807) (hsz : sizes its ≤ m) (hw : alls okF its = true) (hf : okF (.mk 3 i t its ks) = true)
    (hr : Rb w B A0 n0 l) (hB : B ≤ w.heap.size) (hn : n0 + (VT.mk 3 i t its ks).enc.length ≤ 30000000000000) :
    Calls Try.prog 84 #[.slice A0 n0 c0, vag 3 i t A its.length c A' ks.length c'] w (OwnRes w (l ++ (VT.mk 3 i t its ks).enc)) := by
  have HNN := Lib.hid hn
  obtain ⟨w1, hw1⟩ : ∃ w1, w1 = w.alloc (.cells #[.int .i64 3, .int .i64 i, .string t, .slice A its.length c, .slice A' ks.length c'] 26) := ⟨_, rfl⟩
  have P1 : Hid (Bk w1 w.heap.size 26 #[.int .i64 3, .int .i64 i, .string t, .slice A its.length c, .slice A' ks.length c']) := Lib.hid (by rw [hw1]; exact Bk.new _ _ _)
  have B1 : Hid (Below w.heap.size w w1) := Lib.hid (by rw [hw1]; exact below_one _ _)
  have LL := Lib.hid hr.len
  have HA := Lib.hid (refPutInt_any A0 n0 c0 l B w1 3 (hr.below (B1.out.mono hB)) (Nat.le_trans hB B1.out.size) (by omega) (by omega) (by omega))
  have HW := Lib.hid hw1
  have HL := Lib.hid hL
  have HS := Lib.hid hS
  have HI := Lib.hid hi
  have HWF := Lib.hid hw
  have HFF := Lib.hid hf
  have HE := Lib.hid (encTx (i := i) (t := t) (its := its) (ks := ks))
  clear hL hS hw hf hr hB hn hw1 hi
  unfold vag
  go_enter Try.func84, Try.ntmps84
  go_wp2_with fail
  rw [← HW.out]
  refine (HA.out).mono ?_
  intro e w2 hq
  obtain ⟨A2, n2, c2, rfl, hl2, hc2, hm2, R2, O2, B2⟩ := own_named hq
  have P2 := Lib.hid (P1.out.below B2.out P1.out.lt)
  have BB := Lib.hid (below_next B1.out B2.out)
  have Z2 : Hid (w.heap.size ≤ w2.heap.size) := Lib.hid BB.out.size
  have p0 := P2.out.cell 0
  have p1 := P2.out.cell 1
  have p2 := P2.out.cell 2
  have p3 := P2.out.cell 3
  have p4 := P2.out.cell 4
  clear hq HA
  have htx := encText_len t.data.toList
  have hts : t.data.toList.length = t.size := rfl
  have HC := Lib.hid (refPutText_any A2 n2 c2 _ w2.heap.size w2 t R2.out (Nat.le_refl _) (by
    have h3 := hl2.out
    have h4 := HNN.out
    have h5 := LL.out
    rw [HE.out, List.length_append] at h4
    rw [List.length_append] at h3
    omega) (by
    have h4 := HNN.out
    rw [HE.out, List.length_append] at h4
    omega))
  clear htx hts
  go_wp2_with fail
  refine (HC.out).mono ?_
  intro e w3 hq
  obtain ⟨A3, n3, c3, rfl, hl3, hc3, hm3, R3, O3, B3⟩ := own_named hq
  clear p0 p1 p2 p3 p4 hq
  go_wp2
  go_ret
  exact ⟨_, rfl, by rw [HE.out, ← List.append_assoc, hl3.out]; exact own_mono O3.out Z2.out, below_next BB.out B3.out⟩

set_option maxRecDepth 100000 in
set_option maxHeartbeats 4000000 in
set_option linter.unusedVariables false in
theorem rp_4 (m : Nat) (IH : Hid (RefPutUpto m)) (i : Int) (t : ByteArray) (its : List VT) (ks : List ByteArray) (A : Option Addr) (c : Nat) (A' : Option Addr) (c' : Nat) (w : World) (B n0 c0 : Nat) (A0 : Option Addr) (l : List UInt8)
    (hi : -9223372036854775808 ≤ i ∧ i ≤ 9223372036854775807) (hL : LiesL w (Lo w) A 0 its) (hS : LiesS w (Lo w) A' ks) (hkc : ks.length ≤ c') (hcm' : c' ≤ 9223372036854775807) (h1 : its.length ≤ c) (h2 : c ≤ 9223372036854775807) (hsz : sizes its ≤ m) (hw : alls okF its = true) (hf : okF (.mk 4 i t its ks) = true)
    (hr : Rb w B A0 n0 l) (hB : B ≤ w.heap.size) (hn : n0 + (VT.mk 4 i t its ks).enc.length ≤ 30000000000000) :
    Calls Try.prog 84 #[.slice A0 n0 c0, vag 4 i t A its.length c A' ks.length c'] w (OwnRes w (l ++ (VT.mk 4 i t its ks).enc)) := by
  have HNN := Lib.hid hn
  obtain ⟨w1, hw1⟩ : ∃ w1, w1 = w.alloc (.cells #[.int .i64 4, .int .i64 i, .string t, .slice A its.length c, .slice A' ks.length c'] 26) := ⟨_, rfl⟩
  have P1 : Hid (Bk w1 w.heap.size 26 #[.int .i64 4, .int .i64 i, .string t, .slice A its.length c, .slice A' ks.length c']) := Lib.hid (by rw [hw1]; exact Bk.new _ _ _)
  have B1 : Hid (Below w.heap.size w w1) := Lib.hid (by rw [hw1]; exact below_one _ _)
  have LL := Lib.hid hr.len
  have HA := Lib.hid (refPutInt_any A0 n0 c0 l B w1 4 (hr.below (B1.out.mono hB)) (Nat.le_trans hB B1.out.size) (by omega) (by omega) (by omega))
  have HW := Lib.hid hw1
  have HL := Lib.hid hL
  have HS := Lib.hid hS
  have HI := Lib.hid hi
  have HWF := Lib.hid hw
  have HFF := Lib.hid hf
  have HE := Lib.hid (encIt (k := 4) (i := i) (t := t) (its := its) (ks := ks) (by omega))
  clear hL hS hw hf hr hB hn hw1 hi
  unfold vag
  go_enter Try.func84, Try.ntmps84
  go_wp2_with fail
  rw [← HW.out]
  refine (HA.out).mono ?_
  intro e w2 hq
  obtain ⟨A2, n2, c2, rfl, hl2, hc2, hm2, R2, O2, B2⟩ := own_named hq
  have P2 := Lib.hid (P1.out.below B2.out P1.out.lt)
  have BB := Lib.hid (below_next B1.out B2.out)
  have Z2 : Hid (w.heap.size ≤ w2.heap.size) := Lib.hid BB.out.size
  have p0 := P2.out.cell 0
  have p1 := P2.out.cell 1
  have p2 := P2.out.cell 2
  have p3 := P2.out.cell 3
  have p4 := P2.out.cell 4
  clear hq HA
  have HC := Lib.hid (refPutInt_any A2 n2 c2 _ w2.heap.size w2 (its.length : Nat) R2.out (Nat.le_refl _) (by
    have h3 := hl2.out
    have h4 := HNN.out
    have h5 := LL.out
    rw [HE.out, List.length_append] at h4
    rw [List.length_append] at h3
    omega) (by omega) (by omega))
  go_wp2_with fail
  refine (HC.out).mono ?_
  intro e w3 hq
  obtain ⟨A3, n3, c3, rfl, hl3, hc3, hm3, R3, O3, B3⟩ := own_named hq
  have B13 : Hid (Below w1.heap.size w1 w3) := Lib.hid (below_next B2.out B3.out)
  have O13 : Hid (w3.ownsRow w1.heap.size 5 1 (.slice A3 n3 c3) n3 (((l ++ Go.Proofs.Ytjbjoalinfhahaa.enc 4) ++ Go.Proofs.Ytjbjoalinfhahaa.enc (its.length : Nat)).map b8)) := Lib.hid (own_mono O3.out B2.out.size)
  have HNB : Hid (∀ j, j ≤ its.length → (((l ++ Go.Proofs.Ytjbjoalinfhahaa.enc 4) ++ Go.Proofs.Ytjbjoalinfhahaa.enc (its.length : Nat)) ++ encs false (its.take j) ks).length ≤ 30000000000000) := Lib.hid (fun j hj => by
    have h4 := HNN.out
    have h5 := LL.out
    have h6 := encs_take_len false its ks j
    rw [HE.out] at h4
    change n0 + (Go.Proofs.Ytjbjoalinfhahaa.enc 4 ++ (Go.Proofs.Ytjbjoalinfhahaa.enc (its.length : Nat) ++ encs false its ks)).length ≤ _ at h4
    simp only [List.length_append] at h4 ⊢
    omega)
  clear p0 p1 p2 p3 p4 hq HC O3 R3 hc3 hm3 hc2 hm2
  go_wp2_with fail
  go_loopw [0, 5] (fun b s wr => ∃ (j : Nat) (AI : Option Addr) (ni ci : Nat), j ≤ its.length ∧ s = .int .i64 j ∧ b = .slice AI ni ci ∧ Hid ((((l ++ Go.Proofs.Ytjbjoalinfhahaa.enc 4) ++ Go.Proofs.Ytjbjoalinfhahaa.enc (its.length : Nat)) ++ encs false (its.take j) ks).length = ni) ∧
    Hid (wr.ownsRow w1.heap.size 5 1 (.slice AI ni ci) ni ((((l ++ Go.Proofs.Ytjbjoalinfhahaa.enc 4) ++ Go.Proofs.Ytjbjoalinfhahaa.enc (its.length : Nat)) ++ encs false (its.take j) ks).map b8)) ∧ Hid (Below w1.heap.size w1 wr)) (fun _ s _ => its.length - (intOf s).toNat)
  case atStart => exact ⟨0, A3, n3, c3, by omega, rfl, rfl, Lib.hid (by rw [List.take_zero, encs, List.append_nil]; exact hl3.out), Lib.hid (by rw [List.take_zero, encs, List.append_nil]; exact O13.out), B13⟩
  case round =>
    obtain ⟨j, AI, ni, ci, hjn, rfl, rfl, hni, HO, HB⟩ := hrel
    have PR := Lib.hid (P1.out.below HB.out P1.out.lt)
    have BW := Lib.hid (below_next B1.out HB.out)
    have p0 := PR.out.cell 0
    change _ = some (Value.int .i64 4) at p0
    have p3 := PR.out.cell 3
    change _ = some (Value.slice A its.length c) at p3
    have p4 := PR.out.cell 4
    change _ = some (Value.slice A' ks.length c') at p4
    by_cases hlt : j < its.length
    · have g1 := List.getElem?_eq_getElem (l := its) (i := j) hlt
      obtain ⟨g, o, k', i', t', D, n', c1, D', n1, cc2, rfl, hg, e0, e1, e2, e3, e4, hx⟩ := (HL.out).at_ g1
      have hwx := all_at HWF.out g1
      have hle := size_at g1
      have htk := encs_take (m := false) (ks := ks) g1
      rw [if_neg (by decide), List.nil_append] at htk
      generalize its[j]'hlt = x at *
      have cc := fun (q : Nat) => BW.out.cell (p := ⟨g, q, none⟩) hg
      rw [Nat.zero_add] at e0 e1 e2 e3 e4
      rw [← cc] at e0 e1 e2 e3 e4
      have HX := Lib.hid (fun (W : World) (hb : Below w.heap.size w W) => hx.below hb)
      have HTK := Lib.hid htk
      have HWX := Lib.hid hwx
      have HLE := Lib.hid (show x.size ≤ m by omega)
      have HJ := Lib.hid hlt
      have HBD := Lib.hid (HNB.out (j + 1) hlt)
      have RR := Lib.hid (Rb.of_own HO.out)
      have HI4 := Lib.hid (IH.out x wr _ wr.heap.size ni ci AI _ HLE.out HWX.out (HX.out wr BW.out) RR.out (Nat.le_refl _) (by
        have h3 := HBD.out
        have h4 := hni.out
        rw [HTK.out] at h3
        rw [← List.append_assoc] at h3
        rw [List.length_append (bs := x.enc), h4] at h3
        exact h3))
      unfold vag at HI4
      clear hx cc htk hwx hle g1
      go_wp2_with fail
      refine (HI4.out).mono ?_
      intro e w5 hq
      obtain ⟨A5, n5, c5, rfl, hl5, hc5, hm5, R5, O5, B5⟩ := own_named hq
      have FB := Lib.hid (below_next HB.out B5.out)
      have hz : w1.heap.size ≤ wr.heap.size := HB.out.size
      have FO : Hid (w5.ownsRow w1.heap.size 5 1 (.slice A5 n5 c5) n5 ((((l ++ Go.Proofs.Ytjbjoalinfhahaa.enc 4) ++ Go.Proofs.Ytjbjoalinfhahaa.enc (its.length : Nat)) ++ encs false (its.take (j + 1)) ks).map b8)) := Lib.hid (by
        rw [HTK.out, ← List.append_assoc]; exact own_mono O5.out hz)
      have FL : Hid ((((l ++ Go.Proofs.Ytjbjoalinfhahaa.enc 4) ++ Go.Proofs.Ytjbjoalinfhahaa.enc (its.length : Nat)) ++ encs false (its.take (j + 1)) ks).length = n5) := Lib.hid (by
        rw [HTK.out, ← List.append_assoc]; exact hl5.out)
      clear hq hz p0 p3 p4 e0 e1 e2 e3 e4
      go_wp2
      go_roundw
      case rel => exact ⟨j + 1, A5, n5, c5, HJ.out, by go_num, rfl, FL, FO, FB⟩
      case measure => have := HJ.out; simp [intOf]; omega
    · obtain rfl : j = its.length := by omega
      have FE : Hid (l ++ (VT.mk 4 i t its ks).enc = ((l ++ Go.Proofs.Ytjbjoalinfhahaa.enc 4) ++ Go.Proofs.Ytjbjoalinfhahaa.enc (its.length : Nat)) ++ encs false (its.take its.length) ks) := Lib.hid (by
        rw [HE.out, List.take_length]
        simp only [List.append_assoc]
        rfl)
      go_wp2
      go_ret
      exact ⟨_, rfl, by rw [FE.out, hni.out]; exact own_mono HO.out B1.out.size, BW.out⟩

set_option maxRecDepth 100000 in
set_option maxHeartbeats 4000000 in
set_option linter.unusedVariables false in
theorem rp_5 (m : Nat) (IH : Hid (RefPutUpto m)) (i : Int) (t : ByteArray) (its : List VT) (ks : List ByteArray) (A : Option Addr) (c : Nat) (A' : Option Addr) (c' : Nat) (w : World) (B n0 c0 : Nat) (A0 : Option Addr) (l : List UInt8)
    (hi : -9223372036854775808 ≤ i ∧ i ≤ 9223372036854775807) (hL : LiesL w (Lo w) A 0 its) (hS : LiesS w (Lo w) A' ks) (hkc : ks.length ≤ c') (hcm' : c' ≤ 9223372036854775807) (h1 : its.length ≤ c) (h2 : c ≤ 9223372036854775807) (hsz : sizes its ≤ m) (hw : alls okF its = true) (hf : okF (.mk 5 i t its ks) = true)
    (hr : Rb w B A0 n0 l) (hB : B ≤ w.heap.size) (hn : n0 + (VT.mk 5 i t its ks).enc.length ≤ 30000000000000) :
    Calls Try.prog 84 #[.slice A0 n0 c0, vag 5 i t A its.length c A' ks.length c'] w (OwnRes w (l ++ (VT.mk 5 i t its ks).enc)) := by
  have HNN := Lib.hid hn
  obtain ⟨w1, hw1⟩ : ∃ w1, w1 = w.alloc (.cells #[.int .i64 5, .int .i64 i, .string t, .slice A its.length c, .slice A' ks.length c'] 26) := ⟨_, rfl⟩
  have P1 : Hid (Bk w1 w.heap.size 26 #[.int .i64 5, .int .i64 i, .string t, .slice A its.length c, .slice A' ks.length c']) := Lib.hid (by rw [hw1]; exact Bk.new _ _ _)
  have B1 : Hid (Below w.heap.size w w1) := Lib.hid (by rw [hw1]; exact below_one _ _)
  have LL := Lib.hid hr.len
  have HA := Lib.hid (refPutInt_any A0 n0 c0 l B w1 5 (hr.below (B1.out.mono hB)) (Nat.le_trans hB B1.out.size) (by omega) (by omega) (by omega))
  have HW := Lib.hid hw1
  have HL := Lib.hid hL
  have HS := Lib.hid hS
  have HI := Lib.hid hi
  have HWF := Lib.hid hw
  have HFF := Lib.hid hf
  have HE := Lib.hid (encIt (k := 5) (i := i) (t := t) (its := its) (ks := ks) (by omega))
  clear hL hS hw hf hr hB hn hw1 hi
  unfold vag
  go_enter Try.func84, Try.ntmps84
  go_wp2_with fail
  rw [← HW.out]
  refine (HA.out).mono ?_
  intro e w2 hq
  obtain ⟨A2, n2, c2, rfl, hl2, hc2, hm2, R2, O2, B2⟩ := own_named hq
  have P2 := Lib.hid (P1.out.below B2.out P1.out.lt)
  have BB := Lib.hid (below_next B1.out B2.out)
  have Z2 : Hid (w.heap.size ≤ w2.heap.size) := Lib.hid BB.out.size
  have p0 := P2.out.cell 0
  have p1 := P2.out.cell 1
  have p2 := P2.out.cell 2
  have p3 := P2.out.cell 3
  have p4 := P2.out.cell 4
  clear hq HA
  have HC := Lib.hid (refPutInt_any A2 n2 c2 _ w2.heap.size w2 (its.length : Nat) R2.out (Nat.le_refl _) (by
    have h3 := hl2.out
    have h4 := HNN.out
    have h5 := LL.out
    rw [HE.out, List.length_append] at h4
    rw [List.length_append] at h3
    omega) (by omega) (by omega))
  go_wp2_with fail
  refine (HC.out).mono ?_
  intro e w3 hq
  obtain ⟨A3, n3, c3, rfl, hl3, hc3, hm3, R3, O3, B3⟩ := own_named hq
  have B13 : Hid (Below w1.heap.size w1 w3) := Lib.hid (below_next B2.out B3.out)
  have O13 : Hid (w3.ownsRow w1.heap.size 5 1 (.slice A3 n3 c3) n3 (((l ++ Go.Proofs.Ytjbjoalinfhahaa.enc 5) ++ Go.Proofs.Ytjbjoalinfhahaa.enc (its.length : Nat)).map b8)) := Lib.hid (own_mono O3.out B2.out.size)
  have HNB : Hid (∀ j, j ≤ its.length → (((l ++ Go.Proofs.Ytjbjoalinfhahaa.enc 5) ++ Go.Proofs.Ytjbjoalinfhahaa.enc (its.length : Nat)) ++ encs true (its.take j) ks).length ≤ 30000000000000) := Lib.hid (fun j hj => by
    have h4 := HNN.out
    have h5 := LL.out
    have h6 := encs_take_len true its ks j
    rw [HE.out] at h4
    change n0 + (Go.Proofs.Ytjbjoalinfhahaa.enc 5 ++ (Go.Proofs.Ytjbjoalinfhahaa.enc (its.length : Nat) ++ encs true its ks)).length ≤ _ at h4
    simp only [List.length_append] at h4 ⊢
    omega)
  clear p0 p1 p2 p3 p4 hq HC O3 R3 hc3 hm3 hc2 hm2
  go_wp2_with fail
  go_loopw [0, 5] (fun b s wr => ∃ (j : Nat) (AI : Option Addr) (ni ci : Nat), j ≤ its.length ∧ s = .int .i64 j ∧ b = .slice AI ni ci ∧ Hid ((((l ++ Go.Proofs.Ytjbjoalinfhahaa.enc 5) ++ Go.Proofs.Ytjbjoalinfhahaa.enc (its.length : Nat)) ++ encs true (its.take j) ks).length = ni) ∧
    Hid (wr.ownsRow w1.heap.size 5 1 (.slice AI ni ci) ni ((((l ++ Go.Proofs.Ytjbjoalinfhahaa.enc 5) ++ Go.Proofs.Ytjbjoalinfhahaa.enc (its.length : Nat)) ++ encs true (its.take j) ks).map b8)) ∧ Hid (Below w1.heap.size w1 wr)) (fun _ s _ => its.length - (intOf s).toNat)
  case atStart => exact ⟨0, A3, n3, c3, by omega, rfl, rfl, Lib.hid (by rw [List.take_zero, encs, List.append_nil]; exact hl3.out), Lib.hid (by rw [List.take_zero, encs, List.append_nil]; exact O13.out), B13⟩
  case round =>
    obtain ⟨j, AI, ni, ci, hjn, rfl, rfl, hni, HO, HB⟩ := hrel
    have PR := Lib.hid (P1.out.below HB.out P1.out.lt)
    have BW := Lib.hid (below_next B1.out HB.out)
    have p0 := PR.out.cell 0
    change _ = some (Value.int .i64 5) at p0
    have p3 := PR.out.cell 3
    change _ = some (Value.slice A its.length c) at p3
    have p4 := PR.out.cell 4
    change _ = some (Value.slice A' ks.length c') at p4
    by_cases hlt : j < its.length
    · have g1 := List.getElem?_eq_getElem (l := its) (i := j) hlt
      obtain ⟨g, o, k', i', t', D, n', c1, D', n1, cc2, rfl, hg, e0, e1, e2, e3, e4, hx⟩ := (HL.out).at_ g1
      have hwx := all_at HWF.out g1
      have hle := size_at g1
      have htk := encs_take (m := true) (ks := ks) g1
      rw [if_pos rfl] at htk
      generalize its[j]'hlt = x at *
      have cc := fun (q : Nat) => BW.out.cell (p := ⟨g, q, none⟩) hg
      rw [Nat.zero_add] at e0 e1 e2 e3 e4
      rw [← cc] at e0 e1 e2 e3 e4
      have HX := Lib.hid (fun (W : World) (hb : Below w.heap.size w W) => hx.below hb)
      have HTK := Lib.hid htk
      have HWX := Lib.hid hwx
      have HLE := Lib.hid (show x.size ≤ m by omega)
      have HJ := Lib.hid hlt
      have HBD := Lib.hid (HNB.out (j + 1) hlt)
      have RR := Lib.hid (Rb.of_own HO.out)
      have hkl : j < ks.length := by have := (wf_map HFF.out).2.2; omega
      have g2 := List.getElem?_eq_getElem (l := ks) (i := j) hkl
      have hgd : ks.getD j ByteArray.empty = ks[j]'hkl := by rw [List.getD_eq_getElem?_getD, g2]; rfl
      obtain ⟨hks, gk, ok, rfl, hgk, ek⟩ := HS.out j _ g2
      rw [← BW.out.cell (p := ⟨gk, ok + j, none⟩) hgk] at ek
      rw [hgd] at HTK
      generalize ks[j]'hkl = key at *
      have HBK : Hid (ni + ((encText key.data.toList).length + x.enc.length) ≤ 30000000000000) := Lib.hid (by
        have h3 := HBD.out
        have h4 := hni.out
        rw [HTK.out] at h3
        rw [← List.append_assoc] at h3
        rw [List.length_append (bs := encText key.data.toList ++ x.enc), h4, List.length_append] at h3
        exact h3)
      have htx := encText_len key.data.toList
      have hts : key.data.toList.length = key.size := rfl
      have HC := Lib.hid (refPutText_any AI ni ci _ wr.heap.size wr key RR.out (Nat.le_refl _) (by have := HBK.out; omega) (by have := HBK.out; omega))
      clear hx cc htk hwx hle g1 g2 hgd htx hts
      go_wp2_with fail
      refine (HC.out).mono ?_
      intro e w4 hq
      obtain ⟨A4, n4, c4, rfl, hl4, hc4, hm4, R4, O4, B4⟩ := own_named hq
      have P4 := Lib.hid (PR.out.below B4.out PR.out.lt)
      have BW4 := Lib.hid (below_next BW.out B4.out)
      have HB4 := Lib.hid (below_next HB.out B4.out)
      have q0 := (B4.out.cell (p := ⟨g, o + j * 5, none⟩) (Nat.lt_of_lt_of_le (show g < w.heap.size from hg) BW.out.size)).trans e0
      have q1 := (B4.out.cell (p := ⟨g, o + j * 5 + 1, none⟩) (Nat.lt_of_lt_of_le (show g < w.heap.size from hg) BW.out.size)).trans e1
      have q2 := (B4.out.cell (p := ⟨g, o + j * 5 + 2, none⟩) (Nat.lt_of_lt_of_le (show g < w.heap.size from hg) BW.out.size)).trans e2
      have q3 := (B4.out.cell (p := ⟨g, o + j * 5 + 3, none⟩) (Nat.lt_of_lt_of_le (show g < w.heap.size from hg) BW.out.size)).trans e3
      have q4 := (B4.out.cell (p := ⟨g, o + j * 5 + 4, none⟩) (Nat.lt_of_lt_of_le (show g < w.heap.size from hg) BW.out.size)).trans e4
      have z3 := P4.out.cell 3
      change _ = some (Value.slice (some ⟨g, o, none⟩) its.length c) at z3
      have HI4 := Lib.hid (IH.out x w4 _ w4.heap.size n4 c4 A4 _ HLE.out HWX.out (HX.out w4 BW4.out) R4.out (Nat.le_refl _) (by
        have h3 := HBK.out
        have h4 := hl4.out
        have h5 := hni.out
        rw [List.length_append, h5] at h4
        omega))
      unfold vag at HI4
      clear hq HC e0 e1 e2 e3 e4 ek p0 p3 p4
      go_wp2_with fail
      refine (HI4.out).mono ?_
      intro e w5 hq
      obtain ⟨A5, n5, c5, rfl, hl5, hc5, hm5, R5, O5, B5⟩ := own_named hq
      have FB := Lib.hid (below_next HB4.out B5.out)
      have hz : w1.heap.size ≤ w4.heap.size := HB4.out.size
      have FO : Hid (w5.ownsRow w1.heap.size 5 1 (.slice A5 n5 c5) n5 ((((l ++ Go.Proofs.Ytjbjoalinfhahaa.enc 5) ++ Go.Proofs.Ytjbjoalinfhahaa.enc (its.length : Nat)) ++ encs true (its.take (j + 1)) ks).map b8)) := Lib.hid (by
        rw [HTK.out, ← List.append_assoc, ← List.append_assoc]; exact own_mono O5.out hz)
      have FL : Hid ((((l ++ Go.Proofs.Ytjbjoalinfhahaa.enc 5) ++ Go.Proofs.Ytjbjoalinfhahaa.enc (its.length : Nat)) ++ encs true (its.take (j + 1)) ks).length = n5) := Lib.hid (by
        rw [HTK.out, ← List.append_assoc, ← List.append_assoc]; exact hl5.out)
      clear hq hz q0 q1 q2 q3 q4 z3
      go_wp2
      go_roundw
      case rel => exact ⟨j + 1, A5, n5, c5, HJ.out, by go_num, rfl, FL, FO, FB⟩
      case measure => have := HJ.out; simp [intOf]; omega
    · obtain rfl : j = its.length := by omega
      have FE : Hid (l ++ (VT.mk 5 i t its ks).enc = ((l ++ Go.Proofs.Ytjbjoalinfhahaa.enc 5) ++ Go.Proofs.Ytjbjoalinfhahaa.enc (its.length : Nat)) ++ encs true (its.take its.length) ks) := Lib.hid (by
        rw [HE.out, List.take_length]
        simp only [List.append_assoc]
        rfl)
      go_wp2
      go_ret
      exact ⟨_, rfl, by rw [FE.out, hni.out]; exact own_mono HO.out B1.out.size, BW.out⟩

set_option maxRecDepth 100000 in
set_option maxHeartbeats 4000000 in
set_option linter.unusedVariables false in
theorem rp_6 (m : Nat) (IH : Hid (RefPutUpto m)) (i : Int) (t : ByteArray) (its : List VT) (ks : List ByteArray) (A : Option Addr) (c : Nat) (A' : Option Addr) (c' : Nat) (w : World) (B n0 c0 : Nat) (A0 : Option Addr) (l : List UInt8)
    (hi : -9223372036854775808 ≤ i ∧ i ≤ 9223372036854775807) (hL : LiesL w (Lo w) A 0 its) (hS : LiesS w (Lo w) A' ks) (hkc : ks.length ≤ c') (hcm' : c' ≤ 9223372036854775807) (h1 : its.length ≤ c) (h2 : c ≤ 9223372036854775807) (hsz : sizes its ≤ m) (hw : alls okF its = true) (hf : okF (.mk 6 i t its ks) = true)
    (hr : Rb w B A0 n0 l) (hB : B ≤ w.heap.size) (hn : n0 + (VT.mk 6 i t its ks).enc.length ≤ 30000000000000) :
    Calls Try.prog 84 #[.slice A0 n0 c0, vag 6 i t A its.length c A' ks.length c'] w (OwnRes w (l ++ (VT.mk 6 i t its ks).enc)) := by
  have HNN := Lib.hid hn
  obtain ⟨w1, hw1⟩ : ∃ w1, w1 = w.alloc (.cells #[.int .i64 6, .int .i64 i, .string t, .slice A its.length c, .slice A' ks.length c'] 26) := ⟨_, rfl⟩
  have P1 : Hid (Bk w1 w.heap.size 26 #[.int .i64 6, .int .i64 i, .string t, .slice A its.length c, .slice A' ks.length c']) := Lib.hid (by rw [hw1]; exact Bk.new _ _ _)
  have B1 : Hid (Below w.heap.size w w1) := Lib.hid (by rw [hw1]; exact below_one _ _)
  have LL := Lib.hid hr.len
  have HA := Lib.hid (refPutInt_any A0 n0 c0 l B w1 6 (hr.below (B1.out.mono hB)) (Nat.le_trans hB B1.out.size) (by omega) (by omega) (by omega))
  have HW := Lib.hid hw1
  have HL := Lib.hid hL
  have HS := Lib.hid hS
  have HI := Lib.hid hi
  have HWF := Lib.hid hw
  have HFF := Lib.hid hf
  have HE := Lib.hid (encI (k := 6) (i := i) (t := t) (its := its) (ks := ks) (by omega))
  clear hL hS hw hf hr hB hn hw1 hi
  unfold vag
  go_enter Try.func84, Try.ntmps84
  go_wp2_with fail
  rw [← HW.out]
  refine (HA.out).mono ?_
  intro e w2 hq
  obtain ⟨A2, n2, c2, rfl, hl2, hc2, hm2, R2, O2, B2⟩ := own_named hq
  have P2 := Lib.hid (P1.out.below B2.out P1.out.lt)
  have BB := Lib.hid (below_next B1.out B2.out)
  have Z2 : Hid (w.heap.size ≤ w2.heap.size) := Lib.hid BB.out.size
  have p0 := P2.out.cell 0
  have p1 := P2.out.cell 1
  have p2 := P2.out.cell 2
  have p3 := P2.out.cell 3
  have p4 := P2.out.cell 4
  clear hq HA
  have HC := Lib.hid (refPutInt_any A2 n2 c2 _ w2.heap.size w2 i R2.out (Nat.le_refl _) (by
    have h3 := hl2.out
    have h4 := HNN.out
    have h5 := LL.out
    rw [HE.out, List.length_append] at h4
    rw [List.length_append] at h3
    omega) HI.out.1 HI.out.2)
  go_wp2_with fail
  refine (HC.out).mono ?_
  intro e w3 hq
  obtain ⟨A3, n3, c3, rfl, hl3, hc3, hm3, R3, O3, B3⟩ := own_named hq
  clear p0 p1 p2 p3 p4 hq
  go_wp2
  go_ret
  exact ⟨_, rfl, by rw [HE.out, ← List.append_assoc, hl3.out]; exact own_mono O3.out Z2.out, below_next BB.out B3.out⟩

theorem refPut_all (m : Nat) : RefPutUpto m := by
  induction m with
  | zero => intro x _ _ _ _ _ _ _ h; have := size_pos x; omega
  | succ m ih =>
    intro x w v B n c A l hsz hw hv hr hB hn
    have IH := Lib.hid ih
    obtain ⟨k, i, t, its, ks⟩ := x
    obtain ⟨A1, c1, A', c', rfl, _, hi, _, h1, h2, hL, h3, h4, hS⟩ := hv.open
    rw [VT.size_mk] at hsz
    rw [VT.all_mk, Bool.and_eq_true] at hw
    have hk := wf_kind hw.1
    obtain rfl | rfl | rfl | rfl | rfl | rfl | rfl : k = 0 ∨ k = 1 ∨ k = 2 ∨ k = 3 ∨ k = 4 ∨ k = 5 ∨ k = 6 := by omega
    · exact rp_0 m IH i t its ks A1 c1 A' c' w B n c A l hi hL hS h3 h4 h1 h2 (by omega) hw.2 hw.1 hr hB hn
    · exact rp_1 m IH i t its ks A1 c1 A' c' w B n c A l hi hL hS h3 h4 h1 h2 (by omega) hw.2 hw.1 hr hB hn
    · exact rp_2 m IH i t its ks A1 c1 A' c' w B n c A l hi hL hS h3 h4 h1 h2 (by omega) hw.2 hw.1 hr hB hn
    · exact rp_3 m IH i t its ks A1 c1 A' c' w B n c A l hi hL hS h3 h4 h1 h2 (by omega) hw.2 hw.1 hr hB hn
    · exact rp_4 m IH i t its ks A1 c1 A' c' w B n c A l hi hL hS h3 h4 h1 h2 (by omega) hw.2 hw.1 hr hB hn
    · exact rp_5 m IH i t its ks A1 c1 A' c' w B n c A l hi hL hS h3 h4 h1 h2 (by omega) hw.2 hw.1 hr hB hn
    · exact rp_6 m IH i t its ks A1 c1 A' c' w B n c A l hi hL hS h3 h4 h1 h2 (by omega) hw.2 hw.1 hr hB hn

set_option maxRecDepth 100000 in
set_option maxHeartbeats 2000000 in
theorem refEncode_any {A : Option Addr} {n c B : Nat} {l : List UInt8} {x : VT} {v : Value} {w : World} (hr : Rb w B A n l) (hB : B ≤ w.heap.size) (hv : Lies w (Lo w) x v) (hn : n + x.enc.length ≤ 30000000000000) :
    Calls Try.prog 47 #[.slice A n c, v] w (OwnRes w (l ++ encOf x)) := by
  obtain ⟨iB, hiB, hzB, hsB, hbB⟩ := info_parts Try.infob
  have HT := Lib.hid (fun (w' : World) (hb : Below w.heap.size w w') => refWf_any (hv.below hb))
  have HE := Lib.hid (fun (w' : World) (hb : Below w.heap.size w w') (hx : x.all okF = true) (n2 c2 : Nat) (A2 : Option Addr) (l2 : List UInt8) (h5 : Rb w' w'.heap.size A2 n2 l2) (h7 : n2 + x.enc.length ≤ 30000000000000) =>
    refPut_all x.size x w' v w'.heap.size n2 c2 A2 l2 (Nat.le_refl _) hx (hv.below hb) h5 (Nat.le_refl _) h7)
  have HY := Lib.hid (encOf_yes (x := x))
  have HN := Lib.hid (encOf_no (x := x))
  have HR := Lib.hid hr
  have HLN := Lib.hid hn
  have HBN := Lib.hid hB
  obtain ⟨k, i, t, its, ks⟩ := x
  obtain ⟨A1, c1, A', c', rfl, _, _, _, _, _, _, _, _, _⟩ := hv.open
  have hnb : n ≤ 30000000000000 := by omega
  clear hv hr hn
  generalize hx : VT.mk k i t its ks = x at *
  clear hx
  unfold VT.wf at *
  generalize hb : x.all okF = b at *
  have HBE := Lib.hid hb
  clear hb
  obtain ⟨w1, hw1⟩ : ∃ w1, w1 = w.alloc (.cells #[.int .i64 k, .int .i64 i, .string t, .slice A1 its.length c1, .slice A' ks.length c'] 26) := ⟨_, rfl⟩
  have P1 : Hid (Bk w1 w.heap.size 26 #[.int .i64 k, .int .i64 i, .string t, .slice A1 its.length c1, .slice A' ks.length c']) := Lib.hid (by rw [hw1]; exact Bk.new _ _ _)
  have B1 : Hid (Below w.heap.size w w1) := Lib.hid (by rw [hw1]; exact below_one _ _)
  have HW := Lib.hid hw1
  clear hw1 hB
  unfold vag at *
  go_enter Try.func47, Try.ntmps47
  go_wp2_with (at_builtin; rw [← HW.out]; refine wpList_append_b8 rfl _ _ 50 rfl w1.heap.size 5 iB (.int .u8 0) Try.underlying50 hiB hzB hsB hbB rfl _ 0 [] rfl (World.ownsRow_nil _ _ _ _) B A n c l rfl (HR.out.below (B1.out.mono HBN.out)) ?_ ?_ ?_)
  · omega
  · exact Nat.le_refl _
  · intro v3 w3 hown hg
    have hown' : w3.ownsRow w1.heap.size 5 1 v3 n (l.map b8) := by simpa using hown
    obtain ⟨A3, c3, rfl, g1, g2⟩ := own_form hown'
    have O3 := Lib.hid hown'
    have b13 : Below w1.heap.size w1 w3 := (Below.refl _ _).grown hg (Nat.le_refl _) (fun k hk => by cases hk)
    have B3 := Lib.hid (below_next B1.out b13)
    have P3 := Lib.hid (P1.out.below b13 P1.out.lt)
    have p0 := P3.out.cell 0
    have p1 := P3.out.cell 1
    have p2 := P3.out.cell 2
    have p3 := P3.out.cell 3
    have p4 := P3.out.cell 4
    have T3 := Lib.hid (HT.out w3 B3.out)
    clear hown hown' hg b13
    go_wp2_with fail
    refine (T3.out).mono ?_
    rintro e w4 ⟨rfl, hb⟩
    have O4 := Lib.hid (own_same (lo := w1.heap.size) O3.out (same_of_below hb (Nat.le_refl _)))
    have B4 := Lib.hid (below_next B3.out hb)
    have P4 := Lib.hid (P3.out.below hb P3.out.lt)
    clear hb p0 p1 p2 p3 p4
    cases b with
    | false =>
      have R := Lib.hid (HN.out rfl)
      clear HN HY HE HT T3
      go_wp2
      go_ret
      exact ⟨_, rfl, by rw [R.out, List.append_nil]; have := own_len O4.out; rw [this]; exact own_mono O4.out B1.out.size, B4.out⟩
    | true =>
      have R := Lib.hid (HY.out rfl)
      have E4 := Lib.hid (HE.out w4 B4.out rfl n c3 A3 l (Rb.of_own O4.out) HLN.out)
      have p0 := P4.out.cell 0
      have p1 := P4.out.cell 1
      have p2 := P4.out.cell 2
      have p3 := P4.out.cell 3
      have p4 := P4.out.cell 4
      clear HN HY HE HT T3
      go_wp2_with fail
      refine (E4.out).mono ?_
      intro e w5 hq
      obtain ⟨A5, n5, c5, rfl, hl5, hc5, hm5, R5, O5, B5⟩ := own_named hq
      have BF := Lib.hid (below_next B4.out B5.out)
      have Z4 : Hid (w.heap.size ≤ w4.heap.size) := Lib.hid B4.out.size
      clear p0 p1 p2 p3 p4 hq
      go_wp2
      go_ret
      exact ⟨_, rfl, by rw [R.out, hl5.out]; exact own_mono O5.out Z4.out, BF.out⟩
end Go.Proofs.Ytjbjoalinfhahaa
