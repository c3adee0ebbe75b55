/-
  Rows of tokens; equal; the chapter's examples.
-/
import Derived.Test.YtemdcgeopaphaaaDoorKo
namespace Go.Proofs.YtemdcgeopaphaaaDoor
open Go.RowKit

/-- the row at A holds these tokens -/
def TRow (w : World) (A : Option Addr) (l : List Tok) : Prop := ∀ (j : Nat) (k : Tok), l[j]? = some k → ∃ g o, A = some ⟨g, o, none⟩ ∧ g < w.heap.size ∧ w.cell? ⟨g, o + j * 4, none⟩ = some (.int .i64 k.kind) ∧ w.cell? ⟨g, o + j * 4 + 1, none⟩ = some (.int .i64 (k.off : Nat)) ∧
  w.cell? ⟨g, o + j * 4 + 2, none⟩ = some (strV k.text) ∧ w.cell? ⟨g, o + j * 4 + 3, none⟩ = some (.int .i64 k.int)
theorem TRow.below {w w' : World} {A : Option Addr} {l : List Tok} (h : TRow w A l) (hb : Below w.heap.size w w') : TRow w' A l := fun j k hj => by
  obtain ⟨g, o, h0, hg, h1, h2, h3, h4⟩ := h j k hj
  exact ⟨g, o, h0, Nat.lt_of_lt_of_le hg hb.size, (hb.cell (p := ⟨g, _, none⟩) hg).trans h1, (hb.cell (p := ⟨g, _, none⟩) hg).trans h2, (hb.cell (p := ⟨g, _, none⟩) hg).trans h3, (hb.cell (p := ⟨g, _, none⟩) hg).trans h4⟩
theorem flat_at : ∀ {l : List Tok} {j : Nat} {k : Tok}, l[j]? = some k → (l.flatMap tokC)[j * 4]? = some (.int .i64 k.kind) ∧ (l.flatMap tokC)[j * 4 + 1]? = some (.int .i64 (k.off : Nat)) ∧ (l.flatMap tokC)[j * 4 + 2]? = some (strV k.text) ∧ (l.flatMap tokC)[j * 4 + 3]? = some (.int .i64 k.int)
  | [], j, k, h => by cases h
  | x :: r, 0, k, h => by
    injection h with h
    subst h
    exact ⟨rfl, rfl, rfl, rfl⟩
  | x :: r, j + 1, k, h => by
    have hr := flat_at (l := r) (j := j) (k := k) (by simpa using h)
    have e : ∀ i, (j + 1) * 4 + i = j * 4 + i + 4 := fun i => by omega
    have c : ∀ i, ((x :: r).flatMap tokC)[i + 4]? = (r.flatMap tokC)[i]? := fun i => by
      rw [List.flatMap_cons]
      have hl : (tokC x).length = 4 := rfl
      rw [List.getElem?_append_right (by omega), hl, Nat.add_sub_cancel]
    refine ⟨?_, ?_, ?_, ?_⟩
    · have := e 0; rw [Nat.add_zero, Nat.add_zero] at this; rw [this, c]; exact hr.1
    · rw [e, c]; exact hr.2.1
    · rw [e, c]; exact hr.2.2.1
    · rw [e, c]; exact hr.2.2.2
theorem TRow.of_own {w : World} {base : Nat} {A : Option Addr} {c n : Nat} {l : List Tok} (h : w.ownsRow base 30 4 (.slice A n c) n (l.flatMap tokC)) : TRow w A l := fun j k hj => by
  have hf := flat_at hj
  rcases h.2 with ⟨hv, rfl⟩ | ⟨g, cap, cur, hv, _, hg, _⟩
  · have h0 := h.1
    rw [Nat.zero_mul] at h0
    rw [List.eq_nil_of_length_eq_zero h0] at hf
    cases hf.1
  · injection hv with hv _ _
    subst hv
    have hc := fun i u hu => h.cells (g := g) rfl i u hu
    refine ⟨g, 0, rfl, (Array.getElem?_eq_some_iff.1 hg).1, ?_, ?_, ?_, ?_⟩
    · have := hc _ _ hf.1; simpa [Addr.add_lit] using this
    · have := hc _ _ hf.2.1; simpa [Addr.add_lit] using this
    · have := hc _ _ hf.2.2.1; simpa [Addr.add_lit] using this
    · have := hc _ _ hf.2.2.2; simpa [Addr.add_lit] using this

set_option maxRecDepth 100000 in
set_option maxHeartbeats 4000000 in
theorem equal_any {w : World} {A A' : Option Addr} {c c' : Nat} {l : List Tok} (h : TRow w A l) (h' : TRow w A' l) (hl : l.length ≤ 1000000) :
    Calls Tryd.prog 13 #[.slice A l.length c, .slice A' l.length c'] w fun e w' => e = .returned (.bool true) ∧ Dr w w' := by
  have H := Lib.hid h
  have H' := Lib.hid h'
  obtain ⟨n, hn⟩ : ∃ n, n = l.length := ⟨_, rfl⟩
  rw [← hn]
  have HN := Lib.hid hn
  rw [← hn] at hl
  have tn : ((n : Int) == (n : Int)) = true := by simp
  have tnn : ((n : Int) != (n : Int)) = false := by simp
  clear h h' hn
  go_enter Tryd.func13, Tryd.ntmps13
  go_wp2_with fail
  go_loopw [13] (fun i wr => ∃ k : Nat, k ≤ n ∧ i = .int .i64 k ∧ Hid (Dr w wr)) (fun i _ => n - (intOf i).toNat)
  case atStart => exact ⟨0, Nat.zero_le _, rfl, Lib.hid (Dr.refl _)⟩
  case round =>
    obtain ⟨k, hk, rfl, HD⟩ := hrel
    by_cases hlt : k < n
    · obtain ⟨x, hx⟩ : ∃ x, l[k]? = some x := ⟨_, List.getElem?_eq_getElem (by rw [← HN.out]; exact hlt)⟩
      obtain ⟨g, o, rfl, _, a0, a1, a2, a3⟩ := H.out k x hx
      obtain ⟨g', o', rfl, _, b0, b1, b2, b3⟩ := H'.out k x hx
      have hd := fun (a : Addr) => HD.out.cell a
      rw [← hd] at a0 a1 a2 a3 b0 b1 b2 b3
      unfold strV at a2 b2
      clear hx hd
      go_wp2_with fail
      go_region
      all_goals (
        go_wp2
        go_roundw
        case rel => exact ⟨k + 1, hlt, by go_num, Lib.hid (HD.out.trans (Dr.drew _))⟩
        case measure => simp [intOf]; omega)
    · go_wp2
      go_ret
      exact ⟨rfl, HD.out⟩
end Go.Proofs.YtemdcgeopaphaaaDoor
