/-
  A string's literal is one token, which stands for it: mathematics, and the walk of TokenLiteral.
-/
import Derived.Test.YtemdcgeopaphaaaDoorKq
namespace Go.Proofs.YtemdcgeopaphaaaDoor
open Go.RowKit

theorem all256 {q : Nat → Bool} (h : (List.range 256).all q = true) (c : UInt8) : q c.toNat = true := allN h c.toNat c.toNat_lt
/-- a byte's spelling is read back -/
theorem chr_esc (c : UInt8) (r : List UInt8) : chrC (escB c ++ r) = .ok c (escB c).length := by
  by_cases h1 : c = 34 ∨ c = 92
  · have e : escB c = [92, c] := by unfold escB; rw [if_pos h1]
    rw [e]
    show (if plnT 92 = true then CR.ok 92 1 else if (92 : UInt8) = 92 then escC (c :: r) else .err 3) = .ok c 2
    rw [if_neg (by decide), if_pos rfl]
    exact if_pos h1
  · by_cases h10 : c = 10
    · subst h10; rfl
    · by_cases h9 : c = 9
      · subst h9; rfl
      · cases hp : plnT c with
        | true =>
          have e : escB c = [c] := by unfold escB; rw [if_neg h1, if_neg h10, if_neg h9, hp]; rfl
          rw [e]
          show (if plnT c = true then CR.ok c 1 else if c = 92 then escC r else .err 3) = .ok c 1
          exact if_pos hp
        | false =>
          have e : escB c = [92, 120, hxc (c.toNat / 16), hxc (c.toNat % 16)] := by unfold escB; rw [if_neg h1, if_neg h10, if_neg h9, hp]; rfl
          rw [e]
          show (if plnT 92 = true then CR.ok 92 1 else if (92 : UInt8) = 92 then escC (120 :: hxc (c.toNat / 16) :: hxc (c.toNat % 16) :: r) else .err 3) = .ok c 4
          rw [if_neg (by decide), if_pos rfl]
          show hexC (hxc (c.toNat / 16) :: hxc (c.toNat % 16) :: r) = .ok c 4
          have h := all256 (q := fun n => hexT (hxc (n / 16)) && hexT (hxc (n % 16)) && (UInt8.ofNat (16 * hexV (hxc (n / 16)) + hexV (hxc (n % 16))) == UInt8.ofNat n)) (by decide +kernel) c
          simp only [Bool.and_eq_true, beq_iff_eq, UInt8.ofNat_toNat] at h
          obtain ⟨⟨ha, hb⟩, hc⟩ := h
          show (if hexT (hxc (c.toNat / 16)) = true then (if hexT (hxc (c.toNat % 16)) = true then CR.ok (UInt8.ofNat (16 * hexV (hxc (c.toNat / 16)) + hexV (hxc (c.toNat % 16)))) 4 else .err 3) else .err 3) = .ok c 4
          rw [if_pos ha, if_pos hb, hc]
theorem esc_head (c : UInt8) : ∃ x y, escB c = x :: y ∧ x ≠ 34 := by
  by_cases h1 : c = 34 ∨ c = 92
  · exact ⟨92, [c], by unfold escB; rw [if_pos h1], by decide⟩
  · by_cases h10 : c = 10
    · subst h10; exact ⟨_, _, rfl, by decide⟩
    · by_cases h9 : c = 9
      · subst h9; exact ⟨_, _, rfl, by decide⟩
      · cases hp : plnT c with
        | true => exact ⟨c, [], by unfold escB; rw [if_neg h1, if_neg h10, if_neg h9, hp]; rfl, fun e => h1 (.inl e)⟩
        | false => exact ⟨92, _, by unfold escB; rw [if_neg h1, if_neg h10, if_neg h9, hp]; rfl, by decide⟩
theorem lit_quote (post : List UInt8) : ∀ (r pre o : List UInt8) (f : Nat), r.length < f → (o ++ r).length ≤ 4096 →
    litG (pre ++ (r.flatMap escB ++ 34 :: post)) f pre.length o = .ok 4 (o ++ r) 0 (pre.length + (r.flatMap escB).length + 1)
  | [], pre, o, 0, h, _ => by cases h
  | [], pre, o, f + 1, _, hs => by
    have hat : (pre ++ (([] : List UInt8).flatMap escB ++ 34 :: post))[pre.length]? = some 34 := by
      rw [List.getElem?_append_right (Nat.le_refl _), Nat.sub_self]; rfl
    rw [lit_quo hat rfl, if_neg (by rw [List.append_nil] at hs; omega), List.append_nil]
    rfl
  | c :: r, pre, o, 0, h, _ => by cases h
  | c :: r, pre, o, f + 1, h, hs => by
    obtain ⟨x, y, hx, hne⟩ := esc_head c
    have hl : pre ++ ((c :: r).flatMap escB ++ 34 :: post) = (pre ++ escB c) ++ (r.flatMap escB ++ 34 :: post) := by
      rw [List.flatMap_cons]; simp
    have hd : (pre ++ ((c :: r).flatMap escB ++ 34 :: post)).drop pre.length = escB c ++ (r.flatMap escB ++ 34 :: post) := by
      rw [List.drop_left, List.flatMap_cons, List.append_assoc]
    have hat : (pre ++ ((c :: r).flatMap escB ++ 34 :: post))[pre.length]? = some x := by
      have := List.getElem?_drop (xs := pre ++ ((c :: r).flatMap escB ++ 34 :: post)) (i := pre.length) (j := 0)
      rw [hd, hx] at this
      simpa using this.symm
    rw [lit_chr hat hne (by rw [hd]; exact chr_esc c _)]
    have ih := lit_quote post r (pre ++ escB c) (o ++ [c]) f (by rw [List.length_cons] at h; omega) (by rw [List.append_assoc]; exact hs)
    rw [hl, ← List.length_append, ih, List.append_assoc, List.flatMap_cons, List.length_append, List.length_append]
    rw [show o ++ ([c] ++ r) = o ++ c :: r from rfl]
    congr 1
    omega
theorem quo_len (l : List UInt8) : (quoL l).length = (l.flatMap escB).length + 2 := by unfold quoL; simp
theorem esc_len_le : ∀ l : List UInt8, (l.flatMap escB).length ≤ 4 * l.length
  | [] => by simp
  | c :: r => by
    have := esc_len_le r
    have := escB_len c
    rw [List.flatMap_cons, List.length_append, List.length_cons]
    omega
theorem esc_len_ge : ∀ l : List UInt8, l.length ≤ (l.flatMap escB).length
  | [] => by simp
  | c :: r => by
    have := esc_len_ge r
    obtain ⟨x, y, hx, _⟩ := esc_head c
    rw [List.flatMap_cons, List.length_append, List.length_cons, hx, List.length_cons]
    omega
theorem one_quo {l : List UInt8} (h : l.length ≤ 4096) : oneT (quoL l) = .ok 4 l 0 (quoL l).length := by
  have h1 : oneT (quoL l) = litT (quoL l) := by
    show (if letT 34 = true then wordT (quoL l) else if dgtT 34 = true then intT (quoL l) else if (34 : UInt8) = 34 then litT (quoL l) else signT (quoL l)) = _
    rw [if_neg (by decide), if_neg (by decide), if_pos rfl]
  rw [h1]
  unfold litT
  have h2 := lit_quote [] l [34] [] ((quoL l).length + 1) (by rw [quo_len]; have := esc_len_ge l; omega) (by simpa using h)
  have h3 : quoL l = [34] ++ (l.flatMap escB ++ 34 :: []) := rfl
  rw [← h3] at h2
  rw [show ([34] : List UInt8).length = 1 from rfl] at h2
  rw [h2, List.nil_append, quo_len]
  congr 1
  omega
theorem scan_quo {l : List UInt8} (h : l.length ≤ 4000) : scanT (quoL l) = .ok [⟨4, 0, l, 0⟩, endT (quoL l).length] := by
  have hl := quo_len l
  have h4 := esc_len_le l
  unfold scanT
  rw [if_neg (by omega)]
  have h0 : skpT (quoL l) 0 = 0 := by unfold skpT; rw [List.drop_zero, Nat.zero_add]; exact spn_no _ (by decide)
  have h1 : oneT ((quoL l).drop 0) = .ok 4 l 0 (quoL l).length := by rw [List.drop_zero]; exact one_quo (by omega)
  have hp : 0 < (quoL l).length := by omega
  rw [h0, scan_ok hp h1]
  obtain ⟨n, hn⟩ : ∃ n, (quoL l).length = n + 1 := ⟨(quoL l).length - 1, by omega⟩
  have h2 : (quoL l).length ≤ skpT (quoL l) (0 + (quoL l).length) := by have := skpT_ge (quoL l) (0 + (quoL l).length); omega
  rw [show scanG (quoL l) (quoL l).length = scanG (quoL l) (n + 1) by rw [hn], scan_end h2]
  rfl

set_option maxRecDepth 100000 in
set_option maxHeartbeats 4000000 in
theorem Literal_any (s : ByteArray) (w : World) (hE : NStd w) : Calls Tryd.prog 7 #[.string s] w fun e w' => e = .returned (.bool true) ∧ Below w.heap.size w w' := by
  have HE := Lib.hid hE
  clear hE
  by_cases hbig : 500 < s.size
  · have hbi : (500 : Int) < (s.size : Int) := by omega
    have HW := Lib.hid (works_any HE.out)
    go_enter Tryd.func7, Tryd.ntmps7
    go_wp2_with fail
    refine (HW.out).mono ?_
    rintro _ w1 ⟨rfl, hb1⟩
    go_wp2
    go_ret
    exact ⟨rfl, hb1⟩
  · have hbi : ¬ (500 : Int) < (s.size : Int) := by omega
    have hls : s.data.toList.length = s.size := by simp
    have QU := Lib.hid (Quote_any s w (by omega))
    have SQ := Lib.hid (scan_quo (l := s.data.toList) (by omega))
    have QL := Lib.hid (quo_len s.data.toList)
    have QL4 := Lib.hid (esc_len_le s.data.toList)
    obtain ⟨q, hq⟩ : ∃ q : ByteArray, q = ⟨(quoL s.data.toList).toArray⟩ := ⟨_, rfl⟩
    have hql : q.data.toList = quoL s.data.toList := by rw [hq]
    have hqs : q.size = (quoL s.data.toList).length := by rw [← hql]; simp
    rw [← hq] at QU
    have HQL := Lib.hid hql
    have HQS := Lib.hid hqs
    have hqz : q.size ≤ 1000000 := by have := QL.out; have := QL4.out; omega
    clear hq hql hqs
    go_enter Tryd.func7, Tryd.ntmps7
    go_wp2_with fail
    refine (QU.out).mono ?_
    rintro _ w1 ⟨rfl, hb1⟩
    have B1 := Lib.hid hb1
    clear hb1 QU
    have SC := Lib.hid (Scan_any q w1 hqz (HE.out.on B1.out))
    rw [HQL.out, SQ.out, ← HQS.out] at SC
    go_wp2_with fail
    refine (SC.out).mono ?_
    rintro _ w2 ⟨hb2, ⟨l, A, c, hl, rfl, ho⟩ | ⟨i, x, hl, _⟩⟩
    case inr => cases hl
    injection hl with hl
    have B2 := Lib.hid (lnk B1.out hb2)
    have T2 : TRow w2 A [⟨4, 0, s.data.toList, 0⟩, endT q.size] := hl ▸ TRow.of_own ho
    have hlen : l.length = 2 := by rw [← hl]; rfl
    rw [hlen]
    obtain ⟨g, o, rfl, _, a0, a1, a2, a3⟩ := T2 0 _ rfl
    obtain ⟨g', o', hA, _, b0, b1, b2, b3⟩ := T2 1 _ rfl
    injection hA with hA
    injection hA with hg ho2
    subst hg ho2
    have WK := Lib.hid (works_any (HE.out.on B2.out))
    clear SC hb2 ho hl hlen T2
    change _ = some (Value.string s) at a2
    change _ = some (Value.string ⟨#[]⟩) at b2
    simp only [endT] at b0 b1 b3
    simp only [Nat.zero_mul, Nat.add_zero] at a0 a1 a2 a3
    simp only [Nat.one_mul] at b0 b1 b2 b3
    have a1' : w2.cell? ⟨g, o + 1, none⟩ = some (.int .i64 0) := a1
    have b1' : w2.cell? ⟨g, o + 5, none⟩ = some (.int .i64 (q.size : Nat)) := b1
    have b2' : w2.cell? ⟨g, o + 6, none⟩ = some (.string ⟨#[]⟩) := b2
    have b3' : w2.cell? ⟨g, o + 7, none⟩ = some (.int .i64 0) := b3
    have tq : ((q.size : Int) == (q.size : Int)) = true := by simp
    go_wp2_with fail
    refine (WK.out).mono ?_
    rintro _ w3 ⟨rfl, hb3⟩
    go_wp2
    go_ret
    exact ⟨rfl, lnk B2.out hb3⟩
theorem TokenLiteral_walk (s : ByteArray) (w : World) (_ : s.size ≤ maxLen) (h : NStd w) : Calls Tryd.prog 7 #[.string s] w fun e w' => e = .returned (.bool true) ∧ Below w.heap.size w w' := Literal_any s w h
end Go.Proofs.YtemdcgeopaphaaaDoor
