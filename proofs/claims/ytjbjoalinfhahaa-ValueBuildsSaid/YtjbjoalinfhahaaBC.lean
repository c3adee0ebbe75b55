/-
  Texts of layers 1 and 2, part C: contracts of the code's functions and what they lean on.
-/
import Derived.Test.YtjbjoalinfhahaaBB
import Derived.Deep.QuietTactic
import Derived.BigQuiet
import Derived.Deep.RegionHeld3
namespace Go.Proofs.Ytjbjoalinfhahaa
open Go.RowKit

section
variable {w : World} {B : Nat} {A : Option Addr} {n c : Nat} {l : List UInt8}

set_option maxHeartbeats 400000 in
theorem wOpen_any (hr : Rb w B A n l) (hB : B ≤ w.heap.size) (hn : n ≤ 70368744177000) :
    Calls Try.prog 48 #[.slice A n c] w fun e w' => ∃ p, e = .returned (.pointer (some ⟨p, 0, none⟩)) ∧ WRd w' p l 0 ∧ w.heap.size ≤ p ∧ Below w.heap.size w w' := by
  have HR := Lib.hid hr
  clear hr
  go_enter Try.func48, Try.ntmps48
  go_wp2_with fail
  refine (copyOf_any A n c l 0 B w HR.out hB (by omega) (by omega) (by omega)).mono ?_
  rintro e w1 ⟨v, rfl, hown, hb⟩
  obtain ⟨A', c', rfl, hnc, hcm⟩ := own_form hown
  unfold maxLen at hcm
  have H1 := Lib.hid hown
  have H2 := Lib.hid hb
  clear hown hb
  go_wp2
  go_ret
  exact ⟨_, rfl, ⟨A', n, c', l, Bk.new _ _ _, (Ow.of_own H1.out).below (Below.alloc (Below.refl _ _) (Nat.le_refl _) _), hnc, by omega, fun _ => rfl⟩, H2.out.size, H2.out.alloc H2.out.size _⟩

set_option maxHeartbeats 400000 in
theorem rOpen_any (hr : Rb w B A n l) (hB : B ≤ w.heap.size) (hn : n ≤ 70368744177000) :
    Calls Try.prog 49 #[.slice A n c] w fun e w' => ∃ p, e = .returned (.pointer (some ⟨p, 0, none⟩)) ∧ RRd w' p l 0 ∧ w.heap.size ≤ p ∧ Below w.heap.size w w' := by
  obtain ⟨i, hi, hz, hs, hb⟩ := info_parts Try.infob
  have HR := Lib.hid hr
  clear hr
  go_enter Try.func49, Try.ntmps49
  go_wp2_with (at_builtin; refine wpList_append_b8 rfl _ _ 50 rfl w.heap.size 5 i (.int .u8 0) Try.underlying50 hi hz hs hb rfl _ 0 [] rfl (own_empty w 5) B A n c l rfl (HR.out.alloc hB _) ?_ ?_ ?_)
  · omega
  · simp
  · intro v w1 hown hg
    have hown' : w1.ownsRow w.heap.size 5 1 v n (l.map b8) := by simpa using hown
    have hbl : Below w.heap.size w w1 := ((Below.refl _ _).alloc (Nat.le_refl _) _).grown hg (by simp) (fun k hk => by simp [Value.ownBlock] at hk; omega)
    obtain ⟨A', c', rfl, hnc, hcm⟩ := own_form hown'
    unfold maxLen at hcm
    have H1 := Lib.hid hown'
    have H2 := Lib.hid hbl
    clear hown hown' hg hbl
    go_wp2
    go_ret
    exact ⟨_, rfl, ⟨A', n, c', l, Bk.new _ _ _, (Ow.of_own H1.out).below (Below.alloc (Below.refl _ _) (Nat.le_refl _) _), hnc, by omega, fun _ => rfl⟩, H2.out.size, H2.out.alloc H2.out.size _⟩

/-- a bool, and nothing but draws -/
def Draws (x : Value) (w : World) (e : Ending) (w' : World) : Prop := e = .returned x ∧ ∃ k, w' = w.drewN k

end
end Go.Proofs.Ytjbjoalinfhahaa
namespace Go.Proofs.Ytjbjoalinfhahaa
open Go.RowKit

theorem below_drewN {B : Nat} {a w : World} (h : Below B a w) (k : Nat) : Below B a (w.drewN k) := ⟨h.os, h.tape, h.output, h.size, h.block⟩
theorem below_only {B q : Nat} {a w w' : World} (h : Below B a w) (hg : w.grownBy w' (some q)) (hB : B ≤ w.heap.size) (hq : B ≤ q) : Below B a w' :=
  h.grown hg hB (fun k hk => by injection hk with hk; omega)
theorem Rb.lit (w : World) (t : TypeId) (l : List UInt8) : Rb (w.alloc (.cells (l.map b8).toArray t)) (w.heap.size + 1) (some ⟨w.heap.size, 0, none⟩) l.length l := by
  refine ⟨rfl, fun _ => ⟨w.heap.size, 0, rfl, by omega, fun j d hj => ?_⟩⟩
  rw [Nat.zero_add, World.cell?_alloc_at _ _ _ _ rfl]
  simp [hj]
theorem Rb.own {w : World} {base : Nat} {e : TypeId} {A : Option Addr} {c n : Nat} {l : List UInt8} (h : w.ownsRow base e 1 (.slice A n c) n (l.map b8)) : Rb w w.heap.size A n l := Rb.of_own h
theorem Rb.nil0 (w : World) (B : Nat) : Rb w B none 0 [] := ⟨rfl, fun h => absurd rfl h⟩

section
variable {w w' : World} {p q : Nat} {l : List UInt8} {e : Int} {t : TypeId} {cs : Array Value}
theorem WRd.below (h : WRd w p l e) (hb : Below w.heap.size w w') : WRd w' p l e := by
  obtain ⟨A, n, c, l0, hk, ho, r⟩ := h
  exact ⟨A, n, c, l0, hk.below hb hk.lt, ho.below hb, r⟩
theorem RRd.below (h : RRd w p l e) (hb : Below w.heap.size w w') : RRd w' p l e := by
  obtain ⟨A, n, c, l0, hk, ho, r⟩ := h
  exact ⟨A, n, c, l0, hk.below hb hk.lt, ho.below hb, r⟩
theorem WRd.other (h : WRd w p l e) (hk : Bk w q t cs) (ht : t ≠ 5) (hpq : p ≠ q) (hg : w.grownBy w' (some q)) : WRd w' p l e := by
  obtain ⟨A, n, c, l0, hb, ho, r⟩ := h
  exact ⟨A, n, c, l0, hb.grown hg (fun e => hpq (by injection e)), ho.grown hk ht hg, r⟩
theorem RRd.other (h : RRd w p l e) (hk : Bk w q t cs) (ht : t ≠ 5) (hpq : p ≠ q) (hg : w.grownBy w' (some q)) : RRd w' p l e := by
  obtain ⟨A, n, c, l0, hb, ho, r⟩ := h
  exact ⟨A, n, c, l0, hb.grown hg (fun e => hpq (by injection e)), ho.grown hk ht hg, r⟩
theorem WRd.otherW {l' : List UInt8} {e' : Int} (h : WRd w p l e) (k : WRd w q l' e') (hpq : p ≠ q) (hg : w.grownBy w' (some q)) : WRd w' p l e := by
  obtain ⟨_, _, _, _, hk, _⟩ := k
  exact h.other hk (by decide) hpq hg
theorem WRd.otherR {l' : List UInt8} {e' : Int} (h : WRd w p l e) (k : RRd w q l' e') (hpq : p ≠ q) (hg : w.grownBy w' (some q)) : WRd w' p l e := by
  obtain ⟨_, _, _, _, hk, _⟩ := k
  exact h.other hk (by decide) hpq hg
theorem RRd.otherW {l' : List UInt8} {e' : Int} (h : RRd w p l e) (k : WRd w q l' e') (hpq : p ≠ q) (hg : w.grownBy w' (some q)) : RRd w' p l e := by
  obtain ⟨_, _, _, _, hk, _⟩ := k
  exact h.other hk (by decide) hpq hg
theorem WRd.lt (h : WRd w p l e) : p < w.heap.size := by
  obtain ⟨_, _, _, _, hk, _⟩ := h
  exact hk.lt
theorem RRd.lt (h : RRd w p l e) : p < w.heap.size := by
  obtain ⟨_, _, _, _, hk, _⟩ := h
  exact hk.lt
theorem WRd.ne_ {l' : List UInt8} {e' : Int} (h : WRd w p l e) (k : RRd w q l' e') : p ≠ q := by
  obtain ⟨_, _, _, _, hk, _⟩ := h
  obtain ⟨_, _, _, _, hk', _⟩ := k
  exact hk.ne_ hk' (by decide)
end

end Go.Proofs.Ytjbjoalinfhahaa
namespace Go.Proofs.Ytjbjoalinfhahaa
open Go.RowKit

/-- what every law's walk says: true, and nothing that was there has turned -/
def Holds (w : World) (e : Ending) (w' : World) : Prop := e = .returned (.bool true) ∧ Below w.heap.size w w'

theorem enc_inj_len {m n : Int} (h1 : -9223372036854775808 ≤ m) (h2 : m ≤ 9223372036854775807) (h3 : -9223372036854775808 ≤ n) (h4 : n ≤ 9223372036854775807) (h : enc m = (enc n).take (enc m).length) : m = n := by
  obtain ⟨r, hr⟩ : ∃ r, enc n = enc m ++ r := ⟨(enc n).drop (enc m).length, by
    have h5 := (List.take_append_drop (enc m).length (enc n)).symm
    rw [← h] at h5
    exact h5⟩
  have e1 := sz_enc h1 h2 r
  have e2 := sz_enc h3 h4 []
  rw [List.append_nil, hr, e1.1] at e2
  have hl : (enc m).length = (enc m ++ r).length := by injection e2.1
  have hr0 : r = [] := by
    rw [List.length_append] at hl
    exact List.eq_nil_of_length_eq_zero (by omega)
  rw [hr0, List.append_nil] at hr
  have e3 := (sz_enc h3 h4 []).2
  rw [hr, e1.2] at e3
  rw [← unz_zig m, e3, unz_zig]
theorem prefix_iff {m n : Int} (h1 : -9223372036854775808 ≤ m) (h2 : m ≤ 9223372036854775807) (h3 : -9223372036854775808 ≤ n) (h4 : n ≤ 9223372036854775807) :
    (enc m == (enc n).take (enc m).length) = (m == n) := by
  rw [Bool.eq_iff_iff, beq_iff_eq, beq_iff_eq]
  constructor
  · exact enc_inj_len h1 h2 h3 h4
  · rintro rfl; rw [List.take_length]

/-- a result that owns bytes, its length under a name of its own -/
theorem own_named {w w' : World} {l : List UInt8} {e : Ending} (h : OwnRes w l e w') :
    ∃ A n c, e = .returned (.slice A n c) ∧ Hid (l.length = n) ∧ n ≤ c ∧ c ≤ 9223372036854775807 ∧ Hid (Rb w' w'.heap.size A n l) ∧ Hid (w'.ownsRow w.heap.size 5 1 (.slice A n c) n (l.map b8)) ∧ Hid (Below w.heap.size w w') := by
  obtain ⟨v, rfl, hown, hb⟩ := h
  obtain ⟨A, c, rfl, h1, h2⟩ := own_form hown
  unfold maxLen at h2
  exact ⟨A, _, c, rfl, rfl, h1, by omega, Rb.own hown, hown, hb⟩
theorem PutInt_nil (x : Int) (w : World) (h1 : -9223372036854775808 ≤ x) (h2 : x ≤ 9223372036854775807) : Calls Try.prog 131 #[.slice none 0 0, .int .i64 x] w (OwnRes w (enc x)) :=
  PutInt_any none 0 0 [] 0 w x (Rb.nil0 _ _) (Nat.zero_le _) (by omega) h1 h2
theorem refPutInt_nil (x : Int) (w : World) (h1 : -9223372036854775808 ≤ x) (h2 : x ≤ 9223372036854775807) : Calls Try.prog 108 #[.slice none 0 0, .int .i64 x] w (OwnRes w (enc x)) :=
  refPutInt_any none 0 0 [] 0 w x (Rb.nil0 _ _) (Nat.zero_le _) (by omega) h1 h2
end Go.Proofs.Ytjbjoalinfhahaa
namespace Go.Proofs.Ytjbjoalinfhahaa
open Go.RowKit

theorem textR_enc (s r : List UInt8) (most : Int) (h : (s.length : Int) ≤ most) (hs : s.length ≤ 9223372036854775807) : textR (encText s ++ r) most = (s, r, 0) := by
  have hi := intR_enc (low := 0) (high := most) (n := (s.length : Int)) (by omega) (by omega) (s ++ r)
  rw [if_neg (by omega)] at hi
  unfold textR encText
  rw [List.append_assoc, hi]
  simp only [ne_eq, not_true_eq_false, ↓reduceIte, Int.toNat_natCast]
  rw [if_neg (by rw [List.length_append]; omega), List.take_left, List.drop_left]
theorem boolR_enc (y : Bool) (r : List UInt8) : boolR (boolBytes y ++ r) = (y, r, 0) := by
  cases y <;> rfl
theorem str_back (s : ByteArray) : (⟨s.data.toList.toArray⟩ : ByteArray) = s := by
  cases s; simp

end Go.Proofs.Ytjbjoalinfhahaa
namespace Go.Proofs.Ytjbjoalinfhahaa
open Go.RowKit

/-- what a read of an integer leaves: an error, or exactly an encoding -/
theorem int_out (l : List UInt8) (low high : Int) : ∃ a r e, intR l low high = (a, r, e) ∧ (e ≠ 0 ∨ (e = 0 ∧ ∃ k m, k ≤ l.length ∧ m + k = l.length ∧ r.length = m ∧ enc a = l.take k ∧ -9223372036854775808 ≤ a ∧ a ≤ 9223372036854775807)) := by
  rcases intR_ways l low high with (h | h | h) | ⟨k, hk, _, _, h, _, _, he, hv⟩
  · exact ⟨_, _, _, h, .inl (by decide)⟩
  · exact ⟨_, _, _, h, .inl (by decide)⟩
  · exact ⟨_, _, _, h, .inl (by decide)⟩
  · exact ⟨_, _, _, h, .inr ⟨rfl, k, l.length - k, hk, by omega, by rw [List.length_drop], he, (unz_in hv).1, (unz_in hv).2⟩⟩
theorem text_out (l : List UInt8) (most : Int) : ∃ s r e, textR l most = (s, r, e) ∧ (e ≠ 0 ∨ (e = 0 ∧ ∃ k m, k ≤ l.length ∧ m + k = l.length ∧ r.length = m ∧ encText s = l.take k ∧ s.length ≤ l.length)) := by
  rcases intR_ways l 0 most with h | ⟨k, hk, _, _, h, h0, _, he, _⟩
  · have hT : textR l most = ([], [], (intR l 0 most).2.2) ∧ (intR l 0 most).2.2 ≠ 0 := by
      rcases h with h | h | h <;> simp [textR, h]
    exact ⟨_, _, _, hT.1, .inl hT.2⟩
  · obtain ⟨x, hx⟩ : ∃ x : Nat, unz (val (l.take k)) = (x : Int) := ⟨(unz (val (l.take k))).toNat, by omega⟩
    rw [hx] at h he
    by_cases hlen : (l.drop k).length < x
    · have hT : textR l most = ([], [], 4) := by
        unfold textR
        rw [h]
        simp only [ne_eq, not_true_eq_false, ↓reduceIte]
        rw [if_pos (by omega)]
      exact ⟨_, _, _, hT, .inl (by decide)⟩
    · have hT : textR l most = ((l.drop k).take x, (l.drop k).drop x, 0) := by
        unfold textR
        rw [h]
        simp only [ne_eq, not_true_eq_false, ↓reduceIte]
        rw [if_neg (by omega)]
        simp
      have hle : x ≤ l.length - k := by rw [List.length_drop] at hlen; omega
      refine ⟨_, _, _, hT, .inr ⟨rfl, k + x, l.length - (k + x), by omega, by omega, by rw [List.length_drop, List.length_drop]; omega, ?_, by rw [List.length_take, List.length_drop]; omega⟩⟩
      unfold encText
      have hl : ((l.drop k).take x).length = x := by rw [List.length_take, List.length_drop]; omega
      rw [hl, he, List.take_add]
theorem bool_out (l : List UInt8) : ∃ y r e, boolR l = (y, r, e) ∧ (e ≠ 0 ∨ (e = 0 ∧ ∃ k m, k ≤ l.length ∧ m + k = l.length ∧ r.length = m ∧ boolBytes y = l.take k)) := by
  cases l with
  | nil => exact ⟨_, _, _, rfl, .inl (by decide)⟩
  | cons x r =>
    by_cases hx : 1 < x.toNat
    · exact ⟨false, [], 3, show (if 1 < x.toNat then (false, [], 3) else (x.toNat == 1, r, 0)) = _ by rw [if_pos hx], .inl (by decide)⟩
    · refine ⟨x.toNat == 1, r, 0, show (if 1 < x.toNat then (false, [], 3) else (x.toNat == 1, r, 0)) = _ by rw [if_neg hx], .inr ⟨rfl, 1, r.length, by simp, by simp, rfl, ?_⟩⟩
      have h01 : x.toNat = 0 ∨ x.toNat = 1 := by omega
      rcases h01 with h | h
      · obtain rfl : x = 0 := u8_eq (by simpa using h)
        rfl
      · obtain rfl : x = 1 := u8_eq (by simpa using h)
        rfl
theorem PutText_nil (s : List UInt8) (w : World) (hs : s.length ≤ 30368744177000) : Calls Try.prog 132 #[.slice none 0 0, .string ⟨s.toArray⟩] w (OwnRes w (encText s)) := by
  have h := PutText_any none 0 0 [] 0 w ⟨s.toArray⟩ (Rb.nil0 _ _) (Nat.zero_le _) (by omega) (by show s.toArray.size ≤ _; simpa using hs)
  simpa using h
end Go.Proofs.Ytjbjoalinfhahaa
namespace Go.Proofs.Ytjbjoalinfhahaa
open Go.RowKit

section
variable {w : World} {p : Nat}
/-- a reader that Open did not return -/
def Zr (w : World) (p : Nat) : Prop := Bk w p 86 #[.slice none 0 0, .int .i64 0, .bool false]

set_option maxHeartbeats 400000 in
theorem nilErr : Calls Try.prog 52 #[.pointer none] w (Says (.int .i64 1) w) := by
  go_enter Try.func52, Try.ntmps52
  go_wp2
  go_ret
  exact ⟨rfl, rfl⟩
set_option maxHeartbeats 400000 in
theorem zeroErr (h : Zr w p) : Calls Try.prog 52 #[.pointer (some ⟨p, 0, none⟩)] w (Says (.int .i64 1) w) := by
  have h2 : w.cell? ⟨p, 2, none⟩ = some (.bool false) := Bk.cell h 2
  go_enter Try.func52, Try.ntmps52
  go_wp2
  go_ret
  exact ⟨rfl, rfl⟩
theorem nilFail (x : Int) : Calls Try.prog 134 #[.pointer none, .int .i64 x] w (Says (.tuple #[]) w) := by
  go_enter Try.func134, Try.ntmps134
  go_wp2_with (go_at_call 52; refine nilErr.mono ?_; rintro e w' ⟨rfl, rfl⟩)
  go_end0
  exact ⟨rfl, rfl⟩
theorem zeroFail (x : Int) (h : Zr w p) : Calls Try.prog 134 #[.pointer (some ⟨p, 0, none⟩), .int .i64 x] w (Says (.tuple #[]) w) := by
  have H := Lib.hid h
  clear h
  go_enter Try.func134, Try.ntmps134
  go_wp2_with (go_at_call 52; refine (zeroErr H.out).mono ?_; rintro e w' ⟨rfl, rfl⟩)
  go_end0
  exact ⟨rfl, rfl⟩
theorem nilLeft : Calls Try.prog 54 #[.pointer none] w (Says (.int .i64 0) w) := by
  go_enter Try.func54, Try.ntmps54
  go_wp2_with (go_at_call 52; refine nilErr.mono ?_; rintro e w' ⟨rfl, rfl⟩)
  go_ret
  exact ⟨rfl, rfl⟩
theorem zeroLeft (h : Zr w p) : Calls Try.prog 54 #[.pointer (some ⟨p, 0, none⟩)] w (Says (.int .i64 0) w) := by
  have H := Lib.hid h
  clear h
  go_enter Try.func54, Try.ntmps54
  go_wp2_with (go_at_call 52; refine (zeroErr H.out).mono ?_; rintro e w' ⟨rfl, rfl⟩)
  go_ret
  exact ⟨rfl, rfl⟩
theorem nilInt (low high : Int) : Calls Try.prog 135 #[.pointer none, .int .i64 low, .int .i64 high] w (Says (.int .i64 0) w) := by
  go_enter Try.func135, Try.ntmps135
  go_wp2_with (go_at_call 52; refine nilErr.mono ?_; rintro e w' ⟨rfl, rfl⟩)
  go_ret
  exact ⟨rfl, rfl⟩
theorem zeroInt (low high : Int) (h : Zr w p) : Calls Try.prog 135 #[.pointer (some ⟨p, 0, none⟩), .int .i64 low, .int .i64 high] w (Says (.int .i64 0) w) := by
  have H := Lib.hid h
  clear h
  go_enter Try.func135, Try.ntmps135
  go_wp2_with (go_at_call 52; refine (zeroErr H.out).mono ?_; rintro e w' ⟨rfl, rfl⟩)
  go_ret
  exact ⟨rfl, rfl⟩
theorem zeroText (most : Int) (h : Zr w p) : Calls Try.prog 136 #[.pointer (some ⟨p, 0, none⟩), .int .i64 most] w (Says (.string ⟨#[]⟩) w) := by
  have H := Lib.hid h
  clear h
  go_enter Try.func136, Try.ntmps136
  go_wp2_with (first | (go_at_call 135; refine (zeroInt _ _ H.out).mono ?_; rintro e w' ⟨rfl, rfl⟩) | (go_at_call 54; refine (zeroLeft H.out).mono ?_; rintro e w' ⟨rfl, rfl⟩) | (go_at_call 52; refine (zeroErr H.out).mono ?_; rintro e w' ⟨rfl, rfl⟩))
  go_ret
  exact ⟨rfl, rfl⟩
end

/-- nothing from block B on has turned -/
def Above (B : Nat) (w w' : World) : Prop := ∀ k, B ≤ k → w'.heap[k]? = w.heap[k]?

theorem own_above {w w' : World} {base : Nat} {e : TypeId} {size n : Nat} {v : Value} {xs : List Value} (h : w.ownsRow base e size v n xs) (ha : Above base w w') : w'.ownsRow base e size v n xs := by
  refine ⟨h.1, ?_⟩
  rcases h.2 with h0 | ⟨g, cap, cur, hv, hb, hg, r⟩
  · exact .inl h0
  · exact .inr ⟨g, cap, cur, hv, hb, (ha g hb).trans hg, r⟩

set_option maxHeartbeats 400000 in
theorem wOpen_far {w : World} {B : Nat} {A : Option Addr} {n c : Nat} {l : List UInt8} (hr : Rb w B A n l) (hB : B ≤ w.heap.size) (hn : n ≤ 70368744177000) :
    Calls Try.prog 48 #[.slice A n c] w fun e w' => ∃ p, e = .returned (.pointer (some ⟨p, 0, none⟩)) ∧ w.heap.size ≤ p ∧ Below w.heap.size w w' ∧ ∀ w'', Above w.heap.size w' w'' → WRd w'' p l 0 := by
  have HR := Lib.hid hr
  clear hr
  go_enter Try.func48, Try.ntmps48
  go_wp2_with fail
  refine (copyOf_any A n c l 0 B w HR.out hB (by omega) (by omega) (by omega)).mono ?_
  rintro e w1 ⟨v, rfl, hown, hb⟩
  obtain ⟨A', c', rfl, hnc, hcm⟩ := own_form hown
  unfold maxLen at hcm
  have H1 := Lib.hid hown
  have H2 := Lib.hid hb
  clear hown hb
  go_wp2
  go_ret
  refine ⟨_, rfl, H2.out.size, H2.out.alloc H2.out.size _, fun w'' ha => ⟨A', n, c', l, (ha _ H2.out.size).trans (Bk.new _ _ _), ?_, hnc, by omega, fun _ => rfl⟩⟩
  exact Ow.of_own (own_above (H1.out.alloc _) ha)

/-- an owned row, its head and cells -/
theorem own_stored {w : World} {base : Nat} {e : TypeId} {A : Option Addr} {n c k : Nat} {xs : List Value} (h : w.ownsRow base e 1 (.slice A n c) n xs) (hk : k < n) (u : Value) :
    ∃ g old, A = some ⟨g, 0, none⟩ ∧ base ≤ g ∧ w.cell? ⟨g, k, none⟩ = some old ∧ w.frozen? ⟨g, k, none⟩ = false ∧ ∃ ys, (w.setCell ⟨g, k, none⟩ u).ownsRow base e 1 (.slice A n c) n ys := by
  have hlen := h.1
  rcases h.2 with ⟨_, rfl⟩ | ⟨g, cap, cur, hv, hb, _⟩
  · omega
  · injection hv with hA hn hc
    subst hA hc
    have hcell := h.cellAt k (by omega)
    have hx : xs[k]? = some xs[k] := List.getElem?_eq_getElem (by omega)
    exact ⟨g, _, rfl, hb, by rw [hcell, hx], h.frozenAt k, _, (h.stored k u).1⟩

end Go.Proofs.Ytjbjoalinfhahaa
namespace Go.Proofs.Ytjbjoalinfhahaa
open Go.RowKit

/-- the three reads, whatever the error is -/
def intS (l : List UInt8) (e low high : Int) : Int × List UInt8 × Int := if e = 0 then intR l low high else (0, l, e)
def textS (l : List UInt8) (e most : Int) : List UInt8 × List UInt8 × Int := if e = 0 then textR l most else ([], l, e)
def boolS (l : List UInt8) (e : Int) : Bool × List UInt8 × Int := if e = 0 then boolR l else (false, l, e)

section
variable {w : World} {p q : Nat} {l : List UInt8} {e : Int}
theorem wInt_any (low high : Int) (h : WRd w p l e) : Calls Try.prog 135 #[.pointer (some ⟨p, 0, none⟩), .int .i64 low, .int .i64 high] w
    (Turns (.int .i64 (intS l e low high).1) w p fun w' => WRd w' p (intS l e low high).2.1 (intS l e low high).2.2) := by
  unfold intS
  by_cases he : e = 0
  · subst he; rw [if_pos rfl]; exact wInt_ok low high h
  · rw [if_neg he]; exact wInt_err low high h he
theorem rInt_any (low high : Int) (h : RRd w p l e) : Calls Try.prog 138 #[.pointer (some ⟨p, 0, none⟩), .int .i64 low, .int .i64 high] w
    (Turns (.int .i64 (intS l e low high).1) w p fun w' => RRd w' p (intS l e low high).2.1 (intS l e low high).2.2) := by
  unfold intS
  by_cases he : e = 0
  · subst he; rw [if_pos rfl]; exact rInt_ok low high h
  · rw [if_neg he]; exact rInt_err low high h he
theorem wText_any (most : Int) (h : WRd w p l e) : Calls Try.prog 136 #[.pointer (some ⟨p, 0, none⟩), .int .i64 most] w
    (Turns (.string ⟨(textS l e most).1.toArray⟩) w p fun w' => WRd w' p (textS l e most).2.1 (textS l e most).2.2) := by
  unfold textS
  by_cases he : e = 0
  · subst he; rw [if_pos rfl]; exact wText_ok most h
  · rw [if_neg he]; exact wText_err most h he
theorem rText_any (most : Int) (h : RRd w p l e) : Calls Try.prog 139 #[.pointer (some ⟨p, 0, none⟩), .int .i64 most] w
    (Turns (.string ⟨(textS l e most).1.toArray⟩) w p fun w' => RRd w' p (textS l e most).2.1 (textS l e most).2.2) := by
  unfold textS
  by_cases he : e = 0
  · subst he; rw [if_pos rfl]; exact rText_ok most h
  · rw [if_neg he]; exact rText_err most h he
def failS (e x : Int) : Int := if e = 0 then x else e
theorem rFail_named (x : Int) (h : RRd w p l e) : Calls Try.prog 137 #[.pointer (some ⟨p, 0, none⟩), .int .i64 x] w (Turns (.tuple #[]) w p fun w' => RRd w' p l (failS e x)) := rFail_any x h
theorem wFail_any (x : Int) (h : WRd w p l e) : Calls Try.prog 134 #[.pointer (some ⟨p, 0, none⟩), .int .i64 x] w (Turns (.tuple #[]) w p fun w' => WRd w' p l (failS e x)) := by
  unfold failS
  by_cases he : e = 0
  · subst he; rw [if_pos rfl]; exact wFail_ok x h
  · rw [if_neg he]; exact wFail_err x h he

/-- a fourth block stays: neither reader is in it -/
theorem cell_only {w w' : World} {g p i : Nat} (hg : w.grownBy w' (some p)) (hlt : g < w.heap.size) (hne : g ≠ p) : w'.cell? ⟨g, i, none⟩ = w.cell? ⟨g, i, none⟩ :=
  World.cell?_of_block (hg.block g hlt (fun e => hne (by injection e)))

/-- both readers after both calls, in either order -/
def Fin (w w' : World) (p q : Nat) (l' : List UInt8) (e' : Int) : Prop :=
  WRd w' p l' e' ∧ RRd w' q l' e' ∧ ∀ B, B ≤ p → B ≤ q → B ≤ w.heap.size → Below B w w'
theorem fin_AB {w W wA wB : World} {l1 : List UInt8} {e1 : Int} (hb : Below w.heap.size w W) (P : WRd W p l e) (Q : RRd W q l e) (hA : W.grownBy wA (some p)) (hB : wA.grownBy wB (some q)) (PA : WRd wA p l1 e1) (QB : RRd wB q l1 e1) : Fin w wB p q l1 e1 :=
  ⟨PA.otherR (Q.otherW P (fun h => P.ne_ Q h.symm) hA) (P.ne_ Q) hB, QB, fun _ h1 h2 h3 =>
    below_only (below_only (hb.mono h3) hA (Nat.le_trans h3 hb.size) h1) hB (Nat.le_trans (Nat.le_trans h3 hb.size) hA.size) h2⟩
theorem fin_BA {w W wA wB : World} {l1 : List UInt8} {e1 : Int} (hb : Below w.heap.size w W) (P : WRd W p l e) (Q : RRd W q l e) (hB : W.grownBy wB (some q)) (hA : wB.grownBy wA (some p)) (PA : WRd wA p l1 e1) (QB : RRd wB q l1 e1) : Fin w wA p q l1 e1 :=
  ⟨PA, QB.otherW (P.otherR Q (P.ne_ Q) hB) (fun h => P.ne_ Q h.symm) hA, fun _ h1 h2 h3 =>
    below_only (below_only (hb.mono h3) hB (Nat.le_trans h3 hb.size) h2) hA (Nat.le_trans (Nat.le_trans h3 hb.size) hB.size) h1⟩

/-- what play says -/
def Plays (w : World) (p q : Nat) (e1 : Ending) (w' : World) : Prop := e1 = .returned (.bool true) ∧ ∃ l' e', Fin w w' p q l' e'

end
end Go.Proofs.Ytjbjoalinfhahaa
