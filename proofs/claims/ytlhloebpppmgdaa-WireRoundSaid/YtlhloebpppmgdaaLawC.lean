/-
  The walks of WirePrefix, WireRange and WirePuts.
-/
import Derived.Test.YtlhloebpppmgdaaLawB
namespace Go.Proofs.Ytlhloebpppmgdaa
open Go.RowKit

/-- what every law's walk says: true, and nothing that was there has turned -/
def Holds (w : World) (e : Ending) (w' : World) : Prop := e = .returned (.bool true) ∧ Below w.heap.size w w'

theorem enc_inj_len {m n : Int} (h1 : -9223372036854775808 ≤ m) (h2 : m ≤ 9223372036854775807) (h3 : -9223372036854775808 ≤ n) (h4 : n ≤ 9223372036854775807) (h : enc m = (enc n).take (enc m).length) : m = n := by
  obtain ⟨r, hr⟩ : ∃ r, enc n = enc m ++ r := ⟨(enc n).drop (enc m).length, by
    have h5 := (List.take_append_drop (enc m).length (enc n)).symm
    rw [← h] at h5
    exact h5⟩
  have e1 := sz_enc h1 h2 r
  have e2 := sz_enc h3 h4 []
  rw [List.append_nil, hr, e1.1] at e2
  have hl : (enc m).length = (enc m ++ r).length := by injection e2.1
  have hr0 : r = [] := by
    rw [List.length_append] at hl
    exact List.eq_nil_of_length_eq_zero (by omega)
  rw [hr0, List.append_nil] at hr
  have e3 := (sz_enc h3 h4 []).2
  rw [hr, e1.2] at e3
  rw [← unz_zig m, e3, unz_zig]
theorem prefix_iff {m n : Int} (h1 : -9223372036854775808 ≤ m) (h2 : m ≤ 9223372036854775807) (h3 : -9223372036854775808 ≤ n) (h4 : n ≤ 9223372036854775807) :
    (enc m == (enc n).take (enc m).length) = (m == n) := by
  rw [Bool.eq_iff_iff, beq_iff_eq, beq_iff_eq]
  constructor
  · exact enc_inj_len h1 h2 h3 h4
  · rintro rfl; rw [List.take_length]

theorem equal_is {w : World} {B B' : Nat} {A A' : Option Addr} {n n' c c' : Nat} {l l' : List UInt8} (b : Bool) (hr : Rb w B A n l) (hr' : Rb w B' A' n' l') (hn : n ≤ 9223372036854775807) (h : (l == l') = b) :
    Calls Try.prog 11 #[.slice A n c, .slice A' n' c'] w (Draws (.bool b) w) := by
  subst h
  exact equal_any hr hr' hn
/-- a result that owns bytes, its length under a name of its own -/
theorem own_named {w w' : World} {l : List UInt8} {e : Ending} (h : OwnRes w l e w') :
    ∃ A n c, e = .returned (.slice A n c) ∧ Hid (l.length = n) ∧ n ≤ c ∧ c ≤ 9223372036854775807 ∧ Hid (Rb w' w'.heap.size A n l) ∧ Hid (w'.ownsRow w.heap.size 5 1 (.slice A n c) n (l.map b8)) ∧ Hid (Below w.heap.size w w') := by
  obtain ⟨v, rfl, hown, hb⟩ := h
  obtain ⟨A, c, rfl, h1, h2⟩ := own_form hown
  unfold maxLen at h2
  exact ⟨A, _, c, rfl, rfl, h1, by omega, Rb.own hown, hown, hb⟩
theorem PutInt_nil (x : Int) (w : World) (h1 : -9223372036854775808 ≤ x) (h2 : x ≤ 9223372036854775807) : Calls Try.prog 12 #[.slice none 0 0, .int .i64 x] w (OwnRes w (enc x)) :=
  PutInt_any none 0 0 [] 0 w x (Rb.nil0 _ _) (Nat.zero_le _) (by omega) h1 h2
theorem refPutInt_nil (x : Int) (w : World) (h1 : -9223372036854775808 ≤ x) (h2 : x ≤ 9223372036854775807) : Calls Try.prog 13 #[.slice none 0 0, .int .i64 x] w (OwnRes w (enc x)) :=
  refPutInt_any none 0 0 [] 0 w x (Rb.nil0 _ _) (Nat.zero_le _) (by omega) h1 h2
theorem works_below (w w0 : World) (hb : Below w0.heap.size w0 w) : Calls Try.prog 10 #[] w (Holds w0) :=
  (works_any w).mono fun _ _ h => ⟨h.1, hb.trans (h.2.mono hb.size)⟩

set_option maxHeartbeats 1000000 in
theorem WirePrefix_walk (m n : Int) (w : World) (h1 : -9223372036854775808 ≤ m) (h2 : m ≤ 9223372036854775807) (h3 : -9223372036854775808 ≤ n) (h4 : n ≤ 9223372036854775807) :
    Calls Try.prog 7 #[.int .i64 m, .int .i64 n] w (Holds w) := by
  have HPI := Lib.hid (prefix_iff h1 h2 h3 h4)
  have HPJ := Lib.hid (prefix_iff h3 h4 h1 h2)
  have hm10 := enc_len m
  have hn10 := enc_len n
  obtain ⟨b, hb⟩ : ∃ b, (m == n) = b := ⟨_, rfl⟩
  have HNM : Hid ((n == m) = b) := Lib.hid (by rw [← hb, Bool.eq_iff_iff, beq_iff_eq, beq_iff_eq]; exact eq_comm)
  by_cases hle : (enc m).length ≤ (enc n).length
  · have t0 : decide ((enc n).length < (enc m).length) = false := by rw [decide_eq_false_iff_not]; omega
    have HB := Lib.hid hb
    clear hb
    go_enter Try.func7, Try.ntmps7
    go_wp2_with fail
    refine (PutInt_nil m _ h1 h2).mono ?_
    rintro e w1 ⟨v1, rfl, hown, hb1⟩
    obtain ⟨A1, c1, rfl, hc1, _⟩ := own_form hown
    have R1 := Lib.hid (Rb.own hown)
    have B1 := Lib.hid hb1
    clear hown hb1
    go_wp2_with fail
    refine (PutInt_nil n _ h3 h4).mono ?_
    rintro e w2 ⟨v2, rfl, hown, hb2⟩
    obtain ⟨A2, c2, rfl, hc2, _⟩ := own_form hown
    have R1 := Lib.hid (R1.out.below hb2)
    have R2 := Lib.hid (Rb.own hown)
    have B2 := Lib.hid (B1.out.trans (hb2.mono B1.out.size))
    clear hown hb2
    have hlec : (enc m).length ≤ c2 := by omega
    go_wp2_with fail
    refine (equal_is b R1.out (R2.out.front hle) (by omega) (by rw [HPI.out, HB.out])).mono ?_
    rintro e w3 ⟨rfl, k3, rfl⟩
    obtain ⟨w3, hw3⟩ : ∃ w3, w3 = w2.drewN k3 := ⟨_, rfl⟩
    have B3 : Hid (Below w.heap.size w w3) := Lib.hid (by rw [hw3]; exact below_drewN B2.out _)
    rw [← hw3]
    clear hw3
    have hbb : (b == (m == n)) = true := by rw [HB.out]; simp
    go_wp2_with fail
    refine (works_below _ _ B3.out).mono ?_
    rintro e w4 ⟨rfl, hb4⟩
    have B4 := Lib.hid hb4
    clear hb4
    go_wp2
    go_ret
    exact ⟨rfl, B4.out⟩
  · have t0 : decide ((enc n).length < (enc m).length) = true := by rw [decide_eq_true_eq]; omega
    have hle2 : (enc n).length ≤ (enc m).length := by omega
    have HB := Lib.hid hb
    clear hb hle
    go_enter Try.func7, Try.ntmps7
    go_wp2_with fail
    refine (PutInt_nil m _ h1 h2).mono ?_
    rintro e w1 ⟨v1, rfl, hown, hb1⟩
    obtain ⟨A1, c1, rfl, hc1, _⟩ := own_form hown
    have R1 := Lib.hid (Rb.own hown)
    have B1 := Lib.hid hb1
    clear hown hb1
    go_wp2_with fail
    refine (PutInt_nil n _ h3 h4).mono ?_
    rintro e w2 ⟨v2, rfl, hown, hb2⟩
    obtain ⟨A2, c2, rfl, hc2, _⟩ := own_form hown
    have R1 := Lib.hid (R1.out.below hb2)
    have R2 := Lib.hid (Rb.own hown)
    have B2 := Lib.hid (B1.out.trans (hb2.mono B1.out.size))
    clear hown hb2
    have hlec : (enc n).length ≤ c1 := by omega
    go_wp2_with fail
    refine (equal_is b R2.out (R1.out.front hle2) (by omega) (by rw [HPJ.out, HNM.out])).mono ?_
    rintro e w3 ⟨rfl, k3, rfl⟩
    obtain ⟨w3, hw3⟩ : ∃ w3, w3 = w2.drewN k3 := ⟨_, rfl⟩
    have B3 : Hid (Below w.heap.size w w3) := Lib.hid (by rw [hw3]; exact below_drewN B2.out _)
    rw [← hw3]
    clear hw3
    have hbb : (b == (m == n)) = true := by rw [HB.out]; simp
    go_wp2_with fail
    refine (works_below _ _ B3.out).mono ?_
    rintro e w4 ⟨rfl, hb4⟩
    have B4 := Lib.hid hb4
    clear hb4
    go_wp2
    go_ret
    exact ⟨rfl, B4.out⟩
end Go.Proofs.Ytlhloebpppmgdaa
