/-
  The walks of WirePrefix, WireRange and WirePuts.
-/
import Derived.Test.YtidinbeanaifmaaLawB
namespace Go.Proofs.Ytidinbeanaifmaa
open Go.RowKit

/-- what every law's walk says: true, and nothing that was there has turned -/
def Holds (w : World) (e : Ending) (w' : World) : Prop := e = .returned (.bool true) ∧ Below w.heap.size w w'

theorem enc_inj_len {m n : Int} (h1 : -9223372036854775808 ≤ m) (h2 : m ≤ 9223372036854775807) (h3 : -9223372036854775808 ≤ n) (h4 : n ≤ 9223372036854775807) (h : enc m = (enc n).take (enc m).length) : m = n := by
  obtain ⟨r, hr⟩ : ∃ r, enc n = enc m ++ r := ⟨(enc n).drop (enc m).length, by
    have h5 := (List.take_append_drop (enc m).length (enc n)).symm
    rw [← h] at h5
    exact h5⟩
  have e1 := sz_enc h1 h2 r
  have e2 := sz_enc h3 h4 []
  rw [List.append_nil, hr, e1.1] at e2
  have hl : (enc m).length = (enc m ++ r).length := by injection e2.1
  have hr0 : r = [] := by
    rw [List.length_append] at hl
    exact List.eq_nil_of_length_eq_zero (by omega)
  rw [hr0, List.append_nil] at hr
  have e3 := (sz_enc h3 h4 []).2
  rw [hr, e1.2] at e3
  rw [← unz_zig m, e3, unz_zig]
theorem prefix_iff {m n : Int} (h1 : -9223372036854775808 ≤ m) (h2 : m ≤ 9223372036854775807) (h3 : -9223372036854775808 ≤ n) (h4 : n ≤ 9223372036854775807) :
    (enc m == (enc n).take (enc m).length) = (m == n) := by
  rw [Bool.eq_iff_iff, beq_iff_eq, beq_iff_eq]
  constructor
  · exact enc_inj_len h1 h2 h3 h4
  · rintro rfl; rw [List.take_length]

/-- a result that owns bytes, its length under a name of its own -/
theorem own_named {w w' : World} {l : List UInt8} {e : Ending} (h : OwnRes w l e w') :
    ∃ A n c, e = .returned (.slice A n c) ∧ Hid (l.length = n) ∧ n ≤ c ∧ c ≤ 9223372036854775807 ∧ Hid (Rb w' w'.heap.size A n l) ∧ Hid (w'.ownsRow w.heap.size 5 1 (.slice A n c) n (l.map b8)) ∧ Hid (Below w.heap.size w w') := by
  obtain ⟨v, rfl, hown, hb⟩ := h
  obtain ⟨A, c, rfl, h1, h2⟩ := own_form hown
  unfold maxLen at h2
  exact ⟨A, _, c, rfl, rfl, h1, by omega, Rb.own hown, hown, hb⟩
theorem PutInt_nil (x : Int) (w : World) (h1 : -9223372036854775808 ≤ x) (h2 : x ≤ 9223372036854775807) : Calls Try.prog 131 #[.slice none 0 0, .int .i64 x] w (OwnRes w (enc x)) :=
  PutInt_any none 0 0 [] 0 w x (Rb.nil0 _ _) (Nat.zero_le _) (by omega) h1 h2
theorem refPutInt_nil (x : Int) (w : World) (h1 : -9223372036854775808 ≤ x) (h2 : x ≤ 9223372036854775807) : Calls Try.prog 108 #[.slice none 0 0, .int .i64 x] w (OwnRes w (enc x)) :=
  refPutInt_any none 0 0 [] 0 w x (Rb.nil0 _ _) (Nat.zero_le _) (by omega) h1 h2
end Go.Proofs.Ytidinbeanaifmaa
