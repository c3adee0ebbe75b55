/-
  Contracts of Open of both packages, and of the law's own function equal.
-/
import Derived.Test.YtlhloebpppmgdaaRdJ
import Derived.Deep.QuietTactic
import Derived.BigQuiet
namespace Go.Proofs.Ytlhloebpppmgdaa
open Go.RowKit

section
variable {w : World} {B : Nat} {A : Option Addr} {n c : Nat} {l : List UInt8}

set_option maxHeartbeats 400000 in
theorem wOpen_any (hr : Rb w B A n l) (hB : B ≤ w.heap.size) (hn : n ≤ 70368744177000) :
    Calls Try.prog 18 #[.slice A n c] w fun e w' => ∃ p, e = .returned (.pointer (some ⟨p, 0, none⟩)) ∧ WRd w' p l 0 ∧ w.heap.size ≤ p ∧ Below w.heap.size w w' := by
  have HR := Lib.hid hr
  clear hr
  go_enter Try.func18, Try.ntmps18
  go_wp2_with fail
  refine (copyOf_any A n c l 0 B w HR.out hB (by omega) (by omega) (by omega)).mono ?_
  rintro e w1 ⟨v, rfl, hown, hb⟩
  obtain ⟨A', c', rfl, hnc, hcm⟩ := own_form hown
  unfold maxLen at hcm
  have H1 := Lib.hid hown
  have H2 := Lib.hid hb
  clear hown hb
  go_wp2
  go_ret
  exact ⟨_, rfl, ⟨A', n, c', l, Bk.new _ _ _, (Ow.of_own H1.out).below (Below.alloc (Below.refl _ _) (Nat.le_refl _) _), hnc, by omega, fun _ => rfl⟩, H2.out.size, H2.out.alloc H2.out.size _⟩

set_option maxHeartbeats 400000 in
theorem rOpen_any (hr : Rb w B A n l) (hB : B ≤ w.heap.size) (hn : n ≤ 70368744177000) :
    Calls Try.prog 19 #[.slice A n c] w fun e w' => ∃ p, e = .returned (.pointer (some ⟨p, 0, none⟩)) ∧ RRd w' p l 0 ∧ w.heap.size ≤ p ∧ Below w.heap.size w w' := by
  obtain ⟨i, hi, hz, hs, hb⟩ := info_parts Try.infob
  have HR := Lib.hid hr
  clear hr
  go_enter Try.func19, Try.ntmps19
  go_wp2_with (at_builtin; refine wpList_append_b8 rfl _ _ 22 rfl w.heap.size 5 i (.int .u8 0) Try.underlying22 hi hz hs hb rfl _ 0 [] rfl (own_empty w 5) B A n c l rfl (HR.out.alloc hB _) ?_ ?_ ?_)
  · omega
  · simp
  · intro v w1 hown hg
    have hown' : w1.ownsRow w.heap.size 5 1 v n (l.map b8) := by simpa using hown
    have hbl : Below w.heap.size w w1 := ((Below.refl _ _).alloc (Nat.le_refl _) _).grown hg (by simp) (fun k hk => by simp [Value.ownBlock] at hk; omega)
    obtain ⟨A', c', rfl, hnc, hcm⟩ := own_form hown'
    unfold maxLen at hcm
    have H1 := Lib.hid hown'
    have H2 := Lib.hid hbl
    clear hown hown' hg hbl
    go_wp2
    go_ret
    exact ⟨_, rfl, ⟨A', n, c', l, Bk.new _ _ _, (Ow.of_own H1.out).below (Below.alloc (Below.refl _ _) (Nat.le_refl _) _), hnc, by omega, fun _ => rfl⟩, H2.out.size, H2.out.alloc H2.out.size _⟩

/-- a bool, and nothing but draws -/
def Draws (x : Value) (w : World) (e : Ending) (w' : World) : Prop := e = .returned x ∧ ∃ k, w' = w.drewN k

set_option maxHeartbeats 1000000 in
theorem equal_any {A' : Option Addr} {n' c' B' : Nat} {l' : List UInt8} (hr : Rb w B A n l) (hr' : Rb w B' A' n' l') (hn : n ≤ 9223372036854775807) :
    Calls Try.prog 11 #[.slice A n c, .slice A' n' c'] w (Draws (.bool (l == l')) w) := by
  have HR := Lib.hid hr
  have HR' := Lib.hid hr'
  clear hr hr'
  by_cases hnn : n = n'
  · subst hnn
    go_enter Try.func11, Try.ntmps11
    go_wp2
    go_loopw [13] (fun i wr => ∃ k m : Nat, k ≤ n ∧ i = .int .i64 k ∧ wr = w.drewN m ∧ Hid (l.take k = l'.take k)) (fun i _ => n - (intOf i).toNat)
    case atStart => exact ⟨0, 0, by omega, rfl, rfl, by simp [Hid]⟩
    case round =>
      obtain ⟨k, m, hkn, rfl, rfl, hs⟩ := hrel
      by_cases hlt : k < n
      · obtain ⟨g, o, x, rfl, _, hx, hcell⟩ := HR.out.at_ hlt
        obtain ⟨g', o', x', rfl, _, hx', hcell'⟩ := HR'.out.at_ hlt
        unfold b8 at hcell hcell'
        have HX := Lib.hid hx
        have HX' := Lib.hid hx'
        clear hx hx'
        by_cases hxx : x = x'
        · subst hxx
          have t1 : ((x.toNat : Int) != (x.toNat : Int)) = false := by simp
          go_wp2_with fail
          go_quiet (fail)
          go_wp2
          go_roundw
          case rel => exact ⟨k + 1, m + nq, by omega, by go_num, rfl, Lib.hid (by rw [take_at HX.out, take_at HX'.out, hs.out])⟩
          case measure => simp [intOf]; omega
        · have t1 : ((x.toNat : Int) != (x'.toNat : Int)) = true := by
            rw [bne_iff_ne]
            intro h
            exact hxx (u8_eq (by omega))
          have HL : Hid ((l == l') = false) := Lib.hid (by
            rw [beq_eq_false_iff_ne]
            intro h
            subst h
            have := HX.out.symm.trans HX'.out
            injection this with this
            exact hxx this)
          clear hxx
          go_wp2_with fail
          go_quiet (fail)
          go_wp2
          go_ret
          exact ⟨ret_bool HL.out.symm, m + nq, by rw [World.drewN_drewN]⟩
      · have hl : l = l' := by
          have h1 := hs.out
          rw [List.take_of_length_le (by have := HR.out.len; omega), List.take_of_length_le (by have := HR'.out.len; omega)] at h1
          exact h1
        have HL : Hid ((l == l') = true) := Lib.hid (by rw [beq_iff_eq]; exact hl)
        clear hs hl
        go_wp2
        go_ret
        exact ⟨ret_bool HL.out.symm, m, rfl⟩
  · have tn : ((n : Int) != (n' : Int)) = true := by rw [bne_iff_ne]; omega
    have HL : Hid ((l == l') = false) := Lib.hid (by rw [beq_eq_false_iff_ne]; intro h; subst h; exact hnn (HR.out.len.symm.trans HR'.out.len))
    clear hnn
    go_enter Try.func11, Try.ntmps11
    go_wp2
    go_ret
    exact ⟨ret_bool HL.out.symm, 0, rfl⟩
end
end Go.Proofs.Ytlhloebpppmgdaa
