/-
  Contracts of PutInt, PutText, PutBool (package wire).
-/
import Derived.Test.YtidinbeanaifmaaPutB
import Derived.Lib.AppendStr
namespace Go.Proofs.Ytidinbeanaifmaa
open Go.RowKit

/-- a result that owns the bytes l, in a world in which nothing that was there has turned -/
def OwnRes (w : World) (l : List UInt8) (e : Ending) (w' : World) : Prop :=
  ∃ v, e = .returned v ∧ w'.ownsRow w.heap.size 5 1 v l.length (l.map b8) ∧ Below w.heap.size w w'

def boolBytes (b : Bool) : List UInt8 := [if b then 1 else 0]
def encText (s : List UInt8) : List UInt8 := enc (s.length : Nat) ++ s

section
variable (A : Option Addr) (n c : Nat) (l : List UInt8) (B : Nat) (w : World)

set_option maxHeartbeats 400000 in
theorem PutInt_any (x : Int) (hr : Rb w B A n l) (hB : B ≤ w.heap.size) (hn : n ≤ 70368744177000) (h1 : -9223372036854775808 ≤ x) (h2 : x ≤ 9223372036854775807) :
    Calls Try.prog 131 #[.slice A n c, .int .i64 x] w (OwnRes w (l ++ enc x)) := by
  have HR := Lib.hid hr
  clear hr
  go_enter Try.func131, Try.ntmps131
  go_wp2_with fail
  refine (copyOf_any A n c l 10 B w HR.out hB (by omega) (by omega) (by omega)).mono ?_
  rintro e w1 ⟨v, rfl, hown, hb⟩
  have H1 := Lib.hid hown
  have H2 := Lib.hid hb
  clear hown hb
  go_wp2_with fail
  refine (appendInt_any w.heap.size v n (l.map b8) x w1 H1.out H2.out.size (by omega) h1 h2).mono ?_
  rintro e w2 ⟨v2, rfl, hown, hb⟩
  have H3 := Lib.hid hown
  have H4 := Lib.hid (H2.out.trans hb)
  clear hown hb
  go_wp2
  go_ret
  exact ⟨v2, rfl, by have := HR.out.len; rw [List.length_append, List.map_append, this]; exact H3.out, H4.out⟩

set_option maxHeartbeats 400000 in
theorem PutText_any (s : ByteArray) (hr : Rb w B A n l) (hB : B ≤ w.heap.size) (hn : n ≤ 30368744177000) (hs : s.size ≤ 30368744177000) :
    Calls Try.prog 132 #[.slice A n c, .string s] w (OwnRes w (l ++ encText s.data.toList)) := by
  have hel := enc_len (s.size : Nat)
  obtain ⟨i, hi, hz, hsz, hb⟩ := info_parts Try.infob
  have HR := Lib.hid hr
  clear hr
  go_enter Try.func132, Try.ntmps132
  go_wp2_with fail
  refine (copyOf_any A n c l _ B w HR.out hB (by omega) (by omega) (by omega)).mono ?_
  rintro e w1 ⟨v, rfl, hown, hb1⟩
  have H1 := Lib.hid hown
  have H2 := Lib.hid hb1
  clear hown hb1
  go_wp2_with fail
  refine (appendInt_any w.heap.size v n (l.map b8) _ w1 H1.out H2.out.size (by omega) (by omega) (by omega)).mono ?_
  rintro e w2 ⟨v2, rfl, hown, hb2⟩
  have H3 := Lib.hid hown
  have H4 := Lib.hid (H2.out.trans hb2)
  clear hown hb2
  go_wp2_with (at_builtin; refine Lib.wpList_append_own_string _ rfl _ _ 50 9 rfl w.heap.size 5 i Try.underlying50 Try.underlying9 hi hz hsz hb _ _ _ rfl H3.out s rfl ?_ ?_ ?_ ?_)
  · unfold maxLen; omega
  · omega
  · exact H4.out.size
  · intro v' w3 hown hg _
    have hb3 : Below w.heap.size w w3 := H4.out.grown hg H4.out.size (fun k hk => (H3.out.lt k hk).1)
    have H5 := Lib.hid hown
    have H6 := Lib.hid hb3
    clear hown hg hb3
    go_wp2
    go_ret
    refine ⟨v', rfl, ?_, H6.out⟩
    have e1 : s.data.toList.length = s.size := by rw [Array.length_toList]; rfl
    have e2 : (l ++ encText s.data.toList).length = n + (enc (s.size : Nat)).length + s.size := by unfold encText; rw [List.length_append, List.length_append, HR.out.len, e1]; omega
    have e3 : (l ++ encText s.data.toList).map b8 = l.map b8 ++ ((enc (s.size : Nat)).map b8 ++ Lib.strCells s) := by
      unfold encText
      rw [e1, List.map_append, List.map_append]
      rfl
    rw [e2, e3]
    exact H5.out

end
end Go.Proofs.Ytidinbeanaifmaa
