/-
  AppendBool and AppendInt, as appendPayload calls them.
-/
import Derived.Test.YtjblchdfkcbodaaGreatDoorUc
import Derived.Test.YtjblchdfkcbodaaGreatDoorSh
namespace Go.Proofs.YtjblchdfkcbodaaGreatDoor
open Go.RowKit

/-- the words of a truth -/
def boolL (b : Bool) : List UInt8 := if b then [116, 114, 117, 101] else [102, 97, 108, 115, 101]

set_option maxRecDepth 100000 in
set_option maxHeartbeats 4000000 in
theorem inBool_app (b : Bool) (base : Nat) (A : Option Addr) (n cp : Nat) (o : List UInt8) (w : World) (hown : w.ownsRow base 5 1 (.slice A n cp) n (o.map b8)) (hb : base ≤ w.heap.size) (hn : n ≤ 100000000) :
    Calls Tryz.prog 64 #[.slice A n cp, .bool b] w (AppB base (.slice A n cp) w (o ++ boolL b)) := by
  obtain ⟨ti, hti, hz, hsz, hby⟩ := info_parts Tryz.infob
  have HO := Lib.hid hown
  have HB := Lib.hid hb
  clear hown hb
  cases b with
  | true =>
    go_enter Tryz.func64, Tryz.ntmps64
    go_wp2_with (at_builtin; refine wpList_append_str_at rfl _ _ 38 9 rfl base 5 ti Tryz.underlying38 Tryz.underlying9 hti hz hsz hby _ _ _ rfl HO.out ⟨#[116, 114, 117, 101]⟩ rfl ?_ ?_ ?_ ?_)
    · show n + 4 ≤ maxLen; unfold maxLen; omega
    · show n + 4 ≤ _; omega
    · exact HB.out
    · intro v3 w3 ho hg
      have FIN : Hid (AppB base (.slice A n cp) w (o ++ boolL true) (.returned v3) w3) := Lib.hid (AppB.mk' (n := n + 4) (by rw [List.map_append]; exact ho) hg)
      clear ho hg
      go_wp2
      go_ret
      exact FIN.out
  | false =>
    go_enter Tryz.func64, Tryz.ntmps64
    go_wp2_with (at_builtin; refine wpList_append_str_at rfl _ _ 38 9 rfl base 5 ti Tryz.underlying38 Tryz.underlying9 hti hz hsz hby _ _ _ rfl HO.out ⟨#[102, 97, 108, 115, 101]⟩ rfl ?_ ?_ ?_ ?_)
    · show n + 5 ≤ maxLen; unfold maxLen; omega
    · show n + 5 ≤ _; omega
    · exact HB.out
    · intro v3 w3 ho hg
      have FIN : Hid (AppB base (.slice A n cp) w (o ++ boolL false) (.returned v3) w3) := Lib.hid (AppB.mk' (n := n + 5) (by rw [List.map_append]; exact ho) hg)
      clear ho hg
      go_wp2
      go_ret
      exact FIN.out
set_option maxRecDepth 100000 in
set_option maxHeartbeats 4000000 in
theorem bool_app (b : Bool) (base : Nat) (A : Option Addr) (n cp : Nat) (o : List UInt8) (w : World) (hown : w.ownsRow base 5 1 (.slice A n cp) n (o.map b8)) (hb : base ≤ w.heap.size) (hn : n ≤ 100000000) :
    Calls Tryz.prog 37 #[.slice A n cp, .bool b] w (AppB base (.slice A n cp) w (o ++ boolL b)) := by
  have HI := Lib.hid (inBool_app b base A n cp o w hown hb hn)
  clear hown hb
  go_enter Tryz.func37, Tryz.ntmps37
  go_wp2_with fail
  refine (HI.out).mono ?_
  rintro _ w1 ⟨A2, n2, c2, rfl, hl, h1, h2, ho, hf⟩
  go_wp2
  go_ret
  exact ⟨A2, n2, c2, rfl, hl, h1, h2, ho, hf⟩

/-- the table of powers of ten, below a bound -/
def PowTab (B : Nat) (w : World) : Prop := Lib.TabBelow Tryz.prog B w "internal/strconv.uint64pow10" .u64 Lib.pow10Tab
theorem PowTab.on {B : Nat} {w w1 : World} (h : PowTab B w) (hb : Below B w w1) : PowTab B w1 := Lib.TabBelow.on h hb
end Go.Proofs.YtjblchdfkcbodaaGreatDoor
