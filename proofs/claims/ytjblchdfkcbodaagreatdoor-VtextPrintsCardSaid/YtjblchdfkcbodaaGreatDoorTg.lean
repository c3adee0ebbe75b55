/-
  The parser's value: what it hands back; the contract for one level, out of the contract for the levels below.
-/
import Derived.Test.YtjblchdfkcbodaaGreatDoorTe
import Derived.Test.YtjblchdfkcbodaaGreatDoorTn
import Derived.Test.YtjblchdfkcbodaaGreatDoorVinb
import Derived.Test.YtjblchdfkcbodaaGreatDoorVbs
import Derived.Test.YtjblchdfkcbodaaGreatDoorVfa
namespace Go.Proofs.YtjblchdfkcbodaaGreatDoor
open Go.RowKit

/-- what the parser's value hands back -/
def ValR (r : PR (VT × Nat)) (p : Nat) (s : ByteArray) (w : World) (e : Ending) (w' : World) : Prop :=
  (∃ (k i : Int) (t : ByteArray) (A : Option Addr) (m c : Nat) (A' : Option Addr) (m' c' : Nat) (x : VT) (n j : Nat), e = .returned (.agg #[.int .i64 k, .int .i64 i, .string t, .slice A m c, .slice A' m' c']) ∧
    Hid (r = .ok (x, n) j) ∧ Hid (Lies w' (New w w') x (.agg #[.int .i64 k, .int .i64 i, .string t, .slice A m c, .slice A' m' c'])) ∧ Hid (Ps w' p s j n) ∧ Hid (FrS (One p) w w')) ∨
  ∃ j c, Hid (r = .err j c) ∧ e = fault j c ∧ Hid (FrS (One p) w w')
/-- the contract of value with so many levels below -/
def ValC (k : Nat) : Prop := ∀ (w : World) (p : Nat) (s : ByteArray) (i n : Nat) (d : Int), d + (k : Int) = 17 → 1 ≤ d → Ps w p s i n → Ev w p →
  Calls Tryz.prog 24 #[.pointer (some ⟨p, 0, none⟩), .int .i64 d] w (ValR (valP s.data.toList k i n) p s w)
end Go.Proofs.YtjblchdfkcbodaaGreatDoor
