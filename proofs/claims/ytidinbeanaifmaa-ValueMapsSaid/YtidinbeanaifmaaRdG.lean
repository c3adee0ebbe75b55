/-
  Contracts of Bool (package wire), count and Bool (the reference).
-/
import Derived.Test.YtidinbeanaifmaaRdF
namespace Go.Proofs.Ytidinbeanaifmaa
open Go.RowKit

theorem rrd_end {w : World} {p : Nat} {l : List UInt8} {A B : Option Addr} {n c m d : Nat} (hb : Bk w p 88 #[.bool true, .slice A n c, .int .i64 0]) (hm : m = 0) (hl : l = []) (hd : m ≤ d ∧ d ≤ 9223372036854775807) :
    RRd (w.setCell ⟨p, 1, none⟩ (.slice B m d)) p l 0 :=
  ⟨_, _, _, [], hb.put 1 _, ⟨by simp [hm], fun h => absurd rfl h⟩, hd.1, hd.2, fun _ => hl.symm⟩
theorem rrd_cut2 {w : World} {p : Nat} {l : List UInt8} {a : Addr} {n c k : Nat} (hb : Bk w p 88 #[.bool true, .slice (some a) n c, .int .i64 0]) (ho : Ow w (some a) n l)
    (hk : k ≤ n) (hn : n ≤ c) (hc : c ≤ 9223372036854775807) (hck : c ≠ k) : RRd (w.setCell ⟨p, 1, none⟩ (.slice (some (a.add k)) (n - k) (c - k))) p (l.drop k) 0 := by
  have h := ho.cut hk hn
  rw [if_neg hck] at h
  exact ⟨_, _, _, _, hb.put 1 _, h.grown hb (by decide) (turned w p 1 _), by omega, by omega, fun _ => rfl⟩

section
variable {w : World} {p : Nat} {l : List UInt8} {e : Int}

theorem rstop_ok (h : RRd w p l 0) : Calls Try.prog 89 #[.pointer (some ⟨p, 0, none⟩)] w (Says (.bool false) w) := rStopped_any h

end
end Go.Proofs.Ytidinbeanaifmaa
