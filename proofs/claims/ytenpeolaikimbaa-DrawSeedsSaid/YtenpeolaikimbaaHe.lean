/-
  Contracts of eight and Mix (the reference).
-/
import Derived.Test.YtenpeolaikimbaaHd
import Derived.Laws.IdiomStrings
import Derived.Laws.OwnMore
namespace Go.Proofs.Ytenpeolaikimbaa
open Go.RowKit

theorem run_str {P : Program} {w : World} {B : Nat} {A : Option Addr} {n c : Nat} {l : List UInt8} (src dst e : TypeId) (hs : P.underlying src = some (.slice e)) (he : P.underlying e = some (.int .u8)) (hd : P.underlying dst = some .string)
    (h : Rb w B A n l) : (convert src dst (.slice A n c)).run P w = .ok (.string ⟨l.toArray⟩) w := by
  obtain rfl := h.1
  cases A with
  | none =>
    have hl : l = [] := by
      rcases List.eq_nil_or_concat l with h0 | ⟨r, x, h0⟩
      · exact h0
      · obtain ⟨_, _, ha, _⟩ := h.2 (by rw [h0]; simp)
        cases ha
    subst hl
    rw [run_convert_bytes_string w src dst e _ _ c hs he hd]
    simp [Conv.bytesToString, Sem.run_pure]
    rfl
  | some a =>
    refine run_convert_bytes_back w src dst e a c l hs he hd fun j hj => ?_
    obtain ⟨g, o, ha, _, hc⟩ := h.2 (by intro h0; subst h0; simp at hj)
    injection ha with ha
    subst ha
    rw [Addr.add_lit]
    exact hc j _ (List.getElem?_eq_getElem hj)

theorem Try.infob : (Try.prog.info? 5).map (fun i => (i.zero, i.size, i.bytes)) = some (some (.int .u8 0), 1, 1) := by kernel_rfl
theorem madeB_eq (n : Nat) : (madeCells #[Value.int .u8 0] n).toList = (List.replicate n (0 : UInt8)).map b8 := by
  rw [toList_madeCells_one, List.map_replicate]
  rfl
/-- the row of eight as it stands when j bytes are written -/
def row8 (u j : Nat) : List UInt8 := List.replicate (8 - j) 0 ++ bek j u
theorem row8_len {u j : Nat} (h : j ≤ 8) : (row8 u j).length = 8 := by
  unfold row8
  rw [List.length_append, List.length_replicate, bek_len]
  omega
theorem row8_next {u j : Nat} (h : j < 8) : (row8 u j).set (7 - j) (UInt8.ofNat (u / 256 ^ j % 256)) = row8 u (j + 1) := by
  unfold row8
  rw [show 8 - j = (7 - j) + 1 by omega, show 8 - (j + 1) = 7 - j by omega, List.replicate_succ', List.append_assoc, List.set_append_right _ _ (by simp), bek_cons]
  simp
theorem row8_map {u j : Nat} (h : j < 8) : ((row8 u j).map b8).set (7 - j) (.int .u8 ((u / 256 ^ j % 256 : Nat) : Int)) = (row8 u (j + 1)).map b8 := by
  rw [← row8_next h, List.map_set]
  unfold b8
  rw [ofNat_mod]

theorem quo256 {q : Nat} (h : q < 18446744073709551616) : IntKind.u64.wrap ((q : Int) / 256) = ((q / 256 : Nat) : Int) := by
  rw [IntKind.wrap_u64]
  omega
theorem rem256 (q : Nat) : (q : Int) % 256 = ((q % 256 : Nat) : Int) := by omega
theorem pow256 {u j q : Nat} (h : q = u / 256 ^ j) : q / 256 = u / 256 ^ (j + 1) := by
  rw [h, Nat.pow_succ, ← Nat.div_div_eq_div_mul]

theorem bytes_app (l m : List UInt8) : ((⟨l.toArray⟩ : ByteArray) ++ (⟨m.toArray⟩ : ByteArray)).data.toList = l ++ m := by simp
theorem mix_app (a b : Int) : fnv (bek 8 (u64 a) ++ bek 8 (u64 b)) % 2147483648 = mix a b := by
  unfold fnv mix
  rw [fnvL_app]

end Go.Proofs.Ytenpeolaikimbaa
