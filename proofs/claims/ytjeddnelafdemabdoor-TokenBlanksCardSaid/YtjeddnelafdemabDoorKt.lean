/-
  Blanks before a text only move the tokens: mathematics; same.
-/
import Derived.Test.YtjeddnelafdemabDoorKq
import Derived.Deep.QuietTactic
import Derived.BigQuiet
namespace Go.Proofs.YtjeddnelafdemabDoor
open Go.RowKit

def shT (k : Nat) (x : Tok) : Tok := ⟨x.kind, x.off + k, x.text, x.int⟩
def SR.sh (k : Nat) : SR → SR
  | .ok l => .ok (l.map (shT k))
  | .err i e => .err (i + k) e
theorem drop_pre (b l : List UInt8) (i : Nat) : (b ++ l).drop (b.length + i) = l.drop i := by
  rw [List.drop_append, List.drop_of_length_le (by omega), Nat.add_sub_cancel_left, List.nil_append]
theorem skp_pre (b l : List UInt8) (i : Nat) : skpT (b ++ l) (b.length + i) = b.length + skpT l i := by
  unfold skpT
  rw [drop_pre]
  omega
theorem spn_rep (k : Nat) (l : List UInt8) : spn blkT (List.replicate k 32 ++ l) = k + spn blkT l := by
  induction k with
  | zero => simp
  | succ k ih =>
    rw [List.replicate_succ, List.cons_append, spn_yes _ (by decide), ih]
    omega
theorem scanG_pre (b l : List UInt8) : ∀ (f f' i : Nat) (o : List Tok), i ≤ l.length → l.length + 1 ≤ f + i → f ≤ f' → scanG (b ++ l) f' (b.length + i) (o.map (shT b.length)) = (scanG l f i o).sh b.length
  | 0, f', i, o, h1, h2, _ => by omega
  | f + 1, f', i, o, h1, h2, h3 => by
    obtain ⟨g, rfl⟩ : ∃ g, f' = g + 1 := ⟨f' - 1, by omega⟩
    by_cases hi : l.length ≤ i
    · rw [scan_end hi, scan_end (by rw [List.length_append]; omega)]
      show SR.ok (o.map (shT b.length) ++ [endT (b ++ l).length]) = SR.ok ((o ++ [endT l.length]).map (shT b.length))
      rw [List.map_append, List.length_append]
      show SR.ok (_ ++ [endT (b.length + l.length)]) = .ok (_ ++ [shT b.length (endT l.length)])
      rw [show endT (b.length + l.length) = shT b.length (endT l.length) by unfold endT shT; rw [Nat.add_comm]]
    · have hlt : b.length + i < (b ++ l).length := by rw [List.length_append]; omega
      cases h : oneT (l.drop i) with
      | err e =>
        rw [scan_err (by omega) h, scan_err hlt (by rw [drop_pre]; exact h)]
        show SR.err (b.length + i) e = SR.err (i + b.length) e
        rw [Nat.add_comm]
      | ok k t v n =>
        have hn := oneT_n h
        rw [List.length_drop] at hn
        have hle := skpT_le l (i + n) (by omega)
        have hge := skpT_ge l (i + n)
        rw [scan_ok (by omega) h, scan_ok hlt (by rw [drop_pre]; exact h)]
        rw [show b.length + i + n = b.length + (i + n) by omega, skp_pre]
        have ih := scanG_pre b l f g (skpT l (i + n)) (o ++ [⟨k, i, t, v⟩]) hle (by omega) (by omega)
        rw [← ih, List.map_append]
        rw [show [(⟨k, i, t, v⟩ : Tok)].map (shT b.length) = [⟨k, b.length + i, t, v⟩] by unfold shT; simp [Nat.add_comm]]
theorem scanT_pre (k : Nat) (l : List UInt8) (h : k + l.length ≤ 16384) : scanT (List.replicate k 32 ++ l) = (scanT l).sh k := by
  have hk : (List.replicate k (32 : UInt8)).length = k := List.length_replicate ..
  unfold scanT
  rw [if_neg (by rw [List.length_append, hk]; omega), if_neg (by omega)]
  have h0 : skpT (List.replicate k 32 ++ l) 0 = k + skpT l 0 := by
    unfold skpT
    rw [List.drop_zero, spn_rep, List.drop_zero]
    omega
  have := scanG_pre (List.replicate k 32) l (l.length + 1) ((List.replicate k 32 ++ l).length + 1) (skpT l 0) [] (skpT_le l 0 (Nat.zero_le _)) (by omega) (by rw [List.length_append]; omega)
  rw [hk] at this
  rw [h0]
  exact this

set_option maxRecDepth 100000 in
set_option maxHeartbeats 4000000 in
theorem same_any {w : World} {A A' : Option Addr} {c c' k : Nat} {l : List Tok} (h : TRow w A l) (h' : TRow w A' (l.map (shT k))) (hl : l.length ≤ 9223372036854775807) :
    Calls Tryd.prog 6 #[.slice A l.length c, .slice A' l.length c'] w fun e w' => e = .returned (.bool true) ∧ Dr w w' := by
  have H := Lib.hid h
  have H' := Lib.hid h'
  obtain ⟨n, hn⟩ : ∃ n, n = l.length := ⟨_, rfl⟩
  rw [← hn]
  rw [← hn] at hl
  have HN := Lib.hid hn
  have tn : ((n : Int) == (n : Int)) = true := by simp
  have tnn : ((n : Int) != (n : Int)) = false := by simp
  clear h h' hn
  go_enter Tryd.func6, Tryd.ntmps6
  go_wp2_with fail
  go_loopw [13] (fun i wr => ∃ j : Nat, j ≤ n ∧ i = .int .i64 j ∧ Hid (Dr w wr)) (fun i _ => n - (intOf i).toNat)
  case atStart => exact ⟨0, Nat.zero_le _, rfl, Lib.hid (Dr.refl _)⟩
  case round =>
    obtain ⟨j, hj, rfl, HD⟩ := hrel
    by_cases hlt : j < n
    · obtain ⟨x, hx⟩ : ∃ x, l[j]? = some x := ⟨_, List.getElem?_eq_getElem (by rw [← HN.out]; exact hlt)⟩
      have hx' : (l.map (shT k))[j]? = some (shT k x) := by rw [List.getElem?_map, hx]; rfl
      obtain ⟨g, o, rfl, _, a0, a1, a2, a3⟩ := H.out j x hx
      obtain ⟨g', o', rfl, _, b0, b1, b2, b3⟩ := H'.out j _ hx'
      change _ = some (Value.int .i64 x.kind) at b0
      change _ = some (strV x.text) at b2
      change _ = some (Value.int .i64 x.int) at b3
      have hd := fun (a : Addr) => HD.out.cell a
      rw [← hd] at a0 a1 a2 a3 b0 b1 b2 b3
      unfold strV at a2 b2
      have hji : (j : Int) < (n : Int) := by omega
      have k0 : (x.kind != x.kind) = false := by simp
      have k3 : (x.int != x.int) = false := by simp
      clear hx hx' hd a1 b1
      go_wp2_with fail
      go_quiet (fail)
      go_wp2
      go_roundw
      case rel => exact ⟨j + 1, hlt, by go_num, Lib.hid (HD.out.trans (Dr.next _ _))⟩
      case measure => simp [intOf]; omega
    · go_wp2
      go_ret
      exact ⟨rfl, HD.out⟩
end Go.Proofs.YtjeddnelafdemabDoor
