/-
  The mathematics of layer 4: FNV-1a, CRC-32 and the mixing of two integers, over natural numbers. Nothing of the program is named here.
-/
import Derived.WalkKit
import Derived.Laws.BitsAllLaws
namespace Go.Proofs.Ytenpeolaikimbaa

/-- one byte more of FNV-1a -/
def fnvS (h c : Nat) : Nat := (h ^^^ c) * 16777619 % 4294967296
def fnvL (h : Nat) (l : List UInt8) : Nat := l.foldl (fun h c => fnvS h c.toNat) h
def fnv (l : List UInt8) : Nat := fnvL 2166136261 l

theorem fnvS_lt (h c : Nat) : fnvS h c < 4294967296 := Nat.mod_lt _ (by omega)
theorem fnvL_lt (h : Nat) (l : List UInt8) (hh : h < 4294967296) : fnvL h l < 4294967296 := by
  induction l generalizing h with
  | nil => exact hh
  | cons c r ih => exact ih _ (fnvS_lt _ _)
theorem fnv_lt (l : List UInt8) : fnv l < 4294967296 := by
  unfold fnv
  exact fnvL_lt _ _ (by decide)
theorem fnvL_app (h : Nat) (l r : List UInt8) : fnvL h (l ++ r) = fnvL (fnvL h l) r := by unfold fnvL; rw [List.foldl_append]
theorem fnvL_snoc (h : Nat) (l : List UInt8) (c : UInt8) : fnvL h (l ++ [c]) = fnvS (fnvL h l) c.toNat := by
  rw [fnvL_app]
  have e : ∀ b, fnvL b [c] = fnvS b c.toNat := fun b => by unfold fnvL; rw [List.foldl_cons, List.foldl_nil]
  exact e _
theorem fnv_snoc (l : List UInt8) (c : UInt8) : fnv (l ++ [c]) = fnvS (fnv l) c.toNat := by
  unfold fnv
  rw [fnvL_snoc]

theorem xor_lt {a b : Nat} (ha : a < 4294967296) (hb : b < 4294967296) : a ^^^ b < 4294967296 := Nat.xor_lt_two_pow (n := 32) ha hb
theorem xor_cancel {h a b : Nat} (e : h ^^^ a = h ^^^ b) : a = b := by
  have : h ^^^ (h ^^^ a) = h ^^^ (h ^^^ b) := by rw [e]
  rwa [← Nat.xor_assoc, ← Nat.xor_assoc, Nat.xor_self, Nat.zero_xor, Nat.zero_xor] at this
theorem mul_back {a : Nat} (ha : a < 4294967296) : (a * 16777619 % 4294967296) * 899433627 % 4294967296 = a := by
  rw [Nat.mod_mul_mod, Nat.mul_assoc, show 16777619 * 899433627 = 4294967296 * 3513497 + 1 from rfl, Nat.mul_add, Nat.mul_one, ← Nat.mul_assoc, Nat.mul_comm a, Nat.mul_assoc, Nat.mul_add_mod, Nat.mod_eq_of_lt ha]
theorem mul_cancel {a b : Nat} (ha : a < 4294967296) (hb : b < 4294967296) (e : a * 16777619 % 4294967296 = b * 16777619 % 4294967296) : a = b := by
  rw [← mul_back ha, ← mul_back hb, e]
theorem fnvS_inj {h a b : Nat} (hh : h < 4294967296) (ha : a < 256) (hb : b < 256) (e : fnvS h a = fnvS h b) : a = b :=
  xor_cancel (mul_cancel (xor_lt hh (by omega)) (xor_lt hh (by omega)) e)

/-- one bit out of the register -/
def crcB (r : Nat) : Nat := if r % 2 = 1 then (r / 2) ^^^ 3988292384 else r / 2
def crcN : Nat → Nat → Nat
  | 0, r => r
  | k + 1, r => crcB (crcN k r)
def crcS (r c : Nat) : Nat := crcN 8 (r ^^^ c)
def crcL (r : Nat) (l : List UInt8) : Nat := l.foldl (fun r c => crcS r c.toNat) r
def crc (l : List UInt8) : Nat := 4294967295 - crcL 4294967295 l

theorem crcB_lt {r : Nat} (h : r < 4294967296) : crcB r < 4294967296 := by
  unfold crcB; split
  · exact xor_lt (by omega) (by omega)
  · omega
theorem crcN_lt (k : Nat) {r : Nat} (h : r < 4294967296) : crcN k r < 4294967296 := by
  induction k with
  | zero => exact h
  | succ k ih => exact crcB_lt ih
theorem u8_lt (c : UInt8) : c.toNat < 4294967296 := by have := c.toNat_lt; omega
theorem crcS_lt {r : Nat} (c : UInt8) (h : r < 4294967296) : crcS r c.toNat < 4294967296 := crcN_lt 8 (xor_lt h (u8_lt c))
theorem crcL_lt {r : Nat} (l : List UInt8) (h : r < 4294967296) : crcL r l < 4294967296 := by
  induction l generalizing r with
  | nil => exact h
  | cons c l ih => exact ih (crcS_lt c h)
theorem crcL_app (r : Nat) (l m : List UInt8) : crcL r (l ++ m) = crcL (crcL r l) m := by unfold crcL; rw [List.foldl_append]
theorem crcL_snoc (r : Nat) (l : List UInt8) (c : UInt8) : crcL r (l ++ [c]) = crcS (crcL r l) c.toNat := by
  rw [crcL_app]
  have e : ∀ b, crcL b [c] = crcS b c.toNat := fun b => by unfold crcL; rw [List.foldl_cons, List.foldl_nil]
  exact e _

theorem xor_right {a b c : Nat} (e : a ^^^ c = b ^^^ c) : a = b := by rw [Nat.xor_comm a, Nat.xor_comm b] at e; exact xor_cancel e
theorem top_xor {a : Nat} (h : a < 2147483648) : 2147483648 ≤ a ^^^ 3988292384 := by
  rcases Nat.lt_or_ge (a ^^^ 3988292384) 2147483648 with h1 | h1
  · have h2 : (a ^^^ 3988292384) ^^^ a < 2147483648 := Nat.xor_lt_two_pow (n := 31) h1 h
    rw [Nat.xor_comm a, Nat.xor_assoc, Nat.xor_self, Nat.xor_zero] at h2
    omega
  · exact h1
theorem crcB_inj {a b : Nat} (ha : a < 4294967296) (hb : b < 4294967296) (e : crcB a = crcB b) : a = b := by
  unfold crcB at e
  have ta := top_xor (a := a / 2) (by omega)
  have tb := top_xor (a := b / 2) (by omega)
  split at e <;> split at e
  · have := xor_right e; omega
  · omega
  · omega
  · omega
theorem crcN_inj (k : Nat) {a b : Nat} (ha : a < 4294967296) (hb : b < 4294967296) (e : crcN k a = crcN k b) : a = b := by
  induction k with
  | zero => exact e
  | succ k ih => exact ih (crcB_inj (crcN_lt k ha) (crcN_lt k hb) e)
theorem crcS_inj {a b : Nat} (c : UInt8) (ha : a < 4294967296) (hb : b < 4294967296) (e : crcS a c.toNat = crcS b c.toNat) : a = b :=
  xor_right (crcN_inj 8 (xor_lt ha (u8_lt c)) (xor_lt hb (u8_lt c)) e)
theorem crcS_inj2 {r : Nat} (c d : UInt8) (h : r < 4294967296) (e : crcS r c.toNat = crcS r d.toNat) : c = d :=
  UInt8.toNat_inj.1 (xor_cancel (crcN_inj 8 (xor_lt h (u8_lt c)) (xor_lt h (u8_lt d)) e))
theorem crcL_inj {a b : Nat} (l : List UInt8) (ha : a < 4294967296) (hb : b < 4294967296) (e : crcL a l = crcL b l) : a = b := by
  induction l generalizing a b with
  | nil => exact e
  | cons c l ih => exact crcS_inj c ha hb (ih (crcS_lt c ha) (crcS_lt c hb) e)
/-- one changed byte changes the checksum -/
theorem crc_byte (l m : List UInt8) (x y : UInt8) : (crc (l ++ x :: m) = crc (l ++ y :: m)) ↔ x = y := by
  constructor
  · intro e
    unfold crc at e
    have hl := crcL_lt l (show 4294967295 < 4294967296 by omega)
    have h1 := crcL_lt (l ++ x :: m) (show 4294967295 < 4294967296 by omega)
    have h2 := crcL_lt (l ++ y :: m) (show 4294967295 < 4294967296 by omega)
    have e2 : crcL 4294967295 (l ++ x :: m) = crcL 4294967295 (l ++ y :: m) := by omega
    rw [crcL_app, crcL_app] at e2
    exact crcS_inj2 x y hl (crcL_inj m (crcS_lt x hl) (crcS_lt y hl) e2)
  · rintro rfl; rfl
theorem crc_set (l : List UInt8) (k : Nat) (x : UInt8) (hk : k < l.length) : (crc l = crc (l.set k x)) ↔ l[k] = x := by
  have e1 : l = l.take k ++ l[k] :: l.drop (k + 1) := by rw [List.getElem_cons_drop, List.take_append_drop]
  have e2 : l.set k x = l.take k ++ x :: l.drop (k + 1) := by rw [List.set_eq_take_append_cons_drop, if_pos hk]
  rw [e2]
  conv => lhs; lhs; rw [e1]
  exact crc_byte _ _ _ _

/-- the k lowest bytes of a number, the most significant one first -/
def bek : Nat → Nat → List UInt8
  | 0, _ => []
  | k + 1, u => bek k (u / 256) ++ [UInt8.ofNat (u % 256)]
theorem bek_len (k u : Nat) : (bek k u).length = k := by
  induction k generalizing u with
  | zero => rfl
  | succ k ih => simp [bek, ih]
theorem bek_cons (k u : Nat) : bek (k + 1) u = UInt8.ofNat (u / 256 ^ k % 256) :: bek k u := by
  induction k generalizing u with
  | zero => simp [bek]
  | succ k ih =>
    show bek (k + 1) (u / 256) ++ _ = _
    rw [ih]
    show _ = _ :: (bek k (u / 256) ++ _)
    rw [Nat.div_div_eq_div_mul, Nat.pow_succ, Nat.mul_comm 256]
    rfl
/-- the number of an integer's bits -/
def u64 (n : Int) : Nat := (n % 18446744073709551616).toNat
theorem u64_lt (n : Int) : u64 n < 18446744073709551616 := by unfold u64; omega
def mix (a b : Int) : Nat := fnvL (fnvL 2166136261 (bek 8 (u64 a))) (bek 8 (u64 b)) % 2147483648
end Go.Proofs.Ytenpeolaikimbaa
