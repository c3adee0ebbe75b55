/-
  Tokens of a text: a plain function of the text's bytes. No program is named here.
-/
import Derived.Lib.AtoiAll
namespace Go.Proofs.YtemdcgeopaphaaaDoor

def blkT (c : UInt8) : Bool := c == 32 || c == 9 || c == 10
def dgtT (c : UInt8) : Bool := decide (48 ≤ c.toNat ∧ c.toNat ≤ 57)
def letT (c : UInt8) : Bool := decide (97 ≤ c.toNat ∧ c.toNat ≤ 122) || decide (65 ≤ c.toNat ∧ c.toNat ≤ 90) || decide (c.toNat = 95)
def wrdT (c : UInt8) : Bool := letT c || dgtT c
def hexT (c : UInt8) : Bool := dgtT c || decide (97 ≤ c.toNat ∧ c.toNat ≤ 102)
def hexV (c : UInt8) : Nat := if c.toNat ≤ 57 then c.toNat - 48 else c.toNat - 87
def plnT (c : UInt8) : Bool := decide (32 ≤ c.toNat ∧ c.toNat ≤ 126) && !(c == 34 || c == 92)
def befT (c : UInt8) : Bool := c == 61 || c == 33 || c == 60 || c == 62
def sgnT (c : UInt8) : Bool := [40, 41, 123, 125, 91, 93, 44, 59, 46, 58, 61, 60, 62, 43, 45, 42, 47, 37].contains c

/-- how many bytes at the front are of a kind -/
def spn (p : UInt8 → Bool) (l : List UInt8) : Nat := (l.takeWhile p).length
theorem spn_nil (p : UInt8 → Bool) : spn p [] = 0 := rfl
theorem spn_yes {p : UInt8 → Bool} {c : UInt8} (r : List UInt8) (h : p c = true) : spn p (c :: r) = spn p r + 1 := by
  unfold spn; rw [List.takeWhile_cons, if_pos h]; rfl
theorem spn_no {p : UInt8 → Bool} {c : UInt8} (r : List UInt8) (h : p c = false) : spn p (c :: r) = 0 := by
  unfold spn; rw [List.takeWhile_cons, if_neg (by rw [h]; decide)]; rfl
theorem spn_le (p : UInt8 → Bool) (l : List UInt8) : spn p l ≤ l.length := (List.takeWhile_sublist p).length_le
/-- the count's value, out of where it stops -/
theorem spn_is {p : UInt8 → Bool} : ∀ {l : List UInt8} {n : Nat}, (∀ j c, j < n → l[j]? = some c → p c = true) → n ≤ l.length → (∀ c, l[n]? = some c → p c = false) → spn p l = n
  | [], n, _, hn, _ => by
    have e : n = 0 := by simpa using hn
    rw [e]
    rfl
  | c :: r, 0, _, _, h => spn_no r (h c rfl)
  | c :: r, n + 1, h1, hn, h => by
    rw [spn_yes r (h1 0 c (Nat.zero_lt_succ _) rfl)]
    rw [spn_is (l := r) (n := n) (fun j x hj hx => h1 (j + 1) x (by omega) (by simpa using hx)) (by simpa using hn) (fun x hx => h x (by simpa using hx))]
theorem spn_at {p : UInt8 → Bool} : ∀ {l : List UInt8} {j : Nat} {c : UInt8}, j < spn p l → l[j]? = some c → p c = true
  | [], _, _, hj, _ => by cases hj
  | x :: r, j, c, hj, h => by
    cases hp : p x with
    | false => rw [spn_no r hp] at hj; cases hj
    | true =>
      rw [spn_yes r hp] at hj
      cases j with
      | zero => injection h with h; rw [← h]; exact hp
      | succ j => exact spn_at (l := r) (j := j) (by omega) (by simpa using h)
theorem spn_end {p : UInt8 → Bool} : ∀ {l : List UInt8} {c : UInt8}, l[spn p l]? = some c → p c = false
  | [], _, h => by cases h
  | x :: r, c, h => by
    cases hp : p x with
    | false => rw [spn_no r hp] at h; injection h with h; rw [← h]; exact hp
    | true => rw [spn_yes r hp, List.getElem?_cons_succ] at h; exact spn_end (l := r) h

/-- the keywords -/
def kwL : List (List UInt8) := [[97, 110, 100], [97, 119, 97, 105, 116], [99, 97, 115, 101], [99, 97, 116, 99, 104], [99, 104, 101, 99, 107], [101, 108, 115, 101], [102, 97, 108, 115, 101], [102, 117, 110, 99], [103, 111], [105, 102], [108, 101, 116], [110, 111, 116], [110, 117, 108, 108], [111, 110], [111, 114], [113, 117, 101, 114, 121], [114, 101, 116, 117, 114, 110], [115, 97, 103, 97], [115, 101, 108, 101, 99, 116], [115, 105, 103, 110, 97, 108], [116, 104, 114, 111, 119], [116, 114, 117, 101], [116, 114, 121], [117, 110, 100, 111], [117, 112, 100, 97, 116, 101], [118, 97, 114], [119, 104, 105, 108, 101]]
def kwB (l : List UInt8) : Bool := kwL.contains l

/-- a token without its place, and its size; or the error -/
inductive TR where
  | ok (kind : Int) (text : List UInt8) (int : Int) (n : Nat)
  | err (e : Int)

def wordT (l : List UInt8) : TR := if 64 < spn wrdT l then .err 8 else .ok (if kwB (l.take (spn wrdT l)) then 2 else 1) (l.take (spn wrdT l)) 0 (spn wrdT l)
/-- is the integer at the front of the wrong form -/
def badT (l : List UInt8) : Bool := (decide (1 < spn dgtT l) && l.head? == some 48) || (match l[spn dgtT l]? with | none => false | some c => letT c)
def intT (l : List UInt8) : TR :=
  if badT l then .err 3 else
    match Lib.atoiAll (l.take (spn dgtT l)) with
    | .ok v => .ok 3 [] v (spn dgtT l)
    | _ => .err 14
/-- one byte of a literal: the byte, the size; or the error -/
inductive CR where
  | ok (c : UInt8) (n : Nat)
  | err (e : Int)
def hexC : List UInt8 → CR
  | [] => .err 4
  | a :: r => if hexT a then (match r with
    | [] => .err 4
    | b :: _ => if hexT b then .ok (UInt8.ofNat (16 * hexV a + hexV b)) 4 else .err 3) else .err 3
def escC : List UInt8 → CR
  | [] => .err 4
  | c :: r => if c = 34 ∨ c = 92 then .ok c 2 else if c = 110 then .ok 10 2 else if c = 116 then .ok 9 2 else if c = 120 then hexC r else .err 3
def chrC : List UInt8 → CR
  | [] => .err 4
  | c :: r => if plnT c then .ok c 1 else if c = 92 then escC r else .err 3
/-- the literal from offset i on; o has been read -/
def litG (l : List UInt8) : Nat → Nat → List UInt8 → TR
  | 0, _, _ => .err 4
  | f + 1, i, o =>
    match l[i]? with
    | none => .err 4
    | some c => if c = 34 then (if 4096 < o.length then .err 6 else .ok 4 o 0 (i + 1)) else
      match chrC (l.drop i) with
      | .err e => .err e
      | .ok x n => litG l f (i + n) (o ++ [x])
def litT (l : List UInt8) : TR := litG l (l.length + 1) 1 []
def signT : List UInt8 → TR
  | [] => .err 3
  | [a] => if sgnT a then .ok 5 [a] 0 1 else .err 3
  | a :: b :: _ => if befT a = true ∧ b = 61 then .ok 5 [a, b] 0 2 else if sgnT a then .ok 5 [a] 0 1 else .err 3
def oneT (l : List UInt8) : TR :=
  match l with
  | [] => .err 3
  | c :: _ => if letT c then wordT l else if dgtT c then intT l else if c = 34 then litT l else signT l

/-- a token -/
structure Tok where
  kind : Int
  off : Nat
  text : List UInt8
  int : Int
/-- the tokens; or where and which error -/
inductive SR where
  | ok (l : List Tok)
  | err (i : Nat) (e : Int)
def endT (n : Nat) : Tok := ⟨0, n, [], 0⟩
/-- the offset of the next byte that is no blank -/
def skpT (l : List UInt8) (i : Nat) : Nat := i + spn blkT (l.drop i)
/-- from offset i on, where no blank stands -/
def scanG (l : List UInt8) : Nat → Nat → List Tok → SR
  | 0, i, _ => .err i 3
  | f + 1, i, o =>
    if l.length ≤ i then .ok (o ++ [endT l.length]) else
      match oneT (l.drop i) with
      | .err e => .err i e
      | .ok k t v n => scanG l f (skpT l (i + n)) (o ++ [⟨k, i, t, v⟩])
def scanT (l : List UInt8) : SR := if 16384 < l.length then .err 0 6 else scanG l (l.length + 1) (skpT l 0) []

/-! ### sizes -/
theorem chrC_n {l : List UInt8} {c : UInt8} {n : Nat} (h : chrC l = .ok c n) : 1 ≤ n ∧ n ≤ l.length := by
  unfold chrC at h
  cases l with
  | nil => cases h
  | cons a r =>
    simp only at h
    split at h
    · injection h with _ h; subst h; simp
    · split at h
      · unfold escC at h
        cases r with
        | nil => cases h
        | cons b r2 =>
          simp only at h
          split at h
          · injection h with _ h; subst h; simp
          · split at h
            · injection h with _ h; subst h; simp
            · split at h
              · injection h with _ h; subst h; simp
              · split at h
                · unfold hexC at h
                  cases r2 with
                  | nil => cases h
                  | cons x r3 =>
                    simp only at h
                    split at h
                    · cases r3 with
                      | nil => cases h
                      | cons y r4 =>
                        simp only at h
                        split at h
                        · injection h with _ h; subst h; simp
                        · cases h
                    · cases h
                · cases h
      · cases h
theorem litG_n {l : List UInt8} : ∀ {f i : Nat} {o t : List UInt8} {k v : Int} {n : Nat}, litG l f i o = .ok k t v n → i < n ∧ n ≤ l.length
  | 0, _, _, _, _, _, _, h => by cases h
  | f + 1, i, o, t, k, v, n, h => by
    unfold litG at h
    cases hi : l[i]? with
    | none => rw [hi] at h; cases h
    | some c =>
      have hlt := (List.getElem?_eq_some_iff.1 hi).1
      rw [hi] at h
      simp only at h
      split at h
      · split at h
        · cases h
        · injection h with _ _ _ h; omega
      · cases hc : chrC (l.drop i) with
        | err e => rw [hc] at h; cases h
        | ok x m =>
          rw [hc] at h
          have h1 := chrC_n hc
          have h2 := litG_n h
          omega
theorem oneT_n {l t : List UInt8} {k v : Int} {n : Nat} (h : oneT l = .ok k t v n) : 1 ≤ n ∧ n ≤ l.length := by
  unfold oneT at h
  cases l with
  | nil => cases h
  | cons c r =>
    simp only at h
    split at h
    · rename_i hc
      unfold wordT at h
      split at h
      · cases h
      · injection h with _ _ _ h
        have h1 := spn_yes (p := wrdT) (c := c) r (by unfold wrdT; rw [hc]; rfl)
        have h2 := spn_le wrdT (c :: r)
        omega
    · split at h
      · rename_i hc
        unfold intT at h
        split at h
        · cases h
        · split at h
          · injection h with _ _ _ h
            have h1 := spn_yes (p := dgtT) (c := c) r hc
            have h2 := spn_le dgtT (c :: r)
            omega
          · cases h
      · split at h
        · have := litG_n h
          omega
        · unfold signT at h
          cases r with
          | nil =>
            simp only at h
            split at h
            · injection h with _ _ _ h; subst h; simp
            · cases h
          | cons b r2 =>
            simp only at h
            split at h
            · injection h with _ _ _ h; subst h; simp
            · split at h
              · injection h with _ _ _ h; subst h; simp
              · cases h
theorem skpT_ge (l : List UInt8) (i : Nat) : i ≤ skpT l i := by unfold skpT; omega
theorem skpT_le (l : List UInt8) (i : Nat) (h : i ≤ l.length) : skpT l i ≤ l.length := by
  unfold skpT
  have := spn_le blkT (l.drop i)
  rw [List.length_drop] at this
  omega
end Go.Proofs.YtemdcgeopaphaaaDoor
