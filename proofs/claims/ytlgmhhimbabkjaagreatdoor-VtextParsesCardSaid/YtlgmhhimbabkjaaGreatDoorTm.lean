/-
  What parsing a payload's text gives: a plain function of the text's bytes and an offset. No program is named here.
-/
import Derived.Test.YtlgmhhimbabkjaaGreatDoorTree
import Derived.Lib.AtoiAll
namespace Go.Proofs.YtlgmhhimbabkjaaGreatDoor

/-- what is read and where it ends; or the fault: where, which -/
inductive PR (α : Type) where
  | ok (a : α) (i : Nat)
  | err (i : Nat) (e : Int)

def PR.bind {α β : Type} (r : PR α) (f : α → Nat → PR β) : PR β :=
  match r with
  | .ok a i => f a i
  | .err i e => .err i e
@[simp] theorem PR.bind_ok {α β : Type} (a : α) (i : Nat) (f : α → Nat → PR β) : (PR.ok a i).bind f = f a i := rfl
@[simp] theorem PR.bind_err {α β : Type} (i : Nat) (e : Int) (f : α → Nat → PR β) : (PR.err i e : PR α).bind f = .err i e := rfl

/-- a run of bytes of a kind -/
def run (p : UInt8 → Bool) (l : List UInt8) (i : Nat) : Nat := i + ((l.drop i).takeWhile p).length
theorem run_on {p : UInt8 → Bool} {l : List UInt8} {i : Nat} {c : UInt8} (h : l[i]? = some c) (hc : p c = true) : run p l i = run p l (i + 1) := by
  obtain ⟨hi, rfl⟩ := List.getElem?_eq_some_iff.1 h
  unfold run
  rw [List.drop_eq_getElem_cons hi, List.takeWhile_cons, if_pos hc, List.length_cons]
  omega
theorem run_off {p : UInt8 → Bool} {l : List UInt8} {i : Nat} {c : UInt8} (h : l[i]? = some c) (hc : p c = false) : run p l i = i := by
  obtain ⟨hi, rfl⟩ := List.getElem?_eq_some_iff.1 h
  unfold run
  rw [List.drop_eq_getElem_cons hi, List.takeWhile_cons, if_neg (by rw [hc]; simp)]
  rfl
theorem run_end {p : UInt8 → Bool} {l : List UInt8} {i : Nat} (h : l.length ≤ i) : run p l i = i := by
  unfold run
  rw [List.drop_of_length_le h]
  rfl
theorem run_ge (p : UInt8 → Bool) (l : List UInt8) (i : Nat) : i ≤ run p l i := by unfold run; omega
theorem run_le (p : UInt8 → Bool) (l : List UInt8) (i : Nat) (h : i ≤ l.length) : run p l i ≤ l.length := by
  unfold run
  have := (List.takeWhile_sublist p (l := l.drop i)).length_le
  rw [List.length_drop] at this
  omega

def blk (c : UInt8) : Bool := c == 32 || c == 9 || c == 10 || c == 13
def dig (c : UInt8) : Bool := decide (48 ≤ c) && decide (c ≤ 57)
def dig1 (c : UInt8) : Bool := decide (49 ≤ c) && decide (c ≤ 57)
def hxd (c : UInt8) : Bool := dig c || (decide (97 ≤ c) && decide (c ≤ 102))
def hxv (c : UInt8) : Nat := if c ≤ 57 then c.toNat - 48 else c.toNat - 87
def pln (c : UInt8) : Bool := decide (32 ≤ c) && decide (c ≤ 126)
def sta (c : UInt8) : Bool := c == 110 || c == 116 || c == 102 || c == 34 || c == 91 || c == 123 || c == 45 || dig c
def esq (c : UInt8) : Bool := c == 34 || c == 92 || c == 110 || c == 116 || c == 120
def skip (l : List UInt8) (i : Nat) : Nat := run blk l i

/-- the next byte, which must be one of a set -/
def tkP (p : UInt8 → Bool) (l : List UInt8) (i : Nat) : PR UInt8 :=
  match l[i]? with
  | none => .err i 4
  | some c => if p c = true then .ok c (i + 1) else .err i 3
theorem tkP_none {p : UInt8 → Bool} {l : List UInt8} {i : Nat} (h : l.length ≤ i) : tkP p l i = .err i 4 := by
  unfold tkP
  rw [List.getElem?_eq_none h]
theorem tkP_ok {p : UInt8 → Bool} {l : List UInt8} {i : Nat} {c : UInt8} (h : l[i]? = some c) (hp : p c = true) : tkP p l i = .ok c (i + 1) := by
  unfold tkP
  rw [h]
  exact if_pos hp
theorem tkP_no {p : UInt8 → Bool} {l : List UInt8} {i : Nat} {c : UInt8} (h : l[i]? = some c) (hp : p c = false) : tkP p l i = .err i 3 := by
  unfold tkP
  rw [h]
  exact if_neg (by rw [hp]; simp)

/-- behind a backslash -/
def escP (l : List UInt8) (i : Nat) : PR UInt8 :=
  (tkP esq l i).bind fun c j =>
    if c = 110 then .ok 10 j
    else if c = 116 then .ok 9 j
    else if c = 120 then (tkP hxd l j).bind fun h j2 => (tkP hxd l j2).bind fun d j3 => .ok (UInt8.ofNat (16 * hxv h + hxv d)) j3
    else .ok c j
/-- what stands for one byte in a literal -/
def chrP (l : List UInt8) (i : Nat) : PR UInt8 :=
  (tkP pln l i).bind fun c j => if c = 92 then escP l j else .ok c j
/-- a literal from behind its opening quote, which stands at a; so many bytes at most -/
def litL (l : List UInt8) (a : Nat) : Nat → Nat → List UInt8 → PR (List UInt8)
  | 0, i, _ => .err i 4
  | f + 1, i, o =>
    match l[i]? with
    | none => .err i 4
    | some c => if c = 34 then (if o.length ≤ 4096 then .ok o (i + 1) else .err a 6) else (chrP l i).bind fun x j => litL l a f j (o ++ [x])
def litP (l : List UInt8) (i : Nat) : PR ByteArray := (litL l (i - 1) (l.length + 1) i []).bind fun o j => .ok ⟨o.toArray⟩ j
/-- the rest of a word -/
def wrdP (l : List UInt8) : List UInt8 → Nat → PR Unit
  | [], i => .ok () i
  | c :: r, i => (tkP (fun x => x == c) l i).bind fun _ j => wrdP l r j
/-- an integer behind its first byte -/
def numE (l : List UInt8) (a j : Nat) : PR Int :=
  match Lib.atoiAll ((l.drop a).take (j - a)) with
  | .ok v => .ok v j
  | _ => .err a 14
def intP (l : List UInt8) (c : UInt8) (i : Nat) : PR Int :=
  if c = 45 then (tkP dig1 l i).bind fun _ j => numE l (i - 1) (run dig l j)
  else if c = 48 ∧ (l[i]?.elim false dig) = true then .err i 3
  else numE l (i - 1) (run dig l i)

/-! ### elements -/
def moreP {σ : Type} (el : σ → Nat → PR σ) (e : UInt8) (l : List UInt8) : Nat → Nat → σ → PR σ
  | 0, i, _ => .err i 4
  | f + 1, i, s => (el s (skip l i)).bind fun s2 j => (tkP (fun x => x == 44 || x == e) l (skip l j)).bind fun c j2 => if c = 44 then moreP el e l f j2 s2 else .ok s2 j2
def elemsP {σ : Type} (el : σ → Nat → PR σ) (e : UInt8) (l : List UInt8) (i : Nat) (s : σ) : PR σ :=
  match l[skip l i]? with
  | none => .err (skip l i) 4
  | some c => if c = e then .ok s (skip l i + 1) else moreP el e l (l.length + 1) (skip l i) s

def posOf (ks : List ByteArray) (t : ByteArray) : Nat := (ks.takeWhile fun q => less q t).length
def insAt {α : Type} (p : Nat) (x : α) (l : List α) : List α := l.take p ++ x :: l.drop p

/-- a list's state: the items and how many values have begun; a map's: the keys besides -/
def elL (val : Nat → Nat → PR (VT × Nat)) (s : List VT × Nat) (i : Nat) : PR (List VT × Nat) := (val i s.2).bind fun x j => .ok (s.1 ++ [x.1], x.2) j
def elM (l : List UInt8) (val : Nat → Nat → PR (VT × Nat)) (s : List ByteArray × List VT × Nat) (i : Nat) : PR (List ByteArray × List VT × Nat) :=
  (tkP (fun x => x == 34) l i).bind fun _ j =>
    (litP l j).bind fun key j2 =>
      if (s.1.any fun q => decide (q = key)) = true then .err i 9
      else (tkP (fun x => x == 58) l (skip l j2)).bind fun _ j3 => (val j3 s.2.2).bind fun x j4 => .ok (insAt (posOf s.1 key) key s.1, insAt (posOf s.1 key) x.1 s.2.1, x.2) j4

/-- behind a value's first byte c, which stands at i - 1; n values have begun -/
def bodP (val : Nat → Nat → PR (VT × Nat)) (l : List UInt8) (c : UInt8) (i n : Nat) : PR (VT × Nat) :=
  if c = 110 then (wrdP l [117, 108, 108] i).bind fun _ j => .ok (nullT, n) j
  else if c = 116 then (wrdP l [114, 117, 101] i).bind fun _ j => .ok (.mk 1 1 ⟨#[]⟩ [] [], n) j
  else if c = 102 then (wrdP l [97, 108, 115, 101] i).bind fun _ j => .ok (.mk 1 0 ⟨#[]⟩ [] [], n) j
  else if c = 34 then (litP l i).bind fun s j => .ok (.mk 3 0 s [] [], n) j
  else if c = 91 then (elemsP (elL val) 93 l i ([], n)).bind fun s j => .ok (.mk 4 0 ⟨#[]⟩ s.1 [], s.2) j
  else if c = 123 then (elemsP (elM l val) 125 l i ([], [], n)).bind fun s j => .ok (.mk 5 0 ⟨#[]⟩ s.2.1 s.1, s.2.2) j
  else (intP l c i).bind fun v j => .ok (.mk 2 v ⟨#[]⟩ [] [], n) j
/-- a value; so many levels are allowed -/
def valP (l : List UInt8) : Nat → Nat → Nat → PR (VT × Nat)
  | 0, i, _ => (tkP sta l (skip l i)).bind fun _ _ => .err (skip l i) 7
  | k + 1, i, n => (tkP sta l (skip l i)).bind fun c j => if 1000 ≤ n then .err (skip l i) 6 else bodP (valP l k) l c j (n + 1)
/-- a text -/
def parP (l : List UInt8) : PR VT :=
  (valP l 16 0 0).bind fun x j => if skip l j = l.length then .ok x.1 (skip l j) else .err (skip l j) 3
end Go.Proofs.YtlgmhhimbabkjaaGreatDoor
