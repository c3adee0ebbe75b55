/-
  The text of a value as a plain function.
-/
import Derived.Test.YtjblchdfkcbodaaGreatDoorUg
import Derived.Test.YtjblchdfkcbodaaGreatDoorVsr
namespace Go.Proofs.YtjblchdfkcbodaaGreatDoor
open Go.RowKit

mutual
def VT.txt : VT → List UInt8
  | .mk k i t its ks => if k = 1 then boolL (decide (i = 1)) else if k = 2 then Lib.itoa i else if k = 3 then quoL t.data.toList else if k = 4 then 91 :: (txts false true its ks ++ [93]) else if k = 5 then 123 :: (txts true true its ks ++ [125]) else [110, 117, 108, 108]
def txts (m : Bool) (f : Bool) : List VT → List ByteArray → List UInt8
  | [], _ => []
  | x :: r, ks => (if f then [] else [44, 32]) ++ ((if m then quoL (ks.headD ByteArray.empty).data.toList ++ [58, 32] else []) ++ (x.txt ++ txts m false r ks.tail))
end
theorem VT.txt_mk (k i : Int) (t : ByteArray) (its : List VT) (ks : List ByteArray) : (VT.mk k i t its ks).txt =
    if k = 1 then boolL (decide (i = 1)) else if k = 2 then Lib.itoa i else if k = 3 then quoL t.data.toList else if k = 4 then 91 :: (txts false true its ks ++ [93]) else if k = 5 then 123 :: (txts true true its ks ++ [125]) else [110, 117, 108, 108] := by rw [VT.txt]
theorem txts_append (m : Bool) : ∀ (f : Bool) (a b : List VT) (ks : List ByteArray), txts m f (a ++ b) ks = txts m f a ks ++ txts m (f && a.isEmpty) b (ks.drop a.length)
  | f, [], b, ks => by simp [txts]
  | f, x :: a, b, ks => by
    rw [List.cons_append, txts, txts, txts_append m false a b ks.tail]
    simp [List.drop_tail]
theorem txts_take {m f : Bool} {its : List VT} {ks : List ByteArray} {j : Nat} {x : VT} (h : its[j]? = some x) :
    txts m f (its.take (j + 1)) ks = txts m f (its.take j) ks ++ ((if (f && decide (j = 0)) = true then [] else [44, 32]) ++ ((if m then quoL (ks.getD j ByteArray.empty).data.toList ++ [58, 32] else []) ++ x.txt)) := by
  have hj := (List.getElem?_eq_some_iff.1 h).1
  rw [List.take_add_one, h, txts_append]
  simp only [Option.toList_some, txts, List.append_nil]
  have e : (ks.drop (its.take j).length).headD ByteArray.empty = ks.getD j ByteArray.empty := by
    rw [List.headD_eq_head?_getD, List.head?_drop, List.getD_eq_getElem?_getD, List.length_take, Nat.min_eq_left (by omega)]
  have e2 : (its.take j).isEmpty = decide (j = 0) := by
    cases j with
    | zero => simp
    | succ j => cases its with
      | nil => simp at hj
      | cons a r => simp
  rw [e, e2]
theorem txts_take_len (m f : Bool) (its : List VT) (ks : List ByteArray) (j : Nat) : (txts m f (its.take j) ks).length ≤ (txts m f its ks).length := by
  have := txts_append m f (its.take j) (its.drop j) ks
  rw [List.take_append_drop] at this
  rw [this, List.length_append]
  omega
theorem quoL_len (l : List UInt8) : l.length + 2 ≤ (quoL l).length := by
  unfold quoL
  rw [List.length_cons, List.length_append]
  have : l.length ≤ (l.flatMap escB).length := by
    induction l with
    | nil => simp
    | cons c r ih =>
      rw [List.flatMap_cons, List.length_append, List.length_cons]
      have : 1 ≤ (escB c).length := by
        unfold escB
        repeat' split
        all_goals simp
      omega
  have e : ([34] : List UInt8).length = 1 := rfl
  omega
end Go.Proofs.YtjblchdfkcbodaaGreatDoor
