/-
  Texts of layers 1 and 2, part K: contracts of the code's functions and what they lean on.
-/
import Derived.Test.YtjbjoalinfhahaaBG
import Derived.Test.YtjbjoalinfhahaaBI
import Derived.Test.YtjbjoalinfhahaaBC
import Derived.Test.YtjbjoalinfhahaaBE
namespace Go.Proofs.Ytjbjoalinfhahaa
open Go.RowKit

mutual
def VT.enc : VT → List UInt8
  | .mk k i t its ks => Go.Proofs.Ytjbjoalinfhahaa.enc k ++ (if k = 1 ∨ k = 2 ∨ k = 6 then Go.Proofs.Ytjbjoalinfhahaa.enc i else if k = 3 then encText t.data.toList else if k = 4 ∨ k = 5 then Go.Proofs.Ytjbjoalinfhahaa.enc (its.length : Nat) ++ encs (decide (k = 5)) its ks else [])
def encs (m : Bool) : List VT → List ByteArray → List UInt8
  | [], _ => []
  | x :: r, ks => (if m then encText (ks.headD ByteArray.empty).data.toList else []) ++ (x.enc ++ encs m r ks.tail)
end
theorem VT.enc_mk (k i : Int) (t : ByteArray) (its : List VT) (ks : List ByteArray) : (VT.mk k i t its ks).enc =
    Go.Proofs.Ytjbjoalinfhahaa.enc k ++ (if k = 1 ∨ k = 2 ∨ k = 6 then Go.Proofs.Ytjbjoalinfhahaa.enc i else if k = 3 then encText t.data.toList else if k = 4 ∨ k = 5 then Go.Proofs.Ytjbjoalinfhahaa.enc (its.length : Nat) ++ encs (decide (k = 5)) its ks else []) := by rw [VT.enc]
theorem encs_append (m : Bool) : ∀ (a b : List VT) (ks : List ByteArray), encs m (a ++ b) ks = encs m a ks ++ encs m b (ks.drop a.length)
  | [], b, ks => by simp [encs]
  | x :: a, b, ks => by
    rw [List.cons_append, encs, encs, encs_append m a b ks.tail, List.append_assoc, List.append_assoc]
    simp [List.drop_tail]
theorem encs_take {m : Bool} {its : List VT} {ks : List ByteArray} {j : Nat} {x : VT} (h : its[j]? = some x) :
    encs m (its.take (j + 1)) ks = encs m (its.take j) ks ++ ((if m then encText (ks.getD j ByteArray.empty).data.toList else []) ++ x.enc) := by
  have hj := (List.getElem?_eq_some_iff.1 h).1
  rw [List.take_add_one, h, encs_append]
  simp only [Option.toList_some, encs, List.append_nil]
  have e : (ks.drop (its.take j).length).headD ByteArray.empty = ks.getD j ByteArray.empty := by
    rw [List.headD_eq_head?_getD, List.head?_drop, List.getD_eq_getElem?_getD, List.length_take, Nat.min_eq_left (by omega)]
  rw [e]
theorem encs_take_len (m : Bool) (its : List VT) (ks : List ByteArray) (j : Nat) : (encs m (its.take j) ks).length ≤ (encs m its ks).length := by
  have := encs_append m (its.take j) (its.drop j) ks
  rw [List.take_append_drop] at this
  rw [this, List.length_append]
  omega
theorem encText_len (s : List UInt8) : s.length ≤ (encText s).length := by unfold encText; rw [List.length_append]; omega

/-- below base nothing turns, and no block of another type than byte -/
structure Frm (base : Nat) (w w' : World) : Prop where
  below : Below base w w'
  keep : ∀ (g : Nat) (t : TypeId) (cs : Array Value), Bk w g t cs → t ≠ 5 → Bk w' g t cs
theorem Frm.refl (base : Nat) (w : World) : Frm base w w := ⟨Below.refl _ _, fun _ _ _ h _ => h⟩
theorem Frm.trans {base : Nat} {a b c : World} (h : Frm base a b) (k : Frm base b c) : Frm base a c := ⟨h.below.trans k.below, fun g t cs hg ht => k.keep g t cs (h.keep g t cs hg ht) ht⟩
theorem Frm.of_below {base : Nat} {w w' : World} (h : Below w.heap.size w w') (hB : base ≤ w.heap.size) : Frm base w w' := ⟨h.mono hB, fun _ _ _ hg _ => hg.below h hg.lt⟩
theorem Frm.of_grown {base n : Nat} {w w' : World} {v : Value} {xs : List Value} (hg : w.grownBy w' v.ownBlock) (ho : w.ownsRow base 5 1 v n xs) (hB : base ≤ w.heap.size) : Frm base w w' :=
  ⟨(Below.refl _ _).grown hg hB (fun k hk => (ho.lt k hk).1), fun g t cs h ht => h.grown hg (by
    intro e
    rcases ho.2 with ⟨rfl, _⟩ | ⟨g', cap, cur, rfl, _, hgg, _⟩
    · cases e
    · injection e with e
      subst e
      unfold Bk at h
      have h' : w.heap[g]? = some (.cells cur 5 (0, 0)) := hgg
      rw [h] at h'
      injection h' with h'
      injection h' with _ e2
      exact ht e2)⟩
/-- an owned row of bytes handed back -/
def App (base : Nat) (l : List UInt8) (w : World) (e : Ending) (w' : World) : Prop :=
  ∃ A n c, e = .returned (.slice A n c) ∧ Hid (l.length = n) ∧ Hid (w'.ownsRow base 5 1 (.slice A n c) n (l.map b8)) ∧ Hid (Frm base w w') ∧ n ≤ c ∧ c ≤ 9223372036854775807

section
variable {w : World} {base n c : Nat} {A : Option Addr} {l : List UInt8}
set_option maxRecDepth 100000 in
set_option maxHeartbeats 1000000 in
theorem appendInt_v (x : Int) (ho : w.ownsRow base 5 1 (.slice A n c) n (l.map b8)) (hB : base ≤ w.heap.size) (hn : n ≤ 70000000000000) (h1 : -9223372036854775808 ≤ x) (h2 : x ≤ 9223372036854775807) :
    Calls Try.prog 105 #[.slice A n c, .int .i64 x] w (App base (l ++ Go.Proofs.Ytjbjoalinfhahaa.enc x) w) := by
  obtain ⟨i, hi, hz, hs, hb⟩ := info_parts Try.infob
  have HO := Lib.hid ho
  have HL := Lib.hid (own_len ho)
  have HP := Lib.hid (PutInt_any none 0 0 [] 0 w x (Rb.nil0 w 0) (Nat.zero_le _) (by omega) h1 h2)
  have HN := Lib.hid hn
  clear ho hn h1 h2
  go_enter Try.func105, Try.ntmps105
  go_wp2_with fail
  refine (HP.out).mono ?_
  intro e w2 hq
  obtain ⟨A2, n2, c2, rfl, hl2, hc2, hm2, R2, O2, B2⟩ := own_named hq
  have HO2 := Lib.hid (HO.out.kept (grown_of_below (r := none) B2.out) (by cases h : (Value.slice A n c).ownBlock <;> simp))
  have S2 : Hid (w.heap.size ≤ w2.heap.size) := Lib.hid B2.out.size
  clear hq
  have hn2 : Hid (n2 ≤ 10) := Lib.hid (by rw [← hl2.out, List.nil_append]; exact enc_len x)
  go_wp2_with (at_builtin; refine wpList_append_b8 rfl _ _ 50 rfl base 5 i (.int .u8 0) Try.underlying50 hi hz hs hb rfl _ n _ rfl HO2.out w2.heap.size A2 n2 c2 ([] ++ Go.Proofs.Ytjbjoalinfhahaa.enc x) rfl R2.out ?_ ?_ ?_)
  · have := hn2.out; have := HN.out; omega
  · have := S2.out; omega
  · intro v3 w3 hown hg
    obtain ⟨A3, c3, rfl, g1, g2⟩ := own_form hown
    unfold maxLen at g2
    have F := Lib.hid ((Frm.of_below B2.out hB).trans (Frm.of_grown hg HO2.out (by have := S2.out; omega)))
    have OW : Hid (w3.ownsRow base 5 1 (.slice A3 (n + n2) c3) (n + n2) ((l ++ Go.Proofs.Ytjbjoalinfhahaa.enc x).map b8)) := Lib.hid (by simpa using hown)
    have LEN : Hid ((l ++ Go.Proofs.Ytjbjoalinfhahaa.enc x).length = n + n2) := Lib.hid (by rw [List.length_append, HL.out, ← hl2.out, List.nil_append])
    clear hown hg
    go_wp2
    go_ret
    exact ⟨A3, n + n2, c3, rfl, LEN, OW, F, g1, g2⟩
set_option maxRecDepth 100000 in
set_option maxHeartbeats 1000000 in
theorem appendText_v (s : ByteArray) (ho : w.ownsRow base 5 1 (.slice A n c) n (l.map b8)) (hB : base ≤ w.heap.size) (hn : n ≤ 70000000000000) (hs : s.size ≤ 30000000000000) :
    Calls Try.prog 106 #[.slice A n c, .string s] w (App base (l ++ encText s.data.toList) w) := by
  obtain ⟨i, hi, hz, hsz, hb⟩ := info_parts Try.infob
  have HO := Lib.hid ho
  have HL := Lib.hid (own_len ho)
  have HP := Lib.hid (PutText_any none 0 0 [] 0 w s (Rb.nil0 w 0) (Nat.zero_le _) (by omega) (by omega))
  have HN := Lib.hid (And.intro hn hs)
  clear ho hn hs
  go_enter Try.func106, Try.ntmps106
  go_wp2_with fail
  refine (HP.out).mono ?_
  intro e w2 hq
  obtain ⟨A2, n2, c2, rfl, hl2, hc2, hm2, R2, O2, B2⟩ := own_named hq
  have HO2 := Lib.hid (HO.out.kept (grown_of_below (r := none) B2.out) (by cases h : (Value.slice A n c).ownBlock <;> simp))
  have S2 : Hid (w.heap.size ≤ w2.heap.size) := Lib.hid B2.out.size
  clear hq
  have hn2 : Hid (n2 ≤ 10 + s.size) := Lib.hid (by
    rw [← hl2.out, List.nil_append]
    unfold encText
    rw [List.length_append]
    have := enc_len (s.data.toList.length : Nat)
    have e : s.data.toList.length = s.size := rfl
    omega)
  go_wp2_with (at_builtin; refine wpList_append_b8 rfl _ _ 50 rfl base 5 i (.int .u8 0) Try.underlying50 hi hz hsz hb rfl _ n _ rfl HO2.out w2.heap.size A2 n2 c2 ([] ++ encText s.data.toList) rfl R2.out ?_ ?_ ?_)
  · have := hn2.out; have := HN.out.1; have := HN.out.2; omega
  · have := S2.out; omega
  · intro v3 w3 hown hg
    obtain ⟨A3, c3, rfl, g1, g2⟩ := own_form hown
    unfold maxLen at g2
    have F := Lib.hid ((Frm.of_below B2.out hB).trans (Frm.of_grown hg HO2.out (by have := S2.out; omega)))
    have OW : Hid (w3.ownsRow base 5 1 (.slice A3 (n + n2) c3) (n + n2) ((l ++ encText s.data.toList).map b8)) := Lib.hid (by simpa using hown)
    have LEN : Hid ((l ++ encText s.data.toList).length = n + n2) := Lib.hid (by rw [List.length_append, HL.out, ← hl2.out, List.nil_append])
    clear hown hg
    go_wp2
    go_ret
    exact ⟨A3, n + n2, c3, rfl, LEN, OW, F, g1, g2⟩
end
end Go.Proofs.Ytjbjoalinfhahaa
namespace Go.Proofs.Ytjbjoalinfhahaa
open Go.RowKit

/-- what appendValue is asked of values of at most m nodes -/
def EncUpto (m : Nat) : Prop := ∀ (x : VT) (w : World) (v : Value) (base n c : Nat) (A : Option Addr) (l : List UInt8), x.size ≤ m → x.all okF = true → Lies w (fun b => b < base) x v → w.ownsRow base 5 1 (.slice A n c) n (l.map b8) → base ≤ w.heap.size →
  n + x.enc.length ≤ 30000000000000 → Calls Try.prog 83 #[.slice A n c, v] w (App base (l ++ x.enc) w)
theorem App.to {base : Nat} {l l' : List UInt8} {w w1 : World} {e : Ending} {w' : World} (h : App base l w1 e w') (hf : Frm base w w1) (hl : l = l') : App base l' w e w' := by
  obtain ⟨A, n, c, h1, h2, h3, h4, h5⟩ := h
  subst hl
  exact ⟨A, n, c, h1, h2, h3, Lib.hid (hf.trans h4.out), h5⟩

set_option maxRecDepth 100000 in
set_option maxHeartbeats 4000000 in
theorem encItems_4 (m : Nat) (IH : Hid (EncUpto m)) (i : Int) (t : ByteArray) (its : List VT) (ks : List ByteArray) (A : Option Addr) (c : Nat) (A' : Option Addr) (c' : Nat) (w : World) (base n0 c0 : Nat) (A0 : Option Addr) (l : List UInt8)
    (hL : LiesL w (fun b => b < base) A 0 its) (h1 : its.length ≤ c) (h2 : c ≤ 9223372036854775807) (hsz : sizes its ≤ m) (hw : alls okF its = true)
    (ho : w.ownsRow base 5 1 (.slice A0 n0 c0) n0 (l.map b8)) (hB : base ≤ w.heap.size) (hn : n0 + (enc (its.length : Nat) ++ encs false its ks).length ≤ 30000000000000) :
    Calls Try.prog 107 #[.slice A0 n0 c0, vag 4 i t A its.length c A' ks.length c'] w (App base (l ++ (enc (its.length : Nat) ++ encs false its ks)) w) := by
  have HL := Lib.hid hL
  have HWF := Lib.hid hw
  have HNN := Lib.hid hn
  have HBB := Lib.hid hB
  obtain ⟨w1, hw1⟩ : ∃ w1, w1 = w.alloc (.cells #[.int .i64 4, .int .i64 i, .string t, .slice A its.length c, .slice A' ks.length c'] 26) := ⟨_, rfl⟩
  have P1 : Hid (Bk w1 w.heap.size 26 #[.int .i64 4, .int .i64 i, .string t, .slice A its.length c, .slice A' ks.length c']) := Lib.hid (by rw [hw1]; exact Bk.new _ _ _)
  have F1 : Hid (Frm base w w1) := Lib.hid (by rw [hw1]; exact Frm.of_below (below_one _ _) hB)
  have O1 := Lib.hid (ho.kept (grown_of_below (r := none) (hw1 ▸ below_one w _ : Below w.heap.size w w1)) (by cases h : (Value.slice A0 n0 c0).ownBlock <;> simp))
  have HA := Lib.hid (appendInt_v (its.length : Nat) O1.out (Nat.le_trans hB F1.out.below.size) (by have := hn; rw [List.length_append] at this; omega) (by omega) (by omega))
  have HW := Lib.hid hw1
  clear hL hw hn hB ho hw1
  unfold vag
  go_enter Try.func107, Try.ntmps107
  go_wp2_with fail
  rw [← HW.out]
  refine (HA.out).mono ?_
  rintro e w2 ⟨A2, n2, c2, rfl, hl2, O2, F2, _, _⟩
  have P2 := Lib.hid (F2.out.keep _ _ _ P1.out (by decide))
  have FF := Lib.hid (F1.out.trans F2.out)
  have p3 := P2.out.cell 3
  change _ = some (Value.slice A its.length c) at p3
  go_wp2_with fail
  go_loopw [15, 0, 5, 6] (fun s b _ _ wr => ∃ (j : Nat) (AI : Option Addr) (ni ci : Nat), j ≤ its.length ∧ s = .int .i64 j ∧ b = .slice AI ni ci ∧ Hid ((l ++ (enc (its.length : Nat) ++ encs false (its.take j) ks)).length = ni) ∧
    Hid (wr.ownsRow base 5 1 (.slice AI ni ci) ni ((l ++ (enc (its.length : Nat) ++ encs false (its.take j) ks)).map b8)) ∧ Hid (Frm base w wr) ∧ Hid (Bk wr w.heap.size 26 #[.int .i64 4, .int .i64 i, .string t, .slice A its.length c, .slice A' ks.length c'])) (fun s _ _ _ _ => its.length - (intOf s).toNat)
  case atStart => exact ⟨0, A2, n2, c2, by omega, rfl, rfl, Lib.hid (by simpa [encs] using hl2.out), Lib.hid (by simpa [encs] using O2.out), FF, P2⟩
  case round =>
    obtain ⟨j, AI, ni, ci, hjn, rfl, rfl, hni, HO, HF, HP⟩ := hrel
    have p0 := HP.out.cell 0
    change _ = some (Value.int .i64 4) at p0
    have p4 := HP.out.cell 4
    change _ = some (Value.slice A' ks.length c') at p4
    by_cases hlt : j < its.length
    · have g1 := List.getElem?_eq_getElem (l := its) (i := j) hlt
      obtain ⟨g, o, k', i', t', B, n', c1, B', n1, cc2, rfl, hg, e0, e1, e2, e3, e4, hx⟩ := (HL.out).at_ g1
      have hwx := all_at HWF.out g1
      have hle := size_at g1
      have htk := encs_take (m := false) (ks := ks) g1
      have htl := encs_take_len false its ks (j + 1)
      generalize its[j]'hlt = x at *
      have cc := fun (q : Nat) => HF.out.below.cell (p := ⟨g, q, none⟩) hg
      rw [Nat.zero_add] at e0 e1 e2 e3 e4
      rw [← cc] at e0 e1 e2 e3 e4
      have hlen : ni + ((if false = true then encText (ks.getD j ByteArray.empty).data.toList else []) ++ x.enc).length ≤ 30000000000000 := by
        have h3 := HNN.out
        have h4 := hni.out
        rw [htk, List.length_append] at htl
        rw [List.length_append] at h3 h4
        rw [List.length_append] at h4
        have h5 := own_len O1.out
        omega
      have HX := Lib.hid (fun (W : World) (hb : Below base w W) => (hx.keep (fun p hp => hb.cell hp) (fun _ h => h) : Lies W (fun b => b < base) x _))
      have HTK := Lib.hid htk
      have HWX := Lib.hid hwx
      have HLE := Lib.hid hle
      obtain ⟨wa, hwa⟩ : ∃ wa, wa = wr.alloc (.cells #[.int .i64 k', .int .i64 i', .string t', .slice B n' c1, .slice B' n1 cc2] 26) := ⟨_, rfl⟩
      have hbr : base ≤ wr.heap.size := Nat.le_trans HBB.out HF.out.below.size
      have QA : Hid (Bk wa wr.heap.size 26 #[.int .i64 k', .int .i64 i', .string t', .slice B n' c1, .slice B' n1 cc2]) := Lib.hid (by rw [hwa]; exact Bk.new _ _ _)
      have PA : Hid (Bk wa w.heap.size 26 #[.int .i64 4, .int .i64 i, .string t, .slice (some ⟨g, o, none⟩) its.length c, .slice A' ks.length c']) := Lib.hid (by rw [hwa]; exact HP.out.alloc _)
      have FA : Hid (Frm base w wa) := Lib.hid (by rw [hwa]; exact HF.out.trans (Frm.of_below (below_one _ _) hbr))
      have OA : Hid (wa.ownsRow base 5 1 (.slice AI ni ci) ni ((l ++ (enc (its.length : Nat) ++ encs false (its.take j) ks)).map b8)) := Lib.hid (by rw [hwa]; exact HO.out.alloc _)
      have BA : Hid (base ≤ wa.heap.size) := Lib.hid (by rw [hwa]; simp; omega)
      have HWA := Lib.hid hwa
      clear hx cc htk htl hwx hle g1 hwa hbr
      have HNW : Hid (ni + x.enc.length ≤ 30000000000000) := Lib.hid (by simpa using hlen)
      clear hlen
      have pa0 := PA.out.cell 0
      change _ = some (Value.int .i64 4) at pa0
      rw [HWA.out] at pa0
      have HV := Lib.hid (IH.out x wa _ base ni ci AI _ (by have := HLE.out; omega) HWX.out (HX.out wa FA.out.below) OA.out BA.out HNW.out)
      unfold vag at HV
      clear p4 p0
      go_wp2_with fail
      rw [← HWA.out]
      refine (HV.out).mono ?_
      rintro e w5 ⟨A5, n5, c5, rfl, hl5, O5, F5, _, _⟩
      have P5 := Lib.hid (F5.out.keep _ _ _ PA.out (by decide))
      have FF5 := Lib.hid (FA.out.trans F5.out)
      go_wp2
      go_roundw
      case rel => exact ⟨j + 1, A5, n5, c5, by omega, by go_num, rfl, Lib.hid (by rw [HTK.out, ← hl5.out]; congr 1; simp), Lib.hid (by rw [HTK.out]; have := O5.out; simpa using this), FF5, P5⟩
      case measure => simp [intOf]; omega
    · obtain rfl : j = its.length := by omega
      have O8 : Hid (wr.ownsRow base 5 1 (.slice AI ni ci) ni ((l ++ (enc (its.length : Nat) ++ encs false its ks)).map b8)) := Lib.hid (by have := HO.out; rwa [List.take_length] at this)
      have L8 : Hid ((l ++ (enc (its.length : Nat) ++ encs false its ks)).length = ni) := Lib.hid (by have := hni.out; rwa [List.take_length] at this)
      have b8_ := own_bounds O8.out
      go_wp2
      go_ret
      exact ⟨AI, ni, ci, rfl, L8, O8, HF, b8_.1, b8_.2⟩

set_option maxRecDepth 100000 in
set_option maxHeartbeats 4000000 in
theorem encItems_5 (m : Nat) (IH : Hid (EncUpto m)) (i : Int) (t : ByteArray) (its : List VT) (ks : List ByteArray) (A : Option Addr) (c : Nat) (A' : Option Addr) (c' : Nat) (w : World) (base n0 c0 : Nat) (A0 : Option Addr) (l : List UInt8)
    (hL : LiesL w (fun b => b < base) A 0 its) (hS : LiesS w (fun b => b < base) A' ks) (hk : ks.length = its.length) (hkc : ks.length ≤ c') (hcm' : c' ≤ 9223372036854775807) (h1 : its.length ≤ c) (h2 : c ≤ 9223372036854775807) (hsz : sizes its ≤ m) (hw : alls okF its = true)
    (ho : w.ownsRow base 5 1 (.slice A0 n0 c0) n0 (l.map b8)) (hB : base ≤ w.heap.size) (hn : n0 + (enc (its.length : Nat) ++ encs true its ks).length ≤ 30000000000000) :
    Calls Try.prog 107 #[.slice A0 n0 c0, vag 5 i t A its.length c A' ks.length c'] w (App base (l ++ (enc (its.length : Nat) ++ encs true its ks)) w) := by
  have HL := Lib.hid hL
  have HS := Lib.hid hS
  have HKL := Lib.hid hk
  have HWF := Lib.hid hw
  have HNN := Lib.hid hn
  have HBB := Lib.hid hB
  obtain ⟨w1, hw1⟩ : ∃ w1, w1 = w.alloc (.cells #[.int .i64 5, .int .i64 i, .string t, .slice A its.length c, .slice A' ks.length c'] 26) := ⟨_, rfl⟩
  have P1 : Hid (Bk w1 w.heap.size 26 #[.int .i64 5, .int .i64 i, .string t, .slice A its.length c, .slice A' ks.length c']) := Lib.hid (by rw [hw1]; exact Bk.new _ _ _)
  have F1 : Hid (Frm base w w1) := Lib.hid (by rw [hw1]; exact Frm.of_below (below_one _ _) hB)
  have O1 := Lib.hid (ho.kept (grown_of_below (r := none) (hw1 ▸ below_one w _ : Below w.heap.size w w1)) (by cases h : (Value.slice A0 n0 c0).ownBlock <;> simp))
  have HA := Lib.hid (appendInt_v (its.length : Nat) O1.out (Nat.le_trans hB F1.out.below.size) (by have := hn; rw [List.length_append] at this; omega) (by omega) (by omega))
  have HW := Lib.hid hw1
  clear hL hS hk hw hn hB ho hw1
  unfold vag
  go_enter Try.func107, Try.ntmps107
  go_wp2_with fail
  rw [← HW.out]
  refine (HA.out).mono ?_
  rintro e w2 ⟨A2, n2, c2, rfl, hl2, O2, F2, _, _⟩
  have P2 := Lib.hid (F2.out.keep _ _ _ P1.out (by decide))
  have FF := Lib.hid (F1.out.trans F2.out)
  have p3 := P2.out.cell 3
  change _ = some (Value.slice A its.length c) at p3
  go_wp2_with fail
  go_loopw [15, 0, 5, 6] (fun s b _ _ wr => ∃ (j : Nat) (AI : Option Addr) (ni ci : Nat), j ≤ its.length ∧ s = .int .i64 j ∧ b = .slice AI ni ci ∧ Hid ((l ++ (enc (its.length : Nat) ++ encs true (its.take j) ks)).length = ni) ∧
    Hid (wr.ownsRow base 5 1 (.slice AI ni ci) ni ((l ++ (enc (its.length : Nat) ++ encs true (its.take j) ks)).map b8)) ∧ Hid (Frm base w wr) ∧ Hid (Bk wr w.heap.size 26 #[.int .i64 5, .int .i64 i, .string t, .slice A its.length c, .slice A' ks.length c'])) (fun s _ _ _ _ => its.length - (intOf s).toNat)
  case atStart => exact ⟨0, A2, n2, c2, by omega, rfl, rfl, Lib.hid (by simpa [encs] using hl2.out), Lib.hid (by simpa [encs] using O2.out), FF, P2⟩
  case round =>
    obtain ⟨j, AI, ni, ci, hjn, rfl, rfl, hni, HO, HF, HP⟩ := hrel
    have p0 := HP.out.cell 0
    change _ = some (Value.int .i64 5) at p0
    have p4 := HP.out.cell 4
    change _ = some (Value.slice A' ks.length c') at p4
    by_cases hlt : j < its.length
    · have g1 := List.getElem?_eq_getElem (l := its) (i := j) hlt
      obtain ⟨g, o, k', i', t', B, n', c1, B', n1, cc2, rfl, hg, e0, e1, e2, e3, e4, hx⟩ := (HL.out).at_ g1
      have hwx := all_at HWF.out g1
      have hle := size_at g1
      have htk := encs_take (m := true) (ks := ks) g1
      have htl := encs_take_len true its ks (j + 1)
      generalize its[j]'hlt = x at *
      have cc := fun (q : Nat) => HF.out.below.cell (p := ⟨g, q, none⟩) hg
      rw [Nat.zero_add] at e0 e1 e2 e3 e4
      rw [← cc] at e0 e1 e2 e3 e4
      have hlen : ni + ((if true = true then encText (ks.getD j ByteArray.empty).data.toList else []) ++ x.enc).length ≤ 30000000000000 := by
        have h3 := HNN.out
        have h4 := hni.out
        rw [htk, List.length_append] at htl
        rw [List.length_append] at h3 h4
        rw [List.length_append] at h4
        have h5 := own_len O1.out
        omega
      have HX := Lib.hid (fun (W : World) (hb : Below base w W) => (hx.keep (fun p hp => hb.cell hp) (fun _ h => h) : Lies W (fun b => b < base) x _))
      have HTK := Lib.hid htk
      have HWX := Lib.hid hwx
      have HLE := Lib.hid hle
      obtain ⟨wa, hwa⟩ : ∃ wa, wa = wr.alloc (.cells #[.int .i64 k', .int .i64 i', .string t', .slice B n' c1, .slice B' n1 cc2] 26) := ⟨_, rfl⟩
      have hbr : base ≤ wr.heap.size := Nat.le_trans HBB.out HF.out.below.size
      have QA : Hid (Bk wa wr.heap.size 26 #[.int .i64 k', .int .i64 i', .string t', .slice B n' c1, .slice B' n1 cc2]) := Lib.hid (by rw [hwa]; exact Bk.new _ _ _)
      have PA : Hid (Bk wa w.heap.size 26 #[.int .i64 5, .int .i64 i, .string t, .slice (some ⟨g, o, none⟩) its.length c, .slice A' ks.length c']) := Lib.hid (by rw [hwa]; exact HP.out.alloc _)
      have FA : Hid (Frm base w wa) := Lib.hid (by rw [hwa]; exact HF.out.trans (Frm.of_below (below_one _ _) hbr))
      have OA : Hid (wa.ownsRow base 5 1 (.slice AI ni ci) ni ((l ++ (enc (its.length : Nat) ++ encs true (its.take j) ks)).map b8)) := Lib.hid (by rw [hwa]; exact HO.out.alloc _)
      have BA : Hid (base ≤ wa.heap.size) := Lib.hid (by rw [hwa]; simp; omega)
      have HWA := Lib.hid hwa
      clear hx cc htk htl hwx hle g1 hwa hbr
      have hkj : ks[j]? = some (ks.getD j ByteArray.empty) := by rw [List.getD_eq_getElem?_getD, List.getElem?_eq_getElem (by have := HKL.out; omega)]; rfl
      obtain ⟨_, gk, ok, rfl, hgk, f0⟩ := HS.out j _ hkj
      have hjk : j < ks.length := by have := HKL.out; omega
      rw [← FA.out.below.cell (p := ⟨gk, ok + j, none⟩) hgk] at f0
      generalize ks.getD j ByteArray.empty = s at *
      have hns : ni + (encText s.data.toList).length + x.enc.length ≤ 30000000000000 := by
        have h3 := hlen
        rw [if_pos rfl, List.length_append] at h3
        omega
      have hss : s.size ≤ 30000000000000 := by
        have h3 := encText_len s.data.toList
        have h4 : s.data.toList.length = s.size := rfl
        omega
      have HT := Lib.hid (appendText_v s OA.out BA.out (by omega) hss)
      have HNS := Lib.hid hns
      have pa0 := PA.out.cell 0
      change _ = some (Value.int .i64 5) at pa0
      have pa4 := PA.out.cell 4
      change _ = some (Value.slice (some ⟨gk, ok, none⟩) ks.length c') at pa4
      rw [HWA.out] at pa0 pa4 f0
      clear hlen hkj hns hss p0 p4
      go_wp2_with fail
      rw [← HWA.out]
      refine (HT.out).mono ?_
      rintro e w4 ⟨A4, n4, c4, rfl, hl4, O4, F4, _, _⟩
      have Q4 := Lib.hid (F4.out.keep _ _ _ QA.out (by decide))
      have P4 := Lib.hid (F4.out.keep _ _ _ PA.out (by decide))
      have FW := Lib.hid (FA.out.trans F4.out)
      have BW : Hid (base ≤ w4.heap.size) := Lib.hid (Nat.le_trans BA.out F4.out.below.size)
      have HNW : Hid (n4 + x.enc.length ≤ 30000000000000) := Lib.hid (by
        have h3 := HNS.out
        have h4 := hl4.out
        have h5 := own_len OA.out
        rw [List.length_append] at h4
        omega)
      have q0 := Q4.out.cell 0
      have q1 := Q4.out.cell 1
      have q2 := Q4.out.cell 2
      have q3 := Q4.out.cell 3
      have q4 := Q4.out.cell 4
      have HV := Lib.hid (IH.out x w4 _ base n4 c4 A4 _ (by have := HLE.out; omega) HWX.out (HX.out w4 FW.out.below) O4.out BW.out HNW.out)
      unfold vag at HV
      clear pa0 pa4 f0 e0 e1 e2 e3 e4
      go_wp2_with fail
      refine (HV.out).mono ?_
      rintro e w5 ⟨A5, n5, c5, rfl, hl5, O5, F5, _, _⟩
      have P5 := Lib.hid (F5.out.keep _ _ _ P4.out (by decide))
      have FF5 := Lib.hid (FW.out.trans F5.out)
      go_wp2
      go_roundw
      case rel => exact ⟨j + 1, A5, n5, c5, by omega, by go_num, rfl, Lib.hid (by rw [HTK.out, ← hl5.out]; congr 1; simp), Lib.hid (by rw [HTK.out]; have := O5.out; simpa using this), FF5, P5⟩
      case measure => simp [intOf]; omega
    · obtain rfl : j = its.length := by omega
      have O8 : Hid (wr.ownsRow base 5 1 (.slice AI ni ci) ni ((l ++ (enc (its.length : Nat) ++ encs true its ks)).map b8)) := Lib.hid (by have := HO.out; rwa [List.take_length] at this)
      have L8 : Hid ((l ++ (enc (its.length : Nat) ++ encs true its ks)).length = ni) := Lib.hid (by have := hni.out; rwa [List.take_length] at this)
      have b8_ := own_bounds O8.out
      go_wp2
      go_ret
      exact ⟨AI, ni, ci, rfl, L8, O8, HF, b8_.1, b8_.2⟩
end Go.Proofs.Ytjbjoalinfhahaa
namespace Go.Proofs.Ytjbjoalinfhahaa
open Go.RowKit

theorem encI {k i : Int} {t : ByteArray} {its : List VT} {ks : List ByteArray} (h : k = 1 ∨ k = 2 ∨ k = 6) : (VT.mk k i t its ks).enc = Go.Proofs.Ytjbjoalinfhahaa.enc k ++ Go.Proofs.Ytjbjoalinfhahaa.enc i := by rw [VT.enc_mk, if_pos h]
theorem encTx {i : Int} {t : ByteArray} {its : List VT} {ks : List ByteArray} : (VT.mk 3 i t its ks).enc = Go.Proofs.Ytjbjoalinfhahaa.enc 3 ++ encText t.data.toList := by rw [VT.enc_mk, if_neg (by omega), if_pos rfl]
theorem encN {i : Int} {t : ByteArray} {its : List VT} {ks : List ByteArray} : (VT.mk 0 i t its ks).enc = Go.Proofs.Ytjbjoalinfhahaa.enc 0 := by rw [VT.enc_mk, if_neg (by omega), if_neg (by omega), if_neg (by omega), List.append_nil]
theorem encIt {k i : Int} {t : ByteArray} {its : List VT} {ks : List ByteArray} (h : k = 4 ∨ k = 5) : (VT.mk k i t its ks).enc = Go.Proofs.Ytjbjoalinfhahaa.enc k ++ (Go.Proofs.Ytjbjoalinfhahaa.enc (its.length : Nat) ++ encs (decide (k = 5)) its ks) := by
  rw [VT.enc_mk, if_neg (by omega), if_neg (by omega), if_pos h]

set_option maxRecDepth 100000 in
set_option maxHeartbeats 2000000 in
set_option linter.unusedVariables false in
theorem av_0 (m : Nat) (IH : Hid (EncUpto m)) (i : Int) (t : ByteArray) (its : List VT) (ks : List ByteArray) (A : Option Addr) (c : Nat) (A' : Option Addr) (c' : Nat) (w : World) (base n0 c0 : Nat) (A0 : Option Addr) (l : List UInt8)
    (hi : -9223372036854775808 ≤ i ∧ i ≤ 9223372036854775807) (hL : LiesL w (fun b => b < base) A 0 its) (hS : LiesS w (fun b => b < base) A' ks) (hkc : ks.length ≤ c') (hcm' : c' ≤ 9223372036854775807) (h1 : its.length ≤ c) (h2 : c ≤ 9223372036854775807) (hsz : sizes its ≤ m) (hw : alls okF its = true) (hf : okF (.mk 0 i t its ks) = true)
    (ho : w.ownsRow base 5 1 (.slice A0 n0 c0) n0 (l.map b8)) (hB : base ≤ w.heap.size) (hn : n0 + (VT.mk 0 i t its ks).enc.length ≤ 30000000000000) :
    Calls Try.prog 83 #[.slice A0 n0 c0, vag 0 i t A its.length c A' ks.length c'] w (App base (l ++ (VT.mk 0 i t its ks).enc) w) := by
  have HNN := Lib.hid hn
  obtain ⟨w1, hw1⟩ : ∃ w1, w1 = w.alloc (.cells #[.int .i64 0, .int .i64 i, .string t, .slice A its.length c, .slice A' ks.length c'] 26) := ⟨_, rfl⟩
  have P1 : Hid (Bk w1 w.heap.size 26 #[.int .i64 0, .int .i64 i, .string t, .slice A its.length c, .slice A' ks.length c']) := Lib.hid (by rw [hw1]; exact Bk.new _ _ _)
  have F1 : Hid (Frm base w w1) := Lib.hid (by rw [hw1]; exact Frm.of_below (below_one _ _) hB)
  have O1 := Lib.hid (ho.kept (grown_of_below (r := none) (hw1 ▸ below_one w _ : Below w.heap.size w w1)) (by cases h : (Value.slice A0 n0 c0).ownBlock <;> simp))
  have B1 := Lib.hid (Nat.le_trans hB F1.out.below.size)
  have LL := Lib.hid (own_len ho)
  have HA := Lib.hid (appendInt_v 0 O1.out B1.out (by omega) (by omega) (by omega))
  have HW := Lib.hid hw1
  have HE := Lib.hid (encN (i := i) (t := t) (its := its) (ks := ks))
  clear hL hS hw hf ho hB hn hw1
  unfold vag
  go_enter Try.func83, Try.ntmps83
  go_wp2_with fail
  rw [← HW.out]
  refine (HA.out).mono ?_
  rintro e w2 ⟨A2, n2, c2, rfl, hl2, O2, F2, _, _⟩
  have P2 := Lib.hid (F2.out.keep _ _ _ P1.out (by decide))
  have FF := Lib.hid (F1.out.trans F2.out)
  have B2 := Lib.hid (Nat.le_trans B1.out F2.out.below.size)
  have p0 := P2.out.cell 0
  have p1 := P2.out.cell 1
  have p2 := P2.out.cell 2
  have p3 := P2.out.cell 3
  have p4 := P2.out.cell 4
  have b8_ := own_bounds O2.out
  go_wp2
  go_ret
  exact ⟨A2, n2, c2, rfl, Lib.hid (by rw [HE.out]; exact hl2.out), Lib.hid (by rw [HE.out]; exact O2.out), FF, b8_.1, b8_.2⟩

set_option maxRecDepth 100000 in
set_option maxHeartbeats 2000000 in
set_option linter.unusedVariables false in
theorem av_1 (m : Nat) (IH : Hid (EncUpto m)) (i : Int) (t : ByteArray) (its : List VT) (ks : List ByteArray) (A : Option Addr) (c : Nat) (A' : Option Addr) (c' : Nat) (w : World) (base n0 c0 : Nat) (A0 : Option Addr) (l : List UInt8)
    (hi : -9223372036854775808 ≤ i ∧ i ≤ 9223372036854775807) (hL : LiesL w (fun b => b < base) A 0 its) (hS : LiesS w (fun b => b < base) A' ks) (hkc : ks.length ≤ c') (hcm' : c' ≤ 9223372036854775807) (h1 : its.length ≤ c) (h2 : c ≤ 9223372036854775807) (hsz : sizes its ≤ m) (hw : alls okF its = true) (hf : okF (.mk 1 i t its ks) = true)
    (ho : w.ownsRow base 5 1 (.slice A0 n0 c0) n0 (l.map b8)) (hB : base ≤ w.heap.size) (hn : n0 + (VT.mk 1 i t its ks).enc.length ≤ 30000000000000) :
    Calls Try.prog 83 #[.slice A0 n0 c0, vag 1 i t A its.length c A' ks.length c'] w (App base (l ++ (VT.mk 1 i t its ks).enc) w) := by
  have HNN := Lib.hid hn
  obtain ⟨w1, hw1⟩ : ∃ w1, w1 = w.alloc (.cells #[.int .i64 1, .int .i64 i, .string t, .slice A its.length c, .slice A' ks.length c'] 26) := ⟨_, rfl⟩
  have P1 : Hid (Bk w1 w.heap.size 26 #[.int .i64 1, .int .i64 i, .string t, .slice A its.length c, .slice A' ks.length c']) := Lib.hid (by rw [hw1]; exact Bk.new _ _ _)
  have F1 : Hid (Frm base w w1) := Lib.hid (by rw [hw1]; exact Frm.of_below (below_one _ _) hB)
  have O1 := Lib.hid (ho.kept (grown_of_below (r := none) (hw1 ▸ below_one w _ : Below w.heap.size w w1)) (by cases h : (Value.slice A0 n0 c0).ownBlock <;> simp))
  have B1 := Lib.hid (Nat.le_trans hB F1.out.below.size)
  have LL := Lib.hid (own_len ho)
  have HA := Lib.hid (appendInt_v 1 O1.out B1.out (by omega) (by omega) (by omega))
  have HW := Lib.hid hw1
  have HE := Lib.hid (encI (k := 1) (i := i) (t := t) (its := its) (ks := ks) (by omega))
  have HI := Lib.hid hi
  clear hL hS hw hf ho hB hn hw1 hi
  unfold vag
  go_enter Try.func83, Try.ntmps83
  go_wp2_with fail
  rw [← HW.out]
  refine (HA.out).mono ?_
  rintro e w2 ⟨A2, n2, c2, rfl, hl2, O2, F2, _, _⟩
  have P2 := Lib.hid (F2.out.keep _ _ _ P1.out (by decide))
  have FF := Lib.hid (F1.out.trans F2.out)
  have B2 := Lib.hid (Nat.le_trans B1.out F2.out.below.size)
  have p0 := P2.out.cell 0
  have p1 := P2.out.cell 1
  have p2 := P2.out.cell 2
  have p3 := P2.out.cell 3
  have p4 := P2.out.cell 4
  have HC := Lib.hid (appendInt_v i O2.out B2.out (by
    have h3 := hl2.out
    have h4 := HNN.out
    have h5 := LL.out
    rw [HE.out, List.length_append] at h4
    rw [List.length_append] at h3
    omega) HI.out.1 HI.out.2)
  go_wp2_with fail
  refine (HC.out).mono ?_
  rintro e w3 ⟨A3, n3, c3, rfl, hl3, O3, F3, g1, g2⟩
  have FX := Lib.hid (FF.out.trans F3.out)
  clear p0 p1 p2 p3 p4
  go_wp2
  go_ret
  exact ⟨A3, n3, c3, rfl, Lib.hid (by rw [HE.out, ← List.append_assoc]; exact hl3.out), Lib.hid (by rw [HE.out, ← List.append_assoc]; exact O3.out), FX, g1, g2⟩

set_option maxRecDepth 100000 in
set_option maxHeartbeats 2000000 in
set_option linter.unusedVariables false in
theorem av_2 (m : Nat) (IH : Hid (EncUpto m)) (i : Int) (t : ByteArray) (its : List VT) (ks : List ByteArray) (A : Option Addr) (c : Nat) (A' : Option Addr) (c' : Nat) (w : World) (base n0 c0 : Nat) (A0 : Option Addr) (l : List UInt8)
    (hi : -9223372036854775808 ≤ i ∧ i ≤ 9223372036854775807) (hL : LiesL w (fun b => b < base) A 0 its) (hS : LiesS w (fun b => b < base) A' ks) (hkc : ks.length ≤ c') (hcm' : c' ≤ 9223372036854775807) (h1 : its.length ≤ c) (h2 : c ≤ 9223372036854775807) (hsz : sizes its ≤ m) (hw : alls okF its = true) (hf : okF (.mk 2 i t its ks) = true)
    (ho : w.ownsRow base 5 1 (.slice A0 n0 c0) n0 (l.map b8)) (hB : base ≤ w.heap.size) (hn : n0 + (VT.mk 2 i t its ks).enc.length ≤ 30000000000000) :
    Calls Try.prog 83 #[.slice A0 n0 c0, vag 2 i t A its.length c A' ks.length c'] w (App base (l ++ (VT.mk 2 i t its ks).enc) w) := by
  have HNN := Lib.hid hn
  obtain ⟨w1, hw1⟩ : ∃ w1, w1 = w.alloc (.cells #[.int .i64 2, .int .i64 i, .string t, .slice A its.length c, .slice A' ks.length c'] 26) := ⟨_, rfl⟩
  have P1 : Hid (Bk w1 w.heap.size 26 #[.int .i64 2, .int .i64 i, .string t, .slice A its.length c, .slice A' ks.length c']) := Lib.hid (by rw [hw1]; exact Bk.new _ _ _)
  have F1 : Hid (Frm base w w1) := Lib.hid (by rw [hw1]; exact Frm.of_below (below_one _ _) hB)
  have O1 := Lib.hid (ho.kept (grown_of_below (r := none) (hw1 ▸ below_one w _ : Below w.heap.size w w1)) (by cases h : (Value.slice A0 n0 c0).ownBlock <;> simp))
  have B1 := Lib.hid (Nat.le_trans hB F1.out.below.size)
  have LL := Lib.hid (own_len ho)
  have HA := Lib.hid (appendInt_v 2 O1.out B1.out (by omega) (by omega) (by omega))
  have HW := Lib.hid hw1
  have HE := Lib.hid (encI (k := 2) (i := i) (t := t) (its := its) (ks := ks) (by omega))
  have HI := Lib.hid hi
  clear hL hS hw hf ho hB hn hw1 hi
  unfold vag
  go_enter Try.func83, Try.ntmps83
  go_wp2_with fail
  rw [← HW.out]
  refine (HA.out).mono ?_
  rintro e w2 ⟨A2, n2, c2, rfl, hl2, O2, F2, _, _⟩
  have P2 := Lib.hid (F2.out.keep _ _ _ P1.out (by decide))
  have FF := Lib.hid (F1.out.trans F2.out)
  have B2 := Lib.hid (Nat.le_trans B1.out F2.out.below.size)
  have p0 := P2.out.cell 0
  have p1 := P2.out.cell 1
  have p2 := P2.out.cell 2
  have p3 := P2.out.cell 3
  have p4 := P2.out.cell 4
  have HC := Lib.hid (appendInt_v i O2.out B2.out (by
    have h3 := hl2.out
    have h4 := HNN.out
    have h5 := LL.out
    rw [HE.out, List.length_append] at h4
    rw [List.length_append] at h3
    omega) HI.out.1 HI.out.2)
  go_wp2_with fail
  refine (HC.out).mono ?_
  rintro e w3 ⟨A3, n3, c3, rfl, hl3, O3, F3, g1, g2⟩
  have FX := Lib.hid (FF.out.trans F3.out)
  clear p0 p1 p2 p3 p4
  go_wp2
  go_ret
  exact ⟨A3, n3, c3, rfl, Lib.hid (by rw [HE.out, ← List.append_assoc]; exact hl3.out), Lib.hid (by rw [HE.out, ← List.append_assoc]; exact O3.out), FX, g1, g2⟩

set_option maxRecDepth 100000 in
set_option maxHeartbeats 2000000 in
set_option linter.unusedVariables false in
theorem av_3 (m : Nat) (IH : Hid (EncUpto m)) (i : Int) (t : ByteArray) (its : List VT) (ks : List ByteArray) (A : Option Addr) (c : Nat) (A' : Option Addr) (c' : Nat) (w : World) (base n0 c0 : Nat) (A0 : Option Addr) (l : List UInt8)
    (hi : -9223372036854775808 ≤ i ∧ i ≤ 9223372036854775807) (hL : LiesL w (fun b => b < base) A 0 its) (hS : LiesS w (fun b => b < base) A' ks) (hkc : ks.length ≤ c') (hcm' : c' ≤ 9223372036854775807) (h1 : its.length ≤ c) (h2 : c ≤ 9223372036854775807) (hsz : sizes its ≤ m) (hw : alls okF its = true) (hf : okF (.mk 3 i t its ks) = true)
    (ho : w.ownsRow base 5 1 (.slice A0 n0 c0) n0 (l.map b8)) (hB : base ≤ w.heap.size) (hn : n0 + (VT.mk 3 i t its ks).enc.length ≤ 30000000000000) :
    Calls Try.prog 83 #[.slice A0 n0 c0, vag 3 i t A its.length c A' ks.length c'] w (App base (l ++ (VT.mk 3 i t its ks).enc) w) := by
  have HNN := Lib.hid hn
  obtain ⟨w1, hw1⟩ : ∃ w1, w1 = w.alloc (.cells #[.int .i64 3, .int .i64 i, .string t, .slice A its.length c, .slice A' ks.length c'] 26) := ⟨_, rfl⟩
  have P1 : Hid (Bk w1 w.heap.size 26 #[.int .i64 3, .int .i64 i, .string t, .slice A its.length c, .slice A' ks.length c']) := Lib.hid (by rw [hw1]; exact Bk.new _ _ _)
  have F1 : Hid (Frm base w w1) := Lib.hid (by rw [hw1]; exact Frm.of_below (below_one _ _) hB)
  have O1 := Lib.hid (ho.kept (grown_of_below (r := none) (hw1 ▸ below_one w _ : Below w.heap.size w w1)) (by cases h : (Value.slice A0 n0 c0).ownBlock <;> simp))
  have B1 := Lib.hid (Nat.le_trans hB F1.out.below.size)
  have LL := Lib.hid (own_len ho)
  have HA := Lib.hid (appendInt_v 3 O1.out B1.out (by omega) (by omega) (by omega))
  have HW := Lib.hid hw1
  have HE := Lib.hid (encTx (i := i) (t := t) (its := its) (ks := ks))
  clear hL hS hw hf ho hB hn hw1
  unfold vag
  go_enter Try.func83, Try.ntmps83
  go_wp2_with fail
  rw [← HW.out]
  refine (HA.out).mono ?_
  rintro e w2 ⟨A2, n2, c2, rfl, hl2, O2, F2, _, _⟩
  have P2 := Lib.hid (F2.out.keep _ _ _ P1.out (by decide))
  have FF := Lib.hid (F1.out.trans F2.out)
  have B2 := Lib.hid (Nat.le_trans B1.out F2.out.below.size)
  have p0 := P2.out.cell 0
  have p1 := P2.out.cell 1
  have p2 := P2.out.cell 2
  have p3 := P2.out.cell 3
  have p4 := P2.out.cell 4
  have htx := encText_len t.data.toList
  have hts : t.data.toList.length = t.size := rfl
  have HC := Lib.hid (appendText_v t O2.out B2.out (by
    have h3 := hl2.out
    have h4 := HNN.out
    have h5 := LL.out
    rw [HE.out, List.length_append] at h4
    rw [List.length_append] at h3
    omega) (by
    have h4 := HNN.out
    rw [HE.out, List.length_append] at h4
    omega))
  clear htx hts
  go_wp2_with fail
  refine (HC.out).mono ?_
  rintro e w3 ⟨A3, n3, c3, rfl, hl3, O3, F3, g1, g2⟩
  have FX := Lib.hid (FF.out.trans F3.out)
  clear p0 p1 p2 p3 p4
  go_wp2
  go_ret
  exact ⟨A3, n3, c3, rfl, Lib.hid (by rw [HE.out, ← List.append_assoc]; exact hl3.out), Lib.hid (by rw [HE.out, ← List.append_assoc]; exact O3.out), FX, g1, g2⟩

set_option maxRecDepth 100000 in
set_option maxHeartbeats 2000000 in
set_option linter.unusedVariables false in
theorem av_4 (m : Nat) (IH : Hid (EncUpto m)) (i : Int) (t : ByteArray) (its : List VT) (ks : List ByteArray) (A : Option Addr) (c : Nat) (A' : Option Addr) (c' : Nat) (w : World) (base n0 c0 : Nat) (A0 : Option Addr) (l : List UInt8)
    (hi : -9223372036854775808 ≤ i ∧ i ≤ 9223372036854775807) (hL : LiesL w (fun b => b < base) A 0 its) (hS : LiesS w (fun b => b < base) A' ks) (hkc : ks.length ≤ c') (hcm' : c' ≤ 9223372036854775807) (h1 : its.length ≤ c) (h2 : c ≤ 9223372036854775807) (hsz : sizes its ≤ m) (hw : alls okF its = true) (hf : okF (.mk 4 i t its ks) = true)
    (ho : w.ownsRow base 5 1 (.slice A0 n0 c0) n0 (l.map b8)) (hB : base ≤ w.heap.size) (hn : n0 + (VT.mk 4 i t its ks).enc.length ≤ 30000000000000) :
    Calls Try.prog 83 #[.slice A0 n0 c0, vag 4 i t A its.length c A' ks.length c'] w (App base (l ++ (VT.mk 4 i t its ks).enc) w) := by
  have HNN := Lib.hid hn
  obtain ⟨w1, hw1⟩ : ∃ w1, w1 = w.alloc (.cells #[.int .i64 4, .int .i64 i, .string t, .slice A its.length c, .slice A' ks.length c'] 26) := ⟨_, rfl⟩
  have P1 : Hid (Bk w1 w.heap.size 26 #[.int .i64 4, .int .i64 i, .string t, .slice A its.length c, .slice A' ks.length c']) := Lib.hid (by rw [hw1]; exact Bk.new _ _ _)
  have F1 : Hid (Frm base w w1) := Lib.hid (by rw [hw1]; exact Frm.of_below (below_one _ _) hB)
  have O1 := Lib.hid (ho.kept (grown_of_below (r := none) (hw1 ▸ below_one w _ : Below w.heap.size w w1)) (by cases h : (Value.slice A0 n0 c0).ownBlock <;> simp))
  have B1 := Lib.hid (Nat.le_trans hB F1.out.below.size)
  have LL := Lib.hid (own_len ho)
  have HA := Lib.hid (appendInt_v 4 O1.out B1.out (by omega) (by omega) (by omega))
  have HW := Lib.hid hw1
  have HE := Lib.hid (encIt (k := 4) (i := i) (t := t) (its := its) (ks := ks) (by omega))
  have HCC := Lib.hid (fun (W : World) (hb : Below base w W) (n2 c2 : Nat) (A2 : Option Addr) (l2 : List UInt8) (h5 : W.ownsRow base 5 1 (.slice A2 n2 c2) n2 (l2.map b8)) (h6 : base ≤ W.heap.size) (h7 : n2 + (Go.Proofs.Ytjbjoalinfhahaa.enc (its.length : Nat) ++ encs false its ks).length ≤ 30000000000000) =>
    encItems_4 m IH i t its ks A c A' c' W base n2 c2 A2 l2 (hL.keep (fun p hp => hb.cell hp) (fun _ h => h)) h1 h2 hsz hw h5 h6 h7)
  clear hL hS hw hf ho hB hn hw1
  unfold vag
  go_enter Try.func83, Try.ntmps83
  go_wp2_with fail
  rw [← HW.out]
  refine (HA.out).mono ?_
  rintro e w2 ⟨A2, n2, c2, rfl, hl2, O2, F2, _, _⟩
  have P2 := Lib.hid (F2.out.keep _ _ _ P1.out (by decide))
  have FF := Lib.hid (F1.out.trans F2.out)
  have B2 := Lib.hid (Nat.le_trans B1.out F2.out.below.size)
  have p0 := P2.out.cell 0
  have p1 := P2.out.cell 1
  have p2 := P2.out.cell 2
  have p3 := P2.out.cell 3
  have p4 := P2.out.cell 4
  have HC := Lib.hid (HCC.out w2 FF.out.below n2 c2 A2 _ O2.out B2.out (by
    have h3 := hl2.out
    have h4 := HNN.out
    have h5 := LL.out
    rw [HE.out, List.length_append] at h4
    rw [List.length_append] at h3
    change n0 + ((Go.Proofs.Ytjbjoalinfhahaa.enc 4).length + (Go.Proofs.Ytjbjoalinfhahaa.enc (its.length : Nat) ++ encs false its ks).length) ≤ _ at h4
    omega))
  unfold vag at HC
  go_wp2_with fail
  refine (HC.out).mono ?_
  rintro e w3 ⟨A3, n3, c3, rfl, hl3, O3, F3, g1, g2⟩
  have FX := Lib.hid (FF.out.trans F3.out)
  clear p0 p1 p2 p3 p4
  go_wp2
  go_ret
  exact ⟨A3, n3, c3, rfl, Lib.hid (by rw [HE.out, ← List.append_assoc]; exact hl3.out), Lib.hid (by rw [HE.out, ← List.append_assoc]; exact O3.out), FX, g1, g2⟩

set_option maxRecDepth 100000 in
set_option maxHeartbeats 2000000 in
set_option linter.unusedVariables false in
theorem av_5 (m : Nat) (IH : Hid (EncUpto m)) (i : Int) (t : ByteArray) (its : List VT) (ks : List ByteArray) (A : Option Addr) (c : Nat) (A' : Option Addr) (c' : Nat) (w : World) (base n0 c0 : Nat) (A0 : Option Addr) (l : List UInt8)
    (hi : -9223372036854775808 ≤ i ∧ i ≤ 9223372036854775807) (hL : LiesL w (fun b => b < base) A 0 its) (hS : LiesS w (fun b => b < base) A' ks) (hkc : ks.length ≤ c') (hcm' : c' ≤ 9223372036854775807) (h1 : its.length ≤ c) (h2 : c ≤ 9223372036854775807) (hsz : sizes its ≤ m) (hw : alls okF its = true) (hf : okF (.mk 5 i t its ks) = true)
    (ho : w.ownsRow base 5 1 (.slice A0 n0 c0) n0 (l.map b8)) (hB : base ≤ w.heap.size) (hn : n0 + (VT.mk 5 i t its ks).enc.length ≤ 30000000000000) :
    Calls Try.prog 83 #[.slice A0 n0 c0, vag 5 i t A its.length c A' ks.length c'] w (App base (l ++ (VT.mk 5 i t its ks).enc) w) := by
  have HNN := Lib.hid hn
  obtain ⟨w1, hw1⟩ : ∃ w1, w1 = w.alloc (.cells #[.int .i64 5, .int .i64 i, .string t, .slice A its.length c, .slice A' ks.length c'] 26) := ⟨_, rfl⟩
  have P1 : Hid (Bk w1 w.heap.size 26 #[.int .i64 5, .int .i64 i, .string t, .slice A its.length c, .slice A' ks.length c']) := Lib.hid (by rw [hw1]; exact Bk.new _ _ _)
  have F1 : Hid (Frm base w w1) := Lib.hid (by rw [hw1]; exact Frm.of_below (below_one _ _) hB)
  have O1 := Lib.hid (ho.kept (grown_of_below (r := none) (hw1 ▸ below_one w _ : Below w.heap.size w w1)) (by cases h : (Value.slice A0 n0 c0).ownBlock <;> simp))
  have B1 := Lib.hid (Nat.le_trans hB F1.out.below.size)
  have LL := Lib.hid (own_len ho)
  have HA := Lib.hid (appendInt_v 5 O1.out B1.out (by omega) (by omega) (by omega))
  have HW := Lib.hid hw1
  have HE := Lib.hid (encIt (k := 5) (i := i) (t := t) (its := its) (ks := ks) (by omega))
  have HCC := Lib.hid (fun (W : World) (hb : Below base w W) (n2 c2 : Nat) (A2 : Option Addr) (l2 : List UInt8) (h5 : W.ownsRow base 5 1 (.slice A2 n2 c2) n2 (l2.map b8)) (h6 : base ≤ W.heap.size) (h7 : n2 + (Go.Proofs.Ytjbjoalinfhahaa.enc (its.length : Nat) ++ encs true its ks).length ≤ 30000000000000) =>
    encItems_5 m IH i t its ks A c A' c' W base n2 c2 A2 l2 (hL.keep (fun p hp => hb.cell hp) (fun _ h => h)) (hS.keep (fun p hp => hb.cell hp) (fun _ h => h)) (wf_map hf).2.2 hkc hcm' h1 h2 hsz hw h5 h6 h7)
  clear hL hS hw hf ho hB hn hw1
  unfold vag
  go_enter Try.func83, Try.ntmps83
  go_wp2_with fail
  rw [← HW.out]
  refine (HA.out).mono ?_
  rintro e w2 ⟨A2, n2, c2, rfl, hl2, O2, F2, _, _⟩
  have P2 := Lib.hid (F2.out.keep _ _ _ P1.out (by decide))
  have FF := Lib.hid (F1.out.trans F2.out)
  have B2 := Lib.hid (Nat.le_trans B1.out F2.out.below.size)
  have p0 := P2.out.cell 0
  have p1 := P2.out.cell 1
  have p2 := P2.out.cell 2
  have p3 := P2.out.cell 3
  have p4 := P2.out.cell 4
  have HC := Lib.hid (HCC.out w2 FF.out.below n2 c2 A2 _ O2.out B2.out (by
    have h3 := hl2.out
    have h4 := HNN.out
    have h5 := LL.out
    rw [HE.out, List.length_append] at h4
    rw [List.length_append] at h3
    change n0 + ((Go.Proofs.Ytjbjoalinfhahaa.enc 5).length + (Go.Proofs.Ytjbjoalinfhahaa.enc (its.length : Nat) ++ encs true its ks).length) ≤ _ at h4
    omega))
  unfold vag at HC
  go_wp2_with fail
  refine (HC.out).mono ?_
  rintro e w3 ⟨A3, n3, c3, rfl, hl3, O3, F3, g1, g2⟩
  have FX := Lib.hid (FF.out.trans F3.out)
  clear p0 p1 p2 p3 p4
  go_wp2
  go_ret
  exact ⟨A3, n3, c3, rfl, Lib.hid (by rw [HE.out, ← List.append_assoc]; exact hl3.out), Lib.hid (by rw [HE.out, ← List.append_assoc]; exact O3.out), FX, g1, g2⟩

set_option maxRecDepth 100000 in
set_option maxHeartbeats 2000000 in
set_option linter.unusedVariables false in
theorem av_6 (m : Nat) (IH : Hid (EncUpto m)) (i : Int) (t : ByteArray) (its : List VT) (ks : List ByteArray) (A : Option Addr) (c : Nat) (A' : Option Addr) (c' : Nat) (w : World) (base n0 c0 : Nat) (A0 : Option Addr) (l : List UInt8)
    (hi : -9223372036854775808 ≤ i ∧ i ≤ 9223372036854775807) (hL : LiesL w (fun b => b < base) A 0 its) (hS : LiesS w (fun b => b < base) A' ks) (hkc : ks.length ≤ c') (hcm' : c' ≤ 9223372036854775807) (h1 : its.length ≤ c) (h2 : c ≤ 9223372036854775807) (hsz : sizes its ≤ m) (hw : alls okF its = true) (hf : okF (.mk 6 i t its ks) = true)
    (ho : w.ownsRow base 5 1 (.slice A0 n0 c0) n0 (l.map b8)) (hB : base ≤ w.heap.size) (hn : n0 + (VT.mk 6 i t its ks).enc.length ≤ 30000000000000) :
    Calls Try.prog 83 #[.slice A0 n0 c0, vag 6 i t A its.length c A' ks.length c'] w (App base (l ++ (VT.mk 6 i t its ks).enc) w) := by
  have HNN := Lib.hid hn
  obtain ⟨w1, hw1⟩ : ∃ w1, w1 = w.alloc (.cells #[.int .i64 6, .int .i64 i, .string t, .slice A its.length c, .slice A' ks.length c'] 26) := ⟨_, rfl⟩
  have P1 : Hid (Bk w1 w.heap.size 26 #[.int .i64 6, .int .i64 i, .string t, .slice A its.length c, .slice A' ks.length c']) := Lib.hid (by rw [hw1]; exact Bk.new _ _ _)
  have F1 : Hid (Frm base w w1) := Lib.hid (by rw [hw1]; exact Frm.of_below (below_one _ _) hB)
  have O1 := Lib.hid (ho.kept (grown_of_below (r := none) (hw1 ▸ below_one w _ : Below w.heap.size w w1)) (by cases h : (Value.slice A0 n0 c0).ownBlock <;> simp))
  have B1 := Lib.hid (Nat.le_trans hB F1.out.below.size)
  have LL := Lib.hid (own_len ho)
  have HA := Lib.hid (appendInt_v 6 O1.out B1.out (by omega) (by omega) (by omega))
  have HW := Lib.hid hw1
  have HE := Lib.hid (encI (k := 6) (i := i) (t := t) (its := its) (ks := ks) (by omega))
  have HI := Lib.hid hi
  clear hL hS hw hf ho hB hn hw1 hi
  unfold vag
  go_enter Try.func83, Try.ntmps83
  go_wp2_with fail
  rw [← HW.out]
  refine (HA.out).mono ?_
  rintro e w2 ⟨A2, n2, c2, rfl, hl2, O2, F2, _, _⟩
  have P2 := Lib.hid (F2.out.keep _ _ _ P1.out (by decide))
  have FF := Lib.hid (F1.out.trans F2.out)
  have B2 := Lib.hid (Nat.le_trans B1.out F2.out.below.size)
  have p0 := P2.out.cell 0
  have p1 := P2.out.cell 1
  have p2 := P2.out.cell 2
  have p3 := P2.out.cell 3
  have p4 := P2.out.cell 4
  have HC := Lib.hid (appendInt_v i O2.out B2.out (by
    have h3 := hl2.out
    have h4 := HNN.out
    have h5 := LL.out
    rw [HE.out, List.length_append] at h4
    rw [List.length_append] at h3
    omega) HI.out.1 HI.out.2)
  go_wp2_with fail
  refine (HC.out).mono ?_
  rintro e w3 ⟨A3, n3, c3, rfl, hl3, O3, F3, g1, g2⟩
  have FX := Lib.hid (FF.out.trans F3.out)
  clear p0 p1 p2 p3 p4
  go_wp2
  go_ret
  exact ⟨A3, n3, c3, rfl, Lib.hid (by rw [HE.out, ← List.append_assoc]; exact hl3.out), Lib.hid (by rw [HE.out, ← List.append_assoc]; exact O3.out), FX, g1, g2⟩

theorem valEnc_all (m : Nat) : EncUpto m := by
  induction m with
  | zero => intro x _ _ _ _ _ _ _ h; have := size_pos x; omega
  | succ m ih =>
    intro x w v base n c A l hsz hw hv ho hB hn
    have IH := Lib.hid ih
    obtain ⟨k, i, t, its, ks⟩ := x
    obtain ⟨A1, c1, A', c', rfl, _, hi, _, h1, h2, hL, h3, h4, hS⟩ := hv.open
    rw [VT.size_mk] at hsz
    rw [VT.all_mk, Bool.and_eq_true] at hw
    have hk := wf_kind hw.1
    obtain rfl | rfl | rfl | rfl | rfl | rfl | rfl : k = 0 ∨ k = 1 ∨ k = 2 ∨ k = 3 ∨ k = 4 ∨ k = 5 ∨ k = 6 := by omega
    · exact av_0 m IH i t its ks A1 c1 A' c' w base n c A l hi hL hS h3 h4 h1 h2 (by omega) hw.2 hw.1 ho hB hn
    · exact av_1 m IH i t its ks A1 c1 A' c' w base n c A l hi hL hS h3 h4 h1 h2 (by omega) hw.2 hw.1 ho hB hn
    · exact av_2 m IH i t its ks A1 c1 A' c' w base n c A l hi hL hS h3 h4 h1 h2 (by omega) hw.2 hw.1 ho hB hn
    · exact av_3 m IH i t its ks A1 c1 A' c' w base n c A l hi hL hS h3 h4 h1 h2 (by omega) hw.2 hw.1 ho hB hn
    · exact av_4 m IH i t its ks A1 c1 A' c' w base n c A l hi hL hS h3 h4 h1 h2 (by omega) hw.2 hw.1 ho hB hn
    · exact av_5 m IH i t its ks A1 c1 A' c' w base n c A l hi hL hS h3 h4 h1 h2 (by omega) hw.2 hw.1 ho hB hn
    · exact av_6 m IH i t its ks A1 c1 A' c' w base n c A l hi hL hS h3 h4 h1 h2 (by omega) hw.2 hw.1 ho hB hn

/-- the encoding of a well-formed value, and nothing of another one -/
def encOf (x : VT) : List UInt8 := if x.wf = true then x.enc else []
theorem encOf_yes {x : VT} (h : x.wf = true) : encOf x = x.enc := by unfold encOf; rw [if_pos h]
theorem encOf_no {x : VT} (h : x.wf = false) : encOf x = [] := by unfold encOf; rw [h]; rfl

set_option maxRecDepth 100000 in
set_option maxHeartbeats 2000000 in
theorem valEncode_any {A : Option Addr} {n c B : Nat} {l : List UInt8} {x : VT} {v : Value} {w : World} (hr : Rb w B A n l) (hB : B ≤ w.heap.size) (hv : Lies w (Lo w) x v) (hn : n + x.enc.length ≤ 30000000000000) :
    Calls Try.prog 46 #[.slice A n c, v] w (OwnRes w (l ++ encOf x)) := by
  obtain ⟨iB, hiB, hzB, hsB, hbB⟩ := info_parts Try.infob
  have HT := Lib.hid (fun (w' : World) (hb : Below w.heap.size w w') => wf_any (hv.below hb))
  have HE := Lib.hid (fun (w' : World) (hb : Below w.heap.size w w') (hx : x.all okF = true) (n2 c2 : Nat) (A2 : Option Addr) (l2 : List UInt8) (h5 : w'.ownsRow w.heap.size 5 1 (.slice A2 n2 c2) n2 (l2.map b8)) (h7 : n2 + x.enc.length ≤ 30000000000000) =>
    valEnc_all x.size x w' v w.heap.size n2 c2 A2 l2 (Nat.le_refl _) hx (hv.keep (fun p hp => hb.cell hp) (fun _ h => h)) h5 hb.size h7)
  have HY := Lib.hid (encOf_yes (x := x))
  have HN := Lib.hid (encOf_no (x := x))
  have HR := Lib.hid hr
  have HLN := Lib.hid hn
  have HBN := Lib.hid hB
  obtain ⟨k, i, t, its, ks⟩ := x
  obtain ⟨A1, c1, A', c', rfl, _, _, _, _, _, _, _, _, _⟩ := hv.open
  have hnb : n ≤ 30000000000000 := by omega
  clear hv hr hn
  generalize hx : VT.mk k i t its ks = x at *
  clear hx
  unfold VT.wf at *
  generalize hb : x.all okF = b at *
  have HBE := Lib.hid hb
  clear hb
  obtain ⟨w1, hw1⟩ : ∃ w1, w1 = w.alloc (.cells #[.int .i64 k, .int .i64 i, .string t, .slice A1 its.length c1, .slice A' ks.length c'] 26) := ⟨_, rfl⟩
  have P1 : Hid (Bk w1 w.heap.size 26 #[.int .i64 k, .int .i64 i, .string t, .slice A1 its.length c1, .slice A' ks.length c']) := Lib.hid (by rw [hw1]; exact Bk.new _ _ _)
  have B1 : Hid (Below w.heap.size w w1) := Lib.hid (by rw [hw1]; exact below_one _ _)
  have HW := Lib.hid hw1
  clear hw1 hB
  unfold vag at *
  go_enter Try.func46, Try.ntmps46
  go_wp2_with (at_make; rw [← HW.out]; refine wpList_make_own _ rfl _ _ 50 rfl w.heap.size 5 iB (.int .u8 0) 1 Try.underlying50 hiB hzB hsB _ _ _ n rfl rfl ?_ ?_ ?_ ?_ ?_)
  · rfl
  · rw [hbB]; omega
  · unfold maxLen; omega
  · exact B1.out.size
  · intro w2 hown hg
    have H2 := Lib.hid hown
    have B2 := Lib.hid (B1.out.grown hg B1.out.size (fun k hk => by cases hk))
    have P2 := Lib.hid (P1.out.grown hg (by simp))
    clear hown hg
    go_wp2_with (at_builtin; refine wpList_append_b8 rfl _ _ 50 rfl w.heap.size 5 iB (.int .u8 0) Try.underlying50 hiB hzB hsB hbB rfl _ 0 [] rfl H2.out B A n c l rfl (HR.out.below (B2.out.mono HBN.out)) ?_ ?_ ?_)
    · omega
    · exact B2.out.size
    · intro v3 w3 hown hg
      have hown' : w3.ownsRow w.heap.size 5 1 v3 n (l.map b8) := by simpa using hown
      obtain ⟨A3, c3, rfl, g1, g2⟩ := own_form hown'
      have O3 := Lib.hid hown'
      have B3 := Lib.hid (B2.out.grown hg B2.out.size (fun k hk => (H2.out.lt k hk).1))
      have FR3 := Lib.hid (Frm.of_grown hg H2.out B2.out.size)
      have P3 := Lib.hid (FR3.out.keep _ _ _ P2.out (by decide))
      have p0 := P3.out.cell 0
      have p1 := P3.out.cell 1
      have p2 := P3.out.cell 2
      have p3 := P3.out.cell 3
      have p4 := P3.out.cell 4
      have T3 := Lib.hid (HT.out w3 B3.out)
      clear hown hown' hg
      go_wp2_with fail
      refine (T3.out).mono ?_
      rintro e w4 ⟨rfl, hb⟩
      have O4 := Lib.hid (O3.out.kept (grown_of_below (r := none) hb) (by cases h : (Value.slice A3 n c3).ownBlock <;> simp))
      have B4 := Lib.hid (B3.out.trans (hb.mono B3.out.size))
      have P4 := Lib.hid (P3.out.below hb P3.out.lt)
      clear hb p0 p1 p2 p3 p4
      cases b with
      | false =>
        have R := Lib.hid (HN.out rfl)
        clear HN HY HE HT T3
        go_wp2
        go_ret
        exact ⟨_, rfl, by rw [R.out, List.append_nil]; have := own_len O4.out; rw [this]; exact O4.out, B4.out⟩
      | true =>
        have R := Lib.hid (HY.out rfl)
        have E4 := Lib.hid (HE.out w4 B4.out rfl n c3 A3 l O4.out HLN.out)
        have p0 := P4.out.cell 0
        have p1 := P4.out.cell 1
        have p2 := P4.out.cell 2
        have p3 := P4.out.cell 3
        have p4 := P4.out.cell 4
        clear HN HY HE HT T3
        go_wp2_with fail
        refine (E4.out).mono ?_
        rintro e w5 ⟨A5, n5, c5, rfl, hl5, O5, F5, _, _⟩
        have B5 := Lib.hid (B4.out.trans F5.out.below)
        clear p0 p1 p2 p3 p4
        go_wp2
        go_ret
        exact ⟨_, rfl, by rw [R.out, hl5.out]; exact O5.out, B5.out⟩
end Go.Proofs.Ytjbjoalinfhahaa
