/-
  Contracts of in, of its closure, of span and starts.
-/
import Derived.Test.YtemdcgeopaphaaaDoorKb
import Derived.Test.YtemdcgeopaphaaaDoorKz
import Derived.Test.YtemdcgeopaphaaaDoorVpre
namespace Go.Proofs.YtemdcgeopaphaaaDoor
open Go.RowKit

/-- a world in which only draws have been made -/
def Dr (w w' : World) : Prop := ∃ k, w' = w.drewN k
theorem Dr.refl (w : World) : Dr w w := ⟨0, (World.drewN_zero w).symm⟩
theorem Dr.drew (w : World) : Dr w w.drew := ⟨1, rfl⟩
theorem Dr.next (w : World) (k : Nat) : Dr w (w.drewN k) := ⟨k, rfl⟩
theorem Dr.trans {a b c : World} (h : Dr a b) (k : Dr b c) : Dr a c := by
  obtain ⟨n, rfl⟩ := h
  obtain ⟨m, rfl⟩ := k
  exact ⟨n + m, World.drewN_drewN _ _ _⟩
theorem Dr.cell {w w' : World} (h : Dr w w') (a : Addr) : w'.cell? a = w.cell? a := by
  obtain ⟨n, rfl⟩ := h
  rfl
theorem Dr.below {w w' : World} (h : Dr w w') : Below w.heap.size w w' := by
  obtain ⟨k, rfl⟩ := h
  exact ⟨rfl, rfl, rfl, Nat.le_refl _, fun _ _ => rfl⟩

theorem wrap_byte (c : UInt8) : wrap32 (c.toNat : Int) = (c.toNat : Int) := by
  have := c.toNat_lt
  unfold wrap32
  omega
theorem ret_int {a b : Int} (h : a = b) : Ending.returned (.int .i64 a) = .returned (.int .i64 b) := by rw [h]
theorem contains_any {s : ByteArray} {p : UInt8 → Bool} (hS : IsSet s p) (c : UInt8) (w : World) :
    Calls Tryd.prog 31 #[.string s, .int .i32 (c.toNat : Int)] w fun e w' => e = .returned (.bool (p c)) ∧ Dr w w' := by
  have hlt := c.toNat_lt
  by_cases hc : c.toNat < 128
  · have := Tryd.strings_ContainsRune_ascii s (c.toNat : Int) w (by omega) (by omega)
    refine this.mono ?_
    rintro e w' ⟨rfl, rfl⟩
    refine ⟨?_, Dr.refl _⟩
    rw [hS.mem c hc]
    simp
  · have HP := Lib.hid (hS.high c (by omega))
    have HR := Lib.hid (fun V => rune_high s c V (by omega) hS.ascii hS.size)
    go_enter Tryd.func31, Tryd.ntmps31
    go_wp2_with fail
    refine (HR.out _).mono ?_
    rintro e w' ⟨rfl, k, rfl⟩
    go_wp2
    go_ret
    exact ⟨ret_bool HP.out.symm, Dr.next _ _⟩

/-- the closure over the set that lies in block b -/
def setF (b : Nat) : Value := .func (.func 30) #[] #[.pointer (some ⟨b, 0, none⟩)]
/-- block b holds the set s -/
def SetAt (w : World) (b : Nat) (s : ByteArray) : Prop := Bk w b 9 #[.string s]
theorem SetAt.dr {w w' : World} {b : Nat} {s : ByteArray} (h : SetAt w b s) (hd : Dr w w') : SetAt w' b s := by
  obtain ⟨n, rfl⟩ := hd
  exact h
theorem closure_any {s : ByteArray} {p : UInt8 → Bool} (hS : IsSet s p) (c : UInt8) {b : Nat} {w : World} (hb : SetAt w b s) :
    Calls Tryd.prog 30 #[.int .i32 (c.toNat : Int), .pointer (some ⟨b, 0, none⟩)] w fun e w' => e = .returned (.bool (p c)) ∧ Dr w w' := by
  have HC := Lib.hid (fun V => contains_any hS c V)
  have c0 := hb.cell 0
  clear hb hS
  go_enter Tryd.func30, Tryd.ntmps30
  go_wp2_with fail
  refine (HC.out _).mono ?_
  rintro e w' ⟨rfl, hd⟩
  go_wp2
  go_ret
  exact ⟨rfl, hd⟩
theorem in_any (s : ByteArray) (w : World) :
    Calls Tryd.prog 22 #[.string s] w fun e w' => e = .returned (setF w.heap.size) ∧ SetAt w' w.heap.size s ∧ Below w.heap.size w w' := by
  have hmf : ∀ (fn : Fn) (first cap : Array Value) (w : World), (Instr.makeFunc fn first cap).run Tryd.prog w = .ok (.func fn first cap) w := fun _ _ _ _ => rfl
  go_enter Tryd.func22, Tryd.ntmps22
  go_wp2
  go_ret
  exact ⟨rfl, Bk.new _ _ _, (Below.refl _ _).alloc (Nat.le_refl _) _⟩

set_option maxRecDepth 100000 in
set_option maxHeartbeats 400000 in
theorem span_any {s : ByteArray} {p : UInt8 → Bool} (hS : IsSet s p) (t : ByteArray) (ht : t.size ≤ 1000000) {b : Nat} {w : World} (hb : SetAt w b s) :
    Calls Tryd.prog 21 #[.string t, setF b] w fun e w' => e = .returned (.int .i64 (spn p t.data.toList : Nat)) ∧ Dr w w' := by
  have HB := Lib.hid hb
  have HC := Lib.hid (fun (c : UInt8) (V : World) (h : SetAt V b s) => closure_any hS c h)
  have hl : t.data.toList.length = t.size := by simp
  unfold setF
  clear hb hS
  go_enter Tryd.func21, Tryd.ntmps21
  go_wp2_with fail
  go_loopw [8] (fun i wr => ∃ k : Nat, k ≤ t.size ∧ i = .int .i64 k ∧ Hid (Dr w wr) ∧ Hid (∀ j c, j < k → t.data.toList[j]? = some c → p c = true)) (fun i _ => t.size - (intOf i).toNat)
  case atStart => exact ⟨0, Nat.zero_le _, rfl, Lib.hid (Dr.refl _), Lib.hid (fun j c hj => absurd hj (Nat.not_lt_zero _))⟩
  case round =>
    obtain ⟨k, hk, rfl, HD, HR⟩ := hrel
    by_cases hlt : k < t.size
    · have HA := Lib.hid (in_at hlt)
      have hw := wrap_byte t[k]
      go_wp2_with fail
      refine (HC.out t[k] _ (HB.out.dr HD.out)).mono ?_
      rintro e w2 ⟨rfl, hd2⟩
      have HD2 := Lib.hid (HD.out.trans hd2)
      clear hd2
      cases hp : p t[k] with
      | true =>
        have HN : Hid (∀ j c, j < k + 1 → t.data.toList[j]? = some c → p c = true) := Lib.hid (fun j c hj hc => by
          rcases Nat.lt_or_ge j k with h | h
          · exact HR.out j c h hc
          · obtain rfl : j = k := by omega
            rw [HA.out] at hc
            injection hc with hc
            rw [← hc]
            exact hp)
        clear hp
        go_wp2
        go_roundw
        case rel => exact ⟨k + 1, hlt, by go_num, HD2, HN⟩
        case measure => simp [intOf]; omega
      | false =>
        have HE : Hid (spn p t.data.toList = k) := Lib.hid (spn_is HR.out (by omega) (fun c hc => by
          rw [HA.out] at hc
          injection hc with hc
          rw [← hc]
          exact hp))
        clear hp
        go_wp2
        go_ret
        exact ⟨ret_int (congrArg Int.ofNat HE.out.symm), HD2.out⟩
    · have HE : Hid (spn p t.data.toList = t.size) := Lib.hid (spn_is (n := t.size) (fun j c hj hc => HR.out j c (by omega) hc) (by omega) (fun c hc => by
        have := (List.getElem?_eq_some_iff.1 hc).1
        omega))
      go_wp2
      go_ret
      exact ⟨ret_int (congrArg Int.ofNat HE.out.symm), HD.out⟩

/-- the first byte is of a kind -/
def fst (p : UInt8 → Bool) (l : List UInt8) : Bool := match l with | [] => false | c :: _ => p c
theorem fst_at {p : UInt8 → Bool} {t : ByteArray} (h : 0 < t.size) : fst p t.data.toList = p t[0] := by
  have := in_at h
  unfold fst
  cases hl : t.data.toList with
  | nil => rw [hl] at this; cases this
  | cons c r => rw [hl] at this; injection this with this; rw [this]
theorem fst_nil {p : UInt8 → Bool} {t : ByteArray} (h : t.size = 0) : fst p t.data.toList = false := by
  have hl : t.data.toList.length = 0 := by simpa using h
  rw [List.length_eq_zero_iff.1 hl]
  rfl
theorem nil_no {t : ByteArray} (h : 0 < t.size) : t.toList.isEmpty = false := by
  rw [ByteArray.toList_eq]
  cases hl : t.data.toList with
  | nil => have : t.data.toList.length = t.size := by simp
           rw [hl] at this; simp at this; omega
  | cons c r => rfl
theorem nil_yes {t : ByteArray} (h : t.size = 0) : t.toList.isEmpty = true := by
  rw [ByteArray.toList_eq]
  have hl : t.data.toList.length = 0 := by simpa using h
  rw [List.length_eq_zero_iff.1 hl]
  rfl
set_option maxRecDepth 100000 in
set_option maxHeartbeats 1000000 in
theorem starts_any {s : ByteArray} {p : UInt8 → Bool} (hS : IsSet s p) (t : ByteArray) {b : Nat} {w : World} (hb : SetAt w b s) :
    Calls Tryd.prog 32 #[.string t, setF b] w fun e w' => e = .returned (.bool (fst p t.data.toList)) ∧ Dr w w' := by
  have HB := Lib.hid hb
  have HC := Lib.hid (fun (c : UInt8) (V : World) (h : SetAt V b s) => closure_any hS c h)
  unfold setF
  clear hb hS
  by_cases h0 : 0 < t.size
  · have HF := Lib.hid (fst_at (p := p) h0)
    have t0 := nil_no h0
    have hw := wrap_byte t[0]
    go_enter Tryd.func32, Tryd.ntmps32
    go_wp2_with fail
    refine (HC.out t[0] _ HB.out).mono ?_
    rintro e w2 ⟨rfl, hd2⟩
    go_wp2
    go_ret
    exact ⟨ret_bool HF.out.symm, hd2⟩
  · have h1 : t.size = 0 := by omega
    have HF := Lib.hid (fst_nil (p := p) h1)
    have t0 := nil_yes h1
    go_enter Tryd.func32, Tryd.ntmps32
    go_wp2
    go_ret
    exact ⟨ret_bool HF.out.symm, Dr.refl _⟩
end Go.Proofs.YtemdcgeopaphaaaDoor
