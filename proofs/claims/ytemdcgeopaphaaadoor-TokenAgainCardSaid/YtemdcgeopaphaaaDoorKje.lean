/-
  Decimal numbers and literals: decimal and Quote of the reference, Itoa. (gen_kje.py)
-/
import Derived.Test.YtemdcgeopaphaaaDoorKo
import Derived.Test.YtemdcgeopaphaaaDoorKu
import Derived.Test.YtemdcgeopaphaaaDoorNm
import Derived.Test.YtemdcgeopaphaaaDoorKw
namespace Go.Proofs.YtemdcgeopaphaaaDoor
open Go.RowKit Go.Sort

theorem dec_lenT (u : Nat) (h : u ≤ 9223372036854775808) : (Lib.decDigits u).length ≤ 19 := by
  rw [Lib.decDigits_length]
  exact nd_le 18 u (by omega)
theorem str_appT (a b : List UInt8) : (⟨a.toArray⟩ : ByteArray) ++ (⟨b.toArray⟩ : ByteArray) = ⟨(a ++ b).toArray⟩ := by
  apply ByteArray.ext
  rw [ByteArray.data_append]
  simp
theorem itoa_lenT {n : Int} (h0 : -9223372036854775808 ≤ n) (h1 : n ≤ 9223372036854775807) : (Lib.itoa n).length ≤ 20 := by
  unfold Lib.itoa
  split
  · rw [List.length_cons]; have := dec_lenT n.natAbs (by omega); omega
  · have := dec_lenT n.toNat (by omega); omega
theorem ret_strT {a b : List UInt8} (h : a = b) : Ending.returned (.string ⟨a.toArray⟩) = .returned (.string ⟨b.toArray⟩) := by rw [h]
theorem ext_oneT (W : ByteArray) (k : Nat) (h : k < W.size) : W.extract k (k + 1) = ⟨#[W[k]]⟩ := by
  have hd : k < W.data.size := h
  apply ByteArray.ext
  rw [ByteArray.data_extract]
  apply Array.ext
  · simp; omega
  · intro i h1 h2
    have : i = 0 := by simpa using h2
    subst this
    simp [ByteArray.getElem_eq_getElem_data]
theorem ext_dig : ∀ v : Nat, v < 10 → (⟨#[48, 49, 50, 51, 52, 53, 54, 55, 56, 57]⟩ : ByteArray).extract v (v + 1) = ⟨#[UInt8.ofNat (48 + v)]⟩ := by
  intro v hv
  rw [ext_oneT ⟨#[48, 49, 50, 51, 52, 53, 54, 55, 56, 57]⟩ v hv]
  have H : ((List.range 10).all fun n => (#[48, 49, 50, 51, 52, 53, 54, 55, 56, 57] : Array UInt8).getD n 0 == UInt8.ofNat (48 + n)) = true := by decide +kernel
  have h2 := beq_iff_eq.1 (List.all_eq_true.1 H v (List.mem_range.2 hv))
  rw [← h2, Array.getD_eq_getD_getElem?, Array.getElem?_eq_getElem (by simpa using hv)]
  rfl
theorem decT_small {u v : Nat} {s : List UInt8} (h : u < 10) (hv : v = u % 10) : Lib.decDigits u ++ s = UInt8.ofNat (48 + v) :: s := by
  rw [Lib.decDigits, dif_pos h, hv, Nat.mod_eq_of_lt h]; rfl
theorem decT_big {u v q : Nat} {s : List UInt8} (h : ¬ u < 10) (hv : v = u % 10) (hq : q = u / 10) : Lib.decDigits u ++ s = Lib.decDigits q ++ (UInt8.ofNat (48 + v) :: s) := by
  rw [Lib.decDigits, dif_neg h, hv, hq, List.append_assoc]; rfl
theorem decT_len {n u : Nat} {s : List UInt8} (hn : n ≤ 9223372036854775808) (h : Lib.decDigits n = Lib.decDigits u ++ s) : s.length ≤ 19 := by
  have := dec_lenT n hn
  rw [h, List.length_append] at this
  omega
theorem itoa_negT {n : Int} (h : n < 0) : Lib.itoa n = 45 :: Lib.decDigits n.natAbs := by unfold Lib.itoa; rw [if_pos h]
theorem itoa_posT {n : Int} (h : ¬ n < 0) : Lib.itoa n = Lib.decDigits n.natAbs := by unfold Lib.itoa; rw [if_neg h]; congr 1; omega
set_option maxRecDepth 100000 in
set_option maxHeartbeats 8000000 in
theorem rdecimal_any (n : Int) (w : World) (h0 : -9223372036854775808 ≤ n) (h1 : n ≤ 9223372036854775807) : Calls Tryd.prog 28 #[.int .i64 n] w fun e w' => e = .returned (.string ⟨(Lib.itoa n).toArray⟩) ∧ w' = w := by
  obtain ⟨N, hN⟩ : ∃ N, N = n.natAbs := ⟨_, rfl⟩
  have hN8 : N ≤ 9223372036854775808 := by omega
  by_cases hn : n < 0
  · have HI : Hid (Lib.itoa n = 45 :: Lib.decDigits N) := Lib.hid (by rw [hN]; exact itoa_negT hn)
    obtain rfl : n = -(N : Int) := by omega
    have hnp : 0 < N := by omega
    clear hN hn h0 h1
    go_enter Tryd.func28, Tryd.ntmps28
    go_wp2_with fail
    go_loopw [3, 4] (fun sv mv wr => ∃ (u : Nat) (s : List UInt8), u ≤ N ∧ mv = .int .i64 (-(u : Int)) ∧ sv = .string ⟨s.toArray⟩ ∧ s.length ≤ 19 ∧ Hid (Lib.decDigits N = Lib.decDigits u ++ s) ∧ wr = w) (fun _ mv _ => (intOf mv).natAbs)
    case atStart => exact ⟨N, [], Nat.le_refl _, rfl, rfl, by simp, Lib.hid (by simp), rfl⟩
    case round =>
      obtain ⟨u, s, hu, rfl, rfl, hs, HS, rfl⟩ := hrel
      obtain ⟨v, hv⟩ : ∃ v, v = u % 10 := ⟨_, rfl⟩
      obtain ⟨q, hq⟩ : ∃ q, q = u / 10 := ⟨_, rfl⟩
      have hv9 : v < 10 := by omega
      have hqu : q ≤ u := by omega
      have hr1 : Int.tmod (-(u : Int)) 10 = -(v : Int) := by rw [Int.neg_tmod, hv]; rfl
      have hr2 : Int.tdiv (-(u : Int)) 10 = -(q : Int) := by rw [Int.neg_tdiv, hq]; rfl
      have hx := ext_dig v hv9
      have ha := str_appT [UInt8.ofNat (48 + v)] s
      have hsz : ¬ 9223372036854775807 < 1 + s.length := by omega
      obtain ⟨c, hc⟩ : ∃ c, c = UInt8.ofNat (48 + v) := ⟨_, rfl⟩
      have HV := Lib.hid hv
      have HQ := Lib.hid hq
      have HC := Lib.hid hc
      rw [← hc] at hx ha
      clear hc
      by_cases hsm : u < 10
      · have HD : Hid (Lib.decDigits N = c :: s) := Lib.hid (by rw [HS.out, HC.out]; exact decT_small hsm HV.out)
        have hq0 : q = 0 := by omega
        subst hq0
        clear hv hq
        rcases Nat.eq_zero_or_pos v with hv0 | hv0
        · have gz : ¬ (-(v : Int)) < 0 := by omega
          subst hv0
          go_wp2_with fail
          go_ret
          exact ⟨by rw [HI.out, HD.out]; exact congrArg (fun x => Ending.returned (.string x)) ((str_appT [45] _).trans rfl), rfl⟩
        · have gz : (-(v : Int)) < 0 := by omega
          go_wp2_with fail
          go_ret
          exact ⟨by rw [HI.out, HD.out]; exact congrArg (fun x => Ending.returned (.string x)) ((str_appT [45] _).trans rfl), rfl⟩
      · have HD : Hid (Lib.decDigits N = Lib.decDigits q ++ (c :: s)) := Lib.hid (by rw [HS.out, HC.out]; exact decT_big hsm HV.out HQ.out)
        have hq0 : 0 < q := by omega
        have hql : q < u := by omega
        have HSL : Hid ((c :: s).length ≤ 19) := Lib.hid (decT_len hN8 HD.out)
        have gq : (-(q : Int) == 0) = false := by rw [beq_eq_false_iff_ne]; omega
        clear hv hq
        rcases Nat.eq_zero_or_pos v with hv0 | hv0
        · have gz : ¬ (-(v : Int)) < 0 := by omega
          subst hv0
          go_wp2_with fail
          go_roundw
          case rel => exact ⟨q, c :: s, by omega, by go_num, rfl, HSL.out, HD, trivial⟩
          case measure => simp [intOf]; omega
        · have gz : (-(v : Int)) < 0 := by omega
          go_wp2_with fail
          go_roundw
          case rel => exact ⟨q, c :: s, by omega, by go_num, rfl, HSL.out, HD, trivial⟩
          case measure => simp [intOf]; omega
  · have HI : Hid (Lib.itoa n = Lib.decDigits N) := Lib.hid (by rw [hN]; exact itoa_posT hn)
    obtain rfl : n = (N : Int) := by omega
    have hN7 : N ≤ 9223372036854775807 := by omega
    clear hN hn h0 h1
    go_enter Tryd.func28, Tryd.ntmps28
    go_wp2_with fail
    go_loopw [3, 4] (fun sv mv wr => ∃ (u : Nat) (s : List UInt8), u ≤ N ∧ mv = .int .i64 ((u : Int)) ∧ sv = .string ⟨s.toArray⟩ ∧ s.length ≤ 19 ∧ Hid (Lib.decDigits N = Lib.decDigits u ++ s) ∧ wr = w) (fun _ mv _ => (intOf mv).natAbs)
    case atStart => exact ⟨N, [], Nat.le_refl _, rfl, rfl, by simp, Lib.hid (by simp), rfl⟩
    case round =>
      obtain ⟨u, s, hu, rfl, rfl, hs, HS, rfl⟩ := hrel
      obtain ⟨v, hv⟩ : ∃ v, v = u % 10 := ⟨_, rfl⟩
      obtain ⟨q, hq⟩ : ∃ q, q = u / 10 := ⟨_, rfl⟩
      have hv9 : v < 10 := by omega
      have hqu : q ≤ u := by omega
      have hr1 : Int.tmod ((u : Int)) 10 = (v : Int) := by rw [hv]; rfl
      have hr2 : Int.tdiv ((u : Int)) 10 = (q : Int) := by rw [hq]; rfl
      have hx := ext_dig v hv9
      have ha := str_appT [UInt8.ofNat (48 + v)] s
      have hsz : ¬ 9223372036854775807 < 1 + s.length := by omega
      obtain ⟨c, hc⟩ : ∃ c, c = UInt8.ofNat (48 + v) := ⟨_, rfl⟩
      have HV := Lib.hid hv
      have HQ := Lib.hid hq
      have HC := Lib.hid hc
      rw [← hc] at hx ha
      clear hc
      by_cases hsm : u < 10
      · have HD : Hid (Lib.decDigits N = c :: s) := Lib.hid (by rw [HS.out, HC.out]; exact decT_small hsm HV.out)
        have hq0 : q = 0 := by omega
        subst hq0
        clear hv hq
        have gz : ¬ (v : Int) < 0 := by omega
        go_wp2_with fail
        go_ret
        exact ⟨by rw [HI.out, HD.out]; rfl, rfl⟩
      · have HD : Hid (Lib.decDigits N = Lib.decDigits q ++ (c :: s)) := Lib.hid (by rw [HS.out, HC.out]; exact decT_big hsm HV.out HQ.out)
        have hq0 : 0 < q := by omega
        have hql : q < u := by omega
        have HSL : Hid ((c :: s).length ≤ 19) := Lib.hid (decT_len hN8 HD.out)
        have gq : ((q : Int) == 0) = false := by rw [beq_eq_false_iff_ne]; omega
        clear hv hq
        have gz : ¬ (v : Int) < 0 := by omega
        go_wp2_with fail
        go_roundw
        case rel => exact ⟨q, c :: s, by omega, by go_num, rfl, HSL.out, HD, trivial⟩
        case measure => simp [intOf]; omega
theorem flat_takeT {s : ByteArray} {k : Nat} (h : k < s.size) : (s.data.toList.take (k + 1)).flatMap escB = (s.data.toList.take k).flatMap escB ++ escB s[k] := by
  rw [List.take_succ_eq_append_getElem (by simpa using h), List.flatMap_append]
  simp
  rfl
theorem escT_1 {c : UInt8} (h : c = 34 ∨ c = 92) : escB c = [92, c] := by unfold escB; rw [if_pos h]
theorem escT_p {c : UInt8} (h1 : ¬(c = 34 ∨ c = 92)) (h2 : c ≠ 10) (h3 : c ≠ 9) (hp : 32 ≤ c.toNat ∧ c.toNat ≤ 126) : escB c = [c] := by
  have : plnT c = true := pln_yes hp.1 hp.2 (fun e => h1 (.inl (eq_nat.2 e))) (fun e => h1 (.inr (eq_nat.2 e)))
  unfold escB
  rw [if_neg h1, if_neg h2, if_neg h3, if_neg (by rw [this]; decide)]
theorem escT_x {c : UInt8} (h1 : ¬(c = 34 ∨ c = 92)) (h2 : c ≠ 10) (h3 : c ≠ 9) (hp : ¬(32 ≤ c.toNat ∧ c.toNat ≤ 126)) : escB c = [92, 120, hxc (c.toNat / 16), hxc (c.toNat % 16)] := by
  unfold escB
  rw [if_neg h1, if_neg h2, if_neg h3, if_pos (pln_out hp)]
theorem ext_hex (n : Nat) (hn : n < 16) : (⟨#[48, 49, 50, 51, 52, 53, 54, 55, 56, 57, 97, 98, 99, 100, 101, 102]⟩ : ByteArray).extract n (n + 1) = ⟨#[hxc n]⟩ := by
  rw [ext_oneT ⟨#[48, 49, 50, 51, 52, 53, 54, 55, 56, 57, 97, 98, 99, 100, 101, 102]⟩ n hn, hx_char n hn]
set_option maxHeartbeats 8000000 in
set_option maxRecDepth 100000 in
theorem rQuote_any (s : ByteArray) (w : World) (hs : s.size ≤ 100000) : Calls Tryd.prog 19 #[.string s] w fun e w' => e = .returned (.string ⟨(quoL s.data.toList).toArray⟩) ∧ Dr w w' := by
  have hl : s.data.toList.length = s.size := by simp
  go_enter Tryd.func19, Tryd.ntmps19
  go_wp2_with fail
  go_loopw [4, 5] (fun o i wr => ∃ k : Nat, k ≤ s.size ∧ i = .int .i64 k ∧ ∃ L : List UInt8, o = .string ⟨L.toArray⟩ ∧ L.length ≤ 4 * k + 1 ∧ Hid (L = 34 :: (s.data.toList.take k).flatMap escB) ∧ Hid (Dr w wr)) (fun _ i _ => s.size - (intOf i).toNat)
  case atStart => exact ⟨0, Nat.zero_le _, rfl, [34], rfl, by simp, Lib.hid (by simp), Lib.hid (Dr.refl _)⟩
  case round =>
    obtain ⟨k, hk, rfl, L, rfl, hL, HL, HD⟩ := hrel
    by_cases hlt : k < s.size
    · have hx : s.extract k (k + 1) = ⟨#[s[k]]⟩ := ext_oneT s k hlt
      have hb : s[k].toNat < 256 := s[k].toNat_lt
      have HF := Lib.hid (flat_takeT hlt)
      have z1 : ¬ 9223372036854775807 < L.length + 1 := by omega
      have z2 : ¬ 9223372036854775807 < L.length + 1 + 1 := by omega
      have z3 : ¬ 9223372036854775807 < L.length + 2 := by omega
      have z4 : ¬ 9223372036854775807 < L.length + 2 + 1 := by omega
      have z5 : ¬ 9223372036854775807 < L.length + 2 + 1 + 1 := by omega
      by_cases h34 : s[k].toNat = 34
      · skip
        have HE : Hid (escB s[k] = [92, s[k]]) := Lib.hid (escT_1 (.inl (eq_nat.2 h34)))
        have t34 : ((s[k].toNat : Int) == 34) = true := by rw [beq_iff_eq]; omega
        go_wp2_with fail
        go_roundw
        case rel => exact ⟨k + 1, by omega, by go_num, L ++ ([92] ++ [s[k]]), by rw [← List.append_assoc, ← str_appT, ← str_appT], by simp; omega, Lib.hid (by rw [HL.out, HF.out, HE.out]; simp), HD⟩
        case measure => simp [intOf]; omega
      by_cases h92 : s[k].toNat = 92
      · skip
        have HE : Hid (escB s[k] = [92, s[k]]) := Lib.hid (escT_1 (.inr (eq_nat.2 h92)))
        have t34 : ((s[k].toNat : Int) == 34) = false := by rw [beq_eq_false_iff_ne]; omega
        have t92 : ((s[k].toNat : Int) == 92) = true := by rw [beq_iff_eq]; omega
        go_wp2_with fail
        go_roundw
        case rel => exact ⟨k + 1, by omega, by go_num, L ++ ([92] ++ [s[k]]), by rw [← List.append_assoc, ← str_appT, ← str_appT], by simp; omega, Lib.hid (by rw [HL.out, HF.out, HE.out]; simp), HD⟩
        case measure => simp [intOf]; omega
      have hq : ¬(s[k] = 34 ∨ s[k] = 92) := by rintro (e | e) <;> (rw [e] at h34 h92; first | exact h34 rfl | exact h92 rfl)
      by_cases h10 : s[k].toNat = 10
      · skip
        have HE : Hid (escB s[k] = [92, 110]) := Lib.hid (by rw [show s[k] = 10 from eq_nat.2 h10]; rfl)
        have t34 : ((s[k].toNat : Int) == 34) = false := by rw [beq_eq_false_iff_ne]; omega
        have t92 : ((s[k].toNat : Int) == 92) = false := by rw [beq_eq_false_iff_ne]; omega
        have t10 : ((s[k].toNat : Int) == 10) = true := by rw [beq_iff_eq]; omega
        go_wp2_with fail
        go_roundw
        case rel => exact ⟨k + 1, by omega, by go_num, L ++ [92, 110], by rw [← str_appT], by simp; omega, Lib.hid (by rw [HL.out, HF.out, HE.out]; simp), HD⟩
        case measure => simp [intOf]; omega
      by_cases h9 : s[k].toNat = 9
      · skip
        have HE : Hid (escB s[k] = [92, 116]) := Lib.hid (by rw [show s[k] = 9 from eq_nat.2 h9]; rfl)
        have t34 : ((s[k].toNat : Int) == 34) = false := by rw [beq_eq_false_iff_ne]; omega
        have t92 : ((s[k].toNat : Int) == 92) = false := by rw [beq_eq_false_iff_ne]; omega
        have t10 : ((s[k].toNat : Int) == 10) = false := by rw [beq_eq_false_iff_ne]; omega
        have t9 : ((s[k].toNat : Int) == 9) = true := by rw [beq_iff_eq]; omega
        go_wp2_with fail
        go_roundw
        case rel => exact ⟨k + 1, by omega, by go_num, L ++ [92, 116], by rw [← str_appT], by simp; omega, Lib.hid (by rw [HL.out, HF.out, HE.out]; simp), HD⟩
        case measure => simp [intOf]; omega
      have hq10 : s[k] ≠ 10 := fun e => h10 (by rw [e]; rfl)
      have hq9 : s[k] ≠ 9 := fun e => h9 (by rw [e]; rfl)
      by_cases hp : 32 ≤ s[k].toNat ∧ s[k].toNat ≤ 126
      · have u1 : (32 : Int) ≤ (s[k].toNat : Int) := by omega
        have u2 : (s[k].toNat : Int) ≤ 126 := by omega
        have HE : Hid (escB s[k] = [s[k]]) := Lib.hid (escT_p hq hq10 hq9 hp)
        clear hp
        have t34 : ((s[k].toNat : Int) == 34) = false := by rw [beq_eq_false_iff_ne]; omega
        have t92 : ((s[k].toNat : Int) == 92) = false := by rw [beq_eq_false_iff_ne]; omega
        have t10 : ((s[k].toNat : Int) == 10) = false := by rw [beq_eq_false_iff_ne]; omega
        have t9 : ((s[k].toNat : Int) == 9) = false := by rw [beq_eq_false_iff_ne]; omega
        go_wp2_with fail
        go_roundw
        case rel => exact ⟨k + 1, by omega, by go_num, L ++ [s[k]], by rw [← str_appT], by simp; omega, Lib.hid (by rw [HL.out, HF.out, HE.out]; simp), HD⟩
        case measure => simp [intOf]; omega
      · have HE := Lib.hid (escT_x hq hq10 hq9 hp)
        have hd1 : s[k].toNat / 16 < 16 := by omega
        have hd2 : s[k].toNat % 16 < 16 := by omega
        have q1 : Int.tdiv (s[k].toNat : Int) 16 = ((s[k].toNat / 16 : Nat) : Int) := rfl
        have q2 : Int.tmod (s[k].toNat : Int) 16 = ((s[k].toNat % 16 : Nat) : Int) := rfl
        have q3 : (s[k].toNat : Int) / 16 = ((s[k].toNat / 16 : Nat) : Int) := rfl
        have q4 : (s[k].toNat : Int) % 16 = ((s[k].toNat % 16 : Nat) : Int) := rfl
        have X1 := ext_hex (s[k].toNat / 16) hd1
        have X2 := ext_hex (s[k].toNat % 16) hd2
        generalize s[k].toNat / 16 = a at *
        generalize s[k].toNat % 16 = b at *
        have t34 : ((s[k].toNat : Int) == 34) = false := by rw [beq_eq_false_iff_ne]; omega
        have t92 : ((s[k].toNat : Int) == 92) = false := by rw [beq_eq_false_iff_ne]; omega
        have t10 : ((s[k].toNat : Int) == 10) = false := by rw [beq_eq_false_iff_ne]; omega
        have t9 : ((s[k].toNat : Int) == 9) = false := by rw [beq_eq_false_iff_ne]; omega
        rcases (by omega : s[k].toNat < 32 ∨ (¬ s[k].toNat < 32 ∧ 126 < s[k].toNat)) with u1 | ⟨u1, u2⟩
        · have v1 : ¬ (32 : Int) ≤ (s[k].toNat : Int) := by omega
          clear hp
          go_wp2_with fail
          go_region
          all_goals (
            go_wp2
            go_roundw
            case rel => exact ⟨k + 1, by omega, by go_num, L ++ ([92, 120] ++ ([hxc a] ++ [hxc b])), by rw [← List.append_assoc, ← List.append_assoc, ← str_appT, ← str_appT, ← str_appT], by simp; omega, Lib.hid (by rw [HL.out, HF.out, HE.out]; simp), Lib.hid (HD.out.trans (Dr.drew _))⟩
            case measure => simp [intOf]; omega)
        · have v1 : (32 : Int) ≤ (s[k].toNat : Int) := by omega
          have v2 : ¬ (s[k].toNat : Int) ≤ 126 := by omega
          clear hp
          go_wp2_with fail
          go_region
          all_goals (
            go_wp2
            go_roundw
            case rel => exact ⟨k + 1, by omega, by go_num, L ++ ([92, 120] ++ ([hxc a] ++ [hxc b])), by rw [← List.append_assoc, ← List.append_assoc, ← str_appT, ← str_appT, ← str_appT], by simp; omega, Lib.hid (by rw [HL.out, HF.out, HE.out]; simp), Lib.hid (HD.out.trans (Dr.drew _))⟩
            case measure => simp [intOf]; omega)
    · have HE : Hid (34 :: (s.data.toList.flatMap escB ++ [34]) = L ++ [34]) := Lib.hid (by rw [HL.out, List.take_of_length_le (by rw [hl]; omega)]; rfl)
      have z1 : ¬ 9223372036854775807 < L.length + 1 := by omega
      go_wp2_with fail
      go_ret
      exact ⟨by
        show _ = Ending.returned (.string ⟨(34 :: (s.data.toList.flatMap escB ++ [34])).toArray⟩)
        rw [HE.out]
        exact congrArg (fun x => Ending.returned (.string x)) (str_appT L [34]), HD.out⟩
end Go.Proofs.YtemdcgeopaphaaaDoor
