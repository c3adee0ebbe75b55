/-
  Contract of Scan, of the code. (gen_kk.py)
-/
import Derived.Test.YtemdcgeopaphaaaDoorKj
import Derived.Deep.AppendLies
namespace Go.Proofs.YtemdcgeopaphaaaDoor
open Go.RowKit

theorem Tryd.infoT : (Tryd.prog.info? 30).map (fun i => (i.zero, i.size, i.bytes)) = some (some (.agg #[.int .i64 0, .int .i64 0, .string ByteArray.empty, .int .i64 0]), 4, 40) := by kernel_rfl
theorem new_alloc {w : World} {cs : Array Value} {t : TypeId} {H : Nat} (h : w.heap.size = H) : ∀ (j : Nat) (u : Value), cs.toList[j]? = some u → (w.alloc (.cells cs t)).cell? ((⟨H, 0, none⟩ : Addr).add j) = some u := by
  subst h
  exact World.news_of_block (heap_alloc_new w _)
theorem own_formN {w : World} {base : Nat} {e : TypeId} {v : Value} {n size : Nat} {xs : List Value} (h : w.ownsRow base e size v n xs) : ∃ A c, v = .slice A n c ∧ n ≤ c ∧ c ≤ maxLen := by
  rcases h.2 with ⟨rfl, rfl⟩ | ⟨g, cap, cur, rfl, _, _, h1, h2, _⟩
  · exact ⟨none, 0, rfl, Nat.le_refl _, by unfold maxLen; omega⟩
  · exact ⟨_, cap, rfl, h1, h2⟩
theorem own_bel {w w' : World} {base size k : Nat} {e : TypeId} {v : Value} {xs : List Value} (h : w.ownsRow base e size v k xs) (hb : Below w.heap.size w w') : w'.ownsRow base e size v k xs := by
  refine ⟨h.1, ?_⟩
  rcases h.2 with h0 | ⟨g, cap, cur, hv, h1, hg, r⟩
  · exact .inl h0
  · exact .inr ⟨g, cap, cur, hv, h1, (hb.block g (Array.getElem?_eq_some_iff.1 hg).1).trans hg, r⟩
/-- the cells of a token -/
def tokC (k : Tok) : List Value := [.int .i64 k.kind, .int .i64 (k.off : Nat), strV k.text, .int .i64 k.int]
/-- what Scan hands back -/
def ScnR (r : SR) (w : World) (e : Ending) (w' : World) : Prop :=
  Below w.heap.size w w' ∧ ((∃ (l : List Tok) (A : Option Addr) (c : Nat), r = .ok l ∧ e = .returned (.tuple #[.slice A l.length c, .int .i64 0, .int .i64 0]) ∧ w'.ownsRow w.heap.size 30 4 (.slice A l.length c) l.length (l.flatMap tokC)) ∨
    ∃ (i : Nat) (x : Int), r = .err i x ∧ e = .returned (.tuple #[.slice none 0 0, .int .i64 (i : Nat), .int .i64 x]))
theorem scan_end {l : List UInt8} {f i : Nat} {o : List Tok} (h : l.length ≤ i) : scanG l (f + 1) i o = .ok (o ++ [endT l.length]) := by
  unfold scanG
  exact if_pos h
theorem scan_ok {l t : List UInt8} {f i n : Nat} {k v : Int} {o : List Tok} (h : i < l.length) (h1 : oneT (l.drop i) = .ok k t v n) : scanG l (f + 1) i o = scanG l f (skpT l (i + n)) (o ++ [⟨k, i, t, v⟩]) := by
  rw [scanG, if_neg (by omega), h1]
theorem scan_err {l : List UInt8} {f i : Nat} {e : Int} {o : List Tok} (h : i < l.length) (h1 : oneT (l.drop i) = .err e) : scanG l (f + 1) i o = .err i e := by
  rw [scanG, if_neg (by omega), h1]
theorem litG_ne {l : List UInt8} : ∀ {f i : Nat} {o : List UInt8} {e : Int}, litG l f i o = .err e → e ≠ 0
  | 0, _, _, e, h => by injection h with h; subst h; decide
  | f + 1, i, o, e, h => by
    unfold litG at h
    cases hi : l[i]? with
    | none => rw [hi] at h; injection h with h; subst h; decide
    | some c =>
      rw [hi] at h
      simp only at h
      split at h
      · split at h
        · injection h with h; subst h; decide
        · cases h
      · cases hc : chrC (l.drop i) with
        | err x => rw [hc] at h; injection h with h; subst h; exact chrC_ne hc
        | ok x m => rw [hc] at h; exact litG_ne h
theorem oneT_ne {l : List UInt8} {e : Int} (h : oneT l = .err e) : e ≠ 0 := by
  unfold oneT at h
  cases l with
  | nil => injection h with h; subst h; decide
  | cons c r =>
    simp only at h
    split at h
    · unfold wordT at h
      split at h
      · injection h with h; subst h; decide
      · cases h
    · split at h
      · unfold intT at h
        split at h
        · injection h with h; subst h; decide
        · split at h
          · cases h
          · injection h with h; subst h; decide
      · split at h
        · exact litG_ne h
        · unfold signT at h
          cases r with
          | nil =>
            simp only at h
            split at h
            · cases h
            · injection h with h; subst h; decide
          | cons b r2 =>
            simp only at h
            split at h
            · cases h
            · split at h
              · cases h
              · injection h with h; subst h; decide
set_option maxRecDepth 100000 in
set_option maxHeartbeats 8000000 in
theorem Scan_any (t : ByteArray) (w : World) (hz : t.size ≤ 1000000) (hE : NStd w) :
    Calls Tryd.prog 11 #[.string t] w (ScnR (scanT t.data.toList) w) := by
  obtain ⟨iT, hiT, hzT, hsT, hbT⟩ := info_parts Tryd.infoT
  have HE := Lib.hid hE
  have hl : t.data.toList.length = t.size := by simp
  clear hE
  by_cases hbig : 16384 < t.size
  · have hbi : (16384 : Int) < (t.size : Int) := by omega
    have HR : Hid (scanT t.data.toList = .err 0 6) := Lib.hid (by unfold scanT; rw [if_pos (by omega)])
    go_enter Tryd.func11, Tryd.ntmps11
    go_wp2_with fail
    go_ret3
    exact ⟨Below.refl _ _, .inr ⟨0, 6, HR.out, rfl⟩⟩
  have hbi : ¬ (16384 : Int) < (t.size : Int) := by omega
  have HR0 : Hid (scanT t.data.toList = scanG t.data.toList (t.size + 1) (skpT t.data.toList 0) []) := Lib.hid (by unfold scanT; rw [if_neg (by omega), hl])
  go_enter Tryd.func11, Tryd.ntmps11
  go_wp2_with fail
  refine (in_lit ⟨#[32, 9, 10]⟩ _).mono ?_
  rintro _ w1 ⟨b1, rfl, hs1, hb1⟩
  have HS1 := Lib.hid hs1
  have B1 := Lib.hid hb1
  clear hs1 hb1
  go_wp2_with fail
  refine (span_any set_blanks t hz HS1.out).mono ?_
  rintro _ w2 ⟨rfl, hd2⟩
  have B2 := Lib.hid (lnk B1.out hd2.below)
  have HK0 : Hid (skpT t.data.toList 0 = spn blkT t.data.toList) := Lib.hid (by unfold skpT; rw [List.drop_zero, Nat.zero_add])
  have hle0 : spn blkT t.data.toList ≤ t.size := by have := spn_le blkT t.data.toList; omega
  clear hd2
  generalize spn blkT t.data.toList = k0 at *
  go_wp2_with fail
  go_loopg [5, 6] (t.size + 1) (fun gh sv iv wr => ∃ (i m c : Nat) (A : Option Addr) (o : List Tok), sv = .slice A m c ∧ iv = .int .i64 i ∧ i ≤ t.size ∧ t.size + 1 ≤ gh + i ∧ m ≤ i ∧ Hid (o.length = m) ∧
    Hid (Below w.heap.size w wr) ∧ Hid (wr.ownsRow w.heap.size 30 4 (.slice A m c) m (o.flatMap tokC)) ∧ Hid (scanG t.data.toList gh i o = scanT t.data.toList))
  case atStart => exact ⟨k0, 0, 0, none, [], rfl, rfl, hle0, by omega, by omega, Lib.hid rfl, B2, Lib.hid (World.ownsRow_nil _ _ _ _), Lib.hid (by rw [HR0.out, HK0.out])⟩
  case round =>
    obtain ⟨i, m, c, A, o, rfl, rfl, hi, hg, hmi, HO, HB, HW, HR⟩ := hrel
    obtain ⟨f, rfl⟩ : ∃ f, gk = f + 1 := ⟨gk - 1, by omega⟩
    by_cases hlt : i < t.size
    · have hli : (i : Int) ≤ (t.size : Int) := by omega
      have HN := Lib.hid (next_any (t.extract i t.size) wr (by rw [ByteArray.size_extract]; omega) (by have := ext_size t i t.size; omega) (HE.out.on HB.out))
      rw [ext_from] at HN
      cases h1 : oneT (t.data.toList.drop i) with
      | err e =>
        have HRE : Hid (scanT t.data.toList = .err i e) := Lib.hid (by rw [← HR.out, scan_err (by omega) h1])
        have e0 : (e == 0) = false := beq_eq_false_iff_ne.2 (oneT_ne h1)
        have e0n : (e != 0) = true := bne_iff_ne.2 (oneT_ne h1)
        rw [h1] at HN
        clear h1
        go_wp2_with fail
        refine (HN.out).mono ?_
        rintro _ w3 ⟨rfl, hb3⟩
        have B3 := Lib.hid (lnk HB.out hb3)
        clear hb3 HN
        unfold tokV
        go_wp2_with fail
        go_ret3
        exact ⟨Below.alloc B3.out B3.out.size _, .inr ⟨i, e, HRE.out, rfl⟩⟩
      | ok k tx v n =>
        have hn := oneT_n h1
        have hn2 : i + n ≤ t.size := by
          have := hn.2
          rw [List.length_drop, hl] at this
          omega
        have hn1 := hn.1
        have HR2 : Hid (scanG t.data.toList f (skpT t.data.toList (i + n)) (o ++ [⟨k, i, tx, v⟩]) = scanT t.data.toList) := Lib.hid (by rw [← HR.out, scan_ok (by omega) h1])
        rw [h1] at HN
        clear h1 hn
        go_wp2_with fail
        refine (HN.out).mono ?_
        rintro _ w3 ⟨rfl, hb3⟩
        have B3 := Lib.hid (lnk HB.out hb3)
        have W3 := Lib.hid (own_bel HW.out hb3)
        clear hb3 HN
        obtain ⟨st, hst⟩ : ∃ st : ByteArray, strV tx = .string st := ⟨_, rfl⟩
        have HST := Lib.hid hst
        have hv : tokV (.ok k tx v n) = .tuple #[.agg #[.int .i64 k, .int .i64 0, .string st, .int .i64 v], .int .i64 (n : Nat), .int .i64 0] := by
          show Value.tuple #[.agg #[.int .i64 k, .int .i64 0, strV tx, .int .i64 v], .int .i64 (n : Nat), .int .i64 0] = _
          rw [hst]
        rw [hv]
        clear hst hv
        go_upto_region 10 with (fail)
        obtain ⟨w4, hw4⟩ : ∃ w4, w4 = w3.alloc (.cells #[.int .i64 k, .int .i64 (i : Nat), .string st, .int .i64 v] 30) := ⟨_, rfl⟩
        have hb4 : Below w3.heap.size w3 w4 := by rw [hw4]; exact (Below.refl _ _).alloc (Nat.le_refl _) _
        have K4 : Hid (Bk w4 w3.heap.size 30 #[.int .i64 k, .int .i64 (i : Nat), .string st, .int .i64 v]) := Lib.hid (by rw [hw4]; exact Bk.new _ _ _)
        have B4 := Lib.hid (lnk B3.out hb4)
        have W4 := Lib.hid (own_bel W3.out hb4)
        have SZ4 : Hid (w.heap.size ≤ w4.heap.size) := Lib.hid B4.out.size
        rw [← hw4]
        clear hw4 hb4
        have p0 := K4.out.cell 0
        have p1 := K4.out.cell 1
        have p2 := K4.out.cell 2
        have p3 := K4.out.cell 3
        have hm9 : m ≤ 1000000 := by omega
        go_wp2_with (at_builtin; refine wpList_append_own _ rfl (.tmp 34) (.tmp 36) 23 rfl w.heap.size 30 iT (.agg #[.int .i64 0, .int .i64 0, .string ByteArray.empty, .int .i64 0]) 4 40 Tryd.underlying23 hiT hzT hsT hbT rfl (by decide) _ (m) _ rfl (W4.out.alloc _) ⟨w4.heap.size, 0, none⟩ 1 1 [.int .i64 k, .int .i64 (i : Nat), .string st, .int .i64 v] rfl (by rfl) (new_alloc (cs := #[.int .i64 k, .int .i64 (i : Nat), .string st, .int .i64 v]) (t := 30) (by rfl)) (by simp [Value.oneCell']) (by unfold maxLen; omega) (by omega) (by have := SZ4.out; simp; omega) ?_)
        intro v5 w5 hown hgr _
        obtain ⟨A5, c5, rfl, _, _⟩ := own_formN hown
        have W5 : Hid (w5.ownsRow w.heap.size 30 4 (.slice A5 (m + 1) c5) (m + 1) ((o ++ [(⟨k, i, tx, v⟩ : Tok)]).flatMap tokC)) := Lib.hid (by
          rw [List.flatMap_append]
          simp only [List.flatMap_cons, List.flatMap_nil, List.append_nil]
          unfold tokC
          rw [HST.out]
          exact hown)
        have B5 : Hid (Below w.heap.size w w5) := Lib.hid (by
          have hA : Below w.heap.size w (w4.alloc (.cells #[.int .i64 k, .int .i64 (i : Nat), .string st, .int .i64 v] 30)) := Below.alloc B4.out B4.out.size _
          exact hA.grown hgr hA.size (fun b hb => (W4.out.lt b hb).1))
        have HO5 : Hid ((o ++ [(⟨k, i, tx, v⟩ : Tok)]).length = m + 1) := Lib.hid (by rw [List.length_append, HO.out]; rfl)
        clear hown hgr p0 p1 p2 p3 K4 B4 W4 B3 W3
        go_upto_region 12 with (fail)
        obtain ⟨q, hq⟩ : ∃ q, q = skpT t.data.toList (i + n) := ⟨_, rfl⟩
        have HQ : Hid (q = i + n + spn blkT (t.data.toList.drop (i + n))) := Lib.hid (by rw [hq]; rfl)
        have hqle : q ≤ t.size := by have := skpT_le t.data.toList (i + n) (by omega); rw [hq]; omega
        have hqge : i + n ≤ q := by rw [hq]; exact skpT_ge _ _
        rw [← hq] at HR2
        clear hq
        obtain ⟨z, hz0⟩ : ∃ z, z = i + n := ⟨_, rfl⟩
        have hzi : (i : Int) + (n : Int) = (z : Int) := by omega
        rw [← hz0] at HQ
        have hzs : (z : Int) ≤ (t.size : Int) := by omega
        obtain ⟨t1, ht1⟩ : ∃ t1, t.extract z t.size = t1 := ⟨_, rfl⟩
        have ht1z : t1.size ≤ 1000000 := by rw [← ht1]; have := ext_size t z t.size; omega
        obtain ⟨r, hr⟩ : ∃ r, r = spn blkT t1.data.toList := ⟨_, rfl⟩
        have hsum : (z : Int) + (r : Int) = (q : Int) := by have := HQ.out; rw [hr, ← ht1, ext_from]; omega
        have SP := Lib.hid (fun (b : Nat) (V : World) (hb : SetAt V b ⟨#[32, 9, 10]⟩) => span_any set_blanks t1 ht1z hb)
        rw [← hr] at SP
        have hwq : IntKind.i64.wrap (q : Int) = (q : Int) := by rw [IntKind.wrap_i64]; omega
        have HLE := Lib.hid (And.intro hqle (And.intro (show i + 1 ≤ q by omega) hi))
        clear hr hz0 hqge hqle hn2 hn1 ht1z hlt
        first | go_region_law (first
          | (go_simp; go_at_call 22; with_reducible refine (in_lit _ _).mono ?_; rintro _ wA ⟨bA, rfl, hsA, hbA⟩)
          | (go_simp; go_at_call 21; with_reducible refine (SP.out _ _ hsA).mono ?_; rintro _ wC ⟨rfl, hdC⟩)) | fail
        all_goals (
          have HF : Hid (Below w5.heap.size w5 wC) := Lib.hid (by first | exact lnk hbA hdC.below | exact lnk (undrew hbA) hdC.below)
          have B7 := Lib.hid (lnk B5.out HF.out)
          have W7 := Lib.hid (own_bel W5.out HF.out)
          go_wp2_with fail
          go_roundg f
          case measure => omega
          case rel => exact ⟨q, m + 1, c5, A5, _, rfl, by first | exact rfl | exact congrArg (Value.int IntKind.i64) hwq | exact congrArg (Value.int IntKind.i64) hsum, HLE.out.1, by have := HLE.out; omega, by have := HLE.out; omega, HO5, B7, W7, HR2⟩)
    · have HRE : Hid (scanT t.data.toList = .ok (o ++ [endT t.size])) := Lib.hid (by rw [← HR.out, scan_end (by omega), hl])
      have hli : ¬ (i : Int) < (t.size : Int) := by omega
      have SZ4 : Hid (w.heap.size ≤ wr.heap.size) := Lib.hid HB.out.size
      have hm9 : m ≤ 1000000 := by omega
      go_wp2_with (at_builtin; refine wpList_append_own _ rfl (.tmp 48) (.tmp 52) 23 rfl w.heap.size 30 iT (.agg #[.int .i64 0, .int .i64 0, .string ByteArray.empty, .int .i64 0]) 4 40 Tryd.underlying23 hiT hzT hsT hbT rfl (by decide) _ (m) _ rfl (HW.out.alloc _) ⟨wr.heap.size, 0, none⟩ 1 1 [.int .i64 0, .int .i64 (t.size : Nat), .string ⟨#[]⟩, .int .i64 0] rfl (by rfl) (new_alloc (cs := #[.int .i64 0, .int .i64 (t.size : Nat), .string ⟨#[]⟩, .int .i64 0]) (t := 30) (by rfl)) (by simp [Value.oneCell']) (by unfold maxLen; omega) (by omega) (by have := SZ4.out; simp; omega) ?_)
      intro v5 w5 hown hgr _
      obtain ⟨A5, c5, rfl, _, _⟩ := own_formN hown
      have W5 : Hid (w5.ownsRow w.heap.size 30 4 (.slice A5 (m + 1) c5) (m + 1) ((o ++ [endT t.size]).flatMap tokC)) := Lib.hid (by
        rw [List.flatMap_append]
        simp only [List.flatMap_cons, List.flatMap_nil, List.append_nil]
        exact hown)
      have B5 : Hid (Below w.heap.size w w5) := Lib.hid (by
        have hA : Below w.heap.size w (wr.alloc (.cells #[.int .i64 0, .int .i64 (t.size : Nat), .string ⟨#[]⟩, .int .i64 0] 30)) := Below.alloc HB.out HB.out.size _
        exact hA.grown hgr hA.size (fun b hb => (HW.out.lt b hb).1))
      have HO5 : Hid ((o ++ [endT t.size]).length = m + 1) := Lib.hid (by rw [List.length_append, HO.out]; rfl)
      clear hown hgr
      go_wp2_with fail
      go_ret3
      refine ⟨B5.out, .inl ⟨_, A5, c5, HRE.out, by rw [HO5.out]; rfl, by rw [HO5.out]; exact W5.out⟩⟩
end Go.Proofs.YtemdcgeopaphaaaDoor
