/-
  Map of the reference. (Written by gen_rm.py.)
-/
import Derived.Test.YtidinbeanaifmaaVwt
import Derived.Test.YtidinbeanaifmaaVge
import Derived.Test.YtidinbeanaifmaaVsr
namespace Go.Proofs.Ytidinbeanaifmaa
open Go.RowKit

theorem zip_pairs : ∀ ps : List (ByteArray × VT), (ps.map (·.1)).zip (ps.map (·.2)) = ps
  | [] => rfl
  | p :: r => by rw [List.map_cons, List.map_cons, List.zip_cons_cons, zip_pairs r]
theorem findK_has (ps : List (ByteArray × VT)) (key : ByteArray) : (findK ps key).isSome = hasK ps key := by
  unfold findK hasK
  rw [Option.isSome_map]
  induction ps with
  | nil => rfl
  | cons p r ih =>
    rw [List.find?_cons, List.any_cons]
    cases decide (p.1 = key) with
    | true => rfl
    | false => rw [Bool.false_or]; exact ih
theorem With_lies {ps : List (ByteArray × VT)} {x : VT} {v u : Value} {key : ByteArray} {w : World} {R : Nat → Prop} (hR : ∀ b, R b → b < w.heap.size) (hv : Lies w R (mapT ps) v) (hx : Lies w R x u) (hkey : key.size ≤ 9223372036854775807) (hn : ps.length ≤ 1000000) :
    Calls Try.prog 63 #[v, .string key, u] w (MakesR R (mapT (withL key x ps)) w) := by
  obtain ⟨kx, ix, tx, D, nx, cx, D', mx, dx, rfl⟩ := hx.formV
  unfold mapT at hv
  obtain ⟨A, c, A', c', rfl, _, _, _, h1, h2, hL, h3, h4, hS⟩ := hv.open
  have h := refWith_any 5 0 ⟨#[]⟩ (ps.map (·.2)) (ps.map (·.1)) A c A' c' key x kx ix tx D nx cx D' mx dx w R hR hL hS (by rw [List.length_map, List.length_map]; exact Nat.le_refl _) h1 h2 h3 h4 (by rw [List.length_map]; exact hn) hkey hx
  rw [zip_pairs] at h
  exact h
theorem get_lies {ps : List (ByteArray × VT)} {v : Value} {key : ByteArray} {w : World} (hv : Lies w (Lo w) (mapT ps) v) :
    Calls Try.prog 62 #[v, .string key] w (MakesLB ((findK ps key).getD nullT) (hasK ps key) w) := by
  unfold mapT at hv
  obtain ⟨A, c, A', c', rfl, _, _, _, h1, h2, hL, h3, h4, hS⟩ := hv.open
  have h := refget_any 5 0 ⟨#[]⟩ (ps.map (·.2)) (ps.map (·.1)) A c A' c' key w hL hS h1 h2 h3 h4
  rw [zip_pairs, findK_has] at h
  exact h
theorem sizes_perm {l l' : List VT} (h : l.Perm l') : sizes l = sizes l' := by
  induction h with
  | nil => rfl
  | cons x _ ih => simp only [sizes, ih]
  | swap x y l => simp only [sizes]; omega
  | trans _ _ ih1 ih2 => exact ih1.trans ih2
theorem zip_snd {keys : List ByteArray} {items : List VT} (h : keys.length = items.length) : (keys.zip items).map (·.2) = items := by
  have := List.map_snd_zip (l₁ := keys) (l₂ := items) (by omega)
  exact this
/-- what is there but for two blocks -/
def Off1 (h : Nat) (w : World) : Nat → Prop := fun b => b < w.heap.size ∧ b ≠ h ∧ b ≠ h + 1
theorem Off1.below {h : Nat} {w w' : World} {x : VT} {v : Value} (hl : Lies w (Off1 h w) x v) (hb : Below w.heap.size w w') : Lies w' (Off1 h w') x v :=
  hl.keep (fun _ hp => hb.cell hp.1) (fun _ hp => ⟨Nat.lt_of_lt_of_le hp.1 hb.size, hp.2⟩)
theorem Off1.lo {h : Nat} {w : World} {x : VT} {v : Value} (hl : Lies w (Off1 h w) x v) : Lies w (Lo w) x v := hl.keep (fun _ _ => rfl) (fun _ hp => hp.1)
theorem Off1.of {h : Nat} {w w' : World} {x : VT} {v : Value} (hl : Lies w (Lo w) x v) (hh : w.heap.size ≤ h) (hb : Below w.heap.size w w') : Lies w' (Off1 h w') x v :=
  hl.keep (fun _ hp => hb.cell hp) (fun b hp => by have : b < w.heap.size := hp; have := hb.size; exact ⟨by omega, by omega, by omega⟩)
theorem Off1.made {h : Nat} {w w' : World} {x : VT} {v : Value} (hl : Lies w' (fun b => Off1 h w b ∨ (w.heap.size ≤ b ∧ b < w'.heap.size)) x v) (hh : h + 1 < w.heap.size) (hb : w.heap.size ≤ w'.heap.size) : Lies w' (Off1 h w') x v :=
  hl.keep (fun _ _ => rfl) (fun b hp => by
    rcases hp with hp | hp
    · exact ⟨Nat.lt_of_lt_of_le hp.1 hb, hp.2⟩
    · exact ⟨hp.2, by omega, by omega⟩)
theorem Off1.move {h : Nat} {w w' : World} {x : VT} {v : Value} (hl : Lies w (Off1 h w) x v) (hs : ∀ b, b ≠ h → w'.heap[b]? = w.heap[b]?) (hz : w'.heap.size = w.heap.size) : Lies w' (Lo w') x v :=
  hl.keep (fun p hp => World.cell?_of_block (hs _ hp.2.1)) (fun b hp => show b < w'.heap.size by rw [hz]; exact hp.1)
theorem Off1.move1 {h : Nat} {w w' : World} {x : VT} {v : Value} (hl : Lies w (Off1 h w) x v) (hs : ∀ b, b ≠ h + 1 → w'.heap[b]? = w.heap[b]?) (hz : w'.heap.size = w.heap.size) : Lies w' (Off1 h w') x v :=
  hl.keep (fun p hp => World.cell?_of_block (hs _ hp.2.2)) (fun b hp => ⟨by rw [hz]; exact hp.1, hp.2⟩)
/-- a value that only reads below the heap's end, and an error -/
def MakesLE (x : VT) (r : Int) (w : World) (e : Ending) (w' : World) : Prop := ∃ v, e = .returned (.tuple #[v, .int .i64 r]) ∧ Lies w' (Lo w') x v ∧ Below w.heap.size w w'
def RefMapSpec (keys : List ByteArray) (items : List VT) (y : VT) (r : Int) : Prop :=
  (keys.length ≠ items.length ∧ y = nullT ∧ r = 6) ∨ (keys.length = items.length ∧ ((goM [] (keys.zip items) = none ∧ y = nullT ∧ r = 9) ∨ ∃ acc, goM [] (keys.zip items) = some acc ∧ y = limT (mapT acc) ∧ r = limE (mapT acc)))

set_option maxRecDepth 100000 in
set_option maxHeartbeats 16000000 in
theorem refMap_any (A : Option Addr) (c : Nat) (keys : List ByteArray) (D : Option Addr) (e : Nat) (items : List VT) (w : World) (hS : LiesS w (Lo w) A keys) (hL : LiesL w (Lo w) D 0 items)
    (_ : keys.length ≤ c) (_ : items.length ≤ e) (hk : keys.length ≤ 1000000) (hsz : sizes items ≤ 1000000000) :
    Calls Try.prog 14 #[.slice A keys.length c, .slice D items.length e] w fun en w' => ∃ y r, RefMapSpec keys items y r ∧ MakesLE y r w en w' := by
  by_cases hlen : keys.length = items.length
  · have t0 : ((keys.length : Int) != (items.length : Int)) = false := by rw [hlen]; simp
    obtain ⟨w2, hw2⟩ : ∃ w2, w2 = (w.alloc (.cells #[.int .i64 0, .int .i64 0, .string ⟨#[]⟩, .slice none 0 0, .slice none 0 0] 26)).alloc (.cells #[.int .i64 5, .int .i64 0, .string ⟨#[]⟩, .slice none 0 0, .slice none 0 0] 26) := ⟨_, rfl⟩
    have B2 : Hid (Below w.heap.size w w2) := Lib.hid (by rw [hw2]; exact (below_one _ _).trans (Below.alloc (Below.refl _ _) (by simp) _))
    have R2 : Hid (Bk w2 w.heap.size 26 #[.int .i64 0, .int .i64 0, .string ⟨#[]⟩, .slice none 0 0, .slice none 0 0]) := Lib.hid (by rw [hw2]; exact (Bk.new _ _ _).alloc _)
    have O2 : Hid (Bk w2 (w.heap.size + 1) 26 #[.int .i64 5, .int .i64 0, .string ⟨#[]⟩, .slice none 0 0, .slice none 0 0]) := Lib.hid (by rw [hw2]; have := Bk.new (w.alloc (.cells #[.int .i64 0, .int .i64 0, .string ⟨#[]⟩, .slice none 0 0, .slice none 0 0] 26)) 26 #[.int .i64 5, .int .i64 0, .string ⟨#[]⟩, .slice none 0 0, .slice none 0 0]; simpa using this)
    have HL := Lib.hid hL
    have HS := Lib.hid hS
    have HLN := Lib.hid hlen
    have HSZ := Lib.hid hsz
    have HW := Lib.hid hw2
    clear hw2 hL hS hsz hlen
    go_enter Try.func14, Try.ntmps14
    go_wp2_with fail
    rw [← HW.out]
    go_loopg [7] keys.length (fun gh iv wr => ∃ (j : Nat) (acc : List (ByteArray × VT)) (ko io : Int) (tz : ByteArray) (AO : Option Addr) (no co : Nat) (AO' : Option Addr) (mo do' : Nat), j ≤ keys.length ∧ gh = keys.length - j ∧ iv = .int .i64 j ∧
      Hid (goM [] ((keys.zip items).take j) = some acc) ∧ Hid (Bk wr (w.heap.size + 1) 26 #[.int .i64 ko, .int .i64 io, .string tz, .slice AO no co, .slice AO' mo do']) ∧ Hid (Lies wr (Off1 w.heap.size wr) (mapT acc) (.agg #[.int .i64 ko, .int .i64 io, .string tz, .slice AO no co, .slice AO' mo do'])) ∧ Hid (Bk wr w.heap.size 26 #[.int .i64 0, .int .i64 0, .string ⟨#[]⟩, .slice none 0 0, .slice none 0 0]) ∧ Hid (Below w.heap.size w wr))
    case atStart =>
      refine ⟨0, [], 5, 0, ⟨#[]⟩, none, 0, 0, none, 0, 0, by omega, rfl, rfl, Lib.hid rfl, O2, Lib.hid ?_, R2, B2⟩
      unfold mapT
      rw [Lies]
      exact ⟨none, 0, none, 0, rfl, by omega, by omega, by decide, Nat.le_refl _, by omega, LiesL.none_, Nat.le_refl _, by omega, LiesS.none_⟩
    case round =>
      obtain ⟨j, acc, ko, io, tz, AO, no, co, AO', mo, do', hjn, rfl, rfl, HG, HO, HA, HR, HB⟩ := hrel
      have hal : acc.length = j := by
        have h := (goM_some _ _ _ List.Pairwise.nil HG.out).2.length_eq
        rw [List.nil_append, List.length_take, List.length_zip] at h
        have := HLN.out
        omega
      by_cases hlt : j < keys.length
      · have hji : j < items.length := by have := HLN.out; omega
        have g1 := List.getElem?_eq_getElem (l := keys) (i := j) hlt
        have g2 := List.getElem?_eq_getElem (l := items) (i := j) hji
        obtain ⟨hkz, gk, ok, rfl, hgk, ek⟩ := HS.out j _ g1
        obtain ⟨gi, oi, k', i', t', E, n1, c1, E', n2, c2, rfl, hgi, e0, e1, e2, e3, e4, hy⟩ := (HL.out).at_ g2
        have htk : (keys.zip items).take (j + 1) = (keys.zip items).take j ++ [(keys[j]'hlt, items[j]'hji)] := by
          rw [List.take_add_one, (List.getElem?_zip_eq_some (z := (keys[j]'hlt, items[j]'hji))).2 ⟨g1, g2⟩]
          rfl
        have hgo := goM_snoc (keys[j]'hlt, items[j]'hji) ((keys.zip items).take j) []
        have hcut0 := List.take_append_drop (j + 1) (keys.zip items)
        rw [← htk, HG.out, Option.bind_some] at hgo
        generalize keys[j]'hlt = kj at *
        generalize items[j]'hji = y at *
        have HGO := Lib.hid hgo
        have HTD := Lib.hid hcut0
        have HJ : Hid (j + 1 ≤ keys.length) := Lib.hid hlt
        have HKZ := Lib.hid hkz
        rw [Nat.zero_add] at e0 e1 e2 e3 e4
        rw [← HB.out.cell (p := ⟨gk, ok + j, none⟩) hgk] at ek
        have cc := fun (q : Nat) => HB.out.cell (p := ⟨gi, q, none⟩) hgi
        rw [← cc] at e0 e1 e2 e3 e4
        have HY : Hid (∀ W, Below w.heap.size w W → Lies W (Off1 w.heap.size W) y (.agg #[.int .i64 k', .int .i64 i', .string t', .slice E n1 c1, .slice E' n2 c2])) := Lib.hid (fun W hb => Off1.of hy (Nat.le_refl _) hb)
        have HGT : Hid (∀ W, Below wr.heap.size wr W → Calls Try.prog 62 #[.agg #[.int .i64 ko, .int .i64 io, .string tz, .slice AO no co, .slice AO' mo do'], .string kj] W (MakesLB ((findK acc kj).getD nullT) (hasK acc kj) W)) := Lib.hid (fun W hb => get_lies (Off1.lo (Off1.below HA.out hb)))
        have HWT : Hid (∀ W, Below wr.heap.size wr W → Calls Try.prog 63 #[.agg #[.int .i64 ko, .int .i64 io, .string tz, .slice AO no co, .slice AO' mo do'], .string kj, .agg #[.int .i64 k', .int .i64 i', .string t', .slice E n1 c1, .slice E' n2 c2]] W (MakesR (Off1 w.heap.size W) (mapT (withL kj y acc)) W)) := Lib.hid (fun W hb => With_lies (fun b h => h.1) (Off1.below HA.out hb) (HY.out W (HB.out.trans (hb.mono HB.out.size))) HKZ.out (by omega))
        have LTS : Hid (w.heap.size < wr.heap.size ∧ w.heap.size + 1 < wr.heap.size ∧ gk < wr.heap.size ∧ gi < wr.heap.size) := Lib.hid (by have h1 := HO.out.lt; have h2 := HB.out.size; have h3 : gk < w.heap.size := hgk; have h4 : gi < w.heap.size := hgi; exact ⟨by omega, by omega, by omega, by omega⟩)
        have o0 := HO.out.cell 0
        change _ = some (Value.int .i64 ko) at o0
        have o1 := HO.out.cell 1
        change _ = some (Value.int .i64 io) at o1
        have o2 := HO.out.cell 2
        change _ = some (Value.string tz) at o2
        have o3 := HO.out.cell 3
        change _ = some (Value.slice AO no co) at o3
        have o4 := HO.out.cell 4
        change _ = some (Value.slice AO' mo do') at o4
        have lt1 := LTS.out.1
        have lt2 := LTS.out.2.1
        have lt3 := LTS.out.2.2.1
        have lt4 := LTS.out.2.2.2
        clear htk hy cc g1 g2 hkz hgi hgk hgo hcut0
        generalize hhas : hasK acc kj = hb at *
        clear hhas
        go_wp2_with fail
        go_cut [9] from 17 to 43 (fun hv wx => hv = .bool hb ∧ Hid (Below wr.heap.size wr wx))
        case first =>
          go_region_law (first
            | (go_simp; go_at_call 62; refine (HGT.out _ (by first | exact ⟨rfl, rfl, rfl, by simp, fun b hb => rfl⟩ | exact ⟨rfl, rfl, rfl, by simp, fun b hb => Below.heap_alloc _ _ b hb⟩)).mono ?_; rintro _ wB ⟨vg, rfl, hlg, hbg⟩; obtain ⟨k2, i2, t2, F, n3, c3, F', n4, c4, rfl⟩ := hlg.formV; clear hlg; (first | (have BKB := Bk.below (w := (wr.alloc (.cells #[.int .i64 0, .int .i64 0, .string ⟨#[]⟩, .slice none 0 0, .slice none 0 0] 26)).drew) (Bk.new wr 26 #[.int .i64 0, .int .i64 0, .string ⟨#[]⟩, .slice none 0 0, .slice none 0 0]) hbg (by simp); have HB : Hid (Below wr.heap.size wr wB) := Lib.hid (Below.trans (b := (wr.alloc (.cells #[.int .i64 0, .int .i64 0, .string ⟨#[]⟩, .slice none 0 0, .slice none 0 0] 26)).drew) ⟨rfl, rfl, rfl, by simp, fun b hb => Below.heap_alloc _ _ b hb⟩ (show Below wr.heap.size _ wB from hbg.mono (by simp))); have q0 := BKB.cell 0; have q1 := BKB.cell 1; have q2 := BKB.cell 2; have q3 := BKB.cell 3; have q4 := BKB.cell 4; have f0 := BKB.frozen 0; have f1 := BKB.frozen 1; have f2 := BKB.frozen 2; have f3 := BKB.frozen 3; have f4 := BKB.frozen 4; have lq := BKB.lt; have tok : Hid (wr.heap.size ≤ wr.heap.size) := Lib.hid (Nat.le_refl _); clear BKB) | (have HB : Hid (Below wr.heap.size wr wB) := Lib.hid (Below.trans (b := wr.drew) ⟨rfl, rfl, rfl, by simp, fun b hb => rfl⟩ (show Below wr.heap.size _ wB from hbg.mono (by simp)))))))
          all_goals (
            clear hbg
            go_wp2_with fail
            go_meet
            refine ⟨rfl, Lib.hid ?_⟩
            first
              | exact HB.out.alloc HB.out.size _
              | exact ((((HB.out.setCell (p := ⟨wr.heap.size, 0, none⟩) (Nat.le_refl _) _).setCell (p := ⟨wr.heap.size, 1, none⟩) (Nat.le_refl _) _).setCell (p := ⟨wr.heap.size, 2, none⟩) (Nat.le_refl _) _).setCell (p := ⟨wr.heap.size, 3, none⟩) (Nat.le_refl _) _).setCell (p := ⟨wr.heap.size, 4, none⟩) (Nat.le_refl _) _)
        case rest =>
          obtain ⟨rfl, HC⟩ := hcut
          have OC := Lib.hid (HO.out.below HC.out HO.out.lt)
          have RC := Lib.hid (HR.out.below HC.out HR.out.lt)
          have BC : Hid (Below w.heap.size w wc) := Lib.hid (HB.out.trans (HC.out.mono HB.out.size))
          have cc := fun (b o : Nat) (h : b < wr.heap.size) => HC.out.cell (p := ⟨b, o, none⟩) h
          have ek2 := (cc _ _ lt3).trans ek
          have y0 := (cc _ _ lt4).trans e0
          have y1 := (cc _ _ lt4).trans e1
          have y2 := (cc _ _ lt4).trans e2
          have y3 := (cc _ _ lt4).trans e3
          have y4 := (cc _ _ lt4).trans e4
          have LTC : Hid (w.heap.size < wc.heap.size ∧ w.heap.size + 1 < wc.heap.size ∧ gk < wc.heap.size ∧ gi < wc.heap.size) := Lib.hid (by have := HC.out.size; exact ⟨by omega, by omega, by omega, by omega⟩)
          clear cc ek e0 e1 e2 e3 e4 o0 o1 o2 o3 o4 lt1 lt2 lt3 lt4
          have lt1 := LTC.out.1
          have lt2 := LTC.out.2.1
          have lt3 := LTC.out.2.2.1
          have lt4 := LTC.out.2.2.2
          cases hb with
          | true =>
            have HNO : Hid (goM [] (keys.zip items) = none) := Lib.hid (by
              have h1 := HGO.out
              rw [if_pos rfl] at h1
              have h2 := goM_none_append ((keys.zip items).drop (j + 1)) _ _ h1
              rwa [HTD.out] at h2)
            have SPEC : Hid (RefMapSpec keys items nullT 9) := Lib.hid (Or.inr ⟨HLN.out, Or.inl ⟨HNO.out, rfl, rfl⟩⟩)
            have r0 := RC.out.cell 0
            have r1 := RC.out.cell 1
            have r2 := RC.out.cell 2
            have r3 := RC.out.cell 3
            have r4 := RC.out.cell 4
            have f0 := RC.out.frozen 0
            have f1 := RC.out.frozen 1
            have f2 := RC.out.frozen 2
            have f3 := RC.out.frozen 3
            have f4 := RC.out.frozen 4
            go_wp2
            obtain ⟨wf, hwf⟩ : ∃ wf, wf = ((((wc.setCell ⟨w.heap.size, 0, none⟩ (.int .i64 0)).setCell ⟨w.heap.size, 1, none⟩ (.int .i64 0)).setCell ⟨w.heap.size, 2, none⟩ (.string ⟨#[]⟩)).setCell ⟨w.heap.size, 3, none⟩ (.slice none 0 0)).setCell ⟨w.heap.size, 4, none⟩ (.slice none 0 0) := ⟨_, rfl⟩
            have QF : Hid (Bk wf w.heap.size 26 #[.int .i64 0, .int .i64 0, .string ⟨#[]⟩, .slice none 0 0, .slice none 0 0]) := Lib.hid (by rw [hwf]; exact ((((RC.out.put 0 _).put 1 _).put 2 _).put 3 _).put 4 _)
            have SF : Hid (∀ b, b ≠ w.heap.size → wf.heap[b]? = wc.heap[b]?) := Lib.hid (fun b hb => by
              rw [hwf]; exact ((((Below.heap_setCell _ _ _ _ hb).trans (Below.heap_setCell _ _ _ _ hb)).trans (Below.heap_setCell _ _ _ _ hb)).trans (Below.heap_setCell _ _ _ _ hb)).trans (Below.heap_setCell _ _ _ _ hb))
            have ZF : Hid (wf.heap.size = wc.heap.size) := Lib.hid (by rw [hwf]; simp [World.setCell])
            have BF : Hid (Below w.heap.size w wf) := Lib.hid (by
              rw [hwf]
              exact ((((BC.out.setCell (p := ⟨w.heap.size, 0, none⟩) (Nat.le_refl _) _).setCell (p := ⟨w.heap.size, 1, none⟩) (Nat.le_refl _) _).setCell (p := ⟨w.heap.size, 2, none⟩) (Nat.le_refl _) _).setCell (p := ⟨w.heap.size, 3, none⟩) (Nat.le_refl _) _).setCell (p := ⟨w.heap.size, 4, none⟩) (Nat.le_refl _) _)
            rw [← hwf]
            refine bodyPost_ret (results_row2 rfl _ _ w.heap.size 26 _ (0, 0) _ rfl QF.out Try.underlying26 rfl (by kernel_rfl)) rfl ?_
            exact ⟨_, _, SPEC.out, _, rfl, zero_lies _ _, BF.out⟩
          | false =>
            have HNX : Hid (goM [] ((keys.zip items).take (j + 1)) = some (withL kj y acc)) := Lib.hid (by
              have h1 := HGO.out
              rw [if_neg (by decide)] at h1
              exact h1)
            have HW2 : Hid (∀ W, Below wc.heap.size wc W → Calls Try.prog 63 #[.agg #[.int .i64 ko, .int .i64 io, .string tz, .slice AO no co, .slice AO' mo do'], .string kj, .agg #[.int .i64 k', .int .i64 i', .string t', .slice E n1 c1, .slice E' n2 c2]] W (MakesR (Off1 w.heap.size W) (mapT (withL kj y acc)) W)) := Lib.hid (fun W hb => HWT.out W (HC.out.trans (hb.mono HC.out.size)))
            have o0 := OC.out.cell 0
            change _ = some (Value.int .i64 ko) at o0
            have o1 := OC.out.cell 1
            change _ = some (Value.int .i64 io) at o1
            have o2 := OC.out.cell 2
            change _ = some (Value.string tz) at o2
            have o3 := OC.out.cell 3
            change _ = some (Value.slice AO no co) at o3
            have o4 := OC.out.cell 4
            change _ = some (Value.slice AO' mo do') at o4
            have fz0 := OC.out.frozen 0
            have fz1 := OC.out.frozen 1
            have fz2 := OC.out.frozen 2
            have fz3 := OC.out.frozen 3
            have fz4 := OC.out.frozen 4
            go_wp2_with fail
            go_region_law (first
              | (go_simp; go_at_call 63; refine (HW2.out _ (by exact ⟨rfl, rfl, rfl, by simp, fun b hb => rfl⟩)).mono ?_; rintro _ wB ⟨vg, rfl, hlg, hbg⟩; obtain ⟨k2, i2, t2, F, n3, c3, F', n4, c4, rfl⟩ := hlg.formV; have HB2 : Hid (Below wc.heap.size wc wB) := Lib.hid ⟨hbg.os, hbg.tape, hbg.output, hbg.size, hbg.block⟩; have LG := Lib.hid (Off1.made hlg lt2 hbg.size); clear hlg hbg; have OB := Lib.hid (OC.out.below HB2.out OC.out.lt); have q0 := OB.out.cell 0; have q1 := OB.out.cell 1; have q2 := OB.out.cell 2; have q3 := OB.out.cell 3; have q4 := OB.out.cell 4; have f0 := OB.out.frozen 0; have f1 := OB.out.frozen 1; have f2 := OB.out.frozen 2; have f3 := OB.out.frozen 3; have f4 := OB.out.frozen 4; have ltb := OB.out.lt))
            all_goals (
              have RB := Lib.hid (RC.out.below HB2.out RC.out.lt)
              have BB : Hid (Below w.heap.size w wB) := Lib.hid (BC.out.trans (HB2.out.mono BC.out.size))
              obtain ⟨wf, hwf⟩ : ∃ wf, wf = ((((wB.setCell ⟨w.heap.size + 1, 0, none⟩ (.int .i64 k2)).setCell ⟨w.heap.size + 1, 1, none⟩ (.int .i64 i2)).setCell ⟨w.heap.size + 1, 2, none⟩ (.string t2)).setCell ⟨w.heap.size + 1, 3, none⟩ (.slice F n3 c3)).setCell ⟨w.heap.size + 1, 4, none⟩ (.slice F' n4 c4) := ⟨_, rfl⟩
              have OF : Hid (Bk wf (w.heap.size + 1) 26 #[.int .i64 k2, .int .i64 i2, .string t2, .slice F n3 c3, .slice F' n4 c4]) := Lib.hid (by rw [hwf]; exact ((((OB.out.put 0 _).put 1 _).put 2 _).put 3 _).put 4 _)
              have SF : Hid (∀ b, b ≠ w.heap.size + 1 → wf.heap[b]? = wB.heap[b]?) := Lib.hid (fun b hb => by
                rw [hwf]; exact ((((Below.heap_setCell _ _ _ _ hb).trans (Below.heap_setCell _ _ _ _ hb)).trans (Below.heap_setCell _ _ _ _ hb)).trans (Below.heap_setCell _ _ _ _ hb)).trans (Below.heap_setCell _ _ _ _ hb))
              have ZF : Hid (wf.heap.size = wB.heap.size) := Lib.hid (by rw [hwf]; simp [World.setCell])
              have RF : Hid (Bk wf w.heap.size 26 #[.int .i64 0, .int .i64 0, .string ⟨#[]⟩, .slice none 0 0, .slice none 0 0]) := Lib.hid ((SF.out _ (by omega)).trans RB.out)
              have BF : Hid (Below w.heap.size w wf) := Lib.hid (by
                rw [hwf]
                exact ((((BB.out.setCell (p := ⟨w.heap.size + 1, 0, none⟩) (by show w.heap.size ≤ w.heap.size + 1; omega) _).setCell (p := ⟨w.heap.size + 1, 1, none⟩) (by show w.heap.size ≤ w.heap.size + 1; omega) _).setCell (p := ⟨w.heap.size + 1, 2, none⟩) (by show w.heap.size ≤ w.heap.size + 1; omega) _).setCell (p := ⟨w.heap.size + 1, 3, none⟩) (by show w.heap.size ≤ w.heap.size + 1; omega) _).setCell (p := ⟨w.heap.size + 1, 4, none⟩) (by show w.heap.size ≤ w.heap.size + 1; omega) _)
              have LF : Hid (Lies wf (Off1 w.heap.size wf) (mapT (withL kj y acc)) (.agg #[.int .i64 k2, .int .i64 i2, .string t2, .slice F n3 c3, .slice F' n4 c4])) := Lib.hid (Off1.move1 LG.out SF.out ZF.out)
              rw [← hwf]
              clear hwf q0 q1 q2 q3 q4 f0 f1 f2 f3 f4 ltb o0 o1 o2 o3 o4 fz0 fz1 fz2 fz3 fz4 y0 y1 y2 y3 y4 ek2 lt1 lt2 lt3 lt4
              go_wp2
              go_roundg (keys.length - (j + 1))
              case measure => have := HJ.out; omega
              case rel => exact ⟨j + 1, _, k2, i2, t2, F, n3, c3, F', n4, c4, HJ.out, rfl, by go_num, HNX, OF, LF, RF, BF⟩)
      · obtain rfl : j = keys.length := by omega
        have HE : Hid (goM [] (keys.zip items) = some acc) := Lib.hid (by have := HG.out; rwa [List.take_of_length_le (by rw [List.length_zip]; omega)] at this)
        have HSA : Hid ((mapT acc).size < 4611686018427387904) := Lib.hid (by
          have h := ((goM_some _ _ _ List.Pairwise.nil HE.out).2.map (·.2))
          rw [List.nil_append, zip_snd HLN.out] at h
          have h2 := sizes_perm h
          have h3 := HSZ.out
          unfold mapT
          rw [VT.size_mk, h2]
          omega)
        have HWI := Lib.hid (refWithin_any HSA.out (Off1.lo HA.out))
        have LY := Lib.hid (limT_yes (x := mapT acc))
        have LN := Lib.hid (limT_no (x := mapT acc))
        have SPEC : Hid (RefMapSpec keys items (limT (mapT acc)) (limE (mapT acc))) := Lib.hid (Or.inr ⟨HLN.out, Or.inr ⟨acc, HE.out, rfl, rfl⟩⟩)
        have o0 := HO.out.cell 0
        change _ = some (Value.int .i64 ko) at o0
        have o1 := HO.out.cell 1
        change _ = some (Value.int .i64 io) at o1
        have o2 := HO.out.cell 2
        change _ = some (Value.string tz) at o2
        have o3 := HO.out.cell 3
        change _ = some (Value.slice AO no co) at o3
        have o4 := HO.out.cell 4
        change _ = some (Value.slice AO' mo do') at o4
        clear hlt HG
        generalize limT (mapT acc) = yT at *
        generalize limE (mapT acc) = rE at *
        generalize (mapT acc).within = bw at *
        go_wp2_with fail
        refine (HWI.out).mono ?_
        rintro en w5 ⟨rfl, hb⟩
        have R5 := Lib.hid (HR.out.below hb HR.out.lt)
        have O5 := Lib.hid (HO.out.below hb HO.out.lt)
        have B5 := Lib.hid (HB.out.trans (hb.mono HB.out.size))
        have A5 := Lib.hid (Off1.below HA.out hb)
        clear hb o0 o1 o2 o3 o4
        cases bw with
        | false =>
          obtain ⟨rfl, rfl⟩ := LN.out rfl
          clear LY LN
          have r0 := R5.out.cell 0
          have r1 := R5.out.cell 1
          have r2 := R5.out.cell 2
          have r3 := R5.out.cell 3
          have r4 := R5.out.cell 4
          have f0 := R5.out.frozen 0
          have f1 := R5.out.frozen 1
          have f2 := R5.out.frozen 2
          have f3 := R5.out.frozen 3
          have f4 := R5.out.frozen 4
          go_wp2
          obtain ⟨wf, hwf⟩ : ∃ wf, wf = ((((w5.setCell ⟨w.heap.size, 0, none⟩ (.int .i64 0)).setCell ⟨w.heap.size, 1, none⟩ (.int .i64 0)).setCell ⟨w.heap.size, 2, none⟩ (.string ⟨#[]⟩)).setCell ⟨w.heap.size, 3, none⟩ (.slice none 0 0)).setCell ⟨w.heap.size, 4, none⟩ (.slice none 0 0) := ⟨_, rfl⟩
          have QF : Hid (Bk wf w.heap.size 26 #[.int .i64 0, .int .i64 0, .string ⟨#[]⟩, .slice none 0 0, .slice none 0 0]) := Lib.hid (by rw [hwf]; exact ((((R5.out.put 0 _).put 1 _).put 2 _).put 3 _).put 4 _)
          have SF : Hid (∀ b, b ≠ w.heap.size → wf.heap[b]? = w5.heap[b]?) := Lib.hid (fun b hb => by
            rw [hwf]; exact ((((Below.heap_setCell _ _ _ _ hb).trans (Below.heap_setCell _ _ _ _ hb)).trans (Below.heap_setCell _ _ _ _ hb)).trans (Below.heap_setCell _ _ _ _ hb)).trans (Below.heap_setCell _ _ _ _ hb))
          have ZF : Hid (wf.heap.size = w5.heap.size) := Lib.hid (by rw [hwf]; simp [World.setCell])
          have BF : Hid (Below w.heap.size w wf) := Lib.hid (by
            rw [hwf]
            exact ((((B5.out.setCell (p := ⟨w.heap.size, 0, none⟩) (Nat.le_refl _) _).setCell (p := ⟨w.heap.size, 1, none⟩) (Nat.le_refl _) _).setCell (p := ⟨w.heap.size, 2, none⟩) (Nat.le_refl _) _).setCell (p := ⟨w.heap.size, 3, none⟩) (Nat.le_refl _) _).setCell (p := ⟨w.heap.size, 4, none⟩) (Nat.le_refl _) _)
          rw [← hwf]
          refine bodyPost_ret (results_row2 rfl _ _ w.heap.size 26 _ (0, 0) _ rfl QF.out Try.underlying26 rfl (by kernel_rfl)) rfl ?_
          exact ⟨_, _, SPEC.out, _, rfl, zero_lies _ _, BF.out⟩
        | true =>
          obtain ⟨rfl, rfl⟩ := LY.out rfl
          clear LY LN
          have o0 := O5.out.cell 0
          change _ = some (Value.int .i64 ko) at o0
          have o1 := O5.out.cell 1
          change _ = some (Value.int .i64 io) at o1
          have o2 := O5.out.cell 2
          change _ = some (Value.string tz) at o2
          have o3 := O5.out.cell 3
          change _ = some (Value.slice AO no co) at o3
          have o4 := O5.out.cell 4
          change _ = some (Value.slice AO' mo do') at o4
          have r0 := R5.out.cell 0
          have r1 := R5.out.cell 1
          have r2 := R5.out.cell 2
          have r3 := R5.out.cell 3
          have r4 := R5.out.cell 4
          have f0 := R5.out.frozen 0
          have f1 := R5.out.frozen 1
          have f2 := R5.out.frozen 2
          have f3 := R5.out.frozen 3
          have f4 := R5.out.frozen 4
          go_wp2
          obtain ⟨wf, hwf⟩ : ∃ wf, wf = ((((w5.setCell ⟨w.heap.size, 0, none⟩ (.int .i64 ko)).setCell ⟨w.heap.size, 1, none⟩ (.int .i64 io)).setCell ⟨w.heap.size, 2, none⟩ (.string tz)).setCell ⟨w.heap.size, 3, none⟩ (.slice AO no co)).setCell ⟨w.heap.size, 4, none⟩ (.slice AO' mo do') := ⟨_, rfl⟩
          have QF : Hid (Bk wf w.heap.size 26 #[.int .i64 ko, .int .i64 io, .string tz, .slice AO no co, .slice AO' mo do']) := Lib.hid (by rw [hwf]; exact ((((R5.out.put 0 _).put 1 _).put 2 _).put 3 _).put 4 _)
          have SF : Hid (∀ b, b ≠ w.heap.size → wf.heap[b]? = w5.heap[b]?) := Lib.hid (fun b hb => by
            rw [hwf]; exact ((((Below.heap_setCell _ _ _ _ hb).trans (Below.heap_setCell _ _ _ _ hb)).trans (Below.heap_setCell _ _ _ _ hb)).trans (Below.heap_setCell _ _ _ _ hb)).trans (Below.heap_setCell _ _ _ _ hb))
          have ZF : Hid (wf.heap.size = w5.heap.size) := Lib.hid (by rw [hwf]; simp [World.setCell])
          have BF : Hid (Below w.heap.size w wf) := Lib.hid (by
            rw [hwf]
            exact ((((B5.out.setCell (p := ⟨w.heap.size, 0, none⟩) (Nat.le_refl _) _).setCell (p := ⟨w.heap.size, 1, none⟩) (Nat.le_refl _) _).setCell (p := ⟨w.heap.size, 2, none⟩) (Nat.le_refl _) _).setCell (p := ⟨w.heap.size, 3, none⟩) (Nat.le_refl _) _).setCell (p := ⟨w.heap.size, 4, none⟩) (Nat.le_refl _) _)
          rw [← hwf]
          refine bodyPost_ret (results_row2 rfl _ _ w.heap.size 26 _ (0, 0) _ rfl QF.out Try.underlying26 rfl (by kernel_rfl)) rfl ?_
          exact ⟨_, _, SPEC.out, _, rfl, Off1.move A5.out SF.out ZF.out, BF.out⟩
  · have t0 : ((keys.length : Int) != (items.length : Int)) = true := by rw [bne_iff_ne]; omega
    have HLN := Lib.hid hlen
    obtain ⟨w1, hw1⟩ : ∃ w1, w1 = w.alloc (.cells #[.int .i64 0, .int .i64 0, .string ⟨#[]⟩, .slice none 0 0, .slice none 0 0] 26) := ⟨_, rfl⟩
    have B1 : Hid (Below w.heap.size w w1) := Lib.hid (by rw [hw1]; exact below_one _ _)
    have R1 : Hid (Bk w1 w.heap.size 26 #[.int .i64 0, .int .i64 0, .string ⟨#[]⟩, .slice none 0 0, .slice none 0 0]) := Lib.hid (by rw [hw1]; exact Bk.new _ _ _)
    have HW1 := Lib.hid hw1
    clear hw1 hlen hS hL
    go_enter Try.func14, Try.ntmps14
    go_upto_region 2 with fail
    rw [← HW1.out]
    have r0 := R1.out.cell 0
    have r1 := R1.out.cell 1
    have r2 := R1.out.cell 2
    have r3 := R1.out.cell 3
    have r4 := R1.out.cell 4
    have f0 := R1.out.frozen 0
    have f1 := R1.out.frozen 1
    have f2 := R1.out.frozen 2
    have f3 := R1.out.frozen 3
    have f4 := R1.out.frozen 4
    go_wp2
    obtain ⟨wf, hwf⟩ : ∃ wf, wf = ((((w1.setCell ⟨w.heap.size, 0, none⟩ (.int .i64 0)).setCell ⟨w.heap.size, 1, none⟩ (.int .i64 0)).setCell ⟨w.heap.size, 2, none⟩ (.string ⟨#[]⟩)).setCell ⟨w.heap.size, 3, none⟩ (.slice none 0 0)).setCell ⟨w.heap.size, 4, none⟩ (.slice none 0 0) := ⟨_, rfl⟩
    have QF : Hid (Bk wf w.heap.size 26 #[.int .i64 0, .int .i64 0, .string ⟨#[]⟩, .slice none 0 0, .slice none 0 0]) := Lib.hid (by rw [hwf]; exact ((((R1.out.put 0 _).put 1 _).put 2 _).put 3 _).put 4 _)
    have SF : Hid (∀ b, b ≠ w.heap.size → wf.heap[b]? = w1.heap[b]?) := Lib.hid (fun b hb => by
      rw [hwf]; exact ((((Below.heap_setCell _ _ _ _ hb).trans (Below.heap_setCell _ _ _ _ hb)).trans (Below.heap_setCell _ _ _ _ hb)).trans (Below.heap_setCell _ _ _ _ hb)).trans (Below.heap_setCell _ _ _ _ hb))
    have ZF : Hid (wf.heap.size = w1.heap.size) := Lib.hid (by rw [hwf]; simp [World.setCell])
    have BF : Hid (Below w.heap.size w wf) := Lib.hid (by
      rw [hwf]
      exact ((((B1.out.setCell (p := ⟨w.heap.size, 0, none⟩) (Nat.le_refl _) _).setCell (p := ⟨w.heap.size, 1, none⟩) (Nat.le_refl _) _).setCell (p := ⟨w.heap.size, 2, none⟩) (Nat.le_refl _) _).setCell (p := ⟨w.heap.size, 3, none⟩) (Nat.le_refl _) _).setCell (p := ⟨w.heap.size, 4, none⟩) (Nat.le_refl _) _)
    rw [← hwf]
    refine bodyPost_ret (results_row2 rfl _ _ w.heap.size 26 _ (0, 0) _ rfl QF.out Try.underlying26 rfl (by kernel_rfl)) rfl ?_
    exact ⟨_, _, Or.inl ⟨HLN.out, rfl, rfl⟩, _, rfl, zero_lies _ _, BF.out⟩
end Go.Proofs.Ytidinbeanaifmaa
