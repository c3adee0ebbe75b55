/-
  What next and its kind hand back; word, sign.
-/
import Derived.Test.YtemdcgeopaphaaaDoorKe
import Derived.Deep.CutRange
namespace Go.Proofs.YtemdcgeopaphaaaDoor
open Go.RowKit

/-- four cells put in a block -/
def put4 (w : World) (g : Nat) (a b c d : Value) : World := (((w.setCell ⟨g, 0, none⟩ a).setCell ⟨g, 1, none⟩ b).setCell ⟨g, 2, none⟩ c).setCell ⟨g, 3, none⟩ d
section
variable {w : World} {g : Nat} {a b c d : Value}
theorem put4_bk {t : TypeId} {z0 z1 z2 z3 : Value} (h : Bk w g t #[z0, z1, z2, z3]) : Bk (put4 w g a b c d) g t #[a, b, c, d] := by
  have := (((h.put 0 a).put 1 b).put 2 c).put 3 d
  simpa [put4] using this
theorem put4_far {i : Nat} (h : i ≠ g) : (put4 w g a b c d).heap[i]? = w.heap[i]? :=
  (((Below.heap_setCell _ _ _ _ h).trans (Below.heap_setCell _ _ _ _ h)).trans (Below.heap_setCell _ _ _ _ h)).trans (Below.heap_setCell _ _ _ _ h)
theorem put4_size : (put4 w g a b c d).heap.size = w.heap.size := by simp [put4, World.setCell]
theorem put4_below {w0 : World} (h : Below w0.heap.size w0 w) (hg : w0.heap.size ≤ g) : Below w0.heap.size w0 (put4 w g a b c d) :=
  ⟨h.os, h.tape, h.output, by rw [put4_size]; exact h.size, fun i hi => (put4_far (by omega)).trans (h.block i hi)⟩
end
def zeroTok : Array Value := #[.int .i64 0, .int .i64 0, .string ⟨#[]⟩, .int .i64 0]
/-- a string of these bytes -/
def strV (l : List UInt8) : Value := .string ⟨l.toArray⟩
theorem strV_ext (s : ByteArray) (n : Nat) : Value.string (s.extract 0 n) = strV (s.data.toList.take n) := by
  unfold strV
  rw [← ext_to]
theorem strV_all (s : ByteArray) : Value.string s = strV s.data.toList := rfl
/-- what next hands back -/
def tokV : TR → Value
  | .ok k t v n => .tuple #[.agg #[.int .i64 k, .int .i64 0, strV t, .int .i64 v], .int .i64 (n : Nat), .int .i64 0]
  | .err e => .tuple #[.agg #[.int .i64 0, .int .i64 0, .string ⟨#[]⟩, .int .i64 0], .int .i64 0, .int .i64 e]
/-- the contract's end -/
def TokR (r : TR) (w : World) (e : Ending) (w' : World) : Prop := e = .returned (tokV r) ∧ Below w.heap.size w w'
theorem results_tok {fn : Func} (hfn : fn.results = #[.cell 2 30, .tmp 3, .tmp 4]) {w : World} {tmps : Array Value} {q0 : Nat} {a b c d x y : Value} (h2 : tmps.getD 2 undef = .pointer (some ⟨q0, 0, none⟩)) (h3 : tmps.getD 3 undef = x) (h4 : tmps.getD 4 undef = y)
    (hq0 : Bk w q0 30 #[a, b, c, d]) :
    (results fn tmps).run Tryd.prog w = .ok (.tuple #[.agg #[a, b, c, d], x, y]) w := by
  have e0 := run_loadVar_row (P := Tryd.prog) w q0 30 30 #[a, b, c, d] (0, 0) _ hq0 Tryd.underlying30 rfl (by kernel_rfl)
  simp only [Array.getD_eq_getD_getElem?] at h2 h3 h4
  simp [results, hfn, h2, h3, h4, asAddr, e0]

theorem in_lit (s : ByteArray) (w : World) :
    Calls Tryd.prog 22 #[.string s] w fun e w' => ∃ b, e = .returned (setF b) ∧ SetAt w' b s ∧ Below w.heap.size w w' :=
  (in_any s w).mono fun _ _ ⟨h1, h2, h3⟩ => ⟨_, h1, h2, h3⟩
theorem ret_tok {a b : TR} (h : a = b) : Ending.returned (tokV a) = .returned (tokV b) := by rw [h]

set_option maxRecDepth 100000 in
set_option maxHeartbeats 4000000 in
theorem word_any (t : ByteArray) (w : World) (hz : t.size ≤ 1000000) :
    Calls Tryd.prog 33 #[.string t] w (TokR (wordT t.data.toList) w) := by
  obtain ⟨rb, hrb⟩ : ∃ rb, rb = w.heap.size := ⟨_, rfl⟩
  have hle : spn wrdT t.data.toList ≤ t.size := by have := spn_le wrdT t.data.toList; simpa using this
  have hmem := Lib.hid hle
  go_enter Tryd.func33, Tryd.ntmps33
  go_upto_region 1 with (fail)
  obtain ⟨w1, hw1⟩ : ∃ w1, w1 = w.alloc (.cells #[.int .i64 0, .int .i64 0, .string ⟨#[]⟩, .int .i64 0] 30) := ⟨_, rfl⟩
  have K1 : Hid (Bk w1 rb 30 #[.int .i64 0, .int .i64 0, .string ⟨#[]⟩, .int .i64 0]) := Lib.hid (by rw [hw1, hrb]; exact Bk.new _ _ _)
  have B1 : Hid (Below w.heap.size w w1) := Lib.hid (by rw [hw1]; exact (Below.refl _ _).alloc (Nat.le_refl _) _)
  have LB : Hid (w.heap.size ≤ rb) := Lib.hid (by omega)
  change Code.wp _ _ _ _ (w.alloc (.cells #[.int .i64 0, .int .i64 0, .string ⟨#[]⟩, .int .i64 0] 30))
  rw [← hw1, ← hrb]
  clear hw1 hrb
  go_wp2_with fail
  refine (in_any wordS _).mono ?_
  rintro _ w2 ⟨rfl, hs2, hb2⟩
  have HS := Lib.hid hs2
  have K2 := Lib.hid (K1.out.below hb2 K1.out.lt)
  have B2 : Hid (Below w.heap.size w w2) := Lib.hid (B1.out.trans (hb2.mono B1.out.size))
  clear hs2 hb2
  go_wp2_with fail
  refine (span_any set_word t hz HS.out).mono ?_
  rintro _ w3 ⟨rfl, hd3⟩
  have K3 := Lib.hid (K2.out.below hd3.below K2.out.lt)
  have B3 : Hid (Below w.heap.size w w3) := Lib.hid (B2.out.trans (hd3.below.mono B2.out.size))
  clear hd3
  obtain ⟨n, hn⟩ : ∃ n, n = spn wrdT t.data.toList := ⟨_, rfl⟩
  rw [← hn]
  rw [← hn] at hle
  have HN := Lib.hid hn
  clear hn
  have f0 := K3.out.frozen 0
  have f1 := K3.out.frozen 1
  have f2 := K3.out.frozen 2
  have f3 := K3.out.frozen 3
  have d0 := K3.out.cell 0
  have d1 := K3.out.cell 1
  have d2 := K3.out.cell 2
  have d3 := K3.out.cell 3
  by_cases h64 : 64 < n
  · have HE : Hid (wordT t.data.toList = .err 8) := Lib.hid (by unfold wordT; rw [← HN.out, if_pos h64])
    have t64 : (64 : Int) < (n : Int) := by omega
    clear h64
    go_wp2_with fail
    obtain ⟨wf, hwf⟩ : ∃ wf, wf = put4 w3 rb (.int .i64 0) (.int .i64 0) (.string ⟨#[]⟩) (.int .i64 0) := ⟨_, rfl⟩
    have QF : Hid (Bk wf rb 30 #[.int .i64 0, .int .i64 0, .string ⟨#[]⟩, .int .i64 0]) := Lib.hid (by rw [hwf]; exact put4_bk K3.out)
    have FF : Hid (Below w.heap.size w wf) := Lib.hid (by rw [hwf]; exact put4_below B3.out LB.out)
    change bodyPost _ _ _ _ _ (put4 w3 rb (.int .i64 0) (.int .i64 0) (.string ⟨#[]⟩) (.int .i64 0))
    rw [← hwf]
    refine bodyPost_ret (results_tok rfl rfl rfl rfl QF.out) rfl ?_
    exact ⟨ret_tok HE.out.symm, FF.out⟩
  · have HE : Hid (wordT t.data.toList = .ok (if kwB (t.data.toList.take n) then 2 else 1) (t.data.toList.take n) 0 n) := Lib.hid (by unfold wordT; rw [← HN.out, if_neg h64])
    have t64 : ¬ (64 : Int) < (n : Int) := by omega
    clear h64
    have HKW := Lib.hid (fun V => Keyword_any (t.extract 0 n) V)
    rw [ext_to] at HKW
    go_wp2_with fail
    refine (HKW.out _).mono ?_
    rintro _ W ⟨rfl, rfl⟩
    cases hk : kwB (t.data.toList.take n) with
    | true =>
      have HE2 : Hid (wordT t.data.toList = .ok 2 (t.data.toList.take n) 0 n) := Lib.hid (by rw [HE.out, hk]; rfl)
      clear hk HE
      go_wp2_with fail
      obtain ⟨wf, hwf⟩ : ∃ wf, wf = put4 W rb (.int .i64 2) (.int .i64 0) (.string (t.extract 0 n)) (.int .i64 0) := ⟨_, rfl⟩
      have QF : Hid (Bk wf rb 30 #[.int .i64 2, .int .i64 0, .string (t.extract 0 n), .int .i64 0]) := Lib.hid (by rw [hwf]; exact put4_bk K3.out)
      have FF : Hid (Below w.heap.size w wf) := Lib.hid (by rw [hwf]; exact put4_below B3.out LB.out)
      change bodyPost _ _ _ _ _ (put4 W rb (.int .i64 2) (.int .i64 0) (.string (t.extract 0 n)) (.int .i64 0))
      rw [← hwf]
      refine bodyPost_ret (results_tok rfl rfl rfl rfl QF.out) rfl ?_
      exact ⟨(by rw [HE2.out]; exact congrArg (fun x => Ending.returned (.tuple #[.agg #[.int .i64 2, .int .i64 0, x, .int .i64 0], .int .i64 (n : Nat), .int .i64 0])) (strV_ext t n)), FF.out⟩
    | false =>
      have HE2 : Hid (wordT t.data.toList = .ok 1 (t.data.toList.take n) 0 n) := Lib.hid (by rw [HE.out, hk]; rfl)
      clear hk HE
      go_wp2_with fail
      obtain ⟨wf, hwf⟩ : ∃ wf, wf = put4 W rb (.int .i64 1) (.int .i64 0) (.string (t.extract 0 n)) (.int .i64 0) := ⟨_, rfl⟩
      have QF : Hid (Bk wf rb 30 #[.int .i64 1, .int .i64 0, .string (t.extract 0 n), .int .i64 0]) := Lib.hid (by rw [hwf]; exact put4_bk K3.out)
      have FF : Hid (Below w.heap.size w wf) := Lib.hid (by rw [hwf]; exact put4_below B3.out LB.out)
      change bodyPost _ _ _ _ _ (put4 W rb (.int .i64 1) (.int .i64 0) (.string (t.extract 0 n)) (.int .i64 0))
      rw [← hwf]
      refine bodyPost_ret (results_tok rfl rfl rfl rfl QF.out) rfl ?_
      exact ⟨(by rw [HE2.out]; exact congrArg (fun x => Ending.returned (.tuple #[.agg #[.int .i64 1, .int .i64 0, x, .int .i64 0], .int .i64 (n : Nat), .int .i64 0])) (strV_ext t n)), FF.out⟩
end Go.Proofs.YtemdcgeopaphaaaDoor
