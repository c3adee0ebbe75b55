/-
  slices.SortFunc at the entries of a map.
-/
import Derived.Test.YtidinbeanaifmaaVcp
import Derived.Test.YtidinbeanaifmaaSortPlain
namespace Go.Proofs.Ytidinbeanaifmaa
open Go.RowKit Go.Shelf Go.Lib Go.Sort

/-- an entry: its key, its item's five cells -/
structure En where
  key : ByteArray
  k : Int
  i : Int
  t : ByteArray
  A : Option Addr
  n : Nat
  c : Nat
  A' : Option Addr
  n' : Nat
  c' : Nat
  x : VT
instance : Inhabited En := ⟨⟨ByteArray.empty, 0, 0, ByteArray.empty, none, 0, 0, none, 0, 0, nullT⟩⟩
def En.val (x : En) : Value := vag x.k x.i x.t x.A x.n x.c x.A' x.n' x.c'
/-- its six cells -/
def encE (x : En) : List Value := [.string x.key, .int .i64 x.k, .int .i64 x.i, .string x.t, .slice x.A x.n x.c, .slice x.A' x.n' x.c']
theorem encE_len (x : En) : (encE x).length = 6 := rfl
theorem encE_one (x : En) : ∀ v ∈ encE x, v.oneCell' = true := by
  intro v hv
  simp only [encE, List.mem_cons, List.not_mem_nil, or_false] at hv
  rcases hv with rfl | rfl | rfl | rfl | rfl | rfl <;> rfl
def cmpE (x y : En) : Int := cmpS x.key y.key
theorem ltE (x y : En) : ltOf cmpE x y = less x.key y.key := by
  unfold ltOf cmpE
  rcases cmpS_ways x.key y.key with ⟨h1, _, _, h⟩ | ⟨h1, h⟩ | ⟨_, h2, _, h⟩
  · rw [h, h1]; rfl
  · rw [h, h1]; unfold less; rw [bl_irrefl]; rfl
  · rw [h, h2]; rfl
theorem swoE : SWO (ltOf cmpE) where
  irrefl x := by rw [ltE]; exact bl_irrefl _
  trans x y z h1 h2 := by rw [ltE] at *; exact bl_trans _ _ _ h1 h2
  ntrans x y z h1 h2 := by
    rw [ltE] at *
    cases h : less x.key z.key with
    | false => rfl
    | true =>
      rcases cmpS_ways x.key y.key with ⟨k, _⟩ | ⟨k, _⟩ | ⟨k, _⟩
      · rw [k] at h1; cases h1
      · rw [k] at h; rw [h] at h2; cases h2
      · have := bl_trans _ _ _ k h
        rw [show Op.bytesLess y.key.toList z.key.toList = less y.key z.key from rfl, h2] at this
        cases this

set_option maxHeartbeats 1000000 in
/-- the comparison that is handed to the sort, in whatever world -/
theorem cmpE_any (x y : En) (W : World) : Calls Try.prog 58 #[.agg (encE x).toArray, .agg (encE y).toArray] W fun e w' => e = .returned (.int .i64 (cmpE x y)) ∧ ∃ q os', w' = grow (W.drewN q) os' := by
  have hcon := fun W' => cmpStr_any x.key y.key W'
  unfold cmpE
  generalize cmpS x.key y.key = r at hcon ⊢
  unfold encE
  go_enter Try.func58, Try.ntmps58
  go_wp2_with (go_at_call 59; refine (hcon _).mono ?_; rintro e w' ⟨rfl, rfl⟩)
  go_ret
  exact ⟨rfl, 0, _, by rw [alloc_eq_grow, alloc_eq_grow, grow_grow]; rfl⟩

theorem heap_sortWorld {α : Type} [Inhabited α] (enc : α → List Value) (k : Nat) (w : World) (blk off n : Nat) (d : Array α) (os : Array Obj) (b : Nat) (hb : b < w.heap.size) (hne : b ≠ blk) : (sortWorldK enc k w blk off n d os).heap[b]? = w.heap[b]? := by
  unfold sortWorldK grow
  show ((putRowK enc k (Sort.ahead w n) blk off d).heap ++ os)[b]? = _
  rw [Array.getElem?_append_left (by rw [size_putRowK]; exact hb)]
  simp [putRowK, putRow, mapBlock, Sort.ahead, Array.getElem?_modify, Ne.symm hne]

set_option maxHeartbeats 1000000 in
/-- **the sort**: the row holds the same entries, ascending by their keys; nothing else turns -/
theorem sortE_any (blk cap : Nat) (d : Array En) (w : World) (hH : HoldsK encE 6 w blk 0 d) (hblk : blk < w.heap.size) (hsz : d.size < 4611686018427387904) :
    Calls Try.prog 57 #[.slice (some ⟨blk, 0, none⟩) d.size cap, .func (.func 58) #[] #[]] w fun e w' =>
      e = .returned (.tuple #[]) ∧ ∃ d' : Array En, d'.size = d.size ∧ d'.toList.Perm d.toList ∧ (∀ i j, i < j → j < d.size → less d'[j]!.key d'[i]!.key = false) ∧ HoldsK encE 6 w' blk 0 d' ∧ w.grownBy w' (some blk) := by
  have eg : ∀ args w, (callFunc 58 args).run Try.prog w = .ok (.enter 58 args) w := enters_of Try.func58 (by kernel_rfl) rfl
  have hcon := AnyQ.slices_SortFunc Try.sortEn 6 Try.isAgg66 Try.sizeOf66 encE encE_len encE_one cmpE swoE 58 #[] blk 0 cap d w eg (fun _ _ _ _ x y => cmpE_any x y _) hH hblk hsz
  change Calls Try.prog 57 _ _ _ at hcon
  refine hcon.mono ?_
  rintro e w' ⟨rfl, d', n, os, hp, hs, rfl⟩
  refine ⟨rfl, d', hp.1, ?_, fun i j hij hj => ?_, holdsK_sortWorldK_c encE 6 w blk 0 d d' n os hH hblk hp.1, ?_⟩
  · have h := hp.2.2
    have e1 : d'.extract 0 d.size = d' := by rw [← hp.1]; simp
    have e2 : d.extract 0 d.size = d := by simp
    rwa [e1, e2] at h
  · have := hs i j (Nat.zero_le _) hij hj
    rwa [ltE] at this
  · exact ⟨rfl, rfl, rfl, size_sortWorldK_c encE 6 w blk 0 n d' os, fun b hb hne => heap_sortWorld encE 6 w blk 0 n d' os b hb (fun e => hne (by rw [e]))⟩
end Go.Proofs.Ytidinbeanaifmaa
