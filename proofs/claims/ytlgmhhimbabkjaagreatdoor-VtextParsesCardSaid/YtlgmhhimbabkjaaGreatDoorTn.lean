/-
  The parser's functions go forward.
-/
import Derived.Test.YtlgmhhimbabkjaaGreatDoorTm
namespace Go.Proofs.YtlgmhhimbabkjaaGreatDoor

/-- it ends at i or behind -/
def PR.Mono {α : Type} (r : PR α) (i : Nat) : Prop := ∀ a j, r = .ok a j → i ≤ j
theorem PR.Mono.bind {α β : Type} {r : PR α} {f : α → Nat → PR β} {i : Nat} (h : r.Mono i) (hf : ∀ a j, i ≤ j → (f a j).Mono i) : (r.bind f).Mono i := by
  intro b j e
  cases r with
  | err a c => cases e
  | ok a k => exact hf a k (h a k rfl) b j e
theorem PR.Mono.ok {α : Type} {a : α} {i j : Nat} (h : i ≤ j) : (PR.ok a j).Mono i := fun _ _ e => by injection e with _ e; omega
theorem PR.Mono.err {α : Type} {i j : Nat} {c : Int} : (PR.err j c : PR α).Mono i := fun _ _ e => by cases e
theorem PR.Mono.le {α : Type} {r : PR α} {i k : Nat} (h : r.Mono k) (hk : i ≤ k) : r.Mono i := fun a j e => Nat.le_trans hk (h a j e)
theorem tkP_mono (p : UInt8 → Bool) (l : List UInt8) (i : Nat) : (tkP p l i).Mono (i + 1) := by
  unfold tkP
  split
  · exact .err
  · split
    · exact .ok (Nat.le_refl _)
    · exact .err
theorem skip_ge (l : List UInt8) (i : Nat) : i ≤ skip l i := run_ge _ _ _
theorem escP_mono (l : List UInt8) (i : Nat) : (escP l i).Mono i := by
  unfold escP
  refine ((tkP_mono _ l i).le (by omega)).bind fun c j hj => ?_
  split
  · exact .ok hj
  · split
    · exact .ok hj
    · split
      · refine ((tkP_mono _ l j).le (by omega)).bind fun h j2 hj2 => ?_
        exact ((tkP_mono _ l j2).le (by omega)).bind fun d j3 hj3 => .ok hj3
      · exact .ok hj
theorem chrP_mono (l : List UInt8) (i : Nat) : (chrP l i).Mono i := by
  unfold chrP
  refine ((tkP_mono _ l i).le (by omega)).bind fun c j hj => ?_
  split
  · exact (escP_mono l j).le hj
  · exact .ok hj
theorem litL_mono (l : List UInt8) (a f : Nat) : ∀ (i : Nat) (o : List UInt8), (litL l a f i o).Mono i := by
  induction f with
  | zero => intro i o; exact .err
  | succ f ih =>
    intro i o
    rw [litL]
    split
    · exact .err
    · split
      · split
        · exact .ok (by omega)
        · exact .err
      · exact (chrP_mono l i).bind fun x j hj => (ih j _).le hj
theorem litP_mono (l : List UInt8) (i : Nat) : (litP l i).Mono i := (litL_mono l _ _ i []).bind fun _ _ hj => .ok hj
theorem wrdP_mono (l : List UInt8) : ∀ (w : List UInt8) (i : Nat), (wrdP l w i).Mono i
  | [], i => .ok (Nat.le_refl _)
  | c :: r, i => ((tkP_mono _ l i).le (by omega)).bind fun _ j hj => (wrdP_mono l r j).le hj
theorem numE_mono (l : List UInt8) (a j : Nat) : (numE l a j).Mono j := by
  unfold numE
  split
  · exact .ok (Nat.le_refl _)
  · exact .err
theorem intP_mono (l : List UInt8) (c : UInt8) (i : Nat) : (intP l c i).Mono i := by
  unfold intP
  split
  · exact ((tkP_mono _ l i).le (by omega)).bind fun _ j hj => (numE_mono l _ _).le (Nat.le_trans hj (run_ge _ _ _))
  · split
    · exact .err
    · exact (numE_mono l _ _).le (run_ge _ _ _)
theorem moreP_mono {σ : Type} {el : σ → Nat → PR σ} (he : ∀ s i, (el s i).Mono i) (e : UInt8) (l : List UInt8) (f : Nat) : ∀ (i : Nat) (s : σ), (moreP el e l f i s).Mono i := by
  induction f with
  | zero => intro i s; exact .err
  | succ f ih =>
    intro i s
    rw [moreP]
    refine ((he s _).le (skip_ge l i)).bind fun s2 j hj => ?_
    refine ((tkP_mono _ l _).le (Nat.le_trans hj (Nat.le_trans (skip_ge l j) (by omega)))).bind fun c j2 hj2 => ?_
    split
    · exact (ih j2 s2).le hj2
    · exact .ok hj2
theorem elemsP_mono {σ : Type} {el : σ → Nat → PR σ} (he : ∀ s i, (el s i).Mono i) (e : UInt8) (l : List UInt8) (i : Nat) (s : σ) : (elemsP el e l i s).Mono i := by
  unfold elemsP
  have := skip_ge l i
  split
  · exact .err
  · split
    · exact .ok (by omega)
    · exact (moreP_mono he e l _ _ s).le this
theorem elL_mono {val : Nat → Nat → PR (VT × Nat)} (hv : ∀ i n, (val i n).Mono i) (s : List VT × Nat) (i : Nat) : (elL val s i).Mono i := (hv i s.2).bind fun _ _ hj => .ok hj
theorem elM_mono {l : List UInt8} {val : Nat → Nat → PR (VT × Nat)} (hv : ∀ i n, (val i n).Mono i) (s : List ByteArray × List VT × Nat) (i : Nat) : (elM l val s i).Mono i := by
  unfold elM
  refine ((tkP_mono _ l i).le (by omega)).bind fun _ j hj => ?_
  refine ((litP_mono l j).le hj).bind fun key j2 hj2 => ?_
  split
  · exact .err
  · refine ((tkP_mono _ l _).le (Nat.le_trans hj2 (Nat.le_trans (skip_ge l j2) (by omega)))).bind fun _ j3 hj3 => ?_
    exact ((hv j3 _).le hj3).bind fun _ _ hj4 => .ok hj4
theorem bodP_mono {l : List UInt8} {val : Nat → Nat → PR (VT × Nat)} (hv : ∀ i n, (val i n).Mono i) (c : UInt8) (i n : Nat) : (bodP val l c i n).Mono i := by
  unfold bodP
  split
  · exact (wrdP_mono l _ i).bind fun _ _ hj => .ok hj
  split
  · exact (wrdP_mono l _ i).bind fun _ _ hj => .ok hj
  split
  · exact (wrdP_mono l _ i).bind fun _ _ hj => .ok hj
  split
  · exact (litP_mono l i).bind fun _ _ hj => .ok hj
  split
  · exact (elemsP_mono (elL_mono hv) _ l i _).bind fun _ _ hj => .ok hj
  split
  · exact (elemsP_mono (elM_mono hv) _ l i _).bind fun _ _ hj => .ok hj
  · exact (intP_mono l c i).bind fun _ _ hj => .ok hj
theorem valP_mono (l : List UInt8) : ∀ (k i n : Nat), (valP l k i n).Mono i
  | 0, i, n => by
    rw [valP]
    exact ((tkP_mono _ l _).le (Nat.le_trans (skip_ge l i) (by omega))).bind fun _ _ _ => .err
  | k + 1, i, n => by
    rw [valP]
    refine ((tkP_mono _ l _).le (Nat.le_trans (skip_ge l i) (by omega))).bind fun c j hj => ?_
    split
    · exact .err
    · exact (bodP_mono (valP_mono l k) c j _).le hj
end Go.Proofs.YtlgmhhimbabkjaaGreatDoor
