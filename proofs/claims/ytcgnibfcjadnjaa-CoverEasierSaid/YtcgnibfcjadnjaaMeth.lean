/- Meth: a range over a method value (its receiver is bound, so it comes before yield), of an iterator that lays nothing of its own: the law of the walk, at the wide fence, outside of other rounds. -/
import Derived.RangeFuncNested
import Derived.RangeFuncBound
import Derived.RangeFuncCalls
import Derived.RangeFuncLeaves
import Derived.Shelf.Abstract
import Derived.OwnWalkIn
import Derived.TacticsInMore
import Derived.LoopNIn
import Derived.LoopIn
import Derived.Sort.CutIn
import Derived.Test.YtcgnibfcjadnjaaReadW
namespace Go.Proofs.Ytcgnibfcjadnjaa
open Go.RowKit Go.Shelf

/-- the two blocks of a loop, m and the next one, stay -/
structure KeepS (m : Nat) (A B : World) : Prop where
  size : A.heap.size ≤ B.heap.size
  one : B.heap[m]? = A.heap[m]?
  two : B.heap[m + 1]? = A.heap[m + 1]?
theorem KeepS.refl (m : Nat) (A : World) : KeepS m A A := ⟨Nat.le_refl _, rfl, rfl⟩
theorem KeepS.trans {m : Nat} {A B C : World} (h : KeepS m A B) (k : KeepS m B C) : KeepS m A C := ⟨Nat.le_trans h.size k.size, k.one.trans h.one, k.two.trans h.two⟩
theorem KeepS.of_below {m n : Nat} {A B : World} (h : Below n A B) (hm : m + 1 < n) : KeepS m A B := ⟨h.size, Below.block h m (by omega), Below.block h (m + 1) hm⟩
theorem KeepS.store {m b : Nat} (A : World) (i : Nat) (v : Value) (h1 : b ≠ m) (h2 : b ≠ m + 1) : KeepS m A (A.setCell ⟨b, i, none⟩ v) :=
  ⟨by simp, Below.heap_setCell A ⟨b, i, none⟩ v m (Ne.symm h1), Below.heap_setCell A ⟨b, i, none⟩ v (m + 1) (Ne.symm h2)⟩

/-- what a round must end in -/
def roundS {α : Type} (m : Nat) (I Ix : List α → World → Prop) (xs : List α) (W : World) : Exit → Act → World → Prop
  | .normal, _, W' => KeepS m W W' ∧ I xs W'
  | .ret, _, W' => KeepS m W W' ∧ Ix xs W'
  | _, _, _ => False
/-- the contract of an iterator that lays nothing of its own -/
def SeqN {α : Type} (P : Program) (gf : Nat) (args : Value → Array Value) (encs : α → Array Value) (S Sp : List α → Prop) (N : Nat) (w : World) : Prop :=
  ∀ (l : Nat) (J Jx : List α → World → Prop) (W : World), Below w.heap.size w W → OwnFrom W.heap.size J → OwnFrom W.heap.size Jx →
    (∀ pre x W1, J pre W1 → pre.length < N → YieldAt Fence.wide 8 P l (encs x) W1 fun e W' => ((e = .returned (.bool true) ∧ J (pre ++ [x]) W') ∨ (e = .returned (.bool false) ∧ Jx (pre ++ [x]) W'))) →
    J [] W → CallsIn Fence.wide 8 P gf (args (.func (.yield l) #[] #[])) W fun e W' => (∃ v, e = .returned v) ∧ ((∃ xs, S xs ∧ J xs W') ∨ (∃ pre, Sp pre ∧ Jx pre W'))

/-- the law -/
theorem wpIn_rangeSeq {α : Type} {P : Program} {g : Operand} {ps : Array Tmp} {assign body : Code} {Q : Exit → Act → World → Prop} {a : Act} {w : World}
    {gf : Nat} {first lb : Array Value} (hg : a.eval g = .func (.func gf) first lb) (eg : ∀ args w, (callFunc gf args).run P w = .ok (.enter gf args) w)
    {encs : α → Array Value} {S Sp : List α → Prop} {N : Nat} {w0 : World} (hseq : SeqN P gf (fun y => first ++ #[y] ++ lb) encs S Sp N w0) (hb0 : Below w0.heap.size w0 w) (hps : ∀ x, (encs x).size = ps.size)
    (I Ix : List α → World → Prop) (hI : OwnFrom w.heap.size I) (hIx : OwnFrom w.heap.size Ix) (h0 : I [] w) (Ax : α → Act → World → Prop) (hAx : ∀ x a', OwnFrom w.heap.size (fun (_ : Unit) W => Ax x a' W))
    (hassign : ∀ (l : Nat) (pre : List α) (x : α) (W : World) (K : Act → World → Prop), I pre W → (∀ a' W', KeepS w.heap.size W W' → I pre W' → Ax x a' W' → K a' W') →
      assign.wpIn (Fence.wide.inRound l) 8 P (Exit.then K (fun _ _ _ => False)) { tmps := (ps.zip (encs x)).foldl (fun t (p, v) => t.setIfInBounds p v) a.tmps, defers := [] } W)
    (hbody : ∀ (l : Nat) (pre : List α) (x : α) (a' : Act) (W : World), l = w.heap.size + 1 → (∃ r, W.heap[l]? = some (.loop r)) → I pre W → Ax x a' W → pre.length < N → body.wpIn (Fence.wide.inRound l) 8 P (roundS w.heap.size I Ix (pre ++ [x]) W) a' W)
    (hdone : ∀ (D : Nat) (xs : List α) (W : World), w.heap.size ≤ D → S xs → I xs W → W.heap[D]? = some (.deferred (some [])) → Q .normal { a with defers := { target := .collected D, args := #[] } :: a.defers } W)
    (hstop : ∀ (D : Nat) (pre : List α) (W : World), w.heap.size ≤ D → Sp pre → Ix pre W → W.heap[D]? = some (.deferred (some [])) → Code.ret.wpIn Fence.wide 8 P Q { a with defers := { target := .collected D, args := #[] } :: a.defers } W) :
    (Code.rangeFunc g ps assign body).wpIn Fence.wide 8 P Q a w := by
  refine wpIn_rangeFunc fun fn hfn => ?_
  obtain ⟨L, hL⟩ : ∃ L : LoopState → Option Code → Loop, L = fun st pe => { state := st, pending := pe, fn, tmps := a.tmps, params := ps, assign, body, defers := w.heap.size } := ⟨_, rfl⟩
  obtain ⟨W1, hW1⟩ : ∃ W1, (w.alloc (.deferred (some []))).alloc (.loop (L .ready none)) = W1 := ⟨_, rfl⟩
  have hz1 : W1.heap.size = w.heap.size + 2 := by rw [← hW1]; simp
  have hg1 : Grow w W1 := by rw [← hW1]; exact (Grow.alloc _ _).trans (Grow.alloc _ _)
  -- the record and the block for the rounds' deferred calls
  obtain ⟨R, hR⟩ : ∃ R : LoopState → Option Code → World → Prop, R = fun st pe W => W.heap[w.heap.size + 1]? = some (.loop (L st pe)) ∧ W.heap[w.heap.size]? = some (.deferred (some [])) := ⟨_, rfl⟩
  have hR0 : R .ready none W1 := by
    rw [hR, ← hW1]
    have h1 := World.alloc_heap_new (w.alloc (.deferred (some []))) (.loop (L .ready none))
    rw [World.size_alloc] at h1
    exact ⟨h1, (Below.heap_alloc _ _ _ (by simp)).trans (World.alloc_heap_new w _)⟩
  have hRo : ∀ st pe, OwnFrom (w.heap.size + 2) (fun (_ : List α) W => R st pe W) := fun st pe _ X Y row hs hgr hr => by
    rw [hR] at hs ⊢
    refine ⟨(hgr.block _ (Array.getElem?_eq_some_iff.1 hs.1).1 fun e => ?_).trans hs.1, (hgr.block _ (Array.getElem?_eq_some_iff.1 hs.2).1 fun e => ?_).trans hs.2⟩
    · have := (hr _ e.symm).1; omega
    · have := (hr _ e.symm).1; omega
  have hRk : ∀ {st pe} {X Y : World}, R st pe X → KeepS w.heap.size X Y → R st pe Y := fun {st pe X Y} hs hk => by
    rw [hR] at hs ⊢
    exact ⟨hk.two.trans hs.1, hk.one.trans hs.2⟩
  -- turning the record
  have hRp : ∀ {st pe} {X : World} (st' : LoopState) (pe' : Option Code), R st pe X → R st' pe' (X.putObj (w.heap.size + 1) (.loop (L st' pe'))) := fun {st pe X} st' pe' hs => by
    rw [hR] at hs ⊢
    exact ⟨World.putObj_heap_same (Array.getElem?_eq_some_iff.1 hs.1).1, (World.putObj_heap_other (by omega)).trans hs.2⟩
  have hIp : ∀ {st pe} {J : List α → World → Prop} {xs : List α} {X : World} (o : Obj), OwnFrom w.heap.size J → R st pe X → J xs X → J xs (X.putObj (w.heap.size + 1) o) := fun {st pe J xs X} o hJ hs hi => by
    rw [hR] at hs
    exact hJ.putObj _ hi (by omega) hs.1 rfl
  have hmono : ∀ {J : List α → World → Prop}, OwnFrom w.heap.size J → OwnFrom (w.heap.size + 2) J := fun hJ s X Y row hs hgr hr => hJ s X Y row hs hgr fun r e => ⟨by have := (hr r e).1; omega, (hr r e).2⟩
  refine ⟨w.heap.size + 1, [{ target := .collected w.heap.size, args := #[] }], W1, { target := .fn (.func gf) lb, args := first ++ #[.func (.yield (w.heap.size + 1)) #[] #[]] }, W1, gf, first ++ #[.func (.yield (w.heap.size + 1)) #[] #[]] ++ lb, W1, ?_, ?_, fun _ _ => trivial, ?_, fun h => (by cases h), ?_⟩
  · rw [← hW1, hL]; exact run_enterLoop_outer _ _ _ _ _
  · simp only [resolve, hg]
    simp [go_sem]
  · simp [invoke, go_sem, eg]
  · refine callsIn_wide.2 (callsIn_wide.1 ((hseq (w.heap.size + 1) (fun pre W => I pre W ∧ R .ready none W) (fun pre W => Ix pre W ∧ R .done (some .ret) W) W1 (hb0.trans (Below.mono hg1 hb0.size)) ?_ ?_ ?_ ⟨?_, hR0⟩).mono ?_))
    · rw [hz1]; exact (hmono hI).and (hRo _ _)
    · rw [hz1]; exact (hmono hIx).and (hRo _ _)
    · -- a round
      rintro pre x W ⟨hi, hr⟩ hlen
      have hl := hr
      rw [hR] at hl
      have hy := run_yield (P := P) (args := encs x) hl.1 (by rw [hL]; exact hps x)
      refine ⟨_, _, _, _, hy, roundIn_of_wpIn (by rw [hL]; exact hfn) ?_⟩
      rw [hL]
      refine hassign _ pre x W _ hi fun a' Wa hka hia hax => ?_
      have hra := hRk hr hka
      have hla := hra
      rw [hR] at hla
      have hra2 := hRp .busy none hra
      have hla2 := hra2
      rw [hR] at hla2
      have hb := run_beginRound (P := P) hla.1 (by rw [hL])
      refine ⟨_, hb, ?_⟩
      have e1 : ({ L .ready none with state := .busy } : Loop) = L .busy none := by rw [hL]
      rw [e1]
      refine wpIn_mono (hbody _ pre x a' _ rfl ⟨_, hla2.1⟩ (hIp _ hI hra hia) ((hAx x a').putObj (s := ()) _ hax (by omega) hla.1 rfl) hlen) ?_
      have hfin : ∀ (jump : Option Code) (W3 : World), KeepS w.heap.size (Wa.putObj (w.heap.size + 1) (.loop (L .busy none))) W3 → R .busy none W3 ∧ (Instr.endRound (w.heap.size + 1) jump).run P W3 = .ok (.bool jump.isNone) (W3.putObj (w.heap.size + 1) (.loop (L (if jump.isNone then .ready else .done) jump))) := fun jump W3 hk3 => by
        have hr3 := hRk hra2 hk3
        have hl3 := hr3
        rw [hR] at hl3
        have h := run_endRound (P := P) jump hl3.1
        have e2 : ({ L .busy none with state := if jump.isNone then .ready else .done, pending := jump } : Loop) = L (if jump.isNone then .ready else .done) jump := by rw [hL]
        rw [e2] at h
        exact ⟨hr3, h⟩
      rintro e a3 W3 hp
      cases e with
      | normal =>
        obtain ⟨hk3, hi3⟩ := hp
        obtain ⟨hr3, hrun⟩ := hfin none W3 hk3
        exact ⟨_, _, hrun, .inl ⟨rfl, hIp _ hI hr3 hi3, hRp _ _ hr3⟩⟩
      | ret =>
        obtain ⟨hk3, hi3⟩ := hp
        obtain ⟨hr3, hrun⟩ := hfin (some .ret) W3 hk3
        exact ⟨_, _, hrun, .inr ⟨rfl, hIp _ hIx hr3 hi3, hRp _ _ hr3⟩⟩
      | _ => exact hp.elim
    · rw [← hW1]; exact hI.alloc _ (hI.alloc _ h0)
    · -- behind the iterator
      rintro e W2 ⟨⟨v, rfl⟩, (⟨xs, hS, hi, hr⟩ | ⟨pre, hS, hi, hr⟩)⟩
      · have hl := hr
        rw [hR] at hl
        have h := run_endLoop (P := P) hl.1 (by rw [hL]; simp)
        refine ⟨_, _, h, ?_⟩
        have e3 : (L .ready none).pending = none := by rw [hL]
        rw [e3]
        exact hdone _ xs _ (Nat.le_refl _) hS (hIp _ hI hr hi) ((World.putObj_heap_other (by omega)).trans hl.2)
      · have hl := hr
        rw [hR] at hl
        have h := run_endLoop (P := P) hl.1 (by rw [hL]; simp)
        refine ⟨_, _, h, ?_⟩
        have e3 : (L .done (some .ret)).pending = some .ret := by rw [hL]
        rw [e3]
        exact hstop _ pre _ (Nat.le_refl _) hS (hIp _ hIx hr hi) ((World.putObj_heap_other (by omega)).trans hl.2)

end Go.Proofs.Ytcgnibfcjadnjaa
