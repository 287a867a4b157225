/- Iter: a range over a method value of an iterator that stores into blocks of its own (a truth that turns): the law of the walk, at the wide fence, outside of other rounds. Turn: memory of the iterator over truths: what it keeps, and the truth that turns. -/
import Derived.RangeFuncNested
import Derived.RangeFuncBound
import Derived.RangeFuncCalls
import Derived.RangeFuncLeaves
import Derived.Shelf.Abstract
import Derived.OwnWalkIn
import Derived.TacticsInMore
import Derived.LoopNIn
import Derived.LoopIn
import Derived.Sort.CutIn
import Derived.Test.YthehkgpnnndboaaDoorPaper
import Derived.Test.YthehkgpnnndboaaDoorMaths
namespace Go.Proofs.YthehkgpnnndboaaDoor
open Go.RowKit Go.Shelf

/-- all blocks below n₀, the block q, and all from m on, stay as they are -/
structure KeepM (n₀ q m : Nat) (A B : World) : Prop where
  below : Below n₀ A B
  same : ∀ k, (k = q ∨ m ≤ k) → k < A.heap.size → B.heap[k]? = A.heap[k]?
theorem KeepM.refl (n₀ q m : Nat) (A : World) : KeepM n₀ q m A A := ⟨Below.refl _ _, fun _ _ _ => rfl⟩
theorem KeepM.trans {n₀ q m : Nat} {A B C : World} (h : KeepM n₀ q m A B) (k : KeepM n₀ q m B C) : KeepM n₀ q m A C := ⟨h.below.trans k.below, fun i hi hl => (k.same i hi (Nat.lt_of_lt_of_le hl h.below.size)).trans (h.same i hi hl)⟩
theorem KeepM.mono {n₀ n₁ q m m' : Nat} {A B : World} (h : KeepM n₀ q m A B) (h0 : n₁ ≤ n₀) (h1 : m ≤ m') : KeepM n₁ q m' A B := ⟨Below.mono h.below h0, fun k hk => h.same k (by rcases hk with hk | hk; exact .inl hk; exact .inr (by omega))⟩
theorem KeepM.of_grow {n₀ q m : Nat} {A B : World} (h : Grow A B) (h0 : n₀ ≤ A.heap.size) : KeepM n₀ q m A B := ⟨Below.mono h h0, fun k _ hk => Below.block h k hk⟩
theorem KeepM.block {n₀ q m b : Nat} {A B : World} {t : TypeId} {cs : Array Value} (h : KeepM n₀ q m A B) (hq : m ≤ b) (hb : BlockIs A b t cs) : BlockIs B b t cs := (h.same b (.inr hq) hb.lt).trans hb
theorem KeepM.blockQ {n₀ q m : Nat} {A B : World} {t : TypeId} {cs : Array Value} (h : KeepM n₀ q m A B) (hb : BlockIs A q t cs) : BlockIs B q t cs := (h.same q (.inl rfl) hb.lt).trans hb
theorem KeepM.at_ {n₀ q m b : Nat} {A B : World} {o : Obj} (h : KeepM n₀ q m A B) (hq : m ≤ b) (hb : A.heap[b]? = some o) : B.heap[b]? = some o := (h.same b (.inr hq) (Array.getElem?_eq_some_iff.1 hb).1).trans hb
/-- a store into a block between the two bounds -/
theorem KeepM.store {n₀ q m b : Nat} (A : World) (i : Nat) (v : Value) (h0 : n₀ ≤ b) (h1 : b < m) (h2 : q ≠ b) : KeepM n₀ q m A (A.setCell ⟨b, i, none⟩ v) :=
  ⟨(Below.refl _ _).setCell (p := ⟨b, i, none⟩) h0 v, fun k hk _ => Below.heap_setCell A ⟨b, i, none⟩ v k (by intro e; have : k = b := e; rcases hk with hk | hk <;> omega)⟩
theorem KeepM.put {n₀ q m l : Nat} (A : World) (o : Obj) (h0 : n₀ ≤ l) (h1 : l < m) (h2 : q ≠ l) : KeepM n₀ q m A (A.putObj l o) :=
  ⟨⟨rfl, rfl, rfl, by simp, fun k hk => World.putObj_heap_other (by omega)⟩, fun k hk _ => World.putObj_heap_other (by rcases hk with hk | hk <;> omega)⟩

/-- what a round must end in -/
def roundM {α : Type} (n₀ q m : Nat) (I Ix : List α → World → Prop) (xs : List α) (W : World) : Exit → Act → World → Prop
  | .normal, _, W' => KeepM n₀ q m W W' ∧ I xs W'
  | .ret, _, W' => KeepM n₀ q m W W' ∧ Ix xs W'
  | _, _, _ => False
/-- it looks at blocks below B alone -/
def LowFrom {β : Type} (B : Nat) (I : β → World → Prop) : Prop := ∀ s W W', I s W → Below B W W' → I s W'
theorem LowFrom.own {β : Type} {B : Nat} {I : β → World → Prop} (h : LowFrom B I) (hB : ∀ s W, I s W → B ≤ W.heap.size) : OwnFrom B I := fun s W W' row hs hg hr =>
  h s W W' hs ⟨hg.os, hg.tape, hg.output, hg.size, fun k hk => hg.block k (Nat.lt_of_lt_of_le hk (hB s W hs)) fun e => by have := (hr k e.symm).1; omega⟩
theorem LowFrom.mono {β : Type} {B B' : Nat} {I : β → World → Prop} (h : LowFrom B I) (hB : B ≤ B') : LowFrom B' I := fun s W W' hs hb => h s W W' hs (Below.mono hb hB)
theorem LowFrom.and {β : Type} {B : Nat} {I I' : β → World → Prop} (h : LowFrom B I) (h' : LowFrom B I') : LowFrom B (fun s W => I s W ∧ I' s W) := fun s W W' hs hb => ⟨h s W W' hs.1 hb, h' s W W' hs.2 hb⟩
/-- the contract of an iterator that a loop's body may trust, and that trusts the body to keep what it has laid -/
def SeqL {α : Type} (P : Program) (gf : Nat) (args : Value → Array Value) (encs : α → Array Value) (n₀ q : Nat) (S Sp Pr : List α → Prop) (w : World) : Prop :=
  ∀ (l : Nat) (J Jx : List α → World → Prop) (W : World), Below w.heap.size w W → LowFrom W.heap.size J → LowFrom W.heap.size Jx →
    (∀ pre x W1, J pre W1 → Pr (pre ++ [x]) → YieldAt Fence.wide 8 P l (encs x) W1 fun e W' => KeepM n₀ q W.heap.size W1 W' ∧ ((e = .returned (.bool true) ∧ J (pre ++ [x]) W') ∨ (e = .returned (.bool false) ∧ Jx (pre ++ [x]) W'))) →
    J [] W → CallsIn Fence.wide 8 P gf (args (.func (.yield l) #[] #[])) W fun e W' => (∃ v, e = .returned v) ∧ ((∃ xs, S xs ∧ J xs W') ∨ (∃ pre, Sp pre ∧ Jx pre W'))

/-- the law -/
theorem wpIn_rangeLow {α : Type} {P : Program} {g : Operand} {ps : Array Tmp} {assign body : Code} {Q : Exit → Act → World → Prop} {a : Act} {w : World}
    {gf : Nat} {first lb : Array Value} (hg : a.eval g = .func (.func gf) first lb) (eg : ∀ args w, (callFunc gf args).run P w = .ok (.enter gf args) w)
    {encs : α → Array Value} {n₀ q : Nat} {S Sp Pr : List α → Prop} {w0 : World} (hseq : SeqL P gf (fun y => first ++ #[y] ++ lb) encs n₀ q S Sp Pr w0) (hn0 : n₀ ≤ w.heap.size) (hq : q < w.heap.size) (hb0 : Below w0.heap.size w0 w) (hps : ∀ x, (encs x).size = ps.size)
    (I Ix : List α → World → Prop) (hIl : LowFrom w.heap.size I) (hIxl : LowFrom w.heap.size Ix) (hIs : ∀ s W, I s W → w.heap.size ≤ W.heap.size) (hIxs : ∀ s W, Ix s W → w.heap.size ≤ W.heap.size) (h0 : I [] w) (Ax : α → Act → World → Prop) (hAx : ∀ x a', OwnFrom w.heap.size (fun (_ : Unit) W => Ax x a' W))
    (hassign : ∀ (l : Nat) (pre : List α) (x : α) (W : World) (K : Act → World → Prop), I pre W → (∀ a' W', KeepM n₀ q w.heap.size W W' → I pre W' → Ax x a' W' → K a' W') →
      assign.wpIn (Fence.wide.inRound l) 8 P (Exit.then K (fun _ _ _ => False)) { tmps := (ps.zip (encs x)).foldl (fun t (p, v) => t.setIfInBounds p v) a.tmps, defers := [] } W)
    (hbody : ∀ (l : Nat) (pre : List α) (x : α) (a' : Act) (W : World), w.heap.size ≤ l → (∃ r, W.heap[l]? = some (.loop r)) → I pre W → Ax x a' W → Pr (pre ++ [x]) → body.wpIn (Fence.wide.inRound l) 8 P (roundM n₀ q w.heap.size I Ix (pre ++ [x]) W) a' W)
    (hdone : ∀ (D : Nat) (xs : List α) (W : World), w.heap.size ≤ D → S xs → I xs W → W.heap[D]? = some (.deferred (some [])) → Q .normal { a with defers := { target := .collected D, args := #[] } :: a.defers } W)
    (hstop : ∀ (D : Nat) (pre : List α) (W : World), w.heap.size ≤ D → Sp pre → Ix pre W → W.heap[D]? = some (.deferred (some [])) → Code.ret.wpIn Fence.wide 8 P Q { a with defers := { target := .collected D, args := #[] } :: a.defers } W) :
    (Code.rangeFunc g ps assign body).wpIn Fence.wide 8 P Q a w := by
  have hI : OwnFrom w.heap.size I := hIl.own hIs
  have hIx : OwnFrom w.heap.size Ix := hIxl.own hIxs
  refine wpIn_rangeFunc fun fn hfn => ?_
  obtain ⟨L, hL⟩ : ∃ L : LoopState → Option Code → Loop, L = fun st pe => { state := st, pending := pe, fn, tmps := a.tmps, params := ps, assign, body, defers := w.heap.size } := ⟨_, rfl⟩
  obtain ⟨W1, hW1⟩ : ∃ W1, (w.alloc (.deferred (some []))).alloc (.loop (L .ready none)) = W1 := ⟨_, rfl⟩
  have hz1 : W1.heap.size = w.heap.size + 2 := by rw [← hW1]; simp
  have hg1 : Grow w W1 := by rw [← hW1]; exact (Grow.alloc _ _).trans (Grow.alloc _ _)
  -- the record and the block for the rounds' deferred calls
  obtain ⟨R, hR⟩ : ∃ R : LoopState → Option Code → World → Prop, R = fun st pe W => W.heap[w.heap.size + 1]? = some (.loop (L st pe)) ∧ W.heap[w.heap.size]? = some (.deferred (some [])) := ⟨_, rfl⟩
  have hR0 : R .ready none W1 := by
    rw [hR, ← hW1]
    have h1 := World.alloc_heap_new (w.alloc (.deferred (some []))) (.loop (L .ready none))
    rw [World.size_alloc] at h1
    exact ⟨h1, (Below.heap_alloc _ _ _ (by simp)).trans (World.alloc_heap_new w _)⟩
  have hRo : ∀ st pe, LowFrom (w.heap.size + 2) (fun (_ : List α) W => R st pe W) := fun st pe _ X Y hs hgr => by
    rw [hR] at hs ⊢
    exact ⟨(hgr.block _ (by omega)).trans hs.1, (hgr.block _ (by omega)).trans hs.2⟩
  have hRk : ∀ {st pe} {X Y : World}, R st pe X → KeepM n₀ q w.heap.size X Y → R st pe Y := fun {st pe X Y} hs hk => by
    rw [hR] at hs ⊢
    exact ⟨hk.at_ (by omega) hs.1, hk.at_ (Nat.le_refl _) hs.2⟩
  -- turning the record
  have hRp : ∀ {st pe} {X : World} (st' : LoopState) (pe' : Option Code), R st pe X → R st' pe' (X.putObj (w.heap.size + 1) (.loop (L st' pe'))) := fun {st pe X} st' pe' hs => by
    rw [hR] at hs ⊢
    exact ⟨World.putObj_heap_same (Array.getElem?_eq_some_iff.1 hs.1).1, (World.putObj_heap_other (by omega)).trans hs.2⟩
  have hIp : ∀ {st pe} {J : List α → World → Prop} {xs : List α} {X : World} (o : Obj), OwnFrom w.heap.size J → R st pe X → J xs X → J xs (X.putObj (w.heap.size + 1) o) := fun {st pe J xs X} o hJ hs hi => by
    rw [hR] at hs
    exact hJ.putObj _ hi (by omega) hs.1 rfl
  have hwk : ∀ (X : World) (o : Obj), KeepM n₀ q W1.heap.size X (X.putObj (w.heap.size + 1) o) := fun X o => KeepM.put X o (by omega) (by omega) (by omega)
  refine ⟨w.heap.size + 1, [{ target := .collected w.heap.size, args := #[] }], W1, { target := .fn (.func gf) lb, args := first ++ #[.func (.yield (w.heap.size + 1)) #[] #[]] }, W1, gf, first ++ #[.func (.yield (w.heap.size + 1)) #[] #[]] ++ lb, W1, ?_, ?_, fun _ _ => trivial, ?_, fun h => (by cases h), ?_⟩
  · rw [← hW1, hL]; exact run_enterLoop_outer _ _ _ _ _
  · simp only [resolve, hg]
    simp [go_sem]
  · simp [invoke, go_sem, eg]
  · refine callsIn_wide.2 (callsIn_wide.1 ((hseq (w.heap.size + 1) (fun pre W => I pre W ∧ R .ready none W) (fun pre W => Ix pre W ∧ R .done (some .ret) W) W1 (hb0.trans (Below.mono hg1 hb0.size)) ?_ ?_ ?_ ⟨?_, hR0⟩).mono ?_))
    · rw [hz1]; exact (hIl.mono (by omega)).and (hRo _ _)
    · rw [hz1]; exact (hIxl.mono (by omega)).and (hRo _ _)
    · -- a round
      rintro pre x W ⟨hi, hr⟩ hlen
      have hl := hr
      rw [hR] at hl
      have hy := run_yield (P := P) (args := encs x) hl.1 (by rw [hL]; exact hps x)
      refine ⟨_, _, _, _, hy, roundIn_of_wpIn (by rw [hL]; exact hfn) ?_⟩
      rw [hL]
      refine hassign _ pre x W _ hi fun a' Wa hka hia hax => ?_
      have hra := hRk hr hka
      have hla := hra
      rw [hR] at hla
      have hra2 := hRp .busy none hra
      have hla2 := hra2
      rw [hR] at hla2
      have hb := run_beginRound (P := P) hla.1 (by rw [hL])
      refine ⟨_, hb, ?_⟩
      have e1 : ({ L .ready none with state := .busy } : Loop) = L .busy none := by rw [hL]
      rw [e1]
      refine wpIn_mono (hbody _ pre x a' _ (by omega) ⟨_, hla2.1⟩ (hIp _ hI hra hia) ((hAx x a').putObj (s := ()) _ hax (by omega) hla.1 rfl) hlen) ?_
      have hfin : ∀ (jump : Option Code) (W3 : World), KeepM n₀ q w.heap.size (Wa.putObj (w.heap.size + 1) (.loop (L .busy none))) W3 → R .busy none W3 ∧ (Instr.endRound (w.heap.size + 1) jump).run P W3 = .ok (.bool jump.isNone) (W3.putObj (w.heap.size + 1) (.loop (L (if jump.isNone then .ready else .done) jump))) ∧ KeepM n₀ q W1.heap.size W (W3.putObj (w.heap.size + 1) (.loop (L (if jump.isNone then .ready else .done) jump))) := fun jump W3 hk3 => by
        have hr3 := hRk hra2 hk3
        have hl3 := hr3
        rw [hR] at hl3
        have h := run_endRound (P := P) jump hl3.1
        have e2 : ({ L .busy none with state := if jump.isNone then .ready else .done, pending := jump } : Loop) = L (if jump.isNone then .ready else .done) jump := by rw [hL]
        rw [e2] at h
        exact ⟨hr3, h, ((hka.mono (Nat.le_refl _) (by omega)).trans (hwk _ _)).trans ((hk3.mono (Nat.le_refl _) (by omega)).trans (hwk _ _))⟩
      rintro e a3 W3 hp
      cases e with
      | normal =>
        obtain ⟨hk3, hi3⟩ := hp
        obtain ⟨hr3, hrun, hkk⟩ := hfin none W3 hk3
        exact ⟨_, _, hrun, hkk, .inl ⟨rfl, hIp _ hI hr3 hi3, hRp _ _ hr3⟩⟩
      | ret =>
        obtain ⟨hk3, hi3⟩ := hp
        obtain ⟨hr3, hrun, hkk⟩ := hfin (some .ret) W3 hk3
        exact ⟨_, _, hrun, hkk, .inr ⟨rfl, hIp _ hIx hr3 hi3, hRp _ _ hr3⟩⟩
      | _ => exact hp.elim
    · rw [← hW1]; exact hI.alloc _ (hI.alloc _ h0)
    · -- behind the iterator
      rintro e W2 ⟨⟨v, rfl⟩, (⟨xs, hS, hi, hr⟩ | ⟨pre, hS, hi, hr⟩)⟩
      · have hl := hr
        rw [hR] at hl
        have h := run_endLoop (P := P) hl.1 (by rw [hL]; simp)
        refine ⟨_, _, h, ?_⟩
        have e3 : (L .ready none).pending = none := by rw [hL]
        rw [e3]
        exact hdone _ xs _ (Nat.le_refl _) hS (hIp _ hI hr hi) ((World.putObj_heap_other (by omega)).trans hl.2)
      · have hl := hr
        rw [hR] at hl
        have h := run_endLoop (P := P) hl.1 (by rw [hL]; simp)
        refine ⟨_, _, h, ?_⟩
        have e3 : (L .done (some .ret)).pending = some .ret := by rw [hL]
        rw [e3]
        exact hstop _ pre _ (Nat.le_refl _) hS (hIp _ hIx hr hi) ((World.putObj_heap_other (by omega)).trans hl.2)

end Go.Proofs.YthehkgpnnndboaaDoor

namespace Go.Proofs.YthehkgpnnndboaaDoor
open Go.RowKit Go.Shelf

/-- all blocks below n₀, the block q and all from base on, but bt, stay as they are -/
structure KeepE (n₀ q base bt : Nat) (A B : World) : Prop where
  below : Below n₀ A B
  same : ∀ k, (k = q ∨ base ≤ k) → k ≠ bt → k < A.heap.size → B.heap[k]? = A.heap[k]?
namespace KeepE
variable {n₀ q base bt : Nat} {A B C : World}
theorem refl (n₀ q base bt : Nat) (A : World) : KeepE n₀ q base bt A A := ⟨Below.refl _ _, fun _ _ _ _ => rfl⟩
theorem trans (h : KeepE n₀ q base bt A B) (k : KeepE n₀ q base bt B C) : KeepE n₀ q base bt A C :=
  ⟨h.below.trans k.below, fun i hi hb hl => (k.same i hi hb (Nat.lt_of_lt_of_le hl h.below.size)).trans (h.same i hi hb hl)⟩
theorem of_grow (h : Grow A B) (h0 : n₀ ≤ A.heap.size) : KeepE n₀ q base bt A B := ⟨Below.mono h h0, fun k _ _ hk => Below.block h k hk⟩
theorem of_keep (h : KeepM n₀ q base A B) : KeepE n₀ q base bt A B := ⟨h.below, fun k hk _ hl => h.same k hk hl⟩
theorem store (A : World) (i : Nat) (v : Value) (h0 : n₀ ≤ bt) : KeepE n₀ q base bt A (A.setCell ⟨bt, i, none⟩ v) :=
  ⟨(Below.refl _ _).setCell (p := ⟨bt, i, none⟩) h0 v, fun k _ hb _ => Below.heap_setCell A ⟨bt, i, none⟩ v k hb⟩
theorem block (h : KeepE n₀ q base bt A B) {b : Nat} {t : TypeId} {cs : Array Value} (h1 : base ≤ b) (h2 : b ≠ bt) (hb : BlockIs A b t cs) : BlockIs B b t cs := (h.same b (.inr h1) h2 hb.lt).trans hb
theorem size (h : KeepE n₀ q base bt A B) : A.heap.size ≤ B.heap.size := h.below.size
end KeepE
/-- the truth that turns begins with some points; behind the items it is 0 -/
def TAt (W : World) (bt : Nat) (t : TypeId) (n : Nat) (ps : List Int) : Prop :=
  ∃ cs : List Int, cs.length = 4 ∧ BlockIs W bt t (cs.map (Value.int .i64)).toArray ∧ cs.take ps.length = ps ∧ ∀ i, n ≤ i → cs.getD i 0 = 0
theorem TAt.keep {W W' : World} {bt n : Nat} {t : TypeId} {ps : List Int} (h : TAt W bt t n ps) (hb : W'.heap[bt]? = W.heap[bt]?) : TAt W' bt t n ps := by
  obtain ⟨cs, h1, h2, h3, h4⟩ := h
  exact ⟨cs, h1, hb.trans h2, h3, h4⟩
theorem TAt.grow {W W' : World} {bt n : Nat} {t : TypeId} {ps : List Int} (h : TAt W bt t n ps) (hb : Grow W W') : TAt W' bt t n ps := by
  obtain ⟨cs, h1, h2, h3, h4⟩ := h
  exact ⟨cs, h1, hb.block h2, h3, h4⟩
theorem TAt.less {W : World} {bt n : Nat} {t : TypeId} {ps : List Int} {x : Int} (h : TAt W bt t n (ps ++ [x])) : TAt W bt t n ps := by
  obtain ⟨cs, h1, h2, h3, h4⟩ := h
  refine ⟨cs, h1, h2, ?_, h4⟩
  have := congrArg (List.take ps.length) h3
  rw [List.take_take, List.length_append, List.length_singleton, Nat.min_eq_left (by omega), List.take_left'] at this
  · exact this
  · rfl
theorem TAt.store {W : World} {bt n : Nat} {t : TypeId} {ps : List Int} (h : TAt W bt t n ps) (hk : ps.length < n) (hn : n ≤ 4) (x : Int) : TAt (W.setCell ⟨bt, ps.length, none⟩ (.int .i64 x)) bt t n (ps ++ [x]) := by
  obtain ⟨cs, h1, h2, h3, h4⟩ := h
  refine ⟨cs.set ps.length x, by rw [List.length_set]; exact h1, ?_, ?_, fun i hi => ?_⟩
  · have := h2.near ps.length (.int .i64 x)
    rw [List.map_set]
    simpa using this
  · rw [List.length_append, List.length_singleton, List.take_add_one, List.getElem?_set_self (by omega), List.take_set_of_le (Nat.le_refl _), h3]
    rfl
  · have := h4 i hi
    rw [List.getD_eq_getElem?_getD] at this ⊢
    rw [List.getElem?_set_ne (by omega)]
    exact this
theorem TAt.full {W : World} {bt n : Nat} {t : TypeId} {ps : List Int} (h : TAt W bt t n ps) (hk : ps.length = n) (hn : n ≤ 4) : BlockIs W bt t ((padT ps).map (Value.int .i64)).toArray := by
  obtain ⟨cs, h1, h2, h3, h4⟩ := h
  have : cs = padT ps := by
    refine List.ext_getElem? fun i => ?_
    unfold padT
    by_cases hi : i < ps.length
    · have e := List.getElem?_take_of_lt (l := cs) hi
      rw [h3] at e
      rw [List.getElem?_append_left hi, e]
    · by_cases h5 : i < 4
      · rw [List.getElem?_append_right (by omega), List.getElem?_replicate, if_pos (by omega), List.getElem?_eq_getElem (by omega)]
        have := h4 i (by omega)
        rw [List.getD_eq_getElem?_getD, List.getElem?_eq_getElem (by omega)] at this
        exact congrArg some this
      · rw [List.getElem?_eq_none (by omega), List.getElem?_eq_none (by rw [List.length_append, List.length_replicate]; omega)]
  rw [← this]
  exact h2
theorem TAt.spot {W : World} {bt n : Nat} {t : TypeId} {ps : List Int} (h : TAt W bt t n ps) {k : Nat} (hk : k < 4) : (∃ v, W.cell? ⟨bt, k, none⟩ = some v) ∧ W.frozen? ⟨bt, k, none⟩ = false := by
  obtain ⟨cs, h1, h2, _⟩ := h
  refine ⟨⟨.int .i64 (cs[k]'(by omega)), ?_⟩, h2.frozen k⟩
  rw [h2.cell]
  simp [show k < cs.length by omega]

end Go.Proofs.YthehkgpnnndboaaDoor

