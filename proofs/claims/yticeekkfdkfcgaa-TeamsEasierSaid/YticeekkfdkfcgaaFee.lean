/- Fee: the fee of a team, as the program adds it up. -/
import Derived.Test.YticeekkfdkfcgaaMembers
namespace Go.Proofs.Yticeekkfdkfcgaa
open Go.RowKit Go.Shelf

attribute [local go_sem] Oper.semAt_some

def feeL {P : List PersonR} (l : List (Mem P)) : Int := (l.map fun x => x.1.2.d.fee).sum
theorem feeL_snoc {P : List PersonR} (l : List (Mem P)) (x : Mem P) : feeL (l ++ [x]) = feeL l + x.1.2.d.fee := by simp [feeL]
theorem feeL_bound {P : List PersonR} (hf : ∀ x ∈ P, 0 ≤ x.d.fee ∧ x.d.fee ≤ 1000) : ∀ (l : List (Mem P)), 0 ≤ feeL l ∧ feeL l ≤ 1000 * l.length
  | [] => by simp [feeL]
  | x :: l => by
    have ih := feeL_bound hf l
    have hx := hf x.1.2 (List.mem_of_getElem? x.2)
    have e : feeL (x :: l) = x.1.2.d.fee + feeL l := by simp [feeL]
    rw [e, List.length_cons]
    omega

/-- the four boxes of a function with a loop over the members: two of its own, two of the iterator -/
theorem four_blocks (w : World) (t1 t2 t3 t4 : TypeId) (c1 c2 c3 c4 : Array Value) : ∃ W, (((w.alloc (.cells c1 t1)).alloc (.cells c2 t2)).alloc (.cells c3 t3)).alloc (.cells c4 t4) = W ∧ Grow w W ∧ BlockIs W w.heap.size t1 c1 ∧ BlockIs W (w.heap.size + 1) t2 c2 ∧ BlockIs W (w.heap.size + 1 + 1) t3 c3 ∧ BlockIs W (w.heap.size + 1 + 1 + 1) t4 c4 ∧ W.heap.size = w.heap.size + 1 + 1 + 1 + 1 := by
  obtain ⟨W1, h1, g1, b1, _⟩ := one_block w t1 c1
  obtain ⟨W2, h2, g2, b2, _⟩ := one_block W1 t2 c2
  obtain ⟨W3, h3, g3, b3, _⟩ := one_block W2 t3 c3
  obtain ⟨W4, h4, g4, b4, _⟩ := one_block W3 t4 c4
  have z1 : W1.heap.size = w.heap.size + 1 := by rw [← h1]; simp
  have z2 : W2.heap.size = w.heap.size + 1 + 1 := by rw [← h2]; simp [z1]
  have z3 : W3.heap.size = w.heap.size + 1 + 1 + 1 := by rw [← h3]; simp [z2]
  have z4 : W4.heap.size = w.heap.size + 1 + 1 + 1 + 1 := by rw [← h4]; simp [z3]
  rw [z1] at b2
  rw [z2] at b3
  rw [z3] at b4
  exact ⟨W4, by rw [h1, h2, h3, h4], g1.trans (g2.trans (g3.trans g4)), (g2.trans (g3.trans g4)).block b1, (g3.trans g4).block b2, g4.block b3, b4, z4⟩

theorem ownFrom_size {β : Type} (B n : Nat) : OwnFrom B (fun (_ : β) W => n ≤ W.heap.size) := fun _ _ _ _ hs hg _ => Nat.le_trans hs hg.size
/-- a block of cells stays where only what is no cells turns -/
theorem block_own {X Y : World} {B q : Nat} {t : TypeId} {cs : Array Value} {row : Option Nat} (h : BlockIs X q t cs) (hg : X.grownBy Y row) (hr : ∀ r, row = some r → B ≤ r ∧ ∃ o : Obj, X.heap[r]? = some o ∧ o.isCells = false) : BlockIs Y q t cs :=
  h.grown hg (fun e => by
    obtain ⟨_, o, ho, hc⟩ := hr q e.symm
    rw [show X.heap[q]? = _ from h] at ho
    cases ho
    cases hc)

set_option maxRecDepth 100000 in
set_option maxHeartbeats 2000000 in
theorem fee_any (c : CrewR) (j : JobD) (lw : LawD) (bA : Option Addr) (bc team : Nat) (w : World) (hP : People w w.heap.size c.pa c.people) (hl : c.people.length ≤ 8) (ht : team < 1000000) (hf : ∀ x ∈ c.people, 0 ≤ x.d.fee ∧ x.d.fee ≤ 1000) :
    Calls Try.prog 48 #[taskV c j lw bA bc, .int .i64 (team : Nat)] w fun e w' => e = .returned (.int .i64 (feeL (membersL c.people team))) ∧ Below w.heap.size w w' := by
  refine (callsIn_wide (n := 8)).1 ?_
  have hro : Fence.wide.round = none := rfl
  have h52 : Fence.wide.fn 52 := trivial
  refine callsIn_of_wp_marks Try.func48 rfl trivial ?_ hro
  simp only [Try.ntmps48, List.size_toArray, List.length_cons, List.length_nil, Nat.reduceAdd, Nat.reduceSub, Array.replicate_succ, Array.replicate_zero, List.push_toArray, List.append_toArray, List.nil_append, List.cons_append]
  gi_wp2_with (gi_at_call 52; refine (members_in Fence.wide _ trivial rfl c j lw bA bc team _).mono ?_; rintro e w' ⟨rfl, rfl⟩)
  obtain ⟨W0, hW0, hg0, b1, b2, b3, b4, hz⟩ := four_blocks w 63 3 63 3 (cellsT c j lw bA bc) #[.int .i64 0] (cellsT c j lw bA bc) #[.int .i64 (team : Nat)]
  rw [hW0]
  clear hW0
  have hB0 : Below w.heap.size w W0 := hg0
  have hPW : People W0 w.heap.size c.pa c.people := hP.below hB0
  refine wpIn_rangeFunc_ownH hro (by omega) (gf := 64) (lb := #[.pointer (some ⟨w.heap.size + 1 + 1, 0, none⟩), .pointer (some ⟨w.heap.size + 1 + 1 + 1, 0, none⟩)]) rfl trivial (enters_of Try.func64 (by kernel_rfl) rfl)
    (members_stops _ (by omega) (w.heap.size + 1 + 1) (w.heap.size + 1 + 1 + 1) w.heap.size c j lw bA bc team ht (by omega) W0 b3 b4 hPW (by omega)) KeepT.trans (keepT_b (by omega) (by omega) (by omega)) (Below.refl _ _) (fun _ => rfl)
    (fun pre W => Boxed W (w.heap.size + 1) 3 (.int .i64 (feeL pre)) ∧ Below w.heap.size w W ∧ W0.heap.size ≤ W.heap.size)
    (fun _ _ _ => False)
    (OwnFrom.and (Own.from (boxed_own _ _ _) _) (OwnFrom.and (ownFrom_below (Nat.le_refl _) (by omega)) (ownFrom_size _ _)))
    (fun _ _ _ _ _ hs _ _ => hs)
    ⟨b2, hB0, Nat.le_refl _⟩
    (fun x a' W => ∃ Bx, w.heap.size + 1 + 1 + 1 < Bx ∧ BlockIs W Bx 52 (cellsP x.1.2) ∧ a' = { tmps := #[taskV c j lw bA bc, .int .i64 (team : Nat), .pointer (some ⟨w.heap.size, 0, none⟩), undef, .int .i64 0, .pointer (some ⟨w.heap.size + 1, 0, none⟩), undef, .pointer (some ⟨Bx, 0, none⟩), taskV c j lw bA bc, .int .i64 (team : Nat), .func (.func 64) #[] #[.pointer (some ⟨w.heap.size + 1 + 1, 0, none⟩), .pointer (some ⟨w.heap.size + 1 + 1 + 1, 0, none⟩)], .int .i64 (x.1.1 : Nat), personV x.1.2, undef, undef, undef, undef, undef], defers := [] })
    (fun x a' _ X Y row hs hg hr => by obtain ⟨Bx, e1, e2, e3⟩ := hs; exact ⟨Bx, e1, block_own e2 hg hr, e3⟩)
    ?assign ?body ?done ?stop
  case assign =>
    rintro l pre x W K ⟨bS, hB, hZ⟩ hK
    gi_wp2
    exact hK _ _ ((KeepsOthers.alloc _ _).from _) (KeepT.of_below (Grow.alloc W _) (by omega) (by omega) (by omega)) ⟨bS.alloc _, hB.alloc hB.size _, by simp; omega⟩ ⟨W.heap.size, by omega, BlockIs.new W _ _, rfl⟩
  case body =>
    rintro l pre x a' W hl' ⟨r, hr⟩ ⟨bS, hB, hZ⟩ ⟨Bx, hBx, bX, rfl⟩ hlt
    have cS := bS.cell
    have fS := bS.frozen
    have cX := bX.cell
    have hbn := feeL_bound hf (pre ++ [x])
    rw [feeL_snoc, List.length_append, List.length_singleton] at hbn
    have hwr : IntKind.i64.wrap (feeL pre + x.1.2.d.fee) = feeL pre + x.1.2.d.fee := IntWalk.i64_in _ (by omega)
    gi_wp2
    refine ⟨(KeepsOthers.setCell _ _ _).from _, KeepT.store _ _ _ (by omega) (by omega) (by omega), ?_, hB.setCell (p := ⟨w.heap.size + 1, 0, none⟩) (by simp) _, by simp; omega⟩
    rw [feeL_snoc]
    exact bS.set _
  case done =>
    rintro D zs W hD rfl ⟨bS, hB, hZ⟩ hK
    have cS := bS.cell
    gi_wp2
    refine ⟨by simp, .inl ⟨_, _, rfl, run_takeDeferred hK, ?_⟩⟩
    exact ⟨_, results_tmp rfl _ _ _, rfl, hB.trans (belowK_b (w := w) (Nat.le_refl _) W D _ _ (by omega) hK rfl rfl)⟩
  case stop =>
    rintro D c pre W hD _ h _
    exact h.elim

end Go.Proofs.Yticeekkfdkfcgaa
