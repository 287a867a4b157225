/- What was seen after each answer for a part: the iterator. -/
import Derived.RangeFuncBox
import Derived.RangeFuncLeaves
import Derived.RangeFuncNested
import Derived.RangeFuncBound
import Derived.RangeFuncCalls
import Derived.Shelf.Abstract
import Derived.WalkKit
import Derived.OwnWalkIn
import Derived.TacticsInMore
import Derived.LoopNIn
import Derived.LoopIn
import Derived.Test.YtjpnblflenlnaaaGreatNarrow
namespace Go.Proofs.YtjpnblflenlnaaaGreat
open Go.RowKit Go.Shelf
attribute [local go_sem] Oper.semAt_some

def answersTo (s : SeenD) (part : Int) (n : Nat) : List SeenD := (List.range n).filterMap fun (i : Nat) => if (narrowD s part i).2 = true then some (narrowD s part i).1 else none
theorem answersTo_succ (s : SeenD) (part : Int) (n : Nat) : answersTo s part (n + 1) = answersTo s part n ++ (if (narrowD s part n).2 = true then [(narrowD s part n).1] else []) := by
  unfold answersTo
  rw [List.range_succ, List.filterMap_append]
  by_cases h : (narrowD s part n).2 = true
  · simp [h]
  · simp [h]
theorem answersTo_length (s : SeenD) (part : Int) (n : Nat) : (answersTo s part n).length ≤ n := by
  have := List.length_filterMap_le (fun (i : Nat) => if (narrowD s part i).2 = true then some (narrowD s part i).1 else none) (List.range n)
  simpa [answersTo] using this
/-- the answers for a part -/
def answersD (s : SeenD) (part : Int) : List SeenD := answersTo s part 33
/-- what was seen, with these moves, within the bounds -/
structure SeenOf (ms : List Int) where
  val : SeenD
  ok : SeenIn val ∧ val.moves = ms

set_option maxHeartbeats 400000 in
theorem answers_any (s : SeenD) (A : Option Addr) (cap : Nat) (part : Int) (w : World) :
    Calls Tryz.prog 101 #[seenV s A cap, .int .i64 part] w fun e w' => e = .returned (.func (.func 124) #[] #[.pointer (some ⟨w.heap.size, 0, none⟩), .pointer (some ⟨w.heap.size + 1, 0, none⟩)]) ∧
      w' = (w.alloc (.cells (cellsS s A cap) 100)).alloc (.cells #[.int .i64 part] 3) := by
  go_enter Tryz.func101, Tryz.ntmps101
  go_wp2
  go_ret
  exact ⟨rfl, rfl⟩

/-- these two blocks lie as they lay -/
def Stay (B1 B2 : Nat) (W W' : World) : Prop := W'.heap[B1]? = W.heap[B1]? ∧ W'.heap[B2]? = W.heap[B2]?

set_option maxRecDepth 100000 in
set_option maxHeartbeats 4000000 in
theorem answers1_in (n : Nat) (hn : 1 ≤ n) (l B1 B2 : Nat) (s : SeenD) (A : Option Addr) (cap : Nat) (part : Int) (hs : SeenIn s) (hp : 0 ≤ part ∧ part ≤ 4) (J Jx : List (SeenOf s.moves) → World → Prop)
    (hY : ∀ pre x W, J pre W → pre.length < 33 → YieldAt Fence.wide (n - 1) Tryz.prog l #[seenV x.val A cap] W fun e W' =>
      (e = .returned (.bool true) ∧ J (pre ++ [x]) W' ∧ Stay B1 B2 W W') ∨ (e = .returned (.bool false) ∧ Jx (pre ++ [x]) W'))
    (W : World) (hJ : ∀ pre W1 W2, J pre W1 → Grow W1 W2 → J pre W2) (hc1 : BlockIs W B1 100 (cellsS s A cap)) (hc2 : BlockIs W B2 3 #[.int .i64 part]) (h0 : J [] W) :
    CallsIn Fence.wide n Tryz.prog 124 #[.func (.yield l) #[] #[], .pointer (some ⟨B1, 0, none⟩), .pointer (some ⟨B2, 0, none⟩)] W fun e W' => (∃ v, e = .returned v) ∧
      ((∃ ys : List (SeenOf s.moves), ys.map SeenOf.val = answersD s part ∧ J ys W') ∨ (∃ pre, True ∧ Jx pre W')) := by
  refine callsIn_of_wp Tryz.func124 rfl trivial ?_ rfl
  simp only [Tryz.ntmps124, List.size_toArray, List.length_cons, List.length_nil, Nat.reduceAdd, Nat.reduceSub, Array.replicate_succ, Array.replicate_zero, List.push_toArray, List.append_toArray, List.nil_append, List.cons_append]
  gi_wp2
  gi_loopw [7] (fun p wr => ∃ (i : Nat) (pre : List (SeenOf s.moves)), p = .int .i64 i ∧ i ≤ 33 ∧ pre.map SeenOf.val = answersTo s part i ∧ J pre wr ∧ BlockIs wr B1 100 (cellsS s A cap) ∧ BlockIs wr B2 3 #[.int .i64 part])
    (fun p _ => (33 - intOf p).toNat)
  case atStart =>
    exact ⟨0, [], rfl, by omega, rfl, h0, hc1, hc2⟩
  case round =>
    obtain ⟨i, pre, rfl, hi, hpre, hJs, hb1, hb2⟩ := hrel
    by_cases hlt : i < 33
    · have hc1r := hb1.cell
      have hc2r := hb2.cell
      have HN := Lib.hid (narrow_any s A cap part i wr hs hp ⟨by omega, by omega⟩)
      have hlen : pre.length ≤ i := by
        have := congrArg List.length hpre
        rw [List.length_map] at this
        have := answersTo_length s part i
        omega
      have HPRE := Lib.hid hpre
      have HB1 := Lib.hid hb1
      have HB2 := Lib.hid hb2
      have HSUCC := Lib.hid (answersTo_succ s part i)
      have HSN := Lib.hid (hs.narrow part i ⟨by omega, by omega⟩)
      have HMV := Lib.hid (narrowD_moves s part i)
      generalize narrowD s part i = nd at HN HSUCC HSN HMV
      obtain ⟨nv, nok⟩ := nd
      dsimp only at HN HSUCC HSN HMV
      clear hpre hb1 hb2
      have HN' := Lib.hid ((callsIn_wide (n := n - 1)).2 HN.out)
      gi_wp2_with fail
      refine ⟨trivial, HN'.out.mono ?_⟩
      rintro e w2 ⟨rfl, hb2⟩
      have hg3 : Grow wr (w2.alloc (.cells (cellsS nv A cap) 100)) := (show Grow wr w2 from hb2).trans (Grow.alloc _ _)
      have hJ3 := hJ pre wr _ hJs hg3
      have HG1 := Lib.hid (hg3.block HB1.out)
      have HG2 := Lib.hid (hg3.block HB2.out)
      clear hc1r hc2r hb2 hg3 hJs HN HN'
      cases nok with
      | true =>
        obtain ⟨fn, tmps, assign, body, hyd, hR⟩ := hY pre ⟨nv, HSN.out, HMV.out⟩ _ hJ3 (by omega)
        gi_wp2
        refine hR.mono ?_
        rintro e W3 (⟨rfl, hJ4, hk4⟩ | ⟨rfl, hJx4⟩)
        · clear hyd
          gi_wp2
          go_roundw
          case rel => exact ⟨i + 1, pre ++ [⟨nv, HSN.out, HMV.out⟩], by go_num, by omega, by rw [HSUCC.out, List.map_append, HPRE.out]; rfl, hJ4, hk4.1.trans HG1.out, hk4.2.trans HG2.out⟩
          case measure => simp [intOf]; omega
        · clear hyd
          gi_wp2
          refine bodyPost_ret (results_none rfl _ _ _) rfl ?_
          exact ⟨⟨_, rfl⟩, .inr ⟨_, trivial, hJx4⟩⟩
      | false =>
        gi_wp2
        refine ⟨fun _ h => (by cases h), ?_⟩
        gi_wp2
        go_roundw
        case rel => exact ⟨i + 1, pre, by go_num, by omega, by rw [HSUCC.out, HPRE.out]; simp, hJ3, HG1.out, HG2.out⟩
        case measure => simp [intOf]; omega
    · have hi33 : i = 33 := by omega
      subst hi33
      have HPRE := Lib.hid hpre
      clear hpre
      gi_wp2
      go_end0
      exact ⟨⟨_, rfl⟩, .inl ⟨pre, HPRE.out, hJs⟩⟩

theorem Stay.trans {B1 B2 : Nat} {X Y Z : World} (h : Stay B1 B2 X Y) (k : Stay B1 B2 Y Z) : Stay B1 B2 X Z := ⟨k.1.trans h.1, k.2.trans h.2⟩
theorem Stay.put {B1 B2 : Nat} {w : World} (h1 : B1 < w.heap.size) (h2 : B2 < w.heap.size) (W : World) (l : Nat) (o o' : Obj) (hl : w.heap.size ≤ l) (_ : W.heap[l]? = some o) (_ : o.isCells = false) (_ : o.isWalk = false) : Stay B1 B2 W (W.putObj l o') :=
  ⟨World.putObj_heap_other (by omega), World.putObj_heap_other (by omega)⟩
theorem answers_stops (n : Nat) (hn : 1 ≤ n) (B1 B2 : Nat) (s : SeenD) (A : Option Addr) (cap : Nat) (part : Int) (hs : SeenIn s) (hp : 0 ≤ part ∧ part ≤ 4) (w : World) (hc1 : BlockIs w B1 100 (cellsS s A cap)) (hc2 : BlockIs w B2 3 #[.int .i64 part]) :
    SeqStopsK Fence.wide n Tryz.prog 124 #[.pointer (some ⟨B1, 0, none⟩), .pointer (some ⟨B2, 0, none⟩)] (fun x : SeenOf s.moves => #[seenV x.val A cap]) (Stay B1 B2) (fun ys => ys.map SeenOf.val = answersD s part) (fun _ => True) 33 w := fun l J Jx W hW hJ _ hY h0 =>
  answers1_in n hn l B1 B2 s A cap part hs hp J Jx hY W (fun pre W1 W2 hj hg => hJ pre W1 W2 none hj hg.grown (fun r e => by cases e)) (hc1.below hW hc1.lt) (hc2.below hW hc2.lt) h0

end Go.Proofs.YtjpnblflenlnaaaGreat
