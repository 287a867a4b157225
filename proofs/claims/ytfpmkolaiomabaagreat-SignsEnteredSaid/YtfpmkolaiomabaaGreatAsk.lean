/- What was seen after each answer for a part: the iterator. The greatest number of signs after an answer. Ask: the program's. -/
import Derived.RangeFuncBox
import Derived.RangeFuncLeaves
import Derived.RangeFuncNested
import Derived.RangeFuncBound
import Derived.RangeFuncCalls
import Derived.Shelf.Abstract
import Derived.WalkKit
import Derived.OwnWalkIn
import Derived.TacticsInMore
import Derived.LoopNIn
import Derived.LoopIn
import Derived.Test.YtfpmkolaiomabaaGreatNarrow
import Derived.Shelf.RegionOpen
import Derived.RegionIn
import Derived.Test.YtfpmkolaiomabaaGreatFind
namespace Go.Proofs.YtfpmkolaiomabaaGreat
open Go.RowKit Go.Shelf
attribute [local go_sem] Oper.semAt_some

def answersTo (s : SeenD) (part : Int) (n : Nat) : List SeenD := (List.range n).filterMap fun (i : Nat) => if (narrowD s part i).2 = true then some (narrowD s part i).1 else none
theorem answersTo_succ (s : SeenD) (part : Int) (n : Nat) : answersTo s part (n + 1) = answersTo s part n ++ (if (narrowD s part n).2 = true then [(narrowD s part n).1] else []) := by
  unfold answersTo
  rw [List.range_succ, List.filterMap_append]
  by_cases h : (narrowD s part n).2 = true
  · simp [h]
  · simp [h]
theorem answersTo_length (s : SeenD) (part : Int) (n : Nat) : (answersTo s part n).length ≤ n := by
  have := List.length_filterMap_le (fun (i : Nat) => if (narrowD s part i).2 = true then some (narrowD s part i).1 else none) (List.range n)
  simpa [answersTo] using this
/-- the answers for a part -/
def answersD (s : SeenD) (part : Int) : List SeenD := answersTo s part 33
/-- what was seen, with these moves, within the bounds -/
structure SeenOf (ms : List Int) where
  val : SeenD
  ok : SeenIn val ∧ val.moves = ms

set_option maxHeartbeats 400000 in
theorem answers_any (s : SeenD) (A : Option Addr) (cap : Nat) (part : Int) (w : World) :
    Calls Tryz.prog 101 #[seenV s A cap, .int .i64 part] w fun e w' => e = .returned (.func (.func 124) #[] #[.pointer (some ⟨w.heap.size, 0, none⟩), .pointer (some ⟨w.heap.size + 1, 0, none⟩)]) ∧
      w' = (w.alloc (.cells (cellsS s A cap) 100)).alloc (.cells #[.int .i64 part] 3) := by
  go_enter Tryz.func101, Tryz.ntmps101
  go_wp2
  go_ret
  exact ⟨rfl, rfl⟩

/-- these two blocks lie as they lay -/
def Stay (B1 B2 : Nat) (W W' : World) : Prop := W'.heap[B1]? = W.heap[B1]? ∧ W'.heap[B2]? = W.heap[B2]?

set_option maxRecDepth 100000 in
set_option maxHeartbeats 4000000 in
theorem answers1_in (n : Nat) (hn : 1 ≤ n) (l B1 B2 : Nat) (s : SeenD) (A : Option Addr) (cap : Nat) (part : Int) (hs : SeenIn s) (hp : 0 ≤ part ∧ part ≤ 4) (J Jx : List (SeenOf s.moves) → World → Prop)
    (hY : ∀ pre x W, J pre W → pre.length < 33 → YieldAt Fence.wide (n - 1) Tryz.prog l #[seenV x.val A cap] W fun e W' =>
      (e = .returned (.bool true) ∧ J (pre ++ [x]) W' ∧ Stay B1 B2 W W') ∨ (e = .returned (.bool false) ∧ Jx (pre ++ [x]) W'))
    (W : World) (hJ : ∀ pre W1 W2, J pre W1 → Grow W1 W2 → J pre W2) (hc1 : BlockIs W B1 100 (cellsS s A cap)) (hc2 : BlockIs W B2 3 #[.int .i64 part]) (h0 : J [] W) :
    CallsIn Fence.wide n Tryz.prog 124 #[.func (.yield l) #[] #[], .pointer (some ⟨B1, 0, none⟩), .pointer (some ⟨B2, 0, none⟩)] W fun e W' => (∃ v, e = .returned v) ∧
      ((∃ ys : List (SeenOf s.moves), ys.map SeenOf.val = answersD s part ∧ J ys W') ∨ (∃ pre, True ∧ Jx pre W')) := by
  refine callsIn_of_wp Tryz.func124 rfl trivial ?_ rfl
  simp only [Tryz.ntmps124, List.size_toArray, List.length_cons, List.length_nil, Nat.reduceAdd, Nat.reduceSub, Array.replicate_succ, Array.replicate_zero, List.push_toArray, List.append_toArray, List.nil_append, List.cons_append]
  gi_wp2
  gi_loopw [7] (fun p wr => ∃ (i : Nat) (pre : List (SeenOf s.moves)), p = .int .i64 i ∧ i ≤ 33 ∧ pre.map SeenOf.val = answersTo s part i ∧ J pre wr ∧ BlockIs wr B1 100 (cellsS s A cap) ∧ BlockIs wr B2 3 #[.int .i64 part])
    (fun p _ => (33 - intOf p).toNat)
  case atStart =>
    exact ⟨0, [], rfl, by omega, rfl, h0, hc1, hc2⟩
  case round =>
    obtain ⟨i, pre, rfl, hi, hpre, hJs, hb1, hb2⟩ := hrel
    by_cases hlt : i < 33
    · have hc1r := hb1.cell
      have hc2r := hb2.cell
      have HN := Lib.hid (narrow_any s A cap part i wr hs hp ⟨by omega, by omega⟩)
      have hlen : pre.length ≤ i := by
        have := congrArg List.length hpre
        rw [List.length_map] at this
        have := answersTo_length s part i
        omega
      have HPRE := Lib.hid hpre
      have HB1 := Lib.hid hb1
      have HB2 := Lib.hid hb2
      have HSUCC := Lib.hid (answersTo_succ s part i)
      have HSN := Lib.hid (hs.narrow part i ⟨by omega, by omega⟩)
      have HMV := Lib.hid (narrowD_moves s part i)
      generalize narrowD s part i = nd at HN HSUCC HSN HMV
      obtain ⟨nv, nok⟩ := nd
      dsimp only at HN HSUCC HSN HMV
      clear hpre hb1 hb2
      have HN' := Lib.hid ((callsIn_wide (n := n - 1)).2 HN.out)
      gi_wp2_with fail
      refine ⟨trivial, HN'.out.mono ?_⟩
      rintro e w2 ⟨rfl, hb2⟩
      have hg3 : Grow wr (w2.alloc (.cells (cellsS nv A cap) 100)) := (show Grow wr w2 from hb2).trans (Grow.alloc _ _)
      have hJ3 := hJ pre wr _ hJs hg3
      have HG1 := Lib.hid (hg3.block HB1.out)
      have HG2 := Lib.hid (hg3.block HB2.out)
      clear hc1r hc2r hb2 hg3 hJs HN HN'
      cases nok with
      | true =>
        obtain ⟨fn, tmps, assign, body, hyd, hR⟩ := hY pre ⟨nv, HSN.out, HMV.out⟩ _ hJ3 (by omega)
        gi_wp2
        refine hR.mono ?_
        rintro e W3 (⟨rfl, hJ4, hk4⟩ | ⟨rfl, hJx4⟩)
        · clear hyd
          gi_wp2
          go_roundw
          case rel => exact ⟨i + 1, pre ++ [⟨nv, HSN.out, HMV.out⟩], by go_num, by omega, by rw [HSUCC.out, List.map_append, HPRE.out]; rfl, hJ4, hk4.1.trans HG1.out, hk4.2.trans HG2.out⟩
          case measure => simp [intOf]; omega
        · clear hyd
          gi_wp2
          refine bodyPost_ret (results_none rfl _ _ _) rfl ?_
          exact ⟨⟨_, rfl⟩, .inr ⟨_, trivial, hJx4⟩⟩
      | false =>
        gi_wp2
        refine ⟨fun _ h => (by cases h), ?_⟩
        gi_wp2
        go_roundw
        case rel => exact ⟨i + 1, pre, by go_num, by omega, by rw [HSUCC.out, HPRE.out]; simp, hJ3, HG1.out, HG2.out⟩
        case measure => simp [intOf]; omega
    · have hi33 : i = 33 := by omega
      subst hi33
      have HPRE := Lib.hid hpre
      clear hpre
      gi_wp2
      go_end0
      exact ⟨⟨_, rfl⟩, .inl ⟨pre, HPRE.out, hJs⟩⟩

theorem Stay.trans {B1 B2 : Nat} {X Y Z : World} (h : Stay B1 B2 X Y) (k : Stay B1 B2 Y Z) : Stay B1 B2 X Z := ⟨k.1.trans h.1, k.2.trans h.2⟩
theorem Stay.put {B1 B2 : Nat} {w : World} (h1 : B1 < w.heap.size) (h2 : B2 < w.heap.size) (W : World) (l : Nat) (o o' : Obj) (hl : w.heap.size ≤ l) (_ : W.heap[l]? = some o) (_ : o.isCells = false) (_ : o.isWalk = false) : Stay B1 B2 W (W.putObj l o') :=
  ⟨World.putObj_heap_other (by omega), World.putObj_heap_other (by omega)⟩
theorem answers_stops (n : Nat) (hn : 1 ≤ n) (B1 B2 : Nat) (s : SeenD) (A : Option Addr) (cap : Nat) (part : Int) (hs : SeenIn s) (hp : 0 ≤ part ∧ part ≤ 4) (w : World) (hc1 : BlockIs w B1 100 (cellsS s A cap)) (hc2 : BlockIs w B2 3 #[.int .i64 part]) :
    SeqStopsK Fence.wide n Tryz.prog 124 #[.pointer (some ⟨B1, 0, none⟩), .pointer (some ⟨B2, 0, none⟩)] (fun x : SeenOf s.moves => #[seenV x.val A cap]) (Stay B1 B2) (fun ys => ys.map SeenOf.val = answersD s part) (fun _ => True) 33 w := fun l J Jx W hW hJ _ hY h0 =>
  answers1_in n hn l B1 B2 s A cap part hs hp J Jx hY W (fun pre W1 W2 hj hg => hJ pre W1 W2 none hj hg.grown (fun r e => by cases e)) (hc1.below hW hc1.lt) (hc2.below hW hc2.lt) h0

end Go.Proofs.YtfpmkolaiomabaaGreat

namespace Go.Proofs.YtfpmkolaiomabaaGreat
open Go.RowKit Go.Shelf
attribute [local go_sem] Oper.semAt_some

theorem Grow.keeps {W W' : World} (h : Grow W W') : KeepsOthers W W' := ⟨h.size, fun k _ hk _ => (Below.block h k (Array.getElem?_eq_some_iff.1 hk).1).trans hk⟩
/-- the signs of a book that agree -/
def signsL (s : SeenD) (bk : List EntryR) : List Int := Lib.compact (sortedL ((bk.filter fun y => agreesD s y.d).map fun y => y.d.sign))
theorem signsL_of (s : SeenD) (bk : List EntryR) : SignsOf s bk (signsL s bk) := by
  obtain ⟨h1, h2⟩ := sorted_compact ((bk.filter fun y => agreesD s y.d).map fun y => y.d.sign)
  refine ⟨h1, fun x => (h2 x).trans ?_⟩
  simp only [List.mem_map, List.mem_filter]
  constructor
  · rintro ⟨y, ⟨h1, h2⟩, h3⟩; exact ⟨y, h1, h2, h3⟩
  · rintro ⟨y, h1, h2, h3⟩; exact ⟨y, ⟨h1, h2⟩, h3⟩
theorem signsL_len (s : SeenD) (bk : List EntryR) : (signsL s bk).length ≤ bk.length := by
  unfold signsL
  refine Nat.le_trans (compact_len _) ?_
  simp only [sortedL, List.length_mergeSort, List.length_map]
  exact List.length_filter_le _ _
def maxOf (bk : List EntryR) (l : List SeenD) : Nat := l.foldl (fun m v => max m (signsL v bk).length) 0
theorem maxOf_snoc (bk : List EntryR) (l : List SeenD) (v : SeenD) : maxOf bk (l ++ [v]) = max (maxOf bk l) (signsL v bk).length := by simp [maxOf]
theorem maxOf_le (bk : List EntryR) (l : List SeenD) : maxOf bk l ≤ bk.length := by
  have : ∀ (l : List SeenD) (m : Nat), m ≤ bk.length → l.foldl (fun m v => max m (signsL v bk).length) m ≤ bk.length := by
    intro l
    induction l with
    | nil => intro m h; exact h
    | cons v l ih =>
      intro m h
      rw [List.foldl_cons]
      exact ih _ (Nat.max_le.2 ⟨h, signsL_len v bk⟩)
  exact this l 0 (Nat.zero_le _)

set_option maxRecDepth 100000 in
set_option maxHeartbeats 8000000 in
theorem greatest_any (s : SeenD) (A : Option Addr) (cap B m : Nat) (part : Int) (bk : List EntryR) (w : World) (hA : Ints w B A s.moves) (hB : B ≤ w.heap.size) (hs : SeenIn s) (hp : 0 ≤ part ∧ part ≤ 4) (hb : BookAt w m bk)
    (hmv : ∀ y ∈ bk, Ints w w.heap.size y.A y.d.form.moves) (hok : ∀ y ∈ bk, okForm y.d.form = true) (hl : bk.length ≤ 1000000) :
    Calls Tryz.prog 77 #[seenV s A cap, .map (some m), .int .i64 part] w fun e w' => e = .returned (.int .i64 (maxOf bk (answersD s part))) ∧ Below w.heap.size w w' := by
  have HSG := Lib.hid (fun (x : SeenOf s.moves) (W : World) (h : Grow w W) => signs_any x.val A cap w.heap.size m bk W (by rw [x.ok.2]; exact (hA.more hB).below h) h.size x.ok.1 (hb.grow h) (fun y hy => ((hmv y hy).below h).more h.size) hok hl)
  have HMX := Lib.hid (maxOf_le bk)
  clear hA hb hmv hok
  have hfa : Fence.wide.fn 101 := trivial
  have hfs : Fence.wide.fn 74 := trivial
  refine (callsIn_wide (n := 6)).1 ?_
  refine callsIn_of_wp_marks Tryz.func77 rfl trivial ?_ rfl
  simp only [Tryz.ntmps77, List.size_toArray, List.length_cons, List.length_nil, Nat.reduceAdd, Nat.reduceSub, Array.replicate_succ, Array.replicate_zero, List.push_toArray, List.append_toArray, List.nil_append, List.cons_append]
  gi_wp2_with (gi_at_call 101; refine (callsIn_wide.2 (answers_any s A cap part _)).mono ?_; rintro e w' ⟨rfl, rfl⟩)
  obtain ⟨W0, hW0, b1, b2, b3, b4, hsz, hB0⟩ : ∃ W0 : World, (((((w.alloc (.cells (cellsS s A cap) 100)).alloc (.cells #[.map (some m)] 82)).alloc (.cells #[.int .i64 0] 3)).alloc (.cells (cellsS s A cap) 100)).alloc (.cells #[.int .i64 part] 3)) = W0 ∧
      Boxed W0 (w.heap.size + 1) 82 (.map (some m)) ∧ Boxed W0 (w.heap.size + 1 + 1) 3 (.int .i64 0) ∧ BlockIs W0 (w.heap.size + 1 + 1 + 1) 100 (cellsS s A cap) ∧ BlockIs W0 (w.heap.size + 1 + 1 + 1 + 1) 3 #[.int .i64 part] ∧ W0.heap.size = w.heap.size + 5 ∧ Below w.heap.size w W0 := by
    refine ⟨_, rfl, ?_, ?_, ?_, ?_, by simp, ?_⟩
    · have := (((Boxed.new (w.alloc (.cells (cellsS s A cap) 100)) 82 (.map (some m))).alloc (.cells #[.int .i64 0] 3)).alloc (.cells (cellsS s A cap) 100)).alloc (.cells #[.int .i64 part] 3)
      simpa using this
    · have := ((Boxed.new ((w.alloc (.cells (cellsS s A cap) 100)).alloc (.cells #[.map (some m)] 82)) 3 (.int .i64 0)).alloc (.cells (cellsS s A cap) 100)).alloc (.cells #[.int .i64 part] 3)
      simpa using this
    · have := (BlockIs.new (((w.alloc (.cells (cellsS s A cap) 100)).alloc (.cells #[.map (some m)] 82)).alloc (.cells #[.int .i64 0] 3)) 100 (cellsS s A cap)).old (.cells #[.int .i64 part] 3)
      simpa using this
    · have := BlockIs.new ((((w.alloc (.cells (cellsS s A cap) 100)).alloc (.cells #[.map (some m)] 82)).alloc (.cells #[.int .i64 0] 3)).alloc (.cells (cellsS s A cap) 100)) 3 #[.int .i64 part]
      simpa using this
    · exact ((((Below.refl _ w).alloc (Nat.le_refl _) _).alloc (by simp) _).alloc (by simp; omega) _).alloc (by simp; omega) _ |>.alloc (by simp; omega) _
  rw [hW0]
  clear hW0
  refine wpIn_rangeFunc_ownH rfl (by omega) (gf := 124) (lb := #[.pointer (some ⟨w.heap.size + 1 + 1 + 1, 0, none⟩), .pointer (some ⟨w.heap.size + 1 + 1 + 1 + 1, 0, none⟩)]) rfl trivial (enters_of Tryz.func124 (by kernel_rfl) rfl)
    (answers_stops 5 (by omega) (w.heap.size + 1 + 1 + 1) (w.heap.size + 1 + 1 + 1 + 1) s A cap part hs hp W0 b3 b4) Stay.trans (Stay.put (by omega) (by omega)) (Below.refl _ _) (fun _ => rfl)
    (fun pre W => (Boxed W (w.heap.size + 1 + 1) 3 (.int .i64 (maxOf bk (pre.map SeenOf.val))) ∧ Boxed W (w.heap.size + 1) 82 (.map (some m))) ∧ (Below w.heap.size w W ∧ w.heap.size + 5 ≤ W.heap.size))
    (fun _ _ _ => False)
    (OwnFrom.and (OwnFrom.and (Own.from (boxed_own _ _ (fun pre : List (SeenOf s.moves) => Value.int .i64 (maxOf bk (pre.map SeenOf.val)))) _) (Own.from (boxed_own _ _ _) _)) (OwnFrom.and (ownFrom_below (Nat.le_refl _) (by omega)) (fun _ X Y _ hs hg _ => Nat.le_trans hs hg.size)))
    (fun _ _ _ _ _ hs _ _ => hs)
    ⟨⟨b2, b1⟩, hB0, by omega⟩
    (fun x a' W => ∃ Bx, w.heap.size + 4 < Bx ∧ BlockIs W Bx 100 (cellsS x.val A cap) ∧ a' = { tmps := #[seenV s A cap, .map (some m), .int .i64 part, .pointer (some ⟨w.heap.size, 0, none⟩), .pointer (some ⟨w.heap.size + 1, 0, none⟩), undef, .int .i64 0, .pointer (some ⟨w.heap.size + 1 + 1, 0, none⟩), .pointer (some ⟨Bx, 0, none⟩), seenV s A cap, .int .i64 part,
      .func (.func 124) #[] #[.pointer (some ⟨w.heap.size + 1 + 1 + 1, 0, none⟩), .pointer (some ⟨w.heap.size + 1 + 1 + 1 + 1, 0, none⟩)], seenV x.val A cap, undef, undef, undef, undef, undef, undef, undef], defers := [] })
    (fun x a' _ X Y row hs hg hr => by
      obtain ⟨Bx, h1, h2, h3⟩ := hs
      refine ⟨Bx, h1, h2.grown hg (fun e => ?_), h3⟩
      obtain ⟨_, o, ho, hc⟩ := hr Bx e.symm
      rw [show X.heap[Bx]? = _ from h2] at ho; cases ho; cases hc)
    ?assign ?body ?done ?stop
  case assign =>
    rintro l pre x W K ⟨⟨bN, bB⟩, hB1, hz1⟩ hK
    have hBN := bN.lt
    gi_wp2
    exact hK _ _ ((KeepsOthers.alloc _ _).from _) ⟨Below.heap_alloc _ _ _ (by omega), Below.heap_alloc _ _ _ (by omega)⟩ ⟨⟨bN.alloc _, bB.alloc _⟩, hB1.alloc hB1.size _, by simp; omega⟩ ⟨W.heap.size, by omega, BlockIs.new W _ _, rfl⟩
  case body =>
    rintro l pre x a' W hl - ⟨⟨bN, bB⟩, hB1, hz1⟩ ⟨Bx, hBx, bX, rfl⟩ hlt
    have hmx : Tryz.prog.follows .mixedOrders = true := by kernel_rfl
    have HS := Lib.hid (HSG.out x W.drew (Grow.drew hB1))
    have hcN := bN.cell
    have hcB := bB.cell
    have hcX := bX.cell
    have hfN := bN.frozen
    have HN := Lib.hid bN
    have HB := Lib.hid bB
    have HB1 := Lib.hid hB1
    have hm1 := HMX.out (pre.map SeenOf.val)
    have hm2 := signsL_len x.val bk
    clear bN bB bX hB1
    generalize hmo : maxOf bk (pre.map SeenOf.val) = mo at *
    have HMO := Lib.hid hmo
    clear hmo
    gi_wp2
    gi_region_with_o (gi_at_call 74; refine (CallsIn.inRound l (callsIn_wide.2 HS.out)).mono ?_; rintro e w5 ⟨A5, cap5, r, rfl, hsi, _, hb5⟩; (obtain rfl := hsi.unique (signsL_of _ _)); have hG5 : Grow W w5 := Grow.of_drew hb5; have hc5 := (hG5.block (show BlockIs W (w.heap.size + 1 + 1) 3 #[.int .i64 mo] from HN.out)).cell; have hf5 := (hG5.block (show BlockIs W (w.heap.size + 1 + 1) 3 #[.int .i64 mo] from HN.out)).frozen; have HG5 := Lib.hid hG5; clear hsi hb5 hG5)
    all_goals gi_wp2
    all_goals
      have bN5 : Boxed w5 (w.heap.size + 1 + 1) 3 (.int .i64 mo) := HG5.out.block (show BlockIs W (w.heap.size + 1 + 1) 3 #[.int .i64 mo] from HN.out)
      have bB5 : Boxed w5 (w.heap.size + 1) 82 (.map (some m)) := HG5.out.block (show BlockIs W (w.heap.size + 1) 82 #[.map (some m)] from HB.out)
      refine ⟨(HG5.out.keeps.trans (KeepsOthers.setCell _ _ _)).from _, ⟨?_, ?_⟩, ⟨?_, bB5.other (by omega) _⟩, ?_, ?_⟩
      · exact (Below.heap_setCell _ _ _ _ (by show w.heap.size + 1 + 1 + 1 ≠ w.heap.size + 1 + 1; omega)).trans (Below.block HG5.out _ (by omega))
      · exact (Below.heap_setCell _ _ _ _ (by show w.heap.size + 1 + 1 + 1 + 1 ≠ w.heap.size + 1 + 1; omega)).trans (Below.block HG5.out _ (by omega))
      · have := bN5.set (.int .i64 (max (mo : Int) ((signsL x.val bk).length : Int)))
        rw [List.map_append, List.map_singleton, maxOf_snoc, HMO.out]
        rw [show (((max mo (signsL x.val bk).length : Nat)) : Int) = max (mo : Int) ((signsL x.val bk).length : Int) by omega]
        exact this
      · exact (HB1.out.trans (Below.mono (show Below W.heap.size W w5 from HG5.out) HB1.out.size)).setCell (by show w.heap.size ≤ w.heap.size + 1 + 1; omega) _
      · have : W.heap.size ≤ w5.heap.size := HG5.out.size
        simp [World.setCell]
        omega
  case done =>
    rintro D ys W hD hS ⟨⟨bN, bB⟩, hB1, -⟩ hK
    have hc := bN.cell
    gi_wp2
    refine ⟨by simp, .inl ⟨_, _, rfl, run_takeDeferred hK, ?_⟩⟩
    exact ⟨_, results_tmp rfl _ _ _, by rw [← hS]; rfl, hB1.trans (belowK_b (w := w) (Nat.le_refl _) W D _ _ (by omega) hK rfl rfl)⟩
  case stop =>
    rintro D c pre W _ _ h _
    exact h.elim

end Go.Proofs.YtfpmkolaiomabaaGreat

namespace Go.Proofs.YtfpmkolaiomabaaGreat
open Go.RowKit

/-- the signs that agree, over the entries as they came -/
def foundL (v : SeenD) (l : List EntryD) : List Int := Lib.compact (sortedL ((l.filter fun y => agreesD v (canonE y)).map EntryD.sign))
theorem foundL_of (v : SeenD) (l : List EntryD) : FoundD v l (foundL v l) := by
  obtain ⟨h1, h2⟩ := sorted_compact ((l.filter fun y => agreesD v (canonE y)).map EntryD.sign)
  refine ⟨h1, fun x => (h2 x).trans ?_⟩
  simp only [List.mem_map, List.mem_filter]
  constructor
  · rintro ⟨y, ⟨h1, h2⟩, h3⟩; exact ⟨y, h1, h2, h3⟩
  · rintro ⟨y, h1, h2, h3⟩; exact ⟨y, ⟨h1, h2⟩, h3⟩
theorem signsL_found {l : List EntryD} {bk : List EntryR} (hb : IsBookOf l (bk.map (·.d))) (v : SeenD) : signsL v bk = foundL v l :=
  (FoundD.of_book (signsL_of v bk) hb).unique (foundL_of v l)
def maxD (l : List EntryD) (vs : List SeenD) : Nat := vs.foldl (fun m v => max m (foundL v l).length) 0
theorem maxOf_maxD {l : List EntryD} {bk : List EntryR} (hb : IsBookOf l (bk.map (·.d))) (vs : List SeenD) : maxOf bk vs = maxD l vs := by
  unfold maxOf maxD
  congr 1
  funext m v
  rw [signsL_found hb]
/-- the part whose number is the least, the first of several, and this number -/
def bestOf (g : Nat → Nat) : Nat → Nat × Nat
  | 0 => (0, 0)
  | k + 1 => if k = 0 ∨ g k < (bestOf g k).2 then (k, g k) else bestOf g k
theorem bestOf_succ (g : Nat → Nat) (k : Nat) : bestOf g (k + 1) = if k = 0 ∨ g k < (bestOf g k).2 then (k, g k) else bestOf g k := rfl
theorem bestOf_le (g : Nat → Nat) (c : Nat) (h : ∀ k, g k ≤ c) : ∀ k, (bestOf g k).2 ≤ c
  | 0 => Nat.zero_le _
  | k + 1 => by
    rw [bestOf_succ]
    split
    · exact h k
    · exact bestOf_le g c h k
def askG (l : List EntryD) (s : SeenD) (p : Nat) : Nat := maxD l (answersD s p)
/-- what Ask returns -/
def askR (l : List EntryD) (s : SeenD) : Int × Int × Int :=
  if findErr l s = 0 then (if foundL s l = [] then (0, 0, 3) else ((bestOf (askG l s) 5).1, (bestOf (askG l s) 5).2, 0)) else (0, 0, findErr l s)
def AskPost (l : List EntryD) (s : SeenD) (w : World) (e : Ending) (w' : World) : Prop :=
  Below w.heap.size w w' ∧ e = .returned (.tuple #[.int .i64 (askR l s).1, .int .i64 (askR l s).2.1, .int .i64 (askR l s).2.2])

set_option maxRecDepth 100000 in
set_option maxHeartbeats 8000000 in
theorem Ask_any (A A' : Option Addr) (cap cap' B : Nat) (l : List EntryR) (s : SeenD) (w : World) (hA : Ents w B A l) (hl : l.length ≤ 1000000) (hA' : Ints w B A' s.moves) (hl' : s.moves.length ≤ 1000000) (hB : B ≤ w.heap.size) :
    Calls Tryz.prog 38 #[.slice A l.length cap, seenV s A' cap'] w (AskPost (l.map (·.d)) s w) := by
  have HR := Lib.hid (fun w0 (h : Grow w w0) => readSeen_any A A' cap cap' w.heap.size l s w0 ((hA.more hB).below h) hl ((hA'.more hB).below h) hl' h.size)
  have HA' := Lib.hid (hA'.more hB)
  clear hA hA'
  go_enter Tryz.func38, Tryz.ntmps38
  go_upto_region 1 with fail
  obtain ⟨W, hW, hg, hf, hsz⟩ := one_block w 50 (cellsS s A' cap')
  rw [hW]
  clear hW
  have HG := Lib.hid hg
  have hfc := hf.cell
  clear hf hg
  go_wp2_with fail
  refine (HR.out _ HG.out).mono ?_
  rintro e w2 ⟨hb2, hcase⟩
  have HG2 : Hid (Grow W w2) := hb2
  clear hb2 hfc
  rcases hcase with ⟨hne, rfl⟩ | ⟨heq, hok, rfl⟩ | ⟨heq, hok, m, bk, rfl, hm, hbk, hmv, hfar, hrd⟩
  · have HNE : Hid (bookErr (l.map (·.d)) ≠ 0) := hne
    generalize hbe : bookErr (l.map (·.d)) = be at hne
    have hfe : findErr (l.map (·.d)) s = be := by unfold findErr; rw [hbe, if_neg hne]
    have har : askR (l.map (·.d)) s = (0, 0, be) := by unfold askR; rw [hfe, if_neg hne]
    have HAR := Lib.hid har
    clear hbe hfe har
    go_wp2
    go_ret3
    exact ⟨(HG.out.trans HG2.out).trans (Grow.alloc _ _), by rw [HAR.out]; rfl⟩
  · have hfe : findErr (l.map (·.d)) s = 13 := by unfold findErr; rw [if_pos heq, hok]; rfl
    have har : askR (l.map (·.d)) s = (0, 0, 13) := by unfold askR; rw [hfe, if_neg (by decide)]
    have HAR := Lib.hid har
    clear heq hok hfe har
    go_wp2
    go_ret3
    exact ⟨(HG.out.trans HG2.out).trans (Grow.alloc _ _), by rw [HAR.out]; rfl⟩
  · have hfe : findErr (l.map (·.d)) s = 0 := by unfold findErr; rw [if_pos heq, if_pos hok]
    have hbo := readD_book hrd
    have hlen : bk.length ≤ 1000000 := by have := hbo.length; simp at this; omega
    obtain ⟨W2, hW2, hg3, hf3, hsz3⟩ := one_block w2 100 (cellsS s A' cap')
    have hgw : Grow w W2 := (HG.out.trans HG2.out).trans hg3
    have hbkW := hbk.grow hg3
    have hmvW := hmv.grow hg3
    have hokf := book_forms heq hbo
    have HS := Lib.hid (signs_any s A' cap' w.heap.size m bk W2 (HA'.out.below hgw) hgw.size (SeenIn.of_ok hok) hbkW (fun y hy => (hmvW y hy).1.1) hokf hlen)
    have HGR := Lib.hid (fun (p : Int) (hp : 0 ≤ p ∧ p ≤ 4) (w0 : World) (h : Grow W2 w0) => greatest_any s A' cap' w.heap.size m p bk w0 (HA'.out.below (hgw.trans h)) (hgw.trans h).size (SeenIn.of_ok hok) hp (hbkW.grow h) (fun y hy => ((hmvW.grow h) y hy).1.1) hokf hlen)
    have HF3 := Lib.hid hf3
    have HFE := Lib.hid hfe
    have HBO := Lib.hid hbo
    have HGW := Lib.hid hgw
    have hgc : ∀ p, maxOf bk (answersD s p) ≤ 1000000 := fun p => Nat.le_trans (maxOf_le bk _) hlen
    have HGC := Lib.hid hgc
    have HW2 := Lib.hid hW2
    clear heq hok hm hbk hmv hfar hrd hfe hbo hg3 hf3 hgw hbkW hmvW hokf hgc hW2
    go_wp2_with fail
    rw [HW2.out]
    refine HS.out.mono ?_
    rintro e w3 ⟨A3, cap3, r, rfl, hsi, -, hb3⟩
    obtain rfl := hsi.unique (signsL_of _ _)
    have hr : signsL s bk = foundL s (l.map (·.d)) := signsL_found HBO.out s
    have hcv := (Grow.block hb3 HF3.out).cell
    have HG3 : Hid (Grow W2 w3) := hb3
    have HR3 := Lib.hid hr
    clear hsi hb3 hr
    by_cases hem : signsL s bk = []
    · have har : askR (l.map (·.d)) s = (0, 0, 3) := by unfold askR; rw [HFE.out, if_pos rfl, if_pos (by rw [← HR3.out]; exact hem)]
      have HAR := Lib.hid har
      have h0 : (signsL s bk).length = 0 := by rw [hem]; rfl
      generalize (signsL s bk).length = len at *
      subst h0
      clear har hem
      go_wp2
      go_ret3
      exact ⟨HGW.out.trans HG3.out, by rw [HAR.out]; rfl⟩
    · have har : askR (l.map (·.d)) s = (((bestOf (askG (l.map (·.d)) s) 5).1 : Int), ((bestOf (askG (l.map (·.d)) s) 5).2 : Int), (0 : Int)) := by unfold askR; rw [HFE.out, if_pos rfl, if_neg (by rw [← HR3.out]; exact hem)]
      have HAR := Lib.hid har
      have hag : askG (l.map (·.d)) s = fun p : Nat => maxOf bk (answersD s p) := by funext p; unfold askG; rw [maxOf_maxD HBO.out]
      have HAG := Lib.hid hag
      have hpos : 0 < (signsL s bk).length := List.length_pos_iff.2 hem
      have hneq : (((signsL s bk).length : Int) == 0) = false := by simp; exact hem
      clear har hem hag
      go_wp2
      go_loopw [4, 5, 26] (fun a b i wr => ∃ k : Nat, k ≤ 5 ∧ i = .int .i64 k ∧ a = .int .i64 (bestOf (fun p : Nat => maxOf bk (answersD s p)) k).1 ∧ b = .int .i64 (bestOf (fun p : Nat => maxOf bk (answersD s p)) k).2 ∧ Grow W2 wr) (fun _ _ i _ => 5 - (intOf i).toNat)
      case atStart => exact ⟨0, by omega, rfl, rfl, rfl, HG3.out⟩
      case round =>
        obtain ⟨k, hk, rfl, rfl, rfl, hgr⟩ := hrel
        by_cases hlt : k < 5
        · have hcvr := (hgr.block HF3.out).cell
          have HQ := Lib.hid (HGR.out (k : Int) ⟨by omega, by omega⟩ wr hgr)
          have hb1 := HGC.out (k : Int)
          have hb2 := bestOf_le (fun p : Nat => maxOf bk (answersD s p)) 1000000 (fun p => HGC.out (p : Int)) k
          have HSU := Lib.hid (bestOf_succ (fun p : Nat => maxOf bk (answersD s p)) k)
          have HGR' := Lib.hid hgr
          clear hgr hcv
          generalize bestOf (fun p : Nat => maxOf bk (answersD s p)) k = bo at *
          obtain ⟨bp, bl⟩ := bo
          dsimp only at *
          generalize hmx : maxOf bk (answersD s (k : Int)) = mx at *
          have HMX := Lib.hid hmx
          clear hmx
          go_wp2_with fail
          refine HQ.out.mono ?_
          rintro e w5 ⟨rfl, hb5⟩
          have HG5 : Hid (Grow W2 w5) := HGR'.out.trans hb5
          clear hb5 hcvr HQ
          by_cases hcond : k = 0 ∨ mx < bl
          · have hnew : bestOf (fun p : Nat => maxOf bk (answersD s p)) (k + 1) = (k, mx) := by rw [HSU.out, if_pos hcond]
            have HNEW := Lib.hid hnew
            clear hnew
            go_wp2
            all_goals first
              | (exfalso; simp at *; omega)
              | (go_roundw
                 case rel => exact ⟨k + 1, by omega, by go_num, by rw [HNEW.out]; try (first | rfl | (simp <;> omega)), by rw [HNEW.out]; try (first | rfl | (simp <;> omega)), HG5.out⟩
                 case measure => simp [intOf]; omega)
          · have hnew : bestOf (fun p : Nat => maxOf bk (answersD s p)) (k + 1) = (bp, bl) := by rw [HSU.out, if_neg hcond]
            have HNEW := Lib.hid hnew
            clear hnew
            go_wp2
            all_goals first
              | (exfalso; simp at *; omega)
              | (go_roundw
                 case rel => exact ⟨k + 1, by omega, by go_num, by rw [HNEW.out]; try (first | rfl | (simp <;> omega)), by rw [HNEW.out]; try (first | rfl | (simp <;> omega)), HG5.out⟩
                 case measure => simp [intOf]; omega)
        · obtain rfl : k = 5 := by omega
          have HGR' := Lib.hid hgr
          clear hgr hcv
          go_wp2
          go_ret3
          exact ⟨HGW.out.trans HGR'.out, by rw [HAR.out, HAG.out]; rfl⟩

end Go.Proofs.YtfpmkolaiomabaaGreat

