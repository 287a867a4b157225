/- The greatest number of signs after an answer. -/
import Derived.Shelf.RegionOpen
import Derived.RegionIn
import Derived.Test.YtjpnblflenlnaaaGreatAnswers
import Derived.Test.YtjpnblflenlnaaaGreatReadSeen
namespace Go.Proofs.YtjpnblflenlnaaaGreat
open Go.RowKit Go.Shelf
attribute [local go_sem] Oper.semAt_some

theorem Grow.keeps {W W' : World} (h : Grow W W') : KeepsOthers W W' := ⟨h.size, fun k o hk _ => (Below.block h k (Array.getElem?_eq_some_iff.1 hk).1).trans hk⟩
/-- the signs of a book that agree -/
def signsL (s : SeenD) (bk : List EntryR) : List Int := Lib.compact (sortedL ((bk.filter fun y => agreesD s y.d).map fun y => y.d.sign))
theorem signsL_of (s : SeenD) (bk : List EntryR) : SignsOf s bk (signsL s bk) := by
  obtain ⟨h1, h2⟩ := sorted_compact ((bk.filter fun y => agreesD s y.d).map fun y => y.d.sign)
  refine ⟨h1, fun x => (h2 x).trans ?_⟩
  simp only [List.mem_map, List.mem_filter]
  constructor
  · rintro ⟨y, ⟨h1, h2⟩, h3⟩; exact ⟨y, h1, h2, h3⟩
  · rintro ⟨y, h1, h2, h3⟩; exact ⟨y, ⟨h1, h2⟩, h3⟩
theorem signsL_len (s : SeenD) (bk : List EntryR) : (signsL s bk).length ≤ bk.length := by
  unfold signsL
  refine Nat.le_trans (compact_len _) ?_
  simp only [sortedL, List.length_mergeSort, List.length_map]
  exact List.length_filter_le _ _
def maxOf (bk : List EntryR) (l : List SeenD) : Nat := l.foldl (fun m v => max m (signsL v bk).length) 0
theorem maxOf_snoc (bk : List EntryR) (l : List SeenD) (v : SeenD) : maxOf bk (l ++ [v]) = max (maxOf bk l) (signsL v bk).length := by simp [maxOf]
theorem maxOf_le (bk : List EntryR) (l : List SeenD) : maxOf bk l ≤ bk.length := by
  have : ∀ (l : List SeenD) (m : Nat), m ≤ bk.length → l.foldl (fun m v => max m (signsL v bk).length) m ≤ bk.length := by
    intro l
    induction l with
    | nil => intro m h; exact h
    | cons v l ih =>
      intro m h
      rw [List.foldl_cons]
      exact ih _ (Nat.max_le.2 ⟨h, signsL_len v bk⟩)
  exact this l 0 (Nat.zero_le _)

set_option maxRecDepth 100000 in
set_option maxHeartbeats 8000000 in
theorem greatest_any (s : SeenD) (A : Option Addr) (cap B m : Nat) (part : Int) (bk : List EntryR) (w : World) (hA : Ints w B A s.moves) (hB : B ≤ w.heap.size) (hs : SeenIn s) (hp : 0 ≤ part ∧ part ≤ 4) (hb : BookAt w m bk)
    (hmv : ∀ y ∈ bk, Ints w w.heap.size y.A y.d.form.moves) (hok : ∀ y ∈ bk, okForm y.d.form = true) (hl : bk.length ≤ 1000000) :
    Calls Tryz.prog 77 #[seenV s A cap, .map (some m), .int .i64 part] w fun e w' => e = .returned (.int .i64 (maxOf bk (answersD s part))) ∧ Below w.heap.size w w' := by
  have HSG := Lib.hid (fun (x : SeenOf s.moves) (W : World) (h : Grow w W) => signs_any x.val A cap w.heap.size m bk W (by rw [x.ok.2]; exact (hA.more hB).below h) h.size x.ok.1 (hb.grow h) (fun y hy => ((hmv y hy).below h).more h.size) hok hl)
  have HMX := Lib.hid (maxOf_le bk)
  clear hA hb hmv hok
  have hfa : Fence.wide.fn 101 := trivial
  have hfs : Fence.wide.fn 74 := trivial
  refine (callsIn_wide (n := 6)).1 ?_
  refine callsIn_of_wp_marks Tryz.func77 rfl trivial ?_ rfl
  simp only [Tryz.ntmps77, List.size_toArray, List.length_cons, List.length_nil, Nat.reduceAdd, Nat.reduceSub, Array.replicate_succ, Array.replicate_zero, List.push_toArray, List.append_toArray, List.nil_append, List.cons_append]
  gi_wp2_with (gi_at_call 101; refine (callsIn_wide.2 (answers_any s A cap part _)).mono ?_; rintro e w' ⟨rfl, rfl⟩)
  obtain ⟨W0, hW0, b1, b2, b3, b4, hsz, hB0⟩ : ∃ W0 : World, (((((w.alloc (.cells (cellsS s A cap) 100)).alloc (.cells #[.map (some m)] 82)).alloc (.cells #[.int .i64 0] 3)).alloc (.cells (cellsS s A cap) 100)).alloc (.cells #[.int .i64 part] 3)) = W0 ∧
      Boxed W0 (w.heap.size + 1) 82 (.map (some m)) ∧ Boxed W0 (w.heap.size + 1 + 1) 3 (.int .i64 0) ∧ BlockIs W0 (w.heap.size + 1 + 1 + 1) 100 (cellsS s A cap) ∧ BlockIs W0 (w.heap.size + 1 + 1 + 1 + 1) 3 #[.int .i64 part] ∧ W0.heap.size = w.heap.size + 5 ∧ Below w.heap.size w W0 := by
    refine ⟨_, rfl, ?_, ?_, ?_, ?_, by simp, ?_⟩
    · have := (((Boxed.new (w.alloc (.cells (cellsS s A cap) 100)) 82 (.map (some m))).alloc (.cells #[.int .i64 0] 3)).alloc (.cells (cellsS s A cap) 100)).alloc (.cells #[.int .i64 part] 3)
      simpa using this
    · have := ((Boxed.new ((w.alloc (.cells (cellsS s A cap) 100)).alloc (.cells #[.map (some m)] 82)) 3 (.int .i64 0)).alloc (.cells (cellsS s A cap) 100)).alloc (.cells #[.int .i64 part] 3)
      simpa using this
    · have := (BlockIs.new (((w.alloc (.cells (cellsS s A cap) 100)).alloc (.cells #[.map (some m)] 82)).alloc (.cells #[.int .i64 0] 3)) 100 (cellsS s A cap)).old (.cells #[.int .i64 part] 3)
      simpa using this
    · have := BlockIs.new ((((w.alloc (.cells (cellsS s A cap) 100)).alloc (.cells #[.map (some m)] 82)).alloc (.cells #[.int .i64 0] 3)).alloc (.cells (cellsS s A cap) 100)) 3 #[.int .i64 part]
      simpa using this
    · exact ((((Below.refl _ w).alloc (Nat.le_refl _) _).alloc (by simp) _).alloc (by simp; omega) _).alloc (by simp; omega) _ |>.alloc (by simp; omega) _
  rw [hW0]
  clear hW0
  refine wpIn_rangeFunc_ownH rfl (by omega) (gf := 124) (lb := #[.pointer (some ⟨w.heap.size + 1 + 1 + 1, 0, none⟩), .pointer (some ⟨w.heap.size + 1 + 1 + 1 + 1, 0, none⟩)]) rfl trivial (enters_of Tryz.func124 (by kernel_rfl) rfl)
    (answers_stops 5 (by omega) (w.heap.size + 1 + 1 + 1) (w.heap.size + 1 + 1 + 1 + 1) s A cap part hs hp W0 b3 b4) Stay.trans (Stay.put (by omega) (by omega)) (Below.refl _ _) (fun _ => rfl)
    (fun pre W => (Boxed W (w.heap.size + 1 + 1) 3 (.int .i64 (maxOf bk (pre.map SeenOf.val))) ∧ Boxed W (w.heap.size + 1) 82 (.map (some m))) ∧ (Below w.heap.size w W ∧ w.heap.size + 5 ≤ W.heap.size))
    (fun _ _ _ => False)
    (OwnFrom.and (OwnFrom.and (Own.from (boxed_own _ _ (fun pre : List (SeenOf s.moves) => Value.int .i64 (maxOf bk (pre.map SeenOf.val)))) _) (Own.from (boxed_own _ _ _) _)) (OwnFrom.and (ownFrom_below (Nat.le_refl _) (by omega)) (fun _ X Y _ hs hg _ => Nat.le_trans hs hg.size)))
    (fun _ _ _ _ _ hs _ _ => hs)
    ⟨⟨b2, b1⟩, hB0, by omega⟩
    (fun x a' W => ∃ Bx, w.heap.size + 4 < Bx ∧ BlockIs W Bx 100 (cellsS x.val A cap) ∧ a' = { tmps := #[seenV s A cap, .map (some m), .int .i64 part, .pointer (some ⟨w.heap.size, 0, none⟩), .pointer (some ⟨w.heap.size + 1, 0, none⟩), undef, .int .i64 0, .pointer (some ⟨w.heap.size + 1 + 1, 0, none⟩), .pointer (some ⟨Bx, 0, none⟩), seenV s A cap, .int .i64 part,
      .func (.func 124) #[] #[.pointer (some ⟨w.heap.size + 1 + 1 + 1, 0, none⟩), .pointer (some ⟨w.heap.size + 1 + 1 + 1 + 1, 0, none⟩)], seenV x.val A cap, undef, undef, undef, undef, undef, undef, undef], defers := [] })
    (fun x a' _ X Y row hs hg hr => by
      obtain ⟨Bx, h1, h2, h3⟩ := hs
      refine ⟨Bx, h1, h2.grown hg (fun e => ?_), h3⟩
      obtain ⟨_, o, ho, hc⟩ := hr Bx e.symm
      rw [show X.heap[Bx]? = _ from h2] at ho; cases ho; cases hc)
    ?assign ?body ?done ?stop
  case assign =>
    rintro l pre x W K ⟨⟨bN, bB⟩, hB1, hz1⟩ hK
    have hBN := bN.lt
    gi_wp2
    exact hK _ _ ((KeepsOthers.alloc _ _).from _) ⟨Below.heap_alloc _ _ _ (by omega), Below.heap_alloc _ _ _ (by omega)⟩ ⟨⟨bN.alloc _, bB.alloc _⟩, hB1.alloc hB1.size _, by simp; omega⟩ ⟨W.heap.size, by omega, BlockIs.new W _ _, rfl⟩
  case body =>
    rintro l pre x a' W hl - ⟨⟨bN, bB⟩, hB1, hz1⟩ ⟨Bx, hBx, bX, rfl⟩ hlt
    have hmx : Tryz.prog.follows .mixedOrders = true := by kernel_rfl
    have HS := Lib.hid (HSG.out x W.drew (Grow.drew hB1))
    have hcN := bN.cell
    have hcB := bB.cell
    have hcX := bX.cell
    have hfN := bN.frozen
    have HN := Lib.hid bN
    have HB := Lib.hid bB
    have HB1 := Lib.hid hB1
    have hm1 := HMX.out (pre.map SeenOf.val)
    have hm2 := signsL_len x.val bk
    clear bN bB bX hB1
    generalize hmo : maxOf bk (pre.map SeenOf.val) = mo at *
    have HMO := Lib.hid hmo
    clear hmo
    gi_wp2
    gi_region_with_o (gi_at_call 74; refine (CallsIn.inRound l (callsIn_wide.2 HS.out)).mono ?_; rintro e w5 ⟨A5, cap5, r, rfl, hsi, _, hb5⟩; (obtain rfl := hsi.unique (signsL_of _ _)); have hG5 : Grow W w5 := Grow.of_drew hb5; have hc5 := (hG5.block (show BlockIs W (w.heap.size + 1 + 1) 3 #[.int .i64 mo] from HN.out)).cell; have hf5 := (hG5.block (show BlockIs W (w.heap.size + 1 + 1) 3 #[.int .i64 mo] from HN.out)).frozen; have HG5 := Lib.hid hG5; clear hsi hb5 hG5)
    all_goals gi_wp2
    all_goals
      have bN5 : Boxed w5 (w.heap.size + 1 + 1) 3 (.int .i64 mo) := HG5.out.block (show BlockIs W (w.heap.size + 1 + 1) 3 #[.int .i64 mo] from HN.out)
      have bB5 : Boxed w5 (w.heap.size + 1) 82 (.map (some m)) := HG5.out.block (show BlockIs W (w.heap.size + 1) 82 #[.map (some m)] from HB.out)
      refine ⟨(HG5.out.keeps.trans (KeepsOthers.setCell _ _ _)).from _, ⟨?_, ?_⟩, ⟨?_, bB5.other (by omega) _⟩, ?_, ?_⟩
      · exact (Below.heap_setCell _ _ _ _ (by show w.heap.size + 1 + 1 + 1 ≠ w.heap.size + 1 + 1; omega)).trans (Below.block HG5.out _ (by omega))
      · exact (Below.heap_setCell _ _ _ _ (by show w.heap.size + 1 + 1 + 1 + 1 ≠ w.heap.size + 1 + 1; omega)).trans (Below.block HG5.out _ (by omega))
      · have := bN5.set (.int .i64 (max (mo : Int) ((signsL x.val bk).length : Int)))
        rw [List.map_append, List.map_singleton, maxOf_snoc, HMO.out]
        rw [show (((max mo (signsL x.val bk).length : Nat)) : Int) = max (mo : Int) ((signsL x.val bk).length : Int) by omega]
        exact this
      · exact (HB1.out.trans (Below.mono (show Below W.heap.size W w5 from HG5.out) HB1.out.size)).setCell (by show w.heap.size ≤ w.heap.size + 1 + 1; omega) _
      · have : W.heap.size ≤ w5.heap.size := HG5.out.size
        simp [World.setCell]
        omega
  case done =>
    rintro D ys W hD hS ⟨⟨bN, bB⟩, hB1, -⟩ hK
    have hc := bN.cell
    gi_wp2
    refine ⟨by simp, .inl ⟨_, _, rfl, run_takeDeferred hK, ?_⟩⟩
    exact ⟨_, results_tmp rfl _ _ _, by rw [← hS]; rfl, hB1.trans (belowK_b (w := w) (Nat.le_refl _) W D _ _ (by omega) hK rfl rfl)⟩
  case stop =>
    rintro D c pre W _ _ h _
    exact h.elim

end Go.Proofs.YtjpnblflenlnaaaGreat
