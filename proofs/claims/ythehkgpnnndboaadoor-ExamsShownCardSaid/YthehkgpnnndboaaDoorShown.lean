/- Shown: the map from grades to truths; written by wip/tools/shown9.py. -/
import Derived.Test.YthehkgpnnndboaaDoorGrades
namespace Go.Proofs.YthehkgpnnndboaaDoor
open Go.RowKit Go.Shelf
open Go.ChangeMaps (setBlock)

attribute [local go_sem] Oper.semAt_some

theorem KeepM.setB {n₀ q m l : Nat} (A : World) (o : Obj) (h0 : n₀ ≤ l) (h1 : l < m) (h2 : q ≠ l) : KeepM n₀ q m A (setBlock A l o) := by
  have hg := setBlock_grown A l o
  exact ⟨⟨hg.os, hg.tape, hg.output, hg.size, fun k hk => by
    have hne : l ≠ k := by omega
    simp [setBlock, Array.getElem?_setIfInBounds_ne hne]⟩, fun k hk _ => by
    have hne : l ≠ k := by rcases hk with hk | hk <;> omega
    simp [setBlock, Array.getElem?_setIfInBounds_ne hne]⟩
theorem setB_far {w : World} {l b : Nat} {t : TypeId} {cs : Array Value} (h : BlockIs w b t cs) (hne : l ≠ b) (o : Obj) : BlockIs (setBlock w l o) b t cs := by
  show (setBlock w l o).heap[b]? = _
  simp only [setBlock, Array.getElem?_setIfInBounds_ne hne]
  exact h

set_option maxRecDepth 100000 in
set_option maxHeartbeats 16000000 in
theorem shown_any (p : PaperR) (G : GoodP p.d) (w : World) (hA : PaperAt w w.heap.size p) :
    Calls Tryd.prog 56 #[paperV p] w fun e w' => (∃ m, e = .returned (.map (some m)) ∧ BookAt w' m (shownL p.d)) ∧ Below w.heap.size w w' := by
  have HPA := Lib.hid (fun (w0 : World) (hw : Below w.heap.size w w0) => hA.below hw)
  have hmm := @run_makeMap Tryd.prog
  have HSL : Hid (shownL p.d = (truthsL p.d).foldl (stepL p.d) []) := Lib.hid rfl
  have hro : Fence.wide.round = none := rfl
  clear hA
  refine (callsIn_wide (n := 8)).1 ?_
  refine callsIn_of_wp_marks Tryd.func56 rfl trivial ?_ hro
  simp only [Tryd.ntmps56, List.size_toArray, List.length_cons, List.length_nil, Nat.reduceAdd, Nat.reduceSub, Array.replicate_succ, Array.replicate_zero, List.push_toArray, List.append_toArray, List.nil_append, List.cons_append]
  refine wpIn_wide.2 ?_
  go_upto_region 1 with fail
  obtain ⟨W, hW, hg, hf, hsz⟩ := one_block w 73 (cellsP p)
  rw [show w.alloc (.cells (cellsP p) 73) = W from hW]
  have hWs : W.heap.size = w.heap.size + 1 := by rw [← hW]; simp
  clear hW
  have HF := Lib.hid hf
  have HG := Lib.hid hg
  clear hf hg
  go_upto_region 2 with fail
  obtain ⟨W2, hW2⟩ : ∃ z, (W.alloc (.map #[] 0)).alloc (.cells #[.map (some (w.heap.size + 1))] 91) = z := ⟨_, rfl⟩
  have HG2 : Hid (Grow w W2) := Lib.hid (by rw [← hW2]; exact HG.out.trans ((Grow.alloc _ _).trans (Grow.alloc _ _)))
  have HM2 : Hid (BookAt W2 (w.heap.size + 1) []) := Lib.hid (by
    rw [← hW2, ← hWs]
    exact BookAt.grow (l := []) (heap_alloc_new W (.map #[] 0)) (Grow.alloc _ _))
  have HV2 : Hid (BlockIs W2 (w.heap.size + 1 + 1) 91 #[.map (some (w.heap.size + 1))]) := Lib.hid (by
    rw [← hW2]
    have h := BlockIs.new (W.alloc (.map #[] 0)) 91 #[.map (some (w.heap.size + 1))]
    simpa [hWs] using h)
  have HF2 : Hid (BlockIs W2 w.heap.size 73 (cellsP p)) := Lib.hid (by rw [← hW2]; exact ((Grow.alloc _ _).trans (Grow.alloc _ _)).block HF.out)
  have hz2 : w.heap.size + 2 < W2.heap.size := by rw [← hW2]; simp; omega
  first | rw [hW2] | skip
  clear hW2 HF HG hsz hWs
  have hsc := HF2.out.cell
  go_wp2_with fail
  refine (wpIn_wide (n := 8)).1 ?_
  refine wpIn_rangeLow (first := #[paperV p]) (lb := #[]) (gf := 50) rfl (enters_of Tryd.func50 (by kernel_rfl) rfl)
    (truths_stops p (good_with G (Int.le_refl 0) (by omega)) w.heap.size w.heap.size W2 (HPA.out W2 HG2.out) HG2.out.size) HG2.out.size (by omega) (Below.refl _ _) (fun _ => rfl)
    (fun pre W' => BookAt W' (w.heap.size + 1) (pre.foldl (stepL p.d) []) ∧ BlockIs W' w.heap.size 73 (cellsP p) ∧ BlockIs W' (w.heap.size + 1 + 1) 91 #[.map (some (w.heap.size + 1))] ∧ Below w.heap.size w W' ∧ W2.heap.size ≤ W'.heap.size)
    (fun _ _ => False)
    (fun pre A B h g => ⟨(g.block _ (by omega)).trans h.1, (g.block _ (by omega)).trans h.2.1, (g.block _ (by omega)).trans h.2.2.1, h.2.2.2.1.trans (Below.mono g HG2.out.size), Nat.le_trans h.2.2.2.2 g.size⟩)
    (fun _ _ _ h _ => h)
    (fun _ _ h => h.2.2.2.2) (fun _ _ h => h.elim)
    ⟨HM2.out, HF2.out, HV2.out, HG2.out, Nat.le_refl _⟩
    (fun x a' W' => ∃ tb, W2.heap.size ≤ tb ∧ BlockIs W' tb 81 (cellsT x) ∧ a' = { tmps := #[paperV p, .pointer (some ⟨w.heap.size, 0, none⟩), .map none, .pointer (some ⟨w.heap.size + 1 + 1, 0, none⟩), .pointer (some ⟨tb, 0, none⟩), undef, undef, undef, .map (some (w.heap.size + 1)), paperV p, .func (.func 50) #[paperV p] #[], .agg (cellsT x), .int .i64 (wrongS p.d.judges x : Nat), undef, undef, undef, undef, undef, undef, undef, undef, undef, undef, undef, undef, undef, undef, undef], defers := [] })
    (fun _ _ _ _ _ _ ⟨tb, h1, h2, h3⟩ hg hr => ⟨tb, h1, block_own h2 hg hr, h3⟩)
    ?assign ?body ?done ?stop
  case assign =>
    rintro l pre x W3 K hi hK
    obtain ⟨hbk, hsv, hsb, hgw, hsw⟩ := hi
    simp only [encT]
    gi_wp2
    have hg3 := Grow.alloc W3 (.cells (cellsT x) 81)
    exact hK _ _ (KeepM.of_grow hg3 hgw.size) ⟨hbk.grow hg3, hg3.block hsv, hg3.block hsb, hgw.trans (Below.mono hg3 hgw.size), Nat.le_trans hsw hg3.size⟩ ⟨W3.heap.size, hsw, BlockIs.new _ _ _, rfl⟩
  case body =>
    rintro l pre x a' W3 hl ⟨r, hr⟩ ⟨hbk, hsv, hsb, hgw, hsw⟩ ⟨tb, htb, ht, rfl⟩ hpr
    have hmem : x ∈ truthsL p.d := by
      obtain ⟨post, hq⟩ := hpr
      rw [← hq]
      simp
    have hfit : fitsI p.items x = true := by
      have h1 := mem_truths.1 hmem
      unfold possD at h1
      rw [Bool.and_eq_true] at h1
      exact h1.1
    have hn3 : w.heap.size ≤ W3.heap.size := hgw.size
    have HGR := Lib.hid (fun (w0 : World) (hg : Grow W3 w0) => grade_any p G x hfit w0 ((HPA.out w0 (Below.trans hgw (Below.mono hg hn3))).more (Nat.le_trans hn3 hg.size)))
    obtain ⟨gx, hgx⟩ : ∃ z, gradeD p.d.grades (resD p.d.items x) = z := ⟨_, rfl⟩
    have HGX : Hid (gradeOf p.d x = gx) := Lib.hid hgx
    have hgx' : gradeD p.grades (resD p.items x) = gx := hgx
    try rw [hgx'] at HGR
    obtain ⟨L, hL⟩ : ∃ z, pre.foldl (stepL p.d) [] = z := ⟨_, rfl⟩
    have HST : Hid ((pre ++ [x]).foldl (stepL p.d) [] = match findE L (gx : Int) with
      | some _ => L
      | none => L ++ [((gx : Int), x)]) := Lib.hid (by
        rw [List.foldl_append, hL]
        show stepL p.d L x = _
        unfold stepL
        rw [show gradeOf p.d x = gx from hgx]
        cases findE L (gx : Int) <;> rfl)
    rw [hL] at hbk
    have HBK := Lib.hid hbk
    have HS := Lib.hid hsv
    have HVB := Lib.hid hsb
    have HT := Lib.hid ht
    have HGB := Lib.hid hgw
    have HSW := Lib.hid hsw
    have hfc := hsv.cell
    have htc := ht.cell
    clear hmem hfit hbk hsv hsb ht hgw hpr hsc hgx hgx' hL
    gi_wp2_with fail
    refine ⟨trivial, (CallsIn.inRound l (callsIn_wide.2 (HGR.out W3 (Grow.refl _)))).mono ?_⟩
    rintro e w4 ⟨rfl, hb4⟩
    have HG4 : Hid (Grow W3 w4) := Lib.hid hb4
    have HBK4 := Lib.hid (HBK.out.grow HG4.out)
    have HS4 := Lib.hid (HG4.out.block HS.out)
    have HVB4 := Lib.hid (HG4.out.block HVB.out)
    have HT4 := Lib.hid (HG4.out.block HT.out)
    have hvc := HVB4.out.cell
    have hlk := run_lookup_book HBK4.out (gx : Int)
    clear hb4 hfc htc
    cases hf : findE L (gx : Int) with
    | some y =>
      have hst : (pre ++ [x]).foldl (stepL p.d) [] = L := by
        rw [HST.out]
        simp only [hf]
      have HSTL := Lib.hid hst
      rw [hf] at hlk
      obtain ⟨d0, d1, d2, d3, hfv⟩ : ∃ d0 d1 d2 d3 : Int, foundV L (gx : Int) = .agg #[.int .i64 d0, .int .i64 d1, .int .i64 d2, .int .i64 d3] := by
        refine ⟨y.2[0]?.getD 0, y.2[1]?.getD 0, y.2[2]?.getD 0, y.2[3]?.getD 0, ?_⟩
        unfold foundV
        rw [hf]
      rw [hfv] at hlk
      clear hfv hf hst
      simp only [Option.isSome_some] at hlk
      gi_wp2_with fail
      have hgA := Grow.alloc w4 (.cells #[.int .i64 d0, .int .i64 d1, .int .i64 d2, .int .i64 d3] 81)
      have hgB : Grow W3 (w4.alloc (.cells #[.int .i64 d0, .int .i64 d1, .int .i64 d2, .int .i64 d3] 81)) := HG4.out.trans hgA
      exact ⟨KeepM.of_grow hgB hn3, by rw [HSTL.out]; exact HBK4.out.grow hgA, hgA.block HS4.out, hgA.block HVB4.out, HGB.out.trans (Below.mono hgB hn3), Nat.le_trans HSW.out hgB.size⟩
    | none =>
      have hst : (pre ++ [x]).foldl (stepL p.d) [] = L ++ [((gx : Int), x)] := by
        rw [HST.out]
        simp only [hf]
      have HSTL := Lib.hid hst
      rw [hf] at hlk
      have hfv : foundV L (gx : Int) = .agg zeroT := by unfold foundV; rw [hf]
      rw [hfv] at hlk
      simp only [Option.isSome_none] at hlk
      have hgA : Grow w4 (w4.alloc (.cells #[.int .i64 0, .int .i64 0, .int .i64 0, .int .i64 0] 81)) := Grow.alloc _ _
      have HBK5 := Lib.hid (HBK4.out.grow hgA)
      have HS5 := Lib.hid (hgA.block HS4.out)
      have HVB5 := Lib.hid (hgA.block HVB4.out)
      have HT5 := Lib.hid (hgA.block HT4.out)
      have HG5 : Hid (Grow W3 (w4.alloc (.cells #[.int .i64 0, .int .i64 0, .int .i64 0, .int .i64 0] 81))) := Lib.hid (HG4.out.trans hgA)
      have hup := run_update_book HBK5.out ((gx : Int), x) hf
      have hvc5 := HVB5.out.cell
      have htc5 := HT5.out.cell
      dsimp only at hup
      clear hgA hfv hf hst
      gi_wp2_with fail
      refine ⟨(KeepM.of_grow HG5.out hn3).trans (KeepM.setB _ _ (by omega) (by omega) (by omega)), by rw [HSTL.out]; exact HBK5.out.push _, setB_far HS5.out (by omega) _, setB_far HVB5.out (by omega) _, (HGB.out.trans (Below.mono HG5.out hn3)).trans ((KeepM.setB (m := w.heap.size + 2) _ _ (by omega) (by omega) (q := w.heap.size) (by omega)).below), by have h1 := HG5.out.size; have h2 := HSW.out; simp [setBlock] at h1 ⊢; omega⟩
  case done =>
    rintro D xs W3 hD rfl ⟨hbk, hsv, hsb, hgw, hsw⟩ hK
    have hvc := hsb.cell
    have HBK := Lib.hid hbk
    have HGB := Lib.hid hgw
    clear hbk hsv hsb hgw hsc
    go_wp2
    refine ⟨by simp, .inl ⟨_, _, rfl, run_takeDeferred hK, ?_⟩⟩
    refine ⟨_, results_tmp Tryd.results56 _ _ _, ⟨w.heap.size + 1, rfl, ?_⟩, ?_⟩
    · rw [HSL.out]
      exact (World.putObj_heap_other (by omega)).trans HBK.out
    · exact HGB.out.trans (put_below _ _ (by omega))
  case stop =>
    rintro D pre W3 hD _ h _
    exact h.elim

end Go.Proofs.YthehkgpnnndboaaDoor
