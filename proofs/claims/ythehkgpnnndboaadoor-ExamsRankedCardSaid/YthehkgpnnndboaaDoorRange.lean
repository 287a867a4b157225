/- Range: exams.Range; written by wip/tools/range9.py. -/
import Derived.Test.YthehkgpnnndboaaDoorReads
import Derived.Test.YthehkgpnnndboaaDoorRound
namespace Go.Proofs.YthehkgpnnndboaaDoor
open Go.RowKit Go.Shelf

attribute [local go_sem] Oper.semAt_some

theorem block_own {X Y : World} {B q : Nat} {t : TypeId} {cs : Array Value} {row : Option Nat} (h : BlockIs X q t cs) (hg : X.grownBy Y row) (hr : ∀ r, row = some r → B ≤ r ∧ ∃ o : Obj, X.heap[r]? = some o ∧ o.isCells = false) : BlockIs Y q t cs :=
  h.grown hg (fun e => by
    obtain ⟨_, o, ho, hc⟩ := hr q e.symm
    rw [show X.heap[q]? = _ from h] at ho
    cases ho
    cases hc)
/-- what the package's variable holds -/
structure Glob (w : World) : Prop where
  lo : w.cell? ⟨0, 0, none⟩ = some (.int .i64 1201)
  hi : w.cell? ⟨0, 1, none⟩ = some (.int .i64 (-1))
  lt : 0 < w.heap.size
theorem Glob.grow {w w' : World} (h : Glob w) (g : Grow w w') : Glob w' := ⟨g.cell h.lo, g.cell h.hi, Nat.lt_of_lt_of_le h.lt g.size⟩
theorem results_spanE {fn : Func} {r q : Nat} (h : fn.results = #[.cell r 33, .tmp q]) (t : Array Value) (W : World) (b : Nat) (v0 v1 u : Value)
    (hb : BlockIs W b 33 #[v0, v1]) (ht : t.getD r undef = .pointer (some ⟨b, 0, none⟩)) (hu : t.getD q undef = u) :
    (results fn t).run Tryd.prog W = .ok (.tuple #[.agg #[v0, v1], u]) W := by
  have hc := hb.cell
  simp only [results, h]
  simp at ht hu
  simp [go_sem, ht, hc, hu]
/-- the truths that are possible, where none has an error -/
theorem numErr_zero {p : PaperR} {n most : Int} (h : numErr p n most = 0) : GoodP p.d ∧ okPaper p.d = true ∧ truthsL p.d ≠ [] := by
  unfold numErr at h
  split at h
  · rename_i h1
    split at h
    · split at h
      · cases h
      · rename_i h3
        exact ⟨good_of h1, h1, fun e => h3 (by rw [e]; rfl)⟩
    · cases h
  · cases h
set_option maxRecDepth 100000 in
set_option maxHeartbeats 8000000 in
theorem range_bad (p : PaperR) (w : World) (hA : PaperAt w w.heap.size p) (hs : Short p) (he : numErr p 0 0 ≠ 0) :
    Calls Tryd.prog 18 #[paperV p] w fun e w' => e = .returned (.tuple #[spanV (0, 0), .int .i64 (numErr p 0 0)]) ∧ Below w.heap.size w w' := by
  have HR := Lib.hid (fun (w0 : World) (hw : Grow w w0) => readPossible_any p w0 (hA.grow hw) hs)
  rw [show numCells p 0 0 = zeroP from by unfold numCells; rw [if_neg he]] at HR
  obtain ⟨er, her⟩ : ∃ z, numErr p 0 0 = z := ⟨_, rfl⟩
  rw [her] at HR he ⊢
  have hne : (er != 0) = true := by rw [bne_iff_ne]; exact he
  clear her hA he
  go_enter Tryd.func18, Tryd.ntmps18
  go_upto_region 1 with fail
  obtain ⟨W, hW, hg, hf, hr, hsz⟩ := two_blocks w 26 33 (cellsP p) #[.int .i64 0, .int .i64 0]
  rw [hW]
  clear hW
  have hcc := hf.cell
  have HRB := Lib.hid hr
  have HG := Lib.hid hg
  clear hf hr hg
  go_wp2_with fail
  refine (HR.out W HG.out).mono ?_
  rintro e w1 ⟨rfl, hb1⟩
  have HG1 : Hid (Grow w w1) := Lib.hid (HG.out.trans hb1)
  have HR1 := Lib.hid ((show Grow W w1 from hb1).block HRB.out)
  clear hb1 hcc
  go_upto_region 3 with fail
  obtain ⟨W2, hW2, hg2, _, _⟩ := one_block w1 73 zeroP
  rw [hW2]
  clear hW2
  have HR2 := Lib.hid (hg2.block HR1.out)
  have HG2 : Hid (Grow w W2) := Lib.hid (HG1.out.trans hg2)
  have hrc := HR2.out.cell
  have hrf := HR2.out.frozen
  clear hg2
  have H5 := Lib.hid ((HR2.out.near 0 (.int .i64 0)).near 1 (.int .i64 0))
  have HB5 := Lib.hid (((show Below w.heap.size w W2 from HG2.out).setCell (p := ⟨w.heap.size + 1, 0, none⟩) (by show w.heap.size ≤ w.heap.size + 1; omega) (.int .i64 0)).setCell (p := ⟨w.heap.size + 1, 1, none⟩) (by show w.heap.size ≤ w.heap.size + 1; omega) (.int .i64 0))
  go_wp2_with fail
  exact bodyPost_ret (results_spanE Tryd.results18 _ _ _ _ _ _ H5.out rfl rfl) rfl ⟨rfl, HB5.out⟩
set_option maxRecDepth 100000 in
set_option maxHeartbeats 16000000 in
theorem range_good (p : PaperR) (w : World) (hA : PaperAt w w.heap.size p) (hs : Short p) (hG : Glob w) (he : numErr p 0 0 = 0) :
    Calls Tryd.prog 18 #[paperV p] w fun e w' => e = .returned (.tuple #[spanV (rangeD p.d), .int .i64 0]) ∧ Below w.heap.size w w' := by
  obtain ⟨G, _, hne⟩ := numErr_zero he
  have HR := Lib.hid (fun (w0 : World) (hw : Grow w w0) => readPossible_any p w0 (hA.grow hw) hs)
  rw [show numCells p 0 0 = cellsP p from by unfold numCells; rw [if_pos he], he] at HR
  have HPA := Lib.hid (fun (w0 : World) (hw : Below w.heap.size w w0) => hA.below hw)
  have HGL := Lib.hid (fun (w0 : World) (hw : Grow w w0) => hG.grow hw)
  have HRD : Hid (rangeD p.d = spanS ((truthsL p.d).map (resD p.items))) := rfl
  have hro : Fence.wide.round = none := rfl
  clear hA hG he
  refine (callsIn_wide (n := 8)).1 ?_
  refine callsIn_of_wp_marks Tryd.func18 rfl trivial ?_ hro
  simp only [Tryd.ntmps18, List.size_toArray, List.length_cons, List.length_nil, Nat.reduceAdd, Nat.reduceSub, Array.replicate_succ, Array.replicate_zero, List.push_toArray, List.append_toArray, List.nil_append, List.cons_append]
  refine wpIn_wide.2 ?_
  go_upto_region 1 with fail
  obtain ⟨W, hW, hg, hf, hr, hsz⟩ := two_blocks w 26 33 (cellsP p) #[.int .i64 0, .int .i64 0]
  rw [hW]
  clear hW
  have hcc := hf.cell
  have HRB := Lib.hid hr
  have HG := Lib.hid hg
  clear hf hr hg
  go_wp2_with fail
  refine (HR.out W HG.out).mono ?_
  rintro e w1 ⟨rfl, hb1⟩
  have HG1 : Hid (Grow w w1) := Lib.hid (HG.out.trans hb1)
  have HR1 := Lib.hid ((show Grow W w1 from hb1).block HRB.out)
  clear hb1 hcc
  have hgl0 := (HGL.out w1 HG1.out).lo
  have hgl1 := (HGL.out w1 HG1.out).hi
  have hgl2 := (HGL.out w1 HG1.out).lt
  go_upto_region 5 with fail
  obtain ⟨W2, hW2, hg2, hs2, hr2, hsz2⟩ := two_blocks w1 73 33 (cellsP p) #[.int .i64 1201, .int .i64 (-1)]
  rw [show (w1.alloc (.cells (cellsP p) 73)).alloc (.cells #[.int .i64 1201, .int .i64 (-1)] 33) = W2 from hW2]
  clear hW2
  have hw1s := HG1.out.size
  have hw1r := HR1.out.lt
  obtain ⟨sb, hsb⟩ : ∃ z, w1.heap.size = z := ⟨_, rfl⟩
  rw [hsb] at hs2 hr2 hsz2 hw1s hw1r ⊢
  have HS2 := Lib.hid hs2
  have HV2 := Lib.hid hr2
  have HR2 := Lib.hid (hg2.block HR1.out)
  have HG2 : Hid (Grow w W2) := Lib.hid (HG1.out.trans hg2)
  have hsc := hs2.cell
  clear hs2 hr2 hg2 hsb hgl0 hgl1 hgl2 HR1 HG1
  go_wp2_with fail
  refine (wpIn_wide (n := 8)).1 ?_
  refine wpIn_rangeLow (first := #[paperV p]) (lb := #[]) (gf := 50) rfl (enters_of Tryd.func50 (by kernel_rfl) rfl)
    (truths_stops p (good_with G (Int.le_refl 0) (by omega)) w.heap.size sb W2 (HPA.out W2 HG2.out) HG2.out.size) HG2.out.size (by omega) (Below.refl _ _) (fun _ => rfl)
    (fun pre W' => BlockIs W' (sb + 1) 33 #[.int .i64 (spanS (pre.map (resD p.items))).1, .int .i64 (spanS (pre.map (resD p.items))).2] ∧ BlockIs W' sb 73 (cellsP p) ∧ BlockIs W' (w.heap.size + 1) 33 #[.int .i64 0, .int .i64 0] ∧ Below w.heap.size w W' ∧ W2.heap.size ≤ W'.heap.size)
    (fun _ _ => False)
    (fun pre A B h g => ⟨(g.block _ (by omega)).trans h.1, (g.block _ (by omega)).trans h.2.1, (g.block _ (by omega)).trans h.2.2.1, h.2.2.2.1.trans (Below.mono g HG2.out.size), Nat.le_trans h.2.2.2.2 g.size⟩)
    (fun _ _ _ h _ => h)
    (fun _ _ h => h.2.2.2.2) (fun _ _ h => h.elim)
    ⟨HV2.out, HS2.out, HR2.out, HG2.out, Nat.le_refl _⟩
    (fun x a' W' => ∃ tb, W2.heap.size ≤ tb ∧ BlockIs W' tb 81 (cellsT x) ∧ a' = { tmps := #[paperV p, .pointer (some ⟨w.heap.size, 0, none⟩), .pointer (some ⟨w.heap.size + 1, 0, none⟩), .int .i64 0, .pointer (some ⟨sb, 0, none⟩), .int .i64 0, .pointer (some ⟨sb + 1, 0, none⟩), .pointer (some ⟨tb, 0, none⟩), .tuple #[.agg (cellsP p), .int .i64 0], paperV p, .tuple #[.agg (cellsP p), .int .i64 0], .agg (cellsP p), .int .i64 0, .int .i64 0, .bool false, undef, undef, .agg #[.int .i64 1201, .int .i64 (-1)], paperV p, .func (.func 50) #[paperV p] #[], .agg (cellsT x), .int .i64 (wrongS p.d.judges x : Nat), undef, undef, undef, undef, undef, undef], defers := [] })
    (fun _ _ _ _ _ _ ⟨tb, h1, h2, h3⟩ hg hr => ⟨tb, h1, block_own h2 hg hr, h3⟩)
    ?assign ?body ?done ?stop
  case assign =>
    rintro l pre x W3 K hi hK
    obtain ⟨hv, hsv, hrz, hgw, hsw⟩ := hi
    simp only [encT]
    gi_wp2
    have hg3 := Grow.alloc W3 (.cells (cellsT x) 81)
    exact hK _ _ (KeepM.of_grow hg3 hgw.size) ⟨hg3.block hv, hg3.block hsv, hg3.block hrz, hgw.trans (Below.mono hg3 hgw.size), Nat.le_trans hsw hg3.size⟩ ⟨W3.heap.size, hsw, BlockIs.new _ _ _, rfl⟩
  case body =>
    rintro l pre x a' W3 hl ⟨r, hr⟩ ⟨hv, hsv, hrz, hgw, hsw⟩ ⟨tb, htb, ht, rfl⟩ hpr
    have hmem : x ∈ truthsL p.d := by
      obtain ⟨post, hq⟩ := hpr
      rw [← hq]
      simp
    have hfit : fitsI p.items x = true := by
      have h1 := mem_truths.1 hmem
      unfold possD at h1
      rw [Bool.and_eq_true] at h1
      exact h1.1
    have hn3 : w.heap.size ≤ W3.heap.size := hgw.size
    have HRS := Lib.hid (fun (w0 : World) (hg : Grow W3 w0) => result_any p G x hfit w0 ((HPA.out w0 (Below.trans hgw (Below.mono hg hn3))).more (Nat.le_trans hn3 hg.size)))
    have HSP : Hid (spanS ((pre ++ [x]).map (resD p.items)) = withS (spanS (pre.map (resD p.items))) (resD p.items x)) := Lib.hid (by rw [List.map_append]; exact span_snoc _ _)
    obtain ⟨sp, hsp⟩ : ∃ z, spanS (pre.map (resD p.items)) = z := ⟨_, rfl⟩
    rw [hsp] at HSP hv
    obtain ⟨rs, hrs⟩ : ∃ z, resD p.items x = z := ⟨_, rfl⟩
    rw [hrs] at HSP HRS
    have HWT := Lib.hid (fun w0 => with_any sp rs w0)
    obtain ⟨nw, hnw⟩ : ∃ z, withS sp rs = z := ⟨_, rfl⟩
    rw [hnw] at HSP HWT
    have HV := Lib.hid hv
    have HS := Lib.hid hsv
    have HZ := Lib.hid hrz
    have HT := Lib.hid ht
    have HGW := Lib.hid hgw
    have HSW := Lib.hid hsw
    clear hmem hfit hsp hrs hnw hv hsv hrz ht hgw hpr
    obtain ⟨s1, s2⟩ := sp
    obtain ⟨n1, n2⟩ := nw
    gi_wp2_with fail
    refine wpIn_region_round 5 [[], [], [], [(1, 23), (2, 24)], [(0, 22), (3, 25)]] Grow (fun qi v w' => match qi with
        | 0 => v = spanV (s1, s2)
        | 1 => v = paperV p
        | 2 => v = .agg (cellsT x)
        | 3 => v = .int .i64 rs
        | 4 => v = spanV (n1, n2)
        | _ => False) (by kernel_rfl) (by kernel_rfl) (by kernel_rfl) (fun ⟨_, _, h⟩ => h) (fun _ _ _ => Grow.trans) Grow.refl ?_ ?_ ?_
    · intro i v y y' h k
      match i, h with
      | 0, h | 1, h | 2, h | 3, h | 4, h => exact h
    · simp only [StepsLit, List.take_succ_cons, List.take_zero]
      refine ⟨?_, ?_, ?_, ?_, ?_, trivial⟩
      · intro w5b hR
        have hGw : Grow W3 w5b := hR.of_drew
        have HGWb := Lib.hid hGw
        have hvc := (HGWb.out.block HV.out).cell
        have hsc := (HGWb.out.block HS.out).cell
        have htc := (HGWb.out.block HT.out).cell
        clear hR hGw
        simp only [depV]
        try go_simp
        all_goals first
          | (with_reducible exact Grow.refl _)
          | (with_reducible exact ⟨Grow.refl _, rfl⟩)
      · intro w5b hR
        have hGw : Grow W3 w5b := hR.of_drew
        have HGWb := Lib.hid hGw
        have hvc := (HGWb.out.block HV.out).cell
        have hsc := (HGWb.out.block HS.out).cell
        have htc := (HGWb.out.block HT.out).cell
        clear hR hGw
        simp only [depV]
        try go_simp
        all_goals first
          | (with_reducible exact Grow.refl _)
          | (with_reducible exact ⟨Grow.refl _, rfl⟩)
      · intro w5b hR
        have hGw : Grow W3 w5b := hR.of_drew
        have HGWb := Lib.hid hGw
        have hvc := (HGWb.out.block HV.out).cell
        have hsc := (HGWb.out.block HS.out).cell
        have htc := (HGWb.out.block HT.out).cell
        clear hR hGw
        simp only [depV]
        try go_simp
        all_goals first
          | (with_reducible exact Grow.refl _)
          | (with_reducible exact ⟨Grow.refl _, rfl⟩)
      · intro w5b hR
        have hGw : Grow W3 w5b := hR.of_drew
        have HGWb := Lib.hid hGw
        have hvc := (HGWb.out.block HV.out).cell
        have hsc := (HGWb.out.block HS.out).cell
        have htc := (HGWb.out.block HT.out).cell
        clear hR hGw
        simp only [depV]
        rintro _ rfl
        rintro _ rfl
        try go_simp
        refine (HRS.out w5b HGWb.out).mono ?_
        rintro e w6 ⟨rfl, hb6⟩
        exact ⟨hb6, rfl⟩
      · intro w5b hR
        have hGw : Grow W3 w5b := hR.of_drew
        have HGWb := Lib.hid hGw
        have hvc := (HGWb.out.block HV.out).cell
        have hsc := (HGWb.out.block HS.out).cell
        have htc := (HGWb.out.block HT.out).cell
        clear hR hGw
        simp only [depV]
        rintro _ rfl
        rintro _ rfl
        try go_simp
        refine (HWT.out w5b).mono ?_
        rintro e w6 ⟨rfl, hb6⟩
        exact ⟨hb6, rfl⟩
    · intro w5b hR
      have HG5b : Hid (Grow W3 w5b) := Lib.hid hR.of_drew
      clear hR
      simp only [finVC, List.take_succ_cons, List.take_zero, List.drop_succ_cons, List.drop_zero]
      rintro _ rfl
      rintro _ rfl
      rintro _ rfl
      rintro _ rfl
      rintro _ rfl
      simp only [Act.put, List.setIfInBounds_toArray, List.set_cons_succ, List.set_cons_zero]
      rename World => W8
      have HV8 := Lib.hid (HG5b.out.block HV.out)
      have hvc := HV8.out.cell
      have hvf := HV8.out.frozen
      go_wp2_with fail
      have hg8 : Grow W3 W8 := HG5b.out
      refine ⟨((KeepM.of_grow hg8 hn3).trans (KeepM.store _ _ _ (by omega) (by omega) (by omega))).trans (KeepM.store _ _ _ (by omega) (by omega) (by omega)), ?_, ?_, ?_, ?_, ?_⟩
      · rw [HSP.out]
        exact (HV8.out.near 0 _).near 1 _
      · exact ((hg8.block HS.out).far (p := ⟨sb + 1, 0, none⟩) (by show sb ≠ sb + 1; omega) _).far (p := ⟨sb + 1, 1, none⟩) (by show sb ≠ sb + 1; omega) _
      · exact ((hg8.block HZ.out).far (p := ⟨sb + 1, 0, none⟩) (by show w.heap.size + 1 ≠ sb + 1; omega) _).far (p := ⟨sb + 1, 1, none⟩) (by show w.heap.size + 1 ≠ sb + 1; omega) _
      · exact ((HGW.out.trans (Below.mono hg8 hn3)).setCell (p := ⟨sb + 1, 0, none⟩) (by show w.heap.size ≤ sb + 1; omega) _).setCell (p := ⟨sb + 1, 1, none⟩) (by show w.heap.size ≤ sb + 1; omega) _
      · have := hg8.size
        simp
        omega
  case done =>
    rintro D xs W3 hD rfl ⟨hv, hsv, hrz, hgw, hsw⟩ hK
    have hvc := hv.cell
    have hzc := hrz.cell
    have hzf := hrz.frozen
    rw [← HRD.out] at hvc
    have HZ := Lib.hid hrz
    clear hv hsv hrz
    go_wp2
    have hK' : ((W3.setCell ⟨w.heap.size + 1, 0, none⟩ (.int .i64 (rangeD p.d).1)).setCell ⟨w.heap.size + 1, 1, none⟩ (.int .i64 (rangeD p.d).2)).heap[D]? = some (.deferred (some [])) := (Below.heap_setCell _ ⟨w.heap.size + 1, 1, none⟩ _ D (by show D ≠ w.heap.size + 1; omega)).trans ((Below.heap_setCell W3 ⟨w.heap.size + 1, 0, none⟩ _ D (by show D ≠ w.heap.size + 1; omega)).trans hK)
    refine ⟨by simp, .inl ⟨_, _, rfl, run_takeDeferred hK', ?_⟩⟩
    refine ⟨_, results_spanE Tryd.results18 _ _ _ _ _ _ ((World.putObj_heap_other (by omega)).trans ((HZ.out.near 0 _).near 1 _)) rfl rfl, rfl, ?_⟩
    exact ((hgw.setCell (p := ⟨w.heap.size + 1, 0, none⟩) (by show w.heap.size ≤ w.heap.size + 1; omega) _).setCell (p := ⟨w.heap.size + 1, 1, none⟩) (by show w.heap.size ≤ w.heap.size + 1; omega) _).trans (put_below _ _ (by omega))
  case stop =>
    rintro D pre W3 hD _ h _
    exact h.elim

/-- what Range hands back -/
def rangeV (p : PaperR) : Int × Int := if numErr p 0 0 = 0 then rangeD p.d else (0, 0)
theorem rangeApi_any (p : PaperR) (w : World) (hA : PaperAt w w.heap.size p) (hs : Short p) (hG : Glob w) :
    Calls Tryd.prog 18 #[paperV p] w fun e w' => e = .returned (.tuple #[spanV (rangeV p), .int .i64 (numErr p 0 0)]) ∧ Below w.heap.size w w' := by
  unfold rangeV
  by_cases he : numErr p 0 0 = 0
  · rw [if_pos he, he]
    exact range_good p w hA hs hG he
  · rw [if_neg he]
    exact range_bad p w hA hs he

end Go.Proofs.YthehkgpnnndboaaDoor
