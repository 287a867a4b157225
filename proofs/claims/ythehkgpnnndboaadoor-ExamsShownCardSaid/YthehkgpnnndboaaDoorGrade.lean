/- Grade: exams.Grade. -/
import Derived.Test.YthehkgpnnndboaaDoorShown
namespace Go.Proofs.YthehkgpnnndboaaDoor
open Go.RowKit Go.Shelf
open Go.ChangeMaps (setBlock)

set_option maxRecDepth 100000 in
set_option maxHeartbeats 8000000 in
theorem gradeApi_bad (p : PaperR) (w : World) (hA : PaperAt w w.heap.size p) (hs : Short p) (he : numErr p 0 0 ≠ 0) :
    Calls Tryd.prog 23 #[paperV p] w fun e w' => e = .returned (.tuple #[spanV (0, 0), .int .i64 (numErr p 0 0)]) ∧ Below w.heap.size w w' := by
  have HR := Lib.hid (fun (w0 : World) (hw : Grow w w0) => readPossible_any p w0 (hA.grow hw) hs)
  rw [show numCells p 0 0 = zeroP from by unfold numCells; rw [if_neg he]] at HR
  obtain ⟨er, her⟩ : ∃ z, numErr p 0 0 = z := ⟨_, rfl⟩
  rw [her] at HR he ⊢
  have hne : (er != 0) = true := by rw [bne_iff_ne]; exact he
  clear her hA he
  go_enter Tryd.func23, Tryd.ntmps23
  go_upto_region 1 with fail
  obtain ⟨W, hW, hg, hf, hr, hsz⟩ := two_blocks w 26 33 (cellsP p) #[.int .i64 0, .int .i64 0]
  rw [hW]
  clear hW
  have hcc := hf.cell
  have HRB := Lib.hid hr
  have HG := Lib.hid hg
  clear hf hr hg
  go_wp2_with fail
  refine (HR.out W HG.out).mono ?_
  rintro e w1 ⟨rfl, hb1⟩
  have HG1 : Hid (Grow w w1) := Lib.hid (HG.out.trans hb1)
  have HR1 := Lib.hid ((show Grow W w1 from hb1).block HRB.out)
  clear hb1 hcc
  go_upto_region 3 with fail
  obtain ⟨W2, hW2, hg2, _, _⟩ := one_block w1 73 zeroP
  rw [hW2]
  clear hW2
  have HR2 := Lib.hid (hg2.block HR1.out)
  have HG2 : Hid (Grow w W2) := Lib.hid (HG1.out.trans hg2)
  have hrc := HR2.out.cell
  have hrf := HR2.out.frozen
  clear hg2
  have H5 := Lib.hid ((HR2.out.near 0 (.int .i64 0)).near 1 (.int .i64 0))
  have HB5 := Lib.hid (((show Below w.heap.size w W2 from HG2.out).setCell (p := ⟨w.heap.size + 1, 0, none⟩) (by show w.heap.size ≤ w.heap.size + 1; omega) (.int .i64 0)).setCell (p := ⟨w.heap.size + 1, 1, none⟩) (by show w.heap.size ≤ w.heap.size + 1; omega) (.int .i64 0))
  go_wp2_with fail
  exact bodyPost_ret (results_spanE Tryd.results23 _ _ _ _ _ _ H5.out rfl rfl) rfl ⟨rfl, HB5.out⟩
theorem book_ne {w : World} {m b : Nat} {L : List GT} {t : TypeId} {cs : Array Value} (h : BookAt w m L) (hb : BlockIs w b t cs) : m ≠ b := fun e => by
  subst e
  have := h.symm.trans hb
  simp at this

set_option maxRecDepth 100000 in
set_option maxHeartbeats 16000000 in
theorem gradeApi_good (p : PaperR) (w : World) (hA : PaperAt w w.heap.size p) (hs : Short p) (hG : Glob w) (he : numErr p 0 0 = 0) :
    Calls Tryd.prog 23 #[paperV p] w fun e w' => e = .returned (.tuple #[spanV (gradeS p.d), .int .i64 0]) ∧ Below w.heap.size w w' := by
  obtain ⟨G, _, hne⟩ := numErr_zero he
  have HR := Lib.hid (fun (w0 : World) (hw : Grow w w0) => readPossible_any p w0 (hA.grow hw) hs)
  rw [show numCells p 0 0 = cellsP p from by unfold numCells; rw [if_pos he], he] at HR
  have HSH := Lib.hid (fun (w0 : World) (hw : Grow w w0) => shown_any p G w0 (hA.grow hw))
  have HGL := Lib.hid (fun (w0 : World) (hw : Grow w w0) => hG.grow hw)
  have HSP := Lib.hid (shown_span p.d)
  obtain ⟨L, hL⟩ : ∃ z, shownL p.d = z := ⟨_, rfl⟩
  rw [hL] at HSH HSP
  obtain ⟨gs, hgs⟩ : ∃ z, gradeS p.d = z := ⟨_, rfl⟩
  rw [hgs] at HSP ⊢
  clear hA hG he hL hgs
  go_enter Tryd.func23, Tryd.ntmps23
  go_upto_region 1 with fail
  obtain ⟨W, hW, hg, hf, hr, hsz⟩ := two_blocks w 26 33 (cellsP p) #[.int .i64 0, .int .i64 0]
  rw [hW]
  clear hW
  have hcc := hf.cell
  have HRB := Lib.hid hr
  have HG := Lib.hid hg
  clear hf hr hg
  go_wp2_with fail
  refine (HR.out W HG.out).mono ?_
  rintro e w1 ⟨rfl, hb1⟩
  have HG1 : Hid (Grow w w1) := Lib.hid (HG.out.trans hb1)
  have HR1 := Lib.hid ((show Grow W w1 from hb1).block HRB.out)
  clear hb1 hcc
  have hgl0 := (HGL.out w1 HG1.out).lo
  have hgl1 := (HGL.out w1 HG1.out).hi
  have hgl2 := (HGL.out w1 HG1.out).lt
  go_upto_region 5 with fail
  obtain ⟨W2, hW2, hg2, hs2, hr2, hsz2⟩ := two_blocks w1 73 33 (cellsP p) #[.int .i64 1201, .int .i64 (-1)]
  rw [show (w1.alloc (.cells (cellsP p) 73)).alloc (.cells #[.int .i64 1201, .int .i64 (-1)] 33) = W2 from hW2]
  clear hW2
  have hw1s := HG1.out.size
  have hw1r := HR1.out.lt
  obtain ⟨sb, hsb⟩ : ∃ z, w1.heap.size = z := ⟨_, rfl⟩
  rw [hsb] at hs2 hr2 hsz2 hw1s hw1r ⊢
  have HS2 := Lib.hid hs2
  have HV2 := Lib.hid hr2
  have HR2 := Lib.hid (hg2.block HR1.out)
  have HG2 : Hid (Grow w W2) := Lib.hid (HG1.out.trans hg2)
  have hsc := hs2.cell
  clear hs2 hr2 hg2 hsb hgl0 hgl1 hgl2 HR1 HG1
  go_wp2_with fail
  refine (HSH.out W2 HG2.out).mono ?_
  rintro e w3 ⟨⟨m, rfl, hbk⟩, hb3⟩
  have HG3 : Hid (Grow w w3) := Lib.hid (HG2.out.trans hb3)
  have HV3 := Lib.hid ((show Grow W2 w3 from hb3).block HV2.out)
  have HR3 := Lib.hid ((show Grow W2 w3 from hb3).block HR2.out)
  have HBK3 := Lib.hid hbk
  have hrg := range_book hbk
  clear hbk hb3 hsc
  go_wp2
  have HMV := Lib.hid (book_ne HBK3.out HV3.out)
  have HMR := Lib.hid (book_ne HBK3.out HR3.out)
  have HML := Lib.hid HBK3.out.lt
  have HVL := Lib.hid HV3.out.lt
  have HRL := Lib.hid HR3.out.lt
  have HZ3 := Lib.hid HG3.out.size
  go_loopw [7] (fun _ wr => ∃ (seen : Array Nat) (ss : List GT), IterAt wr w3.heap.size m L.length seen ∧ BookAt wr m L ∧ Taken L seen ss ∧ BlockIs wr (sb + 1) 33 #[.int .i64 (spanS (ss.map (·.1))).1, .int .i64 (spanS (ss.map (·.1))).2] ∧ BlockIs wr (w.heap.size + 1) 33 #[.int .i64 0, .int .i64 0] ∧ Below w.heap.size w wr) (fun _ wr => (leftOf (entsM L) (wr.iterSeen w3.heap.size)).size)
  case atStart => exact ⟨#[], [], IterAt.new w3 m L.length, HBK3.out.grow (Grow.alloc _ _), Taken.start L, (Grow.alloc w3 _).block HV3.out, (Grow.alloc w3 _).block HR3.out, HG3.out.trans (Grow.alloc w3 _)⟩
  case round =>
    obtain ⟨seen, ss, hit, hbk, hT, hsp, hrz, hbw⟩ := hrel
    clear hrg
    rcases next_book 0 hit hbk with ⟨hall, hn1⟩ | ⟨k, y, hy, hk, w1', hw, hn1⟩
    · have hnx : ∀ ty, (Instr.next (.pointer (some ⟨w3.heap.size, 0, none⟩)) false ty).run Tryd.prog wr = _ := fun _ => hn1
      have hperm := hT.all hall
      have hse : spanS (ss.map (·.1)) = gs := by
        rw [← HSP.out]
        exact span_mem fun n => (hperm.map _).mem_iff
      rw [hse] at hsp
      have hvc := hsp.cell
      have hrc := hrz.cell
      have hrf := hrz.frozen
      have HRZ := Lib.hid hrz
      have HBW := Lib.hid hbw
      obtain ⟨g1, g2⟩ := gs
      clear hit hbk hn1 hperm hse hT hsp hrz hbw hall
      go_wp2
      refine bodyPost_ret (results_spanE Tryd.results23 _ _ (w.heap.size + 1) _ _ _ ((HRZ.out.near 0 _).near 1 _) rfl rfl) rfl ⟨rfl, ?_⟩
      exact (HBW.out.setCell (p := ⟨w.heap.size + 1, 0, none⟩) (by show w.heap.size ≤ w.heap.size + 1; omega) _).setCell (p := ⟨w.heap.size + 1, 1, none⟩) (by show w.heap.size ≤ w.heap.size + 1; omega) _
    · obtain ⟨hit2, hb2, hz2, hoth⟩ := step_book (k := k) hit hw
      have hmeas := left_book hy hk
      generalize setBlock w1' w3.heap.size (.mapIter (some m) L.length (seen.push k) L.length) = w2 at hn1 hit2 hb2 hz2 hoth
      have hnx : ∀ ty, (Instr.next (.pointer (some ⟨w3.heap.size, 0, none⟩)) false ty).run Tryd.prog wr = _ := fun _ => hn1
      have hml := HML.out
      have hvl := HVL.out
      have hrl := HRL.out
      have hbk2 : BookAt w2 m L := (hoth m (by omega)).trans hbk
      have hen := entry_book hit2 hbk2 hy
      have HI0 := Lib.hid hit
      have HI2 := Lib.hid hit2
      have HB2 := Lib.hid hbk2
      have HT2 := Lib.hid (hT.push hy hk)
      have HSP2 : Hid (BlockIs w2 (sb + 1) 33 #[.int .i64 (spanS (ss.map (·.1))).1, .int .i64 (spanS (ss.map (·.1))).2]) := Lib.hid ((hoth _ (by omega)).trans hsp)
      have HRZ2 : Hid (BlockIs w2 (w.heap.size + 1) 33 #[.int .i64 0, .int .i64 0]) := Lib.hid ((hoth _ (by omega)).trans hrz)
      have hz3 := HZ3.out
      have HBW2 : Hid (Below w.heap.size w w2) := Lib.hid (hbw.trans (Below.mono hb2 hz3))
      have HSN : Hid (spanS ((ss ++ [y]).map (·.1)) = withS (spanS (ss.map (·.1))) y.1) := Lib.hid (by rw [List.map_append]; exact span_snoc _ _)
      obtain ⟨sp, hsp'⟩ : ∃ z, spanS (ss.map (·.1)) = z := ⟨_, rfl⟩
      rw [hsp'] at HSN HSP2
      obtain ⟨g, hg'⟩ : ∃ z, y.1 = z := ⟨_, rfl⟩
      rw [hg'] at HSN
      have HWT := Lib.hid (fun w0 => with_any sp g w0)
      obtain ⟨nw, hnw⟩ : ∃ z, withS sp g = z := ⟨_, rfl⟩
      rw [hnw] at HSN HWT
      rw [hg'] at hn1 hnx hen
      have hvc := HSP2.out.cell
      obtain ⟨s1, s2⟩ := sp
      obtain ⟨n1, n2⟩ := nw
      have HM := Lib.hid hmeas
      clear hit hbk hn1 hit2 hb2 hz2 hoth hbk2 hT hy hk hw hsp hrz hbw hsp' hg' hnw hmeas
      go_wp2_with fail
      refine (HWT.out _).mono ?_
      rintro e w5 ⟨rfl, hb5⟩
      have HG5 : Hid (Grow w2 w5) := Lib.hid hb5
      have HSP5 := Lib.hid (HG5.out.block HSP2.out)
      have hvc := HSP5.out.cell
      have hvf := HSP5.out.frozen
      clear hb5 hen hnx
      go_wp2_with fail
      go_roundw
      case rel => exact ⟨seen.push k, ss ++ [y], (HI2.out.grow HG5.out).setCell (p := ⟨sb + 1, 0, none⟩) (by show w3.heap.size ≠ sb + 1; omega) _ |>.setCell (p := ⟨sb + 1, 1, none⟩) (by show w3.heap.size ≠ sb + 1; omega) _, ((HB2.out.grow HG5.out).setCell (p := ⟨sb + 1, 0, none⟩) HMV.out _).setCell (p := ⟨sb + 1, 1, none⟩) HMV.out _, HT2.out, by
          rw [HSN.out]
          exact (HSP5.out.near 0 _).near 1 _, ((HG5.out.block HRZ2.out).far (p := ⟨sb + 1, 0, none⟩) (by show w.heap.size + 1 ≠ sb + 1; omega) _).far (p := ⟨sb + 1, 1, none⟩) (by show w.heap.size + 1 ≠ sb + 1; omega) _, ((HBW2.out.trans (Below.mono HG5.out HBW2.out.size)).setCell (p := ⟨sb + 1, 0, none⟩) (by show w.heap.size ≤ sb + 1; omega) _).setCell (p := ⟨sb + 1, 1, none⟩) (by show w.heap.size ≤ sb + 1; omega) _⟩
      case measure =>
        have e1 := ((HI2.out.grow HG5.out).setCell (p := ⟨sb + 1, 0, none⟩) (by show w3.heap.size ≠ sb + 1; omega) (.int .i64 n1)).setCell (p := ⟨sb + 1, 1, none⟩) (by show w3.heap.size ≠ sb + 1; omega) (.int .i64 n2)
        rw [e1.seen, HI0.out.seen]
        exact HM.out

/-- what Grade hands back -/
def gradeV (p : PaperR) : Int × Int := if numErr p 0 0 = 0 then gradeS p.d else (0, 0)
theorem gradeApi_any (p : PaperR) (w : World) (hA : PaperAt w w.heap.size p) (hs : Short p) (hG : Glob w) :
    Calls Tryd.prog 23 #[paperV p] w fun e w' => e = .returned (.tuple #[spanV (gradeV p), .int .i64 (numErr p 0 0)]) ∧ Below w.heap.size w w' := by
  unfold gradeV
  by_cases he : numErr p 0 0 = 0
  · rw [if_pos he, he]
    exact gradeApi_good p w hA hs hG he
  · rw [if_neg he]
    exact gradeApi_bad p w hA hs he

end Go.Proofs.YthehkgpnnndboaaDoor
