/- Reads: read, readNumber, readPossible: a paper that has been checked. -/
import Derived.Test.YthehkgpnnndboaaDoorPoss
namespace Go.Proofs.YthehkgpnnndboaaDoor
open Go.RowKit

abbrev zeroP : Array Value := #[.slice none 0 0, .slice none 0 0, .int .i64 0, .slice none 0 0]
theorem stores4 {w : World} {b : Nat} {t : TypeId} {c0 c1 c2 c3 : Value} (h : BlockIs w b t #[c0, c1, c2, c3]) (v0 v1 v2 v3 : Value) :
    BlockIs ((((w.setCell ⟨b, 0, none⟩ v0).setCell ⟨b, 1, none⟩ v1).setCell ⟨b, 2, none⟩ v2).setCell ⟨b, 3, none⟩ v3) b t #[v0, v1, v2, v3] := (((h.near 0 v0).near 1 v1).near 2 v2).near 3 v3
theorem below4 {w : World} {B b : Nat} (hb : B ≤ b) (v0 v1 v2 v3 : Value) : Below B w ((((w.setCell ⟨b, 0, none⟩ v0).setCell ⟨b, 1, none⟩ v1).setCell ⟨b, 2, none⟩ v2).setCell ⟨b, 3, none⟩ v3) :=
  ((((Below.refl B w).setCell (p := ⟨b, 0, none⟩) hb v0).setCell (p := ⟨b, 1, none⟩) hb v1).setCell (p := ⟨b, 2, none⟩) hb v2).setCell (p := ⟨b, 3, none⟩) hb v3
theorem results_sv {fn : Func} {r q : Nat} (h : fn.results = #[.cell r 73, .tmp q]) (t : Array Value) (W : World) (b : Nat) (v0 v1 v2 v3 u : Value)
    (hb : BlockIs W b 73 #[v0, v1, v2, v3]) (ht : t.getD r undef = .pointer (some ⟨b, 0, none⟩)) (hu : t.getD q undef = u) :
    (results fn t).run Tryd.prog W = .ok (.tuple #[.agg #[v0, v1, v2, v3], u]) W := by
  have hc := hb.cell
  simp only [results, h]
  simp at ht hu
  simp [go_sem, ht, hc, hu]
def paperErr (p : PaperR) : Int := if okPaper p.d then 0 else 90
def paperCells (p : PaperR) : Array Value := if okPaper p.d then cellsP p else zeroP
set_option maxRecDepth 100000 in
set_option maxHeartbeats 4000000 in
theorem read_any (p : PaperR) (w : World) (hA : PaperAt w w.heap.size p) (hs : Short p) :
    Calls Tryd.prog 47 #[paperV p] w fun e w' => e = .returned (.tuple #[.agg (paperCells p), .int .i64 (paperErr p)]) ∧ Below w.heap.size w w' := by
  have HV := Lib.hid (fun (w0 : World) (hw : Grow w w0) => validPaper_any p w0 (hA.grow hw) hs)
  have HE : Hid (paperErr p = if okPaper p.d then 0 else 90) := rfl
  have HC : Hid (paperCells p = if okPaper p.d then cellsP p else zeroP) := rfl
  obtain ⟨er, her⟩ : ∃ z, paperErr p = z := ⟨_, rfl⟩
  obtain ⟨rc, hrc⟩ : ∃ z, paperCells p = z := ⟨_, rfl⟩
  obtain ⟨ok, hok⟩ : ∃ z, okPaper p.d = z := ⟨_, rfl⟩
  rw [her, hok] at HE
  rw [hrc, hok] at HC
  rw [hok] at HV
  rw [her, hrc]
  clear her hrc hok hA
  go_enter Tryd.func47, Tryd.ntmps47
  go_upto_region 1 with fail
  obtain ⟨W, hW, hg, hf, hr, hsz⟩ := two_blocks w 26 73 (cellsP p) zeroP
  rw [hW]
  clear hW
  have hcc := hf.cell
  have HFR := Lib.hid hf
  have HRB := Lib.hid hr
  have HG := Lib.hid hg
  clear hf hr hg
  go_wp2_with fail
  refine (HV.out W HG.out).mono ?_
  rintro e w1 ⟨rfl, hb1⟩
  have HG1 : Hid (Grow w w1) := Lib.hid (HG.out.trans hb1)
  have hcc1 := ((show Grow W w1 from hb1).block HFR.out).cell
  have hrb := (show Grow W w1 from hb1).block HRB.out
  have hrc := hrb.cell
  have hrf := hrb.frozen
  have HR1 := Lib.hid hrb
  clear hb1 hcc hrb
  cases ok with
  | false =>
    obtain rfl : er = 90 := by rw [HE.out]; rfl
    obtain rfl : rc = zeroP := by rw [HC.out]; rfl
    have H5 := Lib.hid (stores4 HR1.out (.slice none 0 0) (.slice none 0 0) (.int .i64 0) (.slice none 0 0))
    have HB5 := Lib.hid (HG1.out.trans' (below4 (w := w1) (B := w.heap.size) (b := w.heap.size + 1) (by omega) (.slice none 0 0) (.slice none 0 0) (.int .i64 0) (.slice none 0 0)))
    go_wp2
    exact bodyPost_ret (results_sv Tryd.results47 _ _ _ _ _ _ _ _ H5.out rfl rfl) rfl ⟨rfl, HB5.out⟩
  | true =>
    obtain rfl : er = 0 := by rw [HE.out]; rfl
    obtain rfl : rc = cellsP p := by rw [HC.out]; rfl
    have H5 := Lib.hid (stores4 HR1.out (.slice p.ia p.items.length p.ic) (.slice p.ja p.judges.length p.jc) (.int .i64 p.wrong) (.slice p.ga p.grades.length p.gc))
    have HB5 := Lib.hid (HG1.out.trans' (below4 (w := w1) (B := w.heap.size) (b := w.heap.size + 1) (by omega) (.slice p.ia p.items.length p.ic) (.slice p.ja p.judges.length p.jc) (.int .i64 p.wrong) (.slice p.ga p.grades.length p.gc)))
    go_wp2
    exact bodyPost_ret (results_sv Tryd.results47 _ _ _ _ _ _ _ _ H5.out rfl rfl) rfl ⟨rfl, HB5.out⟩

/-- the error of a paper and a number, also if no truth is possible -/
def numErr (p : PaperR) (n most : Int) : Int := if okPaper p.d then (if inB n 0 most then (if (truthsL p.d).isEmpty then 3 else 0) else 1) else 90
def numCells (p : PaperR) (n most : Int) : Array Value := if numErr p n most = 0 then cellsP p else zeroP
set_option maxRecDepth 100000 in
set_option maxHeartbeats 8000000 in
theorem readNumber_any (p : PaperR) (n most : Int) (w : World) (hA : PaperAt w w.heap.size p) (hs : Short p) :
    Calls Tryd.prog 60 #[paperV p, .int .i64 n, .int .i64 most] w fun e w' => e = .returned (.tuple #[.agg (numCells p n most), .int .i64 (numErr p n most)]) ∧ Below w.heap.size w w' := by
  have HR := Lib.hid (fun (w0 : World) (hw : Grow w w0) => read_any p w0 (hA.grow hw) hs)
  have HWI := Lib.hid (fun w0 => within_any n 0 most w0)
  have HC : Hid (numCells p n most = if numErr p n most = 0 then cellsP p else zeroP) := rfl
  obtain ⟨sc, hsc⟩ : ∃ z, numCells p n most = z := ⟨_, rfl⟩
  obtain ⟨er, her⟩ : ∃ z, numErr p n most = z := ⟨_, rfl⟩
  rw [hsc, her] at HC
  rw [hsc, her]
  have HRF : Hid (∀ (w1 : World), BlockIs w1 (w.heap.size + 1) 73 zeroP → Grow w w1 → ∀ v0 v1 v2 v3, BlockIs ((((w1.setCell ⟨w.heap.size + 1, 0, none⟩ v0).setCell ⟨w.heap.size + 1, 1, none⟩ v1).setCell ⟨w.heap.size + 1, 2, none⟩ v2).setCell ⟨w.heap.size + 1, 3, none⟩ v3) (w.heap.size + 1) 73 #[v0, v1, v2, v3] ∧
      Below w.heap.size w ((((w1.setCell ⟨w.heap.size + 1, 0, none⟩ v0).setCell ⟨w.heap.size + 1, 1, none⟩ v1).setCell ⟨w.heap.size + 1, 2, none⟩ v2).setCell ⟨w.heap.size + 1, 3, none⟩ v3)) := Lib.hid (fun w1 hb hg v0 v1 v2 v3 => ⟨stores4 hb v0 v1 v2 v3, hg.trans' (below4 (by omega) v0 v1 v2 v3)⟩)
  cases hok : okPaper p.d with
  | false =>
    have h1 : paperErr p = 90 := by unfold paperErr; rw [hok]; rfl
    have h2 : paperCells p = zeroP := by unfold paperCells; rw [hok]; rfl
    obtain rfl : er = 90 := by rw [← her]; unfold numErr; rw [hok]; rfl
    obtain rfl : sc = zeroP := by rw [HC.out]; rfl
    rw [h1, h2] at HR
    clear h1 h2 hok hsc her hA
    go_enter Tryd.func60, Tryd.ntmps60
    go_upto_region 1 with fail
    obtain ⟨W, hW, hg, hf, hr, hsz⟩ := two_blocks w 26 73 (cellsP p) zeroP
    rw [hW]
    clear hW
    have hcc := hf.cell
    have HRB := Lib.hid hr
    have HG := Lib.hid hg
    clear hf hr hg
    go_wp2_with fail
    refine (HR.out W HG.out).mono ?_
    rintro e w1 ⟨rfl, hb1⟩
    have HG1 : Hid (Grow w w1) := Lib.hid (HG.out.trans hb1)
    have HR1 := Lib.hid ((show Grow W w1 from hb1).block HRB.out)
    clear hb1 hcc
    go_upto_region 3 with fail
    obtain ⟨W2, hW2, hg2, _, _⟩ := one_block w1 73 zeroP
    rw [hW2]
    clear hW2
    have HR2 := Lib.hid (hg2.block HR1.out)
    have HG2 : Hid (Grow w W2) := Lib.hid (HG1.out.trans hg2)
    clear hg2
    have hrc := HR2.out.cell
    have hrf := HR2.out.frozen
    obtain ⟨H5, HB5⟩ := HRF.out _ HR2.out HG2.out (.slice none 0 0) (.slice none 0 0) (.int .i64 0) (.slice none 0 0)
    have H5 := Lib.hid H5
    have HB5 := Lib.hid HB5
    go_wp2_with fail
    exact bodyPost_ret (results_sv Tryd.results60 _ _ _ _ _ _ _ _ H5.out rfl rfl) rfl ⟨rfl, HB5.out⟩
  | true =>
    have h1 : paperErr p = 0 := by unfold paperErr; rw [hok]; rfl
    have h2 : paperCells p = cellsP p := by unfold paperCells; rw [hok]; rfl
    have G : GoodP p.d := good_of hok
    rw [h1, h2] at HR
    have HIP := Lib.hid (fun (w0 : World) (hw : Grow w w0) => isPossible_any p (good_with G (Int.le_refl 0) (by omega)) w0 (hA.grow hw))
    have HER : Hid (er = if inB n 0 most then (if (truthsL p.d).isEmpty then 3 else 0) else 1) := Lib.hid (by rw [← her]; unfold numErr; rw [hok]; rfl)
    obtain ⟨wi, hwi⟩ : ∃ z, inB n 0 most = z := ⟨_, rfl⟩
    rw [hwi] at HWI HER
    obtain ⟨em, hem⟩ : ∃ z, (truthsL p.d).isEmpty = z := ⟨_, rfl⟩
    rw [hem] at HIP HER
    clear h1 h2 hok hsc her hA hwi hem
    go_enter Tryd.func60, Tryd.ntmps60
    go_upto_region 1 with fail
    obtain ⟨W, hW, hg, hf, hr, hsz⟩ := two_blocks w 26 73 (cellsP p) zeroP
    rw [hW]
    clear hW
    have hcc := hf.cell
    have HRB := Lib.hid hr
    have HG := Lib.hid hg
    clear hf hr hg
    go_wp2_with fail
    refine (HR.out W HG.out).mono ?_
    rintro e w1 ⟨rfl, hb1⟩
    have HG1 : Hid (Grow w w1) := Lib.hid (HG.out.trans hb1)
    have HR1 := Lib.hid ((show Grow W w1 from hb1).block HRB.out)
    clear hb1 hcc
    go_upto_region 4 with fail
    obtain ⟨W2, hW2, hg2, hs2, hsz2⟩ := one_block w1 73 (cellsP p)
    rw [hW2]
    clear hW2
    obtain ⟨sb, hsb⟩ : ∃ z, w1.heap.size = z := ⟨_, rfl⟩
    rw [hsb] at hs2 ⊢
    have HR2 := Lib.hid (hg2.block HR1.out)
    have HG2 : Hid (Grow w W2) := Lib.hid (HG1.out.trans hg2)
    have HS2 := Lib.hid hs2
    clear hg2 hs2 hsb hsz2
    go_wp2_with fail
    refine (HWI.out _).mono ?_
    rintro e w3 ⟨rfl, rfl⟩
    cases wi with
    | false =>
      obtain rfl : er = 1 := by rw [HER.out]; rfl
      obtain rfl : sc = zeroP := by rw [HC.out]; rfl
      have hrc := HR2.out.cell
      have hrf := HR2.out.frozen
      obtain ⟨H5, HB5⟩ := HRF.out _ HR2.out HG2.out (.slice none 0 0) (.slice none 0 0) (.int .i64 0) (.slice none 0 0)
      have H5 := Lib.hid H5
      have HB5 := Lib.hid HB5
      go_wp2_with fail
      exact bodyPost_ret (results_sv Tryd.results60 _ _ _ _ _ _ _ _ H5.out rfl rfl) rfl ⟨rfl, HB5.out⟩
    | true =>
      have hsc := HS2.out.cell
      go_wp2_with fail
      refine (HIP.out W2 HG2.out).mono ?_
      rintro e w4 ⟨rfl, hb4⟩
      have HR2' := Lib.hid ((show Grow W2 w4 from hb4).block HR2.out)
      have HG2' : Hid (Grow w w4) := Lib.hid (HG2.out.trans hb4)
      have HS2' := Lib.hid ((show Grow W2 w4 from hb4).block HS2.out)
      clear hb4 hsc HR2 HG2 HS2
      have HR2 := HR2'
      have HG2 := HG2'
      have HS2 := HS2'
      clear HR2' HG2' HS2'
      cases em with
      | true =>
        obtain rfl : er = 3 := by rw [HER.out]; rfl
        obtain rfl : sc = zeroP := by rw [HC.out]; rfl
        have hrc := HR2.out.cell
        have hrf := HR2.out.frozen
        obtain ⟨H5, HB5⟩ := HRF.out _ HR2.out HG2.out (.slice none 0 0) (.slice none 0 0) (.int .i64 0) (.slice none 0 0)
        have H5 := Lib.hid H5
        have HB5 := Lib.hid HB5
        go_wp2_with fail
        exact bodyPost_ret (results_sv Tryd.results60 _ _ _ _ _ _ _ _ H5.out rfl rfl) rfl ⟨rfl, HB5.out⟩
      | false =>
        obtain rfl : er = 0 := by rw [HER.out]; rfl
        obtain rfl : sc = cellsP p := by rw [HC.out]; rfl
        have hsc := HS2.out.cell
        have hrc := HR2.out.cell
        have hrf := HR2.out.frozen
        obtain ⟨H5, HB5⟩ := HRF.out _ HR2.out HG2.out (.slice p.ia p.items.length p.ic) (.slice p.ja p.judges.length p.jc) (.int .i64 p.wrong) (.slice p.ga p.grades.length p.gc)
        have H5 := Lib.hid H5
        have HB5 := Lib.hid HB5
        go_wp2_with fail
        exact bodyPost_ret (results_sv Tryd.results60 _ _ _ _ _ _ _ _ H5.out rfl rfl) rfl ⟨rfl, HB5.out⟩
set_option maxRecDepth 100000 in
set_option maxHeartbeats 4000000 in
theorem readPossible_any (p : PaperR) (w : World) (hA : PaperAt w w.heap.size p) (hs : Short p) :
    Calls Tryd.prog 49 #[paperV p] w fun e w' => e = .returned (.tuple #[.agg (numCells p 0 0), .int .i64 (numErr p 0 0)]) ∧ Below w.heap.size w w' := by
  have HN := Lib.hid (fun (w0 : World) (hw : Grow w w0) => readNumber_any p 0 0 w0 (hA.grow hw) hs)
  by_cases h0 : numErr p 0 0 = 0
  · rw [show numCells p 0 0 = cellsP p from by unfold numCells; first | rw [if_pos h0] | rw [if_neg h0]] at HN ⊢
    obtain ⟨er, her⟩ : ∃ z, numErr p 0 0 = z := ⟨_, rfl⟩
    rw [her] at HN ⊢
    clear her h0 hA
    go_enter Tryd.func49, Tryd.ntmps49
    go_upto_region 1 with fail
    obtain ⟨W, hW, hg, hf, hr, hsz⟩ := two_blocks w 26 73 (cellsP p) zeroP
    rw [hW]
    clear hW
    have hcc := hf.cell
    have HRB := Lib.hid hr
    have HG := Lib.hid hg
    clear hf hr hg
    go_wp2_with fail
    refine (HN.out W HG.out).mono ?_
    rintro e w1 ⟨rfl, hb1⟩
    have HG1 : Hid (Grow w w1) := Lib.hid (HG.out.trans hb1)
    have HR1 := Lib.hid ((show Grow W w1 from hb1).block HRB.out)
    have hrc := HR1.out.cell
    have hrf := HR1.out.frozen
    clear hb1 hcc
    have H5 := Lib.hid (stores4 HR1.out (.slice p.ia p.items.length p.ic) (.slice p.ja p.judges.length p.jc) (.int .i64 p.wrong) (.slice p.ga p.grades.length p.gc))
    have HB5 := Lib.hid (HG1.out.trans' (below4 (w := w1) (B := w.heap.size) (b := w.heap.size + 1) (by omega) (.slice p.ia p.items.length p.ic) (.slice p.ja p.judges.length p.jc) (.int .i64 p.wrong) (.slice p.ga p.grades.length p.gc)))
    go_wp2_with fail
    exact bodyPost_ret (results_sv Tryd.results49 _ _ _ _ _ _ _ _ H5.out rfl rfl) rfl ⟨rfl, HB5.out⟩
  · rw [show numCells p 0 0 = zeroP from by unfold numCells; first | rw [if_pos h0] | rw [if_neg h0]] at HN ⊢
    obtain ⟨er, her⟩ : ∃ z, numErr p 0 0 = z := ⟨_, rfl⟩
    rw [her] at HN ⊢
    clear her h0 hA
    go_enter Tryd.func49, Tryd.ntmps49
    go_upto_region 1 with fail
    obtain ⟨W, hW, hg, hf, hr, hsz⟩ := two_blocks w 26 73 (cellsP p) zeroP
    rw [hW]
    clear hW
    have hcc := hf.cell
    have HRB := Lib.hid hr
    have HG := Lib.hid hg
    clear hf hr hg
    go_wp2_with fail
    refine (HN.out W HG.out).mono ?_
    rintro e w1 ⟨rfl, hb1⟩
    have HG1 : Hid (Grow w w1) := Lib.hid (HG.out.trans hb1)
    have HR1 := Lib.hid ((show Grow W w1 from hb1).block HRB.out)
    have hrc := HR1.out.cell
    have hrf := HR1.out.frozen
    clear hb1 hcc
    have H5 := Lib.hid (stores4 HR1.out (.slice none 0 0) (.slice none 0 0) (.int .i64 0) (.slice none 0 0))
    have HB5 := Lib.hid (HG1.out.trans' (below4 (w := w1) (B := w.heap.size) (b := w.heap.size + 1) (by omega) (.slice none 0 0) (.slice none 0 0) (.int .i64 0) (.slice none 0 0)))
    go_wp2_with fail
    exact bodyPost_ret (results_sv Tryd.results49 _ _ _ _ _ _ _ _ H5.out rfl rfl) rfl ⟨rfl, HB5.out⟩

end Go.Proofs.YthehkgpnnndboaaDoor
