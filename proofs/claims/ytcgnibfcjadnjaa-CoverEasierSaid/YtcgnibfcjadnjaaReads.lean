/- Reads: read, readSlot, readWatch: a pool that has been checked, and the groups of a watch. -/
import Derived.Test.YtcgnibfcjadnjaaWatchP
import Derived.Test.YtcgnibfcjadnjaaFar
import Derived.OwnWalkIn
namespace Go.Proofs.Ytcgnibfcjadnjaa
open Go.RowKit

abbrev intCells (l : List Int) : Array Value := (l.map (Value.int .i64)).toArray
theorem intCells_set (l : List Int) (k : Nat) (v : Int) : (intCells l).setIfInBounds k (.int .i64 v) = intCells (l.set k v) := by
  unfold intCells
  rw [List.setIfInBounds_toArray, List.map_set]
theorem madeInts (ln : Nat) : madeCells #[Value.int .i64 0] ln = intCells (List.replicate ln 0) := by
  refine Array.ext_getElem? fun i => ?_
  by_cases h : i < ln
  · simp [madeCells, intCells, h, Nat.mod_one]
  · simp [madeCells, intCells, h]
theorem Try.infoInt : (Try.prog.info? 3).map (fun i => (i.zero, i.size, i.bytes)) = some (some (Value.int .i64 0), 1, 8) := by kernel_rfl
theorem Try.infoGroup : (Try.prog.info? 83).map (fun i => (i.zero, i.size, i.bytes)) = some (some (Value.int .i64 0), 1, 8) := by kernel_rfl
theorem make_full_int (ln : Nat) (w : World) (hl : ln ≤ 1000000) : (Instr.makeSlice 26 (.int .i64 (ln : Int)) (.int .i64 (ln : Int))).run Try.prog w = .ok (.slice (some ⟨w.heap.size, 0, none⟩) ln ln) (w.alloc (.cells (intCells (List.replicate ln 0)) 3)) := by
  obtain ⟨i0, hi, hz0, hz1, hz2⟩ := info_parts Try.infoInt
  have h := run_make (P := Try.prog) w 26 3 i0 (.int .i64 0) Try.underlying26 hi hz0 .i64 .i64 ln ln (by omega) (Int.le_refl _) (by rw [hz2]; omega) (by omega)
  rw [hz1, Int.toNat_natCast, Nat.mul_one] at h
  rw [← madeInts]
  exact h
theorem make_full_group (ln : Nat) (w : World) (hl : ln ≤ 1000000) : (Instr.makeSlice 74 (.int .i64 (ln : Int)) (.int .i64 (ln : Int))).run Try.prog w = .ok (.slice (some ⟨w.heap.size, 0, none⟩) ln ln) (w.alloc (.cells (intCells (List.replicate ln 0)) 83)) := by
  obtain ⟨i0, hi, hz0, hz1, hz2⟩ := info_parts Try.infoGroup
  have h := run_make (P := Try.prog) w 74 83 i0 (.int .i64 0) Try.underlying74 hi hz0 .i64 .i64 ln ln (by omega) (Int.le_refl _) (by rw [hz2]; omega) (by omega)
  rw [hz1, Int.toNat_natCast, Nat.mul_one] at h
  rw [← madeInts]
  exact h
theorem ints_of_block {w : World} {b : Nat} {t : TypeId} {l : List Int} (h : BlockIs w b t (intCells l)) : Ints w w.heap.size (some ⟨b, 0, none⟩) l := ints_block h

abbrev zeroP : Array Value := #[.slice none 0 0, .slice none 0 0, .int .i64 0, .int .i64 0]
theorem stores4 {w : World} {b : Nat} {t : TypeId} {c0 c1 c2 c3 : Value} (h : BlockIs w b t #[c0, c1, c2, c3]) (v0 v1 v2 v3 : Value) :
    BlockIs ((((w.setCell ⟨b, 0, none⟩ v0).setCell ⟨b, 1, none⟩ v1).setCell ⟨b, 2, none⟩ v2).setCell ⟨b, 3, none⟩ v3) b t #[v0, v1, v2, v3] := (((h.near 0 v0).near 1 v1).near 2 v2).near 3 v3
theorem far4 {w : World} {b q : Nat} {t : TypeId} {cs : Array Value} (h : BlockIs w q t cs) (hn : q ≠ b) (v0 v1 v2 v3 : Value) : BlockIs ((((w.setCell ⟨b, 0, none⟩ v0).setCell ⟨b, 1, none⟩ v1).setCell ⟨b, 2, none⟩ v2).setCell ⟨b, 3, none⟩ v3) q t cs :=
  (((h.far (p := ⟨b, 0, none⟩) hn v0).far (p := ⟨b, 1, none⟩) hn v1).far (p := ⟨b, 2, none⟩) hn v2).far (p := ⟨b, 3, none⟩) hn v3
theorem below4 {w : World} {B b : Nat} (hb : B ≤ b) (v0 v1 v2 v3 : Value) : Below B w ((((w.setCell ⟨b, 0, none⟩ v0).setCell ⟨b, 1, none⟩ v1).setCell ⟨b, 2, none⟩ v2).setCell ⟨b, 3, none⟩ v3) :=
  ((((Below.refl B w).setCell (p := ⟨b, 0, none⟩) hb v0).setCell (p := ⟨b, 1, none⟩) hb v1).setCell (p := ⟨b, 2, none⟩) hb v2).setCell (p := ⟨b, 3, none⟩) hb v3
theorem results_read {fn : Func} (h : fn.results = #[.cell 2 73, .tmp 3]) (t : Array Value) (W : World) (b : Nat) (v0 v1 v2 v3 u : Value)
    (hb : BlockIs W b 73 #[v0, v1, v2, v3]) (ht : t.getD 2 undef = .pointer (some ⟨b, 0, none⟩)) (hu : t.getD 3 undef = u) :
    (results fn t).run Try.prog W = .ok (.tuple #[.agg #[v0, v1, v2, v3], u]) W := by
  have hc := hb.cell
  simp only [results, h]
  simp at ht hu
  simp [go_sem, ht, hc, hu]
theorem results_slot {fn : Func} (h : fn.results = #[.cell 4 73, .tmp 5]) (t : Array Value) (W : World) (b : Nat) (v0 v1 v2 v3 u : Value)
    (hb : BlockIs W b 73 #[v0, v1, v2, v3]) (ht : t.getD 4 undef = .pointer (some ⟨b, 0, none⟩)) (hu : t.getD 5 undef = u) :
    (results fn t).run Try.prog W = .ok (.tuple #[.agg #[v0, v1, v2, v3], u]) W := by
  have hc := hb.cell
  simp only [results, h]
  simp at ht hu
  simp [go_sem, ht, hc, hu]
theorem results_watch {fn : Func} (h : fn.results = #[.cell 4 73, .tmp 5, .tmp 6]) (t : Array Value) (W : World) (b : Nat) (v0 v1 v2 v3 u x : Value)
    (hb : BlockIs W b 73 #[v0, v1, v2, v3]) (ht : t.getD 4 undef = .pointer (some ⟨b, 0, none⟩)) (hu : t.getD 5 undef = u) (hx : t.getD 6 undef = x) :
    (results fn t).run Try.prog W = .ok (.tuple #[.agg #[v0, v1, v2, v3], u, x]) W := by
  have hc := hb.cell
  simp only [results, h]
  simp at ht hu hx
  simp [go_sem, ht, hc, hu, hx]

/-- what read hands back -/
def readCells (h : PoolH) (d : PoolI) : Array Value := if okPool d then cellsP h d else zeroP
theorem readCells_four (h : PoolH) (d : PoolI) : ∃ v0 v1 v2 v3, readCells h d = #[v0, v1, v2, v3] := by
  unfold readCells
  split
  · exact ⟨_, _, _, _, rfl⟩
  · exact ⟨_, _, _, _, rfl⟩
set_option maxRecDepth 100000 in
set_option maxHeartbeats 4000000 in
theorem read_any (h : PoolH) (d : PoolI) (w : World) (hA : PoolAt w w.heap.size h d) (hs : Short d) :
    Calls Try.prog 52 #[poolV h d] w fun e w' => e = .returned (.tuple #[.agg (readCells h d), .int .i64 (poolErr d)]) ∧ Below w.heap.size w w' := by
  have HV := Lib.hid (fun (w0 : World) (hw : Grow w w0) => validPool_any h d w0 (hA.grow hw) hs)
  have HE : Hid (poolErr d = if okPool d then 0 else 100) := rfl
  have HC : Hid (readCells h d = if okPool d then cellsP h d else zeroP) := rfl
  obtain ⟨er, her⟩ : ∃ z, poolErr d = z := ⟨_, rfl⟩
  obtain ⟨rc, hrc⟩ : ∃ z, readCells h d = z := ⟨_, rfl⟩
  obtain ⟨ok, hok⟩ : ∃ z, okPool d = z := ⟨_, rfl⟩
  rw [her, hok] at HE
  rw [hrc, hok] at HC
  rw [hok] at HV
  rw [her, hrc]
  obtain ⟨fa, fc, na, nc⟩ := h
  clear her hrc hok hA
  go_enter Try.func52, Try.ntmps52
  go_upto_region 1 with fail
  obtain ⟨W, hW, hg, hf, hr, hsz⟩ := two_blocks w 25 73 (cellsP ⟨fa, fc, na, nc⟩ d) zeroP
  rw [hW]
  clear hW
  have hcc := hf.cell
  have HFR := Lib.hid hf
  have HRB := Lib.hid hr
  have HG := Lib.hid hg
  clear hf hr hg
  go_wp2_with fail
  refine (HV.out W HG.out).mono ?_
  rintro e w1 ⟨rfl, hb1⟩
  have HG1 : Hid (Grow w w1) := Lib.hid (HG.out.trans hb1)
  have hcc1 := ((show Grow W w1 from hb1).block HFR.out).cell
  have hrb := (show Grow W w1 from hb1).block HRB.out
  have hrc := hrb.cell
  have hrf := hrb.frozen
  have HR1 := Lib.hid hrb
  clear hb1 hcc hrb
  cases ok with
  | false =>
    obtain rfl : er = 100 := by rw [HE.out]; rfl
    obtain rfl : rc = zeroP := by rw [HC.out]; rfl
    have H5 := Lib.hid (stores4 HR1.out (.slice none 0 0) (.slice none 0 0) (.int .i64 0) (.int .i64 0))
    have HB5 := Lib.hid (HG1.out.trans' (below4 (w := w1) (B := w.heap.size) (b := w.heap.size + 1) (by omega) (.slice none 0 0) (.slice none 0 0) (.int .i64 0) (.int .i64 0)))
    go_wp2
    exact bodyPost_ret (results_read Try.results52 _ _ _ _ _ _ _ _ H5.out rfl rfl) rfl ⟨rfl, HB5.out⟩
  | true =>
    obtain rfl : er = 0 := by rw [HE.out]; rfl
    obtain rfl : rc = cellsP ⟨fa, fc, na, nc⟩ d := by rw [HC.out]; rfl
    have H5 := Lib.hid (stores4 HR1.out (.slice fa d.folk.length fc) (.slice na d.needs.length nc) (.int .i64 d.ill) (.int .i64 d.most))
    have HB5 := Lib.hid (HG1.out.trans' (below4 (w := w1) (B := w.heap.size) (b := w.heap.size + 1) (by omega) (.slice fa d.folk.length fc) (.slice na d.needs.length nc) (.int .i64 d.ill) (.int .i64 d.most)))
    go_wp2
    exact bodyPost_ret (results_read Try.results52 _ _ _ _ _ _ _ _ H5.out rfl rfl) rfl ⟨rfl, HB5.out⟩

/-- the error of a pool and a slot -/
def slotErr (d : PoolI) (s : Int) : Int := if okPool d then (if inB s 0 ((d.needs.length : Int) - 1) then 0 else 1) else 100
def slotCells (h : PoolH) (d : PoolI) (s : Int) : Array Value := if slotErr d s = 0 then cellsP h d else zeroP
set_option maxRecDepth 100000 in
set_option maxHeartbeats 8000000 in
theorem readSlot_any (h : PoolH) (d : PoolI) (s : Int) (w : World) (hA : PoolAt w w.heap.size h d) (hs : Short d) (hsm : okPool d = true → smallI d) :
    Calls Try.prog 54 #[poolV h d, .int .i64 s] w fun e w' => e = .returned (.tuple #[.agg (slotCells h d s), .int .i64 (slotErr d s)]) ∧ Below w.heap.size w w' := by
  have HR := Lib.hid (fun (w0 : World) (hw : Grow w w0) => read_any h d w0 (hA.grow hw) hs)
  have HC : Hid (slotCells h d s = if slotErr d s = 0 then cellsP h d else zeroP) := rfl
  obtain ⟨sc, hsc⟩ : ∃ z, slotCells h d s = z := ⟨_, rfl⟩
  obtain ⟨er, her⟩ : ∃ z, slotErr d s = z := ⟨_, rfl⟩
  rw [hsc, her] at HC
  rw [hsc, her]
  cases hok : okPool d with
  | false =>
    have h1 : poolErr d = 100 := by unfold poolErr; rw [hok]; rfl
    have h2 : readCells h d = zeroP := by unfold readCells; rw [hok]; rfl
    obtain rfl : er = 100 := by rw [← her]; unfold slotErr; rw [hok]; rfl
    obtain rfl : sc = zeroP := by rw [HC.out]; rfl
    rw [h1, h2] at HR
    obtain ⟨fa, fc, na, nc⟩ := h
    clear hsc her HC h1 h2 hok hsm hA
    go_enter Try.func54, Try.ntmps54
    go_upto_region 1 with fail
    obtain ⟨W, hW, hg, hf, hr, hsz⟩ := two_blocks w 25 73 (cellsP ⟨fa, fc, na, nc⟩ d) zeroP
    rw [hW]
    clear hW
    have hcc := hf.cell
    have HRB := Lib.hid hr
    have HG := Lib.hid hg
    clear hf hr hg
    go_wp2_with fail
    refine (HR.out W HG.out).mono ?_
    rintro e w1 ⟨rfl, hb1⟩
    have HG1 : Hid (Grow W w1) := hb1
    clear hb1 hcc
    go_upto_region 2 with fail
    obtain ⟨w2, hw2, hg2, hf2, hz2⟩ := one_block w1 73 zeroP
    have HG2 : Hid (Grow W w2) := Lib.hid (HG1.out.trans hg2)
    rw [hw2]
    clear hw2 hg2 hf2 hz2
    have hrb := HG2.out.block HRB.out
    have hrc := hrb.cell
    have hrf := hrb.frozen
    have H5 := Lib.hid (stores4 hrb (.slice none 0 0) (.slice none 0 0) (.int .i64 0) (.int .i64 0))
    have HB5 := Lib.hid ((HG.out.trans HG2.out).trans' (below4 (w := w2) (B := w.heap.size) (b := w.heap.size + 1) (by omega) (.slice none 0 0) (.slice none 0 0) (.int .i64 0) (.int .i64 0)))
    clear hrb
    go_wp2
    exact bodyPost_ret (results_slot Try.results54 _ _ _ _ _ _ _ _ H5.out rfl rfl) rfl ⟨rfl, HB5.out⟩
  | true =>
    obtain ⟨p, rfl, G⟩ := good_of hok (hsm hok)
    have h1 : poolErr p.i = 0 := by unfold poolErr; rw [hok]; rfl
    have h2 : readCells h p.i = cellsN h p := by unfold readCells; rw [hok]; exact cells_i h p
    have hnl : p.i.needs.length = p.needs.length := List.length_map _
    have HE : Hid (er = if inB s 0 ((p.needs.length : Int) - 1) then 0 else 1) := Lib.hid (by rw [← her]; unfold slotErr; rw [hok, hnl]; rfl)
    have HHS := Lib.hid (fun w0 => hasSlot_any h p G s w0)
    rw [h1, h2, pool_i] at HR
    rw [cells_i] at HC
    rw [pool_i]
    obtain ⟨q, hq'⟩ : ∃ z, inB s 0 ((p.needs.length : Int) - 1) = z := ⟨_, rfl⟩
    rw [hq'] at HE HHS
    obtain ⟨fa, fc, na, nc⟩ := h
    clear hsc her h1 h2 hok hsm hA hq' hs hnl
    go_enter Try.func54, Try.ntmps54
    go_upto_region 1 with fail
    obtain ⟨W, hW, hg, hf, hr, hsz⟩ := two_blocks w 25 73 (cellsN ⟨fa, fc, na, nc⟩ p) zeroP
    rw [hW]
    clear hW
    have hcc := hf.cell
    have HRB := Lib.hid hr
    have HG := Lib.hid hg
    clear hf hr hg
    go_wp2_with fail
    refine (HR.out W HG.out).mono ?_
    rintro e w1 ⟨rfl, hb1⟩
    have HG1 : Hid (Grow W w1) := hb1
    clear hb1 hcc
    go_upto_region 2 with fail
    obtain ⟨w2, hw2, hg2, hf2, hz2⟩ := one_block w1 73 (cellsN ⟨fa, fc, na, nc⟩ p)
    have HG2 : Hid (Grow W w2) := Lib.hid (HG1.out.trans hg2)
    rw [hw2]
    have hxc := hf2.cell
    have HXB := Lib.hid hf2
    clear hw2 hg2 hf2 hz2
    go_wp2_with fail
    refine (HHS.out _).mono ?_
    rintro e w3 ⟨rfl, hb3⟩
    have HG3 : Hid (Grow W w3) := Lib.hid (HG2.out.trans hb3)
    have hxc3 := ((show Grow w2 w3 from hb3).block HXB.out).cell
    clear hb3 hxc
    have hrb := HG3.out.block HRB.out
    have hrc := hrb.cell
    have hrf := hrb.frozen
    cases q with
    | false =>
      obtain rfl : er = 1 := by rw [HE.out]; rfl
      obtain rfl : sc = zeroP := by rw [HC.out]; rfl
      have H5 := Lib.hid (stores4 hrb (.slice none 0 0) (.slice none 0 0) (.int .i64 0) (.int .i64 0))
      have HB5 := Lib.hid ((HG.out.trans HG3.out).trans' (below4 (w := w3) (B := w.heap.size) (b := w.heap.size + 1) (by omega) (.slice none 0 0) (.slice none 0 0) (.int .i64 0) (.int .i64 0)))
      clear hrb
      go_wp2
      exact bodyPost_ret (results_slot Try.results54 _ _ _ _ _ _ _ _ H5.out rfl rfl) rfl ⟨rfl, HB5.out⟩
    | true =>
      obtain rfl : er = 0 := by rw [HE.out]; rfl
      obtain rfl : sc = cellsN ⟨fa, fc, na, nc⟩ p := by rw [HC.out]; rfl
      have H5 := Lib.hid (stores4 hrb (.slice fa p.folk.length fc) (.slice na p.needs.length nc) (.int .i64 (p.ill : Nat)) (.int .i64 (p.most : Nat)))
      have HB5 := Lib.hid ((HG.out.trans HG3.out).trans' (below4 (w := w3) (B := w.heap.size) (b := w.heap.size + 1) (by omega) (.slice fa p.folk.length fc) (.slice na p.needs.length nc) (.int .i64 (p.ill : Nat)) (.int .i64 (p.most : Nat))))
      clear hrb
      go_wp2
      exact bodyPost_ret (results_slot Try.results54 _ _ _ _ _ _ _ _ H5.out rfl rfl) rfl ⟨rfl, HB5.out⟩

end Go.Proofs.Ytcgnibfcjadnjaa
