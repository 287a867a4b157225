/- Show: exams.Show. -/
import Derived.Test.YthehkgpnnndboaaDoorGrade
namespace Go.Proofs.YthehkgpnnndboaaDoor
open Go.RowKit Go.Shelf
open Go.ChangeMaps (setBlock)

def zerosI (n : Nat) : Array Value := ((List.range n).map fun _ => Value.int .i64 0).toArray
theorem zerosI_size (n : Nat) : (zerosI n).size = n := by unfold zerosI; simp
theorem zerosI_get (n i : Nat) : (zerosI n)[i]? = if i < n then some (.int .i64 0) else none := by
  unfold zerosI
  rw [List.getElem?_toArray, List.getElem?_map]
  by_cases hi : i < n
  · rw [List.getElem?_range hi, if_pos hi]
    rfl
  · rw [List.getElem?_eq_none (by simp; omega), if_neg hi]
    rfl
theorem made_ints (n : Nat) : madeCells #[Value.int .i64 0] n = zerosI n := by
  apply Array.ext_getElem?
  intro i
  rw [zerosI_get]
  by_cases hi : i < n
  · rw [if_pos hi]
    unfold madeCells
    rw [Array.getElem?_map, Array.getElem?_range, if_pos hi]
    simp [Nat.mod_one]
  · rw [if_neg hi, Array.getElem?_eq_none (by rw [size_madeCells]; omega)]
theorem make_ints (ln : Nat) (w : World) (hl : ln ≤ 100) : (Instr.makeSlice 24 (.int .i64 (ln : Int)) (.int .i64 (ln : Int))).run Tryd.prog w = .ok (.slice (some ⟨w.heap.size, 0, none⟩) ln ln) (w.alloc (.cells (zerosI ln) 3)) := by
  obtain ⟨i0, hi, hz0, hz1, hz2⟩ := info_parts Tryd.infoInt
  have h := run_make (P := Tryd.prog) w 24 3 i0 (.int .i64 0) Tryd.underlying24 hi hz0 .i64 .i64 ln ln (by omega) (Int.le_refl _) (by rw [hz2]; omega) (by omega)
  rw [hz1, Int.toNat_natCast, Nat.mul_one] at h
  rw [← made_ints]
  exact h
theorem size_int : (Tryd.prog.info? 3).map (·.size) = some 1 := by
  obtain ⟨i0, hi, hz0, hz1, hz2⟩ := info_parts Tryd.infoInt
  rw [hi]
  simp [hz1]

set_option maxRecDepth 100000 in
set_option maxHeartbeats 4000000 in
theorem points_any (p : PaperR) (ps : List Int) (hl : ps.length = p.items.length) (h4 : p.items.length ≤ 4) (w : World) :
    Calls Tryd.prog 63 #[paperV p, .agg (cellsT ps)] w fun e w' => (∃ b, e = .returned (.slice (some ⟨b, 0, none⟩) p.items.length p.items.length) ∧ BlockIs w' b 3 (ps.map (Value.int .i64)).toArray) ∧ Below w.heap.size w w' := by
  have HL := Lib.hid hl
  have hmk : ∀ w0, (Instr.makeSlice 24 (.int .i64 (p.items.length : Int)) (.int .i64 (p.items.length : Int))).run Tryd.prog w0 = .ok (.slice (some ⟨w0.heap.size, 0, none⟩) p.items.length p.items.length) (w0.alloc (.cells (zerosI p.items.length) 3)) := fun w0 => make_ints p.items.length w0 (by omega)
  clear hl
  go_enter Tryd.func63, Tryd.ntmps63
  go_upto_region 1 with fail
  obtain ⟨W, hW, hg, hf, ht, hsz⟩ := two_blocks w 73 81 (cellsP p) (cellsT ps)
  rw [hW]
  have hWs : W.heap.size = w.heap.size + 1 + 1 := by rw [← hW]; simp
  clear hW
  have HT := Lib.hid ht
  have HG := Lib.hid hg
  have hcc := hf.cell
  clear hg hf ht
  go_upto_region 2 with fail
  obtain ⟨W2, hW2, hg2, hb2, hsz2⟩ := one_block W 3 (zerosI p.items.length)
  rw [hW2]
  clear hW2 hmk
  rw [hWs] at hb2 hsz2
  obtain ⟨lb, hlb⟩ : ∃ z, w.heap.size + 1 + 1 = z := ⟨_, rfl⟩
  rw [hlb] at hb2 hsz2 ⊢
  have HB2 := Lib.hid hb2
  have HT2 := Lib.hid (hg2.block HT.out)
  have HG2 : Hid (Grow w W2) := Lib.hid (HG.out.trans hg2)
  have hlw : w.heap.size ≤ lb := by omega
  have hcp := run_copyK (P := Tryd.prog) W2 24 24 3 3 lb 0 p.items.length p.items.length ⟨w.heap.size + 1, 0, none⟩ 4 4 1 (zerosI p.items.length) 3 (ps.map (Value.int .i64)) Tryd.underlying24 size_int hb2 (by
      rw [List.length_map, HL.out, Nat.mul_one]
      show _ = Nat.min 4 p.items.length
      exact (Nat.min_eq_right h4).symm) (fun j v hv => by
      rw [List.getElem?_map] at hv
      cases hx : ps[j]? with
      | none => rw [hx] at hv; cases hv
      | some x =>
        rw [hx] at hv
        have hv : Value.int .i64 x = v := by simpa using hv
        subst hv
        have hj : j < 4 := by have := (List.getElem?_eq_some_iff.1 hx).1; have := HL.out; omega
        rw [show (⟨w.heap.size + 1, 0, none⟩ : Addr).add j = ⟨w.heap.size + 1, j, none⟩ by (simp [Addr.add]; try omega), HT2.out.cell, cellsT_at ps hj, hx]
        rfl) (by rw [zerosI_size, List.length_map, HL.out]; omega) (fun v hv => by
      obtain ⟨x, _, rfl⟩ := List.mem_map.1 hv
      rfl)
  have hfin : ((zerosI p.items.length).toList.take 0 ++ ps.map (Value.int .i64) ++ (zerosI p.items.length).toList.drop (0 + (ps.map (Value.int .i64)).length)).toArray = (ps.map (Value.int .i64)).toArray := by
    rw [List.take_zero, List.nil_append, List.drop_eq_nil_of_le (by rw [Array.length_toList, zerosI_size, List.length_map, HL.out]; omega), List.append_nil]
  rw [hfin] at hcp
  clear hfin hg2
  have HBF := Lib.hid (show BlockIs (W2.setRow lb (ps.map (Value.int .i64)).toArray) lb 3 (ps.map (Value.int .i64)).toArray from setRow_heap W2 lb _ _ _ _ HB2.out)
  have HGF : Hid (Below w.heap.size w (W2.setRow lb (ps.map (Value.int .i64)).toArray)) := Lib.hid (below_setRow_ HG2.out hlw _)
  clear hb2
  go_wp2
  go_ret
  exact ⟨⟨lb, rfl, HBF.out⟩, HGF.out⟩

/-- the error of Show, and what it hands back -/
def showErr (p : PaperR) (g : Int) : Int := if numErr p g p.grades.length = 0 then (if (showD p.d g).isSome then 0 else 3) else numErr p g p.grades.length
def showL (p : PaperR) (g : Int) : List Int := if numErr p g p.grades.length = 0 then (showD p.d g).getD [] else []
set_option maxRecDepth 100000 in
set_option maxHeartbeats 8000000 in
theorem showApi_bad (p : PaperR) (g : Int) (w : World) (hA : PaperAt w w.heap.size p) (hs : Short p) (he : numErr p g p.grades.length ≠ 0) :
    Calls Tryd.prog 32 #[paperV p, .int .i64 g] w fun e w' => e = .returned (.tuple #[.slice none 0 0, .int .i64 (numErr p g p.grades.length)]) ∧ Below w.heap.size w w' := by
  have HR := Lib.hid (fun (w0 : World) (hw : Grow w w0) => readNumber_any p g p.grades.length w0 (hA.grow hw) hs)
  rw [show numCells p g p.grades.length = zeroP from by unfold numCells; rw [if_neg he]] at HR
  obtain ⟨er, her⟩ : ∃ z, numErr p g p.grades.length = z := ⟨_, rfl⟩
  rw [her] at HR he ⊢
  have hne : (er != 0) = true := by rw [bne_iff_ne]; exact he
  clear her hA he
  go_enter Tryd.func32, Tryd.ntmps32
  go_upto_region 1 with fail
  obtain ⟨W, hW, hg, hf, hsz⟩ := one_block w 26 (cellsP p)
  rw [hW]
  clear hW
  have hcc := hf.cell
  have HG := Lib.hid hg
  clear hf hg
  go_wp2_with fail
  refine (HR.out W HG.out).mono ?_
  rintro e w1 ⟨rfl, hb1⟩
  have HG1 : Hid (Grow w w1) := Lib.hid (HG.out.trans hb1)
  clear hb1 hcc
  go_upto_region 3 with fail
  obtain ⟨W2, hW2, hg2, _, _⟩ := one_block w1 73 zeroP
  rw [hW2]
  clear hW2
  have HG2 : Hid (Grow w W2) := Lib.hid (HG1.out.trans hg2)
  clear hg2
  go_wp2_with fail
  go_ret2
  exact ⟨rfl, HG2.out⟩
set_option maxRecDepth 100000 in
set_option maxHeartbeats 8000000 in
theorem showApi_good (p : PaperR) (g : Int) (w : World) (hA : PaperAt w w.heap.size p) (hs : Short p) (he : numErr p g p.grades.length = 0) :
    Calls Tryd.prog 32 #[paperV p, .int .i64 g] w fun e w' => (∃ A, e = .returned (.tuple #[.slice A ((showD p.d g).getD []).length ((showD p.d g).getD []).length, .int .i64 (if (showD p.d g).isSome then 0 else 3)]) ∧ Ints w' w'.heap.size A ((showD p.d g).getD [])) ∧ Below w.heap.size w w' := by
  obtain ⟨G, _, hne⟩ := numErr_zero he
  have h4 : p.items.length ≤ 4 := G.i4
  have HR := Lib.hid (fun (w0 : World) (hw : Grow w w0) => readNumber_any p g p.grades.length w0 (hA.grow hw) hs)
  rw [show numCells p g p.grades.length = cellsP p from by unfold numCells; rw [if_pos he], he] at HR
  have HSH := Lib.hid (fun (w0 : World) (hw : Grow w w0) => shown_any p G w0 (hA.grow hw))
  have HFS := Lib.hid (find_shown p.d g)
  have HLN : Hid (∀ ps, showD p.d g = some ps → ps.length = p.items.length) := Lib.hid (fun ps h => by
    have h1 := (show_some h).1
    unfold possD at h1
    rw [Bool.and_eq_true] at h1
    exact fitsI_len h1.1)
  obtain ⟨L, hL⟩ : ∃ z, shownL p.d = z := ⟨_, rfl⟩
  rw [hL] at HSH HFS
  obtain ⟨sd, hsd⟩ : ∃ z, showD p.d g = z := ⟨_, rfl⟩
  rw [hsd] at HFS HLN ⊢
  clear hA he hL hsd hne
  go_enter Tryd.func32, Tryd.ntmps32
  go_upto_region 1 with fail
  obtain ⟨W, hW, hg, hf, hsz⟩ := one_block w 26 (cellsP p)
  rw [hW]
  clear hW
  have hcc := hf.cell
  have HG := Lib.hid hg
  clear hf hg
  go_wp2_with fail
  refine (HR.out W HG.out).mono ?_
  rintro e w1 ⟨rfl, hb1⟩
  have HG1 : Hid (Grow w w1) := Lib.hid (HG.out.trans hb1)
  clear hb1 hcc
  go_upto_region 4 with fail
  obtain ⟨W2, hW2, hg2, hs2, hsz2⟩ := one_block w1 73 (cellsP p)
  rw [hW2]
  clear hW2
  have HG2 : Hid (Grow w W2) := Lib.hid (HG1.out.trans hg2)
  have HS2 := Lib.hid hs2
  have hsc := hs2.cell
  clear hg2 hs2
  go_wp2_with fail
  refine (HSH.out W2 HG2.out).mono ?_
  rintro e w3 ⟨⟨m, rfl, hbk⟩, hb3⟩
  have HG3 : Hid (Grow w w3) := Lib.hid (HG2.out.trans hb3)
  have HS3 := Lib.hid ((show Grow W2 w3 from hb3).block HS2.out)
  have hlk := run_lookup_book hbk g
  clear hb3 hsc hbk
  cases sd with
  | none =>
    have hf : findE L g = none := HFS.out
    have hfv : foundV L g = .agg zeroT := by unfold foundV; rw [hf]
    rw [hf, hfv] at hlk
    simp only [Option.isSome_none] at hlk
    clear hf hfv
    go_wp2_with fail
    go_ret2
    exact ⟨⟨none, rfl, .inl rfl⟩, HG3.out.trans (Grow.alloc _ _)⟩
  | some ps =>
    have hf : findE L g = some (g, ps) := HFS.out
    have hfv : foundV L g = .agg (cellsT ps) := by unfold foundV; rw [hf]
    rw [hf, hfv] at hlk
    simp only [Option.isSome_some] at hlk
    have hl := HLN.out ps rfl
    have HPT := Lib.hid (fun w0 => points_any p ps hl h4 w0)
    have HLE : Hid (ps.length = p.items.length) := Lib.hid hl
    clear hf hfv hl
    go_upto_region 5 with fail
    obtain ⟨W4, hW4, hg4, hf4, hs4⟩ := one_block w3 81 (cellsT ps)
    rw [hW4]
    clear hW4
    have HG4 : Hid (Grow w W4) := Lib.hid (HG3.out.trans hg4)
    have hsc := (hg4.block HS3.out).cell
    have htc := hf4.cell
    clear hg4 hf4 hlk
    go_wp2_with fail
    refine (HPT.out W4).mono ?_
    rintro e w5 ⟨⟨b, rfl, hb⟩, hb5⟩
    have HB5 := Lib.hid hb
    have HG5 : Hid (Grow w w5) := Lib.hid (HG4.out.trans hb5)
    clear hb hb5 hsc htc
    go_wp2_with fail
    go_ret2
    exact ⟨⟨some ⟨b, 0, none⟩, by rw [← HLE.out]; rfl, ints_block HB5.out⟩, HG5.out⟩
theorem showApi_any (p : PaperR) (g : Int) (w : World) (hA : PaperAt w w.heap.size p) (hs : Short p) :
    Calls Tryd.prog 32 #[paperV p, .int .i64 g] w fun e w' => (∃ A, e = .returned (.tuple #[.slice A (showL p g).length (showL p g).length, .int .i64 (showErr p g)]) ∧ Ints w' w'.heap.size A (showL p g)) ∧ Below w.heap.size w w' := by
  unfold showL showErr
  by_cases he : numErr p g p.grades.length = 0
  · rw [if_pos he, if_pos he]
    exact showApi_good p g w hA hs he
  · rw [if_neg he, if_neg he]
    refine (showApi_bad p g w hA hs he).mono ?_
    rintro e w' ⟨rfl, hb⟩
    exact ⟨⟨none, rfl, .inl rfl⟩, hb⟩

end Go.Proofs.YthehkgpnnndboaaDoor
