/- Next: the item for which the greatest width is the least. NextApi: exams.Next. -/
import Derived.Test.YthehkgpnnndboaaDoorResults
import Derived.Test.YthehkgpnnndboaaDoorWidest
import Derived.Test.YthehkgpnnndboaaDoorFewest
namespace Go.Proofs.YthehkgpnnndboaaDoor
open Go.RowKit

theorem inR_span {l : List Int} (h : ∀ n ∈ l, 0 ≤ n ∧ n ≤ 1200) : inR (spanS l) := by
  by_cases hl : l = []
  · subst hl
    unfold inR
    constructor <;> constructor <;> decide
  · obtain ⟨h1, h2, _⟩ := span_is h hl
    have := h _ h1
    have := h _ h2
    unfold inR
    omega
theorem results_inR {d : PaperI} (G : GoodP d) (i : Nat) : ∀ x ∈ resultsD d i, inR x := by
  intro x hx
  unfold resultsD at hx
  obtain ⟨k, _, rfl⟩ := List.mem_map.1 hx
  refine inR_span fun n hn => ?_
  obtain ⟨ps, hp, rfl⟩ := List.mem_map.1 hn
  exact G.res (mem_truths.1 (List.mem_filter.1 hp).1)
theorem width_row (p : PaperR) (G : GoodP p.d) {b k err : Nat} (hk : k < p.items.length) (he : err ≤ 5) (w : World) (hb : BlockIs w b 33 (rowC (atF p.items (truthsL p.d) k) (msOf p.items k))) (hG : Glob w) :
    Calls Tryd.prog 79 #[.slice (some ⟨b, 0, none⟩) (msOf p.items k) (msOf p.items k), .int .i64 (err : Nat)] w fun e w' => e = .returned (.int .i64 (widestD (resultsD p.d k) err)) ∧ Below w.heap.size w w' := by
  have hl : (resultsD p.d k).length = msOf p.items k := results_len p.d k
  have hm : msOf p.items k ≤ 31 := by
    have h1 := G.it p.items[k] (List.getElem_mem hk)
    have : msOf p.items k = (p.items[k].m + 1).toNat := by unfold msOf; rw [List.getD_eq_getElem?_getD, List.getElem?_eq_getElem hk]; rfl
    omega
  have h := widest_any (resultsD p.d k) (some ⟨b, 0, none⟩) (msOf p.items k) err w (rowC_flats hb hb.lt) (by omega) (by omega) he (results_inR G k) hG
  rwa [hl] at h

set_option maxRecDepth 100000 in
set_option maxHeartbeats 8000000 in
theorem next_any (p : PaperR) (G : GoodP p.d) (err : Nat) (he : err ≤ 5) (w : World) (hA : PaperAt w w.heap.size p) (hG : Glob w) :
    Calls Tryd.prog 61 #[paperV p, .int .i64 (err : Nat)] w fun e w' => e = .returned (.tuple #[.int .i64 ((nextD p.d err).1 : Nat), .int .i64 (nextD p.d err).2]) ∧ Below w.heap.size w w' := by
  have HRES := Lib.hid (fun (w0 : World) (hw : Grow w w0) => results_any p G w0 (hA.grow hw) (hG.grow hw))
  have HWI := Lib.hid (fun (b k : Nat) (hk : k < p.items.length) (w0 : World) hb (hw : Grow w w0) => width_row p G (b := b) (k := k) (err := err) hk he w0 hb (hG.grow hw))
  have H0 : Hid (nextTo p.d err 0 = (0, 0)) := Lib.hid rfl
  have HS : Hid (∀ k, nextTo p.d err (k + 1) = if k = 0 ∨ widestD (resultsD p.d k) err < (nextTo p.d err k).2 then (k, widestD (resultsD p.d k) err) else nextTo p.d err k) := Lib.hid fun _ => rfl
  have HE : Hid (nextTo p.d err p.items.length = nextD p.d err) := Lib.hid rfl
  obtain ⟨nt, hnt⟩ : ∃ z, nextTo p.d err = z := ⟨_, rfl⟩
  rw [hnt] at H0 HS HE
  obtain ⟨wd, hwd⟩ : ∃ z : Nat → Int, (fun k => widestD (resultsD p.d k) err) = z := ⟨_, rfl⟩
  have hwk : ∀ k, widestD (resultsD p.d k) err = wd k := fun k => by rw [← hwd]
  simp only [hwk] at HWI HS
  rw [← HE.out]
  have h4 : p.items.length ≤ 4 := G.i4
  clear hnt hwd hwk hA hG
  go_enter Tryd.func61, Tryd.ntmps61
  go_upto_region 1 with fail
  obtain ⟨W, hW, hg, hf, hsz⟩ := one_block w 73 (cellsP p)
  rw [show w.alloc (.cells (cellsP p) 73) = W from hW]
  clear hW
  have HG := Lib.hid hg
  have hcc := hf.cell
  clear hf hg
  go_wp2_with fail
  refine (HRES.out W HG.out).mono ?_
  rintro e w1 ⟨⟨rb, bs, rfl, hrb, hrow⟩, hb1⟩
  have HG1 : Hid (Grow w w1) := Lib.hid (HG.out.trans hb1)
  have HRB := Lib.hid hrb
  have HROW := Lib.hid hrow
  clear hrb hrow hb1 hcc
  go_wp2_with fail
  go_loopw [4, 5, 12] (fun a b iv wr => ∃ k : Nat, k ≤ p.items.length ∧ iv = .int .i64 (k : Nat) ∧ a = .int .i64 ((nt k).1 : Nat) ∧ b = .int .i64 (nt k).2 ∧ Grow w1 wr) (fun _ _ iv _ => p.items.length - (intOf iv).toNat)
  case atStart => exact ⟨0, Nat.zero_le _, rfl, by rw [H0.out]; rfl, by rw [H0.out], Grow.refl _⟩
  case round =>
    obtain ⟨k, hk, rfl, rfl, rfl, hgr⟩ := hrel
    rename World => wr
    have HGR := Lib.hid hgr
    clear hgr
    by_cases hlt : k < p.items.length
    · have hd : decide ((k : Int) < (p.items.length : Int)) = true := decide_eq_true (by omega)
      have hk0 : (0 : Int) ≤ (k : Int) := by omega
      have hk1 : (k : Int) < (p.items.length : Int) := by omega
      obtain ⟨mm, hms⟩ : ∃ mm, msOf p.items k = mm := ⟨_, rfl⟩
      obtain ⟨kb, hkb⟩ : ∃ z, bs k = z := ⟨_, rfl⟩
      have hrbc := ((HGR.out.block HRB.out).cell k).trans (cellsR_at hlt)
      have HWK := Lib.hid (HWI.out (bs k) k hlt wr (HGR.out.block (HROW.out k hlt)) (HG1.out.trans HGR.out))
      have HSK := Lib.hid (HS.out k)
      obtain ⟨⟨i0, v0⟩, hik⟩ : ∃ z, nt k = z := ⟨_, rfl⟩
      rw [hik] at HSK
      rw [hik]
      rw [hms, hkb] at hrbc HWK
      obtain ⟨wk, hwk⟩ : ∃ z, wd k = z := ⟨_, rfl⟩
      rw [hwk] at HWK HSK
      clear hms hkb hwk hik
      go_wp2_with fail
      refine HWK.out.mono ?_
      rintro e w2 ⟨rfl, hb2⟩
      have HG2 : Hid (Grow w1 w2) := Lib.hid (HGR.out.trans hb2)
      clear hb2 hrbc HGR
      by_cases hz : k = 0
      · subst hz
        have HN : Hid (nt 1 = (0, wk)) := Lib.hid (by rw [HSK.out, if_pos (.inl rfl)])
        go_wp2_with fail
        go_roundw
        case rel => exact ⟨1, by omega, by go_num, by rw [HN.out]; rfl, by rw [HN.out], HG2.out⟩
        case measure => simp [intOf]; omega
      · have hze : ((k : Int) == 0) = false := by rw [beq_eq_false_iff_ne]; omega
        have hze2 : ¬ (k : Int) = 0 := by omega
        by_cases hl : wk < v0
        · have hdl : decide (wk < v0) = true := decide_eq_true hl
          have HN : Hid (nt (k + 1) = (k, wk)) := Lib.hid (by rw [HSK.out, if_pos (.inr hl)])
          go_wp2_with fail
          go_roundw
          case rel => exact ⟨k + 1, by omega, by go_num, by rw [HN.out], by rw [HN.out], HG2.out⟩
          case measure => simp [intOf]; omega
        · have hdl : decide (wk < v0) = false := decide_eq_false hl
          have HN : Hid (nt (k + 1) = (i0, v0)) := Lib.hid (by rw [HSK.out, if_neg (by omega)])
          go_wp2_with fail
          go_roundw
          case rel => exact ⟨k + 1, by omega, by go_num, by rw [HN.out], by rw [HN.out], HG2.out⟩
          case measure => simp [intOf]; omega
    · obtain rfl : k = p.items.length := by omega
      have hd : decide ((p.items.length : Int) < (p.items.length : Int)) = false := decide_eq_false (by omega)
      go_wp2_with fail
      go_ret2
      exact ⟨rfl, HG1.out.trans HGR.out⟩

end Go.Proofs.YthehkgpnnndboaaDoor

namespace Go.Proofs.YthehkgpnnndboaaDoor
open Go.RowKit

theorem numErr_in {p : PaperR} {n most : Int} (h : numErr p n most = 0) : 0 ≤ n ∧ n ≤ most := by
  unfold numErr at h
  split at h
  · split at h
    · rename_i h2
      rwa [inB_iff] at h2
    · cases h
  · cases h
set_option maxRecDepth 100000 in
set_option maxHeartbeats 8000000 in
theorem nextApi_bad (p : PaperR) (err : Int) (w : World) (hA : PaperAt w w.heap.size p) (hs : Short p) (he : numErr p err 5 ≠ 0) :
    Calls Tryd.prog 30 #[paperV p, .int .i64 err] w fun e w' => e = .returned (.tuple #[.int .i64 0, .int .i64 0, .int .i64 (numErr p err 5)]) ∧ Below w.heap.size w w' := by
  have HR := Lib.hid (fun (w0 : World) (hw : Grow w w0) => readNumber_any p err 5 w0 (hA.grow hw) hs)
  rw [show numCells p err 5 = zeroP from by unfold numCells; rw [if_neg he]] at HR
  obtain ⟨er, her⟩ : ∃ z, numErr p err 5 = z := ⟨_, rfl⟩
  rw [her] at HR he ⊢
  have hne : (er != 0) = true := by rw [bne_iff_ne]; exact he
  clear her hA he
  go_enter Tryd.func30, Tryd.ntmps30
  go_upto_region 1 with fail
  obtain ⟨W, hW, hg, hf, hsz⟩ := one_block w 26 (cellsP p)
  rw [hW]
  clear hW
  have hcc := hf.cell
  have HG := Lib.hid hg
  clear hf hg
  go_wp2_with fail
  refine (HR.out W HG.out).mono ?_
  rintro e w1 ⟨rfl, hb1⟩
  have HG1 : Hid (Grow w w1) := Lib.hid (HG.out.trans hb1)
  clear hb1 hcc
  go_upto_region 3 with fail
  obtain ⟨W2, hW2, hg2, _, _⟩ := one_block w1 73 zeroP
  rw [hW2]
  clear hW2
  have HG2 : Hid (Grow w W2) := Lib.hid (HG1.out.trans hg2)
  clear hg2
  go_wp2_with fail
  go_ret3
  exact ⟨rfl, HG2.out⟩
set_option maxRecDepth 100000 in
set_option maxHeartbeats 8000000 in
theorem nextApi_good (p : PaperR) (err : Nat) (w : World) (hA : PaperAt w w.heap.size p) (hs : Short p) (hGl : Glob w) (he : numErr p (err : Nat) 5 = 0) :
    Calls Tryd.prog 30 #[paperV p, .int .i64 (err : Nat)] w fun e w' => e = .returned (.tuple #[.int .i64 ((nextD p.d err).1 : Nat), .int .i64 (nextD p.d err).2, .int .i64 0]) ∧ Below w.heap.size w w' := by
  obtain ⟨G, _, hne⟩ := numErr_zero he
  have h5 : err ≤ 5 := by have := (numErr_in he).2; omega
  have HR := Lib.hid (fun (w0 : World) (hw : Grow w w0) => readNumber_any p err 5 w0 (hA.grow hw) hs)
  rw [show numCells p err 5 = cellsP p from by unfold numCells; rw [if_pos he], he] at HR
  have HN := Lib.hid (fun (w0 : World) (hw : Grow w w0) => next_any p G err h5 w0 (hA.grow hw) (hGl.grow hw))
  obtain ⟨⟨ni, nv⟩, hnd⟩ : ∃ z, nextD p.d err = z := ⟨_, rfl⟩
  rw [hnd] at HN ⊢
  clear hA he hne hnd hGl
  go_enter Tryd.func30, Tryd.ntmps30
  go_upto_region 1 with fail
  obtain ⟨W, hW, hg, hf, hsz⟩ := one_block w 26 (cellsP p)
  rw [hW]
  clear hW
  have hcc := hf.cell
  have HG := Lib.hid hg
  clear hf hg
  go_wp2_with fail
  refine (HR.out W HG.out).mono ?_
  rintro e w1 ⟨rfl, hb1⟩
  have HG1 : Hid (Grow w w1) := Lib.hid (HG.out.trans hb1)
  clear hb1 hcc
  go_upto_region 4 with fail
  obtain ⟨W2, hW2, hg2, hs2, hsz2⟩ := one_block w1 73 (cellsP p)
  rw [hW2]
  clear hW2
  have HG2 : Hid (Grow w W2) := Lib.hid (HG1.out.trans hg2)
  have hsc := hs2.cell
  clear hg2 hs2
  go_wp2_with fail
  refine (HN.out W2 HG2.out).mono ?_
  rintro e w3 ⟨rfl, hb3⟩
  have HG3 : Hid (Grow w w3) := Lib.hid (HG2.out.trans hb3)
  clear hb3 hsc
  go_wp2_with fail
  go_ret3
  exact ⟨rfl, HG3.out⟩

/-- what Next hands back -/
def nextV (p : PaperR) (err : Int) : Nat × Int := if numErr p err 5 = 0 then nextD p.d err.toNat else (0, 0)
theorem nextApi_any (p : PaperR) (err : Int) (w : World) (hA : PaperAt w w.heap.size p) (hs : Short p) (hG : Glob w) :
    Calls Tryd.prog 30 #[paperV p, .int .i64 err] w fun e w' => e = .returned (.tuple #[.int .i64 ((nextV p err).1 : Nat), .int .i64 (nextV p err).2, .int .i64 (numErr p err 5)]) ∧ Below w.heap.size w w' := by
  unfold nextV
  by_cases he : numErr p err 5 = 0
  · obtain ⟨n, rfl⟩ : ∃ n : Nat, err = (n : Int) := ⟨err.toNat, by have := (numErr_in he).1; omega⟩
    rw [if_pos he, he]
    exact nextApi_good p n w hA hs hG he
  · rw [if_neg he]
    exact nextApi_bad p err w hA hs he

end Go.Proofs.YthehkgpnnndboaaDoor

