/- Canons: the program's and the specification's. The specification's canon; Canon and Compare of both. -/
import Derived.Test.YtfpmkolaiomabaaGreatRMirror
import Derived.Test.YtfpmkolaiomabaaGreatMirror
import Derived.Test.YtfpmkolaiomabaaGreatCompare
import Derived.Test.YtfpmkolaiomabaaGreatFirst
import Derived.Test.YtfpmkolaiomabaaGreatForms
import Derived.Test.YtfpmkolaiomabaaGreatValid
namespace Go.Proofs.YtfpmkolaiomabaaGreat
open Go.RowKit

theorem mirror_len (f : FormD) : (mirrorD f).moves.length = f.moves.length := by simp [mirrorD]
theorem okForm_iff {f : FormD} : okForm f = true ↔ (-1 ≤ f.right ∧ f.right ≤ 31) ∧ (-1 ≤ f.left ∧ f.left ≤ 31) ∧ -2 < f.right + f.left ∧ (-3 ≤ f.column ∧ f.column ≤ 3) ∧ (0 ≤ f.row ∧ f.row ≤ 5) ∧ (0 ≤ f.face ∧ f.face ≤ 7) ∧ f.moves.length ≤ 6 ∧
    ∀ x, x ∈ f.moves → 0 ≤ x ∧ x ≤ 7 := by
  simp only [okForm, inB, movesOk, Bool.and_eq_true, decide_eq_true_eq, List.all_eq_true]
theorem okForm_mirror {f : FormD} (h : okForm f = true) : okForm (mirrorD f) = true := by
  rw [okForm_iff] at *
  obtain ⟨h1, h2, h3, h4, h5, h6, h7, h8⟩ := h
  refine ⟨h2, h1, ?_, ?_, h5, h6, ?_, ?_⟩
  · show -2 < f.left + f.right; omega
  · show -3 ≤ -f.column ∧ -f.column ≤ 3; omega
  · rw [mirror_len]; exact h7
  · intro x hx
    simp only [mirrorD, List.mem_map] at hx
    obtain ⟨a, _, rfl⟩ := hx
    omega
theorem okForm_canon {f : FormD} (h : okForm f = true) : okForm (canonD f) = true := by
  unfold canonD
  split
  · exact okForm_mirror h
  · exact h

set_option maxRecDepth 100000 in
set_option maxHeartbeats 2000000 in
theorem canon_any (f : FormD) (A : Option Addr) (cap B : Nat) (w : World) (hA : Ints w B A f.moves) (hB : B ≤ w.heap.size) (hok : okForm f = true) :
    Calls Tryz.prog 50 #[formV f A cap] w fun e w' => ∃ A' cap', e = .returned (formV (canonD f) A' cap') ∧ IntsF w' w.heap.size A' (canonD f).moves ∧ Below w.heap.size w w' := by
  have hl := okForm_len hok
  have hml := mirror_len f
  have hAm := hA.more hB
  have HM := Lib.hid (fun (w0 : World) (h : Grow w w0) => mirror_any f A cap w.heap.size w0 (hAm.below h) hl h.size hok)
  have HAm := Lib.hid hAm
  have HML := Lib.hid hml
  clear hA hAm hok hml
  obtain ⟨i0, hi, hz0, hz1, hz2⟩ := info_parts Tryz.infoInt
  go_enter Tryz.func50, Tryz.ntmps50
  go_wp2_with fail
  obtain ⟨W, hW, hg, hf, hr, hsz⟩ := two_blocks w 24 24 (cellsF f A cap) cells0
  rw [hW]
  clear hW
  refine (HM.out _ hg).mono ?_
  rintro e w1 ⟨A1, cap1, rfl, hi1, hb1⟩
  have hf1 := hf.below hb1 (by omega)
  have hr1 := hr.below hb1 (by omega)
  have hfc := fun o j => (hf1.old o).cell j
  have hg1 : Grow w w1 := hg.trans hb1
  have hz1' := hb1.size
  have HF1 := Lib.hid hf1
  have HR1 := Lib.hid hr1
  have HI1 := Lib.hid hi1
  have HG1 := Lib.hid hg1
  have HG := Lib.hid hg
  clear hf hr hf1 hr1 hi1 hg1 hb1 hg
  go_wp2_with fail
  obtain ⟨W2, hW2, hg2, hm2, hsz2⟩ := one_block w1 24 (cellsF (mirrorD f) A1 cap1)
  rw [hW2]
  clear hW2
  have hgw := HG1.out.trans hg2
  refine (compareForms_any (mirrorD f) f A1 A cap1 cap W2 ((HI1.out.grow hg2).ints) ((HAm.out.below hgw).more hgw.size) (by rw [HML.out]; omega) (by omega)).mono ?_
  rintro e w3 ⟨rfl, hb3⟩
  have hf3 := (hg2.block HF1.out).below hb3 (by omega)
  have hfc3 := hf3.cell
  have HF3 := Lib.hid hf3
  clear hf3
  have hr3 := (hg2.block HR1.out).below hb3 (by omega)
  have hrc3 := hr3.cell
  have hrf3 := hr3.frozen
  have hmc3 := (hm2.below hb3 hsz2).cell
  have hi3 := ((HI1.out.grow hg2).grow hb3).mono (lo' := W.heap.size) (Nat.le_refl _)
  have hgw3 : Grow w w3 := hgw.trans hb3
  have hz3 := hb3.size
  have HR3 := Lib.hid hr3
  have HI3 := Lib.hid hi3
  have HGW3 := Lib.hid hgw3
  clear hr3 hi3 hgw3 hgw hb3 hg2 hm2 hfc
  by_cases hlt : cmpF (mirrorD f) f < 0
  · go_wp2
    refine bodyPost_ret (results_form Tryz.results50 _ _ _ _ _ _ _ _ _ (six_stores HR3.out _ _ _ _ _ _) rfl) rfl ⟨A1, cap1, ?_, ?_, ?_⟩
    · rw [show canonD f = mirrorD f from if_pos hlt]
    · rw [show canonD f = mirrorD f from if_pos hlt]
      exact (six_ints HI3.out (by omega) _ _ _ _ _ _).mono (by omega)
    · exact HGW3.out.trans' (six_below (by omega) _ _ _ _ _ _)
  · have hA3 := (HAm.out.below HGW3.out)
    go_wp2_with (at_builtin; refine wpList_append_ints rfl _ _ 22 rfl w3.heap.size 3 i0 (.int .i64 0) 8 Tryz.underlying22 hi hz0 hz1 hz2 rfl _ 0 [] rfl ?c0 A f.moves.length cap w.heap.size f.moves rfl rfl hA3 ?c2 ?c3 ?c4 ?_)
    case c0 => exact ⟨rfl, .inl ⟨rfl, rfl⟩⟩
    case c2 => unfold maxLen; omega
    case c3 => omega
    case c4 => exact Nat.le_refl _
    intro v' w4 hown4 hgrow
    obtain ⟨A', cap', rfl⟩ := own_form hown4
    have hg4 : Grow w3 w4 := grown_none hgrow
    have hf4 := hg4.block HF3.out
    have hr4 := hg4.block HR3.out
    have hfc4 := hf4.cell
    have hff4 := hf4.frozen
    have hrc4 := hr4.cell
    have hrf4 := hr4.frozen
    have HR4 := Lib.hid hr4
    have HI4 := Lib.hid (own_intsF (xs := f.moves) (by simpa using hown4))
    have HG4 := Lib.hid (HGW3.out.trans hg4)
    clear hf4 hr4 hown4 hgrow hg4 hfc3 hrc3 hrf3 hmc3 hA3
    go_wp2
    refine bodyPost_ret (results_form Tryz.results50 _ _ _ _ _ _ _ _ _ (six_stores (HR4.out.far (p := ⟨w.heap.size, 5, none⟩) (by simp) (.slice A' f.moves.length cap')) _ _ _ _ _ _) rfl) rfl ⟨A', cap', ?_, ?_, ?_⟩
    · rw [show canonD f = f from if_neg (by omega)]
    · rw [show canonD f = f from if_neg (by omega)]
      exact (six_ints (HI4.out.setCell (p := ⟨w.heap.size, 5, none⟩) (by simp; omega) (.slice A' f.moves.length cap')) (by omega) _ _ _ _ _ _).mono (by omega)
    · exact (Grow.trans' HG4.out ((Below.refl _ _).setCell (p := ⟨w.heap.size, 5, none⟩) (Nat.le_refl _) _)).trans (six_below (by omega) _ _ _ _ _ _)

end Go.Proofs.YtfpmkolaiomabaaGreat

namespace Go.Proofs.YtfpmkolaiomabaaGreat
open Go.RowKit

set_option maxRecDepth 100000 in
set_option maxHeartbeats 2000000 in
theorem rcanon_any (f : FormD) (A : Option Addr) (cap B : Nat) (w : World) (hA : Ints w B A f.moves) (hB : B ≤ w.heap.size) (hok : okForm f = true) :
    Calls Tryz.prog 51 #[formV f A cap] w fun e w' => ∃ A' cap', e = .returned (formV (canonD f) A' cap') ∧ IntsF w' w.heap.size A' (canonD f).moves ∧ Below w.heap.size w w' := by
  have hl := okForm_len hok
  have hAm := hA.more hB
  have HM := Lib.hid (fun (w0 : World) (h : Grow w w0) => rMirror_any f A cap w.heap.size w0 (hAm.below h) hl h.size hok)
  have HAm := Lib.hid hAm
  have HOK := Lib.hid hok
  clear hA hAm hok
  go_enter Tryz.func51, Tryz.ntmps51
  go_wp2_with fail
  obtain ⟨W, hW, hg, hf, hr, hsz⟩ := two_blocks w 24 24 (cellsF f A cap) cells0
  rw [hW]
  clear hW
  refine (HM.out _ hg).mono ?_
  rintro e w1 ⟨A1, cap1, rfl, hi1, hb1⟩
  have hf1 := hf.below hb1 (by omega)
  have hr1 := hr.below hb1 (by omega)
  have hfc := fun o j => (hf1.old o).cell j
  have hg1 : Grow w w1 := hg.trans hb1
  have hz1' := hb1.size
  have HF1 := Lib.hid hf1
  have HR1 := Lib.hid hr1
  have HI1 := Lib.hid hi1
  have HG1 := Lib.hid hg1
  clear hf hr hf1 hr1 hi1 hg1 hb1 hg
  go_wp2_with fail
  obtain ⟨W2, hW2, hg2, hm2, hsz2⟩ := one_block w1 24 (cellsF (mirrorD f) A1 cap1)
  rw [hW2]
  clear hW2
  have hgw := HG1.out.trans hg2
  refine (rFirst_any (mirrorD f) f A1 A cap1 cap W2 ((HI1.out.grow hg2).ints) ((HAm.out.below hgw).more hgw.size) (okForm_mirror HOK.out) HOK.out).mono ?_
  rintro e w3 ⟨rfl, hb3⟩
  have hfc3 := ((hg2.block HF1.out).below hb3 (by omega)).cell
  have hr3 := (hg2.block HR1.out).below hb3 (by omega)
  have hrc3 := hr3.cell
  have hrf3 := hr3.frozen
  have hmc3 := (hm2.below hb3 hsz2).cell
  have hi3 := ((HI1.out.grow hg2).grow hb3).mono (lo' := W.heap.size) (Nat.le_refl _)
  have hgw3 : Grow w w3 := hgw.trans hb3
  have hz3 := hb3.size
  have HR3 := Lib.hid hr3
  have HI3 := Lib.hid hi3
  have HGW3 := Lib.hid hgw3
  clear hr3 hi3 hgw3 hgw hb3 hg2 hm2 hfc
  by_cases hlt : cmpF (mirrorD f) f < 0
  · go_wp2
    refine bodyPost_ret (results_form Tryz.results51 _ _ _ _ _ _ _ _ _ (six_stores HR3.out _ _ _ _ _ _) rfl) rfl ⟨A1, cap1, ?_, ?_, ?_⟩
    · rw [show canonD f = mirrorD f from if_pos hlt]
    · rw [show canonD f = mirrorD f from if_pos hlt]
      exact (six_ints HI3.out (by omega) _ _ _ _ _ _).mono (by omega)
    · exact HGW3.out.trans' (six_below (by omega) _ _ _ _ _ _)
  · have HC := Lib.hid (rCopyForm_any f A cap w.heap.size w3 (HAm.out.below HGW3.out) (by omega) HGW3.out.size)
    go_wp2_with fail
    refine HC.out.mono ?_
    rintro e w4 ⟨A4, cap4, rfl, hi4, hb4⟩
    have hr4 := Grow.block hb4 HR3.out
    have hrc4 := hr4.cell
    have hrf4 := hr4.frozen
    have HR4 := Lib.hid hr4
    have HI4 := Lib.hid hi4
    have HG4 := Lib.hid (HGW3.out.trans hb4)
    have hz4 := hb4.size
    clear hr4 hi4 hb4 hfc3 hrc3 hrf3 hmc3
    go_wp2
    refine bodyPost_ret (results_form Tryz.results51 _ _ _ _ _ _ _ _ _ (six_stores HR4.out _ _ _ _ _ _) rfl) rfl ⟨A4, cap4, ?_, ?_, ?_⟩
    · rw [show canonD f = f from if_neg (by omega)]
    · rw [show canonD f = f from if_neg (by omega)]
      exact (six_ints HI4.out (by omega) _ _ _ _ _ _).mono (by omega)
    · exact HG4.out.trans' (six_below (by omega) _ _ _ _ _ _)

end Go.Proofs.YtfpmkolaiomabaaGreat

