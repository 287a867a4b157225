/- The specification's canon; Canon and Compare of both. -/
import Derived.Test.YtjpnblflenlnaaaGreatCanon
import Derived.Test.YtjpnblflenlnaaaGreatIsForm
import Derived.Test.YtjpnblflenlnaaaGreatValid
namespace Go.Proofs.YtjpnblflenlnaaaGreat
open Go.RowKit

set_option maxRecDepth 100000 in
set_option maxHeartbeats 2000000 in
theorem rcanon_any (f : FormD) (A : Option Addr) (cap B : Nat) (w : World) (hA : Ints w B A f.moves) (hB : B ≤ w.heap.size) (hok : okForm f = true) :
    Calls Tryz.prog 51 #[formV f A cap] w fun e w' => ∃ A' cap', e = .returned (formV (canonD f) A' cap') ∧ IntsF w' w.heap.size A' (canonD f).moves ∧ Below w.heap.size w w' := by
  have hl := okForm_len hok
  have hAm := hA.more hB
  have HM := Lib.hid (fun (w0 : World) (h : Grow w w0) => rMirror_any f A cap w.heap.size w0 (hAm.below h) hl h.size hok)
  have HAm := Lib.hid hAm
  have HOK := Lib.hid hok
  clear hA hAm hok
  go_enter Tryz.func51, Tryz.ntmps51
  go_wp2_with fail
  obtain ⟨W, hW, hg, hf, hr, hsz⟩ := two_blocks w 24 24 (cellsF f A cap) cells0
  rw [hW]
  clear hW
  refine (HM.out _ hg).mono ?_
  rintro e w1 ⟨A1, cap1, rfl, hi1, hb1⟩
  have hf1 := hf.below hb1 (by omega)
  have hr1 := hr.below hb1 (by omega)
  have hfc := fun o j => (hf1.old o).cell j
  have hg1 : Grow w w1 := hg.trans hb1
  have hz1' := hb1.size
  have HF1 := Lib.hid hf1
  have HR1 := Lib.hid hr1
  have HI1 := Lib.hid hi1
  have HG1 := Lib.hid hg1
  clear hf hr hf1 hr1 hi1 hg1 hb1 hg
  go_wp2_with fail
  obtain ⟨W2, hW2, hg2, hm2, hsz2⟩ := one_block w1 24 (cellsF (mirrorD f) A1 cap1)
  rw [hW2]
  clear hW2
  have hgw := HG1.out.trans hg2
  refine (rFirst_any (mirrorD f) f A1 A cap1 cap W2 ((HI1.out.grow hg2).ints) ((HAm.out.below hgw).more hgw.size) (okForm_mirror HOK.out) HOK.out).mono ?_
  rintro e w3 ⟨rfl, hb3⟩
  have hfc3 := ((hg2.block HF1.out).below hb3 (by omega)).cell
  have hr3 := (hg2.block HR1.out).below hb3 (by omega)
  have hrc3 := hr3.cell
  have hrf3 := hr3.frozen
  have hmc3 := (hm2.below hb3 hsz2).cell
  have hi3 := ((HI1.out.grow hg2).grow hb3).mono (lo' := W.heap.size) (Nat.le_refl _)
  have hgw3 : Grow w w3 := hgw.trans hb3
  have hz3 := hb3.size
  have HR3 := Lib.hid hr3
  have HI3 := Lib.hid hi3
  have HGW3 := Lib.hid hgw3
  clear hr3 hi3 hgw3 hgw hb3 hg2 hm2 hfc
  by_cases hlt : cmpF (mirrorD f) f < 0
  · go_wp2
    refine bodyPost_ret (results_form Tryz.results51 _ _ _ _ _ _ _ _ _ (six_stores HR3.out _ _ _ _ _ _) rfl) rfl ⟨A1, cap1, ?_, ?_, ?_⟩
    · rw [show canonD f = mirrorD f from if_pos hlt]
    · rw [show canonD f = mirrorD f from if_pos hlt]
      exact (six_ints HI3.out (by omega) _ _ _ _ _ _).mono (by omega)
    · exact HGW3.out.trans' (six_below (by omega) _ _ _ _ _ _)
  · have HC := Lib.hid (rCopyForm_any f A cap w.heap.size w3 (HAm.out.below HGW3.out) (by omega) HGW3.out.size)
    go_wp2_with fail
    refine HC.out.mono ?_
    rintro e w4 ⟨A4, cap4, rfl, hi4, hb4⟩
    have hr4 := Grow.block hb4 HR3.out
    have hrc4 := hr4.cell
    have hrf4 := hr4.frozen
    have HR4 := Lib.hid hr4
    have HI4 := Lib.hid hi4
    have HG4 := Lib.hid (HGW3.out.trans hb4)
    have hz4 := hb4.size
    clear hr4 hi4 hb4 hfc3 hrc3 hrf3 hmc3
    go_wp2
    refine bodyPost_ret (results_form Tryz.results51 _ _ _ _ _ _ _ _ _ (six_stores HR4.out _ _ _ _ _ _) rfl) rfl ⟨A4, cap4, ?_, ?_, ?_⟩
    · rw [show canonD f = f from if_neg (by omega)]
    · rw [show canonD f = f from if_neg (by omega)]
      exact (six_ints HI4.out (by omega) _ _ _ _ _ _).mono (by omega)
    · exact HG4.out.trans' (six_below (by omega) _ _ _ _ _ _)

end Go.Proofs.YtjpnblflenlnaaaGreat
