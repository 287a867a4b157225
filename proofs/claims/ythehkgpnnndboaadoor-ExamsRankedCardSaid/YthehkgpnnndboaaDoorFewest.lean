/- Fewest: the least number of wrong judges. -/
import Derived.Test.YthehkgpnnndboaaDoorReads
namespace Go.Proofs.YthehkgpnnndboaaDoor
open Go.RowKit

abbrev cellsW (p : PaperR) (v : Int) : Array Value := #[.slice p.ia p.items.length p.ic, .slice p.ja p.judges.length p.jc, .int .i64 v, .slice p.ga p.grades.length p.gc]
set_option maxRecDepth 100000 in
set_option maxHeartbeats 8000000 in
theorem fewest_any (p : PaperR) (G : GoodP p.d) (w : World) (hA : PaperAt w w.heap.size p) :
    Calls Tryd.prog 58 #[paperV p] w fun e w' => e = .returned (.int .i64 (fewestD p.d : Nat)) ∧ Below w.heap.size w w' := by
  have h4 : p.judges.length ≤ 4 := by have : p.d.judges.length ≤ 4 := G.j4; rw [d_len] at this; exact this
  have HIP := Lib.hid (fun (k : Nat) (w0 : World) (hw : Below w.heap.size w w0) => (show Calls Tryd.prog 75 #[.agg (cellsW p k)] w0 fun e w' => e = .returned (.bool (!(truthsL (withW p.d k)).isEmpty)) ∧ Below w0.heap.size w0 w' from by
    have h := (hA.below hw).more hw.size
    exact isPossible_any { p with wrong := k } (good_with G (Int.le_refl 0) (by omega)) w0 ⟨h.items, h.judges, h.marks, h.grades⟩))
  have HF : Hid (fewestD p.d = fewTo p.d (p.judges.length - 0) 0) := Lib.hid (by unfold fewestD; rw [d_len]; rfl)
  have HS : Hid (∀ m k, fewTo p.d (m + 1) k = if truthsL (withW p.d k) = [] then fewTo p.d m (k + 1) else k) := Lib.hid (fun _ _ => rfl)
  have H0 : Hid (∀ k, fewTo p.d 0 k = k) := Lib.hid (fun _ => rfl)
  obtain ⟨fd, hfd⟩ : ∃ z, fewestD p.d = z := ⟨_, rfl⟩
  rw [hfd] at HF ⊢
  clear hfd hA
  go_enter Tryd.func58, Tryd.ntmps58
  go_upto_region 1 with fail
  obtain ⟨W, hW, hg, hf, hsz⟩ := one_block w 73 (cellsW p p.wrong)
  rw [show w.alloc (.cells (cellsP p) 73) = W from hW]
  clear hW
  have HFB := Lib.hid hf
  have HG := Lib.hid hg
  have hcc := hf.cell
  clear hf hg
  go_wp2_with fail
  go_loopw [8] (fun iv wr => ∃ k : Nat, k ≤ p.judges.length ∧ iv = .int .i64 (k : Nat) ∧ Hid (fd = fewTo p.d (p.judges.length - k) k) ∧ (∃ v, BlockIs wr w.heap.size 73 (cellsW p v)) ∧ Below w.heap.size w wr) (fun iv _ => p.judges.length - (intOf iv).toNat)
  case atStart => exact ⟨0, Nat.zero_le _, rfl, HF, ⟨_, HFB.out⟩, HG.out⟩
  case round =>
    obtain ⟨k, hk, rfl, HK, ⟨v, hv⟩, hgw⟩ := hrel
    have HV := Lib.hid hv
    have HGW := Lib.hid hgw
    have hvc := hv.cell
    have hvf := hv.frozen 2
    clear hv hgw hcc
    by_cases hlt : k < p.judges.length
    · have hd : decide ((k : Int) < (p.judges.length : Int)) = true := decide_eq_true (by omega)
      go_upto_region 5 with fail
      obtain ⟨W5, hW5⟩ : ∃ z, wr.setCell ⟨w.heap.size, 2, none⟩ (.int .i64 (k : Nat)) = z := ⟨_, rfl⟩
      have HV5 : Hid (BlockIs W5 w.heap.size 73 (cellsW p k)) := Lib.hid (by rw [← hW5]; exact HV.out.near 2 _)
      have HG5 : Hid (Below w.heap.size w W5) := Lib.hid (by rw [← hW5]; exact HGW.out.setCell (p := ⟨w.heap.size, 2, none⟩) (Nat.le_refl _) _)
      rw [hW5]
      clear hW5 hvc hvf HV
      have hvc := HV5.out.cell
      have HKS : Hid (fd = if truthsL (withW p.d k) = [] then fewTo p.d (p.judges.length - (k + 1)) (k + 1) else k) := Lib.hid (by
        rw [HK.out, show p.judges.length - k = (p.judges.length - (k + 1)) + 1 by omega]
        exact HS.out _ _)
      go_wp2_with fail
      refine (HIP.out k W5 HG5.out).mono ?_
      rintro e W6 ⟨rfl, hb6⟩
      have HG6 : Hid (Below w.heap.size w W6) := Lib.hid (HG5.out.trans (Below.mono hb6 HG5.out.size))
      have HV6 := Lib.hid ((show Grow W5 W6 from hb6).block HV5.out)
      clear hb6 hvc
      cases hem : truthsL (withW p.d k) with
      | nil =>
        have HN : Hid (fd = fewTo p.d (p.judges.length - (k + 1)) (k + 1)) := Lib.hid (by rw [HKS.out, if_pos hem])
        clear hem HKS HK
        rw [show (!([] : List (List Int)).isEmpty) = false from rfl]
        go_wp2_with fail
        go_roundw
        case rel => exact ⟨k + 1, by omega, by go_num, HN, ⟨_, HV6.out⟩, HG6.out⟩
        case measure => simp [intOf]; omega
      | cons a l =>
        have HN : Hid (fd = k) := Lib.hid (by rw [HKS.out, if_neg (by rw [hem]; exact List.cons_ne_nil _ _)])
        clear hem HKS HK
        rw [show (!(a :: l).isEmpty) = true from rfl]
        go_wp2_with fail
        go_ret
        exact ⟨by rw [HN.out]; rfl, HG6.out⟩
    · obtain rfl : k = p.judges.length := by omega
      have hd : decide ((p.judges.length : Int) < (p.judges.length : Int)) = false := decide_eq_false (by omega)
      have HN : Hid (fd = p.judges.length) := Lib.hid (by rw [HK.out, Nat.sub_self]; exact H0.out _)
      go_wp2_with fail
      go_ret
      exact ⟨by rw [HN.out]; rfl, HGW.out⟩

theorem results_23 {fn : Func} (h : fn.results = #[.tmp 2, .tmp 3]) (t : Array Value) (W : World) (u v : Value) (h4 : t.getD 2 undef = u) (h5 : t.getD 3 undef = v) :
    (results fn t).run Tryd.prog W = .ok (.tuple #[u, v]) W := by
  simp only [results, h]
  simp at h4 h5
  simp [go_sem, h4, h5]
def fewestV (p : PaperR) : Nat := if okPaper p.d then fewestD p.d else 0
set_option maxRecDepth 100000 in
set_option maxHeartbeats 8000000 in
theorem fewestApi_any (p : PaperR) (w : World) (hA : PaperAt w w.heap.size p) (hs : Short p) :
    Calls Tryd.prog 27 #[paperV p] w fun e w' => e = .returned (.tuple #[.int .i64 (fewestV p : Nat), .int .i64 (paperErr p)]) ∧ Below w.heap.size w w' := by
  have HR := Lib.hid (fun (w0 : World) (hw : Grow w w0) => read_any p w0 (hA.grow hw) hs)
  cases hok : okPaper p.d with
  | false =>
    rw [show paperErr p = 90 from by unfold paperErr; rw [hok]; rfl, show paperCells p = zeroP from by unfold paperCells; rw [hok]; rfl] at HR
    rw [show paperErr p = 90 from by unfold paperErr; rw [hok]; rfl, show fewestV p = 0 from by unfold fewestV; rw [hok]; rfl]
    clear hok hA
    go_enter Tryd.func27, Tryd.ntmps27
    go_upto_region 1 with fail
    obtain ⟨W, hW, hg, hf, hsz⟩ := one_block w 26 (cellsP p)
    rw [hW]
    clear hW
    have hcc := hf.cell
    have HG := Lib.hid hg
    clear hf hg
    go_wp2_with fail
    refine (HR.out W HG.out).mono ?_
    rintro e w1 ⟨rfl, hb1⟩
    have HG1 : Hid (Grow w w1) := Lib.hid (HG.out.trans hb1)
    clear hb1 hcc
    go_wp2_with fail
    exact bodyPost_ret (results_23 Tryd.results27 _ _ _ _ rfl rfl) rfl ⟨rfl, HG1.out.trans (Grow.alloc _ _)⟩
  | true =>
    have HFE := Lib.hid (fun (w0 : World) (hw : Grow w w0) => fewest_any p (good_of hok) w0 (hA.grow hw))
    rw [show paperErr p = 0 from by unfold paperErr; rw [hok]; rfl, show paperCells p = cellsP p from by unfold paperCells; rw [hok]; rfl] at HR
    rw [show paperErr p = 0 from by unfold paperErr; rw [hok]; rfl, show fewestV p = fewestD p.d from by unfold fewestV; rw [hok]; rfl]
    clear hok hA
    go_enter Tryd.func27, Tryd.ntmps27
    go_upto_region 1 with fail
    obtain ⟨W, hW, hg, hf, hsz⟩ := one_block w 26 (cellsP p)
    rw [hW]
    clear hW
    have hcc := hf.cell
    have HG := Lib.hid hg
    clear hf hg
    go_wp2_with fail
    refine (HR.out W HG.out).mono ?_
    rintro e w1 ⟨rfl, hb1⟩
    have HG1 : Hid (Grow w w1) := Lib.hid (HG.out.trans hb1)
    clear hb1 hcc
    go_upto_region 4 with fail
    obtain ⟨W2, hW2, hg2, hs2, hsz2⟩ := one_block w1 73 (cellsP p)
    rw [show w1.alloc (.cells (cellsP p) 73) = W2 from hW2]
    clear hW2
    have HG2 : Hid (Grow w W2) := Lib.hid (HG1.out.trans hg2)
    have hsc := hs2.cell
    clear hg2 hs2
    go_wp2_with fail
    refine (HFE.out W2 HG2.out).mono ?_
    rintro e w3 ⟨rfl, hb3⟩
    have HG3 : Hid (Grow w w3) := Lib.hid (HG2.out.trans hb3)
    clear hb3 hsc
    go_wp2_with fail
    exact bodyPost_ret (results_23 Tryd.results27 _ _ _ _ rfl rfl) rfl ⟨rfl, HG3.out⟩

end Go.Proofs.YthehkgpnnndboaaDoor
