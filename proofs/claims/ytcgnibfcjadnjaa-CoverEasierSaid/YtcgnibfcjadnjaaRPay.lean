/- RPay: the specification's Pay and Cost. -/
import Derived.Test.YtcgnibfcjadnjaaRWatch
namespace Go.Proofs.Ytcgnibfcjadnjaa
open Go.RowKit

set_option maxRecDepth 100000 in
set_option maxHeartbeats 4000000 in
theorem rPay_any (h : PoolH) (p : Pool) (G : Good p) (g : Nat) (w : World) (hA : PoolAt w w.heap.size h p.i) (hg : g < 1048576) :
    Calls Try.prog 29 #[poolN h p, .int .i64 g] w fun e w' => e = .returned (.int .i64 (costD p g : Nat)) ∧ Below w.heap.size w w' := by
  have HF := Lib.hid (fun (w0 : World) (hw : Grow w w0) => (hA.grow hw).1)
  have hl5 := G.f5
  have HCB := Lib.hid (fun k => costTo_le G g k)
  have HMI : Hid (costD p g = costTo p.folk g p.folk.length) := Lib.hid rfl
  obtain ⟨mi, hmi⟩ : ∃ z, costD p g = z := ⟨_, rfl⟩
  rw [hmi] at HMI ⊢
  clear hmi hA
  obtain ⟨fa, fc, na, nc⟩ := h
  go_enter Try.func29, Try.ntmps29
  go_upto_region 1 with fail
  obtain ⟨W, hW, hgr, hf, hsz⟩ := one_block w 25 (cellsN ⟨fa, fc, na, nc⟩ p)
  rw [hW]
  clear hW
  have HB := Lib.hid hf
  have HG := Lib.hid hgr
  clear hf hgr
  go_wp2
  go_loopw [5, 6] (fun nv iv wr => ∃ (k m : Nat), k ≤ p.folk.length ∧ iv = .int .i64 (k : Nat) ∧ nv = .int .i64 (m : Nat) ∧ Hid (m = costTo p.folk g k) ∧ m ≤ 5000 ∧ Grow W wr) (fun _ iv _ => p.folk.length - (intOf iv).toNat)
  case atStart => exact ⟨0, 0, Nat.zero_le _, rfl, rfl, rfl, by omega, Grow.refl _⟩
  case round =>
    obtain ⟨k, m, hk, rfl, rfl, HM, hm2, hgr⟩ := hrel
    rename World => wr
    have HGR := Lib.hid hgr
    have hcc := (hgr.block HB.out).cell
    clear hgr
    by_cases hlt : k < p.folk.length
    · obtain ⟨b, off, x, rfl, hbl, e0, e1, e2, HX⟩ := folk_at (HF.out wr (HG.out.trans HGR.out)) hlt
      have h00 : (0 : Int) ≤ (k : Int) := by omega
      have hk1 : (k : Int) < (p.folk.length : Int) := by omega
      have hd : decide ((k : Int) < (p.folk.length : Int)) = true := decide_eq_true hk1
      have hxy := (folk_ok G HX.out).2.2
      have hxg : p.folk.getD k nof = x := by rw [List.getD_eq_getElem?_getD, HX.out]; rfl
      have HS : Hid (costTo p.folk g (k + 1) = if hasN g k then m + x.y else m) := Lib.hid (by
        show (if hasN g k = true then _ else _) = _
        rw [hxg, HM.out])
      have hcb := HCB.out (k + 1)
      rw [HS.out] at hcb
      have HH := Lib.hid (fun w0 => rHas_any g k w0 hg (by omega))
      obtain ⟨hb, hhb⟩ : ∃ z, hasN g k = z := ⟨_, rfl⟩
      rw [hhb] at HS HH hcb
      clear hhb hxg e0 e1
      cases hb with
      | false =>
        have HS : Hid (costTo p.folk g (k + 1) = m) := Lib.hid (by rw [HS.out]; simp)
        clear hcb
        go_wp2_with fail
        refine (HH.out _).mono ?_
        rintro e w2 ⟨rfl, rfl⟩
        go_wp2
        go_roundw
        case rel => exact ⟨k + 1, m, by omega, by go_num, rfl, HS.out.symm, by omega, HGR.out⟩
        case measure => simp [intOf]; omega
      | true =>
        have HS : Hid (costTo p.folk g (k + 1) = m + x.y) := Lib.hid (by rw [HS.out]; simp)
        rw [if_pos rfl] at hcb
        go_wp2_with fail
        refine (HH.out _).mono ?_
        rintro e w2 ⟨rfl, rfl⟩
        go_wp2
        go_roundw
        case rel => exact ⟨k + 1, m + x.y, by omega, by go_num, by go_num, HS.out.symm, by omega, HGR.out⟩
        case measure => simp [intOf]; omega
    · obtain rfl : k = p.folk.length := by omega
      have hd : decide ((p.folk.length : Int) < (p.folk.length : Int)) = false := decide_eq_false (by omega)
      have HX : Hid (m = mi) := Lib.hid (by rw [HM.out, HMI.out])
      go_wp2
      go_ret
      exact ⟨by rw [HX.out]; rfl, HG.out.trans HGR.out⟩

end Go.Proofs.Ytcgnibfcjadnjaa
