/- RCost: the specification's Cost; written by wip/tools/rcost10.py. -/
import Derived.Test.YtcgnibfcjadnjaaRPay
namespace Go.Proofs.Ytcgnibfcjadnjaa
open Go.RowKit

theorem costL_take {p : Pool} {l : List Nat} {k g : Nat} (h : l[k]? = some g) : costL p (l.take (k + 1)) = costL p (l.take k) + costD p g := by
  have key : ∀ (a : List Nat), costL p (a ++ [g]) = costL p a + costD p g := by
    intro a
    induction a with
    | nil => show costD p g + 0 = 0 + costD p g; omega
    | cons y a ih => show costD p y + costL p (a ++ [g]) = costD p y + costL p a + costD p g; omega
  rw [List.take_add_one, h]
  exact key _
theorem costD_le {p : Pool} (G : Good p) (g : Nat) : costD p g ≤ 5000 := by
  have h1 := costTo_le G g p.folk.length
  have h2 := G.f5
  unfold costD
  omega

set_option maxRecDepth 100000 in
set_option maxHeartbeats 8000000 in
theorem rCost_any (h : PoolH) (p : Pool) (G : Good p) (A : Option Addr) (cap : Nat) (gs : List Nat) (w : World) (hA : PoolAt w w.heap.size h p.i) (hI : Ints w w.heap.size A (natsL gs)) (hwt : Watch p gs) :
    Calls Try.prog 30 #[poolN h p, .slice A gs.length cap] w fun e w' => e = .returned (.int .i64 (costL p gs : Nat)) ∧ Below w.heap.size w w' := by
  have HP := Lib.hid (fun (g : Nat) (hg : g < 32) (w0 : World) (hw : Grow w w0) => rPay_any h p G g w0 (hA.grow hw) (by omega))
  have HIN := Lib.hid (fun (w0 : World) (hw : Grow w w0) => (hI.below hw).more hw.size)
  have HG32 := Lib.hid (fun (s g : Nat) (hg : gs[s]? = some g) => hwt.g32 G hg)
  have HCL := Lib.hid (fun g => costD_le G g)
  have hl3 : gs.length ≤ 3 := by have h1 := hwt.len; have h2 := G.n3; omega
  clear hA hI hwt
  obtain ⟨fa, fc, na, nc⟩ := h
  go_enter Try.func30, Try.ntmps30
  go_upto_region 1 with fail
  obtain ⟨W, hW, hgr, hf, hsz⟩ := one_block w 25 (cellsN ⟨fa, fc, na, nc⟩ p)
  rw [hW]
  clear hW
  have HB := Lib.hid hf
  have HG := Lib.hid hgr
  clear hf hgr
  go_wp2
  go_loopw [5, 6] (fun nv iv wr => ∃ (s m : Nat), s ≤ gs.length ∧ iv = .int .i64 (s : Nat) ∧ nv = .int .i64 (m : Nat) ∧ Hid (m = costL p (gs.take s)) ∧ m ≤ 5000 * s ∧ Hid (Grow W wr)) (fun _ iv _ => gs.length - (intOf iv).toNat)
  case atStart => exact ⟨0, 0, Nat.zero_le _, rfl, rfl, rfl, by omega, Lib.hid (Grow.refl _)⟩
  case round =>
    obtain ⟨s, m, hs, rfl, rfl, HM, hm2, HGR⟩ := hrel
    rename World => wr
    by_cases hlt : s < gs.length
    · have hd : decide ((s : Int) < (gs.length : Int)) = true := decide_eq_true (by omega)
      have hs0 : (0 : Int) ≤ (s : Int) := by omega
      have hs1 : (s : Int) < (gs.length : Int) := by omega
      obtain ⟨ab, ao, x, rfl, hab, hac, HX⟩ := ints_nat (HIN.out wr (HG.out.trans HGR.out)) hlt
      have HXC := Lib.hid hac
      have hx32 := HG32.out s x HX.out
      have HPY := Lib.hid (fun w0 hw => HP.out x hx32 w0 hw)
      have hpc := HCL.out x
      have HS0 : Hid (costL p (gs.take (s + 1)) = m + costD p x) := Lib.hid (by rw [costL_take HX.out, HM.out])
      obtain ⟨pc, hpcd⟩ : ∃ z, costD p x = z := ⟨_, rfl⟩
      rw [hpcd] at HPY HS0 hpc
      have HS : Hid (m + pc = costL p (gs.take (s + 1))) := Lib.hid HS0.out.symm
      clear hac hpcd HS0
      go_upto_region 5 with fail
      clear hd
      refine wp_region_lit 8 [[], [], [], [], [(2, 15), (3, 16)], [(4, 17)], [(1, 14), (5, 18)], [(0, 13), (6, 19)]] Grow (fun qi v w' => match qi with
          | 0 => v = .int .i64 (m : Nat)
          | 1 => v = poolN ⟨fa, fc, na, nc⟩ p
          | 2 => v = .slice (some ⟨ab, ao, none⟩) gs.length cap
          | 3 => v = .int .i64 (s : Nat)
          | 4 => v = .pointer (some ⟨ab, ao + s, none⟩)
          | 5 => v = .int .i64 (x : Nat)
          | 6 => v = .int .i64 (pc : Nat)
          | 7 => v = .int .i64 ((m : Int) + (pc : Int))
          | _ => False) (by kernel_rfl) (by kernel_rfl) (fun _ _ _ => Grow.trans) Grow.refl ?_ ?_ ?_
      · intro i v y y' h k
        match i, h with
        | 0, h | 1, h | 2, h | 3, h | 4, h | 5, h | 6, h | 7, h => exact h
      · simp only [StepsLit, List.take_succ_cons, List.take_zero]
        refine ⟨?_, ?_, ?_, ?_, ?_, ?_, ?_, ?_, trivial⟩
        · intro w5 hR
          have hGw : Grow wr w5 := hR.of_drew
          have HGW := Lib.hid hGw
          have hcc := ((HGR.out.trans HGW.out).block HB.out).cell
          have hxc := HGW.out.cell HXC.out
          clear hR hGw
          simp only [depV]
          try go_simp
          all_goals first
            | (with_reducible exact Grow.refl _)
            | (with_reducible exact ⟨Grow.refl _, rfl⟩)
        · intro w5 hR
          have hGw : Grow wr w5 := hR.of_drew
          have HGW := Lib.hid hGw
          have hcc := ((HGR.out.trans HGW.out).block HB.out).cell
          have hxc := HGW.out.cell HXC.out
          clear hR hGw
          simp only [depV]
          try go_simp
          all_goals first
            | (with_reducible exact Grow.refl _)
            | (with_reducible exact ⟨Grow.refl _, rfl⟩)
        · intro w5 hR
          have hGw : Grow wr w5 := hR.of_drew
          have HGW := Lib.hid hGw
          have hcc := ((HGR.out.trans HGW.out).block HB.out).cell
          have hxc := HGW.out.cell HXC.out
          clear hR hGw
          simp only [depV]
          try go_simp
          all_goals first
            | (with_reducible exact Grow.refl _)
            | (with_reducible exact ⟨Grow.refl _, rfl⟩)
        · intro w5 hR
          have hGw : Grow wr w5 := hR.of_drew
          have HGW := Lib.hid hGw
          have hcc := ((HGR.out.trans HGW.out).block HB.out).cell
          have hxc := HGW.out.cell HXC.out
          clear hR hGw
          simp only [depV]
          try go_simp
          all_goals first
            | (with_reducible exact Grow.refl _)
            | (with_reducible exact ⟨Grow.refl _, rfl⟩)
        · intro w5 hR
          have hGw : Grow wr w5 := hR.of_drew
          have HGW := Lib.hid hGw
          have hcc := ((HGR.out.trans HGW.out).block HB.out).cell
          have hxc := HGW.out.cell HXC.out
          clear hR hGw
          simp only [depV]
          rintro _ rfl
          rintro _ rfl
          try go_simp
          all_goals first
            | (with_reducible exact Grow.refl _)
            | (with_reducible exact ⟨Grow.refl _, rfl⟩)
        · intro w5 hR
          have hGw : Grow wr w5 := hR.of_drew
          have HGW := Lib.hid hGw
          have hcc := ((HGR.out.trans HGW.out).block HB.out).cell
          have hxc := HGW.out.cell HXC.out
          clear hR hGw
          simp only [depV]
          rintro _ rfl
          try go_simp
          all_goals first
            | (with_reducible exact Grow.refl _)
            | (with_reducible exact ⟨Grow.refl _, rfl⟩)
        · intro w5 hR
          have hGw : Grow wr w5 := hR.of_drew
          have HGW := Lib.hid hGw
          have hcc := ((HGR.out.trans HGW.out).block HB.out).cell
          have hxc := HGW.out.cell HXC.out
          clear hR hGw
          simp only [depV]
          rintro _ rfl
          rintro _ rfl
          try go_simp
          refine (HPY.out w5 ((HG.out.trans HGR.out).trans HGW.out)).mono ?_
          rintro e w6 ⟨rfl, hb6⟩
          exact ⟨hb6, rfl⟩
        · intro w5 hR
          have hGw : Grow wr w5 := hR.of_drew
          have HGW := Lib.hid hGw
          have hcc := ((HGR.out.trans HGW.out).block HB.out).cell
          have hxc := HGW.out.cell HXC.out
          clear hR hGw
          simp only [depV]
          rintro _ rfl
          rintro _ rfl
          try go_simp
          exact ⟨Grow.refl _, by rw [IntWalk.i64_in _ (by omega)]⟩
      · intro w5 hR
        have HG5 : Hid (Grow wr w5) := Lib.hid hR.of_drew
        clear hR
        simp only [finVC, List.take_succ_cons, List.take_zero, List.drop_succ_cons, List.drop_zero]
        rintro _ rfl
        rintro _ rfl
        rintro _ rfl
        rintro _ rfl
        rintro _ rfl
        rintro _ rfl
        rintro _ rfl
        rintro _ rfl
        simp only [Act.put, List.setIfInBounds_toArray, List.set_cons_succ, List.set_cons_zero]
        go_wp2_with fail
        go_roundw
        case rel => exact ⟨s + 1, m + pc, by omega, by go_num, by go_num, HS, by omega, Lib.hid (HGR.out.trans HG5.out)⟩
        case measure => simp [intOf]; omega
    · obtain rfl : s = gs.length := by omega
      have hd : decide ((gs.length : Int) < (gs.length : Int)) = false := decide_eq_false (by omega)
      have HX : Hid (m = costL p gs) := Lib.hid (by rw [HM.out, List.take_length])
      go_wp2
      go_ret
      exact ⟨by rw [HX.out]; rfl, HG.out.trans HGR.out⟩

end Go.Proofs.Ytcgnibfcjadnjaa
