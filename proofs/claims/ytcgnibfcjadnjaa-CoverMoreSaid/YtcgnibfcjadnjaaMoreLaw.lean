/- MoreLaw: the statement on more people; written by wip/tools/morelaw10.py. -/
import Derived.Test.YtcgnibfcjadnjaaMoreM
namespace Go.Proofs.Ytcgnibfcjadnjaa
open Go.RowKit

set_option maxRecDepth 100000 in
set_option maxHeartbeats 16000000 in
theorem coverMore_bad (h : PoolH) (d : PoolI) (A : Option Addr) (cap : Nat) (ws : List Int) (B : Option Addr) (cbp : Nat) (us : List Int) (w : World) (hA : PoolAt w w.heap.size h d) (hv : validI d = false) :
    Calls Try.prog 7 #[poolV h d, .slice A ws.length cap, .slice B us.length cbp] w fun e w' => e = .returned (.bool true) ∧ Below w.heap.size w w' := by
  have HV := Lib.hid (fun (w0 : World) (hw : Grow w w0) => valid_any h d w0 (hA.grow hw))
  rw [hv] at HV
  clear hA hv
  obtain ⟨fa, fc, na, nc⟩ := h
  go_enter Try.func7, Try.ntmps7
  go_upto_region 1 with fail
  obtain ⟨W, hW, hg, hf, hsz⟩ := one_block w 25 (cellsP ⟨fa, fc, na, nc⟩ d)
  rw [hW]
  clear hW
  have hcc := hf.cell
  have HG := Lib.hid hg
  have HF := Lib.hid hf
  clear hf hg
  go_wp2_with fail
  refine (HV.out W HG.out).mono ?_
  rintro e w1 ⟨rfl, hb1⟩
  have HG1 : Hid (Grow w w1) := Lib.hid (HG.out.trans hb1)
  have HF1 := Lib.hid ((show Grow W w1 from hb1).block HF.out)
  have hcc1 := HF1.out.cell
  clear hb1 hcc HF
  go_wp2_with fail
  refine (works_any _).mono ?_
  rintro e w9 ⟨rfl, hb9⟩
  have HG9 : Hid (Grow w w9) := Lib.hid (HG1.out.trans hb9)
  clear hb9
  go_wp2
  go_ret
  exact ⟨rfl, HG9.out⟩

set_option maxRecDepth 100000 in
set_option maxHeartbeats 16000000 in
theorem coverMore_long (h : PoolH) (p : Pool) (A : Option Addr) (cap : Nat) (ws : List Int) (B : Option Addr) (cbp : Nat) (us : List Int) (w : World) (hA : PoolAt w w.heap.size h p.i) (hv : validI p.i = true) (hl : 20 < ws.length) :
    Calls Try.prog 7 #[poolN h p, .slice A ws.length cap, .slice B us.length cbp] w fun e w' => e = .returned (.bool true) ∧ Below w.heap.size w w' := by
  have HV := Lib.hid (fun (w0 : World) (hw : Grow w w0) => valid_any h p.i w0 (hA.grow hw))
  rw [hv, pool_i] at HV
  have ha1 : decide ((20 : Int) < (ws.length : Int)) = true := decide_eq_true (by omega)
  have ha2 : decide (20 < ws.length) = true := decide_eq_true (by omega)
  clear hA hv
  obtain ⟨fa, fc, na, nc⟩ := h
  go_enter Try.func7, Try.ntmps7
  go_upto_region 1 with fail
  obtain ⟨W, hW, hg, hf, hsz⟩ := one_block w 25 (cellsN ⟨fa, fc, na, nc⟩ p)
  rw [hW]
  clear hW
  have hcc := hf.cell
  have HG := Lib.hid hg
  have HF := Lib.hid hf
  clear hf hg
  go_wp2_with fail
  refine (HV.out W HG.out).mono ?_
  rintro e w1 ⟨rfl, hb1⟩
  have HG1 : Hid (Grow w w1) := Lib.hid (HG.out.trans hb1)
  have HF1 := Lib.hid ((show Grow W w1 from hb1).block HF.out)
  have hcc1 := HF1.out.cell
  clear hb1 hcc HF
  go_wp2_with fail
  refine (works_any _).mono ?_
  rintro e w9 ⟨rfl, hb9⟩
  have HG9 : Hid (Grow w w9) := Lib.hid (HG1.out.trans hb9)
  clear hb9
  go_wp2
  go_ret
  exact ⟨rfl, HG9.out⟩

set_option maxRecDepth 100000 in
set_option maxHeartbeats 16000000 in
theorem coverMore_long2 (h : PoolH) (p : Pool) (A : Option Addr) (cap : Nat) (ws : List Int) (B : Option Addr) (cbp : Nat) (us : List Int) (w : World) (hA : PoolAt w w.heap.size h p.i) (hv : validI p.i = true) (hl : ws.length ≤ 20) (hm : 20 < us.length) :
    Calls Try.prog 7 #[poolN h p, .slice A ws.length cap, .slice B us.length cbp] w fun e w' => e = .returned (.bool true) ∧ Below w.heap.size w w' := by
  have HV := Lib.hid (fun (w0 : World) (hw : Grow w w0) => valid_any h p.i w0 (hA.grow hw))
  rw [hv, pool_i] at HV
  have ha1 : decide ((20 : Int) < (ws.length : Int)) = false := decide_eq_false (by omega)
  have ha2 : decide (20 < ws.length) = false := decide_eq_false (by omega)
  have hb1 : decide ((20 : Int) < (us.length : Int)) = true := decide_eq_true (by omega)
  have hb2 : decide (20 < us.length) = true := decide_eq_true (by omega)
  clear hA hv
  obtain ⟨fa, fc, na, nc⟩ := h
  go_enter Try.func7, Try.ntmps7
  go_upto_region 1 with fail
  obtain ⟨W, hW, hg, hf, hsz⟩ := one_block w 25 (cellsN ⟨fa, fc, na, nc⟩ p)
  rw [hW]
  clear hW
  have hcc := hf.cell
  have HG := Lib.hid hg
  have HF := Lib.hid hf
  clear hf hg
  go_wp2_with fail
  refine (HV.out W HG.out).mono ?_
  rintro e w1 ⟨rfl, hb1⟩
  have HG1 : Hid (Grow w w1) := Lib.hid (HG.out.trans hb1)
  have HF1 := Lib.hid ((show Grow W w1 from hb1).block HF.out)
  have hcc1 := HF1.out.cell
  clear hb1 hcc HF
  go_wp2_with fail
  refine (works_any _).mono ?_
  rintro e w9 ⟨rfl, hb9⟩
  have HG9 : Hid (Grow w w9) := Lib.hid (HG1.out.trans hb9)
  clear hb9
  go_wp2
  go_ret
  exact ⟨rfl, HG9.out⟩

set_option maxRecDepth 100000 in
set_option maxHeartbeats 16000000 in
theorem coverMore_not (h : PoolH) (p : Pool) (G : Good p) (A : Option Addr) (cap : Nat) (ws : List Int) (B : Option Addr) (cbp : Nat) (us : List Int) (w : World) (hA : PoolAt w w.heap.size h p.i) (hv : validI p.i = true) (hI : Ints w w.heap.size A ws) (hl : ws.length ≤ 20) (hwf : Wf ws) (hm : us.length ≤ 20) (hq : okWatch p ws = false) :
    Calls Try.prog 7 #[poolN h p, .slice A ws.length cap, .slice B us.length cbp] w fun e w' => e = .returned (.bool true) ∧ Below w.heap.size w w' := by
  have HV := Lib.hid (fun (w0 : World) (hw : Grow w w0) => valid_any h p.i w0 (hA.grow hw))
  rw [hv, pool_i] at HV
  have ha1 : decide ((20 : Int) < (ws.length : Int)) = false := decide_eq_false (by omega)
  have ha2 : decide (20 < ws.length) = false := decide_eq_false (by omega)
  have hb1 : decide ((20 : Int) < (us.length : Int)) = false := decide_eq_false (by omega)
  have hb2 : decide (20 < us.length) = false := decide_eq_false (by omega)
  have HIW := Lib.hid (fun (w0 : World) (hw : Grow w w0) => rIsWatch_any h p G A cap ws w0 (hA.grow hw) ((hI.below hw).more hw.size) (by omega) hwf)
  rw [hq] at HIW
  clear hA hv hI hwf hq
  obtain ⟨fa, fc, na, nc⟩ := h
  go_enter Try.func7, Try.ntmps7
  go_upto_region 1 with fail
  obtain ⟨W, hW, hg, hf, hsz⟩ := one_block w 25 (cellsN ⟨fa, fc, na, nc⟩ p)
  rw [hW]
  clear hW
  have hcc := hf.cell
  have HG := Lib.hid hg
  have HF := Lib.hid hf
  clear hf hg
  go_wp2_with fail
  refine (HV.out W HG.out).mono ?_
  rintro e w1 ⟨rfl, hb1⟩
  have HG1 : Hid (Grow w w1) := Lib.hid (HG.out.trans hb1)
  have HF1 := Lib.hid ((show Grow W w1 from hb1).block HF.out)
  have hcc1 := HF1.out.cell
  clear hb1 hcc HF
  go_wp2_with fail
  refine (HIW.out w1 HG1.out).mono ?_
  rintro e w2 ⟨rfl, hb2⟩
  have HG2 : Hid (Grow w w2) := Lib.hid (HG1.out.trans hb2)
  have HF2 := Lib.hid ((show Grow w1 w2 from hb2).block HF1.out)
  have hcc2 := HF2.out.cell
  clear hb2 hcc1 HF1
  go_wp2_with fail
  refine (works_any _).mono ?_
  rintro e w9 ⟨rfl, hb9⟩
  have HG9 : Hid (Grow w w9) := Lib.hid (HG2.out.trans hb9)
  clear hb9
  go_wp2
  go_ret
  exact ⟨rfl, HG9.out⟩

set_option maxRecDepth 100000 in
set_option maxHeartbeats 16000000 in
theorem coverMore_not2 (h : PoolH) (p : Pool) (G : Good p) (A : Option Addr) (cap : Nat) (ws : List Int) (B : Option Addr) (cbp : Nat) (us : List Int) (w : World) (hA : PoolAt w w.heap.size h p.i) (hv : validI p.i = true) (hI : Ints w w.heap.size A ws) (hl : ws.length ≤ 20) (hwf : Wf ws) (hJ : Ints w w.heap.size B us) (hm : us.length ≤ 20) (hwu : Wf us) (hq : okWatch p ws = true) (hr : okWatch p us = false) :
    Calls Try.prog 7 #[poolN h p, .slice A ws.length cap, .slice B us.length cbp] w fun e w' => e = .returned (.bool true) ∧ Below w.heap.size w w' := by
  have HV := Lib.hid (fun (w0 : World) (hw : Grow w w0) => valid_any h p.i w0 (hA.grow hw))
  rw [hv, pool_i] at HV
  have ha1 : decide ((20 : Int) < (ws.length : Int)) = false := decide_eq_false (by omega)
  have ha2 : decide (20 < ws.length) = false := decide_eq_false (by omega)
  have hb1 : decide ((20 : Int) < (us.length : Int)) = false := decide_eq_false (by omega)
  have hb2 : decide (20 < us.length) = false := decide_eq_false (by omega)
  have HIW := Lib.hid (fun (w0 : World) (hw : Grow w w0) => rIsWatch_any h p G A cap ws w0 (hA.grow hw) ((hI.below hw).more hw.size) (by omega) hwf)
  rw [hq] at HIW
  have HIW2 := Lib.hid (fun (w0 : World) (hw : Grow w w0) => rIsWatch_any h p G B cbp us w0 (hA.grow hw) ((hJ.below hw).more hw.size) (by omega) hwu)
  rw [hr] at HIW2
  clear hA hv hI hwf hq hJ hwu hr
  obtain ⟨fa, fc, na, nc⟩ := h
  go_enter Try.func7, Try.ntmps7
  go_upto_region 1 with fail
  obtain ⟨W, hW, hg, hf, hsz⟩ := one_block w 25 (cellsN ⟨fa, fc, na, nc⟩ p)
  rw [hW]
  clear hW
  have hcc := hf.cell
  have HG := Lib.hid hg
  have HF := Lib.hid hf
  clear hf hg
  go_wp2_with fail
  refine (HV.out W HG.out).mono ?_
  rintro e w1 ⟨rfl, hb1⟩
  have HG1 : Hid (Grow w w1) := Lib.hid (HG.out.trans hb1)
  have HF1 := Lib.hid ((show Grow W w1 from hb1).block HF.out)
  have hcc1 := HF1.out.cell
  clear hb1 hcc HF
  go_wp2_with fail
  refine (HIW.out w1 HG1.out).mono ?_
  rintro e w2 ⟨rfl, hb2⟩
  have HG2 : Hid (Grow w w2) := Lib.hid (HG1.out.trans hb2)
  have HF2 := Lib.hid ((show Grow w1 w2 from hb2).block HF1.out)
  have hcc2 := HF2.out.cell
  clear hb2 hcc1 HF1
  go_wp2_with fail
  refine (HIW2.out w2 HG2.out).mono ?_
  rintro e w3 ⟨rfl, hb3⟩
  have HG3 : Hid (Grow w w3) := Lib.hid (HG2.out.trans hb3)
  have HF3 := Lib.hid ((show Grow w2 w3 from hb3).block HF2.out)
  clear hb3 hcc2 HF2
  go_wp2_with fail
  refine (works_any _).mono ?_
  rintro e w9 ⟨rfl, hb9⟩
  have HG9 : Hid (Grow w w9) := Lib.hid (HG3.out.trans hb9)
  clear hb9
  go_wp2
  go_ret
  exact ⟨rfl, HG9.out⟩

set_option maxRecDepth 100000 in
set_option maxHeartbeats 16000000 in
theorem coverMore_good (h : PoolH) (p : Pool) (G : Good p) (A : Option Addr) (cap : Nat) (gs : List Nat) (B : Option Addr) (cbp : Nat) (hs : List Nat) (w : World) (hA : PoolAt w w.heap.size h p.i) (hv : validI p.i = true) (hI : Ints w w.heap.size A (natsL gs)) (hJ : Ints w w.heap.size B (natsL hs)) (hwt : Watch p gs) (hwh : Watch p hs) :
    Calls Try.prog 7 #[poolN h p, .slice A gs.length cap, .slice B hs.length cbp] w fun e w' => e = .returned (.bool true) ∧ Below w.heap.size w w' := by
  have HV := Lib.hid (fun (w0 : World) (hw : Grow w w0) => valid_any h p.i w0 (hA.grow hw))
  rw [hv, pool_i] at HV
  obtain ⟨i0, hi, hz0, hz1, hz2⟩ := info_parts Try.infoInt
  have hok : okPool p.i = true := by unfold validI at hv; rw [Bool.and_eq_true] at hv; exact hv.2
  have hsh : Short p.i := by unfold validI at hv; rw [Bool.and_eq_true, Bool.not_eq_true'] at hv; exact far_short hv.1
  have hln := hwt.len
  have hln2 := hwh.len
  have hn3 := G.n3
  have hf5 := G.f5
  have hl3 : gs.length ≤ 3 := by omega
  have hl0 : 0 < gs.length := by have := G.n1; omega
  have HLE : Hid (gs.length = hs.length) := Lib.hid (by omega)
  have ha1 : decide ((20 : Int) < (gs.length : Int)) = false := decide_eq_false (by omega)
  have ha2 : decide (20 < gs.length) = false := decide_eq_false (by omega)
  have hb1 : decide ((20 : Int) < (hs.length : Int)) = false := decide_eq_false (by omega)
  have hb2 : decide (20 < hs.length) = false := decide_eq_false (by omega)
  have HIW := Lib.hid (fun (w0 : World) (hw : Grow w w0) => rIsWatch_any h p G A cap (natsL gs) w0 (hA.grow hw) ((hI.below hw).more hw.size) (by simp only [natsL_length]; omega) (watch_wf G hwt))
  have HIW2 := Lib.hid (fun (w0 : World) (hw : Grow w w0) => rIsWatch_any h p G B cbp (natsL hs) w0 (hA.grow hw) ((hJ.below hw).more hw.size) (by simp only [natsL_length]; omega) (watch_wf G hwh))
  rw [ok_of_watch G hwt] at HIW
  rw [ok_of_watch G hwh] at HIW2
  simp only [natsL_length] at HIW HIW2
  have HSF := Lib.hid (fun (w0 : World) (hw : Grow w w0) => safeApi_any h p G hok hsh A cap gs w0 (hA.grow hw) ((hI.below hw).more hw.size) hwt)
  have HSF2 := Lib.hid (fun (w0 : World) (hw : Grow w w0) => safeApi_any h p G hok hsh B cbp hs w0 (hA.grow hw) ((hJ.below hw).more hw.size) hwh)
  have HMI := Lib.hid (fun (w0 : World) (hw : Grow w w0) => missedApi_any h p G hok hsh A cap gs w0 (hA.grow hw) ((hI.below hw).more hw.size) hwt)
  have HSL := Lib.hid (fun (L : Option Addr) (lc s g x : Nat) (hg : gs[s]? = some g) (hx : subN x g = true) (w0 : World) (hw : Grow w w0) (hi0 : Ints w0 w0.heap.size L (natsL (gs.set s x))) => safeApi_any h p G hok hsh L lc (gs.set s x) w0 (hA.grow hw) hi0 (watch_less hwt hg hx))
  simp only [List.length_set] at HSL
  have HIN := Lib.hid (fun (w0 : World) (hw : Grow w w0) => (hI.below hw).more hw.size)
  have HJN := Lib.hid (fun (w0 : World) (hw : Grow w w0) => (hJ.below hw).more hw.size)
  have HG32 := Lib.hid (fun (s g : Nat) (hg : gs[s]? = some g) => hwt.g32 G hg)
  have HH32 := Lib.hid (fun (s g : Nat) (hg : hs[s]? = some g) => hwh.g32 G hg)
  have HMO := Lib.hid (fun (hsub : ∀ (s g h : Nat), gs[s]? = some g → hs[s]? = some h → subN g h = true) (hq : safeD p gs = true) => safe_more G hwt hwh hsub hq)
  have HMS := Lib.hid (fun (s g i : Nat) (hq : safeD p gs = true) (hg : gs[s]? = some g) (hi : i < p.folk.length) => miss_step G hwt hq hg hi)
  have HSE := Lib.hid (fun (s x : Nat) (hq : safeD p gs = true) (hlt : s < gs.length) => safe_less (x := x) hq hlt)
  clear hA hv hI hJ hwt hwh hok hsh hln hln2 hn3
  obtain ⟨fa, fc, na, nc⟩ := h
  go_enter Try.func7, Try.ntmps7
  go_upto_region 1 with fail
  obtain ⟨W, hW, hg, hf, hsz⟩ := one_block w 25 (cellsN ⟨fa, fc, na, nc⟩ p)
  rw [hW]
  clear hW
  have hcc := hf.cell
  have HG := Lib.hid hg
  have HF := Lib.hid hf
  clear hf hg
  go_wp2_with fail
  refine (HV.out W HG.out).mono ?_
  rintro e w1 ⟨rfl, hb1⟩
  have HG1 : Hid (Grow w w1) := Lib.hid (HG.out.trans hb1)
  have HF1 := Lib.hid ((show Grow W w1 from hb1).block HF.out)
  have hcc1 := HF1.out.cell
  clear hb1 hcc HF
  go_wp2_with fail
  refine (HIW.out w1 HG1.out).mono ?_
  rintro e w2 ⟨rfl, hb2⟩
  have HG2 : Hid (Grow w w2) := Lib.hid (HG1.out.trans hb2)
  have HF2 := Lib.hid ((show Grow w1 w2 from hb2).block HF1.out)
  have hcc2 := HF2.out.cell
  clear hb2 hcc1 HF1
  go_wp2_with fail
  refine (HIW2.out w2 HG2.out).mono ?_
  rintro e w3 ⟨rfl, hb3⟩
  have HG3 : Hid (Grow w w3) := Lib.hid (HG2.out.trans hb3)
  have HF3 := Lib.hid ((show Grow w2 w3 from hb3).block HF2.out)
  clear hb3 hcc2 HF2
  go_wp2_with fail
  go_loopw [7] (fun sv wr => ∃ s : Nat, s ≤ gs.length ∧ sv = .int .i64 (s : Nat) ∧ Hid (∀ (t g h : Nat), t < s → gs[t]? = some g → hs[t]? = some h → subN g h = true) ∧ Hid (Grow w3 wr)) (fun sv _ => gs.length - (intOf sv).toNat)
  case atStart => exact ⟨0, Nat.zero_le _, rfl, Lib.hid (fun t g h ht => by omega), Lib.hid (Grow.refl _)⟩
  case round => as_aux_lemma =>
    obtain ⟨s, hsl, rfl, HSB, HGR⟩ := hrel
    rename World => wr
    by_cases hlt : s < gs.length
    · have hd : decide ((s : Int) < (gs.length : Int)) = true := decide_eq_true (by omega)
      have hs0 : (0 : Int) ≤ (s : Int) := by omega
      have hs1 : (s : Int) < (gs.length : Int) := by omega
      have hs2 : (s : Int) < (hs.length : Int) := by rw [← HLE.out]; omega
      obtain ⟨ab, ao, g, rfl, hab, hac, HX⟩ := ints_nat (HIN.out w3 HG3.out) hlt
      obtain ⟨bb, bo, x, rfl, hbb, hbc, HY⟩ := ints_nat (HJN.out w3 HG3.out) (k := s) (by rw [← HLE.out]; exact hlt)
      have HAC := Lib.hid hac
      have HBC := Lib.hid hbc
      have hg32 := HG32.out s g HX.out
      have hx32 := HH32.out s x HY.out
      have hand := andNot_nat g x (by omega) (by omega)
      clear hac hbc
      cases hsub : subN g x with
      | true =>
        have hz : diffN g x = 0 := by unfold subN at hsub; exact of_decide_eq_true hsub
        rw [hz] at hand
        have HSN : Hid (∀ (t a b : Nat), t < s + 1 → gs[t]? = some a → hs[t]? = some b → subN a b = true) := Lib.hid (fun t a b ht h1 h2 => by
          by_cases e : t = s
          · subst e
            obtain rfl := Option.some.inj (HX.out.symm.trans h1)
            obtain rfl := Option.some.inj (HY.out.symm.trans h2)
            exact hsub
          · exact HSB.out t a b (by omega) h1 h2)
        clear hz hsub
        go_upto_region 6 with fail
        clear hd
        refine wp_region_lit 10 [[], [], [(0, 52), (1, 53)], [(2, 54)], [], [], [(4, 56), (5, 57)], [(6, 58)], [(3, 55), (7, 59)], [(8, 60)]] Grow (fun qi v w' => match qi with
            | 0 => v = .slice (some ⟨ab, ao, none⟩) gs.length cap
            | 1 => v = .int .i64 (s : Nat)
            | 2 => v = .pointer (some ⟨ab, ao + s, none⟩)
            | 3 => v = .int .i64 (g : Nat)
            | 4 => v = .slice (some ⟨bb, bo, none⟩) hs.length cbp
            | 5 => v = .int .i64 (s : Nat)
            | 6 => v = .pointer (some ⟨bb, bo + s, none⟩)
            | 7 => v = .int .i64 (x : Nat)
            | 8 => v = .int .i64 0
            | 9 => v = .bool false
            | _ => False) (by kernel_rfl) (by kernel_rfl) (fun _ _ _ => Grow.trans) Grow.refl ?_ ?_ ?_
        · intro i v y y' h k
          match i, h with
          | 0, h | 1, h | 2, h | 3, h | 4, h | 5, h | 6, h | 7, h | 8, h | 9, h => exact h
        · simp only [StepsLit, List.take_succ_cons, List.take_zero]
          refine ⟨?_, ?_, ?_, ?_, ?_, ?_, ?_, ?_, ?_, ?_, trivial⟩
          · intro w5 hR
            have hGw : Grow wr w5 := hR.of_drew
            have HGW := Lib.hid hGw
            have hac5 := (HGR.out.trans HGW.out).cell HAC.out
            have hbc5 := (HGR.out.trans HGW.out).cell HBC.out
            clear hR hGw
            simp only [depV]
            try go_simp
            all_goals first
              | (with_reducible exact Grow.refl _)
              | (with_reducible exact ⟨Grow.refl _, rfl⟩)
          · intro w5 hR
            have hGw : Grow wr w5 := hR.of_drew
            have HGW := Lib.hid hGw
            have hac5 := (HGR.out.trans HGW.out).cell HAC.out
            have hbc5 := (HGR.out.trans HGW.out).cell HBC.out
            clear hR hGw
            simp only [depV]
            try go_simp
            all_goals first
              | (with_reducible exact Grow.refl _)
              | (with_reducible exact ⟨Grow.refl _, rfl⟩)
          · intro w5 hR
            have hGw : Grow wr w5 := hR.of_drew
            have HGW := Lib.hid hGw
            have hac5 := (HGR.out.trans HGW.out).cell HAC.out
            have hbc5 := (HGR.out.trans HGW.out).cell HBC.out
            clear hR hGw
            simp only [depV]
            rintro _ rfl
            rintro _ rfl
            try go_simp
            all_goals first
              | (with_reducible exact Grow.refl _)
              | (with_reducible exact ⟨Grow.refl _, rfl⟩)
          · intro w5 hR
            have hGw : Grow wr w5 := hR.of_drew
            have HGW := Lib.hid hGw
            have hac5 := (HGR.out.trans HGW.out).cell HAC.out
            have hbc5 := (HGR.out.trans HGW.out).cell HBC.out
            clear hR hGw
            simp only [depV]
            rintro _ rfl
            try go_simp
            all_goals first
              | (with_reducible exact Grow.refl _)
              | (with_reducible exact ⟨Grow.refl _, rfl⟩)
          · intro w5 hR
            have hGw : Grow wr w5 := hR.of_drew
            have HGW := Lib.hid hGw
            have hac5 := (HGR.out.trans HGW.out).cell HAC.out
            have hbc5 := (HGR.out.trans HGW.out).cell HBC.out
            clear hR hGw
            simp only [depV]
            try go_simp
            all_goals first
              | (with_reducible exact Grow.refl _)
              | (with_reducible exact ⟨Grow.refl _, rfl⟩)
          · intro w5 hR
            have hGw : Grow wr w5 := hR.of_drew
            have HGW := Lib.hid hGw
            have hac5 := (HGR.out.trans HGW.out).cell HAC.out
            have hbc5 := (HGR.out.trans HGW.out).cell HBC.out
            clear hR hGw
            simp only [depV]
            try go_simp
            all_goals first
              | (with_reducible exact Grow.refl _)
              | (with_reducible exact ⟨Grow.refl _, rfl⟩)
          · intro w5 hR
            have hGw : Grow wr w5 := hR.of_drew
            have HGW := Lib.hid hGw
            have hac5 := (HGR.out.trans HGW.out).cell HAC.out
            have hbc5 := (HGR.out.trans HGW.out).cell HBC.out
            clear hR hGw
            simp only [depV]
            rintro _ rfl
            rintro _ rfl
            try go_simp
            all_goals first
              | (with_reducible exact Grow.refl _)
              | (with_reducible exact ⟨Grow.refl _, rfl⟩)
          · intro w5 hR
            have hGw : Grow wr w5 := hR.of_drew
            have HGW := Lib.hid hGw
            have hac5 := (HGR.out.trans HGW.out).cell HAC.out
            have hbc5 := (HGR.out.trans HGW.out).cell HBC.out
            clear hR hGw
            simp only [depV]
            rintro _ rfl
            try go_simp
            all_goals first
              | (with_reducible exact Grow.refl _)
              | (with_reducible exact ⟨Grow.refl _, rfl⟩)
          · intro w5 hR
            have hGw : Grow wr w5 := hR.of_drew
            have HGW := Lib.hid hGw
            have hac5 := (HGR.out.trans HGW.out).cell HAC.out
            have hbc5 := (HGR.out.trans HGW.out).cell HBC.out
            clear hR hGw
            simp only [depV]
            rintro _ rfl
            rintro _ rfl
            try go_simp
            all_goals first
              | (with_reducible exact Grow.refl _)
              | (with_reducible exact ⟨Grow.refl _, rfl⟩)
          · intro w5 hR
            have hGw : Grow wr w5 := hR.of_drew
            have HGW := Lib.hid hGw
            have hac5 := (HGR.out.trans HGW.out).cell HAC.out
            have hbc5 := (HGR.out.trans HGW.out).cell HBC.out
            clear hR hGw
            simp only [depV]
            rintro _ rfl
            try go_simp
            all_goals first
              | (with_reducible exact Grow.refl _)
              | (with_reducible exact ⟨Grow.refl _, rfl⟩)
        · intro w5 hR
          have HG5 : Hid (Grow wr w5) := Lib.hid hR.of_drew
          clear hR
          simp only [finVC, List.take_succ_cons, List.take_zero, List.drop_succ_cons, List.drop_zero]
          rintro _ rfl
          rintro _ rfl
          rintro _ rfl
          rintro _ rfl
          rintro _ rfl
          rintro _ rfl
          rintro _ rfl
          rintro _ rfl
          rintro _ rfl
          rintro _ rfl
          simp only [Act.put, List.setIfInBounds_toArray, List.set_cons_succ, List.set_cons_zero]
          go_wp2_with fail
          go_roundw
          case rel => exact ⟨s + 1, by omega, by go_num, HSN, Lib.hid (HGR.out.trans HG5.out)⟩
          case measure => simp [intOf]; omega
      | false =>
        have hz : ((diffN g x : Nat) : Int) ≠ 0 := by unfold subN at hsub; have := of_decide_eq_false hsub; omega
        obtain ⟨z, hzd⟩ : ∃ z : Int, ((diffN g x : Nat) : Int) = z := ⟨_, rfl⟩
        rw [hzd] at hand hz
        have hz1 : (z != 0) = true := by simpa using hz
        have hz2 : (z == 0) = false := by simpa using hz
        have hz3 : decide (z = 0) = false := decide_eq_false hz
        clear hzd hsub
        go_upto_region 6 with fail
        clear hd
        refine wp_region_lit 10 [[], [], [(0, 52), (1, 53)], [(2, 54)], [], [], [(4, 56), (5, 57)], [(6, 58)], [(3, 55), (7, 59)], [(8, 60)]] Grow (fun qi v w' => match qi with
            | 0 => v = .slice (some ⟨ab, ao, none⟩) gs.length cap
            | 1 => v = .int .i64 (s : Nat)
            | 2 => v = .pointer (some ⟨ab, ao + s, none⟩)
            | 3 => v = .int .i64 (g : Nat)
            | 4 => v = .slice (some ⟨bb, bo, none⟩) hs.length cbp
            | 5 => v = .int .i64 (s : Nat)
            | 6 => v = .pointer (some ⟨bb, bo + s, none⟩)
            | 7 => v = .int .i64 (x : Nat)
            | 8 => v = .int .i64 z
            | 9 => v = .bool true
            | _ => False) (by kernel_rfl) (by kernel_rfl) (fun _ _ _ => Grow.trans) Grow.refl ?_ ?_ ?_
        · intro i v y y' h k
          match i, h with
          | 0, h | 1, h | 2, h | 3, h | 4, h | 5, h | 6, h | 7, h | 8, h | 9, h => exact h
        · simp only [StepsLit, List.take_succ_cons, List.take_zero]
          refine ⟨?_, ?_, ?_, ?_, ?_, ?_, ?_, ?_, ?_, ?_, trivial⟩
          · intro w5 hR
            have hGw : Grow wr w5 := hR.of_drew
            have HGW := Lib.hid hGw
            have hac5 := (HGR.out.trans HGW.out).cell HAC.out
            have hbc5 := (HGR.out.trans HGW.out).cell HBC.out
            clear hR hGw
            simp only [depV]
            try go_simp
            all_goals first
              | (with_reducible exact Grow.refl _)
              | (with_reducible exact ⟨Grow.refl _, rfl⟩)
          · intro w5 hR
            have hGw : Grow wr w5 := hR.of_drew
            have HGW := Lib.hid hGw
            have hac5 := (HGR.out.trans HGW.out).cell HAC.out
            have hbc5 := (HGR.out.trans HGW.out).cell HBC.out
            clear hR hGw
            simp only [depV]
            try go_simp
            all_goals first
              | (with_reducible exact Grow.refl _)
              | (with_reducible exact ⟨Grow.refl _, rfl⟩)
          · intro w5 hR
            have hGw : Grow wr w5 := hR.of_drew
            have HGW := Lib.hid hGw
            have hac5 := (HGR.out.trans HGW.out).cell HAC.out
            have hbc5 := (HGR.out.trans HGW.out).cell HBC.out
            clear hR hGw
            simp only [depV]
            rintro _ rfl
            rintro _ rfl
            try go_simp
            all_goals first
              | (with_reducible exact Grow.refl _)
              | (with_reducible exact ⟨Grow.refl _, rfl⟩)
          · intro w5 hR
            have hGw : Grow wr w5 := hR.of_drew
            have HGW := Lib.hid hGw
            have hac5 := (HGR.out.trans HGW.out).cell HAC.out
            have hbc5 := (HGR.out.trans HGW.out).cell HBC.out
            clear hR hGw
            simp only [depV]
            rintro _ rfl
            try go_simp
            all_goals first
              | (with_reducible exact Grow.refl _)
              | (with_reducible exact ⟨Grow.refl _, rfl⟩)
          · intro w5 hR
            have hGw : Grow wr w5 := hR.of_drew
            have HGW := Lib.hid hGw
            have hac5 := (HGR.out.trans HGW.out).cell HAC.out
            have hbc5 := (HGR.out.trans HGW.out).cell HBC.out
            clear hR hGw
            simp only [depV]
            try go_simp
            all_goals first
              | (with_reducible exact Grow.refl _)
              | (with_reducible exact ⟨Grow.refl _, rfl⟩)
          · intro w5 hR
            have hGw : Grow wr w5 := hR.of_drew
            have HGW := Lib.hid hGw
            have hac5 := (HGR.out.trans HGW.out).cell HAC.out
            have hbc5 := (HGR.out.trans HGW.out).cell HBC.out
            clear hR hGw
            simp only [depV]
            try go_simp
            all_goals first
              | (with_reducible exact Grow.refl _)
              | (with_reducible exact ⟨Grow.refl _, rfl⟩)
          · intro w5 hR
            have hGw : Grow wr w5 := hR.of_drew
            have HGW := Lib.hid hGw
            have hac5 := (HGR.out.trans HGW.out).cell HAC.out
            have hbc5 := (HGR.out.trans HGW.out).cell HBC.out
            clear hR hGw
            simp only [depV]
            rintro _ rfl
            rintro _ rfl
            try go_simp
            all_goals first
              | (with_reducible exact Grow.refl _)
              | (with_reducible exact ⟨Grow.refl _, rfl⟩)
          · intro w5 hR
            have hGw : Grow wr w5 := hR.of_drew
            have HGW := Lib.hid hGw
            have hac5 := (HGR.out.trans HGW.out).cell HAC.out
            have hbc5 := (HGR.out.trans HGW.out).cell HBC.out
            clear hR hGw
            simp only [depV]
            rintro _ rfl
            try go_simp
            all_goals first
              | (with_reducible exact Grow.refl _)
              | (with_reducible exact ⟨Grow.refl _, rfl⟩)
          · intro w5 hR
            have hGw : Grow wr w5 := hR.of_drew
            have HGW := Lib.hid hGw
            have hac5 := (HGR.out.trans HGW.out).cell HAC.out
            have hbc5 := (HGR.out.trans HGW.out).cell HBC.out
            clear hR hGw
            simp only [depV]
            rintro _ rfl
            rintro _ rfl
            try go_simp
            all_goals first
              | (with_reducible exact Grow.refl _)
              | (with_reducible exact ⟨Grow.refl _, rfl⟩)
          · intro w5 hR
            have hGw : Grow wr w5 := hR.of_drew
            have HGW := Lib.hid hGw
            have hac5 := (HGR.out.trans HGW.out).cell HAC.out
            have hbc5 := (HGR.out.trans HGW.out).cell HBC.out
            clear hR hGw
            simp only [depV]
            rintro _ rfl
            try go_simp
            all_goals first
              | (with_reducible exact Grow.refl _)
              | (with_reducible exact ⟨Grow.refl _, rfl⟩)
        · intro w5 hR
          have HG5 : Hid (Grow wr w5) := Lib.hid hR.of_drew
          clear hR
          simp only [finVC, List.take_succ_cons, List.take_zero, List.drop_succ_cons, List.drop_zero]
          rintro _ rfl
          rintro _ rfl
          rintro _ rfl
          rintro _ rfl
          rintro _ rfl
          rintro _ rfl
          rintro _ rfl
          rintro _ rfl
          rintro _ rfl
          rintro _ rfl
          simp only [Act.put, List.setIfInBounds_toArray, List.set_cons_succ, List.set_cons_zero]
          go_wp2_with fail
          refine (works_any _).mono ?_
          rintro e w9 ⟨rfl, hb9⟩
          have HG9 : Hid (Grow w w9) := Lib.hid (((HG3.out.trans HGR.out).trans HG5.out).trans hb9)
          clear hb9
          go_wp2
          go_ret
          exact ⟨rfl, HG9.out⟩

    · obtain rfl : s = gs.length := by omega
      have hd : decide ((gs.length : Int) < (gs.length : Int)) = false := decide_eq_false (by omega)
      have HSUB : Hid (safeD p gs = true → safeD p hs = true) := Lib.hid (fun hq => HMO.out (fun t a b h1 h2 => HSB.out t a b (List.getElem?_eq_some_iff.1 h1).1 h1 h2) hq)
      have HPB := Lib.hid (HGR.out.block HF3.out)
      have HGW := Lib.hid (HG3.out.trans HGR.out)
      have hcc := HPB.out.cell
      clear HGR HSB HMO
      go_wp2_with fail
      refine (HSF.out wr HGW.out).mono ?_
      rintro e w4 ⟨rfl, hb4⟩
      have HG4 := Lib.hid (HGW.out.trans (show Grow wr w4 from hb4))
      have HP4 := Lib.hid ((show Grow wr w4 from hb4).block HPB.out)
      have hcc4 := HP4.out.cell
      clear hb4 hcc
      go_wp2_with fail
      refine (HSF2.out w4 HG4.out).mono ?_
      rintro e w5 ⟨rfl, hb5⟩
      have HG5 := Lib.hid (HG4.out.trans (show Grow w4 w5 from hb5))
      have HP5 := Lib.hid ((show Grow w4 w5 from hb5).block HP4.out)
      have hcc5 := HP5.out.cell
      clear hb5 hcc4
      go_wp2_with fail
      refine (HMI.out w5 HG5.out).mono ?_
      rintro e w6 ⟨⟨mb, rfl, hmb, hmc⟩, hb6⟩
      have HG6 := Lib.hid (HG5.out.trans (show Grow w5 w6 from hb6))
      have HP6 := Lib.hid ((show Grow w5 w6 from hb6).block HP5.out)
      have HM6 := Lib.hid hmc
      have hcc6 := HP6.out.cell
      clear hb6 hcc5 hmc
      obtain ⟨is, his⟩ : ∃ z, safeD p gs = z := ⟨_, rfl⟩
      obtain ⟨so, hso⟩ : ∃ z, safeD p hs = z := ⟨_, rfl⟩
      have hio : is = true → so = true := fun hq => by rw [← hso]; exact HSUB.out (by rw [his]; exact hq)
      have HMS2 : Hid (∀ (s g i : Nat), is = true → gs[s]? = some g → i < p.folk.length → missTo p gs (s + 1) i = missTo p gs s i + if hasN g i && !coveredD p s (diffN g (2 ^ i)) then 1 else 0) := Lib.hid (fun s g i hq hg hi => HMS.out s g i (by rw [his]; exact hq) hg hi)
      have HSE2 : Hid (∀ (s x : Nat), is = true → s < gs.length → safeD p (gs.set s x) = coveredD p s x) := Lib.hid (fun s x hq hl => HSE.out s x (by rw [his]; exact hq) hl)
      rw [his, hso]
      clear HMS HSE HSUB hso
      have hbad : (is && !so) = false := by cases is <;> cases so <;> simp_all
      clear his hbad
      cases is with
      | true =>
        obtain rfl : so = true := hio rfl
        clear hio
        go_upto_region 13 with fail
        clear hcc6
        go_wp2_with fail
        go_loopw [14] (fun iv wo => ∃ i : Nat, i ≤ p.folk.length ∧ iv = .int .i64 (i : Nat) ∧ Hid (Grow w6 wo)) (fun iv _ => p.folk.length - (intOf iv).toNat)
        case atStart => exact ⟨0, Nat.zero_le _, rfl, Lib.hid (Grow.refl _)⟩
        case round => as_aux_lemma =>
          obtain ⟨i, hil, rfl, HGO⟩ := hrel
          rename World => wo
          by_cases hlt : i < p.folk.length
          · have hdi : decide ((i : Int) < (p.folk.length : Int)) = true := decide_eq_true (by omega)
            go_wp2_with fail
            go_loopw [15, 16] (fun nv sv wi => ∃ (s n : Nat), s ≤ gs.length ∧ nv = .int .i64 (n : Nat) ∧ sv = .int .i64 (s : Nat) ∧ Hid (n = cntF p gs true s i) ∧ Hid (Grow w6 wi)) (fun _ sv _ => gs.length - (intOf sv).toNat)
            case atStart => exact ⟨0, 0, Nat.zero_le _, rfl, rfl, Lib.hid (by unfold cntF; split <;> rfl), HGO⟩
            case round => as_aux_lemma =>
              obtain ⟨s, n, hsl, rfl, rfl, HN, HGI⟩ := hrel
              rename World => wi
              have hn3 : n ≤ 3 := by rw [HN.out]; exact Nat.le_trans (cntF_le p gs _ s i) (by omega)
              by_cases hlt2 : s < gs.length
              · have hd : decide ((s : Int) < (gs.length : Int)) = true := decide_eq_true (by omega)
                have hs0 : (0 : Int) ≤ (s : Int) := by omega
                have hs1 : (s : Int) < (gs.length : Int) := by omega
                obtain ⟨ab, ao, g, rfl, hab, hac, HX⟩ := ints_nat (HIN.out wi (HG6.out.trans HGI.out)) hlt2
                have hg32 := HG32.out s g HX.out
                have HIA : Hid (Ints (wi.alloc (.cells #[] 3)) wi.heap.size (some ⟨ab, ao, none⟩) (natsL gs)) := Lib.hid ((HIN.out wi (HG6.out.trans HGI.out)).below (Grow.alloc _ _))
                have HO0 : Hid ((wi.alloc (.cells #[] 3)).ownsRow wi.heap.size 3 1 (.slice (some ⟨wi.heap.size, 0, none⟩) 0 0) 0 []) := Lib.hid ⟨rfl, .inr ⟨wi.heap.size, 0, #[], rfl, Nat.le_refl _, heap_alloc_new wi _, Nat.le_refl _, by unfold maxLen; omega, rfl, rfl⟩⟩
                clear hac
                go_wp2_with (at_builtin; go_loud (refine wpList_append_own _ rfl _ _ 26 rfl wi.heap.size 3 i0 (.int .i64 0) 1 8 Try.underlying26 hi hz0 hz1 hz2 rfl (by omega) _ 0 [] rfl ?d0 ⟨ab, ao, none⟩ gs.length cap ((natsL gs).map (Value.int .i64)) rfl ?dl ?d1 ?d2 ?d3 ?d4 ?d5 ?_))
                case d0 => exact HO0.out
                case dl => rw [List.length_map, natsL_length, Nat.mul_one]
                case d1 => exact ints_news HIA.out
                case d2 => intro v hv; obtain ⟨x, _, rfl⟩ := List.mem_map.1 hv; rfl
                case d3 => unfold maxLen; omega
                case d4 => omega
                case d5 => simp
                intro v' wq hown hgr _
                obtain ⟨L, lc, rfl⟩ := own_form hown
                have HOQ : Hid (wq.ownsRow wi.heap.size 3 1 (.slice L gs.length lc) gs.length ((natsL gs).map (Value.int .i64))) := Lib.hid (by simpa using hown)
                have HGQ : Hid (Grow w6 wq) := Lib.hid (below_grown (HGI.out.trans (Grow.alloc _ _)) (own_mono HO0.out (by have := HGI.out.size; omega)) hgr (by have := HGI.out.size; simp; omega))
                clear hown hgr HO0 HIA
                obtain ⟨lb, cur, rfl, hlb, hB, hcur⟩ := own_block HOQ.out hl0
                have HB := Lib.hid hB
                have HCU := Lib.hid hcur
                have hlb6 : w6.heap.size ≤ lb := by have := HGI.out.size; omega
                have hcell : wq.cell? ⟨lb, s, none⟩ = some (.int .i64 (g : Nat)) := by rw [hB.cell]; exact hcur s _ (natsL_at HX.out)
                have hcell2 : wq.cell? ⟨lb, 0 + s, none⟩ = some (.int .i64 (g : Nat)) := by rw [Nat.zero_add]; exact hcell
                have hfz := hB.frozen s
                have hi0 : (0 : Int) ≤ (i : Int) := by omega
                have hi64 : i ≤ 64 := by omega
                have hcv : IntKind.u64.wrap (i : Int) = (i : Int) := IntWalk.u64_in _ (by omega)
                have hsh := shr_and (e := i) (show g < 1048576 by omega)
                rw [has_bit g hg32 i (by omega)] at hsh
                have HMS3 := Lib.hid (fun (hq : true = true) => HMS2.out s g i (by first | exact hq | trivial | cases hq) HX.out hlt)
                have HSE3 := Lib.hid (fun (x : Nat) (hq : true = true) => HSE2.out s x (by first | exact hq | trivial | cases hq) hlt2)
                clear hB hcur hdi
                cases hh : hasN g i with
                | false =>
                  rw [hh] at hsh HMS3
                  have hsh : bits .and .i64 ((g : Int) / 2 ^ i) 1 = 0 := hsh
                  have HNN : Hid (n = cntF p gs true (s + 1) i) := Lib.hid (by
                    rw [HN.out]
                    show missTo p gs s i = missTo p gs (s + 1) i
                    rw [HMS3.out (by first | rfl | trivial)]
                    rfl)
                  clear hh hfz
                  go_wp2_with fail
                  go_roundw
                  case rel => exact ⟨s + 1, n, by omega, rfl, by go_num, HNN, HGQ⟩
                  case measure => simp [intOf]; omega
                | true =>
                  rw [hh] at hsh HMS3
                  have hsh : bits .and .i64 ((g : Int) / 2 ^ i) 1 = 1 := hsh
                  have hdh := diff_has g hg32 i (by omega) hh
                  have HSX : Hid (subN (diffN g (2 ^ i)) g = true) := Lib.hid (diff_sub g (2 ^ i))
                  have hpI : ((2 : Int) ^ i) = ((2 ^ i : Nat) : Int) := (Int.natCast_pow 2 i).symm
                  obtain ⟨pw, hpw⟩ : ∃ z, 2 ^ i = z := ⟨_, rfl⟩
                  rw [hpw] at hdh HSX hpI HMS3
                  obtain ⟨x, hx⟩ : ∃ z, diffN g pw = z := ⟨_, rfl⟩
                  rw [hx] at hdh HSX HMS3
                  have hshl : IntKind.i64.wrap ((2 : Int) ^ i) = (pw : Int) := by
                    rw [hpI]
                    exact IntWalk.i64_in _ (by omega)
                  have hxe : (g : Int) - (pw : Int) = (x : Int) := by omega
                  have HGX : Hid (Grow w6 (wq.setCell ⟨lb, s, none⟩ (.int .i64 (x : Nat)))) := Lib.hid (HGQ.out.setC (p := ⟨lb, s, none⟩) hlb6 _)
                  have HIX := Lib.hid (set_ints (v := x) HB.out HCU.out hlt2)
                  have HPX := Lib.hid (HGX.out.block HP6.out)
                  have hccx := HPX.out.cell
                  have HSC := Lib.hid (HSL.out (some ⟨lb, 0, none⟩) lc s g x HX.out HSX.out _ (HG6.out.trans HGX.out) HIX.out)
                  obtain ⟨lf, hlf⟩ : ∃ z, safeD p (gs.set s x) = z := ⟨_, rfl⟩
                  have HLF : Hid (true = true → lf = coveredD p s x) := Lib.hid (fun hq => by rw [← hlf]; exact HSE3.out x hq)
                  rw [hlf] at HSC
                  clear hh hpI hpw hx hlf
                  go_wp2_with fail
                  refine HSC.out.mono ?_
                  rintro e w7 ⟨rfl, hb7⟩
                  have HG7 : Hid (Grow w6 w7) := Lib.hid (HGX.out.trans hb7)
                  clear hb7 hccx hcell hcell2 hfz hsh hshl hxe
                  have hle := HLF.out (by first | rfl | trivial)
                  have hms := HMS3.out (by first | rfl | trivial)
                  cases lf with
                  | true =>
                    have HNN : Hid (n = cntF p gs true (s + 1) i) := Lib.hid (by
                      rw [HN.out]
                      show missTo p gs s i = missTo p gs (s + 1) i
                      rw [hms, ← hle]
                      rfl)
                    clear hle hms
                    go_wp2_with fail
                    go_roundw
                    case rel => exact ⟨s + 1, n, by omega, rfl, by go_num, HNN, HG7⟩
                    case measure => simp [intOf]; omega
                  | false =>
                    have HNN : Hid (n + 1 = cntF p gs true (s + 1) i) := Lib.hid (by
                      rw [HN.out]
                      show missTo p gs s i + 1 = missTo p gs (s + 1) i
                      rw [hms, ← hle]
                      rfl)
                    clear hle hms
                    go_wp2_with fail
                    go_roundw
                    case rel => exact ⟨s + 1, n + 1, by omega, by go_num, by go_num, HNN, HG7⟩
                    case measure => simp [intOf]; omega
              · obtain rfl : s = gs.length := by omega
                have hd : decide ((gs.length : Int) < (gs.length : Int)) = false := decide_eq_false (by omega)
                have hi0 : (0 : Int) ≤ (i : Int) := by omega
                have hi1 : (i : Int) < (p.folk.length : Int) := by omega
                have hmcell : wi.cell? ⟨mb, i, none⟩ = some (.int .i64 (missTo p gs gs.length i : Nat)) := by rw [(HGI.out.block HM6.out).cell]; exact missed_at gs hlt
                have hmcell2 : wi.cell? ⟨mb, 0 + i, none⟩ = some (.int .i64 (missTo p gs gs.length i : Nat)) := by rw [Nat.zero_add]; exact hmcell
                obtain ⟨mv, hmv⟩ : ∃ z, missTo p gs gs.length i = z := ⟨_, rfl⟩
                have HMV : Hid (true = true → n = mv) := Lib.hid (fun hq => by rw [HN.out, hq, ← hmv]; rfl)
                rw [hmv] at hmcell hmcell2
                clear hmv
                obtain rfl := HMV.out (by first | rfl | trivial)
                go_wp2_with fail
                go_roundw
                case rel => exact ⟨i + 1, by omega, by go_num, HGI⟩
                case measure => simp [intOf]; omega
          · obtain rfl : i = p.folk.length := by omega
            have hdi : decide ((p.folk.length : Int) < (p.folk.length : Int)) = false := decide_eq_false (by omega)
            have HGF := Lib.hid (HG6.out.trans HGO.out)
            go_wp2_with fail
            refine (works_any _).mono ?_
            rintro e w9 ⟨rfl, hb9⟩
            have HG9 : Hid (Grow w w9) := Lib.hid (HGF.out.trans hb9)
            clear hb9
            go_wp2
            go_ret
            exact ⟨rfl, HG9.out⟩
      | false =>
        clear hio
        go_upto_region 13 with fail
        clear hcc6
        go_wp2_with fail
        go_loopw [14] (fun iv wo => ∃ i : Nat, i ≤ p.folk.length ∧ iv = .int .i64 (i : Nat) ∧ Hid (Grow w6 wo)) (fun iv _ => p.folk.length - (intOf iv).toNat)
        case atStart => exact ⟨0, Nat.zero_le _, rfl, Lib.hid (Grow.refl _)⟩
        case round => as_aux_lemma =>
          obtain ⟨i, hil, rfl, HGO⟩ := hrel
          rename World => wo
          by_cases hlt : i < p.folk.length
          · have hdi : decide ((i : Int) < (p.folk.length : Int)) = true := decide_eq_true (by omega)
            go_wp2_with fail
            go_loopw [15, 16] (fun nv sv wi => ∃ (s n : Nat), s ≤ gs.length ∧ nv = .int .i64 (n : Nat) ∧ sv = .int .i64 (s : Nat) ∧ Hid (n = cntF p gs false s i) ∧ Hid (Grow w6 wi)) (fun _ sv _ => gs.length - (intOf sv).toNat)
            case atStart => exact ⟨0, 0, Nat.zero_le _, rfl, rfl, Lib.hid (by unfold cntF; split <;> rfl), HGO⟩
            case round => as_aux_lemma =>
              obtain ⟨s, n, hsl, rfl, rfl, HN, HGI⟩ := hrel
              rename World => wi
              have hn3 : n ≤ 3 := by rw [HN.out]; exact Nat.le_trans (cntF_le p gs _ s i) (by omega)
              by_cases hlt2 : s < gs.length
              · have hd : decide ((s : Int) < (gs.length : Int)) = true := decide_eq_true (by omega)
                have hs0 : (0 : Int) ≤ (s : Int) := by omega
                have hs1 : (s : Int) < (gs.length : Int) := by omega
                obtain ⟨ab, ao, g, rfl, hab, hac, HX⟩ := ints_nat (HIN.out wi (HG6.out.trans HGI.out)) hlt2
                have hg32 := HG32.out s g HX.out
                have HIA : Hid (Ints (wi.alloc (.cells #[] 3)) wi.heap.size (some ⟨ab, ao, none⟩) (natsL gs)) := Lib.hid ((HIN.out wi (HG6.out.trans HGI.out)).below (Grow.alloc _ _))
                have HO0 : Hid ((wi.alloc (.cells #[] 3)).ownsRow wi.heap.size 3 1 (.slice (some ⟨wi.heap.size, 0, none⟩) 0 0) 0 []) := Lib.hid ⟨rfl, .inr ⟨wi.heap.size, 0, #[], rfl, Nat.le_refl _, heap_alloc_new wi _, Nat.le_refl _, by unfold maxLen; omega, rfl, rfl⟩⟩
                clear hac
                go_wp2_with (at_builtin; go_loud (refine wpList_append_own _ rfl _ _ 26 rfl wi.heap.size 3 i0 (.int .i64 0) 1 8 Try.underlying26 hi hz0 hz1 hz2 rfl (by omega) _ 0 [] rfl ?d0 ⟨ab, ao, none⟩ gs.length cap ((natsL gs).map (Value.int .i64)) rfl ?dl ?d1 ?d2 ?d3 ?d4 ?d5 ?_))
                case d0 => exact HO0.out
                case dl => rw [List.length_map, natsL_length, Nat.mul_one]
                case d1 => exact ints_news HIA.out
                case d2 => intro v hv; obtain ⟨x, _, rfl⟩ := List.mem_map.1 hv; rfl
                case d3 => unfold maxLen; omega
                case d4 => omega
                case d5 => simp
                intro v' wq hown hgr _
                obtain ⟨L, lc, rfl⟩ := own_form hown
                have HOQ : Hid (wq.ownsRow wi.heap.size 3 1 (.slice L gs.length lc) gs.length ((natsL gs).map (Value.int .i64))) := Lib.hid (by simpa using hown)
                have HGQ : Hid (Grow w6 wq) := Lib.hid (below_grown (HGI.out.trans (Grow.alloc _ _)) (own_mono HO0.out (by have := HGI.out.size; omega)) hgr (by have := HGI.out.size; simp; omega))
                clear hown hgr HO0 HIA
                obtain ⟨lb, cur, rfl, hlb, hB, hcur⟩ := own_block HOQ.out hl0
                have HB := Lib.hid hB
                have HCU := Lib.hid hcur
                have hlb6 : w6.heap.size ≤ lb := by have := HGI.out.size; omega
                have hcell : wq.cell? ⟨lb, s, none⟩ = some (.int .i64 (g : Nat)) := by rw [hB.cell]; exact hcur s _ (natsL_at HX.out)
                have hcell2 : wq.cell? ⟨lb, 0 + s, none⟩ = some (.int .i64 (g : Nat)) := by rw [Nat.zero_add]; exact hcell
                have hfz := hB.frozen s
                have hi0 : (0 : Int) ≤ (i : Int) := by omega
                have hi64 : i ≤ 64 := by omega
                have hcv : IntKind.u64.wrap (i : Int) = (i : Int) := IntWalk.u64_in _ (by omega)
                have hsh := shr_and (e := i) (show g < 1048576 by omega)
                rw [has_bit g hg32 i (by omega)] at hsh
                have HMS3 := Lib.hid (fun (hq : false = true) => HMS2.out s g i (by first | exact hq | trivial | cases hq) HX.out hlt)
                have HSE3 := Lib.hid (fun (x : Nat) (hq : false = true) => HSE2.out s x (by first | exact hq | trivial | cases hq) hlt2)
                clear hB hcur hdi
                cases hh : hasN g i with
                | false =>
                  rw [hh] at hsh HMS3
                  have hsh : bits .and .i64 ((g : Int) / 2 ^ i) 1 = 0 := hsh
                  have HNN : Hid (n = cntF p gs false (s + 1) i) := Lib.hid (by
                    rw [HN.out]
                    rfl)
                  clear hh hfz
                  go_wp2_with fail
                  go_roundw
                  case rel => exact ⟨s + 1, n, by omega, rfl, by go_num, HNN, HGQ⟩
                  case measure => simp [intOf]; omega
                | true =>
                  rw [hh] at hsh HMS3
                  have hsh : bits .and .i64 ((g : Int) / 2 ^ i) 1 = 1 := hsh
                  have hdh := diff_has g hg32 i (by omega) hh
                  have HSX : Hid (subN (diffN g (2 ^ i)) g = true) := Lib.hid (diff_sub g (2 ^ i))
                  have hpI : ((2 : Int) ^ i) = ((2 ^ i : Nat) : Int) := (Int.natCast_pow 2 i).symm
                  obtain ⟨pw, hpw⟩ : ∃ z, 2 ^ i = z := ⟨_, rfl⟩
                  rw [hpw] at hdh HSX hpI HMS3
                  obtain ⟨x, hx⟩ : ∃ z, diffN g pw = z := ⟨_, rfl⟩
                  rw [hx] at hdh HSX HMS3
                  have hshl : IntKind.i64.wrap ((2 : Int) ^ i) = (pw : Int) := by
                    rw [hpI]
                    exact IntWalk.i64_in _ (by omega)
                  have hxe : (g : Int) - (pw : Int) = (x : Int) := by omega
                  have HGX : Hid (Grow w6 (wq.setCell ⟨lb, s, none⟩ (.int .i64 (x : Nat)))) := Lib.hid (HGQ.out.setC (p := ⟨lb, s, none⟩) hlb6 _)
                  have HIX := Lib.hid (set_ints (v := x) HB.out HCU.out hlt2)
                  have HPX := Lib.hid (HGX.out.block HP6.out)
                  have hccx := HPX.out.cell
                  have HSC := Lib.hid (HSL.out (some ⟨lb, 0, none⟩) lc s g x HX.out HSX.out _ (HG6.out.trans HGX.out) HIX.out)
                  obtain ⟨lf, hlf⟩ : ∃ z, safeD p (gs.set s x) = z := ⟨_, rfl⟩
                  have HLF : Hid (false = true → lf = coveredD p s x) := Lib.hid (fun hq => by rw [← hlf]; exact HSE3.out x hq)
                  rw [hlf] at HSC
                  clear hh hpI hpw hx hlf
                  go_wp2_with fail
                  refine HSC.out.mono ?_
                  rintro e w7 ⟨rfl, hb7⟩
                  have HG7 : Hid (Grow w6 w7) := Lib.hid (HGX.out.trans hb7)
                  clear hb7 hccx hcell hcell2 hfz hsh hshl hxe
                  have HNN : Hid (n = cntF p gs false (s + 1) i) := Lib.hid (by rw [HN.out]; rfl)
                  go_wp2_with fail
                  go_roundw
                  case rel => exact ⟨s + 1, n, by omega, rfl, by go_num, HNN, HG7⟩
                  case measure => simp [intOf]; omega
              · obtain rfl : s = gs.length := by omega
                have hd : decide ((gs.length : Int) < (gs.length : Int)) = false := decide_eq_false (by omega)
                have hi0 : (0 : Int) ≤ (i : Int) := by omega
                have hi1 : (i : Int) < (p.folk.length : Int) := by omega
                have hmcell : wi.cell? ⟨mb, i, none⟩ = some (.int .i64 (missTo p gs gs.length i : Nat)) := by rw [(HGI.out.block HM6.out).cell]; exact missed_at gs hlt
                have hmcell2 : wi.cell? ⟨mb, 0 + i, none⟩ = some (.int .i64 (missTo p gs gs.length i : Nat)) := by rw [Nat.zero_add]; exact hmcell
                obtain ⟨mv, hmv⟩ : ∃ z, missTo p gs gs.length i = z := ⟨_, rfl⟩
                have HMV : Hid (false = true → n = mv) := Lib.hid (fun hq => by rw [HN.out, hq, ← hmv]; rfl)
                rw [hmv] at hmcell hmcell2
                clear hmv
                go_wp2_with fail
                go_roundw
                case rel => exact ⟨i + 1, by omega, by go_num, HGI⟩
                case measure => simp [intOf]; omega
          · obtain rfl : i = p.folk.length := by omega
            have hdi : decide ((p.folk.length : Int) < (p.folk.length : Int)) = false := decide_eq_false (by omega)
            have HGF := Lib.hid (HG6.out.trans HGO.out)
            go_wp2_with fail
            refine (works_any _).mono ?_
            rintro e w9 ⟨rfl, hb9⟩
            have HG9 : Hid (Grow w w9) := Lib.hid (HGF.out.trans hb9)
            clear hb9
            go_wp2
            go_ret
            exact ⟨rfl, HG9.out⟩

theorem coverMore_any (h : PoolH) (d : PoolI) (A : Option Addr) (cap : Nat) (ws : List Int) (B : Option Addr) (cbp : Nat) (us : List Int) (w : World) (hA : PoolAt w w.heap.size h d) (hI : Ints w w.heap.size A ws) (hwf : Wf ws) (hJ : Ints w w.heap.size B us) (hwu : Wf us) :
    Calls Try.prog 7 #[poolV h d, .slice A ws.length cap, .slice B us.length cbp] w fun e w' => e = .returned (.bool true) ∧ Below w.heap.size w w' := by
  cases hv : validI d with
  | false => exact coverMore_bad h d A cap ws B cbp us w hA hv
  | true =>
    obtain ⟨p, rfl, G⟩ := valid_is hv
    rw [pool_i]
    by_cases hl : 20 < ws.length
    · exact coverMore_long h p A cap ws B cbp us w hA hv hl
    · by_cases hm : 20 < us.length
      · exact coverMore_long2 h p A cap ws B cbp us w hA hv (by omega) hm
      · cases hq : okWatch p ws with
        | false => exact coverMore_not h p G A cap ws B cbp us w hA hv hI (by omega) hwf (by omega) hq
        | true =>
          cases hr : okWatch p us with
          | false => exact coverMore_not2 h p G A cap ws B cbp us w hA hv hI (by omega) hwf hJ (by omega) hwu hq hr
          | true =>
            obtain ⟨e, hwt⟩ := okWatch_is G hwf hq
            obtain ⟨gs, hgs⟩ : ∃ z, gsOf ws = z := ⟨_, rfl⟩
            rw [hgs] at e hwt
            subst e
            obtain ⟨e, hwh⟩ := okWatch_is G hwu hr
            obtain ⟨hs, hhs⟩ : ∃ z, gsOf us = z := ⟨_, rfl⟩
            rw [hhs] at e hwh
            subst e
            rw [natsL_length, natsL_length]
            exact coverMore_good h p G A cap gs B cbp hs w hA hv hI hJ hwt hwh

end Go.Proofs.Ytcgnibfcjadnjaa
