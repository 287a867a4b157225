/- Apis: Safe, Missed, Ready of a possible watch of a valid pool; written by wip/tools/apis10.py. -/
import Derived.Test.YtcgnibfcjadnjaaMissed
namespace Go.Proofs.Ytcgnibfcjadnjaa
open Go.RowKit

theorem watch_wf {p : Pool} (G : Good p) {gs : List Nat} (h : Watch p gs) : Wf (natsL gs) := by
  intro x hx
  unfold natsL at hx
  obtain ⟨g, hg, rfl⟩ := List.mem_map.1 hx
  obtain ⟨i, hi⟩ := List.getElem?_of_mem hg
  have := h.g32 G hi
  omega
theorem readWatch_good (h : PoolH) (p : Pool) (G : Good p) (hok : okPool p.i = true) (hs : Short p.i) (A : Option Addr) (cap : Nat) (gs : List Nat) (w : World) (hA : PoolAt w w.heap.size h p.i) (hI : Ints w w.heap.size A (natsL gs)) (hwt : Watch p gs) :
    Calls Try.prog 44 #[poolN h p, .slice A gs.length cap] w fun e w' => ∃ b, e = .returned (.tuple #[poolN h p, .slice (some ⟨b, 0, none⟩) gs.length gs.length, .int .i64 0]) ∧ Ints w' w'.heap.size (some ⟨b, 0, none⟩) (natsL gs) ∧ Below w.heap.size w w' := by
  have hln := hwt.len
  have hn3 := G.n3
  have h1 := readWatch_any h p G hok hs A cap (natsL gs) w hA hI (by rw [natsL_length]; omega) (watch_wf G hwt)
  rw [natsL_length] at h1
  refine h1.mono ?_
  rintro e w' ⟨v, gv, er, rfl, h2, _, h4⟩
  obtain ⟨rfl, rfl, b, rfl, h5⟩ := h2 (ok_of_watch G hwt)
  exact ⟨b, rfl, h5, h4⟩
theorem results_45 {fn : Func} (h : fn.results = #[.tmp 4, .tmp 5]) (t : Array Value) (W : World) (u v : Value) (h4 : t.getD 4 undef = u) (h5 : t.getD 5 undef = v) :
    (results fn t).run Try.prog W = .ok (.tuple #[u, v]) W := by
  simp only [results, h]
  simp at h4 h5
  simp [go_sem, h4, h5]
theorem results_67 {fn : Func} (h : fn.results = #[.tmp 6, .tmp 7]) (t : Array Value) (W : World) (u v : Value) (h4 : t.getD 6 undef = u) (h5 : t.getD 7 undef = v) :
    (results fn t).run Try.prog W = .ok (.tuple #[u, v]) W := by
  simp only [results, h]
  simp at h4 h5
  simp [go_sem, h4, h5]

set_option maxRecDepth 100000 in
set_option maxHeartbeats 8000000 in
theorem safeApi_any (h : PoolH) (p : Pool) (G : Good p) (hok : okPool p.i = true) (hs : Short p.i) (A : Option Addr) (cap : Nat) (gs : List Nat) (w : World) (hA : PoolAt w w.heap.size h p.i) (hI : Ints w w.heap.size A (natsL gs)) (hwt : Watch p gs) :
    Calls Try.prog 14 #[poolN h p, .slice A gs.length cap] w fun e w' => e = .returned (.tuple #[.bool (safeD p gs), .int .i64 0]) ∧ Below w.heap.size w w' := by
  have HRW := Lib.hid (fun (w0 : World) (hw : Grow w w0) => readWatch_good h p G hok hs A cap gs w0 (hA.grow hw) ((hI.below hw).more hw.size) hwt)
  have HWT := Lib.hid hwt
  have hln := hwt.len
  have hn3 := G.n3
  have HX := Lib.hid (fun (b : Nat) (w0 : World) (hw : Grow w w0) (hi0 : Ints w0 w0.heap.size (some ⟨b, 0, none⟩) (natsL gs)) => isSafe_any h p G (some ⟨b, 0, none⟩) gs.length gs w0 (hA.grow hw) hi0 hwt)
  clear hok hI hwt hA hs hln hn3
  obtain ⟨fa, fc, na, nc⟩ := h
  go_enter Try.func14, Try.ntmps14
  go_upto_region 1 with fail
  obtain ⟨W, hW, hg, hf, hsz⟩ := one_block w 25 (cellsN ⟨fa, fc, na, nc⟩ p)
  rw [hW]
  clear hW
  have hcc := hf.cell
  have HG := Lib.hid hg
  clear hf hg
  go_wp2_with fail
  refine (HRW.out W HG.out).mono ?_
  rintro e w1 ⟨b, rfl, hi1, hb1⟩
  have HG1 : Hid (Grow w w1) := Lib.hid (HG.out.trans hb1)
  have HI1 := Lib.hid hi1
  clear hb1 hcc hi1
  go_upto_region 4 with fail
  obtain ⟨W2, hW2, hg2, hf2, hsz2⟩ := one_block w1 73 (cellsN ⟨fa, fc, na, nc⟩ p)
  rw [hW2]
  clear hW2
  have hcc := hf2.cell
  have HP2 := Lib.hid hf2
  have HG2 : Hid (Grow w W2) := Lib.hid (HG1.out.trans hg2)
  have HI2 := Lib.hid ((HI1.out.below hg2).more hg2.size)
  clear hf2 hg2
  go_wp2_with fail
  refine (HX.out b W2 HG2.out HI2.out).mono ?_
  rintro e w3 ⟨rfl, hb3⟩
  have HG3 : Hid (Grow w w3) := Lib.hid (HG2.out.trans hb3)
  clear hb3 hcc
  go_wp2
  refine bodyPost_ret (results_45 Try.results14 _ _ _ _ rfl rfl) rfl ?_
  exact ⟨rfl, HG3.out⟩

set_option maxRecDepth 100000 in
set_option maxHeartbeats 8000000 in
theorem missedApi_any (h : PoolH) (p : Pool) (G : Good p) (hok : okPool p.i = true) (hs : Short p.i) (A : Option Addr) (cap : Nat) (gs : List Nat) (w : World) (hA : PoolAt w w.heap.size h p.i) (hI : Ints w w.heap.size A (natsL gs)) (hwt : Watch p gs) :
    Calls Try.prog 33 #[poolN h p, .slice A gs.length cap] w fun e w' => (∃ b, e = .returned (.tuple #[.slice (some ⟨b, 0, none⟩) p.folk.length p.folk.length, .int .i64 0]) ∧ w.heap.size ≤ b ∧ BlockIs w' b 3 (intCells (natsL (missedD p gs)))) ∧ Below w.heap.size w w' := by
  have HRW := Lib.hid (fun (w0 : World) (hw : Grow w w0) => readWatch_good h p G hok hs A cap gs w0 (hA.grow hw) ((hI.below hw).more hw.size) hwt)
  have HWT := Lib.hid hwt
  have hln := hwt.len
  have hn3 := G.n3
  have HX := Lib.hid (fun (b : Nat) (w0 : World) (hw : Grow w w0) (hi0 : Ints w0 w0.heap.size (some ⟨b, 0, none⟩) (natsL gs)) => missed_any h p G (some ⟨b, 0, none⟩) gs.length gs w0 (hA.grow hw) hi0 hwt)
  clear hok hI hwt hA hs hln hn3
  obtain ⟨fa, fc, na, nc⟩ := h
  go_enter Try.func33, Try.ntmps33
  go_upto_region 1 with fail
  obtain ⟨W, hW, hg, hf, hsz⟩ := one_block w 25 (cellsN ⟨fa, fc, na, nc⟩ p)
  rw [hW]
  clear hW
  have hcc := hf.cell
  have HG := Lib.hid hg
  clear hf hg
  go_wp2_with fail
  refine (HRW.out W HG.out).mono ?_
  rintro e w1 ⟨b, rfl, hi1, hb1⟩
  have HG1 : Hid (Grow w w1) := Lib.hid (HG.out.trans hb1)
  have HI1 := Lib.hid hi1
  clear hb1 hcc hi1
  go_upto_region 4 with fail
  obtain ⟨W2, hW2, hg2, hf2, hsz2⟩ := one_block w1 73 (cellsN ⟨fa, fc, na, nc⟩ p)
  rw [hW2]
  clear hW2
  have hcc := hf2.cell
  have HP2 := Lib.hid hf2
  have HG2 : Hid (Grow w W2) := Lib.hid (HG1.out.trans hg2)
  have HI2 := Lib.hid ((HI1.out.below hg2).more hg2.size)
  clear hf2 hg2
  go_wp2_with fail
  refine (HX.out b W2 HG2.out HI2.out).mono ?_
  rintro e w3 ⟨⟨c, rfl, hc1, hc2⟩, hb3⟩
  have HG3 : Hid (Grow w w3) := Lib.hid (HG2.out.trans hb3)
  have HC := Lib.hid hc2
  have hcw : w.heap.size ≤ c := by have := HG2.out.size; omega
  clear hb3 hcc hc2
  go_wp2
  refine bodyPost_ret (results_45 Try.results33 _ _ _ _ rfl rfl) rfl ?_
  exact ⟨⟨c, rfl, hcw, HC.out⟩, HG3.out⟩

set_option maxRecDepth 100000 in
set_option maxHeartbeats 8000000 in
theorem readyApi_any (h : PoolH) (p : Pool) (G : Good p) (hok : okPool p.i = true) (hs : Short p.i) (A : Option Addr) (cap : Nat) (gs : List Nat) (w : World) (hA : PoolAt w w.heap.size h p.i) (hI : Ints w w.heap.size A (natsL gs)) (hwt : Watch p gs) (s : Nat) (hsl : s < gs.length) :
    Calls Try.prog 21 #[poolN h p, .slice A gs.length cap, .int .i64 (s : Nat)] w fun e w' => e = .returned (.tuple #[.int .i64 (readyD p s (gs.getD s 0)), .int .i64 0]) ∧ Below w.heap.size w w' := by
  have HRW := Lib.hid (fun (w0 : World) (hw : Grow w w0) => readWatch_good h p G hok hs A cap gs w0 (hA.grow hw) ((hI.below hw).more hw.size) hwt)
  have HWT := Lib.hid hwt
  have hln := hwt.len
  have hn3 := G.n3
  obtain ⟨x, hx⟩ : ∃ x, gs[s]? = some x := ⟨_, List.getElem?_eq_getElem hsl⟩
  have hx32 := hwt.g32 G hx
  have HC := Lib.hid (fun (w0 : World) (hw : Grow w w0) => ready_any h p G s x w0 (hA.grow hw) (by omega) hx32)
  have hgd : gs.getD s 0 = x := by rw [List.getD_eq_getElem?_getD, hx]; rfl
  rw [hgd]
  have HGX := Lib.hid hx
  obtain ⟨rd, hrd⟩ : ∃ z, readyD p s x = z := ⟨_, rfl⟩
  rw [hrd] at HC ⊢
  clear hrd hgd hx
  have HHS := Lib.hid (fun w0 => hasSlot_any h p G (s : Nat) w0)
  have hin : inB (s : Nat) 0 ((p.needs.length : Int) - 1) = true := by unfold inB; rw [decide_eq_true (by omega), decide_eq_true (by omega)]; rfl
  rw [hin] at HHS
  clear hok hI hwt hA hs hln hn3
  obtain ⟨fa, fc, na, nc⟩ := h
  go_enter Try.func21, Try.ntmps21
  go_upto_region 1 with fail
  obtain ⟨W, hW, hg, hf, hsz⟩ := one_block w 25 (cellsN ⟨fa, fc, na, nc⟩ p)
  rw [hW]
  clear hW
  have hcc := hf.cell
  have HG := Lib.hid hg
  clear hf hg
  go_wp2_with fail
  refine (HRW.out W HG.out).mono ?_
  rintro e w1 ⟨b, rfl, hi1, hb1⟩
  have HG1 : Hid (Grow w w1) := Lib.hid (HG.out.trans hb1)
  have HI1 := Lib.hid hi1
  clear hb1 hcc hi1
  go_upto_region 4 with fail
  obtain ⟨W2, hW2, hg2, hf2, hsz2⟩ := one_block w1 73 (cellsN ⟨fa, fc, na, nc⟩ p)
  rw [hW2]
  clear hW2
  have hcc := hf2.cell
  have HP2 := Lib.hid hf2
  have HG2 : Hid (Grow w W2) := Lib.hid (HG1.out.trans hg2)
  have HI2 := Lib.hid ((HI1.out.below hg2).more hg2.size)
  clear hf2 hg2
  have hs0 : (0 : Int) ≤ (s : Int) := by omega
  have hs1 : (s : Int) < (gs.length : Int) := by omega
  obtain ⟨xb, xo, x', hbe, hxb, hxc, HXX⟩ := ints_nat HI2.out hsl
  obtain rfl : x = x' := Option.some.inj (HGX.out.symm.trans HXX.out)
  have hbe' : b = xb ∧ xo = 0 := by injection hbe with e; injection e with e1 e2; exact ⟨e1, e2.symm⟩
  obtain ⟨rfl, rfl⟩ := hbe'
  have HXC := Lib.hid hxc
  clear hxc hin hbe
  go_wp2_with fail
  refine (HHS.out W2).mono ?_
  rintro e w3 ⟨rfl, hb3⟩
  have HG3 : Hid (Grow w w3) := Lib.hid (HG2.out.trans hb3)
  have HP3 := Lib.hid ((show Grow W2 w3 from hb3).block HP2.out)
  have HC3 := Lib.hid ((show Grow W2 w3 from hb3).cell HXC.out)
  clear hb3 hcc
  go_upto_region 6 with fail
  refine wp_region_lit 9 [[], [], [], [], [(2, 27), (3, 28)], [(4, 29)], [(0, 25), (1, 26), (5, 30)], [(6, 31)], []] Grow (fun qi v w' => match qi with
      | 0 => v = poolN ⟨fa, fc, na, nc⟩ p
      | 1 => v = .int .i64 (s : Nat)
      | 2 => v = .slice (some ⟨b, 0, none⟩) gs.length gs.length
      | 3 => v = .int .i64 (s : Nat)
      | 4 => v = .pointer (some ⟨b, s, none⟩)
      | 5 => v = .int .i64 (x : Nat)
      | 6 => v = .int .i64 rd
      | 7 => v = .int .i64 rd
      | 8 => v = .int .i64 0
      | _ => False) (by kernel_rfl) (by kernel_rfl) (fun _ _ _ => Grow.trans) Grow.refl ?_ ?_ ?_
  · intro i v y y' h k
    match i, h with
    | 0, h | 1, h | 2, h | 3, h | 4, h | 5, h | 6, h | 7, h | 8, h => exact h
  · simp only [StepsLit, List.take_succ_cons, List.take_zero]
    refine ⟨?_, ?_, ?_, ?_, ?_, ?_, ?_, ?_, ?_, trivial⟩
    · intro w5 hR
      have hGw : Grow w3 w5 := hR.of_drew
      have HGW := Lib.hid hGw
      have hcc := (HGW.out.block HP3.out).cell
      have hxc := HGW.out.cell HC3.out
      rw [Nat.zero_add] at hxc
      clear hR hGw
      simp only [depV]
      try go_simp
      all_goals first
        | (with_reducible exact Grow.refl _)
        | (with_reducible exact ⟨Grow.refl _, rfl⟩)
    · intro w5 hR
      have hGw : Grow w3 w5 := hR.of_drew
      have HGW := Lib.hid hGw
      have hcc := (HGW.out.block HP3.out).cell
      have hxc := HGW.out.cell HC3.out
      rw [Nat.zero_add] at hxc
      clear hR hGw
      simp only [depV]
      try go_simp
      all_goals first
        | (with_reducible exact Grow.refl _)
        | (with_reducible exact ⟨Grow.refl _, rfl⟩)
    · intro w5 hR
      have hGw : Grow w3 w5 := hR.of_drew
      have HGW := Lib.hid hGw
      have hcc := (HGW.out.block HP3.out).cell
      have hxc := HGW.out.cell HC3.out
      rw [Nat.zero_add] at hxc
      clear hR hGw
      simp only [depV]
      try go_simp
      all_goals first
        | (with_reducible exact Grow.refl _)
        | (with_reducible exact ⟨Grow.refl _, rfl⟩)
    · intro w5 hR
      have hGw : Grow w3 w5 := hR.of_drew
      have HGW := Lib.hid hGw
      have hcc := (HGW.out.block HP3.out).cell
      have hxc := HGW.out.cell HC3.out
      rw [Nat.zero_add] at hxc
      clear hR hGw
      simp only [depV]
      try go_simp
      all_goals first
        | (with_reducible exact Grow.refl _)
        | (with_reducible exact ⟨Grow.refl _, rfl⟩)
    · intro w5 hR
      have hGw : Grow w3 w5 := hR.of_drew
      have HGW := Lib.hid hGw
      have hcc := (HGW.out.block HP3.out).cell
      have hxc := HGW.out.cell HC3.out
      rw [Nat.zero_add] at hxc
      clear hR hGw
      simp only [depV]
      rintro _ rfl
      rintro _ rfl
      try go_simp
      all_goals first
        | (with_reducible exact Grow.refl _)
        | (with_reducible exact ⟨Grow.refl _, rfl⟩)
    · intro w5 hR
      have hGw : Grow w3 w5 := hR.of_drew
      have HGW := Lib.hid hGw
      have hcc := (HGW.out.block HP3.out).cell
      have hxc := HGW.out.cell HC3.out
      rw [Nat.zero_add] at hxc
      clear hR hGw
      simp only [depV]
      rintro _ rfl
      try go_simp
      all_goals first
        | (with_reducible exact Grow.refl _)
        | (with_reducible exact ⟨Grow.refl _, rfl⟩)
    · intro w5 hR
      have hGw : Grow w3 w5 := hR.of_drew
      have HGW := Lib.hid hGw
      have hcc := (HGW.out.block HP3.out).cell
      have hxc := HGW.out.cell HC3.out
      rw [Nat.zero_add] at hxc
      clear hR hGw
      simp only [depV]
      rintro _ rfl
      rintro _ rfl
      rintro _ rfl
      try go_simp
      refine (HC.out w5 (HG3.out.trans HGW.out)).mono ?_
      rintro e w6 ⟨rfl, hb6⟩
      exact ⟨hb6, rfl⟩
    · intro w5 hR
      have hGw : Grow w3 w5 := hR.of_drew
      have HGW := Lib.hid hGw
      have hcc := (HGW.out.block HP3.out).cell
      have hxc := HGW.out.cell HC3.out
      rw [Nat.zero_add] at hxc
      clear hR hGw
      simp only [depV]
      rintro _ rfl
      try go_simp
      all_goals first
        | (with_reducible exact Grow.refl _)
        | (with_reducible exact ⟨Grow.refl _, rfl⟩)
    · intro w5 hR
      have hGw : Grow w3 w5 := hR.of_drew
      have HGW := Lib.hid hGw
      have hcc := (HGW.out.block HP3.out).cell
      have hxc := HGW.out.cell HC3.out
      rw [Nat.zero_add] at hxc
      clear hR hGw
      simp only [depV]
      try go_simp
      all_goals first
        | (with_reducible exact Grow.refl _)
        | (with_reducible exact ⟨Grow.refl _, rfl⟩)
  · intro w5 hR
    have HG5 : Hid (Grow w3 w5) := Lib.hid hR.of_drew
    clear hR
    simp only [finVC, List.take_succ_cons, List.take_zero, List.drop_succ_cons, List.drop_zero]
    rintro _ rfl
    rintro _ rfl
    rintro _ rfl
    rintro _ rfl
    rintro _ rfl
    rintro _ rfl
    rintro _ rfl
    rintro _ rfl
    rintro _ rfl
    simp only [Act.put, List.setIfInBounds_toArray, List.set_cons_succ, List.set_cons_zero]
    go_wp2
    refine bodyPost_ret (results_67 Try.results21 _ _ _ _ rfl rfl) rfl ?_
    exact ⟨rfl, HG3.out.trans HG5.out⟩

end Go.Proofs.Ytcgnibfcjadnjaa
