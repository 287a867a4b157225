/- IllLaw: the statement on the ill; written by wip/tools/illlaw10.py. -/
import Derived.Test.YtcgnibfcjadnjaaWorksP
import Derived.Test.YtcgnibfcjadnjaaWeakApi
import Derived.Test.YtcgnibfcjadnjaaRGapT
import Derived.Deep.DeepCutAuto
namespace Go.Proofs.Ytcgnibfcjadnjaa
open Go.RowKit

theorem safe_weak {p : Pool} (G : Good p) {gs : List Nat} (hw : Watch p gs) : safeD p gs = true ↔ (weakD p gs).missing = 0 := by
  have hwi := weak_is p gs
  have hin : ∀ s g, gs[s]? = some g → s < gs.length ∧ s < p.needs.length ∧ gs.getD s 0 = g := fun s g hg => ⟨lt_of_at hg, by have := lt_of_at hg; rw [← hw.len]; exact this, by rw [List.getD_eq_getElem?_getD, hg]; rfl⟩
  constructor
  · intro hs
    rcases hwi with q | ⟨q1, q2, q3, q4, q5, q6⟩
    · rw [q]; rfl
    · exfalso
      have hg := List.getElem?_eq_getElem q2
      obtain ⟨_, hsn, hgd⟩ := hin _ _ hg
      have h32 := hw.g32 G hg
      unfold safeD at hs
      have hc := List.all_eq_true.1 hs _ (List.mem_range.2 q2)
      rw [hgd] at hc q3 q6
      rw [← covered_stands G hsn h32] at hc
      unfold standsD at hc
      have hx := List.all_eq_true.1 hc (weakD p gs).ill (List.mem_range.2 (by have := sub_le q3; omega))
      rw [show illB gs[(weakD p gs).slot] (weakD p gs).ill p.ill = true from by unfold illB; rw [q3, decide_eq_true q4]; rfl, Bool.not_true, Bool.false_or] at hx
      unfold servesD at hx
      have := of_decide_eq_true (List.all_eq_true.1 hx _ (List.mem_range.2 q5))
      omega
  · intro hm
    unfold safeD
    rw [List.all_eq_true]
    intro s hs
    have hs := List.mem_range.1 hs
    have hg := List.getElem?_eq_getElem hs
    obtain ⟨_, hsn, hgd⟩ := hin _ _ hg
    have h32 := hw.g32 G hg
    rw [hgd, ← covered_stands G hsn h32]
    unfold standsD
    rw [List.all_eq_true]
    intro x _
    cases hi : illB gs[s] x p.ill with
    | false => rfl
    | true =>
      unfold illB at hi
      rw [Bool.and_eq_true] at hi
      rw [Bool.not_true, Bool.false_or]
      unfold servesD
      rw [List.all_eq_true]
      intro u hu
      have h1 := weak_most (p := p) (gs := gs) hs (by rw [hgd]; exact hi.1) (of_decide_eq_true hi.2) (List.mem_range.1 hu)
      rw [hgd] at h1
      exact decide_eq_true (by omega)

set_option maxRecDepth 100000 in
set_option maxHeartbeats 8000000 in
theorem coverIll_bad (h : PoolH) (d : PoolI) (A : Option Addr) (cap : Nat) (ws : List Int) (sl xi : Int) (w : World) (hA : PoolAt w w.heap.size h d) (hv : validI d = false) :
    Calls Try.prog 3 #[poolV h d, .slice A ws.length cap, .agg #[.int .i64 sl, .int .i64 xi]] w fun e w' => e = .returned (.bool true) ∧ Below w.heap.size w w' := by
  have HV := Lib.hid (fun (w0 : World) (hw : Grow w w0) => valid_any h d w0 (hA.grow hw))
  rw [hv] at HV
  clear hA hv
  obtain ⟨fa, fc, na, nc⟩ := h
  go_enter Try.func3, Try.ntmps3
  go_upto_region 1 with fail
  obtain ⟨W, hW, hg, hf, hx, hsz⟩ := two_blocks w 25 28 (cellsP ⟨fa, fc, na, nc⟩ d) #[.int .i64 sl, .int .i64 xi]
  rw [hW]
  clear hW
  have hcc := hf.cell
  have hxc := hx.cell
  have HG0 := Lib.hid hg
  have HF0 := Lib.hid hf
  have HX0 := Lib.hid hx
  clear hf hg hx
  go_wp2_with fail
  refine (HV.out W HG0.out).mono ?_
  rintro e w1 ⟨rfl, hb1⟩
  have HG1 : Hid (Grow w w1) := Lib.hid (HG0.out.trans hb1)
  have HF1 := Lib.hid ((show Grow W w1 from hb1).block HF0.out)
  have HX1 := Lib.hid ((show Grow W w1 from hb1).block HX0.out)
  have hcc := HF1.out.cell
  have hxc := HX1.out.cell
  clear hb1
  clear HF0 HX0
  go_wp2_with fail
  refine (works_any _).mono ?_
  rintro e w9 ⟨rfl, hb9⟩
  have HG9 : Hid (Grow w w9) := Lib.hid (HG1.out.trans hb9)
  clear hb9
  go_wp2
  go_ret
  exact ⟨by simp, HG9.out⟩

set_option maxRecDepth 100000 in
set_option maxHeartbeats 8000000 in
theorem coverIll_long (h : PoolH) (p : Pool) (A : Option Addr) (cap : Nat) (ws : List Int) (sl xi : Int) (w : World) (hA : PoolAt w w.heap.size h p.i) (hv : validI p.i = true) (hl : 20 < ws.length) :
    Calls Try.prog 3 #[poolN h p, .slice A ws.length cap, .agg #[.int .i64 sl, .int .i64 xi]] w fun e w' => e = .returned (.bool true) ∧ Below w.heap.size w w' := by
  have HV := Lib.hid (fun (w0 : World) (hw : Grow w w0) => valid_any h p.i w0 (hA.grow hw))
  rw [hv, pool_i] at HV
  have hl1 : decide ((20 : Int) < (ws.length : Int)) = true := decide_eq_true (by omega)
  have hl2 : decide (20 < ws.length) = true := decide_eq_true (by omega)
  clear hA hv
  obtain ⟨fa, fc, na, nc⟩ := h
  go_enter Try.func3, Try.ntmps3
  go_upto_region 1 with fail
  obtain ⟨W, hW, hg, hf, hx, hsz⟩ := two_blocks w 25 28 (cellsN ⟨fa, fc, na, nc⟩ p) #[.int .i64 sl, .int .i64 xi]
  rw [hW]
  clear hW
  have hcc := hf.cell
  have hxc := hx.cell
  have HG0 := Lib.hid hg
  have HF0 := Lib.hid hf
  have HX0 := Lib.hid hx
  clear hf hg hx
  go_wp2_with fail
  refine (HV.out W HG0.out).mono ?_
  rintro e w1 ⟨rfl, hb1⟩
  have HG1 : Hid (Grow w w1) := Lib.hid (HG0.out.trans hb1)
  have HF1 := Lib.hid ((show Grow W w1 from hb1).block HF0.out)
  have HX1 := Lib.hid ((show Grow W w1 from hb1).block HX0.out)
  have hcc := HF1.out.cell
  have hxc := HX1.out.cell
  clear hb1
  clear HF0 HX0
  go_wp2_with fail
  refine (works_any _).mono ?_
  rintro e w9 ⟨rfl, hb9⟩
  have HG9 : Hid (Grow w w9) := Lib.hid (HG1.out.trans hb9)
  clear hb9
  go_wp2
  go_ret
  exact ⟨by simp, HG9.out⟩

set_option maxRecDepth 100000 in
set_option maxHeartbeats 8000000 in
theorem coverIll_not (h : PoolH) (p : Pool) (G : Good p) (A : Option Addr) (cap : Nat) (ws : List Int) (sl xi : Int) (w : World) (hA : PoolAt w w.heap.size h p.i) (hv : validI p.i = true) (hI : Ints w w.heap.size A ws) (hl : ws.length ≤ 20) (hwf : Wf ws) (hq : okWatch p ws = false) :
    Calls Try.prog 3 #[poolN h p, .slice A ws.length cap, .agg #[.int .i64 sl, .int .i64 xi]] w fun e w' => e = .returned (.bool true) ∧ Below w.heap.size w w' := by
  have HV := Lib.hid (fun (w0 : World) (hw : Grow w w0) => valid_any h p.i w0 (hA.grow hw))
  rw [hv, pool_i] at HV
  have HIW := Lib.hid (fun (w0 : World) (hw : Grow w w0) => rIsWatch_any h p G A cap ws w0 (hA.grow hw) ((hI.below hw).more hw.size) (by omega) hwf)
  rw [hq] at HIW
  have hl1 : decide ((20 : Int) < (ws.length : Int)) = false := decide_eq_false (by omega)
  have hl2 : decide (20 < ws.length) = false := decide_eq_false (by omega)
  clear hA hv hI hwf hq G
  obtain ⟨fa, fc, na, nc⟩ := h
  go_enter Try.func3, Try.ntmps3
  go_upto_region 1 with fail
  obtain ⟨W, hW, hg, hf, hx, hsz⟩ := two_blocks w 25 28 (cellsN ⟨fa, fc, na, nc⟩ p) #[.int .i64 sl, .int .i64 xi]
  rw [hW]
  clear hW
  have hcc := hf.cell
  have hxc := hx.cell
  have HG0 := Lib.hid hg
  have HF0 := Lib.hid hf
  have HX0 := Lib.hid hx
  clear hf hg hx
  go_wp2_with fail
  refine (HV.out W HG0.out).mono ?_
  rintro e w1 ⟨rfl, hb1⟩
  have HG1 : Hid (Grow w w1) := Lib.hid (HG0.out.trans hb1)
  have HF1 := Lib.hid ((show Grow W w1 from hb1).block HF0.out)
  have HX1 := Lib.hid ((show Grow W w1 from hb1).block HX0.out)
  have hcc := HF1.out.cell
  have hxc := HX1.out.cell
  clear hb1
  clear HF0 HX0
  go_wp2_with fail
  refine (HIW.out w1 HG1.out).mono ?_
  rintro e w2 ⟨rfl, hb2⟩
  have HG2 : Hid (Grow w w2) := Lib.hid (HG1.out.trans hb2)
  have HF2 := Lib.hid ((show Grow w1 w2 from hb2).block HF1.out)
  have HX2 := Lib.hid ((show Grow w1 w2 from hb2).block HX1.out)
  have hcc := HF2.out.cell
  have hxc := HX2.out.cell
  clear hb2
  clear HF1 HX1
  go_wp2_with fail
  refine (works_any _).mono ?_
  rintro e w9 ⟨rfl, hb9⟩
  have HG9 : Hid (Grow w w9) := Lib.hid (HG2.out.trans hb9)
  clear hb9
  go_wp2
  go_ret
  exact ⟨by simp, HG9.out⟩

set_option maxRecDepth 100000 in
set_option maxHeartbeats 8000000 in
theorem coverIll_good (h : PoolH) (p : Pool) (G : Good p) (A : Option Addr) (cap : Nat) (gs : List Nat) (sl xi : Int) (w : World) (hA : PoolAt w w.heap.size h p.i) (hv : validI p.i = true) (hI : Ints w w.heap.size A (natsL gs)) (hl : gs.length ≤ 20) (hwt : Watch p gs) (hxw : -9223372036854775808 ≤ xi ∧ xi < 9223372036854775808) :
    Calls Try.prog 3 #[poolN h p, .slice A gs.length cap, .agg #[.int .i64 sl, .int .i64 xi]] w fun e w' => e = .returned (.bool true) ∧ Below w.heap.size w w' := by
  have HV := Lib.hid (fun (w0 : World) (hw : Grow w w0) => valid_any h p.i w0 (hA.grow hw))
  rw [hv, pool_i] at HV
  have hl1 : decide ((20 : Int) < (gs.length : Int)) = false := decide_eq_false (by omega)
  have hl2 : decide (20 < gs.length) = false := decide_eq_false (by omega)
  have hok : okPool p.i = true := by unfold validI at hv; rw [Bool.and_eq_true] at hv; exact hv.2
  have hsh : Short p.i := by unfold validI at hv; rw [Bool.and_eq_true, Bool.not_eq_true'] at hv; exact far_short hv.1
  have HIW := Lib.hid (fun (w0 : World) (hw : Grow w w0) => rIsWatch_any h p G A cap (natsL gs) w0 (hA.grow hw) ((hI.below hw).more hw.size) (by simp only [natsL_length]; omega) (watch_wf G hwt))
  rw [ok_of_watch G hwt] at HIW
  simp only [natsL_length] at HIW
  have HSF := Lib.hid (fun (w0 : World) (hw : Grow w w0) => safeApi_any h p G hok hsh A cap gs w0 (hA.grow hw) ((hI.below hw).more hw.size) hwt)
  have HWK := Lib.hid (fun (w0 : World) (hw : Grow w w0) => weakApi_any h p G hok hsh A cap gs w0 (hA.grow hw) ((hI.below hw).more hw.size) hwt)
  have hn3 := G.n3
  have hln := hwt.len
  have hill := G.ill
  have ht3 := G.t3
  have hp8 : 2 ^ p.tn ≤ 8 := Nat.pow_le_pow_right (n := 2) (by omega) ht3
  have HIS := Lib.hid (fun (w0 : World) => rIsSlot_any h p G sl w0)
  have HIN := Lib.hid (fun (w0 : World) (hw : Grow w w0) => (hI.below hw).more hw.size)
  have HTO := Lib.hid (fun (w0 : World) (hw : Grow w w0) => rTongues_any h p G w0 (hA.grow hw))
  have HMI := Lib.hid (fun (s g T : Nat) (hs : s < p.needs.length) (hg : g < 32) (hT : T < 1000) (w0 : World) (hw : Grow w w0) => rMissing_any h p G s g T w0 (hA.grow hw) hs (by omega) (by omega))
  have HMB := Lib.hid (fun (s g T : Nat) (hs : s < p.needs.length) => miss_bounds G hs g T)
  have HG32 := Lib.hid (fun (s g : Nat) (hg : gs[s]? = some g) => hwt.g32 G hg)
  have HMO := Lib.hid (fun (s x u : Nat) (hs : s < gs.length) (hx : subN x (gs.getD s 0) = true) (hp : popD x ≤ p.ill) (hu : u < 2 ^ p.tn) => weak_most hs hx hp hu)
  have hsw := safe_weak G hwt
  have hwi := weak_is p gs
  obtain ⟨b, hb⟩ : ∃ z, weakD p gs = z := ⟨_, rfl⟩
  rw [hb] at HWK HMO hsw hwi
  obtain ⟨ok, hokd⟩ : ∃ z, safeD p gs = z := ⟨_, rfl⟩
  rw [hokd] at HSF hsw
  have HSW := Lib.hid hsw
  have HGP : Hid (ok = false → ∀ (w0 : World) (hw : Grow w w0), Calls Try.prog 16 #[poolN h p, .slice A gs.length cap, .agg (cellsGap b)] w0 fun e w' => e = .returned (.bool true) ∧ Below w0.heap.size w0 w') := Lib.hid (fun hk w0 hw => by
    rcases hwi with q | ⟨q1, q2, q3, q4, q5, q6⟩
    · have := hsw.2 (by rw [q]; rfl); rw [hk] at this; cases this
    · have hg := List.getElem?_eq_getElem q2
      have hgd : gs.getD b.slot 0 = gs[b.slot] := by rw [List.getD_eq_getElem?_getD, hg]; rfl
      rw [hgd] at q3 q6
      have h32 := hwt.g32 G hg
      exact rIsGap_t h p G A cap gs b.slot gs[b.slot] b.ill b.tongues b.missing w0 (hA.grow hw) ((hI.below hw).more hw.size) (by omega) q2 hg h32 (by have := sub_le q3; omega) q5 q6 q3 q4 q1)
  have HE : Hid (gapErr b = if ok then 3 else 0) := Lib.hid (by
    unfold gapErr
    cases ok with
    | true => rw [if_pos (hsw.1 rfl), if_pos rfl]
    | false => rw [if_neg (fun q => by have := hsw.2 q; cases this), if_neg Bool.false_ne_true])
  obtain ⟨er, her⟩ : ∃ z, gapErr b = z := ⟨_, rfl⟩
  rw [her] at HWK HE
  clear her
  have hm0 : 0 ≤ b.missing := hwi.nonneg
  have hpI : ((2 : Int) ^ p.tn) = ((2 ^ p.tn : Nat) : Int) := (Int.natCast_pow 2 _).symm
  obtain ⟨m8, hm8⟩ : ∃ z, 2 ^ p.tn = z := ⟨_, rfl⟩
  rw [hm8] at hp8 hpI HMO
  have hwr : IntKind.i64.wrap ((2 : Int) ^ p.tn) = (m8 : Int) := by rw [hpI]; exact IntWalk.i64_in _ (by omega)
  have hcv : IntKind.u64.wrap (p.tn : Int) = (p.tn : Int) := IntWalk.u64_in _ (by omega)
  have htn64 : p.tn ≤ 64 := by omega
  have htn0 : (0 : Int) ≤ (p.tn : Int) := by omega
  have HLN := Lib.hid hln
  have hz32 : ∀ g : Nat, g < 32 → ∀ z : Int, -9223372036854775808 ≤ z → z < 9223372036854775808 → (bits .andNot .i64 z (g : Int) = 0 ↔ ∃ a : Nat, z = a ∧ subN a g = true) := fun (g : Nat) hg z h1 h2 => andNot_zero z g hg h1 h2
  have HZ32 := Lib.hid hz32
  clear hA hv hI hok hsh hb hokd hsw hwi hwt G hpI hm8 hln hz32
  obtain ⟨fa, fc, na, nc⟩ := h
  go_enter Try.func3, Try.ntmps3
  go_upto_region 1 with fail
  obtain ⟨W, hW, hg, hf, hx, hsz⟩ := two_blocks w 25 28 (cellsN ⟨fa, fc, na, nc⟩ p) #[.int .i64 sl, .int .i64 xi]
  rw [hW]
  clear hW
  have hcc := hf.cell
  have hxc := hx.cell
  have HG0 := Lib.hid hg
  have HF0 := Lib.hid hf
  have HX0 := Lib.hid hx
  clear hf hg hx
  go_wp2_with fail
  refine (HV.out W HG0.out).mono ?_
  rintro e w1 ⟨rfl, hb1⟩
  have HG1 : Hid (Grow w w1) := Lib.hid (HG0.out.trans hb1)
  have HF1 := Lib.hid ((show Grow W w1 from hb1).block HF0.out)
  have HX1 := Lib.hid ((show Grow W w1 from hb1).block HX0.out)
  have hcc := HF1.out.cell
  have hxc := HX1.out.cell
  clear hb1
  clear HF0 HX0
  go_wp2_with fail
  refine (HIW.out w1 HG1.out).mono ?_
  rintro e w2 ⟨rfl, hb2⟩
  have HG2 : Hid (Grow w w2) := Lib.hid (HG1.out.trans hb2)
  have HF2 := Lib.hid ((show Grow w1 w2 from hb2).block HF1.out)
  have HX2 := Lib.hid ((show Grow w1 w2 from hb2).block HX1.out)
  have hcc := HF2.out.cell
  have hxc := HX2.out.cell
  clear hb2
  clear HF1 HX1
  go_wp2_with fail
  refine (HSF.out w2 HG2.out).mono ?_
  rintro e w3 ⟨rfl, hb3⟩
  have HG3 : Hid (Grow w w3) := Lib.hid (HG2.out.trans hb3)
  have HF3 := Lib.hid ((show Grow w2 w3 from hb3).block HF2.out)
  have HX3 := Lib.hid ((show Grow w2 w3 from hb3).block HX2.out)
  have hcc := HF3.out.cell
  have hxc := HX3.out.cell
  clear hb3
  clear HF2 HX2
  go_wp2_with fail
  refine (HWK.out w3 HG3.out).mono ?_
  rintro e w4 ⟨rfl, hb4⟩
  have HG4 : Hid (Grow w w4) := Lib.hid (HG3.out.trans hb4)
  have HF4 := Lib.hid ((show Grow w3 w4 from hb4).block HF3.out)
  have HX4 := Lib.hid ((show Grow w3 w4 from hb4).block HX3.out)
  have hcc := HF4.out.cell
  have hxc := HX4.out.cell
  clear hb4
  clear HF3 HX3
  go_upto_region 5 with fail
  obtain ⟨W6, hW6, hg6, hb6, hsz6⟩ := one_block w4 36 (cellsGap b)
  rw [hW6]
  clear hW6
  have HG6 : Hid (Grow w W6) := Lib.hid (HG4.out.trans hg6)
  have HF6 := Lib.hid (hg6.block HF4.out)
  have HX6 := Lib.hid (hg6.block HX4.out)
  obtain ⟨gb, hgb⟩ : ∃ z, w4.heap.size = z := ⟨_, rfl⟩
  rw [hgb] at hb6 hsz6 ⊢
  have HB6 := Lib.hid hb6
  have HFC := Lib.hid HF6.out.cell
  clear hgb hg6 hb6 hcc hxc HF4 HX4
  go_cut [66] (fun v wx => v = .bool false ∧ Grow W6 wx)
  case first =>
    have hcc := HF6.out.cell
    have hbc := HB6.out.cell
    have he := HE.out
    cases ok with
    | true =>
      rw [if_pos rfl] at he
      subst he
      go_wp2_with fail
      go_meet
      exact ⟨rfl, Grow.refl _⟩
    | false =>
      rw [if_neg Bool.false_ne_true] at he
      subst he
      go_wp2_with fail
      refine (HGP.out (by first | rfl | trivial) W6 HG6.out).mono ?_
      rintro e w9 ⟨rfl, hb9⟩
      have HG9 : Hid (Grow W6 w9) := hb9
      clear hb9 hcc hbc
      go_wp2
      go_meet
      exact ⟨rfl, HG9.out⟩
  case rest =>
    obtain ⟨rfl, hgc⟩ := hcut
    rename World => w6
    have HG6' : Hid (Grow w w6) := Lib.hid (HG6.out.trans hgc)
    have HF6' := Lib.hid ((show Grow W6 w6 from hgc).block HF6.out)
    have HX6' := Lib.hid ((show Grow W6 w6 from hgc).block HX6.out)
    have HB6' := Lib.hid ((show Grow W6 w6 from hgc).block HB6.out)
    clear hgc HG6 HF6 HX6 HB6 hsz6 HFC
    rename Hid (Grow w w6) => HG6
    rename World => W6
    have HF6 := HF6'
    have HX6 := HX6'
    have HB6 := HB6'
    clear HF6' HX6' HB6'
    cases his : inB sl 0 ((p.needs.length : Int) - 1) with
    | false =>
      rw [his] at HIS
      clear his
      go_upto_region 7 with fail
      refine wp_region_lit 29 [[], [], [(1, 68)], [(0, 67), (2, 69)], [(3, 70)], [(4, 71)], [(5, 72)], [(5, 72), (6, 73)], [(5, 72), (7, 74)], [(5, 72), (8, 75)], [(9, 76)], [(10, 77)], [(10, 77), (11, 78)], [(10, 77)], [(10, 77)], [(10, 77), (14, 81)], [(10, 77), (13, 80), (15, 82)], [(10, 77), (16, 83)], [(10, 77), (12, 79), (17, 84)], [(10, 77), (18, 85)], [(10, 77), (19, 86)], [(20, 87)], [(21, 88)], [(21, 88), (22, 89)], [(21, 88), (23, 90)], [(21, 88)], [(21, 88), (25, 92)], [(21, 88), (24, 91), (26, 93)], [(21, 88), (27, 94)]] Grow (fun qi v w' => match qi with
          | 0 => v = poolN ⟨fa, fc, na, nc⟩ p
          | 1 => v = .pointer (some ⟨w.heap.size + 1, 0, none⟩)
          | 2 => v = .int .i64 sl
          | 3 => v = .bool false
          | 4 => v = .bool true
          | 5 => v = .bool true
          | 6 => v = undef
          | 7 => v = undef
          | 8 => v = undef
          | 9 => v = .bool true
          | 10 => v = .bool true
          | 11 => v = undef
          | 12 => v = undef
          | 13 => v = undef
          | 14 => v = undef
          | 15 => v = undef
          | 16 => v = undef
          | 17 => v = undef
          | 18 => v = undef
          | 19 => v = undef
          | 20 => v = .bool true
          | 21 => v = .bool true
          | 22 => v = undef
          | 23 => v = undef
          | 24 => v = undef
          | 25 => v = undef
          | 26 => v = undef
          | 27 => v = undef
          | 28 => v = .bool true
          | _ => False) (by kernel_rfl) (by kernel_rfl) (fun _ _ _ => Grow.trans) Grow.refl ?_ ?_ ?_
      · intro i v y y' h k
        match i, h with
        | 0, h | 1, h | 2, h | 3, h | 4, h | 5, h | 6, h | 7, h | 8, h | 9, h | 10, h | 11, h | 12, h | 13, h | 14, h | 15, h | 16, h | 17, h | 18, h | 19, h | 20, h | 21, h | 22, h | 23, h | 24, h | 25, h | 26, h | 27, h | 28, h => exact h
      · simp only [StepsLit, List.take_succ_cons, List.take_zero]
        refine ⟨?_, ?_, ?_, ?_, ?_, ?_, ?_, ?_, ?_, ?_, ?_, ?_, ?_, ?_, ?_, ?_, ?_, ?_, ?_, ?_, ?_, ?_, ?_, ?_, ?_, ?_, ?_, ?_, ?_, trivial⟩
        · intro w5 hR
          have hGw : Grow W6 w5 := hR.of_drew
          have HGW := Lib.hid hGw
          have hcc := (HGW.out.block HF6.out).cell
          have hxc := (HGW.out.block HX6.out).cell
          clear hR hGw
          simp only [depV]
          try go_simp
          all_goals first
            | (with_reducible exact Grow.refl _)
            | (with_reducible exact ⟨Grow.refl _, rfl⟩)
        · intro w5 hR
          have hGw : Grow W6 w5 := hR.of_drew
          have HGW := Lib.hid hGw
          have hcc := (HGW.out.block HF6.out).cell
          have hxc := (HGW.out.block HX6.out).cell
          clear hR hGw
          simp only [depV]
          try go_simp
          all_goals first
            | (with_reducible exact Grow.refl _)
            | (with_reducible exact ⟨Grow.refl _, rfl⟩)
        · intro w5 hR
          have hGw : Grow W6 w5 := hR.of_drew
          have HGW := Lib.hid hGw
          have hcc := (HGW.out.block HF6.out).cell
          have hxc := (HGW.out.block HX6.out).cell
          clear hR hGw
          simp only [depV]
          rintro _ rfl
          try go_simp
          all_goals first
            | (with_reducible exact Grow.refl _)
            | (with_reducible exact ⟨Grow.refl _, rfl⟩)
        · intro w5 hR
          have hGw : Grow W6 w5 := hR.of_drew
          have HGW := Lib.hid hGw
          have hcc := (HGW.out.block HF6.out).cell
          have hxc := (HGW.out.block HX6.out).cell
          clear hR hGw
          simp only [depV]
          rintro _ rfl
          rintro _ rfl
          try go_simp
          refine (HIS.out w5).mono ?_
          rintro e w6 ⟨rfl, hb6⟩
          exact ⟨hb6, rfl⟩
        · intro w5 hR
          have hGw : Grow W6 w5 := hR.of_drew
          have HGW := Lib.hid hGw
          have hcc := (HGW.out.block HF6.out).cell
          have hxc := (HGW.out.block HX6.out).cell
          clear hR hGw
          simp only [depV]
          rintro _ rfl
          try go_simp
          all_goals first
            | (with_reducible exact Grow.refl _)
            | (with_reducible exact ⟨Grow.refl _, rfl⟩)
        · intro w5 hR
          have hGw : Grow W6 w5 := hR.of_drew
          have HGW := Lib.hid hGw
          have hcc := (HGW.out.block HF6.out).cell
          have hxc := (HGW.out.block HX6.out).cell
          clear hR hGw
          simp only [depV]
          rintro _ rfl
          try go_simp
          all_goals first
            | (with_reducible exact Grow.refl _)
            | (with_reducible exact ⟨Grow.refl _, rfl⟩)
        · intro w5 hR
          have hGw : Grow W6 w5 := hR.of_drew
          have HGW := Lib.hid hGw
          have hcc := (HGW.out.block HF6.out).cell
          have hxc := (HGW.out.block HX6.out).cell
          clear hR hGw
          simp only [depV]
          rintro _ rfl
          try go_simp
          all_goals first
            | (with_reducible exact Grow.refl _)
            | (with_reducible exact ⟨Grow.refl _, rfl⟩)
        · intro w5 hR
          have hGw : Grow W6 w5 := hR.of_drew
          have HGW := Lib.hid hGw
          have hcc := (HGW.out.block HF6.out).cell
          have hxc := (HGW.out.block HX6.out).cell
          clear hR hGw
          simp only [depV]
          rintro _ rfl
          rintro _ rfl
          try go_simp
          all_goals first
            | (with_reducible exact Grow.refl _)
            | (with_reducible exact ⟨Grow.refl _, rfl⟩)
        · intro w5 hR
          have hGw : Grow W6 w5 := hR.of_drew
          have HGW := Lib.hid hGw
          have hcc := (HGW.out.block HF6.out).cell
          have hxc := (HGW.out.block HX6.out).cell
          clear hR hGw
          simp only [depV]
          rintro _ rfl
          rintro _ rfl
          try go_simp
          all_goals first
            | (with_reducible exact Grow.refl _)
            | (with_reducible exact ⟨Grow.refl _, rfl⟩)
        · intro w5 hR
          have hGw : Grow W6 w5 := hR.of_drew
          have HGW := Lib.hid hGw
          have hcc := (HGW.out.block HF6.out).cell
          have hxc := (HGW.out.block HX6.out).cell
          clear hR hGw
          simp only [depV]
          rintro _ rfl
          rintro _ rfl
          try go_simp
          all_goals first
            | (with_reducible exact Grow.refl _)
            | (with_reducible exact ⟨Grow.refl _, rfl⟩)
        · intro w5 hR
          have hGw : Grow W6 w5 := hR.of_drew
          have HGW := Lib.hid hGw
          have hcc := (HGW.out.block HF6.out).cell
          have hxc := (HGW.out.block HX6.out).cell
          clear hR hGw
          simp only [depV]
          rintro _ rfl
          try go_simp
          all_goals first
            | (with_reducible exact Grow.refl _)
            | (with_reducible exact ⟨Grow.refl _, rfl⟩)
        · intro w5 hR
          have hGw : Grow W6 w5 := hR.of_drew
          have HGW := Lib.hid hGw
          have hcc := (HGW.out.block HF6.out).cell
          have hxc := (HGW.out.block HX6.out).cell
          clear hR hGw
          simp only [depV]
          rintro _ rfl
          try go_simp
          all_goals first
            | (with_reducible exact Grow.refl _)
            | (with_reducible exact ⟨Grow.refl _, rfl⟩)
        · intro w5 hR
          have hGw : Grow W6 w5 := hR.of_drew
          have HGW := Lib.hid hGw
          have hcc := (HGW.out.block HF6.out).cell
          have hxc := (HGW.out.block HX6.out).cell
          clear hR hGw
          simp only [depV]
          rintro _ rfl
          rintro _ rfl
          try go_simp
          all_goals first
            | (with_reducible exact Grow.refl _)
            | (with_reducible exact ⟨Grow.refl _, rfl⟩)
        · intro w5 hR
          have hGw : Grow W6 w5 := hR.of_drew
          have HGW := Lib.hid hGw
          have hcc := (HGW.out.block HF6.out).cell
          have hxc := (HGW.out.block HX6.out).cell
          clear hR hGw
          simp only [depV]
          rintro _ rfl
          try go_simp
          all_goals first
            | (with_reducible exact Grow.refl _)
            | (with_reducible exact ⟨Grow.refl _, rfl⟩)
        · intro w5 hR
          have hGw : Grow W6 w5 := hR.of_drew
          have HGW := Lib.hid hGw
          have hcc := (HGW.out.block HF6.out).cell
          have hxc := (HGW.out.block HX6.out).cell
          clear hR hGw
          simp only [depV]
          rintro _ rfl
          try go_simp
          all_goals first
            | (with_reducible exact Grow.refl _)
            | (with_reducible exact ⟨Grow.refl _, rfl⟩)
        · intro w5 hR
          have hGw : Grow W6 w5 := hR.of_drew
          have HGW := Lib.hid hGw
          have hcc := (HGW.out.block HF6.out).cell
          have hxc := (HGW.out.block HX6.out).cell
          clear hR hGw
          simp only [depV]
          rintro _ rfl
          rintro _ rfl
          try go_simp
          all_goals first
            | (with_reducible exact Grow.refl _)
            | (with_reducible exact ⟨Grow.refl _, rfl⟩)
        · intro w5 hR
          have hGw : Grow W6 w5 := hR.of_drew
          have HGW := Lib.hid hGw
          have hcc := (HGW.out.block HF6.out).cell
          have hxc := (HGW.out.block HX6.out).cell
          clear hR hGw
          simp only [depV]
          rintro _ rfl
          rintro _ rfl
          rintro _ rfl
          try go_simp
          all_goals first
            | (with_reducible exact Grow.refl _)
            | (with_reducible exact ⟨Grow.refl _, rfl⟩)
        · intro w5 hR
          have hGw : Grow W6 w5 := hR.of_drew
          have HGW := Lib.hid hGw
          have hcc := (HGW.out.block HF6.out).cell
          have hxc := (HGW.out.block HX6.out).cell
          clear hR hGw
          simp only [depV]
          rintro _ rfl
          rintro _ rfl
          try go_simp
          all_goals first
            | (with_reducible exact Grow.refl _)
            | (with_reducible exact ⟨Grow.refl _, rfl⟩)
        · intro w5 hR
          have hGw : Grow W6 w5 := hR.of_drew
          have HGW := Lib.hid hGw
          have hcc := (HGW.out.block HF6.out).cell
          have hxc := (HGW.out.block HX6.out).cell
          clear hR hGw
          simp only [depV]
          rintro _ rfl
          rintro _ rfl
          rintro _ rfl
          try go_simp
          all_goals first
            | (with_reducible exact Grow.refl _)
            | (with_reducible exact ⟨Grow.refl _, rfl⟩)
        · intro w5 hR
          have hGw : Grow W6 w5 := hR.of_drew
          have HGW := Lib.hid hGw
          have hcc := (HGW.out.block HF6.out).cell
          have hxc := (HGW.out.block HX6.out).cell
          clear hR hGw
          simp only [depV]
          rintro _ rfl
          rintro _ rfl
          try go_simp
          all_goals first
            | (with_reducible exact Grow.refl _)
            | (with_reducible exact ⟨Grow.refl _, rfl⟩)
        · intro w5 hR
          have hGw : Grow W6 w5 := hR.of_drew
          have HGW := Lib.hid hGw
          have hcc := (HGW.out.block HF6.out).cell
          have hxc := (HGW.out.block HX6.out).cell
          clear hR hGw
          simp only [depV]
          rintro _ rfl
          rintro _ rfl
          try go_simp
          all_goals first
            | (with_reducible exact Grow.refl _)
            | (with_reducible exact ⟨Grow.refl _, rfl⟩)
        · intro w5 hR
          have hGw : Grow W6 w5 := hR.of_drew
          have HGW := Lib.hid hGw
          have hcc := (HGW.out.block HF6.out).cell
          have hxc := (HGW.out.block HX6.out).cell
          clear hR hGw
          simp only [depV]
          rintro _ rfl
          try go_simp
          all_goals first
            | (with_reducible exact Grow.refl _)
            | (with_reducible exact ⟨Grow.refl _, rfl⟩)
        · intro w5 hR
          have hGw : Grow W6 w5 := hR.of_drew
          have HGW := Lib.hid hGw
          have hcc := (HGW.out.block HF6.out).cell
          have hxc := (HGW.out.block HX6.out).cell
          clear hR hGw
          simp only [depV]
          rintro _ rfl
          try go_simp
          all_goals first
            | (with_reducible exact Grow.refl _)
            | (with_reducible exact ⟨Grow.refl _, rfl⟩)
        · intro w5 hR
          have hGw : Grow W6 w5 := hR.of_drew
          have HGW := Lib.hid hGw
          have hcc := (HGW.out.block HF6.out).cell
          have hxc := (HGW.out.block HX6.out).cell
          clear hR hGw
          simp only [depV]
          rintro _ rfl
          rintro _ rfl
          try go_simp
          all_goals first
            | (with_reducible exact Grow.refl _)
            | (with_reducible exact ⟨Grow.refl _, rfl⟩)
        · intro w5 hR
          have hGw : Grow W6 w5 := hR.of_drew
          have HGW := Lib.hid hGw
          have hcc := (HGW.out.block HF6.out).cell
          have hxc := (HGW.out.block HX6.out).cell
          clear hR hGw
          simp only [depV]
          rintro _ rfl
          rintro _ rfl
          try go_simp
          all_goals first
            | (with_reducible exact Grow.refl _)
            | (with_reducible exact ⟨Grow.refl _, rfl⟩)
        · intro w5 hR
          have hGw : Grow W6 w5 := hR.of_drew
          have HGW := Lib.hid hGw
          have hcc := (HGW.out.block HF6.out).cell
          have hxc := (HGW.out.block HX6.out).cell
          clear hR hGw
          simp only [depV]
          rintro _ rfl
          try go_simp
          all_goals first
            | (with_reducible exact Grow.refl _)
            | (with_reducible exact ⟨Grow.refl _, rfl⟩)
        · intro w5 hR
          have hGw : Grow W6 w5 := hR.of_drew
          have HGW := Lib.hid hGw
          have hcc := (HGW.out.block HF6.out).cell
          have hxc := (HGW.out.block HX6.out).cell
          clear hR hGw
          simp only [depV]
          rintro _ rfl
          rintro _ rfl
          try go_simp
          all_goals first
            | (with_reducible exact Grow.refl _)
            | (with_reducible exact ⟨Grow.refl _, rfl⟩)
        · intro w5 hR
          have hGw : Grow W6 w5 := hR.of_drew
          have HGW := Lib.hid hGw
          have hcc := (HGW.out.block HF6.out).cell
          have hxc := (HGW.out.block HX6.out).cell
          clear hR hGw
          simp only [depV]
          rintro _ rfl
          rintro _ rfl
          rintro _ rfl
          try go_simp
          all_goals first
            | (with_reducible exact Grow.refl _)
            | (with_reducible exact ⟨Grow.refl _, rfl⟩)
        · intro w5 hR
          have hGw : Grow W6 w5 := hR.of_drew
          have HGW := Lib.hid hGw
          have hcc := (HGW.out.block HF6.out).cell
          have hxc := (HGW.out.block HX6.out).cell
          clear hR hGw
          simp only [depV]
          rintro _ rfl
          rintro _ rfl
          try go_simp
          all_goals first
            | (with_reducible exact Grow.refl _)
            | (with_reducible exact ⟨Grow.refl _, rfl⟩)
      · intro w5 hR
        have HG5 : Hid (Grow W6 w5) := Lib.hid hR.of_drew
        clear hR
        simp only [finVC, List.take_succ_cons, List.take_zero, List.drop_succ_cons, List.drop_zero]
        rintro _ rfl
        rintro _ rfl
        rintro _ rfl
        rintro _ rfl
        rintro _ rfl
        rintro _ rfl
        rintro _ rfl
        rintro _ rfl
        rintro _ rfl
        rintro _ rfl
        rintro _ rfl
        rintro _ rfl
        rintro _ rfl
        rintro _ rfl
        rintro _ rfl
        rintro _ rfl
        rintro _ rfl
        rintro _ rfl
        rintro _ rfl
        rintro _ rfl
        rintro _ rfl
        rintro _ rfl
        rintro _ rfl
        rintro _ rfl
        rintro _ rfl
        rintro _ rfl
        rintro _ rfl
        rintro _ rfl
        rintro _ rfl
        simp only [Act.put, List.setIfInBounds_toArray, List.set_cons_succ, List.set_cons_zero]
        go_wp2_with fail
        refine (works_any _).mono ?_
        rintro e w9 ⟨rfl, hb9⟩
        have HG9 : Hid (Grow w w9) := Lib.hid ((HG6.out.trans HG5.out).trans hb9)
        clear hb9
        go_wp2
        go_ret
        exact ⟨by simp, HG9.out⟩

    | true =>
      rw [his] at HIS
      rw [inB_iff] at his
      obtain ⟨s, rfl⟩ : ∃ s : Nat, sl = (s : Int) := ⟨sl.toNat, by omega⟩
      have hsn : s < p.needs.length := by omega
      have hsl : s < gs.length := by have := HLN.out; omega
      have hs0 : (0 : Int) ≤ (s : Int) := by omega
      have hs1 : (s : Int) < (gs.length : Int) := by omega
      clear his
      by_cases hxn : xi < 0
      · have hxd : decide (xi < 0) = true := decide_eq_true hxn
        go_upto_region 7 with fail
        refine wp_region_lit 29 [[], [], [(1, 68)], [(0, 67), (2, 69)], [(3, 70)], [(4, 71)], [(5, 72)], [(5, 72), (6, 73)], [(5, 72), (7, 74)], [(5, 72), (8, 75)], [(9, 76)], [(10, 77)], [(10, 77), (11, 78)], [(10, 77)], [(10, 77)], [(10, 77), (14, 81)], [(10, 77), (13, 80), (15, 82)], [(10, 77), (16, 83)], [(10, 77), (12, 79), (17, 84)], [(10, 77), (18, 85)], [(10, 77), (19, 86)], [(20, 87)], [(21, 88)], [(21, 88), (22, 89)], [(21, 88), (23, 90)], [(21, 88)], [(21, 88), (25, 92)], [(21, 88), (24, 91), (26, 93)], [(21, 88), (27, 94)]] Grow (fun qi v w' => match qi with
            | 0 => v = poolN ⟨fa, fc, na, nc⟩ p
            | 1 => v = .pointer (some ⟨w.heap.size + 1, 0, none⟩)
            | 2 => v = .int .i64 (s : Nat)
            | 3 => v = .bool true
            | 4 => v = .bool false
            | 5 => v = .bool false
            | 6 => v = .pointer (some ⟨w.heap.size + 1, 1, none⟩)
            | 7 => v = .int .i64 xi
            | 8 => v = .bool true
            | 9 => v = .bool true
            | 10 => v = .bool true
            | 11 => v = undef
            | 12 => v = undef
            | 13 => v = undef
            | 14 => v = undef
            | 15 => v = undef
            | 16 => v = undef
            | 17 => v = undef
            | 18 => v = undef
            | 19 => v = undef
            | 20 => v = .bool true
            | 21 => v = .bool true
            | 22 => v = undef
            | 23 => v = undef
            | 24 => v = undef
            | 25 => v = undef
            | 26 => v = undef
            | 27 => v = undef
            | 28 => v = .bool true
            | _ => False) (by kernel_rfl) (by kernel_rfl) (fun _ _ _ => Grow.trans) Grow.refl ?_ ?_ ?_
        · intro i v y y' h k
          match i, h with
          | 0, h | 1, h | 2, h | 3, h | 4, h | 5, h | 6, h | 7, h | 8, h | 9, h | 10, h | 11, h | 12, h | 13, h | 14, h | 15, h | 16, h | 17, h | 18, h | 19, h | 20, h | 21, h | 22, h | 23, h | 24, h | 25, h | 26, h | 27, h | 28, h => exact h
        · simp only [StepsLit, List.take_succ_cons, List.take_zero]
          refine ⟨?_, ?_, ?_, ?_, ?_, ?_, ?_, ?_, ?_, ?_, ?_, ?_, ?_, ?_, ?_, ?_, ?_, ?_, ?_, ?_, ?_, ?_, ?_, ?_, ?_, ?_, ?_, ?_, ?_, trivial⟩
          · intro w5 hR
            have hGw : Grow W6 w5 := hR.of_drew
            have HGW := Lib.hid hGw
            have hcc := (HGW.out.block HF6.out).cell
            have hxc := (HGW.out.block HX6.out).cell
            clear hR hGw
            simp only [depV]
            try go_simp
            all_goals first
              | (with_reducible exact Grow.refl _)
              | (with_reducible exact ⟨Grow.refl _, rfl⟩)
          · intro w5 hR
            have hGw : Grow W6 w5 := hR.of_drew
            have HGW := Lib.hid hGw
            have hcc := (HGW.out.block HF6.out).cell
            have hxc := (HGW.out.block HX6.out).cell
            clear hR hGw
            simp only [depV]
            try go_simp
            all_goals first
              | (with_reducible exact Grow.refl _)
              | (with_reducible exact ⟨Grow.refl _, rfl⟩)
          · intro w5 hR
            have hGw : Grow W6 w5 := hR.of_drew
            have HGW := Lib.hid hGw
            have hcc := (HGW.out.block HF6.out).cell
            have hxc := (HGW.out.block HX6.out).cell
            clear hR hGw
            simp only [depV]
            rintro _ rfl
            try go_simp
            all_goals first
              | (with_reducible exact Grow.refl _)
              | (with_reducible exact ⟨Grow.refl _, rfl⟩)
          · intro w5 hR
            have hGw : Grow W6 w5 := hR.of_drew
            have HGW := Lib.hid hGw
            have hcc := (HGW.out.block HF6.out).cell
            have hxc := (HGW.out.block HX6.out).cell
            clear hR hGw
            simp only [depV]
            rintro _ rfl
            rintro _ rfl
            try go_simp
            refine (HIS.out w5).mono ?_
            rintro e w6 ⟨rfl, hb6⟩
            exact ⟨hb6, rfl⟩
          · intro w5 hR
            have hGw : Grow W6 w5 := hR.of_drew
            have HGW := Lib.hid hGw
            have hcc := (HGW.out.block HF6.out).cell
            have hxc := (HGW.out.block HX6.out).cell
            clear hR hGw
            simp only [depV]
            rintro _ rfl
            try go_simp
            all_goals first
              | (with_reducible exact Grow.refl _)
              | (with_reducible exact ⟨Grow.refl _, rfl⟩)
          · intro w5 hR
            have hGw : Grow W6 w5 := hR.of_drew
            have HGW := Lib.hid hGw
            have hcc := (HGW.out.block HF6.out).cell
            have hxc := (HGW.out.block HX6.out).cell
            clear hR hGw
            simp only [depV]
            rintro _ rfl
            try go_simp
            all_goals first
              | (with_reducible exact Grow.refl _)
              | (with_reducible exact ⟨Grow.refl _, rfl⟩)
          · intro w5 hR
            have hGw : Grow W6 w5 := hR.of_drew
            have HGW := Lib.hid hGw
            have hcc := (HGW.out.block HF6.out).cell
            have hxc := (HGW.out.block HX6.out).cell
            clear hR hGw
            simp only [depV]
            rintro _ rfl
            try go_simp
            all_goals first
              | (with_reducible exact Grow.refl _)
              | (with_reducible exact ⟨Grow.refl _, rfl⟩)
          · intro w5 hR
            have hGw : Grow W6 w5 := hR.of_drew
            have HGW := Lib.hid hGw
            have hcc := (HGW.out.block HF6.out).cell
            have hxc := (HGW.out.block HX6.out).cell
            clear hR hGw
            simp only [depV]
            rintro _ rfl
            rintro _ rfl
            try go_simp
            all_goals first
              | (with_reducible exact Grow.refl _)
              | (with_reducible exact ⟨Grow.refl _, rfl⟩)
          · intro w5 hR
            have hGw : Grow W6 w5 := hR.of_drew
            have HGW := Lib.hid hGw
            have hcc := (HGW.out.block HF6.out).cell
            have hxc := (HGW.out.block HX6.out).cell
            clear hR hGw
            simp only [depV]
            rintro _ rfl
            rintro _ rfl
            try go_simp
            all_goals first
              | (with_reducible exact Grow.refl _)
              | (with_reducible exact ⟨Grow.refl _, rfl⟩)
          · intro w5 hR
            have hGw : Grow W6 w5 := hR.of_drew
            have HGW := Lib.hid hGw
            have hcc := (HGW.out.block HF6.out).cell
            have hxc := (HGW.out.block HX6.out).cell
            clear hR hGw
            simp only [depV]
            rintro _ rfl
            rintro _ rfl
            try go_simp
            all_goals first
              | (with_reducible exact Grow.refl _)
              | (with_reducible exact ⟨Grow.refl _, rfl⟩)
          · intro w5 hR
            have hGw : Grow W6 w5 := hR.of_drew
            have HGW := Lib.hid hGw
            have hcc := (HGW.out.block HF6.out).cell
            have hxc := (HGW.out.block HX6.out).cell
            clear hR hGw
            simp only [depV]
            rintro _ rfl
            try go_simp
            all_goals first
              | (with_reducible exact Grow.refl _)
              | (with_reducible exact ⟨Grow.refl _, rfl⟩)
          · intro w5 hR
            have hGw : Grow W6 w5 := hR.of_drew
            have HGW := Lib.hid hGw
            have hcc := (HGW.out.block HF6.out).cell
            have hxc := (HGW.out.block HX6.out).cell
            clear hR hGw
            simp only [depV]
            rintro _ rfl
            try go_simp
            all_goals first
              | (with_reducible exact Grow.refl _)
              | (with_reducible exact ⟨Grow.refl _, rfl⟩)
          · intro w5 hR
            have hGw : Grow W6 w5 := hR.of_drew
            have HGW := Lib.hid hGw
            have hcc := (HGW.out.block HF6.out).cell
            have hxc := (HGW.out.block HX6.out).cell
            clear hR hGw
            simp only [depV]
            rintro _ rfl
            rintro _ rfl
            try go_simp
            all_goals first
              | (with_reducible exact Grow.refl _)
              | (with_reducible exact ⟨Grow.refl _, rfl⟩)
          · intro w5 hR
            have hGw : Grow W6 w5 := hR.of_drew
            have HGW := Lib.hid hGw
            have hcc := (HGW.out.block HF6.out).cell
            have hxc := (HGW.out.block HX6.out).cell
            clear hR hGw
            simp only [depV]
            rintro _ rfl
            try go_simp
            all_goals first
              | (with_reducible exact Grow.refl _)
              | (with_reducible exact ⟨Grow.refl _, rfl⟩)
          · intro w5 hR
            have hGw : Grow W6 w5 := hR.of_drew
            have HGW := Lib.hid hGw
            have hcc := (HGW.out.block HF6.out).cell
            have hxc := (HGW.out.block HX6.out).cell
            clear hR hGw
            simp only [depV]
            rintro _ rfl
            try go_simp
            all_goals first
              | (with_reducible exact Grow.refl _)
              | (with_reducible exact ⟨Grow.refl _, rfl⟩)
          · intro w5 hR
            have hGw : Grow W6 w5 := hR.of_drew
            have HGW := Lib.hid hGw
            have hcc := (HGW.out.block HF6.out).cell
            have hxc := (HGW.out.block HX6.out).cell
            clear hR hGw
            simp only [depV]
            rintro _ rfl
            rintro _ rfl
            try go_simp
            all_goals first
              | (with_reducible exact Grow.refl _)
              | (with_reducible exact ⟨Grow.refl _, rfl⟩)
          · intro w5 hR
            have hGw : Grow W6 w5 := hR.of_drew
            have HGW := Lib.hid hGw
            have hcc := (HGW.out.block HF6.out).cell
            have hxc := (HGW.out.block HX6.out).cell
            clear hR hGw
            simp only [depV]
            rintro _ rfl
            rintro _ rfl
            rintro _ rfl
            try go_simp
            all_goals first
              | (with_reducible exact Grow.refl _)
              | (with_reducible exact ⟨Grow.refl _, rfl⟩)
          · intro w5 hR
            have hGw : Grow W6 w5 := hR.of_drew
            have HGW := Lib.hid hGw
            have hcc := (HGW.out.block HF6.out).cell
            have hxc := (HGW.out.block HX6.out).cell
            clear hR hGw
            simp only [depV]
            rintro _ rfl
            rintro _ rfl
            try go_simp
            all_goals first
              | (with_reducible exact Grow.refl _)
              | (with_reducible exact ⟨Grow.refl _, rfl⟩)
          · intro w5 hR
            have hGw : Grow W6 w5 := hR.of_drew
            have HGW := Lib.hid hGw
            have hcc := (HGW.out.block HF6.out).cell
            have hxc := (HGW.out.block HX6.out).cell
            clear hR hGw
            simp only [depV]
            rintro _ rfl
            rintro _ rfl
            rintro _ rfl
            try go_simp
            all_goals first
              | (with_reducible exact Grow.refl _)
              | (with_reducible exact ⟨Grow.refl _, rfl⟩)
          · intro w5 hR
            have hGw : Grow W6 w5 := hR.of_drew
            have HGW := Lib.hid hGw
            have hcc := (HGW.out.block HF6.out).cell
            have hxc := (HGW.out.block HX6.out).cell
            clear hR hGw
            simp only [depV]
            rintro _ rfl
            rintro _ rfl
            try go_simp
            all_goals first
              | (with_reducible exact Grow.refl _)
              | (with_reducible exact ⟨Grow.refl _, rfl⟩)
          · intro w5 hR
            have hGw : Grow W6 w5 := hR.of_drew
            have HGW := Lib.hid hGw
            have hcc := (HGW.out.block HF6.out).cell
            have hxc := (HGW.out.block HX6.out).cell
            clear hR hGw
            simp only [depV]
            rintro _ rfl
            rintro _ rfl
            try go_simp
            all_goals first
              | (with_reducible exact Grow.refl _)
              | (with_reducible exact ⟨Grow.refl _, rfl⟩)
          · intro w5 hR
            have hGw : Grow W6 w5 := hR.of_drew
            have HGW := Lib.hid hGw
            have hcc := (HGW.out.block HF6.out).cell
            have hxc := (HGW.out.block HX6.out).cell
            clear hR hGw
            simp only [depV]
            rintro _ rfl
            try go_simp
            all_goals first
              | (with_reducible exact Grow.refl _)
              | (with_reducible exact ⟨Grow.refl _, rfl⟩)
          · intro w5 hR
            have hGw : Grow W6 w5 := hR.of_drew
            have HGW := Lib.hid hGw
            have hcc := (HGW.out.block HF6.out).cell
            have hxc := (HGW.out.block HX6.out).cell
            clear hR hGw
            simp only [depV]
            rintro _ rfl
            try go_simp
            all_goals first
              | (with_reducible exact Grow.refl _)
              | (with_reducible exact ⟨Grow.refl _, rfl⟩)
          · intro w5 hR
            have hGw : Grow W6 w5 := hR.of_drew
            have HGW := Lib.hid hGw
            have hcc := (HGW.out.block HF6.out).cell
            have hxc := (HGW.out.block HX6.out).cell
            clear hR hGw
            simp only [depV]
            rintro _ rfl
            rintro _ rfl
            try go_simp
            all_goals first
              | (with_reducible exact Grow.refl _)
              | (with_reducible exact ⟨Grow.refl _, rfl⟩)
          · intro w5 hR
            have hGw : Grow W6 w5 := hR.of_drew
            have HGW := Lib.hid hGw
            have hcc := (HGW.out.block HF6.out).cell
            have hxc := (HGW.out.block HX6.out).cell
            clear hR hGw
            simp only [depV]
            rintro _ rfl
            rintro _ rfl
            try go_simp
            all_goals first
              | (with_reducible exact Grow.refl _)
              | (with_reducible exact ⟨Grow.refl _, rfl⟩)
          · intro w5 hR
            have hGw : Grow W6 w5 := hR.of_drew
            have HGW := Lib.hid hGw
            have hcc := (HGW.out.block HF6.out).cell
            have hxc := (HGW.out.block HX6.out).cell
            clear hR hGw
            simp only [depV]
            rintro _ rfl
            try go_simp
            all_goals first
              | (with_reducible exact Grow.refl _)
              | (with_reducible exact ⟨Grow.refl _, rfl⟩)
          · intro w5 hR
            have hGw : Grow W6 w5 := hR.of_drew
            have HGW := Lib.hid hGw
            have hcc := (HGW.out.block HF6.out).cell
            have hxc := (HGW.out.block HX6.out).cell
            clear hR hGw
            simp only [depV]
            rintro _ rfl
            rintro _ rfl
            try go_simp
            all_goals first
              | (with_reducible exact Grow.refl _)
              | (with_reducible exact ⟨Grow.refl _, rfl⟩)
          · intro w5 hR
            have hGw : Grow W6 w5 := hR.of_drew
            have HGW := Lib.hid hGw
            have hcc := (HGW.out.block HF6.out).cell
            have hxc := (HGW.out.block HX6.out).cell
            clear hR hGw
            simp only [depV]
            rintro _ rfl
            rintro _ rfl
            rintro _ rfl
            try go_simp
            all_goals first
              | (with_reducible exact Grow.refl _)
              | (with_reducible exact ⟨Grow.refl _, rfl⟩)
          · intro w5 hR
            have hGw : Grow W6 w5 := hR.of_drew
            have HGW := Lib.hid hGw
            have hcc := (HGW.out.block HF6.out).cell
            have hxc := (HGW.out.block HX6.out).cell
            clear hR hGw
            simp only [depV]
            rintro _ rfl
            rintro _ rfl
            try go_simp
            all_goals first
              | (with_reducible exact Grow.refl _)
              | (with_reducible exact ⟨Grow.refl _, rfl⟩)
        · intro w5 hR
          have HG5 : Hid (Grow W6 w5) := Lib.hid hR.of_drew
          clear hR
          simp only [finVC, List.take_succ_cons, List.take_zero, List.drop_succ_cons, List.drop_zero]
          rintro _ rfl
          rintro _ rfl
          rintro _ rfl
          rintro _ rfl
          rintro _ rfl
          rintro _ rfl
          rintro _ rfl
          rintro _ rfl
          rintro _ rfl
          rintro _ rfl
          rintro _ rfl
          rintro _ rfl
          rintro _ rfl
          rintro _ rfl
          rintro _ rfl
          rintro _ rfl
          rintro _ rfl
          rintro _ rfl
          rintro _ rfl
          rintro _ rfl
          rintro _ rfl
          rintro _ rfl
          rintro _ rfl
          rintro _ rfl
          rintro _ rfl
          rintro _ rfl
          rintro _ rfl
          rintro _ rfl
          rintro _ rfl
          simp only [Act.put, List.setIfInBounds_toArray, List.set_cons_succ, List.set_cons_zero]
          go_wp2_with fail
          refine (works_any _).mono ?_
          rintro e w9 ⟨rfl, hb9⟩
          have HG9 : Hid (Grow w w9) := Lib.hid ((HG6.out.trans HG5.out).trans hb9)
          clear hb9
          go_wp2
          go_ret
          exact ⟨by simp, HG9.out⟩

      · have hxd : decide (xi < 0) = false := decide_eq_false hxn
        obtain ⟨ab, ao, g, rfl, hab, hac0, HXX⟩ := ints_nat (HIN.out W6 HG6.out) hsl
        have HAC := Lib.hid hac0
        have hg32 := HG32.out s g HXX.out
        have hzz := HZ32.out g hg32 xi hxw.1 hxw.2
        clear hac0
        by_cases hz : bits .andNot .i64 xi (g : Int) = 0
        · obtain ⟨x, rfl, hsub⟩ := hzz.1 hz
          have HZV := Lib.hid hz
          have hx32 : x < 32 := by have := sub_le hsub; omega
          have HSZ := Lib.hid (fun (w0 : World) => rSize_any x w0 (by omega))
          have hp5 := pop_le5 x hx32
          have hgd : gs.getD s 0 = g := by rw [List.getD_eq_getElem?_getD, HXX.out]; rfl
          have HMS0 : Hid (popD x ≤ p.ill → ∀ u, u < m8 → miss p s (diffN g x) u ≤ b.missing) := Lib.hid (fun hp u hu => by have h1 := HMO.out s x u hsl (by rw [hgd]; exact hsub) hp hu; rwa [hgd] at h1)
          have hdv32 : diffN g x < 32 := by have := sub_le (diff_sub g x); omega
          have HAN := Lib.hid (andNot_nat g x (by omega) (by omega))
          obtain ⟨pp, hpp⟩ : ∃ z, popD x = z := ⟨_, rfl⟩
          rw [hpp] at HSZ hp5 HMS0
          clear hzz hz hpp hgd hsub
          by_cases hpi : p.ill < pp
          · have HPB : Hid (decide (p.ill < pp) = true) := Lib.hid (decide_eq_true hpi)
            go_upto_region 7 with fail
            refine wp_region_lit 29 [[], [], [(1, 68)], [(0, 67), (2, 69)], [(3, 70)], [(4, 71)], [(5, 72)], [(5, 72), (6, 73)], [(5, 72), (7, 74)], [(5, 72), (8, 75)], [(9, 76)], [(10, 77)], [(10, 77), (11, 78)], [(10, 77)], [(10, 77)], [(10, 77), (14, 81)], [(10, 77), (13, 80), (15, 82)], [(10, 77), (16, 83)], [(10, 77), (12, 79), (17, 84)], [(10, 77), (18, 85)], [(10, 77), (19, 86)], [(20, 87)], [(21, 88)], [(21, 88), (22, 89)], [(21, 88), (23, 90)], [(21, 88)], [(21, 88), (25, 92)], [(21, 88), (24, 91), (26, 93)], [(21, 88), (27, 94)]] Grow (fun qi v w' => match qi with
                | 0 => v = poolN ⟨fa, fc, na, nc⟩ p
                | 1 => v = .pointer (some ⟨w.heap.size + 1, 0, none⟩)
                | 2 => v = .int .i64 (s : Nat)
                | 3 => v = .bool true
                | 4 => v = .bool false
                | 5 => v = .bool false
                | 6 => v = .pointer (some ⟨w.heap.size + 1, 1, none⟩)
                | 7 => v = .int .i64 (x : Nat)
                | 8 => v = .bool false
                | 9 => v = .bool false
                | 10 => v = .bool false
                | 11 => v = .pointer (some ⟨w.heap.size + 1, 1, none⟩)
                | 12 => v = .int .i64 (x : Nat)
                | 13 => v = .slice (some ⟨ab, ao, none⟩) gs.length cap
                | 14 => v = .pointer (some ⟨w.heap.size + 1, 0, none⟩)
                | 15 => v = .int .i64 (s : Nat)
                | 16 => v = .pointer (some ⟨ab, ao + s, none⟩)
                | 17 => v = .int .i64 (g : Nat)
                | 18 => v = .int .i64 0
                | 19 => v = .bool false
                | 20 => v = .bool false
                | 21 => v = .bool false
                | 22 => v = .pointer (some ⟨w.heap.size + 1, 1, none⟩)
                | 23 => v = .int .i64 (x : Nat)
                | 24 => v = .int .i64 (pp : Nat)
                | 25 => v = .pointer (some ⟨w.heap.size, 2, none⟩)
                | 26 => v = .int .i64 (p.ill : Nat)
                | 27 => v = .bool true
                | 28 => v = .bool true
                | _ => False) (by kernel_rfl) (by kernel_rfl) (fun _ _ _ => Grow.trans) Grow.refl ?_ ?_ ?_
            · intro i v y y' h k
              match i, h with
              | 0, h | 1, h | 2, h | 3, h | 4, h | 5, h | 6, h | 7, h | 8, h | 9, h | 10, h | 11, h | 12, h | 13, h | 14, h | 15, h | 16, h | 17, h | 18, h | 19, h | 20, h | 21, h | 22, h | 23, h | 24, h | 25, h | 26, h | 27, h | 28, h => exact h
            · simp only [StepsLit, List.take_succ_cons, List.take_zero]
              refine ⟨?_, ?_, ?_, ?_, ?_, ?_, ?_, ?_, ?_, ?_, ?_, ?_, ?_, ?_, ?_, ?_, ?_, ?_, ?_, ?_, ?_, ?_, ?_, ?_, ?_, ?_, ?_, ?_, ?_, trivial⟩
              · intro w5 hR
                have hGw : Grow W6 w5 := hR.of_drew
                have HGW := Lib.hid hGw
                have hcc := (HGW.out.block HF6.out).cell
                have hxc := (HGW.out.block HX6.out).cell
                have hac := HGW.out.cell HAC.out
                clear hR hGw
                simp only [depV]
                try go_simp
                all_goals first
                  | (with_reducible exact Grow.refl _)
                  | (with_reducible exact ⟨Grow.refl _, rfl⟩)
              · intro w5 hR
                have hGw : Grow W6 w5 := hR.of_drew
                have HGW := Lib.hid hGw
                have hcc := (HGW.out.block HF6.out).cell
                have hxc := (HGW.out.block HX6.out).cell
                have hac := HGW.out.cell HAC.out
                clear hR hGw
                simp only [depV]
                try go_simp
                all_goals first
                  | (with_reducible exact Grow.refl _)
                  | (with_reducible exact ⟨Grow.refl _, rfl⟩)
              · intro w5 hR
                have hGw : Grow W6 w5 := hR.of_drew
                have HGW := Lib.hid hGw
                have hcc := (HGW.out.block HF6.out).cell
                have hxc := (HGW.out.block HX6.out).cell
                have hac := HGW.out.cell HAC.out
                clear hR hGw
                simp only [depV]
                rintro _ rfl
                try go_simp
                all_goals first
                  | (with_reducible exact Grow.refl _)
                  | (with_reducible exact ⟨Grow.refl _, rfl⟩)
              · intro w5 hR
                have hGw : Grow W6 w5 := hR.of_drew
                have HGW := Lib.hid hGw
                have hcc := (HGW.out.block HF6.out).cell
                have hxc := (HGW.out.block HX6.out).cell
                have hac := HGW.out.cell HAC.out
                clear hR hGw
                simp only [depV]
                rintro _ rfl
                rintro _ rfl
                try go_simp
                refine (HIS.out w5).mono ?_
                rintro e w6 ⟨rfl, hb6⟩
                exact ⟨hb6, rfl⟩
              · intro w5 hR
                have hGw : Grow W6 w5 := hR.of_drew
                have HGW := Lib.hid hGw
                have hcc := (HGW.out.block HF6.out).cell
                have hxc := (HGW.out.block HX6.out).cell
                have hac := HGW.out.cell HAC.out
                clear hR hGw
                simp only [depV]
                rintro _ rfl
                try go_simp
                all_goals first
                  | (with_reducible exact Grow.refl _)
                  | (with_reducible exact ⟨Grow.refl _, rfl⟩)
              · intro w5 hR
                have hGw : Grow W6 w5 := hR.of_drew
                have HGW := Lib.hid hGw
                have hcc := (HGW.out.block HF6.out).cell
                have hxc := (HGW.out.block HX6.out).cell
                have hac := HGW.out.cell HAC.out
                clear hR hGw
                simp only [depV]
                rintro _ rfl
                try go_simp
                all_goals first
                  | (with_reducible exact Grow.refl _)
                  | (with_reducible exact ⟨Grow.refl _, rfl⟩)
              · intro w5 hR
                have hGw : Grow W6 w5 := hR.of_drew
                have HGW := Lib.hid hGw
                have hcc := (HGW.out.block HF6.out).cell
                have hxc := (HGW.out.block HX6.out).cell
                have hac := HGW.out.cell HAC.out
                clear hR hGw
                simp only [depV]
                rintro _ rfl
                try go_simp
                all_goals first
                  | (with_reducible exact Grow.refl _)
                  | (with_reducible exact ⟨Grow.refl _, rfl⟩)
              · intro w5 hR
                have hGw : Grow W6 w5 := hR.of_drew
                have HGW := Lib.hid hGw
                have hcc := (HGW.out.block HF6.out).cell
                have hxc := (HGW.out.block HX6.out).cell
                have hac := HGW.out.cell HAC.out
                clear hR hGw
                simp only [depV]
                rintro _ rfl
                rintro _ rfl
                try go_simp
                all_goals first
                  | (with_reducible exact Grow.refl _)
                  | (with_reducible exact ⟨Grow.refl _, rfl⟩)
              · intro w5 hR
                have hGw : Grow W6 w5 := hR.of_drew
                have HGW := Lib.hid hGw
                have hcc := (HGW.out.block HF6.out).cell
                have hxc := (HGW.out.block HX6.out).cell
                have hac := HGW.out.cell HAC.out
                clear hR hGw
                simp only [depV]
                rintro _ rfl
                rintro _ rfl
                try go_simp
                all_goals first
                  | (with_reducible exact Grow.refl _)
                  | (with_reducible exact ⟨Grow.refl _, rfl⟩)
              · intro w5 hR
                have hGw : Grow W6 w5 := hR.of_drew
                have HGW := Lib.hid hGw
                have hcc := (HGW.out.block HF6.out).cell
                have hxc := (HGW.out.block HX6.out).cell
                have hac := HGW.out.cell HAC.out
                clear hR hGw
                simp only [depV]
                rintro _ rfl
                rintro _ rfl
                try go_simp
                all_goals first
                  | (with_reducible exact Grow.refl _)
                  | (with_reducible exact ⟨Grow.refl _, rfl⟩)
              · intro w5 hR
                have hGw : Grow W6 w5 := hR.of_drew
                have HGW := Lib.hid hGw
                have hcc := (HGW.out.block HF6.out).cell
                have hxc := (HGW.out.block HX6.out).cell
                have hac := HGW.out.cell HAC.out
                clear hR hGw
                simp only [depV]
                rintro _ rfl
                try go_simp
                all_goals first
                  | (with_reducible exact Grow.refl _)
                  | (with_reducible exact ⟨Grow.refl _, rfl⟩)
              · intro w5 hR
                have hGw : Grow W6 w5 := hR.of_drew
                have HGW := Lib.hid hGw
                have hcc := (HGW.out.block HF6.out).cell
                have hxc := (HGW.out.block HX6.out).cell
                have hac := HGW.out.cell HAC.out
                clear hR hGw
                simp only [depV]
                rintro _ rfl
                try go_simp
                all_goals first
                  | (with_reducible exact Grow.refl _)
                  | (with_reducible exact ⟨Grow.refl _, rfl⟩)
              · intro w5 hR
                have hGw : Grow W6 w5 := hR.of_drew
                have HGW := Lib.hid hGw
                have hcc := (HGW.out.block HF6.out).cell
                have hxc := (HGW.out.block HX6.out).cell
                have hac := HGW.out.cell HAC.out
                clear hR hGw
                simp only [depV]
                rintro _ rfl
                rintro _ rfl
                try go_simp
                all_goals first
                  | (with_reducible exact Grow.refl _)
                  | (with_reducible exact ⟨Grow.refl _, rfl⟩)
              · intro w5 hR
                have hGw : Grow W6 w5 := hR.of_drew
                have HGW := Lib.hid hGw
                have hcc := (HGW.out.block HF6.out).cell
                have hxc := (HGW.out.block HX6.out).cell
                have hac := HGW.out.cell HAC.out
                clear hR hGw
                simp only [depV]
                rintro _ rfl
                try go_simp
                all_goals first
                  | (with_reducible exact Grow.refl _)
                  | (with_reducible exact ⟨Grow.refl _, rfl⟩)
              · intro w5 hR
                have hGw : Grow W6 w5 := hR.of_drew
                have HGW := Lib.hid hGw
                have hcc := (HGW.out.block HF6.out).cell
                have hxc := (HGW.out.block HX6.out).cell
                have hac := HGW.out.cell HAC.out
                clear hR hGw
                simp only [depV]
                rintro _ rfl
                try go_simp
                all_goals first
                  | (with_reducible exact Grow.refl _)
                  | (with_reducible exact ⟨Grow.refl _, rfl⟩)
              · intro w5 hR
                have hGw : Grow W6 w5 := hR.of_drew
                have HGW := Lib.hid hGw
                have hcc := (HGW.out.block HF6.out).cell
                have hxc := (HGW.out.block HX6.out).cell
                have hac := HGW.out.cell HAC.out
                clear hR hGw
                simp only [depV]
                rintro _ rfl
                rintro _ rfl
                try go_simp
                all_goals first
                  | (with_reducible exact Grow.refl _)
                  | (with_reducible exact ⟨Grow.refl _, rfl⟩)
              · intro w5 hR
                have hGw : Grow W6 w5 := hR.of_drew
                have HGW := Lib.hid hGw
                have hcc := (HGW.out.block HF6.out).cell
                have hxc := (HGW.out.block HX6.out).cell
                have hac := HGW.out.cell HAC.out
                clear hR hGw
                simp only [depV]
                rintro _ rfl
                rintro _ rfl
                rintro _ rfl
                try go_simp
                all_goals first
                  | (with_reducible exact Grow.refl _)
                  | (with_reducible exact ⟨Grow.refl _, rfl⟩)
              · intro w5 hR
                have hGw : Grow W6 w5 := hR.of_drew
                have HGW := Lib.hid hGw
                have hcc := (HGW.out.block HF6.out).cell
                have hxc := (HGW.out.block HX6.out).cell
                have hac := HGW.out.cell HAC.out
                clear hR hGw
                simp only [depV]
                rintro _ rfl
                rintro _ rfl
                try go_simp
                all_goals first
                  | (with_reducible exact Grow.refl _)
                  | (with_reducible exact ⟨Grow.refl _, rfl⟩)
              · intro w5 hR
                have hGw : Grow W6 w5 := hR.of_drew
                have HGW := Lib.hid hGw
                have hcc := (HGW.out.block HF6.out).cell
                have hxc := (HGW.out.block HX6.out).cell
                have hac := HGW.out.cell HAC.out
                clear hR hGw
                simp only [depV]
                rintro _ rfl
                rintro _ rfl
                rintro _ rfl
                try go_simp
                exact ⟨Grow.refl _, HZV.out⟩
              · intro w5 hR
                have hGw : Grow W6 w5 := hR.of_drew
                have HGW := Lib.hid hGw
                have hcc := (HGW.out.block HF6.out).cell
                have hxc := (HGW.out.block HX6.out).cell
                have hac := HGW.out.cell HAC.out
                clear hR hGw
                simp only [depV]
                rintro _ rfl
                rintro _ rfl
                try go_simp
                all_goals first
                  | (with_reducible exact Grow.refl _)
                  | (with_reducible exact ⟨Grow.refl _, rfl⟩)
              · intro w5 hR
                have hGw : Grow W6 w5 := hR.of_drew
                have HGW := Lib.hid hGw
                have hcc := (HGW.out.block HF6.out).cell
                have hxc := (HGW.out.block HX6.out).cell
                have hac := HGW.out.cell HAC.out
                clear hR hGw
                simp only [depV]
                rintro _ rfl
                rintro _ rfl
                try go_simp
                all_goals first
                  | (with_reducible exact Grow.refl _)
                  | (with_reducible exact ⟨Grow.refl _, rfl⟩)
              · intro w5 hR
                have hGw : Grow W6 w5 := hR.of_drew
                have HGW := Lib.hid hGw
                have hcc := (HGW.out.block HF6.out).cell
                have hxc := (HGW.out.block HX6.out).cell
                have hac := HGW.out.cell HAC.out
                clear hR hGw
                simp only [depV]
                rintro _ rfl
                try go_simp
                all_goals first
                  | (with_reducible exact Grow.refl _)
                  | (with_reducible exact ⟨Grow.refl _, rfl⟩)
              · intro w5 hR
                have hGw : Grow W6 w5 := hR.of_drew
                have HGW := Lib.hid hGw
                have hcc := (HGW.out.block HF6.out).cell
                have hxc := (HGW.out.block HX6.out).cell
                have hac := HGW.out.cell HAC.out
                clear hR hGw
                simp only [depV]
                rintro _ rfl
                try go_simp
                all_goals first
                  | (with_reducible exact Grow.refl _)
                  | (with_reducible exact ⟨Grow.refl _, rfl⟩)
              · intro w5 hR
                have hGw : Grow W6 w5 := hR.of_drew
                have HGW := Lib.hid hGw
                have hcc := (HGW.out.block HF6.out).cell
                have hxc := (HGW.out.block HX6.out).cell
                have hac := HGW.out.cell HAC.out
                clear hR hGw
                simp only [depV]
                rintro _ rfl
                rintro _ rfl
                try go_simp
                all_goals first
                  | (with_reducible exact Grow.refl _)
                  | (with_reducible exact ⟨Grow.refl _, rfl⟩)
              · intro w5 hR
                have hGw : Grow W6 w5 := hR.of_drew
                have HGW := Lib.hid hGw
                have hcc := (HGW.out.block HF6.out).cell
                have hxc := (HGW.out.block HX6.out).cell
                have hac := HGW.out.cell HAC.out
                clear hR hGw
                simp only [depV]
                rintro _ rfl
                rintro _ rfl
                try go_simp
                refine (HSZ.out _).mono ?_
                rintro e w6 ⟨rfl, rfl⟩
                exact ⟨Grow.refl _, rfl⟩
              · intro w5 hR
                have hGw : Grow W6 w5 := hR.of_drew
                have HGW := Lib.hid hGw
                have hcc := (HGW.out.block HF6.out).cell
                have hxc := (HGW.out.block HX6.out).cell
                have hac := HGW.out.cell HAC.out
                clear hR hGw
                simp only [depV]
                rintro _ rfl
                try go_simp
                all_goals first
                  | (with_reducible exact Grow.refl _)
                  | (with_reducible exact ⟨Grow.refl _, rfl⟩)
              · intro w5 hR
                have hGw : Grow W6 w5 := hR.of_drew
                have HGW := Lib.hid hGw
                have hcc := (HGW.out.block HF6.out).cell
                have hxc := (HGW.out.block HX6.out).cell
                have hac := HGW.out.cell HAC.out
                clear hR hGw
                simp only [depV]
                rintro _ rfl
                rintro _ rfl
                try go_simp
                all_goals first
                  | (with_reducible exact Grow.refl _)
                  | (with_reducible exact ⟨Grow.refl _, rfl⟩)
              · intro w5 hR
                have hGw : Grow W6 w5 := hR.of_drew
                have HGW := Lib.hid hGw
                have hcc := (HGW.out.block HF6.out).cell
                have hxc := (HGW.out.block HX6.out).cell
                have hac := HGW.out.cell HAC.out
                clear hR hGw
                simp only [depV]
                rintro _ rfl
                rintro _ rfl
                rintro _ rfl
                try go_simp
                first
                  | (with_reducible exact Grow.refl _)
                  | exact ⟨Grow.refl _, by have h := HPB.out; simp at h; omega⟩
              · intro w5 hR
                have hGw : Grow W6 w5 := hR.of_drew
                have HGW := Lib.hid hGw
                have hcc := (HGW.out.block HF6.out).cell
                have hxc := (HGW.out.block HX6.out).cell
                have hac := HGW.out.cell HAC.out
                clear hR hGw
                simp only [depV]
                rintro _ rfl
                rintro _ rfl
                try go_simp
                all_goals first
                  | (with_reducible exact Grow.refl _)
                  | (with_reducible exact ⟨Grow.refl _, rfl⟩)
            · intro w5 hR
              have HG5 : Hid (Grow W6 w5) := Lib.hid hR.of_drew
              clear hR
              simp only [finVC, List.take_succ_cons, List.take_zero, List.drop_succ_cons, List.drop_zero]
              rintro _ rfl
              rintro _ rfl
              rintro _ rfl
              rintro _ rfl
              rintro _ rfl
              rintro _ rfl
              rintro _ rfl
              rintro _ rfl
              rintro _ rfl
              rintro _ rfl
              rintro _ rfl
              rintro _ rfl
              rintro _ rfl
              rintro _ rfl
              rintro _ rfl
              rintro _ rfl
              rintro _ rfl
              rintro _ rfl
              rintro _ rfl
              rintro _ rfl
              rintro _ rfl
              rintro _ rfl
              rintro _ rfl
              rintro _ rfl
              rintro _ rfl
              rintro _ rfl
              rintro _ rfl
              rintro _ rfl
              rintro _ rfl
              simp only [Act.put, List.setIfInBounds_toArray, List.set_cons_succ, List.set_cons_zero]
              go_wp2_with fail
              refine (works_any _).mono ?_
              rintro e w9 ⟨rfl, hb9⟩
              have HG9 : Hid (Grow w w9) := Lib.hid ((HG6.out.trans HG5.out).trans hb9)
              clear hb9
              go_wp2
              go_ret
              exact ⟨by simp, HG9.out⟩

          · have HPB : Hid (decide (p.ill < pp) = false) := Lib.hid (decide_eq_false hpi)
            have HMS := Lib.hid (HMS0.out (by omega))
            obtain ⟨dv, hdv⟩ : ∃ z, diffN g x = z := ⟨_, rfl⟩
            have HDE := Lib.hid hdv
            rw [hdv] at hdv32 HAN
            clear hdv
            go_upto_region 7 with fail
            refine wp_region_lit 29 [[], [], [(1, 68)], [(0, 67), (2, 69)], [(3, 70)], [(4, 71)], [(5, 72)], [(5, 72), (6, 73)], [(5, 72), (7, 74)], [(5, 72), (8, 75)], [(9, 76)], [(10, 77)], [(10, 77), (11, 78)], [(10, 77)], [(10, 77)], [(10, 77), (14, 81)], [(10, 77), (13, 80), (15, 82)], [(10, 77), (16, 83)], [(10, 77), (12, 79), (17, 84)], [(10, 77), (18, 85)], [(10, 77), (19, 86)], [(20, 87)], [(21, 88)], [(21, 88), (22, 89)], [(21, 88), (23, 90)], [(21, 88)], [(21, 88), (25, 92)], [(21, 88), (24, 91), (26, 93)], [(21, 88), (27, 94)]] Grow (fun qi v w' => match qi with
                | 0 => v = poolN ⟨fa, fc, na, nc⟩ p
                | 1 => v = .pointer (some ⟨w.heap.size + 1, 0, none⟩)
                | 2 => v = .int .i64 (s : Nat)
                | 3 => v = .bool true
                | 4 => v = .bool false
                | 5 => v = .bool false
                | 6 => v = .pointer (some ⟨w.heap.size + 1, 1, none⟩)
                | 7 => v = .int .i64 (x : Nat)
                | 8 => v = .bool false
                | 9 => v = .bool false
                | 10 => v = .bool false
                | 11 => v = .pointer (some ⟨w.heap.size + 1, 1, none⟩)
                | 12 => v = .int .i64 (x : Nat)
                | 13 => v = .slice (some ⟨ab, ao, none⟩) gs.length cap
                | 14 => v = .pointer (some ⟨w.heap.size + 1, 0, none⟩)
                | 15 => v = .int .i64 (s : Nat)
                | 16 => v = .pointer (some ⟨ab, ao + s, none⟩)
                | 17 => v = .int .i64 (g : Nat)
                | 18 => v = .int .i64 0
                | 19 => v = .bool false
                | 20 => v = .bool false
                | 21 => v = .bool false
                | 22 => v = .pointer (some ⟨w.heap.size + 1, 1, none⟩)
                | 23 => v = .int .i64 (x : Nat)
                | 24 => v = .int .i64 (pp : Nat)
                | 25 => v = .pointer (some ⟨w.heap.size, 2, none⟩)
                | 26 => v = .int .i64 (p.ill : Nat)
                | 27 => v = .bool false
                | 28 => v = .bool false
                | _ => False) (by kernel_rfl) (by kernel_rfl) (fun _ _ _ => Grow.trans) Grow.refl ?_ ?_ ?_
            · intro i v y y' h k
              match i, h with
              | 0, h | 1, h | 2, h | 3, h | 4, h | 5, h | 6, h | 7, h | 8, h | 9, h | 10, h | 11, h | 12, h | 13, h | 14, h | 15, h | 16, h | 17, h | 18, h | 19, h | 20, h | 21, h | 22, h | 23, h | 24, h | 25, h | 26, h | 27, h | 28, h => exact h
            · simp only [StepsLit, List.take_succ_cons, List.take_zero]
              refine ⟨?_, ?_, ?_, ?_, ?_, ?_, ?_, ?_, ?_, ?_, ?_, ?_, ?_, ?_, ?_, ?_, ?_, ?_, ?_, ?_, ?_, ?_, ?_, ?_, ?_, ?_, ?_, ?_, ?_, trivial⟩
              · intro w5 hR
                have hGw : Grow W6 w5 := hR.of_drew
                have HGW := Lib.hid hGw
                have hcc := (HGW.out.block HF6.out).cell
                have hxc := (HGW.out.block HX6.out).cell
                have hac := HGW.out.cell HAC.out
                clear hR hGw
                simp only [depV]
                try go_simp
                all_goals first
                  | (with_reducible exact Grow.refl _)
                  | (with_reducible exact ⟨Grow.refl _, rfl⟩)
              · intro w5 hR
                have hGw : Grow W6 w5 := hR.of_drew
                have HGW := Lib.hid hGw
                have hcc := (HGW.out.block HF6.out).cell
                have hxc := (HGW.out.block HX6.out).cell
                have hac := HGW.out.cell HAC.out
                clear hR hGw
                simp only [depV]
                try go_simp
                all_goals first
                  | (with_reducible exact Grow.refl _)
                  | (with_reducible exact ⟨Grow.refl _, rfl⟩)
              · intro w5 hR
                have hGw : Grow W6 w5 := hR.of_drew
                have HGW := Lib.hid hGw
                have hcc := (HGW.out.block HF6.out).cell
                have hxc := (HGW.out.block HX6.out).cell
                have hac := HGW.out.cell HAC.out
                clear hR hGw
                simp only [depV]
                rintro _ rfl
                try go_simp
                all_goals first
                  | (with_reducible exact Grow.refl _)
                  | (with_reducible exact ⟨Grow.refl _, rfl⟩)
              · intro w5 hR
                have hGw : Grow W6 w5 := hR.of_drew
                have HGW := Lib.hid hGw
                have hcc := (HGW.out.block HF6.out).cell
                have hxc := (HGW.out.block HX6.out).cell
                have hac := HGW.out.cell HAC.out
                clear hR hGw
                simp only [depV]
                rintro _ rfl
                rintro _ rfl
                try go_simp
                refine (HIS.out w5).mono ?_
                rintro e w6 ⟨rfl, hb6⟩
                exact ⟨hb6, rfl⟩
              · intro w5 hR
                have hGw : Grow W6 w5 := hR.of_drew
                have HGW := Lib.hid hGw
                have hcc := (HGW.out.block HF6.out).cell
                have hxc := (HGW.out.block HX6.out).cell
                have hac := HGW.out.cell HAC.out
                clear hR hGw
                simp only [depV]
                rintro _ rfl
                try go_simp
                all_goals first
                  | (with_reducible exact Grow.refl _)
                  | (with_reducible exact ⟨Grow.refl _, rfl⟩)
              · intro w5 hR
                have hGw : Grow W6 w5 := hR.of_drew
                have HGW := Lib.hid hGw
                have hcc := (HGW.out.block HF6.out).cell
                have hxc := (HGW.out.block HX6.out).cell
                have hac := HGW.out.cell HAC.out
                clear hR hGw
                simp only [depV]
                rintro _ rfl
                try go_simp
                all_goals first
                  | (with_reducible exact Grow.refl _)
                  | (with_reducible exact ⟨Grow.refl _, rfl⟩)
              · intro w5 hR
                have hGw : Grow W6 w5 := hR.of_drew
                have HGW := Lib.hid hGw
                have hcc := (HGW.out.block HF6.out).cell
                have hxc := (HGW.out.block HX6.out).cell
                have hac := HGW.out.cell HAC.out
                clear hR hGw
                simp only [depV]
                rintro _ rfl
                try go_simp
                all_goals first
                  | (with_reducible exact Grow.refl _)
                  | (with_reducible exact ⟨Grow.refl _, rfl⟩)
              · intro w5 hR
                have hGw : Grow W6 w5 := hR.of_drew
                have HGW := Lib.hid hGw
                have hcc := (HGW.out.block HF6.out).cell
                have hxc := (HGW.out.block HX6.out).cell
                have hac := HGW.out.cell HAC.out
                clear hR hGw
                simp only [depV]
                rintro _ rfl
                rintro _ rfl
                try go_simp
                all_goals first
                  | (with_reducible exact Grow.refl _)
                  | (with_reducible exact ⟨Grow.refl _, rfl⟩)
              · intro w5 hR
                have hGw : Grow W6 w5 := hR.of_drew
                have HGW := Lib.hid hGw
                have hcc := (HGW.out.block HF6.out).cell
                have hxc := (HGW.out.block HX6.out).cell
                have hac := HGW.out.cell HAC.out
                clear hR hGw
                simp only [depV]
                rintro _ rfl
                rintro _ rfl
                try go_simp
                all_goals first
                  | (with_reducible exact Grow.refl _)
                  | (with_reducible exact ⟨Grow.refl _, rfl⟩)
              · intro w5 hR
                have hGw : Grow W6 w5 := hR.of_drew
                have HGW := Lib.hid hGw
                have hcc := (HGW.out.block HF6.out).cell
                have hxc := (HGW.out.block HX6.out).cell
                have hac := HGW.out.cell HAC.out
                clear hR hGw
                simp only [depV]
                rintro _ rfl
                rintro _ rfl
                try go_simp
                all_goals first
                  | (with_reducible exact Grow.refl _)
                  | (with_reducible exact ⟨Grow.refl _, rfl⟩)
              · intro w5 hR
                have hGw : Grow W6 w5 := hR.of_drew
                have HGW := Lib.hid hGw
                have hcc := (HGW.out.block HF6.out).cell
                have hxc := (HGW.out.block HX6.out).cell
                have hac := HGW.out.cell HAC.out
                clear hR hGw
                simp only [depV]
                rintro _ rfl
                try go_simp
                all_goals first
                  | (with_reducible exact Grow.refl _)
                  | (with_reducible exact ⟨Grow.refl _, rfl⟩)
              · intro w5 hR
                have hGw : Grow W6 w5 := hR.of_drew
                have HGW := Lib.hid hGw
                have hcc := (HGW.out.block HF6.out).cell
                have hxc := (HGW.out.block HX6.out).cell
                have hac := HGW.out.cell HAC.out
                clear hR hGw
                simp only [depV]
                rintro _ rfl
                try go_simp
                all_goals first
                  | (with_reducible exact Grow.refl _)
                  | (with_reducible exact ⟨Grow.refl _, rfl⟩)
              · intro w5 hR
                have hGw : Grow W6 w5 := hR.of_drew
                have HGW := Lib.hid hGw
                have hcc := (HGW.out.block HF6.out).cell
                have hxc := (HGW.out.block HX6.out).cell
                have hac := HGW.out.cell HAC.out
                clear hR hGw
                simp only [depV]
                rintro _ rfl
                rintro _ rfl
                try go_simp
                all_goals first
                  | (with_reducible exact Grow.refl _)
                  | (with_reducible exact ⟨Grow.refl _, rfl⟩)
              · intro w5 hR
                have hGw : Grow W6 w5 := hR.of_drew
                have HGW := Lib.hid hGw
                have hcc := (HGW.out.block HF6.out).cell
                have hxc := (HGW.out.block HX6.out).cell
                have hac := HGW.out.cell HAC.out
                clear hR hGw
                simp only [depV]
                rintro _ rfl
                try go_simp
                all_goals first
                  | (with_reducible exact Grow.refl _)
                  | (with_reducible exact ⟨Grow.refl _, rfl⟩)
              · intro w5 hR
                have hGw : Grow W6 w5 := hR.of_drew
                have HGW := Lib.hid hGw
                have hcc := (HGW.out.block HF6.out).cell
                have hxc := (HGW.out.block HX6.out).cell
                have hac := HGW.out.cell HAC.out
                clear hR hGw
                simp only [depV]
                rintro _ rfl
                try go_simp
                all_goals first
                  | (with_reducible exact Grow.refl _)
                  | (with_reducible exact ⟨Grow.refl _, rfl⟩)
              · intro w5 hR
                have hGw : Grow W6 w5 := hR.of_drew
                have HGW := Lib.hid hGw
                have hcc := (HGW.out.block HF6.out).cell
                have hxc := (HGW.out.block HX6.out).cell
                have hac := HGW.out.cell HAC.out
                clear hR hGw
                simp only [depV]
                rintro _ rfl
                rintro _ rfl
                try go_simp
                all_goals first
                  | (with_reducible exact Grow.refl _)
                  | (with_reducible exact ⟨Grow.refl _, rfl⟩)
              · intro w5 hR
                have hGw : Grow W6 w5 := hR.of_drew
                have HGW := Lib.hid hGw
                have hcc := (HGW.out.block HF6.out).cell
                have hxc := (HGW.out.block HX6.out).cell
                have hac := HGW.out.cell HAC.out
                clear hR hGw
                simp only [depV]
                rintro _ rfl
                rintro _ rfl
                rintro _ rfl
                try go_simp
                all_goals first
                  | (with_reducible exact Grow.refl _)
                  | (with_reducible exact ⟨Grow.refl _, rfl⟩)
              · intro w5 hR
                have hGw : Grow W6 w5 := hR.of_drew
                have HGW := Lib.hid hGw
                have hcc := (HGW.out.block HF6.out).cell
                have hxc := (HGW.out.block HX6.out).cell
                have hac := HGW.out.cell HAC.out
                clear hR hGw
                simp only [depV]
                rintro _ rfl
                rintro _ rfl
                try go_simp
                all_goals first
                  | (with_reducible exact Grow.refl _)
                  | (with_reducible exact ⟨Grow.refl _, rfl⟩)
              · intro w5 hR
                have hGw : Grow W6 w5 := hR.of_drew
                have HGW := Lib.hid hGw
                have hcc := (HGW.out.block HF6.out).cell
                have hxc := (HGW.out.block HX6.out).cell
                have hac := HGW.out.cell HAC.out
                clear hR hGw
                simp only [depV]
                rintro _ rfl
                rintro _ rfl
                rintro _ rfl
                try go_simp
                exact ⟨Grow.refl _, HZV.out⟩
              · intro w5 hR
                have hGw : Grow W6 w5 := hR.of_drew
                have HGW := Lib.hid hGw
                have hcc := (HGW.out.block HF6.out).cell
                have hxc := (HGW.out.block HX6.out).cell
                have hac := HGW.out.cell HAC.out
                clear hR hGw
                simp only [depV]
                rintro _ rfl
                rintro _ rfl
                try go_simp
                all_goals first
                  | (with_reducible exact Grow.refl _)
                  | (with_reducible exact ⟨Grow.refl _, rfl⟩)
              · intro w5 hR
                have hGw : Grow W6 w5 := hR.of_drew
                have HGW := Lib.hid hGw
                have hcc := (HGW.out.block HF6.out).cell
                have hxc := (HGW.out.block HX6.out).cell
                have hac := HGW.out.cell HAC.out
                clear hR hGw
                simp only [depV]
                rintro _ rfl
                rintro _ rfl
                try go_simp
                all_goals first
                  | (with_reducible exact Grow.refl _)
                  | (with_reducible exact ⟨Grow.refl _, rfl⟩)
              · intro w5 hR
                have hGw : Grow W6 w5 := hR.of_drew
                have HGW := Lib.hid hGw
                have hcc := (HGW.out.block HF6.out).cell
                have hxc := (HGW.out.block HX6.out).cell
                have hac := HGW.out.cell HAC.out
                clear hR hGw
                simp only [depV]
                rintro _ rfl
                try go_simp
                all_goals first
                  | (with_reducible exact Grow.refl _)
                  | (with_reducible exact ⟨Grow.refl _, rfl⟩)
              · intro w5 hR
                have hGw : Grow W6 w5 := hR.of_drew
                have HGW := Lib.hid hGw
                have hcc := (HGW.out.block HF6.out).cell
                have hxc := (HGW.out.block HX6.out).cell
                have hac := HGW.out.cell HAC.out
                clear hR hGw
                simp only [depV]
                rintro _ rfl
                try go_simp
                all_goals first
                  | (with_reducible exact Grow.refl _)
                  | (with_reducible exact ⟨Grow.refl _, rfl⟩)
              · intro w5 hR
                have hGw : Grow W6 w5 := hR.of_drew
                have HGW := Lib.hid hGw
                have hcc := (HGW.out.block HF6.out).cell
                have hxc := (HGW.out.block HX6.out).cell
                have hac := HGW.out.cell HAC.out
                clear hR hGw
                simp only [depV]
                rintro _ rfl
                rintro _ rfl
                try go_simp
                all_goals first
                  | (with_reducible exact Grow.refl _)
                  | (with_reducible exact ⟨Grow.refl _, rfl⟩)
              · intro w5 hR
                have hGw : Grow W6 w5 := hR.of_drew
                have HGW := Lib.hid hGw
                have hcc := (HGW.out.block HF6.out).cell
                have hxc := (HGW.out.block HX6.out).cell
                have hac := HGW.out.cell HAC.out
                clear hR hGw
                simp only [depV]
                rintro _ rfl
                rintro _ rfl
                try go_simp
                refine (HSZ.out _).mono ?_
                rintro e w6 ⟨rfl, rfl⟩
                exact ⟨Grow.refl _, rfl⟩
              · intro w5 hR
                have hGw : Grow W6 w5 := hR.of_drew
                have HGW := Lib.hid hGw
                have hcc := (HGW.out.block HF6.out).cell
                have hxc := (HGW.out.block HX6.out).cell
                have hac := HGW.out.cell HAC.out
                clear hR hGw
                simp only [depV]
                rintro _ rfl
                try go_simp
                all_goals first
                  | (with_reducible exact Grow.refl _)
                  | (with_reducible exact ⟨Grow.refl _, rfl⟩)
              · intro w5 hR
                have hGw : Grow W6 w5 := hR.of_drew
                have HGW := Lib.hid hGw
                have hcc := (HGW.out.block HF6.out).cell
                have hxc := (HGW.out.block HX6.out).cell
                have hac := HGW.out.cell HAC.out
                clear hR hGw
                simp only [depV]
                rintro _ rfl
                rintro _ rfl
                try go_simp
                all_goals first
                  | (with_reducible exact Grow.refl _)
                  | (with_reducible exact ⟨Grow.refl _, rfl⟩)
              · intro w5 hR
                have hGw : Grow W6 w5 := hR.of_drew
                have HGW := Lib.hid hGw
                have hcc := (HGW.out.block HF6.out).cell
                have hxc := (HGW.out.block HX6.out).cell
                have hac := HGW.out.cell HAC.out
                clear hR hGw
                simp only [depV]
                rintro _ rfl
                rintro _ rfl
                rintro _ rfl
                try go_simp
                first
                  | (with_reducible exact Grow.refl _)
                  | exact ⟨Grow.refl _, by have h := HPB.out; simp at h; omega⟩
              · intro w5 hR
                have hGw : Grow W6 w5 := hR.of_drew
                have HGW := Lib.hid hGw
                have hcc := (HGW.out.block HF6.out).cell
                have hxc := (HGW.out.block HX6.out).cell
                have hac := HGW.out.cell HAC.out
                clear hR hGw
                simp only [depV]
                rintro _ rfl
                rintro _ rfl
                try go_simp
                all_goals first
                  | (with_reducible exact Grow.refl _)
                  | (with_reducible exact ⟨Grow.refl _, rfl⟩)
            · intro w5 hR
              have HG5 : Hid (Grow W6 w5) := Lib.hid hR.of_drew
              clear hR
              simp only [finVC, List.take_succ_cons, List.take_zero, List.drop_succ_cons, List.drop_zero]
              rintro _ rfl
              rintro _ rfl
              rintro _ rfl
              rintro _ rfl
              rintro _ rfl
              rintro _ rfl
              rintro _ rfl
              rintro _ rfl
              rintro _ rfl
              rintro _ rfl
              rintro _ rfl
              rintro _ rfl
              rintro _ rfl
              rintro _ rfl
              rintro _ rfl
              rintro _ rfl
              rintro _ rfl
              rintro _ rfl
              rintro _ rfl
              rintro _ rfl
              rintro _ rfl
              rintro _ rfl
              rintro _ rfl
              rintro _ rfl
              rintro _ rfl
              rintro _ rfl
              rintro _ rfl
              rintro _ rfl
              rintro _ rfl
              simp only [Act.put, List.setIfInBounds_toArray, List.set_cons_succ, List.set_cons_zero]
              have HG7 : Hid (Grow w w5) := Lib.hid (HG6.out.trans HG5.out)
              have HF7 := Lib.hid (HG5.out.block HF6.out)
              have HX7 := Lib.hid (HG5.out.block HX6.out)
              have HB7 := Lib.hid (HG5.out.block HB6.out)
              have HA7 := Lib.hid (HG5.out.cell HAC.out)
              rename World => w7
              clear HG5 HF6 HX6 HB6 HAC
              go_upto_region 10 with fail
              go_loopw [11] (fun iv wr => ∃ k : Nat, k ≤ m8 ∧ iv = .int .i64 (k : Nat) ∧ Grow w7 wr) (fun iv _ => m8 - (intOf iv).toNat)
              case atStart => exact ⟨0, Nat.zero_le _, rfl, Grow.refl _⟩
              case round => as_aux_lemma =>
                obtain ⟨k, hk, rfl, hgr⟩ := hrel
                rename World => wr
                have HGR : Hid (Grow w7 wr) := hgr
                have hcc := (HGR.out.block HF7.out).cell
                clear hgr
                by_cases hlk : k < m8
                · have hd : decide ((k : Int) < (m8 : Int)) = true := decide_eq_true (by omega)
                  have HMC := Lib.hid (HMI.out s dv k hsn hdv32 (by omega))
                  have hmb := HMB.out s dv k hsn
                  have HMX : Hid (miss p s dv k ≤ b.missing) := Lib.hid (by rw [← HDE.out]; exact HMS.out k hlk)
                  obtain ⟨n, hn⟩ : ∃ z, miss p s dv k = z := ⟨_, rfl⟩
                  rw [hn] at HMC hmb HMX
                  clear hn
                  go_wp2_with fail
                  refine (HTO.out wr (HG7.out.trans HGR.out)).mono ?_
                  rintro e w8 ⟨rfl, hb8⟩
                  have HG8 : Hid (Grow w7 w8) := Lib.hid (HGR.out.trans hb8)
                  clear hb8 hcc
                  go_upto_region 12 with fail
                  clear hd
                  refine wp_region_lit 13 [[], [], [(1, 106)], [], [], [(4, 109)], [(3, 108), (5, 110)], [(6, 111)], [], [(8, 113)], [(7, 112), (9, 114)], [], [(0, 105), (2, 107), (10, 115), (11, 116)]] Grow (fun qi v w' => match qi with
                      | 0 => v = poolN ⟨fa, fc, na, nc⟩ p
                      | 1 => v = .pointer (some ⟨w.heap.size + 1, 0, none⟩)
                      | 2 => v = .int .i64 (s : Nat)
                      | 3 => v = .slice (some ⟨ab, ao, none⟩) gs.length cap
                      | 4 => v = .pointer (some ⟨w.heap.size + 1, 0, none⟩)
                      | 5 => v = .int .i64 (s : Nat)
                      | 6 => v = .pointer (some ⟨ab, ao + s, none⟩)
                      | 7 => v = .int .i64 (g : Nat)
                      | 8 => v = .pointer (some ⟨w.heap.size + 1, 1, none⟩)
                      | 9 => v = .int .i64 (x : Nat)
                      | 10 => v = .int .i64 (dv : Nat)
                      | 11 => v = .int .i64 (k : Nat)
                      | 12 => v = .int .i64 n
                      | _ => False) (by kernel_rfl) (by kernel_rfl) (fun _ _ _ => Grow.trans) Grow.refl ?_ ?_ ?_
                  · intro i v y y' h k
                    match i, h with
                    | 0, h | 1, h | 2, h | 3, h | 4, h | 5, h | 6, h | 7, h | 8, h | 9, h | 10, h | 11, h | 12, h => exact h
                  · simp only [StepsLit, List.take_succ_cons, List.take_zero]
                    refine ⟨?_, ?_, ?_, ?_, ?_, ?_, ?_, ?_, ?_, ?_, ?_, ?_, ?_, trivial⟩
                    · intro w5 hR
                      have hGw : Grow w8 w5 := hR.of_drew
                      have HGW := Lib.hid hGw
                      have hcc := ((HG8.out.trans HGW.out).block HF7.out).cell
                      have hxc := ((HG8.out.trans HGW.out).block HX7.out).cell
                      have hac := (HG8.out.trans HGW.out).cell HA7.out
                      clear hR hGw
                      simp only [depV]
                      try go_simp
                      all_goals first
                        | (with_reducible exact Grow.refl _)
                        | (with_reducible exact ⟨Grow.refl _, rfl⟩)
                    · intro w5 hR
                      have hGw : Grow w8 w5 := hR.of_drew
                      have HGW := Lib.hid hGw
                      have hcc := ((HG8.out.trans HGW.out).block HF7.out).cell
                      have hxc := ((HG8.out.trans HGW.out).block HX7.out).cell
                      have hac := (HG8.out.trans HGW.out).cell HA7.out
                      clear hR hGw
                      simp only [depV]
                      try go_simp
                      all_goals first
                        | (with_reducible exact Grow.refl _)
                        | (with_reducible exact ⟨Grow.refl _, rfl⟩)
                    · intro w5 hR
                      have hGw : Grow w8 w5 := hR.of_drew
                      have HGW := Lib.hid hGw
                      have hcc := ((HG8.out.trans HGW.out).block HF7.out).cell
                      have hxc := ((HG8.out.trans HGW.out).block HX7.out).cell
                      have hac := (HG8.out.trans HGW.out).cell HA7.out
                      clear hR hGw
                      simp only [depV]
                      rintro _ rfl
                      try go_simp
                      all_goals first
                        | (with_reducible exact Grow.refl _)
                        | (with_reducible exact ⟨Grow.refl _, rfl⟩)
                    · intro w5 hR
                      have hGw : Grow w8 w5 := hR.of_drew
                      have HGW := Lib.hid hGw
                      have hcc := ((HG8.out.trans HGW.out).block HF7.out).cell
                      have hxc := ((HG8.out.trans HGW.out).block HX7.out).cell
                      have hac := (HG8.out.trans HGW.out).cell HA7.out
                      clear hR hGw
                      simp only [depV]
                      try go_simp
                      all_goals first
                        | (with_reducible exact Grow.refl _)
                        | (with_reducible exact ⟨Grow.refl _, rfl⟩)
                    · intro w5 hR
                      have hGw : Grow w8 w5 := hR.of_drew
                      have HGW := Lib.hid hGw
                      have hcc := ((HG8.out.trans HGW.out).block HF7.out).cell
                      have hxc := ((HG8.out.trans HGW.out).block HX7.out).cell
                      have hac := (HG8.out.trans HGW.out).cell HA7.out
                      clear hR hGw
                      simp only [depV]
                      try go_simp
                      all_goals first
                        | (with_reducible exact Grow.refl _)
                        | (with_reducible exact ⟨Grow.refl _, rfl⟩)
                    · intro w5 hR
                      have hGw : Grow w8 w5 := hR.of_drew
                      have HGW := Lib.hid hGw
                      have hcc := ((HG8.out.trans HGW.out).block HF7.out).cell
                      have hxc := ((HG8.out.trans HGW.out).block HX7.out).cell
                      have hac := (HG8.out.trans HGW.out).cell HA7.out
                      clear hR hGw
                      simp only [depV]
                      rintro _ rfl
                      try go_simp
                      all_goals first
                        | (with_reducible exact Grow.refl _)
                        | (with_reducible exact ⟨Grow.refl _, rfl⟩)
                    · intro w5 hR
                      have hGw : Grow w8 w5 := hR.of_drew
                      have HGW := Lib.hid hGw
                      have hcc := ((HG8.out.trans HGW.out).block HF7.out).cell
                      have hxc := ((HG8.out.trans HGW.out).block HX7.out).cell
                      have hac := (HG8.out.trans HGW.out).cell HA7.out
                      clear hR hGw
                      simp only [depV]
                      rintro _ rfl
                      rintro _ rfl
                      try go_simp
                      all_goals first
                        | (with_reducible exact Grow.refl _)
                        | (with_reducible exact ⟨Grow.refl _, rfl⟩)
                    · intro w5 hR
                      have hGw : Grow w8 w5 := hR.of_drew
                      have HGW := Lib.hid hGw
                      have hcc := ((HG8.out.trans HGW.out).block HF7.out).cell
                      have hxc := ((HG8.out.trans HGW.out).block HX7.out).cell
                      have hac := (HG8.out.trans HGW.out).cell HA7.out
                      clear hR hGw
                      simp only [depV]
                      rintro _ rfl
                      try go_simp
                      all_goals first
                        | (with_reducible exact Grow.refl _)
                        | (with_reducible exact ⟨Grow.refl _, rfl⟩)
                    · intro w5 hR
                      have hGw : Grow w8 w5 := hR.of_drew
                      have HGW := Lib.hid hGw
                      have hcc := ((HG8.out.trans HGW.out).block HF7.out).cell
                      have hxc := ((HG8.out.trans HGW.out).block HX7.out).cell
                      have hac := (HG8.out.trans HGW.out).cell HA7.out
                      clear hR hGw
                      simp only [depV]
                      try go_simp
                      all_goals first
                        | (with_reducible exact Grow.refl _)
                        | (with_reducible exact ⟨Grow.refl _, rfl⟩)
                    · intro w5 hR
                      have hGw : Grow w8 w5 := hR.of_drew
                      have HGW := Lib.hid hGw
                      have hcc := ((HG8.out.trans HGW.out).block HF7.out).cell
                      have hxc := ((HG8.out.trans HGW.out).block HX7.out).cell
                      have hac := (HG8.out.trans HGW.out).cell HA7.out
                      clear hR hGw
                      simp only [depV]
                      rintro _ rfl
                      try go_simp
                      all_goals first
                        | (with_reducible exact Grow.refl _)
                        | (with_reducible exact ⟨Grow.refl _, rfl⟩)
                    · intro w5 hR
                      have hGw : Grow w8 w5 := hR.of_drew
                      have HGW := Lib.hid hGw
                      have hcc := ((HG8.out.trans HGW.out).block HF7.out).cell
                      have hxc := ((HG8.out.trans HGW.out).block HX7.out).cell
                      have hac := (HG8.out.trans HGW.out).cell HA7.out
                      clear hR hGw
                      simp only [depV]
                      rintro _ rfl
                      rintro _ rfl
                      try go_simp
                      exact ⟨Grow.refl _, HAN.out⟩
                    · intro w5 hR
                      have hGw : Grow w8 w5 := hR.of_drew
                      have HGW := Lib.hid hGw
                      have hcc := ((HG8.out.trans HGW.out).block HF7.out).cell
                      have hxc := ((HG8.out.trans HGW.out).block HX7.out).cell
                      have hac := (HG8.out.trans HGW.out).cell HA7.out
                      clear hR hGw
                      simp only [depV]
                      try go_simp
                      all_goals first
                        | (with_reducible exact Grow.refl _)
                        | (with_reducible exact ⟨Grow.refl _, rfl⟩)
                    · intro w5 hR
                      have hGw : Grow w8 w5 := hR.of_drew
                      have HGW := Lib.hid hGw
                      have hcc := ((HG8.out.trans HGW.out).block HF7.out).cell
                      have hxc := ((HG8.out.trans HGW.out).block HX7.out).cell
                      have hac := (HG8.out.trans HGW.out).cell HA7.out
                      clear hR hGw
                      simp only [depV]
                      rintro _ rfl
                      rintro _ rfl
                      rintro _ rfl
                      rintro _ rfl
                      try go_simp
                      refine (HMC.out w5 (HG7.out.trans (HG8.out.trans HGW.out))).mono ?_
                      rintro e w6 ⟨rfl, hb6⟩
                      exact ⟨hb6, rfl⟩
                  · intro w5 hR
                    have HG5 : Hid (Grow w8 w5) := Lib.hid hR.of_drew
                    clear hR
                    simp only [finVC, List.take_succ_cons, List.take_zero, List.drop_succ_cons, List.drop_zero]
                    rintro _ rfl
                    rintro _ rfl
                    rintro _ rfl
                    rintro _ rfl
                    rintro _ rfl
                    rintro _ rfl
                    rintro _ rfl
                    rintro _ rfl
                    rintro _ rfl
                    rintro _ rfl
                    rintro _ rfl
                    rintro _ rfl
                    rintro _ rfl
                    simp only [Act.put, List.setIfInBounds_toArray, List.set_cons_succ, List.set_cons_zero]
                    have HGX : Hid (Grow w7 w5) := Lib.hid (HG8.out.trans HG5.out)
                    have hbc := (HGX.out.block HB7.out).cell
                    have hmx := HMX.out
                    by_cases hn0 : 0 < n
                    · have hd0 : decide (0 < n) = true := decide_eq_true hn0
                      have hdm : decide (b.missing < n) = false := decide_eq_false (by omega)
                      cases ok with
                      | true => have := HSW.out.1 rfl; omega
                      | false =>
                        go_wp2_with fail
                        go_roundw
                        case rel => exact ⟨k + 1, by omega, by go_num, HGX.out⟩
                        case measure => simp [intOf]; omega
                    · have hd0 : decide (0 < n) = false := decide_eq_false hn0
                      go_wp2_with fail
                      go_roundw
                      case rel => exact ⟨k + 1, by omega, by go_num, HGX.out⟩
                      case measure => simp [intOf]; omega
                · obtain rfl : k = m8 := by omega
                  have hd : decide ((k : Int) < (k : Int)) = false := decide_eq_false (by omega)
                  go_wp2_with fail
                  refine (HTO.out wr (HG7.out.trans HGR.out)).mono ?_
                  rintro e w8 ⟨rfl, hb8⟩
                  have HG8 : Hid (Grow w w8) := Lib.hid ((HG7.out.trans HGR.out).trans hb8)
                  clear hb8 hcc
                  go_wp2_with fail
                  refine (works_any _).mono ?_
                  rintro e w9 ⟨rfl, hb9⟩
                  have HG9 : Hid (Grow w w9) := Lib.hid (HG8.out.trans hb9)
                  clear hb9
                  go_wp2
                  go_ret
                  exact ⟨by simp, HG9.out⟩

        · obtain ⟨zv, hzv⟩ : ∃ z, bits .andNot .i64 xi (g : Int) = z := ⟨_, rfl⟩
          rw [hzv] at hz
          have HZV := Lib.hid hzv
          have hzb : (zv != 0) = true := by simpa using hz
          clear hzz hz hzv
          go_upto_region 7 with fail
          refine wp_region_lit 29 [[], [], [(1, 68)], [(0, 67), (2, 69)], [(3, 70)], [(4, 71)], [(5, 72)], [(5, 72), (6, 73)], [(5, 72), (7, 74)], [(5, 72), (8, 75)], [(9, 76)], [(10, 77)], [(10, 77), (11, 78)], [(10, 77)], [(10, 77)], [(10, 77), (14, 81)], [(10, 77), (13, 80), (15, 82)], [(10, 77), (16, 83)], [(10, 77), (12, 79), (17, 84)], [(10, 77), (18, 85)], [(10, 77), (19, 86)], [(20, 87)], [(21, 88)], [(21, 88), (22, 89)], [(21, 88), (23, 90)], [(21, 88)], [(21, 88), (25, 92)], [(21, 88), (24, 91), (26, 93)], [(21, 88), (27, 94)]] Grow (fun qi v w' => match qi with
              | 0 => v = poolN ⟨fa, fc, na, nc⟩ p
              | 1 => v = .pointer (some ⟨w.heap.size + 1, 0, none⟩)
              | 2 => v = .int .i64 (s : Nat)
              | 3 => v = .bool true
              | 4 => v = .bool false
              | 5 => v = .bool false
              | 6 => v = .pointer (some ⟨w.heap.size + 1, 1, none⟩)
              | 7 => v = .int .i64 xi
              | 8 => v = .bool false
              | 9 => v = .bool false
              | 10 => v = .bool false
              | 11 => v = .pointer (some ⟨w.heap.size + 1, 1, none⟩)
              | 12 => v = .int .i64 xi
              | 13 => v = .slice (some ⟨ab, ao, none⟩) gs.length cap
              | 14 => v = .pointer (some ⟨w.heap.size + 1, 0, none⟩)
              | 15 => v = .int .i64 (s : Nat)
              | 16 => v = .pointer (some ⟨ab, ao + s, none⟩)
              | 17 => v = .int .i64 (g : Nat)
              | 18 => v = .int .i64 zv
              | 19 => v = .bool true
              | 20 => v = .bool true
              | 21 => v = .bool true
              | 22 => v = undef
              | 23 => v = undef
              | 24 => v = undef
              | 25 => v = undef
              | 26 => v = undef
              | 27 => v = undef
              | 28 => v = .bool true
              | _ => False) (by kernel_rfl) (by kernel_rfl) (fun _ _ _ => Grow.trans) Grow.refl ?_ ?_ ?_
          · intro i v y y' h k
            match i, h with
            | 0, h | 1, h | 2, h | 3, h | 4, h | 5, h | 6, h | 7, h | 8, h | 9, h | 10, h | 11, h | 12, h | 13, h | 14, h | 15, h | 16, h | 17, h | 18, h | 19, h | 20, h | 21, h | 22, h | 23, h | 24, h | 25, h | 26, h | 27, h | 28, h => exact h
          · simp only [StepsLit, List.take_succ_cons, List.take_zero]
            refine ⟨?_, ?_, ?_, ?_, ?_, ?_, ?_, ?_, ?_, ?_, ?_, ?_, ?_, ?_, ?_, ?_, ?_, ?_, ?_, ?_, ?_, ?_, ?_, ?_, ?_, ?_, ?_, ?_, ?_, trivial⟩
            · intro w5 hR
              have hGw : Grow W6 w5 := hR.of_drew
              have HGW := Lib.hid hGw
              have hcc := (HGW.out.block HF6.out).cell
              have hxc := (HGW.out.block HX6.out).cell
              have hac := HGW.out.cell HAC.out
              clear hR hGw
              simp only [depV]
              try go_simp
              all_goals first
                | (with_reducible exact Grow.refl _)
                | (with_reducible exact ⟨Grow.refl _, rfl⟩)
            · intro w5 hR
              have hGw : Grow W6 w5 := hR.of_drew
              have HGW := Lib.hid hGw
              have hcc := (HGW.out.block HF6.out).cell
              have hxc := (HGW.out.block HX6.out).cell
              have hac := HGW.out.cell HAC.out
              clear hR hGw
              simp only [depV]
              try go_simp
              all_goals first
                | (with_reducible exact Grow.refl _)
                | (with_reducible exact ⟨Grow.refl _, rfl⟩)
            · intro w5 hR
              have hGw : Grow W6 w5 := hR.of_drew
              have HGW := Lib.hid hGw
              have hcc := (HGW.out.block HF6.out).cell
              have hxc := (HGW.out.block HX6.out).cell
              have hac := HGW.out.cell HAC.out
              clear hR hGw
              simp only [depV]
              rintro _ rfl
              try go_simp
              all_goals first
                | (with_reducible exact Grow.refl _)
                | (with_reducible exact ⟨Grow.refl _, rfl⟩)
            · intro w5 hR
              have hGw : Grow W6 w5 := hR.of_drew
              have HGW := Lib.hid hGw
              have hcc := (HGW.out.block HF6.out).cell
              have hxc := (HGW.out.block HX6.out).cell
              have hac := HGW.out.cell HAC.out
              clear hR hGw
              simp only [depV]
              rintro _ rfl
              rintro _ rfl
              try go_simp
              refine (HIS.out w5).mono ?_
              rintro e w6 ⟨rfl, hb6⟩
              exact ⟨hb6, rfl⟩
            · intro w5 hR
              have hGw : Grow W6 w5 := hR.of_drew
              have HGW := Lib.hid hGw
              have hcc := (HGW.out.block HF6.out).cell
              have hxc := (HGW.out.block HX6.out).cell
              have hac := HGW.out.cell HAC.out
              clear hR hGw
              simp only [depV]
              rintro _ rfl
              try go_simp
              all_goals first
                | (with_reducible exact Grow.refl _)
                | (with_reducible exact ⟨Grow.refl _, rfl⟩)
            · intro w5 hR
              have hGw : Grow W6 w5 := hR.of_drew
              have HGW := Lib.hid hGw
              have hcc := (HGW.out.block HF6.out).cell
              have hxc := (HGW.out.block HX6.out).cell
              have hac := HGW.out.cell HAC.out
              clear hR hGw
              simp only [depV]
              rintro _ rfl
              try go_simp
              all_goals first
                | (with_reducible exact Grow.refl _)
                | (with_reducible exact ⟨Grow.refl _, rfl⟩)
            · intro w5 hR
              have hGw : Grow W6 w5 := hR.of_drew
              have HGW := Lib.hid hGw
              have hcc := (HGW.out.block HF6.out).cell
              have hxc := (HGW.out.block HX6.out).cell
              have hac := HGW.out.cell HAC.out
              clear hR hGw
              simp only [depV]
              rintro _ rfl
              try go_simp
              all_goals first
                | (with_reducible exact Grow.refl _)
                | (with_reducible exact ⟨Grow.refl _, rfl⟩)
            · intro w5 hR
              have hGw : Grow W6 w5 := hR.of_drew
              have HGW := Lib.hid hGw
              have hcc := (HGW.out.block HF6.out).cell
              have hxc := (HGW.out.block HX6.out).cell
              have hac := HGW.out.cell HAC.out
              clear hR hGw
              simp only [depV]
              rintro _ rfl
              rintro _ rfl
              try go_simp
              all_goals first
                | (with_reducible exact Grow.refl _)
                | (with_reducible exact ⟨Grow.refl _, rfl⟩)
            · intro w5 hR
              have hGw : Grow W6 w5 := hR.of_drew
              have HGW := Lib.hid hGw
              have hcc := (HGW.out.block HF6.out).cell
              have hxc := (HGW.out.block HX6.out).cell
              have hac := HGW.out.cell HAC.out
              clear hR hGw
              simp only [depV]
              rintro _ rfl
              rintro _ rfl
              try go_simp
              all_goals first
                | (with_reducible exact Grow.refl _)
                | (with_reducible exact ⟨Grow.refl _, rfl⟩)
            · intro w5 hR
              have hGw : Grow W6 w5 := hR.of_drew
              have HGW := Lib.hid hGw
              have hcc := (HGW.out.block HF6.out).cell
              have hxc := (HGW.out.block HX6.out).cell
              have hac := HGW.out.cell HAC.out
              clear hR hGw
              simp only [depV]
              rintro _ rfl
              rintro _ rfl
              try go_simp
              all_goals first
                | (with_reducible exact Grow.refl _)
                | (with_reducible exact ⟨Grow.refl _, rfl⟩)
            · intro w5 hR
              have hGw : Grow W6 w5 := hR.of_drew
              have HGW := Lib.hid hGw
              have hcc := (HGW.out.block HF6.out).cell
              have hxc := (HGW.out.block HX6.out).cell
              have hac := HGW.out.cell HAC.out
              clear hR hGw
              simp only [depV]
              rintro _ rfl
              try go_simp
              all_goals first
                | (with_reducible exact Grow.refl _)
                | (with_reducible exact ⟨Grow.refl _, rfl⟩)
            · intro w5 hR
              have hGw : Grow W6 w5 := hR.of_drew
              have HGW := Lib.hid hGw
              have hcc := (HGW.out.block HF6.out).cell
              have hxc := (HGW.out.block HX6.out).cell
              have hac := HGW.out.cell HAC.out
              clear hR hGw
              simp only [depV]
              rintro _ rfl
              try go_simp
              all_goals first
                | (with_reducible exact Grow.refl _)
                | (with_reducible exact ⟨Grow.refl _, rfl⟩)
            · intro w5 hR
              have hGw : Grow W6 w5 := hR.of_drew
              have HGW := Lib.hid hGw
              have hcc := (HGW.out.block HF6.out).cell
              have hxc := (HGW.out.block HX6.out).cell
              have hac := HGW.out.cell HAC.out
              clear hR hGw
              simp only [depV]
              rintro _ rfl
              rintro _ rfl
              try go_simp
              all_goals first
                | (with_reducible exact Grow.refl _)
                | (with_reducible exact ⟨Grow.refl _, rfl⟩)
            · intro w5 hR
              have hGw : Grow W6 w5 := hR.of_drew
              have HGW := Lib.hid hGw
              have hcc := (HGW.out.block HF6.out).cell
              have hxc := (HGW.out.block HX6.out).cell
              have hac := HGW.out.cell HAC.out
              clear hR hGw
              simp only [depV]
              rintro _ rfl
              try go_simp
              all_goals first
                | (with_reducible exact Grow.refl _)
                | (with_reducible exact ⟨Grow.refl _, rfl⟩)
            · intro w5 hR
              have hGw : Grow W6 w5 := hR.of_drew
              have HGW := Lib.hid hGw
              have hcc := (HGW.out.block HF6.out).cell
              have hxc := (HGW.out.block HX6.out).cell
              have hac := HGW.out.cell HAC.out
              clear hR hGw
              simp only [depV]
              rintro _ rfl
              try go_simp
              all_goals first
                | (with_reducible exact Grow.refl _)
                | (with_reducible exact ⟨Grow.refl _, rfl⟩)
            · intro w5 hR
              have hGw : Grow W6 w5 := hR.of_drew
              have HGW := Lib.hid hGw
              have hcc := (HGW.out.block HF6.out).cell
              have hxc := (HGW.out.block HX6.out).cell
              have hac := HGW.out.cell HAC.out
              clear hR hGw
              simp only [depV]
              rintro _ rfl
              rintro _ rfl
              try go_simp
              all_goals first
                | (with_reducible exact Grow.refl _)
                | (with_reducible exact ⟨Grow.refl _, rfl⟩)
            · intro w5 hR
              have hGw : Grow W6 w5 := hR.of_drew
              have HGW := Lib.hid hGw
              have hcc := (HGW.out.block HF6.out).cell
              have hxc := (HGW.out.block HX6.out).cell
              have hac := HGW.out.cell HAC.out
              clear hR hGw
              simp only [depV]
              rintro _ rfl
              rintro _ rfl
              rintro _ rfl
              try go_simp
              all_goals first
                | (with_reducible exact Grow.refl _)
                | (with_reducible exact ⟨Grow.refl _, rfl⟩)
            · intro w5 hR
              have hGw : Grow W6 w5 := hR.of_drew
              have HGW := Lib.hid hGw
              have hcc := (HGW.out.block HF6.out).cell
              have hxc := (HGW.out.block HX6.out).cell
              have hac := HGW.out.cell HAC.out
              clear hR hGw
              simp only [depV]
              rintro _ rfl
              rintro _ rfl
              try go_simp
              all_goals first
                | (with_reducible exact Grow.refl _)
                | (with_reducible exact ⟨Grow.refl _, rfl⟩)
            · intro w5 hR
              have hGw : Grow W6 w5 := hR.of_drew
              have HGW := Lib.hid hGw
              have hcc := (HGW.out.block HF6.out).cell
              have hxc := (HGW.out.block HX6.out).cell
              have hac := HGW.out.cell HAC.out
              clear hR hGw
              simp only [depV]
              rintro _ rfl
              rintro _ rfl
              rintro _ rfl
              try go_simp
              exact ⟨Grow.refl _, HZV.out⟩
            · intro w5 hR
              have hGw : Grow W6 w5 := hR.of_drew
              have HGW := Lib.hid hGw
              have hcc := (HGW.out.block HF6.out).cell
              have hxc := (HGW.out.block HX6.out).cell
              have hac := HGW.out.cell HAC.out
              clear hR hGw
              simp only [depV]
              rintro _ rfl
              rintro _ rfl
              try go_simp
              all_goals first
                | (with_reducible exact Grow.refl _)
                | (with_reducible exact ⟨Grow.refl _, rfl⟩)
            · intro w5 hR
              have hGw : Grow W6 w5 := hR.of_drew
              have HGW := Lib.hid hGw
              have hcc := (HGW.out.block HF6.out).cell
              have hxc := (HGW.out.block HX6.out).cell
              have hac := HGW.out.cell HAC.out
              clear hR hGw
              simp only [depV]
              rintro _ rfl
              rintro _ rfl
              try go_simp
              all_goals first
                | (with_reducible exact Grow.refl _)
                | (with_reducible exact ⟨Grow.refl _, rfl⟩)
            · intro w5 hR
              have hGw : Grow W6 w5 := hR.of_drew
              have HGW := Lib.hid hGw
              have hcc := (HGW.out.block HF6.out).cell
              have hxc := (HGW.out.block HX6.out).cell
              have hac := HGW.out.cell HAC.out
              clear hR hGw
              simp only [depV]
              rintro _ rfl
              try go_simp
              all_goals first
                | (with_reducible exact Grow.refl _)
                | (with_reducible exact ⟨Grow.refl _, rfl⟩)
            · intro w5 hR
              have hGw : Grow W6 w5 := hR.of_drew
              have HGW := Lib.hid hGw
              have hcc := (HGW.out.block HF6.out).cell
              have hxc := (HGW.out.block HX6.out).cell
              have hac := HGW.out.cell HAC.out
              clear hR hGw
              simp only [depV]
              rintro _ rfl
              try go_simp
              all_goals first
                | (with_reducible exact Grow.refl _)
                | (with_reducible exact ⟨Grow.refl _, rfl⟩)
            · intro w5 hR
              have hGw : Grow W6 w5 := hR.of_drew
              have HGW := Lib.hid hGw
              have hcc := (HGW.out.block HF6.out).cell
              have hxc := (HGW.out.block HX6.out).cell
              have hac := HGW.out.cell HAC.out
              clear hR hGw
              simp only [depV]
              rintro _ rfl
              rintro _ rfl
              try go_simp
              all_goals first
                | (with_reducible exact Grow.refl _)
                | (with_reducible exact ⟨Grow.refl _, rfl⟩)
            · intro w5 hR
              have hGw : Grow W6 w5 := hR.of_drew
              have HGW := Lib.hid hGw
              have hcc := (HGW.out.block HF6.out).cell
              have hxc := (HGW.out.block HX6.out).cell
              have hac := HGW.out.cell HAC.out
              clear hR hGw
              simp only [depV]
              rintro _ rfl
              rintro _ rfl
              try go_simp
              all_goals first
                | (with_reducible exact Grow.refl _)
                | (with_reducible exact ⟨Grow.refl _, rfl⟩)
            · intro w5 hR
              have hGw : Grow W6 w5 := hR.of_drew
              have HGW := Lib.hid hGw
              have hcc := (HGW.out.block HF6.out).cell
              have hxc := (HGW.out.block HX6.out).cell
              have hac := HGW.out.cell HAC.out
              clear hR hGw
              simp only [depV]
              rintro _ rfl
              try go_simp
              all_goals first
                | (with_reducible exact Grow.refl _)
                | (with_reducible exact ⟨Grow.refl _, rfl⟩)
            · intro w5 hR
              have hGw : Grow W6 w5 := hR.of_drew
              have HGW := Lib.hid hGw
              have hcc := (HGW.out.block HF6.out).cell
              have hxc := (HGW.out.block HX6.out).cell
              have hac := HGW.out.cell HAC.out
              clear hR hGw
              simp only [depV]
              rintro _ rfl
              rintro _ rfl
              try go_simp
              all_goals first
                | (with_reducible exact Grow.refl _)
                | (with_reducible exact ⟨Grow.refl _, rfl⟩)
            · intro w5 hR
              have hGw : Grow W6 w5 := hR.of_drew
              have HGW := Lib.hid hGw
              have hcc := (HGW.out.block HF6.out).cell
              have hxc := (HGW.out.block HX6.out).cell
              have hac := HGW.out.cell HAC.out
              clear hR hGw
              simp only [depV]
              rintro _ rfl
              rintro _ rfl
              rintro _ rfl
              try go_simp
              all_goals first
                | (with_reducible exact Grow.refl _)
                | (with_reducible exact ⟨Grow.refl _, rfl⟩)
            · intro w5 hR
              have hGw : Grow W6 w5 := hR.of_drew
              have HGW := Lib.hid hGw
              have hcc := (HGW.out.block HF6.out).cell
              have hxc := (HGW.out.block HX6.out).cell
              have hac := HGW.out.cell HAC.out
              clear hR hGw
              simp only [depV]
              rintro _ rfl
              rintro _ rfl
              try go_simp
              all_goals first
                | (with_reducible exact Grow.refl _)
                | (with_reducible exact ⟨Grow.refl _, rfl⟩)
          · intro w5 hR
            have HG5 : Hid (Grow W6 w5) := Lib.hid hR.of_drew
            clear hR
            simp only [finVC, List.take_succ_cons, List.take_zero, List.drop_succ_cons, List.drop_zero]
            rintro _ rfl
            rintro _ rfl
            rintro _ rfl
            rintro _ rfl
            rintro _ rfl
            rintro _ rfl
            rintro _ rfl
            rintro _ rfl
            rintro _ rfl
            rintro _ rfl
            rintro _ rfl
            rintro _ rfl
            rintro _ rfl
            rintro _ rfl
            rintro _ rfl
            rintro _ rfl
            rintro _ rfl
            rintro _ rfl
            rintro _ rfl
            rintro _ rfl
            rintro _ rfl
            rintro _ rfl
            rintro _ rfl
            rintro _ rfl
            rintro _ rfl
            rintro _ rfl
            rintro _ rfl
            rintro _ rfl
            rintro _ rfl
            simp only [Act.put, List.setIfInBounds_toArray, List.set_cons_succ, List.set_cons_zero]
            go_wp2_with fail
            refine (works_any _).mono ?_
            rintro e w9 ⟨rfl, hb9⟩
            have HG9 : Hid (Grow w w9) := Lib.hid ((HG6.out.trans HG5.out).trans hb9)
            clear hb9
            go_wp2
            go_ret
            exact ⟨by simp, HG9.out⟩


theorem coverIll_any (h : PoolH) (d : PoolI) (A : Option Addr) (cap : Nat) (ws : List Int) (sl xi : Int) (w : World) (hA : PoolAt w w.heap.size h d) (hI : Ints w w.heap.size A ws) (hwf : Wf ws) (hx1 : -9223372036854775808 ≤ xi) (hx2 : xi < 9223372036854775808) :
    Calls Try.prog 3 #[poolV h d, .slice A ws.length cap, .agg #[.int .i64 sl, .int .i64 xi]] w fun e w' => e = .returned (.bool true) ∧ Below w.heap.size w w' := by
  cases hv : validI d with
  | false => exact coverIll_bad h d A cap ws sl xi w hA hv
  | true =>
    obtain ⟨p, rfl, G⟩ := valid_is hv
    rw [pool_i]
    by_cases hl : 20 < ws.length
    · exact coverIll_long h p A cap ws sl xi w hA hv hl
    · cases hq : okWatch p ws with
      | false => exact coverIll_not h p G A cap ws sl xi w hA hv hI (by omega) hwf hq
      | true =>
        obtain ⟨e, hwt⟩ := okWatch_is G hwf hq
        obtain ⟨gs, hgs⟩ : ∃ z, gsOf ws = z := ⟨_, rfl⟩
        rw [hgs] at e hwt
        subst e
        rw [natsL_length] at hl ⊢
        exact coverIll_good h p G A cap gs sl xi w hA hv hI (by omega) hwt ⟨hx1, hx2⟩

end Go.Proofs.Ytcgnibfcjadnjaa
