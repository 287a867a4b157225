/- RGapT: the specification's IsGap; written by wip/tools/rgap10.py. -/
import Derived.Test.YtcgnibfcjadnjaaRReady
namespace Go.Proofs.Ytcgnibfcjadnjaa
open Go.RowKit

set_option maxRecDepth 100000 in
set_option maxHeartbeats 16000000 in
theorem rIsGap_t (h : PoolH) (p : Pool) (G : Good p) (A : Option Addr) (cap : Nat) (gs : List Nat) (s g x T : Nat) (m : Int) (w : World) (hA : PoolAt w w.heap.size h p.i) (hI : Ints w w.heap.size A (natsL gs)) (hs : s < p.needs.length) (hsl : s < gs.length) (hgs : gs[s]? = some g) (hg32 : g < 32) (hx : x < 32) (hT : T < 2 ^ p.tn) (hm : m = miss p s (diffN g x) T) (hc : subN x g = true) (hp : popD x ≤ p.ill) (hm0 : 0 < m) :
    Calls Try.prog 16 #[poolN h p, .slice A gs.length cap, .agg #[.int .i64 (s : Nat), .int .i64 (x : Nat), .int .i64 (T : Nat), .int .i64 m]] w fun e w' => e = .returned (.bool true) ∧ Below w.heap.size w w' := by
  have hp8 : 2 ^ p.tn ≤ 8 := Nat.pow_le_pow_right (n := 2) (by omega) G.t3
  have hn3 := G.n3
  have ht3 := G.t3
  have hill := G.ill
  have HSL := Lib.hid (fun (w0 : World) => rIsSlot_any h p G (s : Int) w0)
  rw [show inB (s : Int) 0 ((p.needs.length : Int) - 1) = true from inB_iff.2 ⟨by omega, by omega⟩] at HSL
  have HDX := Lib.hid (andNot_nat x g (by omega) (by omega))
  have HSB : Hid (decide (diffN x g = 0) = true) := Lib.hid (by unfold subN at hc; exact hc)
  have HSZ := Lib.hid (fun (w0 : World) => rSize_any x w0 (by omega))
  have hpI : ((2 : Int) ^ p.tn) = ((2 ^ p.tn : Nat) : Int) := (Int.natCast_pow 2 _).symm
  have HTO := Lib.hid (fun (w0 : World) (hw : Grow w w0) => rTongues_any h p G w0 (hA.grow hw))
  have HWI := Lib.hid (fun (w0 : World) => rwithin_any (T : Int) 0 (((2 ^ p.tn : Nat) : Int) - 1) w0)
  rw [show inB (T : Int) 0 (((2 ^ p.tn : Nat) : Int) - 1) = true from inB_iff.2 ⟨by omega, by omega⟩] at HWI
  have HMI := Lib.hid (fun (w0 : World) (hw : Grow w w0) => rMissing_any h p G s (diffN g x) T w0 (hA.grow hw) hs (by have := sub_le (diff_sub g x); omega) (by omega))
  rw [← hm] at HMI
  have HDV := Lib.hid (andNot_nat g x (by omega) (by omega))
  obtain ⟨dv, hdv⟩ : ∃ z, diffN g x = z := ⟨_, rfl⟩
  rw [hdv] at HMI HDV
  clear hm hdv
  have HPB : Hid (decide (popD x ≤ p.ill) = true) := Lib.hid (decide_eq_true (by omega))
  have HMB : Hid (decide (0 < m) = true) := Lib.hid (decide_eq_true (by omega))
  obtain ⟨m8, hm8⟩ : ∃ z, 2 ^ p.tn = z := ⟨_, rfl⟩
  rw [hm8] at hT hp8 hpI HWI
  have hwr : IntKind.i64.wrap ((2 : Int) ^ p.tn) = (m8 : Int) := by rw [hpI]; exact IntWalk.i64_in _ (by omega)
  have hcv : IntKind.u64.wrap (p.tn : Int) = (p.tn : Int) := IntWalk.u64_in _ (by omega)
  have hp5 := pop_le5 x hx
  obtain ⟨pp, hpp⟩ : ∃ z, popD x = z := ⟨_, rfl⟩
  rw [hpp] at HSZ hp5 HPB
  obtain ⟨dx, hdx⟩ : ∃ z, diffN x g = z := ⟨_, rfl⟩
  rw [hdx] at HDX HSB
  obtain ⟨ab, ao, g', rfl, hab, hac0, HXX⟩ := ints_nat hI hsl
  obtain rfl : g = g' := by have h := HXX.out; rw [hgs] at h; exact Option.some.inj h
  have HAC0 := Lib.hid hac0
  have hs0 : (0 : Int) ≤ (s : Int) := by omega
  have hs1 : (s : Int) < (gs.length : Int) := by omega
  have hx0 : (0 : Int) ≤ (x : Int) := by omega
  have htn64 : p.tn ≤ 64 := by omega
  clear hA hI G hpI hm8 hpp hdx hc hac0 hgs hp
  obtain ⟨fa, fc, na, nc⟩ := h
  go_enter Try.func16, Try.ntmps16
  go_upto_region 1 with fail
  obtain ⟨W, hW, hgr, hf, hxb, hsz⟩ := two_blocks w 25 36 (cellsN ⟨fa, fc, na, nc⟩ p) #[.int .i64 (s : Nat), .int .i64 (x : Nat), .int .i64 (T : Nat), .int .i64 m]
  rw [hW]
  clear hW
  have HF := Lib.hid hf
  have HX := Lib.hid hxb
  have HG := Lib.hid hgr
  have HAC := Lib.hid (hgr.cell HAC0.out)
  clear hf hgr hxb hsz HAC0 HXX
  refine wp_region_lit 62 [[], [], [(1, 8)], [(0, 7), (2, 9)], [(3, 10)], [(4, 11)], [(4, 11), (5, 12)], [(4, 11), (6, 13)], [(4, 11), (7, 14)], [(8, 15)], [(9, 16)], [(9, 16), (10, 17)], [(9, 16)], [(9, 16)], [(9, 16), (13, 20)], [(9, 16), (12, 19), (14, 21)], [(9, 16), (15, 22)], [(9, 16), (11, 18), (16, 23)], [(9, 16), (17, 24)], [(9, 16), (18, 25)], [(19, 26)], [(20, 27)], [(20, 27), (21, 28)], [(20, 27), (22, 29)], [(20, 27)], [(20, 27), (24, 31)], [(20, 27), (23, 30), (25, 32)], [(20, 27), (26, 33)], [(27, 34)], [(28, 35)], [(28, 35), (29, 36)], [(28, 35)], [(28, 35), (31, 38)], [(28, 35), (32, 39)], [(28, 35), (33, 40)], [(28, 35), (34, 41)], [(28, 35), (30, 37), (35, 42)], [(28, 35), (36, 43)], [(37, 44)], [(38, 45)], [(38, 45), (39, 46)], [(38, 45), (40, 47)], [(38, 45), (41, 48)], [(42, 49)], [(43, 50)], [(43, 50)], [(43, 50), (45, 52)], [(43, 50)], [(43, 50)], [(43, 50), (48, 55)], [(43, 50), (47, 54), (49, 56)], [(43, 50), (50, 57)], [(43, 50)], [(43, 50), (52, 59)], [(43, 50), (51, 58), (53, 60)], [(43, 50)], [(43, 50), (55, 62)], [(43, 50), (44, 51), (46, 53), (54, 61), (56, 63)], [(43, 50)], [(43, 50), (58, 65)], [(43, 50), (57, 64), (59, 66)], [(43, 50), (60, 67)]] Grow (fun qi v w' => match qi with
      | 0 => v = poolN ⟨fa, fc, na, nc⟩ p
      | 1 => v = .pointer (some ⟨w.heap.size + 1, 0, none⟩)
      | 2 => v = .int .i64 (s : Nat)
      | 3 => v = .bool true
      | 4 => v = .bool true
      | 5 => v = .pointer (some ⟨w.heap.size + 1, 1, none⟩)
      | 6 => v = .int .i64 (x : Nat)
      | 7 => v = .bool true
      | 8 => v = .bool true
      | 9 => v = .bool true
      | 10 => v = .pointer (some ⟨w.heap.size + 1, 1, none⟩)
      | 11 => v = .int .i64 (x : Nat)
      | 12 => v = .slice (some ⟨ab, ao, none⟩) gs.length cap
      | 13 => v = .pointer (some ⟨w.heap.size + 1, 0, none⟩)
      | 14 => v = .int .i64 (s : Nat)
      | 15 => v = .pointer (some ⟨ab, ao + s, none⟩)
      | 16 => v = .int .i64 (g : Nat)
      | 17 => v = .int .i64 (dx : Nat)
      | 18 => v = .bool true
      | 19 => v = .bool true
      | 20 => v = .bool true
      | 21 => v = .pointer (some ⟨w.heap.size + 1, 1, none⟩)
      | 22 => v = .int .i64 (x : Nat)
      | 23 => v = .int .i64 (pp : Nat)
      | 24 => v = .pointer (some ⟨w.heap.size, 2, none⟩)
      | 25 => v = .int .i64 (p.ill : Nat)
      | 26 => v = .bool true
      | 27 => v = .bool true
      | 28 => v = .bool true
      | 29 => v = .pointer (some ⟨w.heap.size + 1, 2, none⟩)
      | 30 => v = .int .i64 (T : Nat)
      | 31 => v = poolN ⟨fa, fc, na, nc⟩ p
      | 32 => v = .int .i64 (p.tn : Nat)
      | 33 => v = .int .u64 (p.tn : Nat)
      | 34 => v = .int .i64 (m8 : Nat)
      | 35 => v = .int .i64 ((m8 : Int) - 1)
      | 36 => v = .bool true
      | 37 => v = .bool true
      | 38 => v = .bool true
      | 39 => v = .pointer (some ⟨w.heap.size + 1, 3, none⟩)
      | 40 => v = .int .i64 m
      | 41 => v = .bool true
      | 42 => v = .bool true
      | 43 => v = .bool true
      | 44 => v = poolN ⟨fa, fc, na, nc⟩ p
      | 45 => v = .pointer (some ⟨w.heap.size + 1, 0, none⟩)
      | 46 => v = .int .i64 (s : Nat)
      | 47 => v = .slice (some ⟨ab, ao, none⟩) gs.length cap
      | 48 => v = .pointer (some ⟨w.heap.size + 1, 0, none⟩)
      | 49 => v = .int .i64 (s : Nat)
      | 50 => v = .pointer (some ⟨ab, ao + s, none⟩)
      | 51 => v = .int .i64 (g : Nat)
      | 52 => v = .pointer (some ⟨w.heap.size + 1, 1, none⟩)
      | 53 => v = .int .i64 (x : Nat)
      | 54 => v = .int .i64 (dv : Nat)
      | 55 => v = .pointer (some ⟨w.heap.size + 1, 2, none⟩)
      | 56 => v = .int .i64 (T : Nat)
      | 57 => v = .int .i64 m
      | 58 => v = .pointer (some ⟨w.heap.size + 1, 3, none⟩)
      | 59 => v = .int .i64 m
      | 60 => v = .bool true
      | 61 => v = .bool true
      | _ => False) (by kernel_rfl) (by kernel_rfl) (fun _ _ _ => Grow.trans) Grow.refl ?_ ?_ ?_
  · intro i v y y' h k
    match i, h with
    | 0, h | 1, h | 2, h | 3, h | 4, h | 5, h | 6, h | 7, h | 8, h | 9, h | 10, h | 11, h | 12, h | 13, h | 14, h | 15, h | 16, h | 17, h | 18, h | 19, h | 20, h | 21, h | 22, h | 23, h | 24, h | 25, h | 26, h | 27, h | 28, h | 29, h | 30, h | 31, h | 32, h | 33, h | 34, h | 35, h | 36, h | 37, h | 38, h | 39, h | 40, h | 41, h | 42, h | 43, h | 44, h | 45, h | 46, h | 47, h | 48, h | 49, h | 50, h | 51, h | 52, h | 53, h | 54, h | 55, h | 56, h | 57, h | 58, h | 59, h | 60, h | 61, h => exact h
  · simp only [StepsLit, List.take_succ_cons, List.take_zero]
    refine ⟨?_, ?_, ?_, ?_, ?_, ?_, ?_, ?_, ?_, ?_, ?_, ?_, ?_, ?_, ?_, ?_, ?_, ?_, ?_, ?_, ?_, ?_, ?_, ?_, ?_, ?_, ?_, ?_, ?_, ?_, ?_, ?_, ?_, ?_, ?_, ?_, ?_, ?_, ?_, ?_, ?_, ?_, ?_, ?_, ?_, ?_, ?_, ?_, ?_, ?_, ?_, ?_, ?_, ?_, ?_, ?_, ?_, ?_, ?_, ?_, ?_, ?_, trivial⟩
    · intro w5 hR
      have hGw : Grow W w5 := hR.of_drew
      have HGW := Lib.hid hGw
      have hcc := (HGW.out.block HF.out).cell
      have hgc := (HGW.out.block HX.out).cell
      have hac := HGW.out.cell HAC.out
      clear hR hGw
      simp only [depV]
      try go_simp
      all_goals first
        | (with_reducible exact Grow.refl _)
        | (with_reducible exact ⟨Grow.refl _, rfl⟩)
    · intro w5 hR
      have hGw : Grow W w5 := hR.of_drew
      have HGW := Lib.hid hGw
      have hcc := (HGW.out.block HF.out).cell
      have hgc := (HGW.out.block HX.out).cell
      have hac := HGW.out.cell HAC.out
      clear hR hGw
      simp only [depV]
      try go_simp
      all_goals first
        | (with_reducible exact Grow.refl _)
        | (with_reducible exact ⟨Grow.refl _, rfl⟩)
    · intro w5 hR
      have hGw : Grow W w5 := hR.of_drew
      have HGW := Lib.hid hGw
      have hcc := (HGW.out.block HF.out).cell
      have hgc := (HGW.out.block HX.out).cell
      have hac := HGW.out.cell HAC.out
      clear hR hGw
      simp only [depV]
      rintro _ rfl
      try go_simp
      all_goals first
        | (with_reducible exact Grow.refl _)
        | (with_reducible exact ⟨Grow.refl _, rfl⟩)
    · intro w5 hR
      have hGw : Grow W w5 := hR.of_drew
      have HGW := Lib.hid hGw
      have hcc := (HGW.out.block HF.out).cell
      have hgc := (HGW.out.block HX.out).cell
      have hac := HGW.out.cell HAC.out
      clear hR hGw
      simp only [depV]
      rintro _ rfl
      rintro _ rfl
      try go_simp
      refine (HSL.out w5).mono ?_
      rintro e w6 ⟨rfl, hb6⟩
      exact ⟨hb6, rfl⟩
    · intro w5 hR
      have hGw : Grow W w5 := hR.of_drew
      have HGW := Lib.hid hGw
      have hcc := (HGW.out.block HF.out).cell
      have hgc := (HGW.out.block HX.out).cell
      have hac := HGW.out.cell HAC.out
      clear hR hGw
      simp only [depV]
      rintro _ rfl
      try go_simp
      all_goals first
        | (with_reducible exact Grow.refl _)
        | (with_reducible exact ⟨Grow.refl _, rfl⟩)
    · intro w5 hR
      have hGw : Grow W w5 := hR.of_drew
      have HGW := Lib.hid hGw
      have hcc := (HGW.out.block HF.out).cell
      have hgc := (HGW.out.block HX.out).cell
      have hac := HGW.out.cell HAC.out
      clear hR hGw
      simp only [depV]
      rintro _ rfl
      try go_simp
      all_goals first
        | (with_reducible exact Grow.refl _)
        | (with_reducible exact ⟨Grow.refl _, rfl⟩)
    · intro w5 hR
      have hGw : Grow W w5 := hR.of_drew
      have HGW := Lib.hid hGw
      have hcc := (HGW.out.block HF.out).cell
      have hgc := (HGW.out.block HX.out).cell
      have hac := HGW.out.cell HAC.out
      clear hR hGw
      simp only [depV]
      rintro _ rfl
      rintro _ rfl
      try go_simp
      all_goals first
        | (with_reducible exact Grow.refl _)
        | (with_reducible exact ⟨Grow.refl _, rfl⟩)
    · intro w5 hR
      have hGw : Grow W w5 := hR.of_drew
      have HGW := Lib.hid hGw
      have hcc := (HGW.out.block HF.out).cell
      have hgc := (HGW.out.block HX.out).cell
      have hac := HGW.out.cell HAC.out
      clear hR hGw
      simp only [depV]
      rintro _ rfl
      rintro _ rfl
      try go_simp
      all_goals first
        | (with_reducible exact Grow.refl _)
        | (with_reducible exact ⟨Grow.refl _, rfl⟩)
    · intro w5 hR
      have hGw : Grow W w5 := hR.of_drew
      have HGW := Lib.hid hGw
      have hcc := (HGW.out.block HF.out).cell
      have hgc := (HGW.out.block HX.out).cell
      have hac := HGW.out.cell HAC.out
      clear hR hGw
      simp only [depV]
      rintro _ rfl
      rintro _ rfl
      try go_simp
      all_goals first
        | (with_reducible exact Grow.refl _)
        | (with_reducible exact ⟨Grow.refl _, rfl⟩)
    · intro w5 hR
      have hGw : Grow W w5 := hR.of_drew
      have HGW := Lib.hid hGw
      have hcc := (HGW.out.block HF.out).cell
      have hgc := (HGW.out.block HX.out).cell
      have hac := HGW.out.cell HAC.out
      clear hR hGw
      simp only [depV]
      rintro _ rfl
      try go_simp
      all_goals first
        | (with_reducible exact Grow.refl _)
        | (with_reducible exact ⟨Grow.refl _, rfl⟩)
    · intro w5 hR
      have hGw : Grow W w5 := hR.of_drew
      have HGW := Lib.hid hGw
      have hcc := (HGW.out.block HF.out).cell
      have hgc := (HGW.out.block HX.out).cell
      have hac := HGW.out.cell HAC.out
      clear hR hGw
      simp only [depV]
      rintro _ rfl
      try go_simp
      all_goals first
        | (with_reducible exact Grow.refl _)
        | (with_reducible exact ⟨Grow.refl _, rfl⟩)
    · intro w5 hR
      have hGw : Grow W w5 := hR.of_drew
      have HGW := Lib.hid hGw
      have hcc := (HGW.out.block HF.out).cell
      have hgc := (HGW.out.block HX.out).cell
      have hac := HGW.out.cell HAC.out
      clear hR hGw
      simp only [depV]
      rintro _ rfl
      rintro _ rfl
      try go_simp
      all_goals first
        | (with_reducible exact Grow.refl _)
        | (with_reducible exact ⟨Grow.refl _, rfl⟩)
    · intro w5 hR
      have hGw : Grow W w5 := hR.of_drew
      have HGW := Lib.hid hGw
      have hcc := (HGW.out.block HF.out).cell
      have hgc := (HGW.out.block HX.out).cell
      have hac := HGW.out.cell HAC.out
      clear hR hGw
      simp only [depV]
      rintro _ rfl
      try go_simp
      all_goals first
        | (with_reducible exact Grow.refl _)
        | (with_reducible exact ⟨Grow.refl _, rfl⟩)
    · intro w5 hR
      have hGw : Grow W w5 := hR.of_drew
      have HGW := Lib.hid hGw
      have hcc := (HGW.out.block HF.out).cell
      have hgc := (HGW.out.block HX.out).cell
      have hac := HGW.out.cell HAC.out
      clear hR hGw
      simp only [depV]
      rintro _ rfl
      try go_simp
      all_goals first
        | (with_reducible exact Grow.refl _)
        | (with_reducible exact ⟨Grow.refl _, rfl⟩)
    · intro w5 hR
      have hGw : Grow W w5 := hR.of_drew
      have HGW := Lib.hid hGw
      have hcc := (HGW.out.block HF.out).cell
      have hgc := (HGW.out.block HX.out).cell
      have hac := HGW.out.cell HAC.out
      clear hR hGw
      simp only [depV]
      rintro _ rfl
      rintro _ rfl
      try go_simp
      all_goals first
        | (with_reducible exact Grow.refl _)
        | (with_reducible exact ⟨Grow.refl _, rfl⟩)
    · intro w5 hR
      have hGw : Grow W w5 := hR.of_drew
      have HGW := Lib.hid hGw
      have hcc := (HGW.out.block HF.out).cell
      have hgc := (HGW.out.block HX.out).cell
      have hac := HGW.out.cell HAC.out
      clear hR hGw
      simp only [depV]
      rintro _ rfl
      rintro _ rfl
      rintro _ rfl
      try go_simp
      all_goals first
        | (with_reducible exact Grow.refl _)
        | (with_reducible exact ⟨Grow.refl _, rfl⟩)
    · intro w5 hR
      have hGw : Grow W w5 := hR.of_drew
      have HGW := Lib.hid hGw
      have hcc := (HGW.out.block HF.out).cell
      have hgc := (HGW.out.block HX.out).cell
      have hac := HGW.out.cell HAC.out
      clear hR hGw
      simp only [depV]
      rintro _ rfl
      rintro _ rfl
      try go_simp
      all_goals first
        | (with_reducible exact Grow.refl _)
        | (with_reducible exact ⟨Grow.refl _, rfl⟩)
    · intro w5 hR
      have hGw : Grow W w5 := hR.of_drew
      have HGW := Lib.hid hGw
      have hcc := (HGW.out.block HF.out).cell
      have hgc := (HGW.out.block HX.out).cell
      have hac := HGW.out.cell HAC.out
      clear hR hGw
      simp only [depV]
      rintro _ rfl
      rintro _ rfl
      rintro _ rfl
      try go_simp
      first
        | (with_reducible exact Grow.refl _)
        | exact ⟨Grow.refl _, HDX.out⟩
    · intro w5 hR
      have hGw : Grow W w5 := hR.of_drew
      have HGW := Lib.hid hGw
      have hcc := (HGW.out.block HF.out).cell
      have hgc := (HGW.out.block HX.out).cell
      have hac := HGW.out.cell HAC.out
      clear hR hGw
      simp only [depV]
      rintro _ rfl
      rintro _ rfl
      try go_simp
      first
        | (with_reducible exact Grow.refl _)
        | exact ⟨Grow.refl _, by simpa using HSB.out⟩
    · intro w5 hR
      have hGw : Grow W w5 := hR.of_drew
      have HGW := Lib.hid hGw
      have hcc := (HGW.out.block HF.out).cell
      have hgc := (HGW.out.block HX.out).cell
      have hac := HGW.out.cell HAC.out
      clear hR hGw
      simp only [depV]
      rintro _ rfl
      rintro _ rfl
      try go_simp
      all_goals first
        | (with_reducible exact Grow.refl _)
        | (with_reducible exact ⟨Grow.refl _, rfl⟩)
    · intro w5 hR
      have hGw : Grow W w5 := hR.of_drew
      have HGW := Lib.hid hGw
      have hcc := (HGW.out.block HF.out).cell
      have hgc := (HGW.out.block HX.out).cell
      have hac := HGW.out.cell HAC.out
      clear hR hGw
      simp only [depV]
      rintro _ rfl
      try go_simp
      all_goals first
        | (with_reducible exact Grow.refl _)
        | (with_reducible exact ⟨Grow.refl _, rfl⟩)
    · intro w5 hR
      have hGw : Grow W w5 := hR.of_drew
      have HGW := Lib.hid hGw
      have hcc := (HGW.out.block HF.out).cell
      have hgc := (HGW.out.block HX.out).cell
      have hac := HGW.out.cell HAC.out
      clear hR hGw
      simp only [depV]
      rintro _ rfl
      try go_simp
      all_goals first
        | (with_reducible exact Grow.refl _)
        | (with_reducible exact ⟨Grow.refl _, rfl⟩)
    · intro w5 hR
      have hGw : Grow W w5 := hR.of_drew
      have HGW := Lib.hid hGw
      have hcc := (HGW.out.block HF.out).cell
      have hgc := (HGW.out.block HX.out).cell
      have hac := HGW.out.cell HAC.out
      clear hR hGw
      simp only [depV]
      rintro _ rfl
      rintro _ rfl
      try go_simp
      all_goals first
        | (with_reducible exact Grow.refl _)
        | (with_reducible exact ⟨Grow.refl _, rfl⟩)
    · intro w5 hR
      have hGw : Grow W w5 := hR.of_drew
      have HGW := Lib.hid hGw
      have hcc := (HGW.out.block HF.out).cell
      have hgc := (HGW.out.block HX.out).cell
      have hac := HGW.out.cell HAC.out
      clear hR hGw
      simp only [depV]
      rintro _ rfl
      rintro _ rfl
      try go_simp
      refine (HSZ.out _).mono ?_
      rintro e w6 ⟨rfl, rfl⟩
      exact ⟨Grow.refl _, rfl⟩
    · intro w5 hR
      have hGw : Grow W w5 := hR.of_drew
      have HGW := Lib.hid hGw
      have hcc := (HGW.out.block HF.out).cell
      have hgc := (HGW.out.block HX.out).cell
      have hac := HGW.out.cell HAC.out
      clear hR hGw
      simp only [depV]
      rintro _ rfl
      try go_simp
      all_goals first
        | (with_reducible exact Grow.refl _)
        | (with_reducible exact ⟨Grow.refl _, rfl⟩)
    · intro w5 hR
      have hGw : Grow W w5 := hR.of_drew
      have HGW := Lib.hid hGw
      have hcc := (HGW.out.block HF.out).cell
      have hgc := (HGW.out.block HX.out).cell
      have hac := HGW.out.cell HAC.out
      clear hR hGw
      simp only [depV]
      rintro _ rfl
      rintro _ rfl
      try go_simp
      all_goals first
        | (with_reducible exact Grow.refl _)
        | (with_reducible exact ⟨Grow.refl _, rfl⟩)
    · intro w5 hR
      have hGw : Grow W w5 := hR.of_drew
      have HGW := Lib.hid hGw
      have hcc := (HGW.out.block HF.out).cell
      have hgc := (HGW.out.block HX.out).cell
      have hac := HGW.out.cell HAC.out
      clear hR hGw
      simp only [depV]
      rintro _ rfl
      rintro _ rfl
      rintro _ rfl
      try go_simp
      first
        | (with_reducible exact Grow.refl _)
        | exact ⟨Grow.refl _, by have h := HPB.out; simp at h; omega⟩
    · intro w5 hR
      have hGw : Grow W w5 := hR.of_drew
      have HGW := Lib.hid hGw
      have hcc := (HGW.out.block HF.out).cell
      have hgc := (HGW.out.block HX.out).cell
      have hac := HGW.out.cell HAC.out
      clear hR hGw
      simp only [depV]
      rintro _ rfl
      rintro _ rfl
      try go_simp
      all_goals first
        | (with_reducible exact Grow.refl _)
        | (with_reducible exact ⟨Grow.refl _, rfl⟩)
    · intro w5 hR
      have hGw : Grow W w5 := hR.of_drew
      have HGW := Lib.hid hGw
      have hcc := (HGW.out.block HF.out).cell
      have hgc := (HGW.out.block HX.out).cell
      have hac := HGW.out.cell HAC.out
      clear hR hGw
      simp only [depV]
      rintro _ rfl
      try go_simp
      all_goals first
        | (with_reducible exact Grow.refl _)
        | (with_reducible exact ⟨Grow.refl _, rfl⟩)
    · intro w5 hR
      have hGw : Grow W w5 := hR.of_drew
      have HGW := Lib.hid hGw
      have hcc := (HGW.out.block HF.out).cell
      have hgc := (HGW.out.block HX.out).cell
      have hac := HGW.out.cell HAC.out
      clear hR hGw
      simp only [depV]
      rintro _ rfl
      try go_simp
      all_goals first
        | (with_reducible exact Grow.refl _)
        | (with_reducible exact ⟨Grow.refl _, rfl⟩)
    · intro w5 hR
      have hGw : Grow W w5 := hR.of_drew
      have HGW := Lib.hid hGw
      have hcc := (HGW.out.block HF.out).cell
      have hgc := (HGW.out.block HX.out).cell
      have hac := HGW.out.cell HAC.out
      clear hR hGw
      simp only [depV]
      rintro _ rfl
      rintro _ rfl
      try go_simp
      all_goals first
        | (with_reducible exact Grow.refl _)
        | (with_reducible exact ⟨Grow.refl _, rfl⟩)
    · intro w5 hR
      have hGw : Grow W w5 := hR.of_drew
      have HGW := Lib.hid hGw
      have hcc := (HGW.out.block HF.out).cell
      have hgc := (HGW.out.block HX.out).cell
      have hac := HGW.out.cell HAC.out
      clear hR hGw
      simp only [depV]
      rintro _ rfl
      try go_simp
      all_goals first
        | (with_reducible exact Grow.refl _)
        | (with_reducible exact ⟨Grow.refl _, rfl⟩)
    · intro w5 hR
      have hGw : Grow W w5 := hR.of_drew
      have HGW := Lib.hid hGw
      have hcc := (HGW.out.block HF.out).cell
      have hgc := (HGW.out.block HX.out).cell
      have hac := HGW.out.cell HAC.out
      clear hR hGw
      simp only [depV]
      rintro _ rfl
      rintro _ rfl
      try go_simp
      refine (HTO.out w5 (HG.out.trans HGW.out)).mono ?_
      rintro e w6 ⟨rfl, hb6⟩
      exact ⟨hb6, rfl⟩
    · intro w5 hR
      have hGw : Grow W w5 := hR.of_drew
      have HGW := Lib.hid hGw
      have hcc := (HGW.out.block HF.out).cell
      have hgc := (HGW.out.block HX.out).cell
      have hac := HGW.out.cell HAC.out
      clear hR hGw
      simp only [depV]
      rintro _ rfl
      rintro _ rfl
      try go_simp
      all_goals first
        | (with_reducible exact Grow.refl _)
        | (with_reducible exact ⟨Grow.refl _, rfl⟩)
    · intro w5 hR
      have hGw : Grow W w5 := hR.of_drew
      have HGW := Lib.hid hGw
      have hcc := (HGW.out.block HF.out).cell
      have hgc := (HGW.out.block HX.out).cell
      have hac := HGW.out.cell HAC.out
      clear hR hGw
      simp only [depV]
      rintro _ rfl
      rintro _ rfl
      try go_simp
      first
        | (with_reducible exact Grow.refl _)
        | exact ⟨Grow.refl _, hwr⟩
    · intro w5 hR
      have hGw : Grow W w5 := hR.of_drew
      have HGW := Lib.hid hGw
      have hcc := (HGW.out.block HF.out).cell
      have hgc := (HGW.out.block HX.out).cell
      have hac := HGW.out.cell HAC.out
      clear hR hGw
      simp only [depV]
      rintro _ rfl
      rintro _ rfl
      try go_simp
      first
        | (with_reducible exact Grow.refl _)
        | exact ⟨Grow.refl _, IntWalk.i64_in _ (by omega)⟩
    · intro w5 hR
      have hGw : Grow W w5 := hR.of_drew
      have HGW := Lib.hid hGw
      have hcc := (HGW.out.block HF.out).cell
      have hgc := (HGW.out.block HX.out).cell
      have hac := HGW.out.cell HAC.out
      clear hR hGw
      simp only [depV]
      rintro _ rfl
      rintro _ rfl
      rintro _ rfl
      try go_simp
      refine (HWI.out _).mono ?_
      rintro e w6 ⟨rfl, rfl⟩
      exact ⟨Grow.refl _, rfl⟩
    · intro w5 hR
      have hGw : Grow W w5 := hR.of_drew
      have HGW := Lib.hid hGw
      have hcc := (HGW.out.block HF.out).cell
      have hgc := (HGW.out.block HX.out).cell
      have hac := HGW.out.cell HAC.out
      clear hR hGw
      simp only [depV]
      rintro _ rfl
      rintro _ rfl
      try go_simp
      all_goals first
        | (with_reducible exact Grow.refl _)
        | (with_reducible exact ⟨Grow.refl _, rfl⟩)
    · intro w5 hR
      have hGw : Grow W w5 := hR.of_drew
      have HGW := Lib.hid hGw
      have hcc := (HGW.out.block HF.out).cell
      have hgc := (HGW.out.block HX.out).cell
      have hac := HGW.out.cell HAC.out
      clear hR hGw
      simp only [depV]
      rintro _ rfl
      try go_simp
      all_goals first
        | (with_reducible exact Grow.refl _)
        | (with_reducible exact ⟨Grow.refl _, rfl⟩)
    · intro w5 hR
      have hGw : Grow W w5 := hR.of_drew
      have HGW := Lib.hid hGw
      have hcc := (HGW.out.block HF.out).cell
      have hgc := (HGW.out.block HX.out).cell
      have hac := HGW.out.cell HAC.out
      clear hR hGw
      simp only [depV]
      rintro _ rfl
      try go_simp
      all_goals first
        | (with_reducible exact Grow.refl _)
        | (with_reducible exact ⟨Grow.refl _, rfl⟩)
    · intro w5 hR
      have hGw : Grow W w5 := hR.of_drew
      have HGW := Lib.hid hGw
      have hcc := (HGW.out.block HF.out).cell
      have hgc := (HGW.out.block HX.out).cell
      have hac := HGW.out.cell HAC.out
      clear hR hGw
      simp only [depV]
      rintro _ rfl
      rintro _ rfl
      try go_simp
      all_goals first
        | (with_reducible exact Grow.refl _)
        | (with_reducible exact ⟨Grow.refl _, rfl⟩)
    · intro w5 hR
      have hGw : Grow W w5 := hR.of_drew
      have HGW := Lib.hid hGw
      have hcc := (HGW.out.block HF.out).cell
      have hgc := (HGW.out.block HX.out).cell
      have hac := HGW.out.cell HAC.out
      clear hR hGw
      simp only [depV]
      rintro _ rfl
      rintro _ rfl
      try go_simp
      first
        | (with_reducible exact Grow.refl _)
        | exact ⟨Grow.refl _, by have h := HMB.out; simp at h; omega⟩
    · intro w5 hR
      have hGw : Grow W w5 := hR.of_drew
      have HGW := Lib.hid hGw
      have hcc := (HGW.out.block HF.out).cell
      have hgc := (HGW.out.block HX.out).cell
      have hac := HGW.out.cell HAC.out
      clear hR hGw
      simp only [depV]
      rintro _ rfl
      rintro _ rfl
      try go_simp
      all_goals first
        | (with_reducible exact Grow.refl _)
        | (with_reducible exact ⟨Grow.refl _, rfl⟩)
    · intro w5 hR
      have hGw : Grow W w5 := hR.of_drew
      have HGW := Lib.hid hGw
      have hcc := (HGW.out.block HF.out).cell
      have hgc := (HGW.out.block HX.out).cell
      have hac := HGW.out.cell HAC.out
      clear hR hGw
      simp only [depV]
      rintro _ rfl
      try go_simp
      all_goals first
        | (with_reducible exact Grow.refl _)
        | (with_reducible exact ⟨Grow.refl _, rfl⟩)
    · intro w5 hR
      have hGw : Grow W w5 := hR.of_drew
      have HGW := Lib.hid hGw
      have hcc := (HGW.out.block HF.out).cell
      have hgc := (HGW.out.block HX.out).cell
      have hac := HGW.out.cell HAC.out
      clear hR hGw
      simp only [depV]
      rintro _ rfl
      try go_simp
      all_goals first
        | (with_reducible exact Grow.refl _)
        | (with_reducible exact ⟨Grow.refl _, rfl⟩)
    · intro w5 hR
      have hGw : Grow W w5 := hR.of_drew
      have HGW := Lib.hid hGw
      have hcc := (HGW.out.block HF.out).cell
      have hgc := (HGW.out.block HX.out).cell
      have hac := HGW.out.cell HAC.out
      clear hR hGw
      simp only [depV]
      rintro _ rfl
      try go_simp
      all_goals first
        | (with_reducible exact Grow.refl _)
        | (with_reducible exact ⟨Grow.refl _, rfl⟩)
    · intro w5 hR
      have hGw : Grow W w5 := hR.of_drew
      have HGW := Lib.hid hGw
      have hcc := (HGW.out.block HF.out).cell
      have hgc := (HGW.out.block HX.out).cell
      have hac := HGW.out.cell HAC.out
      clear hR hGw
      simp only [depV]
      rintro _ rfl
      rintro _ rfl
      try go_simp
      all_goals first
        | (with_reducible exact Grow.refl _)
        | (with_reducible exact ⟨Grow.refl _, rfl⟩)
    · intro w5 hR
      have hGw : Grow W w5 := hR.of_drew
      have HGW := Lib.hid hGw
      have hcc := (HGW.out.block HF.out).cell
      have hgc := (HGW.out.block HX.out).cell
      have hac := HGW.out.cell HAC.out
      clear hR hGw
      simp only [depV]
      rintro _ rfl
      try go_simp
      all_goals first
        | (with_reducible exact Grow.refl _)
        | (with_reducible exact ⟨Grow.refl _, rfl⟩)
    · intro w5 hR
      have hGw : Grow W w5 := hR.of_drew
      have HGW := Lib.hid hGw
      have hcc := (HGW.out.block HF.out).cell
      have hgc := (HGW.out.block HX.out).cell
      have hac := HGW.out.cell HAC.out
      clear hR hGw
      simp only [depV]
      rintro _ rfl
      try go_simp
      all_goals first
        | (with_reducible exact Grow.refl _)
        | (with_reducible exact ⟨Grow.refl _, rfl⟩)
    · intro w5 hR
      have hGw : Grow W w5 := hR.of_drew
      have HGW := Lib.hid hGw
      have hcc := (HGW.out.block HF.out).cell
      have hgc := (HGW.out.block HX.out).cell
      have hac := HGW.out.cell HAC.out
      clear hR hGw
      simp only [depV]
      rintro _ rfl
      rintro _ rfl
      try go_simp
      all_goals first
        | (with_reducible exact Grow.refl _)
        | (with_reducible exact ⟨Grow.refl _, rfl⟩)
    · intro w5 hR
      have hGw : Grow W w5 := hR.of_drew
      have HGW := Lib.hid hGw
      have hcc := (HGW.out.block HF.out).cell
      have hgc := (HGW.out.block HX.out).cell
      have hac := HGW.out.cell HAC.out
      clear hR hGw
      simp only [depV]
      rintro _ rfl
      rintro _ rfl
      rintro _ rfl
      try go_simp
      all_goals first
        | (with_reducible exact Grow.refl _)
        | (with_reducible exact ⟨Grow.refl _, rfl⟩)
    · intro w5 hR
      have hGw : Grow W w5 := hR.of_drew
      have HGW := Lib.hid hGw
      have hcc := (HGW.out.block HF.out).cell
      have hgc := (HGW.out.block HX.out).cell
      have hac := HGW.out.cell HAC.out
      clear hR hGw
      simp only [depV]
      rintro _ rfl
      rintro _ rfl
      try go_simp
      all_goals first
        | (with_reducible exact Grow.refl _)
        | (with_reducible exact ⟨Grow.refl _, rfl⟩)
    · intro w5 hR
      have hGw : Grow W w5 := hR.of_drew
      have HGW := Lib.hid hGw
      have hcc := (HGW.out.block HF.out).cell
      have hgc := (HGW.out.block HX.out).cell
      have hac := HGW.out.cell HAC.out
      clear hR hGw
      simp only [depV]
      rintro _ rfl
      try go_simp
      all_goals first
        | (with_reducible exact Grow.refl _)
        | (with_reducible exact ⟨Grow.refl _, rfl⟩)
    · intro w5 hR
      have hGw : Grow W w5 := hR.of_drew
      have HGW := Lib.hid hGw
      have hcc := (HGW.out.block HF.out).cell
      have hgc := (HGW.out.block HX.out).cell
      have hac := HGW.out.cell HAC.out
      clear hR hGw
      simp only [depV]
      rintro _ rfl
      rintro _ rfl
      try go_simp
      all_goals first
        | (with_reducible exact Grow.refl _)
        | (with_reducible exact ⟨Grow.refl _, rfl⟩)
    · intro w5 hR
      have hGw : Grow W w5 := hR.of_drew
      have HGW := Lib.hid hGw
      have hcc := (HGW.out.block HF.out).cell
      have hgc := (HGW.out.block HX.out).cell
      have hac := HGW.out.cell HAC.out
      clear hR hGw
      simp only [depV]
      rintro _ rfl
      rintro _ rfl
      rintro _ rfl
      try go_simp
      first
        | (with_reducible exact Grow.refl _)
        | exact ⟨Grow.refl _, HDV.out⟩
    · intro w5 hR
      have hGw : Grow W w5 := hR.of_drew
      have HGW := Lib.hid hGw
      have hcc := (HGW.out.block HF.out).cell
      have hgc := (HGW.out.block HX.out).cell
      have hac := HGW.out.cell HAC.out
      clear hR hGw
      simp only [depV]
      rintro _ rfl
      try go_simp
      all_goals first
        | (with_reducible exact Grow.refl _)
        | (with_reducible exact ⟨Grow.refl _, rfl⟩)
    · intro w5 hR
      have hGw : Grow W w5 := hR.of_drew
      have HGW := Lib.hid hGw
      have hcc := (HGW.out.block HF.out).cell
      have hgc := (HGW.out.block HX.out).cell
      have hac := HGW.out.cell HAC.out
      clear hR hGw
      simp only [depV]
      rintro _ rfl
      rintro _ rfl
      try go_simp
      all_goals first
        | (with_reducible exact Grow.refl _)
        | (with_reducible exact ⟨Grow.refl _, rfl⟩)
    · intro w5 hR
      have hGw : Grow W w5 := hR.of_drew
      have HGW := Lib.hid hGw
      have hcc := (HGW.out.block HF.out).cell
      have hgc := (HGW.out.block HX.out).cell
      have hac := HGW.out.cell HAC.out
      clear hR hGw
      simp only [depV]
      rintro _ rfl
      rintro _ rfl
      rintro _ rfl
      rintro _ rfl
      rintro _ rfl
      try go_simp
      refine (HMI.out w5 (HG.out.trans HGW.out)).mono ?_
      rintro e w6 ⟨rfl, hb6⟩
      exact ⟨hb6, rfl⟩
    · intro w5 hR
      have hGw : Grow W w5 := hR.of_drew
      have HGW := Lib.hid hGw
      have hcc := (HGW.out.block HF.out).cell
      have hgc := (HGW.out.block HX.out).cell
      have hac := HGW.out.cell HAC.out
      clear hR hGw
      simp only [depV]
      rintro _ rfl
      try go_simp
      all_goals first
        | (with_reducible exact Grow.refl _)
        | (with_reducible exact ⟨Grow.refl _, rfl⟩)
    · intro w5 hR
      have hGw : Grow W w5 := hR.of_drew
      have HGW := Lib.hid hGw
      have hcc := (HGW.out.block HF.out).cell
      have hgc := (HGW.out.block HX.out).cell
      have hac := HGW.out.cell HAC.out
      clear hR hGw
      simp only [depV]
      rintro _ rfl
      rintro _ rfl
      try go_simp
      all_goals first
        | (with_reducible exact Grow.refl _)
        | (with_reducible exact ⟨Grow.refl _, rfl⟩)
    · intro w5 hR
      have hGw : Grow W w5 := hR.of_drew
      have HGW := Lib.hid hGw
      have hcc := (HGW.out.block HF.out).cell
      have hgc := (HGW.out.block HX.out).cell
      have hac := HGW.out.cell HAC.out
      clear hR hGw
      simp only [depV]
      rintro _ rfl
      rintro _ rfl
      rintro _ rfl
      try go_simp
      all_goals first
        | (with_reducible exact Grow.refl _)
        | (with_reducible exact ⟨Grow.refl _, rfl⟩)
    · intro w5 hR
      have hGw : Grow W w5 := hR.of_drew
      have HGW := Lib.hid hGw
      have hcc := (HGW.out.block HF.out).cell
      have hgc := (HGW.out.block HX.out).cell
      have hac := HGW.out.cell HAC.out
      clear hR hGw
      simp only [depV]
      rintro _ rfl
      rintro _ rfl
      try go_simp
      all_goals first
        | (with_reducible exact Grow.refl _)
        | (with_reducible exact ⟨Grow.refl _, rfl⟩)
  · intro w5 hR
    have HG5 : Hid (Grow W w5) := Lib.hid hR.of_drew
    clear hR
    simp only [finVC, List.take_succ_cons, List.take_zero, List.drop_succ_cons, List.drop_zero]
    rintro _ rfl
    rintro _ rfl
    rintro _ rfl
    rintro _ rfl
    rintro _ rfl
    rintro _ rfl
    rintro _ rfl
    rintro _ rfl
    rintro _ rfl
    rintro _ rfl
    rintro _ rfl
    rintro _ rfl
    rintro _ rfl
    rintro _ rfl
    rintro _ rfl
    rintro _ rfl
    rintro _ rfl
    rintro _ rfl
    rintro _ rfl
    rintro _ rfl
    rintro _ rfl
    rintro _ rfl
    rintro _ rfl
    rintro _ rfl
    rintro _ rfl
    rintro _ rfl
    rintro _ rfl
    rintro _ rfl
    rintro _ rfl
    rintro _ rfl
    rintro _ rfl
    rintro _ rfl
    rintro _ rfl
    rintro _ rfl
    rintro _ rfl
    rintro _ rfl
    rintro _ rfl
    rintro _ rfl
    rintro _ rfl
    rintro _ rfl
    rintro _ rfl
    rintro _ rfl
    rintro _ rfl
    rintro _ rfl
    rintro _ rfl
    rintro _ rfl
    rintro _ rfl
    rintro _ rfl
    rintro _ rfl
    rintro _ rfl
    rintro _ rfl
    rintro _ rfl
    rintro _ rfl
    rintro _ rfl
    rintro _ rfl
    rintro _ rfl
    rintro _ rfl
    rintro _ rfl
    rintro _ rfl
    rintro _ rfl
    rintro _ rfl
    rintro _ rfl
    simp only [Act.put, List.setIfInBounds_toArray, List.set_cons_succ, List.set_cons_zero]
    go_wp2
    go_ret
    exact ⟨rfl, HG.out.trans HG5.out⟩

end Go.Proofs.Ytcgnibfcjadnjaa
