/- RMissed: the specification's Missed, of a possible watch; written by wip/tools/rmissed10.py. -/
import Derived.Test.YtcgnibfcjadnjaaRSafe
import Derived.Test.YtcgnibfcjadnjaaMoreM
namespace Go.Proofs.Ytcgnibfcjadnjaa
open Go.RowKit

theorem missOne_has {p : Pool} {g s i : Nat} (hg : g < 32) (hi : i < 5) : missOne p g s i = (hasN g i && (coveredD p s g && !coveredD p s (diffN g (2 ^ i)))) := by
  unfold missOne
  cases hh : hasN g i with
  | true => rw [Bool.true_and]
  | false =>
    rw [diff_not g hg i hi hh, Bool.false_and]
    cases coveredD p s g <;> rfl
/-- the numbers while the specification counts the i-th person's first s slots -/
def rmissL (p : Pool) (gs : List Nat) (i s : Nat) : List Nat := (List.range p.folk.length).map fun j => if j < i then missTo p gs gs.length j else if j = i then missTo p gs s j else 0
theorem rmissL_len (p : Pool) (gs : List Nat) (i s : Nat) : (rmissL p gs i s).length = p.folk.length := by simp [rmissL]
theorem rmissL_at {p : Pool} {gs : List Nat} {i s j : Nat} (h : j < p.folk.length) : (rmissL p gs i s)[j]? = some (if j < i then missTo p gs gs.length j else if j = i then missTo p gs s j else 0) := by
  unfold rmissL
  rw [List.getElem?_map, List.getElem?_range h]
  rfl
theorem rmissL_next (p : Pool) (gs : List Nat) (i : Nat) : rmissL p gs i gs.length = rmissL p gs (i + 1) 0 := by
  unfold rmissL
  refine List.map_congr_left fun j _ => ?_
  by_cases h1 : j < i
  · rw [if_pos h1, if_pos (by omega)]
  · rw [if_neg h1]
    by_cases h2 : j = i
    · rw [if_pos h2, if_pos (by omega)]
    · rw [if_neg h2, if_neg (by omega)]
      by_cases h3 : j = i + 1
      · rw [if_pos h3]; rfl
      · rw [if_neg h3]
theorem rmissL_start (p : Pool) (gs : List Nat) : natsL (rmissL p gs 0 0) = List.replicate p.folk.length 0 := by
  refine List.ext_getElem? fun j => ?_
  by_cases h : j < p.folk.length
  · have e := rmissL_at (p := p) (gs := gs) (i := 0) (s := 0) h
    rw [if_neg (by omega)] at e
    have e2 : (rmissL p gs 0 0)[j]? = some 0 := by
      rw [e]
      split <;> rfl
    rw [natsL_at e2]
    simp [h]
  · rw [List.getElem?_eq_none (by rw [natsL_length, rmissL_len]; omega), List.getElem?_eq_none (by simp; omega)]
theorem rmissL_end (p : Pool) (gs : List Nat) : rmissL p gs p.folk.length 0 = missedD p gs := by
  unfold rmissL missedD
  exact List.map_congr_left fun j hj => by rw [if_pos (List.mem_range.1 hj)]
theorem rmissL_same {p : Pool} {gs : List Nat} {i s g : Nat} (hg : gs[s]? = some g) (h : missOne p g s i = false) : rmissL p gs i s = rmissL p gs i (s + 1) := by
  unfold rmissL
  refine List.map_congr_left fun j _ => ?_
  by_cases h1 : j < i
  · rw [if_pos h1, if_pos h1]
  · rw [if_neg h1, if_neg h1]
    by_cases h2 : j = i
    · subst h2
      rw [if_pos rfl, if_pos rfl]
      show missTo p gs s j = missTo p gs s j + if missOne p (gs.getD s 0) s j then 1 else 0
      rw [List.getD_eq_getElem?_getD, hg, Option.getD_some, h]
      rfl
    · rw [if_neg h2, if_neg h2]
theorem rmissL_more {p : Pool} {gs : List Nat} {i s g : Nat} (hi : i < p.folk.length) (hg : gs[s]? = some g) (h : missOne p g s i = true) : (rmissL p gs i s).set i (missTo p gs s i + 1) = rmissL p gs i (s + 1) := by
  refine List.ext_getElem? fun j => ?_
  by_cases hj : j < p.folk.length
  · rw [rmissL_at hj]
    by_cases h2 : i = j
    · subst h2
      rw [List.getElem?_set_self (by rw [rmissL_len]; exact hi), if_neg (by omega), if_pos rfl]
      show some (missTo p gs s i + 1) = some (missTo p gs s i + if missOne p (gs.getD s 0) s i then 1 else 0)
      rw [List.getD_eq_getElem?_getD, hg, Option.getD_some, h]
      rfl
    · rw [List.getElem?_set_ne h2, rmissL_at hj, if_neg (show ¬ j = i by omega), if_neg (show ¬ j = i by omega)]
  · rw [List.getElem?_eq_none (by rw [List.length_set, rmissL_len]; omega), List.getElem?_eq_none (by rw [rmissL_len]; omega)]

set_option maxRecDepth 100000 in
set_option maxHeartbeats 16000000 in
theorem rMissed_good (h : PoolH) (p : Pool) (G : Good p) (hok : okPool p.i = true) (hs : Short p.i) (A : Option Addr) (cap : Nat) (gs : List Nat) (w : World) (hA : PoolAt w w.heap.size h p.i) (hI : Ints w w.heap.size A (natsL gs)) (hwt : Watch p gs) :
    Calls Try.prog 38 #[poolN h p, .slice A gs.length cap] w fun e w' => (∃ b, e = .returned (.tuple #[.slice (some ⟨b, 0, none⟩) p.folk.length p.folk.length, .int .i64 0]) ∧ w.heap.size ≤ b ∧ BlockIs w' b 3 (intCells (natsL (missedD p gs)))) ∧ Below w.heap.size w w' := by
  have hl : (natsL gs).length ≤ 1000 := by rw [natsL_length]; have h1 := hwt.len; have h2 := G.n3; omega
  have HC := Lib.hid (fun (w0 : World) (hw : Grow w w0) => rCheckWatch_any h p G hok hs A cap (natsL gs) w0 (hA.grow hw) ((hI.below hw).more hw.size) hl (watch_wf G hwt))
  have h1 : watchErr p (natsL gs) = 0 := by unfold watchErr; rw [ok_of_watch G hwt]; rfl
  simp only [natsL_length, h1] at HC
  have hf5 := G.f5
  have HL3 : gs.length ≤ 3 := by have h1 := hwt.len; have h2 := G.n3; omega
  have HCO := Lib.hid (fun (s : Nat) (hs : s < gs.length) (g : Nat) (hg : g < 32) (w0 : World) (hw : Below w.heap.size w w0) => rCovered_any h p G s g w0 ((hA.below hw).more hw.size) (by rw [← hwt.len]; exact hs) hg)
  have HIN := Lib.hid (fun (w0 : World) (hw : Below w.heap.size w w0) => (hI.below hw).more hw.size)
  have HG32 := Lib.hid (fun (s g : Nat) (hg : gs[s]? = some g) => hwt.g32 G hg)
  have hmk := make_full_int p.folk.length
  have hmk : ∀ w0, (Instr.makeSlice 26 (.int .i64 (p.folk.length : Int)) (.int .i64 (p.folk.length : Int))).run Try.prog w0 = .ok (.slice (some ⟨w0.heap.size, 0, none⟩) p.folk.length p.folk.length) (w0.alloc (.cells (intCells (List.replicate p.folk.length 0)) 3)) := fun w0 => hmk w0 (by omega)
  clear hok hA hs h1 hwt hl hI
  obtain ⟨fa, fc, na, nc⟩ := h
  go_enter Try.func38, Try.ntmps38
  go_upto_region 1 with fail
  obtain ⟨W, hW, hgr, hf, hsz⟩ := one_block w 25 (cellsN ⟨fa, fc, na, nc⟩ p)
  rw [hW]
  clear hW
  have hcc := hf.cell
  have HF := Lib.hid hf
  have HG := Lib.hid hgr
  clear hf hgr
  go_wp2_with fail
  refine (HC.out W HG.out).mono ?_
  rintro e w1 ⟨rfl, hb1⟩
  have HG1 : Hid (Grow w w1) := Lib.hid (HG.out.trans hb1)
  have HF1 := Lib.hid ((show Grow W w1 from hb1).block HF.out)
  have hcc1 := HF1.out.cell
  clear hb1 hcc
  go_upto_region 5 with fail
  clear hcc1 hmk
  rw [← rmissL_start p gs]
  obtain ⟨W3, hW3, hg3, hf3, hsz3⟩ := one_block w1 3 (intCells (natsL (rmissL p gs 0 0)))
  rw [hW3]
  clear hW3
  have HT3 := Lib.hid hf3
  have HG3 : Hid (Grow w W3) := Lib.hid (HG1.out.trans hg3)
  have HF2 := Lib.hid (hg3.block HF1.out)
  have hwtb : w.heap.size < w1.heap.size := HF1.out.lt
  clear hg3 hf3
  obtain ⟨tb, htb⟩ : ∃ z, w1.heap.size = z := ⟨_, rfl⟩
  rw [htb] at HT3 hwtb hsz3 ⊢
  clear htb
  go_wp2_with fail
  go_loopw [8] (fun iv wo => ∃ i : Nat, i ≤ p.folk.length ∧ iv = .int .i64 (i : Nat) ∧ Hid (BlockIs wo tb 3 (intCells (natsL (rmissL p gs i 0)))) ∧ Hid (Below tb W3 wo)) (fun iv _ => p.folk.length - (intOf iv).toNat)
  case atStart => exact ⟨0, Nat.zero_le _, rfl, HT3, Lib.hid (Below.refl _ _)⟩
  case round => as_aux_lemma =>
    obtain ⟨i, hil, rfl, HTO, HBO⟩ := hrel
    rename World => wo
    by_cases hlt : i < p.folk.length
    · have hdi : decide ((i : Int) < (p.folk.length : Int)) = true := decide_eq_true (by omega)
      go_wp2_with fail
      go_loopw [9] (fun sv wr => ∃ s : Nat, s ≤ gs.length ∧ sv = .int .i64 (s : Nat) ∧ Hid (BlockIs wr tb 3 (intCells (natsL (rmissL p gs i s)))) ∧ Hid (Below tb W3 wr)) (fun sv _ => gs.length - (intOf sv).toNat)
      case atStart => exact ⟨0, Nat.zero_le _, rfl, HTO, HBO⟩
      case round => as_aux_lemma =>
        obtain ⟨s, hsl, rfl, HTR, HBR⟩ := hrel
        rename World => wr
        have HZR : Hid (tb ≤ wr.heap.size) := Lib.hid (by have := HBR.out.size; omega)
        have HZW : Hid (w.heap.size ≤ wr.heap.size) := Lib.hid (by have := HZR.out; omega)
        have HGB : Hid (Below w.heap.size w wr) := Lib.hid (HG3.out.trans' (HBR.out.mono (by omega)))
        by_cases hlt2 : s < gs.length
        · have hd : decide ((s : Int) < (gs.length : Int)) = true := decide_eq_true (by omega)
          have hs0 : (0 : Int) ≤ (s : Int) := by omega
          have hs1 : (s : Int) < (gs.length : Int) := by omega
          have hi0 : (0 : Int) ≤ (i : Int) := by omega
          have hi1 : (i : Int) < (p.folk.length : Int) := by omega
          have hi64 : i ≤ 64 := by omega
          have hcv : IntKind.u64.wrap (i : Int) = (i : Int) := IntWalk.u64_in _ (by omega)
          obtain ⟨ab, ao, g, rfl, hab, hac0, HX⟩ := ints_nat (HIN.out wr HGB.out) hlt2
          have HAC := Lib.hid hac0
          have hg32 := HG32.out s g HX.out
          have HHS := Lib.hid (fun w0 => rHas_any g i w0 (by omega) (by omega))
          have HCV := Lib.hid (fun w0 hw => HCO.out s hlt2 g hg32 w0 hw)
          have HMO := Lib.hid (missOne_has (p := p) (s := s) hg32 (show i < 5 by omega))
          have HSA := Lib.hid (fun (hq : missOne p g s i = false) => rmissL_same (i := i) HX.out hq)
          have HMR := Lib.hid (fun (hq : missOne p g s i = true) => rmissL_more hlt HX.out hq)
          clear hac0
          cases hh : hasN g i with
          | false =>
            rw [hh] at HHS HMO
            have HSM : Hid (rmissL p gs i s = rmissL p gs i (s + 1)) := Lib.hid (HSA.out (by rw [HMO.out]; rfl))
            clear hh
            go_upto_region 11 with fail
            clear hd hdi
            refine wp_region_lit 29 [[], [], [(0, 32), (1, 33)], [(2, 34)], [], [(3, 35), (4, 36)], [(5, 37)], [(6, 38)], [(6, 38)], [(6, 38)], [(6, 38)], [(6, 38), (9, 41), (10, 42)], [(6, 38), (11, 43)], [(6, 38), (7, 39), (8, 40), (12, 44)], [(6, 38), (13, 45)], [(14, 46)], [(15, 47)], [(15, 47)], [(15, 47)], [(15, 47)], [(15, 47), (18, 50), (19, 51)], [(15, 47), (20, 52)], [(15, 47)], [(15, 47), (22, 54)], [(15, 47), (23, 55)], [(15, 47), (21, 53), (24, 56)], [(15, 47), (16, 48), (17, 49), (25, 57)], [(15, 47), (26, 58)], [(15, 47), (27, 59)]] Grow (fun qi v w' => match qi with
                | 0 => v = .slice (some ⟨ab, ao, none⟩) gs.length cap
                | 1 => v = .int .i64 (s : Nat)
                | 2 => v = .pointer (some ⟨ab, ao + s, none⟩)
                | 3 => v = .int .i64 (g : Nat)
                | 4 => v = .int .i64 (i : Nat)
                | 5 => v = .bool false
                | 6 => v = .bool false
                | 7 => v = undef
                | 8 => v = undef
                | 9 => v = undef
                | 10 => v = undef
                | 11 => v = undef
                | 12 => v = undef
                | 13 => v = undef
                | 14 => v = .bool false
                | 15 => v = .bool false
                | 16 => v = undef
                | 17 => v = undef
                | 18 => v = undef
                | 19 => v = undef
                | 20 => v = undef
                | 21 => v = undef
                | 22 => v = undef
                | 23 => v = undef
                | 24 => v = undef
                | 25 => v = undef
                | 26 => v = undef
                | 27 => v = undef
                | 28 => v = .bool false
                | _ => False) (by kernel_rfl) (by kernel_rfl) (fun _ _ _ => Grow.trans) Grow.refl ?_ ?_ ?_
            · intro i v y y' h k
              match i, h with
              | 0, h | 1, h | 2, h | 3, h | 4, h | 5, h | 6, h | 7, h | 8, h | 9, h | 10, h | 11, h | 12, h | 13, h | 14, h | 15, h | 16, h | 17, h | 18, h | 19, h | 20, h | 21, h | 22, h | 23, h | 24, h | 25, h | 26, h | 27, h | 28, h => exact h
            · simp only [StepsLit, List.take_succ_cons, List.take_zero]
              refine ⟨?_, ?_, ?_, ?_, ?_, ?_, ?_, ?_, ?_, ?_, ?_, ?_, ?_, ?_, ?_, ?_, ?_, ?_, ?_, ?_, ?_, ?_, ?_, ?_, ?_, ?_, ?_, ?_, ?_, trivial⟩
              · intro w5 hR
                have hGw : Grow wr w5 := hR.of_drew
                have HGW := Lib.hid hGw
                have hcc := ((HBR.out.trans (Below.mono HGW.out HZR.out)) |> fun k => HF2.out.below k (by omega)).cell
                have hac := HGW.out.cell HAC.out
                clear hR hGw
                simp only [depV]
                try go_simp
                all_goals first
                  | (with_reducible exact Grow.refl _)
                  | (with_reducible exact ⟨Grow.refl _, rfl⟩)
              · intro w5 hR
                have hGw : Grow wr w5 := hR.of_drew
                have HGW := Lib.hid hGw
                have hcc := ((HBR.out.trans (Below.mono HGW.out HZR.out)) |> fun k => HF2.out.below k (by omega)).cell
                have hac := HGW.out.cell HAC.out
                clear hR hGw
                simp only [depV]
                try go_simp
                all_goals first
                  | (with_reducible exact Grow.refl _)
                  | (with_reducible exact ⟨Grow.refl _, rfl⟩)
              · intro w5 hR
                have hGw : Grow wr w5 := hR.of_drew
                have HGW := Lib.hid hGw
                have hcc := ((HBR.out.trans (Below.mono HGW.out HZR.out)) |> fun k => HF2.out.below k (by omega)).cell
                have hac := HGW.out.cell HAC.out
                clear hR hGw
                simp only [depV]
                rintro _ rfl
                rintro _ rfl
                try go_simp
                all_goals first
                  | (with_reducible exact Grow.refl _)
                  | (with_reducible exact ⟨Grow.refl _, rfl⟩)
              · intro w5 hR
                have hGw : Grow wr w5 := hR.of_drew
                have HGW := Lib.hid hGw
                have hcc := ((HBR.out.trans (Below.mono HGW.out HZR.out)) |> fun k => HF2.out.below k (by omega)).cell
                have hac := HGW.out.cell HAC.out
                clear hR hGw
                simp only [depV]
                rintro _ rfl
                try go_simp
                all_goals first
                  | (with_reducible exact Grow.refl _)
                  | (with_reducible exact ⟨Grow.refl _, rfl⟩)
              · intro w5 hR
                have hGw : Grow wr w5 := hR.of_drew
                have HGW := Lib.hid hGw
                have hcc := ((HBR.out.trans (Below.mono HGW.out HZR.out)) |> fun k => HF2.out.below k (by omega)).cell
                have hac := HGW.out.cell HAC.out
                clear hR hGw
                simp only [depV]
                try go_simp
                all_goals first
                  | (with_reducible exact Grow.refl _)
                  | (with_reducible exact ⟨Grow.refl _, rfl⟩)
              · intro w5 hR
                have hGw : Grow wr w5 := hR.of_drew
                have HGW := Lib.hid hGw
                have hcc := ((HBR.out.trans (Below.mono HGW.out HZR.out)) |> fun k => HF2.out.below k (by omega)).cell
                have hac := HGW.out.cell HAC.out
                clear hR hGw
                simp only [depV]
                rintro _ rfl
                rintro _ rfl
                try go_simp
                refine (HHS.out _).mono ?_
                rintro e w6 ⟨rfl, rfl⟩
                exact ⟨Grow.refl _, rfl⟩
              · intro w5 hR
                have hGw : Grow wr w5 := hR.of_drew
                have HGW := Lib.hid hGw
                have hcc := ((HBR.out.trans (Below.mono HGW.out HZR.out)) |> fun k => HF2.out.below k (by omega)).cell
                have hac := HGW.out.cell HAC.out
                clear hR hGw
                simp only [depV]
                rintro _ rfl
                try go_simp
                all_goals first
                  | (with_reducible exact Grow.refl _)
                  | (with_reducible exact ⟨Grow.refl _, rfl⟩)
              · intro w5 hR
                have hGw : Grow wr w5 := hR.of_drew
                have HGW := Lib.hid hGw
                have hcc := ((HBR.out.trans (Below.mono HGW.out HZR.out)) |> fun k => HF2.out.below k (by omega)).cell
                have hac := HGW.out.cell HAC.out
                clear hR hGw
                simp only [depV]
                rintro _ rfl
                try go_simp
                all_goals first
                  | (with_reducible exact Grow.refl _)
                  | (with_reducible exact ⟨Grow.refl _, rfl⟩)
              · intro w5 hR
                have hGw : Grow wr w5 := hR.of_drew
                have HGW := Lib.hid hGw
                have hcc := ((HBR.out.trans (Below.mono HGW.out HZR.out)) |> fun k => HF2.out.below k (by omega)).cell
                have hac := HGW.out.cell HAC.out
                clear hR hGw
                simp only [depV]
                rintro _ rfl
                try go_simp
                all_goals first
                  | (with_reducible exact Grow.refl _)
                  | (with_reducible exact ⟨Grow.refl _, rfl⟩)
              · intro w5 hR
                have hGw : Grow wr w5 := hR.of_drew
                have HGW := Lib.hid hGw
                have hcc := ((HBR.out.trans (Below.mono HGW.out HZR.out)) |> fun k => HF2.out.below k (by omega)).cell
                have hac := HGW.out.cell HAC.out
                clear hR hGw
                simp only [depV]
                rintro _ rfl
                try go_simp
                all_goals first
                  | (with_reducible exact Grow.refl _)
                  | (with_reducible exact ⟨Grow.refl _, rfl⟩)
              · intro w5 hR
                have hGw : Grow wr w5 := hR.of_drew
                have HGW := Lib.hid hGw
                have hcc := ((HBR.out.trans (Below.mono HGW.out HZR.out)) |> fun k => HF2.out.below k (by omega)).cell
                have hac := HGW.out.cell HAC.out
                clear hR hGw
                simp only [depV]
                rintro _ rfl
                try go_simp
                all_goals first
                  | (with_reducible exact Grow.refl _)
                  | (with_reducible exact ⟨Grow.refl _, rfl⟩)
              · intro w5 hR
                have hGw : Grow wr w5 := hR.of_drew
                have HGW := Lib.hid hGw
                have hcc := ((HBR.out.trans (Below.mono HGW.out HZR.out)) |> fun k => HF2.out.below k (by omega)).cell
                have hac := HGW.out.cell HAC.out
                clear hR hGw
                simp only [depV]
                rintro _ rfl
                rintro _ rfl
                rintro _ rfl
                try go_simp
                all_goals first
                  | (with_reducible exact Grow.refl _)
                  | (with_reducible exact ⟨Grow.refl _, rfl⟩)
              · intro w5 hR
                have hGw : Grow wr w5 := hR.of_drew
                have HGW := Lib.hid hGw
                have hcc := ((HBR.out.trans (Below.mono HGW.out HZR.out)) |> fun k => HF2.out.below k (by omega)).cell
                have hac := HGW.out.cell HAC.out
                clear hR hGw
                simp only [depV]
                rintro _ rfl
                rintro _ rfl
                try go_simp
                all_goals first
                  | (with_reducible exact Grow.refl _)
                  | (with_reducible exact ⟨Grow.refl _, rfl⟩)
              · intro w5 hR
                have hGw : Grow wr w5 := hR.of_drew
                have HGW := Lib.hid hGw
                have hcc := ((HBR.out.trans (Below.mono HGW.out HZR.out)) |> fun k => HF2.out.below k (by omega)).cell
                have hac := HGW.out.cell HAC.out
                clear hR hGw
                simp only [depV]
                rintro _ rfl
                rintro _ rfl
                rintro _ rfl
                rintro _ rfl
                try go_simp
                all_goals first
                  | (with_reducible exact Grow.refl _)
                  | (with_reducible exact ⟨Grow.refl _, rfl⟩)
              · intro w5 hR
                have hGw : Grow wr w5 := hR.of_drew
                have HGW := Lib.hid hGw
                have hcc := ((HBR.out.trans (Below.mono HGW.out HZR.out)) |> fun k => HF2.out.below k (by omega)).cell
                have hac := HGW.out.cell HAC.out
                clear hR hGw
                simp only [depV]
                rintro _ rfl
                rintro _ rfl
                try go_simp
                all_goals first
                  | (with_reducible exact Grow.refl _)
                  | (with_reducible exact ⟨Grow.refl _, rfl⟩)
              · intro w5 hR
                have hGw : Grow wr w5 := hR.of_drew
                have HGW := Lib.hid hGw
                have hcc := ((HBR.out.trans (Below.mono HGW.out HZR.out)) |> fun k => HF2.out.below k (by omega)).cell
                have hac := HGW.out.cell HAC.out
                clear hR hGw
                simp only [depV]
                rintro _ rfl
                try go_simp
                all_goals first
                  | (with_reducible exact Grow.refl _)
                  | (with_reducible exact ⟨Grow.refl _, rfl⟩)
              · intro w5 hR
                have hGw : Grow wr w5 := hR.of_drew
                have HGW := Lib.hid hGw
                have hcc := ((HBR.out.trans (Below.mono HGW.out HZR.out)) |> fun k => HF2.out.below k (by omega)).cell
                have hac := HGW.out.cell HAC.out
                clear hR hGw
                simp only [depV]
                rintro _ rfl
                try go_simp
                all_goals first
                  | (with_reducible exact Grow.refl _)
                  | (with_reducible exact ⟨Grow.refl _, rfl⟩)
              · intro w5 hR
                have hGw : Grow wr w5 := hR.of_drew
                have HGW := Lib.hid hGw
                have hcc := ((HBR.out.trans (Below.mono HGW.out HZR.out)) |> fun k => HF2.out.below k (by omega)).cell
                have hac := HGW.out.cell HAC.out
                clear hR hGw
                simp only [depV]
                rintro _ rfl
                try go_simp
                all_goals first
                  | (with_reducible exact Grow.refl _)
                  | (with_reducible exact ⟨Grow.refl _, rfl⟩)
              · intro w5 hR
                have hGw : Grow wr w5 := hR.of_drew
                have HGW := Lib.hid hGw
                have hcc := ((HBR.out.trans (Below.mono HGW.out HZR.out)) |> fun k => HF2.out.below k (by omega)).cell
                have hac := HGW.out.cell HAC.out
                clear hR hGw
                simp only [depV]
                rintro _ rfl
                try go_simp
                all_goals first
                  | (with_reducible exact Grow.refl _)
                  | (with_reducible exact ⟨Grow.refl _, rfl⟩)
              · intro w5 hR
                have hGw : Grow wr w5 := hR.of_drew
                have HGW := Lib.hid hGw
                have hcc := ((HBR.out.trans (Below.mono HGW.out HZR.out)) |> fun k => HF2.out.below k (by omega)).cell
                have hac := HGW.out.cell HAC.out
                clear hR hGw
                simp only [depV]
                rintro _ rfl
                try go_simp
                all_goals first
                  | (with_reducible exact Grow.refl _)
                  | (with_reducible exact ⟨Grow.refl _, rfl⟩)
              · intro w5 hR
                have hGw : Grow wr w5 := hR.of_drew
                have HGW := Lib.hid hGw
                have hcc := ((HBR.out.trans (Below.mono HGW.out HZR.out)) |> fun k => HF2.out.below k (by omega)).cell
                have hac := HGW.out.cell HAC.out
                clear hR hGw
                simp only [depV]
                rintro _ rfl
                rintro _ rfl
                rintro _ rfl
                try go_simp
                all_goals first
                  | (with_reducible exact Grow.refl _)
                  | (with_reducible exact ⟨Grow.refl _, rfl⟩)
              · intro w5 hR
                have hGw : Grow wr w5 := hR.of_drew
                have HGW := Lib.hid hGw
                have hcc := ((HBR.out.trans (Below.mono HGW.out HZR.out)) |> fun k => HF2.out.below k (by omega)).cell
                have hac := HGW.out.cell HAC.out
                clear hR hGw
                simp only [depV]
                rintro _ rfl
                rintro _ rfl
                try go_simp
                all_goals first
                  | (with_reducible exact Grow.refl _)
                  | (with_reducible exact ⟨Grow.refl _, rfl⟩)
              · intro w5 hR
                have hGw : Grow wr w5 := hR.of_drew
                have HGW := Lib.hid hGw
                have hcc := ((HBR.out.trans (Below.mono HGW.out HZR.out)) |> fun k => HF2.out.below k (by omega)).cell
                have hac := HGW.out.cell HAC.out
                clear hR hGw
                simp only [depV]
                rintro _ rfl
                try go_simp
                all_goals first
                  | (with_reducible exact Grow.refl _)
                  | (with_reducible exact ⟨Grow.refl _, rfl⟩)
              · intro w5 hR
                have hGw : Grow wr w5 := hR.of_drew
                have HGW := Lib.hid hGw
                have hcc := ((HBR.out.trans (Below.mono HGW.out HZR.out)) |> fun k => HF2.out.below k (by omega)).cell
                have hac := HGW.out.cell HAC.out
                clear hR hGw
                simp only [depV]
                rintro _ rfl
                rintro _ rfl
                try go_simp
                all_goals first
                  | (with_reducible exact Grow.refl _)
                  | (with_reducible exact ⟨Grow.refl _, rfl⟩)
              · intro w5 hR
                have hGw : Grow wr w5 := hR.of_drew
                have HGW := Lib.hid hGw
                have hcc := ((HBR.out.trans (Below.mono HGW.out HZR.out)) |> fun k => HF2.out.below k (by omega)).cell
                have hac := HGW.out.cell HAC.out
                clear hR hGw
                simp only [depV]
                rintro _ rfl
                rintro _ rfl
                try go_simp
                all_goals first
                  | (with_reducible exact Grow.refl _)
                  | (with_reducible exact ⟨Grow.refl _, rfl⟩)
              · intro w5 hR
                have hGw : Grow wr w5 := hR.of_drew
                have HGW := Lib.hid hGw
                have hcc := ((HBR.out.trans (Below.mono HGW.out HZR.out)) |> fun k => HF2.out.below k (by omega)).cell
                have hac := HGW.out.cell HAC.out
                clear hR hGw
                simp only [depV]
                rintro _ rfl
                rintro _ rfl
                rintro _ rfl
                try go_simp
                all_goals first
                  | (with_reducible exact Grow.refl _)
                  | (with_reducible exact ⟨Grow.refl _, rfl⟩)
              · intro w5 hR
                have hGw : Grow wr w5 := hR.of_drew
                have HGW := Lib.hid hGw
                have hcc := ((HBR.out.trans (Below.mono HGW.out HZR.out)) |> fun k => HF2.out.below k (by omega)).cell
                have hac := HGW.out.cell HAC.out
                clear hR hGw
                simp only [depV]
                rintro _ rfl
                rintro _ rfl
                rintro _ rfl
                rintro _ rfl
                try go_simp
                all_goals first
                  | (with_reducible exact Grow.refl _)
                  | (with_reducible exact ⟨Grow.refl _, rfl⟩)
              · intro w5 hR
                have hGw : Grow wr w5 := hR.of_drew
                have HGW := Lib.hid hGw
                have hcc := ((HBR.out.trans (Below.mono HGW.out HZR.out)) |> fun k => HF2.out.below k (by omega)).cell
                have hac := HGW.out.cell HAC.out
                clear hR hGw
                simp only [depV]
                rintro _ rfl
                rintro _ rfl
                try go_simp
                all_goals first
                  | (with_reducible exact Grow.refl _)
                  | (with_reducible exact ⟨Grow.refl _, rfl⟩)
              · intro w5 hR
                have hGw : Grow wr w5 := hR.of_drew
                have HGW := Lib.hid hGw
                have hcc := ((HBR.out.trans (Below.mono HGW.out HZR.out)) |> fun k => HF2.out.below k (by omega)).cell
                have hac := HGW.out.cell HAC.out
                clear hR hGw
                simp only [depV]
                rintro _ rfl
                rintro _ rfl
                try go_simp
                all_goals first
                  | (with_reducible exact Grow.refl _)
                  | (with_reducible exact ⟨Grow.refl _, rfl⟩)
            · intro w5 hR
              have HG5 : Hid (Grow wr w5) := Lib.hid hR.of_drew
              clear hR
              simp only [finVC, List.take_succ_cons, List.take_zero, List.drop_succ_cons, List.drop_zero]
              rintro _ rfl
              rintro _ rfl
              rintro _ rfl
              rintro _ rfl
              rintro _ rfl
              rintro _ rfl
              rintro _ rfl
              rintro _ rfl
              rintro _ rfl
              rintro _ rfl
              rintro _ rfl
              rintro _ rfl
              rintro _ rfl
              rintro _ rfl
              rintro _ rfl
              rintro _ rfl
              rintro _ rfl
              rintro _ rfl
              rintro _ rfl
              rintro _ rfl
              rintro _ rfl
              rintro _ rfl
              rintro _ rfl
              rintro _ rfl
              rintro _ rfl
              rintro _ rfl
              rintro _ rfl
              rintro _ rfl
              rintro _ rfl
              simp only [Act.put, List.setIfInBounds_toArray, List.set_cons_succ, List.set_cons_zero]
              have HBN : Hid (Below tb W3 w5) := Lib.hid (HBR.out.trans (Below.mono HG5.out HZR.out))
              have HTN : Hid (BlockIs w5 tb 3 (intCells (natsL (rmissL p gs i (s + 1))))) := Lib.hid (by rw [← HSM.out]; exact HG5.out.block HTR.out)
              go_wp2_with fail
              go_roundw
              case rel => exact ⟨s + 1, by omega, by go_num, HTN, HBN⟩
              case measure => simp [intOf]; omega
          | true =>
            rw [hh] at HHS HMO
            have hdh := diff_has g hg32 i (by omega) hh
            have hd32 := diff_32 hg32 (2 ^ i)
            have HC2A := Lib.hid (fun w0 hw => HCO.out s hlt2 (diffN g (2 ^ i)) hd32 w0 hw)
            obtain ⟨cv, hcvd⟩ : ∃ z, coveredD p s g = z := ⟨_, rfl⟩
            rw [hcvd] at HCV HMO
            clear hh hcvd
            cases cv with
            | false =>
              have HSM : Hid (rmissL p gs i s = rmissL p gs i (s + 1)) := Lib.hid (HSA.out (by rw [HMO.out]; rfl))
              go_upto_region 11 with fail
              clear hd hdi
              refine wp_region_lit 29 [[], [], [(0, 32), (1, 33)], [(2, 34)], [], [(3, 35), (4, 36)], [(5, 37)], [(6, 38)], [(6, 38)], [(6, 38)], [(6, 38)], [(6, 38), (9, 41), (10, 42)], [(6, 38), (11, 43)], [(6, 38), (7, 39), (8, 40), (12, 44)], [(6, 38), (13, 45)], [(14, 46)], [(15, 47)], [(15, 47)], [(15, 47)], [(15, 47)], [(15, 47), (18, 50), (19, 51)], [(15, 47), (20, 52)], [(15, 47)], [(15, 47), (22, 54)], [(15, 47), (23, 55)], [(15, 47), (21, 53), (24, 56)], [(15, 47), (16, 48), (17, 49), (25, 57)], [(15, 47), (26, 58)], [(15, 47), (27, 59)]] Grow (fun qi v w' => match qi with
                  | 0 => v = .slice (some ⟨ab, ao, none⟩) gs.length cap
                  | 1 => v = .int .i64 (s : Nat)
                  | 2 => v = .pointer (some ⟨ab, ao + s, none⟩)
                  | 3 => v = .int .i64 (g : Nat)
                  | 4 => v = .int .i64 (i : Nat)
                  | 5 => v = .bool true
                  | 6 => v = .bool true
                  | 7 => v = poolN ⟨fa, fc, na, nc⟩ p
                  | 8 => v = .int .i64 (s : Nat)
                  | 9 => v = .slice (some ⟨ab, ao, none⟩) gs.length cap
                  | 10 => v = .int .i64 (s : Nat)
                  | 11 => v = .pointer (some ⟨ab, ao + s, none⟩)
                  | 12 => v = .int .i64 (g : Nat)
                  | 13 => v = .bool false
                  | 14 => v = .bool false
                  | 15 => v = .bool false
                  | 16 => v = undef
                  | 17 => v = undef
                  | 18 => v = undef
                  | 19 => v = undef
                  | 20 => v = undef
                  | 21 => v = undef
                  | 22 => v = undef
                  | 23 => v = undef
                  | 24 => v = undef
                  | 25 => v = undef
                  | 26 => v = undef
                  | 27 => v = undef
                  | 28 => v = .bool false
                  | _ => False) (by kernel_rfl) (by kernel_rfl) (fun _ _ _ => Grow.trans) Grow.refl ?_ ?_ ?_
              · intro i v y y' h k
                match i, h with
                | 0, h | 1, h | 2, h | 3, h | 4, h | 5, h | 6, h | 7, h | 8, h | 9, h | 10, h | 11, h | 12, h | 13, h | 14, h | 15, h | 16, h | 17, h | 18, h | 19, h | 20, h | 21, h | 22, h | 23, h | 24, h | 25, h | 26, h | 27, h | 28, h => exact h
              · simp only [StepsLit, List.take_succ_cons, List.take_zero]
                refine ⟨?_, ?_, ?_, ?_, ?_, ?_, ?_, ?_, ?_, ?_, ?_, ?_, ?_, ?_, ?_, ?_, ?_, ?_, ?_, ?_, ?_, ?_, ?_, ?_, ?_, ?_, ?_, ?_, ?_, trivial⟩
                · intro w5 hR
                  have hGw : Grow wr w5 := hR.of_drew
                  have HGW := Lib.hid hGw
                  have hcc := ((HBR.out.trans (Below.mono HGW.out HZR.out)) |> fun k => HF2.out.below k (by omega)).cell
                  have hac := HGW.out.cell HAC.out
                  clear hR hGw
                  simp only [depV]
                  try go_simp
                  all_goals first
                    | (with_reducible exact Grow.refl _)
                    | (with_reducible exact ⟨Grow.refl _, rfl⟩)
                · intro w5 hR
                  have hGw : Grow wr w5 := hR.of_drew
                  have HGW := Lib.hid hGw
                  have hcc := ((HBR.out.trans (Below.mono HGW.out HZR.out)) |> fun k => HF2.out.below k (by omega)).cell
                  have hac := HGW.out.cell HAC.out
                  clear hR hGw
                  simp only [depV]
                  try go_simp
                  all_goals first
                    | (with_reducible exact Grow.refl _)
                    | (with_reducible exact ⟨Grow.refl _, rfl⟩)
                · intro w5 hR
                  have hGw : Grow wr w5 := hR.of_drew
                  have HGW := Lib.hid hGw
                  have hcc := ((HBR.out.trans (Below.mono HGW.out HZR.out)) |> fun k => HF2.out.below k (by omega)).cell
                  have hac := HGW.out.cell HAC.out
                  clear hR hGw
                  simp only [depV]
                  rintro _ rfl
                  rintro _ rfl
                  try go_simp
                  all_goals first
                    | (with_reducible exact Grow.refl _)
                    | (with_reducible exact ⟨Grow.refl _, rfl⟩)
                · intro w5 hR
                  have hGw : Grow wr w5 := hR.of_drew
                  have HGW := Lib.hid hGw
                  have hcc := ((HBR.out.trans (Below.mono HGW.out HZR.out)) |> fun k => HF2.out.below k (by omega)).cell
                  have hac := HGW.out.cell HAC.out
                  clear hR hGw
                  simp only [depV]
                  rintro _ rfl
                  try go_simp
                  all_goals first
                    | (with_reducible exact Grow.refl _)
                    | (with_reducible exact ⟨Grow.refl _, rfl⟩)
                · intro w5 hR
                  have hGw : Grow wr w5 := hR.of_drew
                  have HGW := Lib.hid hGw
                  have hcc := ((HBR.out.trans (Below.mono HGW.out HZR.out)) |> fun k => HF2.out.below k (by omega)).cell
                  have hac := HGW.out.cell HAC.out
                  clear hR hGw
                  simp only [depV]
                  try go_simp
                  all_goals first
                    | (with_reducible exact Grow.refl _)
                    | (with_reducible exact ⟨Grow.refl _, rfl⟩)
                · intro w5 hR
                  have hGw : Grow wr w5 := hR.of_drew
                  have HGW := Lib.hid hGw
                  have hcc := ((HBR.out.trans (Below.mono HGW.out HZR.out)) |> fun k => HF2.out.below k (by omega)).cell
                  have hac := HGW.out.cell HAC.out
                  clear hR hGw
                  simp only [depV]
                  rintro _ rfl
                  rintro _ rfl
                  try go_simp
                  refine (HHS.out _).mono ?_
                  rintro e w6 ⟨rfl, rfl⟩
                  exact ⟨Grow.refl _, rfl⟩
                · intro w5 hR
                  have hGw : Grow wr w5 := hR.of_drew
                  have HGW := Lib.hid hGw
                  have hcc := ((HBR.out.trans (Below.mono HGW.out HZR.out)) |> fun k => HF2.out.below k (by omega)).cell
                  have hac := HGW.out.cell HAC.out
                  clear hR hGw
                  simp only [depV]
                  rintro _ rfl
                  try go_simp
                  all_goals first
                    | (with_reducible exact Grow.refl _)
                    | (with_reducible exact ⟨Grow.refl _, rfl⟩)
                · intro w5 hR
                  have hGw : Grow wr w5 := hR.of_drew
                  have HGW := Lib.hid hGw
                  have hcc := ((HBR.out.trans (Below.mono HGW.out HZR.out)) |> fun k => HF2.out.below k (by omega)).cell
                  have hac := HGW.out.cell HAC.out
                  clear hR hGw
                  simp only [depV]
                  rintro _ rfl
                  try go_simp
                  all_goals first
                    | (with_reducible exact Grow.refl _)
                    | (with_reducible exact ⟨Grow.refl _, rfl⟩)
                · intro w5 hR
                  have hGw : Grow wr w5 := hR.of_drew
                  have HGW := Lib.hid hGw
                  have hcc := ((HBR.out.trans (Below.mono HGW.out HZR.out)) |> fun k => HF2.out.below k (by omega)).cell
                  have hac := HGW.out.cell HAC.out
                  clear hR hGw
                  simp only [depV]
                  rintro _ rfl
                  try go_simp
                  all_goals first
                    | (with_reducible exact Grow.refl _)
                    | (with_reducible exact ⟨Grow.refl _, rfl⟩)
                · intro w5 hR
                  have hGw : Grow wr w5 := hR.of_drew
                  have HGW := Lib.hid hGw
                  have hcc := ((HBR.out.trans (Below.mono HGW.out HZR.out)) |> fun k => HF2.out.below k (by omega)).cell
                  have hac := HGW.out.cell HAC.out
                  clear hR hGw
                  simp only [depV]
                  rintro _ rfl
                  try go_simp
                  all_goals first
                    | (with_reducible exact Grow.refl _)
                    | (with_reducible exact ⟨Grow.refl _, rfl⟩)
                · intro w5 hR
                  have hGw : Grow wr w5 := hR.of_drew
                  have HGW := Lib.hid hGw
                  have hcc := ((HBR.out.trans (Below.mono HGW.out HZR.out)) |> fun k => HF2.out.below k (by omega)).cell
                  have hac := HGW.out.cell HAC.out
                  clear hR hGw
                  simp only [depV]
                  rintro _ rfl
                  try go_simp
                  all_goals first
                    | (with_reducible exact Grow.refl _)
                    | (with_reducible exact ⟨Grow.refl _, rfl⟩)
                · intro w5 hR
                  have hGw : Grow wr w5 := hR.of_drew
                  have HGW := Lib.hid hGw
                  have hcc := ((HBR.out.trans (Below.mono HGW.out HZR.out)) |> fun k => HF2.out.below k (by omega)).cell
                  have hac := HGW.out.cell HAC.out
                  clear hR hGw
                  simp only [depV]
                  rintro _ rfl
                  rintro _ rfl
                  rintro _ rfl
                  try go_simp
                  all_goals first
                    | (with_reducible exact Grow.refl _)
                    | (with_reducible exact ⟨Grow.refl _, rfl⟩)
                · intro w5 hR
                  have hGw : Grow wr w5 := hR.of_drew
                  have HGW := Lib.hid hGw
                  have hcc := ((HBR.out.trans (Below.mono HGW.out HZR.out)) |> fun k => HF2.out.below k (by omega)).cell
                  have hac := HGW.out.cell HAC.out
                  clear hR hGw
                  simp only [depV]
                  rintro _ rfl
                  rintro _ rfl
                  try go_simp
                  all_goals first
                    | (with_reducible exact Grow.refl _)
                    | (with_reducible exact ⟨Grow.refl _, rfl⟩)
                · intro w5 hR
                  have hGw : Grow wr w5 := hR.of_drew
                  have HGW := Lib.hid hGw
                  have hcc := ((HBR.out.trans (Below.mono HGW.out HZR.out)) |> fun k => HF2.out.below k (by omega)).cell
                  have hac := HGW.out.cell HAC.out
                  clear hR hGw
                  simp only [depV]
                  rintro _ rfl
                  rintro _ rfl
                  rintro _ rfl
                  rintro _ rfl
                  try go_simp
                  refine (HCV.out w5 (HGB.out.trans (Below.mono HGW.out HZW.out))).mono ?_
                  rintro e w6 ⟨rfl, hb6⟩
                  exact ⟨hb6, rfl⟩
                · intro w5 hR
                  have hGw : Grow wr w5 := hR.of_drew
                  have HGW := Lib.hid hGw
                  have hcc := ((HBR.out.trans (Below.mono HGW.out HZR.out)) |> fun k => HF2.out.below k (by omega)).cell
                  have hac := HGW.out.cell HAC.out
                  clear hR hGw
                  simp only [depV]
                  rintro _ rfl
                  rintro _ rfl
                  try go_simp
                  all_goals first
                    | (with_reducible exact Grow.refl _)
                    | (with_reducible exact ⟨Grow.refl _, rfl⟩)
                · intro w5 hR
                  have hGw : Grow wr w5 := hR.of_drew
                  have HGW := Lib.hid hGw
                  have hcc := ((HBR.out.trans (Below.mono HGW.out HZR.out)) |> fun k => HF2.out.below k (by omega)).cell
                  have hac := HGW.out.cell HAC.out
                  clear hR hGw
                  simp only [depV]
                  rintro _ rfl
                  try go_simp
                  all_goals first
                    | (with_reducible exact Grow.refl _)
                    | (with_reducible exact ⟨Grow.refl _, rfl⟩)
                · intro w5 hR
                  have hGw : Grow wr w5 := hR.of_drew
                  have HGW := Lib.hid hGw
                  have hcc := ((HBR.out.trans (Below.mono HGW.out HZR.out)) |> fun k => HF2.out.below k (by omega)).cell
                  have hac := HGW.out.cell HAC.out
                  clear hR hGw
                  simp only [depV]
                  rintro _ rfl
                  try go_simp
                  all_goals first
                    | (with_reducible exact Grow.refl _)
                    | (with_reducible exact ⟨Grow.refl _, rfl⟩)
                · intro w5 hR
                  have hGw : Grow wr w5 := hR.of_drew
                  have HGW := Lib.hid hGw
                  have hcc := ((HBR.out.trans (Below.mono HGW.out HZR.out)) |> fun k => HF2.out.below k (by omega)).cell
                  have hac := HGW.out.cell HAC.out
                  clear hR hGw
                  simp only [depV]
                  rintro _ rfl
                  try go_simp
                  all_goals first
                    | (with_reducible exact Grow.refl _)
                    | (with_reducible exact ⟨Grow.refl _, rfl⟩)
                · intro w5 hR
                  have hGw : Grow wr w5 := hR.of_drew
                  have HGW := Lib.hid hGw
                  have hcc := ((HBR.out.trans (Below.mono HGW.out HZR.out)) |> fun k => HF2.out.below k (by omega)).cell
                  have hac := HGW.out.cell HAC.out
                  clear hR hGw
                  simp only [depV]
                  rintro _ rfl
                  try go_simp
                  all_goals first
                    | (with_reducible exact Grow.refl _)
                    | (with_reducible exact ⟨Grow.refl _, rfl⟩)
                · intro w5 hR
                  have hGw : Grow wr w5 := hR.of_drew
                  have HGW := Lib.hid hGw
                  have hcc := ((HBR.out.trans (Below.mono HGW.out HZR.out)) |> fun k => HF2.out.below k (by omega)).cell
                  have hac := HGW.out.cell HAC.out
                  clear hR hGw
                  simp only [depV]
                  rintro _ rfl
                  try go_simp
                  all_goals first
                    | (with_reducible exact Grow.refl _)
                    | (with_reducible exact ⟨Grow.refl _, rfl⟩)
                · intro w5 hR
                  have hGw : Grow wr w5 := hR.of_drew
                  have HGW := Lib.hid hGw
                  have hcc := ((HBR.out.trans (Below.mono HGW.out HZR.out)) |> fun k => HF2.out.below k (by omega)).cell
                  have hac := HGW.out.cell HAC.out
                  clear hR hGw
                  simp only [depV]
                  rintro _ rfl
                  rintro _ rfl
                  rintro _ rfl
                  try go_simp
                  all_goals first
                    | (with_reducible exact Grow.refl _)
                    | (with_reducible exact ⟨Grow.refl _, rfl⟩)
                · intro w5 hR
                  have hGw : Grow wr w5 := hR.of_drew
                  have HGW := Lib.hid hGw
                  have hcc := ((HBR.out.trans (Below.mono HGW.out HZR.out)) |> fun k => HF2.out.below k (by omega)).cell
                  have hac := HGW.out.cell HAC.out
                  clear hR hGw
                  simp only [depV]
                  rintro _ rfl
                  rintro _ rfl
                  try go_simp
                  all_goals first
                    | (with_reducible exact Grow.refl _)
                    | (with_reducible exact ⟨Grow.refl _, rfl⟩)
                · intro w5 hR
                  have hGw : Grow wr w5 := hR.of_drew
                  have HGW := Lib.hid hGw
                  have hcc := ((HBR.out.trans (Below.mono HGW.out HZR.out)) |> fun k => HF2.out.below k (by omega)).cell
                  have hac := HGW.out.cell HAC.out
                  clear hR hGw
                  simp only [depV]
                  rintro _ rfl
                  try go_simp
                  all_goals first
                    | (with_reducible exact Grow.refl _)
                    | (with_reducible exact ⟨Grow.refl _, rfl⟩)
                · intro w5 hR
                  have hGw : Grow wr w5 := hR.of_drew
                  have HGW := Lib.hid hGw
                  have hcc := ((HBR.out.trans (Below.mono HGW.out HZR.out)) |> fun k => HF2.out.below k (by omega)).cell
                  have hac := HGW.out.cell HAC.out
                  clear hR hGw
                  simp only [depV]
                  rintro _ rfl
                  rintro _ rfl
                  try go_simp
                  all_goals first
                    | (with_reducible exact Grow.refl _)
                    | (with_reducible exact ⟨Grow.refl _, rfl⟩)
                · intro w5 hR
                  have hGw : Grow wr w5 := hR.of_drew
                  have HGW := Lib.hid hGw
                  have hcc := ((HBR.out.trans (Below.mono HGW.out HZR.out)) |> fun k => HF2.out.below k (by omega)).cell
                  have hac := HGW.out.cell HAC.out
                  clear hR hGw
                  simp only [depV]
                  rintro _ rfl
                  rintro _ rfl
                  try go_simp
                  all_goals first
                    | (with_reducible exact Grow.refl _)
                    | (with_reducible exact ⟨Grow.refl _, rfl⟩)
                · intro w5 hR
                  have hGw : Grow wr w5 := hR.of_drew
                  have HGW := Lib.hid hGw
                  have hcc := ((HBR.out.trans (Below.mono HGW.out HZR.out)) |> fun k => HF2.out.below k (by omega)).cell
                  have hac := HGW.out.cell HAC.out
                  clear hR hGw
                  simp only [depV]
                  rintro _ rfl
                  rintro _ rfl
                  rintro _ rfl
                  try go_simp
                  all_goals first
                    | (with_reducible exact Grow.refl _)
                    | (with_reducible exact ⟨Grow.refl _, rfl⟩)
                · intro w5 hR
                  have hGw : Grow wr w5 := hR.of_drew
                  have HGW := Lib.hid hGw
                  have hcc := ((HBR.out.trans (Below.mono HGW.out HZR.out)) |> fun k => HF2.out.below k (by omega)).cell
                  have hac := HGW.out.cell HAC.out
                  clear hR hGw
                  simp only [depV]
                  rintro _ rfl
                  rintro _ rfl
                  rintro _ rfl
                  rintro _ rfl
                  try go_simp
                  all_goals first
                    | (with_reducible exact Grow.refl _)
                    | (with_reducible exact ⟨Grow.refl _, rfl⟩)
                · intro w5 hR
                  have hGw : Grow wr w5 := hR.of_drew
                  have HGW := Lib.hid hGw
                  have hcc := ((HBR.out.trans (Below.mono HGW.out HZR.out)) |> fun k => HF2.out.below k (by omega)).cell
                  have hac := HGW.out.cell HAC.out
                  clear hR hGw
                  simp only [depV]
                  rintro _ rfl
                  rintro _ rfl
                  try go_simp
                  all_goals first
                    | (with_reducible exact Grow.refl _)
                    | (with_reducible exact ⟨Grow.refl _, rfl⟩)
                · intro w5 hR
                  have hGw : Grow wr w5 := hR.of_drew
                  have HGW := Lib.hid hGw
                  have hcc := ((HBR.out.trans (Below.mono HGW.out HZR.out)) |> fun k => HF2.out.below k (by omega)).cell
                  have hac := HGW.out.cell HAC.out
                  clear hR hGw
                  simp only [depV]
                  rintro _ rfl
                  rintro _ rfl
                  try go_simp
                  all_goals first
                    | (with_reducible exact Grow.refl _)
                    | (with_reducible exact ⟨Grow.refl _, rfl⟩)
              · intro w5 hR
                have HG5 : Hid (Grow wr w5) := Lib.hid hR.of_drew
                clear hR
                simp only [finVC, List.take_succ_cons, List.take_zero, List.drop_succ_cons, List.drop_zero]
                rintro _ rfl
                rintro _ rfl
                rintro _ rfl
                rintro _ rfl
                rintro _ rfl
                rintro _ rfl
                rintro _ rfl
                rintro _ rfl
                rintro _ rfl
                rintro _ rfl
                rintro _ rfl
                rintro _ rfl
                rintro _ rfl
                rintro _ rfl
                rintro _ rfl
                rintro _ rfl
                rintro _ rfl
                rintro _ rfl
                rintro _ rfl
                rintro _ rfl
                rintro _ rfl
                rintro _ rfl
                rintro _ rfl
                rintro _ rfl
                rintro _ rfl
                rintro _ rfl
                rintro _ rfl
                rintro _ rfl
                rintro _ rfl
                simp only [Act.put, List.setIfInBounds_toArray, List.set_cons_succ, List.set_cons_zero]
                have HBN : Hid (Below tb W3 w5) := Lib.hid (HBR.out.trans (Below.mono HG5.out HZR.out))
                have HTN : Hid (BlockIs w5 tb 3 (intCells (natsL (rmissL p gs i (s + 1))))) := Lib.hid (by rw [← HSM.out]; exact HG5.out.block HTR.out)
                go_wp2_with fail
                go_roundw
                case rel => exact ⟨s + 1, by omega, by go_num, HTN, HBN⟩
                case measure => simp [intOf]; omega
            | true =>
              have hpI : ((2 : Int) ^ i) = ((2 ^ i : Nat) : Int) := (Int.natCast_pow 2 i).symm
              obtain ⟨pw, hpw⟩ : ∃ z, 2 ^ i = z := ⟨_, rfl⟩
              rw [hpw] at hdh hd32 HC2A HMO hpI
              obtain ⟨x, hx⟩ : ∃ z, diffN g pw = z := ⟨_, rfl⟩
              rw [hx] at hdh hd32 HC2A HMO
              obtain ⟨c2, hc2⟩ : ∃ z, coveredD p s x = z := ⟨_, rfl⟩
              rw [hc2] at HC2A HMO
              have HC2 := HC2A
              have hshl : IntKind.i64.wrap ((2 : Int) ^ i) = (pw : Int) := by
                rw [hpI]
                exact IntWalk.i64_in _ (by omega)
              have HXE : Hid ((g : Int) - (pw : Int) = (x : Int)) := Lib.hid (by omega)
              have HSM : Hid (c2 = true → rmissL p gs i s = rmissL p gs i (s + 1)) := Lib.hid (fun hq => HSA.out (by rw [HMO.out, hq]; rfl))
              have hmv3 : missTo p gs s i ≤ 3 := Nat.le_trans (missTo_le p gs i s) (by omega)
              have HMV : Hid ((intCells (natsL (rmissL p gs i s)))[i]? = some (.int .i64 (missTo p gs s i : Nat))) := Lib.hid (by
                have h := rmissL_at (p := p) (gs := gs) (i := i) (s := s) hlt
                rw [if_neg (by omega), if_pos rfl] at h
                simp [intCells, natsL, h])
              have HMX0 : Hid (c2 = false → (rmissL p gs i s).set i (missTo p gs s i + 1) = rmissL p gs i (s + 1)) := Lib.hid (fun hq => HMR.out (by rw [HMO.out, hq]; rfl))
              obtain ⟨mv, hmv⟩ : ∃ z, missTo p gs s i = z := ⟨_, rfl⟩
              rw [hmv] at HMV HMX0 hmv3
              have HMX : Hid (c2 = false → (intCells (natsL (rmissL p gs i s))).setIfInBounds i (.int .i64 ((mv : Int) + 1)) = intCells (natsL (rmissL p gs i (s + 1)))) := Lib.hid (fun hq => by
                rw [intCells_set, show ((mv : Int) + 1) = ((mv + 1 : Nat) : Int) by omega, natsL_set, HMX0.out hq])
              clear hpI hpw hx hc2 hmv
              go_upto_region 11 with fail
              clear hd hdi
              refine wp_region_lit 29 [[], [], [(0, 32), (1, 33)], [(2, 34)], [], [(3, 35), (4, 36)], [(5, 37)], [(6, 38)], [(6, 38)], [(6, 38)], [(6, 38)], [(6, 38), (9, 41), (10, 42)], [(6, 38), (11, 43)], [(6, 38), (7, 39), (8, 40), (12, 44)], [(6, 38), (13, 45)], [(14, 46)], [(15, 47)], [(15, 47)], [(15, 47)], [(15, 47)], [(15, 47), (18, 50), (19, 51)], [(15, 47), (20, 52)], [(15, 47)], [(15, 47), (22, 54)], [(15, 47), (23, 55)], [(15, 47), (21, 53), (24, 56)], [(15, 47), (16, 48), (17, 49), (25, 57)], [(15, 47), (26, 58)], [(15, 47), (27, 59)]] Grow (fun qi v w' => match qi with
                  | 0 => v = .slice (some ⟨ab, ao, none⟩) gs.length cap
                  | 1 => v = .int .i64 (s : Nat)
                  | 2 => v = .pointer (some ⟨ab, ao + s, none⟩)
                  | 3 => v = .int .i64 (g : Nat)
                  | 4 => v = .int .i64 (i : Nat)
                  | 5 => v = .bool true
                  | 6 => v = .bool true
                  | 7 => v = poolN ⟨fa, fc, na, nc⟩ p
                  | 8 => v = .int .i64 (s : Nat)
                  | 9 => v = .slice (some ⟨ab, ao, none⟩) gs.length cap
                  | 10 => v = .int .i64 (s : Nat)
                  | 11 => v = .pointer (some ⟨ab, ao + s, none⟩)
                  | 12 => v = .int .i64 (g : Nat)
                  | 13 => v = .bool true
                  | 14 => v = .bool true
                  | 15 => v = .bool true
                  | 16 => v = poolN ⟨fa, fc, na, nc⟩ p
                  | 17 => v = .int .i64 (s : Nat)
                  | 18 => v = .slice (some ⟨ab, ao, none⟩) gs.length cap
                  | 19 => v = .int .i64 (s : Nat)
                  | 20 => v = .pointer (some ⟨ab, ao + s, none⟩)
                  | 21 => v = .int .i64 (g : Nat)
                  | 22 => v = .int .i64 (i : Nat)
                  | 23 => v = .int .u64 (i : Nat)
                  | 24 => v = .int .i64 (pw : Nat)
                  | 25 => v = .int .i64 (x : Nat)
                  | 26 => v = .bool c2
                  | 27 => v = .bool (!c2)
                  | 28 => v = .bool (!c2)
                  | _ => False) (by kernel_rfl) (by kernel_rfl) (fun _ _ _ => Grow.trans) Grow.refl ?_ ?_ ?_
              · intro i v y y' h k
                match i, h with
                | 0, h | 1, h | 2, h | 3, h | 4, h | 5, h | 6, h | 7, h | 8, h | 9, h | 10, h | 11, h | 12, h | 13, h | 14, h | 15, h | 16, h | 17, h | 18, h | 19, h | 20, h | 21, h | 22, h | 23, h | 24, h | 25, h | 26, h | 27, h | 28, h => exact h
              · simp only [StepsLit, List.take_succ_cons, List.take_zero]
                refine ⟨?_, ?_, ?_, ?_, ?_, ?_, ?_, ?_, ?_, ?_, ?_, ?_, ?_, ?_, ?_, ?_, ?_, ?_, ?_, ?_, ?_, ?_, ?_, ?_, ?_, ?_, ?_, ?_, ?_, trivial⟩
                · intro w5 hR
                  have hGw : Grow wr w5 := hR.of_drew
                  have HGW := Lib.hid hGw
                  have hcc := ((HBR.out.trans (Below.mono HGW.out HZR.out)) |> fun k => HF2.out.below k (by omega)).cell
                  have hac := HGW.out.cell HAC.out
                  clear hR hGw
                  simp only [depV]
                  try go_simp
                  all_goals first
                    | (with_reducible exact Grow.refl _)
                    | (with_reducible exact ⟨Grow.refl _, rfl⟩)
                · intro w5 hR
                  have hGw : Grow wr w5 := hR.of_drew
                  have HGW := Lib.hid hGw
                  have hcc := ((HBR.out.trans (Below.mono HGW.out HZR.out)) |> fun k => HF2.out.below k (by omega)).cell
                  have hac := HGW.out.cell HAC.out
                  clear hR hGw
                  simp only [depV]
                  try go_simp
                  all_goals first
                    | (with_reducible exact Grow.refl _)
                    | (with_reducible exact ⟨Grow.refl _, rfl⟩)
                · intro w5 hR
                  have hGw : Grow wr w5 := hR.of_drew
                  have HGW := Lib.hid hGw
                  have hcc := ((HBR.out.trans (Below.mono HGW.out HZR.out)) |> fun k => HF2.out.below k (by omega)).cell
                  have hac := HGW.out.cell HAC.out
                  clear hR hGw
                  simp only [depV]
                  rintro _ rfl
                  rintro _ rfl
                  try go_simp
                  all_goals first
                    | (with_reducible exact Grow.refl _)
                    | (with_reducible exact ⟨Grow.refl _, rfl⟩)
                · intro w5 hR
                  have hGw : Grow wr w5 := hR.of_drew
                  have HGW := Lib.hid hGw
                  have hcc := ((HBR.out.trans (Below.mono HGW.out HZR.out)) |> fun k => HF2.out.below k (by omega)).cell
                  have hac := HGW.out.cell HAC.out
                  clear hR hGw
                  simp only [depV]
                  rintro _ rfl
                  try go_simp
                  all_goals first
                    | (with_reducible exact Grow.refl _)
                    | (with_reducible exact ⟨Grow.refl _, rfl⟩)
                · intro w5 hR
                  have hGw : Grow wr w5 := hR.of_drew
                  have HGW := Lib.hid hGw
                  have hcc := ((HBR.out.trans (Below.mono HGW.out HZR.out)) |> fun k => HF2.out.below k (by omega)).cell
                  have hac := HGW.out.cell HAC.out
                  clear hR hGw
                  simp only [depV]
                  try go_simp
                  all_goals first
                    | (with_reducible exact Grow.refl _)
                    | (with_reducible exact ⟨Grow.refl _, rfl⟩)
                · intro w5 hR
                  have hGw : Grow wr w5 := hR.of_drew
                  have HGW := Lib.hid hGw
                  have hcc := ((HBR.out.trans (Below.mono HGW.out HZR.out)) |> fun k => HF2.out.below k (by omega)).cell
                  have hac := HGW.out.cell HAC.out
                  clear hR hGw
                  simp only [depV]
                  rintro _ rfl
                  rintro _ rfl
                  try go_simp
                  refine (HHS.out _).mono ?_
                  rintro e w6 ⟨rfl, rfl⟩
                  exact ⟨Grow.refl _, rfl⟩
                · intro w5 hR
                  have hGw : Grow wr w5 := hR.of_drew
                  have HGW := Lib.hid hGw
                  have hcc := ((HBR.out.trans (Below.mono HGW.out HZR.out)) |> fun k => HF2.out.below k (by omega)).cell
                  have hac := HGW.out.cell HAC.out
                  clear hR hGw
                  simp only [depV]
                  rintro _ rfl
                  try go_simp
                  all_goals first
                    | (with_reducible exact Grow.refl _)
                    | (with_reducible exact ⟨Grow.refl _, rfl⟩)
                · intro w5 hR
                  have hGw : Grow wr w5 := hR.of_drew
                  have HGW := Lib.hid hGw
                  have hcc := ((HBR.out.trans (Below.mono HGW.out HZR.out)) |> fun k => HF2.out.below k (by omega)).cell
                  have hac := HGW.out.cell HAC.out
                  clear hR hGw
                  simp only [depV]
                  rintro _ rfl
                  try go_simp
                  all_goals first
                    | (with_reducible exact Grow.refl _)
                    | (with_reducible exact ⟨Grow.refl _, rfl⟩)
                · intro w5 hR
                  have hGw : Grow wr w5 := hR.of_drew
                  have HGW := Lib.hid hGw
                  have hcc := ((HBR.out.trans (Below.mono HGW.out HZR.out)) |> fun k => HF2.out.below k (by omega)).cell
                  have hac := HGW.out.cell HAC.out
                  clear hR hGw
                  simp only [depV]
                  rintro _ rfl
                  try go_simp
                  all_goals first
                    | (with_reducible exact Grow.refl _)
                    | (with_reducible exact ⟨Grow.refl _, rfl⟩)
                · intro w5 hR
                  have hGw : Grow wr w5 := hR.of_drew
                  have HGW := Lib.hid hGw
                  have hcc := ((HBR.out.trans (Below.mono HGW.out HZR.out)) |> fun k => HF2.out.below k (by omega)).cell
                  have hac := HGW.out.cell HAC.out
                  clear hR hGw
                  simp only [depV]
                  rintro _ rfl
                  try go_simp
                  all_goals first
                    | (with_reducible exact Grow.refl _)
                    | (with_reducible exact ⟨Grow.refl _, rfl⟩)
                · intro w5 hR
                  have hGw : Grow wr w5 := hR.of_drew
                  have HGW := Lib.hid hGw
                  have hcc := ((HBR.out.trans (Below.mono HGW.out HZR.out)) |> fun k => HF2.out.below k (by omega)).cell
                  have hac := HGW.out.cell HAC.out
                  clear hR hGw
                  simp only [depV]
                  rintro _ rfl
                  try go_simp
                  all_goals first
                    | (with_reducible exact Grow.refl _)
                    | (with_reducible exact ⟨Grow.refl _, rfl⟩)
                · intro w5 hR
                  have hGw : Grow wr w5 := hR.of_drew
                  have HGW := Lib.hid hGw
                  have hcc := ((HBR.out.trans (Below.mono HGW.out HZR.out)) |> fun k => HF2.out.below k (by omega)).cell
                  have hac := HGW.out.cell HAC.out
                  clear hR hGw
                  simp only [depV]
                  rintro _ rfl
                  rintro _ rfl
                  rintro _ rfl
                  try go_simp
                  all_goals first
                    | (with_reducible exact Grow.refl _)
                    | (with_reducible exact ⟨Grow.refl _, rfl⟩)
                · intro w5 hR
                  have hGw : Grow wr w5 := hR.of_drew
                  have HGW := Lib.hid hGw
                  have hcc := ((HBR.out.trans (Below.mono HGW.out HZR.out)) |> fun k => HF2.out.below k (by omega)).cell
                  have hac := HGW.out.cell HAC.out
                  clear hR hGw
                  simp only [depV]
                  rintro _ rfl
                  rintro _ rfl
                  try go_simp
                  all_goals first
                    | (with_reducible exact Grow.refl _)
                    | (with_reducible exact ⟨Grow.refl _, rfl⟩)
                · intro w5 hR
                  have hGw : Grow wr w5 := hR.of_drew
                  have HGW := Lib.hid hGw
                  have hcc := ((HBR.out.trans (Below.mono HGW.out HZR.out)) |> fun k => HF2.out.below k (by omega)).cell
                  have hac := HGW.out.cell HAC.out
                  clear hR hGw
                  simp only [depV]
                  rintro _ rfl
                  rintro _ rfl
                  rintro _ rfl
                  rintro _ rfl
                  try go_simp
                  refine (HCV.out w5 (HGB.out.trans (Below.mono HGW.out HZW.out))).mono ?_
                  rintro e w6 ⟨rfl, hb6⟩
                  exact ⟨hb6, rfl⟩
                · intro w5 hR
                  have hGw : Grow wr w5 := hR.of_drew
                  have HGW := Lib.hid hGw
                  have hcc := ((HBR.out.trans (Below.mono HGW.out HZR.out)) |> fun k => HF2.out.below k (by omega)).cell
                  have hac := HGW.out.cell HAC.out
                  clear hR hGw
                  simp only [depV]
                  rintro _ rfl
                  rintro _ rfl
                  try go_simp
                  all_goals first
                    | (with_reducible exact Grow.refl _)
                    | (with_reducible exact ⟨Grow.refl _, rfl⟩)
                · intro w5 hR
                  have hGw : Grow wr w5 := hR.of_drew
                  have HGW := Lib.hid hGw
                  have hcc := ((HBR.out.trans (Below.mono HGW.out HZR.out)) |> fun k => HF2.out.below k (by omega)).cell
                  have hac := HGW.out.cell HAC.out
                  clear hR hGw
                  simp only [depV]
                  rintro _ rfl
                  try go_simp
                  all_goals first
                    | (with_reducible exact Grow.refl _)
                    | (with_reducible exact ⟨Grow.refl _, rfl⟩)
                · intro w5 hR
                  have hGw : Grow wr w5 := hR.of_drew
                  have HGW := Lib.hid hGw
                  have hcc := ((HBR.out.trans (Below.mono HGW.out HZR.out)) |> fun k => HF2.out.below k (by omega)).cell
                  have hac := HGW.out.cell HAC.out
                  clear hR hGw
                  simp only [depV]
                  rintro _ rfl
                  try go_simp
                  all_goals first
                    | (with_reducible exact Grow.refl _)
                    | (with_reducible exact ⟨Grow.refl _, rfl⟩)
                · intro w5 hR
                  have hGw : Grow wr w5 := hR.of_drew
                  have HGW := Lib.hid hGw
                  have hcc := ((HBR.out.trans (Below.mono HGW.out HZR.out)) |> fun k => HF2.out.below k (by omega)).cell
                  have hac := HGW.out.cell HAC.out
                  clear hR hGw
                  simp only [depV]
                  rintro _ rfl
                  try go_simp
                  all_goals first
                    | (with_reducible exact Grow.refl _)
                    | (with_reducible exact ⟨Grow.refl _, rfl⟩)
                · intro w5 hR
                  have hGw : Grow wr w5 := hR.of_drew
                  have HGW := Lib.hid hGw
                  have hcc := ((HBR.out.trans (Below.mono HGW.out HZR.out)) |> fun k => HF2.out.below k (by omega)).cell
                  have hac := HGW.out.cell HAC.out
                  clear hR hGw
                  simp only [depV]
                  rintro _ rfl
                  try go_simp
                  all_goals first
                    | (with_reducible exact Grow.refl _)
                    | (with_reducible exact ⟨Grow.refl _, rfl⟩)
                · intro w5 hR
                  have hGw : Grow wr w5 := hR.of_drew
                  have HGW := Lib.hid hGw
                  have hcc := ((HBR.out.trans (Below.mono HGW.out HZR.out)) |> fun k => HF2.out.below k (by omega)).cell
                  have hac := HGW.out.cell HAC.out
                  clear hR hGw
                  simp only [depV]
                  rintro _ rfl
                  try go_simp
                  all_goals first
                    | (with_reducible exact Grow.refl _)
                    | (with_reducible exact ⟨Grow.refl _, rfl⟩)
                · intro w5 hR
                  have hGw : Grow wr w5 := hR.of_drew
                  have HGW := Lib.hid hGw
                  have hcc := ((HBR.out.trans (Below.mono HGW.out HZR.out)) |> fun k => HF2.out.below k (by omega)).cell
                  have hac := HGW.out.cell HAC.out
                  clear hR hGw
                  simp only [depV]
                  rintro _ rfl
                  rintro _ rfl
                  rintro _ rfl
                  try go_simp
                  all_goals first
                    | (with_reducible exact Grow.refl _)
                    | (with_reducible exact ⟨Grow.refl _, rfl⟩)
                · intro w5 hR
                  have hGw : Grow wr w5 := hR.of_drew
                  have HGW := Lib.hid hGw
                  have hcc := ((HBR.out.trans (Below.mono HGW.out HZR.out)) |> fun k => HF2.out.below k (by omega)).cell
                  have hac := HGW.out.cell HAC.out
                  clear hR hGw
                  simp only [depV]
                  rintro _ rfl
                  rintro _ rfl
                  try go_simp
                  all_goals first
                    | (with_reducible exact Grow.refl _)
                    | (with_reducible exact ⟨Grow.refl _, rfl⟩)
                · intro w5 hR
                  have hGw : Grow wr w5 := hR.of_drew
                  have HGW := Lib.hid hGw
                  have hcc := ((HBR.out.trans (Below.mono HGW.out HZR.out)) |> fun k => HF2.out.below k (by omega)).cell
                  have hac := HGW.out.cell HAC.out
                  clear hR hGw
                  simp only [depV]
                  rintro _ rfl
                  try go_simp
                  all_goals first
                    | (with_reducible exact Grow.refl _)
                    | (with_reducible exact ⟨Grow.refl _, rfl⟩)
                · intro w5 hR
                  have hGw : Grow wr w5 := hR.of_drew
                  have HGW := Lib.hid hGw
                  have hcc := ((HBR.out.trans (Below.mono HGW.out HZR.out)) |> fun k => HF2.out.below k (by omega)).cell
                  have hac := HGW.out.cell HAC.out
                  clear hR hGw
                  simp only [depV]
                  rintro _ rfl
                  rintro _ rfl
                  try go_simp
                  all_goals first
                    | (with_reducible exact Grow.refl _)
                    | (with_reducible exact ⟨Grow.refl _, rfl⟩)
                · intro w5 hR
                  have hGw : Grow wr w5 := hR.of_drew
                  have HGW := Lib.hid hGw
                  have hcc := ((HBR.out.trans (Below.mono HGW.out HZR.out)) |> fun k => HF2.out.below k (by omega)).cell
                  have hac := HGW.out.cell HAC.out
                  clear hR hGw
                  simp only [depV]
                  rintro _ rfl
                  rintro _ rfl
                  try go_simp
                  all_goals first
                    | (with_reducible exact Grow.refl _)
                    | (with_reducible exact ⟨Grow.refl _, rfl⟩)
                · intro w5 hR
                  have hGw : Grow wr w5 := hR.of_drew
                  have HGW := Lib.hid hGw
                  have hcc := ((HBR.out.trans (Below.mono HGW.out HZR.out)) |> fun k => HF2.out.below k (by omega)).cell
                  have hac := HGW.out.cell HAC.out
                  clear hR hGw
                  simp only [depV]
                  rintro _ rfl
                  rintro _ rfl
                  rintro _ rfl
                  try go_simp
                  exact ⟨Grow.refl _, by rw [HXE.out]; exact IntWalk.i64_in _ (by omega)⟩
                · intro w5 hR
                  have hGw : Grow wr w5 := hR.of_drew
                  have HGW := Lib.hid hGw
                  have hcc := ((HBR.out.trans (Below.mono HGW.out HZR.out)) |> fun k => HF2.out.below k (by omega)).cell
                  have hac := HGW.out.cell HAC.out
                  clear hR hGw
                  simp only [depV]
                  rintro _ rfl
                  rintro _ rfl
                  rintro _ rfl
                  rintro _ rfl
                  try go_simp
                  refine (HC2.out w5 (HGB.out.trans (Below.mono HGW.out HZW.out))).mono ?_
                  rintro e w6 ⟨rfl, hb6⟩
                  exact ⟨hb6, rfl⟩
                · intro w5 hR
                  have hGw : Grow wr w5 := hR.of_drew
                  have HGW := Lib.hid hGw
                  have hcc := ((HBR.out.trans (Below.mono HGW.out HZR.out)) |> fun k => HF2.out.below k (by omega)).cell
                  have hac := HGW.out.cell HAC.out
                  clear hR hGw
                  simp only [depV]
                  rintro _ rfl
                  rintro _ rfl
                  try go_simp
                  all_goals first
                    | (with_reducible exact Grow.refl _)
                    | (with_reducible exact ⟨Grow.refl _, rfl⟩)
                · intro w5 hR
                  have hGw : Grow wr w5 := hR.of_drew
                  have HGW := Lib.hid hGw
                  have hcc := ((HBR.out.trans (Below.mono HGW.out HZR.out)) |> fun k => HF2.out.below k (by omega)).cell
                  have hac := HGW.out.cell HAC.out
                  clear hR hGw
                  simp only [depV]
                  rintro _ rfl
                  rintro _ rfl
                  try go_simp
                  all_goals first
                    | (with_reducible exact Grow.refl _)
                    | (with_reducible exact ⟨Grow.refl _, rfl⟩)
              · intro w5 hR
                have HG5 : Hid (Grow wr w5) := Lib.hid hR.of_drew
                clear hR
                simp only [finVC, List.take_succ_cons, List.take_zero, List.drop_succ_cons, List.drop_zero]
                rintro _ rfl
                rintro _ rfl
                rintro _ rfl
                rintro _ rfl
                rintro _ rfl
                rintro _ rfl
                rintro _ rfl
                rintro _ rfl
                rintro _ rfl
                rintro _ rfl
                rintro _ rfl
                rintro _ rfl
                rintro _ rfl
                rintro _ rfl
                rintro _ rfl
                rintro _ rfl
                rintro _ rfl
                rintro _ rfl
                rintro _ rfl
                rintro _ rfl
                rintro _ rfl
                rintro _ rfl
                rintro _ rfl
                rintro _ rfl
                rintro _ rfl
                rintro _ rfl
                rintro _ rfl
                rintro _ rfl
                rintro _ rfl
                simp only [Act.put, List.setIfInBounds_toArray, List.set_cons_succ, List.set_cons_zero]
                have HBN : Hid (Below tb W3 w5) := Lib.hid (HBR.out.trans (Below.mono HG5.out HZR.out))
                have HT5 := Lib.hid (HG5.out.block HTR.out)
                cases c2 with
                | true =>
                  have HTN : Hid (BlockIs w5 tb 3 (intCells (natsL (rmissL p gs i (s + 1))))) := Lib.hid (by rw [← HSM.out (by first | rfl | trivial)]; exact HT5.out)
                  go_wp2_with fail
                  go_roundw
                  case rel => exact ⟨s + 1, by omega, by go_num, HTN, HBN⟩
                  case measure => simp [intOf]; omega
                | false =>
                  have hcell : w5.cell? ⟨tb, i, none⟩ = some (.int .i64 (mv : Nat)) := by
                    rw [HT5.out.cell]
                    exact HMV.out
                  have hfr := HT5.out.frozen i
                  have HTN : Hid (BlockIs (w5.setCell ⟨tb, i, none⟩ (.int .i64 ((mv : Int) + 1))) tb 3 (intCells (natsL (rmissL p gs i (s + 1))))) := Lib.hid (by
                    have h := HT5.out.near i (.int .i64 ((mv : Int) + 1))
                    rw [HMX.out (by first | rfl | trivial)] at h
                    exact h)
                  have HBX := Lib.hid (HBN.out.setCell (p := ⟨tb, i, none⟩) (by simp) (.int .i64 ((mv : Int) + 1)))
                  go_wp2_with fail
                  go_roundw
                  case rel => exact ⟨s + 1, by omega, by go_num, HTN, HBX⟩
                  case measure => simp [intOf]; omega
        · obtain rfl : s = gs.length := by omega
          have hd : decide ((gs.length : Int) < (gs.length : Int)) = false := decide_eq_false (by omega)
          have HTN : Hid (BlockIs wr tb 3 (intCells (natsL (rmissL p gs (i + 1) 0)))) := Lib.hid (by rw [← rmissL_next]; exact HTR.out)
          go_wp2_with fail
          go_roundw
          case rel => exact ⟨i + 1, by omega, by go_num, HTN, HBR⟩
          case measure => simp [intOf]; omega
    · obtain rfl : i = p.folk.length := by omega
      have hdi : decide ((p.folk.length : Int) < (p.folk.length : Int)) = false := decide_eq_false (by omega)
      have HTE : Hid (BlockIs wo tb 3 (intCells (natsL (missedD p gs)))) := Lib.hid (by rw [← rmissL_end]; exact HTO.out)
      have HGE : Hid (Below w.heap.size w wo) := Lib.hid (HG3.out.trans' (HBO.out.mono (by omega)))
      go_wp2
      refine bodyPost_ret (results_45 Try.results38 _ _ _ _ rfl rfl) rfl ?_
      exact ⟨⟨tb, rfl, by omega, HTE.out⟩, HGE.out⟩

end Go.Proofs.Ytcgnibfcjadnjaa
