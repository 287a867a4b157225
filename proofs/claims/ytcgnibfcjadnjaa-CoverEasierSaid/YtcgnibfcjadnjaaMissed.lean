/- Missed: in how many covered slots of a watch a person cannot be left out, as the program counts; written by wip/tools/missed10.py. -/
import Derived.Test.YtcgnibfcjadnjaaPlanApi
namespace Go.Proofs.Ytcgnibfcjadnjaa
open Go.RowKit

def missOne (p : Pool) (g s i : Nat) : Bool := coveredD p s g && !coveredD p s (diffN g (2 ^ i))
/-- in how many of the first slots a person is missed -/
def missTo (p : Pool) (gs : List Nat) : Nat → Nat → Nat
  | 0, _ => 0
  | s + 1, i => missTo p gs s i + if missOne p (gs.getD s 0) s i then 1 else 0
theorem missTo_le (p : Pool) (gs : List Nat) (i : Nat) : ∀ s, missTo p gs s i ≤ s
  | 0 => Nat.le_refl _
  | s + 1 => by
    have := missTo_le p gs i s
    unfold missTo
    split <;> omega
def missL (p : Pool) (gs : List Nat) (s k : Nat) : List Nat := (List.range p.folk.length).map fun i => if i < k then missTo p gs (s + 1) i else missTo p gs s i
def missedD (p : Pool) (gs : List Nat) : List Nat := (List.range p.folk.length).map fun i => missTo p gs gs.length i
theorem missL_len (p : Pool) (gs : List Nat) (s k : Nat) : (missL p gs s k).length = p.folk.length := by simp [missL]
theorem missL_at {p : Pool} {gs : List Nat} {s k i : Nat} (h : i < p.folk.length) : (missL p gs s k)[i]? = some (if i < k then missTo p gs (s + 1) i else missTo p gs s i) := by
  unfold missL
  rw [List.getElem?_map, List.getElem?_range h]
  rfl
theorem missL_zero (p : Pool) (gs : List Nat) (s : Nat) : missL p gs s 0 = (List.range p.folk.length).map fun i => missTo p gs s i := by
  unfold missL
  refine List.map_congr_left fun i _ => by rw [if_neg (by omega)]
theorem missL_full (p : Pool) (gs : List Nat) (s : Nat) : missL p gs s p.folk.length = missL p gs (s + 1) 0 := by
  rw [missL_zero]
  unfold missL
  refine List.map_congr_left fun i hi => by rw [if_pos (List.mem_range.1 hi)]
theorem missL_start (p : Pool) (gs : List Nat) : natsL (missL p gs 0 0) = List.replicate p.folk.length 0 := by
  rw [missL_zero]
  refine List.ext_getElem? fun i => ?_
  by_cases h : i < p.folk.length
  · simp [natsL, h, missTo]
  · simp [natsL, h]
theorem missL_end (p : Pool) (gs : List Nat) : missL p gs gs.length 0 = missedD p gs := missL_zero p gs gs.length
theorem missL_skip {p : Pool} {gs : List Nat} {s g : Nat} (hg : gs[s]? = some g) (h : coveredD p s g = false) : missL p gs s 0 = missL p gs (s + 1) 0 := by
  rw [missL_zero, missL_zero]
  refine List.map_congr_left fun i _ => ?_
  show missTo p gs s i = missTo p gs s i + if missOne p (gs.getD s 0) s i then 1 else 0
  rw [List.getD_eq_getElem?_getD, hg]
  unfold missOne
  simp [h]
theorem missL_same {p : Pool} {gs : List Nat} {s g k : Nat} (hg : gs[s]? = some g) (h : missOne p g s k = false) : missL p gs s k = missL p gs s (k + 1) := by
  unfold missL
  refine List.map_congr_left fun i _ => ?_
  by_cases hi : i < k
  · rw [if_pos hi, if_pos (by omega)]
  · rw [if_neg hi]
    by_cases h2 : i = k
    · subst h2
      rw [if_pos (by omega)]
      show missTo p gs s i = missTo p gs s i + if missOne p (gs.getD s 0) s i then 1 else 0
      rw [List.getD_eq_getElem?_getD, hg, Option.getD_some, h]
      rfl
    · rw [if_neg (by omega)]
theorem missL_more {p : Pool} {gs : List Nat} {s g k : Nat} (hk : k < p.folk.length) (hg : gs[s]? = some g) (h : missOne p g s k = true) : (missL p gs s k).set k (missTo p gs s k + 1) = missL p gs s (k + 1) := by
  refine List.ext_getElem? fun i => ?_
  by_cases hi : i < p.folk.length
  · rw [missL_at hi]
    by_cases h2 : k = i
    · subst h2
      rw [List.getElem?_set_self (by rw [missL_len]; exact hk), if_pos (by omega)]
      show some (missTo p gs s k + 1) = some (missTo p gs s k + if missOne p (gs.getD s 0) s k then 1 else 0)
      rw [List.getD_eq_getElem?_getD, hg, Option.getD_some, h]
      rfl
    · rw [List.getElem?_set_ne h2, missL_at hi]
      by_cases h3 : i < k
      · rw [if_pos h3, if_pos (by omega)]
      · rw [if_neg h3, if_neg (by omega)]
  · rw [List.getElem?_eq_none (by rw [List.length_set, missL_len]; omega), List.getElem?_eq_none (by rw [missL_len]; omega)]
theorem natsL_set (l : List Nat) (k v : Nat) : (natsL l).set k (v : Int) = natsL (l.set k v) := by
  unfold natsL
  rw [List.map_set]
theorem diff_32 {g : Nat} (hg : g < 32) (b : Nat) : diffN g b < 32 := by have := sub_le (diff_sub g b); omega

set_option maxRecDepth 100000 in
set_option maxHeartbeats 16000000 in
theorem missed_any (h : PoolH) (p : Pool) (G : Good p) (A : Option Addr) (cap : Nat) (gs : List Nat) (w : World) (hA : PoolAt w w.heap.size h p.i) (hI : Ints w w.heap.size A (natsL gs)) (hwt : Watch p gs) :
    Calls Try.prog 62 #[poolN h p, .slice A gs.length cap] w fun e w' => (∃ b, e = .returned (.slice (some ⟨b, 0, none⟩) p.folk.length p.folk.length) ∧ w.heap.size ≤ b ∧ BlockIs w' b 3 (intCells (natsL (missedD p gs)))) ∧ Below w.heap.size w w' := by
  have hln := hwt.len
  have hn3 := G.n3
  have hf5 := G.f5
  have hl3 : gs.length ≤ 3 := by omega
  have HCOV := Lib.hid (fun (s : Nat) (hs : s < gs.length) (g : Nat) (hg : g < 32) (w0 : World) (hw : Below w.heap.size w w0) => isCovered_any h p G s g w0 ((hA.below hw).more hw.size) (by omega) hg)
  have HIN := Lib.hid (fun (w0 : World) (hw : Below w.heap.size w w0) => (hI.below hw).more hw.size)
  have HG32 := Lib.hid (fun (s g : Nat) (hg : gs[s]? = some g) => hwt.g32 G hg)
  have hmk := make_full_int p.folk.length
  have hmk : ∀ w0, (Instr.makeSlice 26 (.int .i64 (p.folk.length : Int)) (.int .i64 (p.folk.length : Int))).run Try.prog w0 = .ok (.slice (some ⟨w0.heap.size, 0, none⟩) p.folk.length p.folk.length) (w0.alloc (.cells (intCells (List.replicate p.folk.length 0)) 3)) := fun w0 => hmk w0 (by omega)
  have HEND := Lib.hid (missL_end p gs)
  clear hA hI hwt hln
  obtain ⟨fa, fc, na, nc⟩ := h
  go_enter Try.func62, Try.ntmps62
  go_upto_region 1 with fail
  obtain ⟨W, hW, hg, hf, hsz⟩ := one_block w 73 (cellsN ⟨fa, fc, na, nc⟩ p)
  rw [hW]
  have hWs : W.heap.size = w.heap.size + 1 := by rw [← hW]; simp
  clear hW
  have hcc := hf.cell
  go_upto_region 2 with fail
  clear hcc hmk
  rw [← missL_start p gs]
  obtain ⟨W2, hW2, hg2, hf2, hsz2⟩ := one_block W 3 (intCells (natsL (missL p gs 0 0)))
  rw [hW2]
  clear hW2
  rw [hWs] at hf2 hsz2
  have HP2 := Lib.hid (hg2.block hf)
  have HT2 := Lib.hid hf2
  have HG2 : Hid (Below w.heap.size w W2) := Lib.hid (hg.trans hg2)
  clear hg2 hg hf hf2 hWs hsz
  clear W
  go_wp2_with fail
  go_loopw [16] (fun iv wr => ∃ s : Nat, s ≤ gs.length ∧ iv = .int .i64 (s : Nat) ∧ Hid (BlockIs wr (w.heap.size + 1) 3 (intCells (natsL (missL p gs s 0)))) ∧ Hid (Below (w.heap.size + 1) W2 wr)) (fun iv _ => gs.length - (intOf iv).toNat)
  case atStart => exact ⟨0, Nat.zero_le _, rfl, HT2, Lib.hid (Below.refl _ _)⟩
  case round =>
    obtain ⟨s, hs, rfl, HTW, HBW⟩ := hrel
    rename World => wr
    have HGR : Hid (Below w.heap.size w wr) := Lib.hid (HG2.out.trans (HBW.out.mono (by omega)))
    by_cases hlt : s < gs.length
    · have hd : decide ((s : Int) < (gs.length : Int)) = true := decide_eq_true (by omega)
      have hs0 : (0 : Int) ≤ (s : Int) := by omega
      have hs1 : (s : Int) < (gs.length : Int) := by omega
      obtain ⟨xb, xo, x, rfl, hxb, hxc, HX⟩ := ints_nat (HIN.out wr HGR.out) hlt
      have hx32 := HG32.out s x HX.out
      have HCB := Lib.hid (fun w0 hw => HCOV.out s hlt x hx32 w0 hw)
      have HSK := Lib.hid (fun (hq : coveredD p s x = false) => missL_skip HX.out hq)
      have HCQ : Hid (∀ k, missOne p x s k = (coveredD p s x && !coveredD p s (diffN x (2 ^ k)))) := Lib.hid (fun k => rfl)
      obtain ⟨q, hq'⟩ : ∃ z, coveredD p s x = z := ⟨_, rfl⟩
      rw [hq'] at HSK HCB HCQ
      have hcc := (HP2.out.below HBW.out (by omega)).cell
      clear hq'
      go_upto_region 5 with fail
      go_wp2_with fail
      refine (HCB.out _ HGR.out).mono ?_
      rintro e w3 ⟨rfl, hb3⟩
      have HB3 : Hid (Below (w.heap.size + 1) W2 w3) := Lib.hid (HBW.out.trans (Below.mono hb3 (by have h1 := HBW.out.size; omega)))
      have HT3 := Lib.hid ((show Grow wr w3 from hb3).block HTW.out)
      clear hb3 hcc hxc
      cases q with
      | false =>
        have HTN : Hid (BlockIs w3 (w.heap.size + 1) 3 (intCells (natsL (missL p gs (s + 1) 0)))) := Lib.hid (by rw [← HSK.out rfl]; exact HT3.out)
        go_wp2_with fail
        go_roundw
        case rel => exact ⟨s + 1, by omega, by go_num, HTN, HB3⟩
        case measure => simp [intOf]; omega
      | true =>
        have hcc := (HP2.out.below HB3.out (by omega)).cell
        go_wp2_with fail
        clear hcc
        go_loopw [30] (fun iv wi => ∃ k : Nat, k ≤ p.folk.length ∧ iv = .int .i64 (k : Nat) ∧ Hid (BlockIs wi (w.heap.size + 1) 3 (intCells (natsL (missL p gs s k)))) ∧ Hid (Below (w.heap.size + 1) W2 wi)) (fun iv _ => p.folk.length - (intOf iv).toNat)
        case atStart => exact ⟨0, Nat.zero_le _, rfl, HT3, HB3⟩
        case round =>
          obtain ⟨k, hk, rfl, HTI, HBI⟩ := hrel
          rename World => wi
          have HGI : Hid (Below w.heap.size w wi) := Lib.hid (HG2.out.trans (HBI.out.mono (by omega)))
          have HPI := Lib.hid (HP2.out.below HBI.out (by omega))
          by_cases hltk : k < p.folk.length
          · have hdk : decide ((k : Int) < (p.folk.length : Int)) = true := decide_eq_true (by omega)
            have hk0 : (0 : Int) ≤ (k : Int) := by omega
            have hk64 : k ≤ 64 := by omega
            have hd32 := diff_32 hx32 (2 ^ k)
            have HC2 := Lib.hid (fun w0 hw => HCOV.out s hlt (diffN x (2 ^ k)) hd32 w0 hw)
            have hp16 : 2 ^ k ≤ 16 := Nat.le_trans (Nat.pow_le_pow_right (n := 2) (by omega) (show k ≤ 4 by omega)) (by decide)
            have hpI : ((2 : Int) ^ k) = ((2 ^ k : Nat) : Int) := (Int.natCast_pow 2 k).symm
            have hand := andNot_nat x (2 ^ k) (by omega) (by omega)
            have HMO := Lib.hid (HCQ.out k)
            have HMV : Hid ((intCells (natsL (missL p gs s k)))[k]? = some (.int .i64 (missTo p gs s k : Nat))) := Lib.hid (by
              have h := missL_at (p := p) (gs := gs) (s := s) (k := k) hltk
              rw [if_neg (by omega)] at h
              simp [intCells, natsL, h])
            have hmv : missTo p gs s k ≤ 3 := Nat.le_trans (missTo_le p gs k s) (by omega)
            have HMS0 := Lib.hid (fun (hq : missOne p x s k = false) => missL_same HX.out hq)
            have HMX0 := Lib.hid (fun (hq : missOne p x s k = true) => missL_more hltk HX.out hq)
            obtain ⟨pw, hpw⟩ : ∃ z, 2 ^ k = z := ⟨_, rfl⟩
            rw [hpw] at HC2 hp16 hpI hand hd32 HMO
            obtain ⟨dg, hdg⟩ : ∃ z, diffN x pw = z := ⟨_, rfl⟩
            rw [hdg] at HC2 hand hd32 HMO
            obtain ⟨q2, hq2⟩ : ∃ z, coveredD p s dg = z := ⟨_, rfl⟩
            rw [hq2] at HC2 HMO
            obtain ⟨mv, hmvd⟩ : ∃ z, missTo p gs s k = z := ⟨_, rfl⟩
            rw [hmvd] at HMV HMX0 hmv
            have HMS : Hid (q2 = true → missL p gs s k = missL p gs s (k + 1)) := Lib.hid (fun hq => HMS0.out (by rw [HMO.out, hq]; rfl))
            have HMX : Hid (q2 = false → (intCells (natsL (missL p gs s k))).setIfInBounds k (.int .i64 ((mv : Int) + 1)) = intCells (natsL (missL p gs s (k + 1)))) := Lib.hid (fun hq => by
              rw [intCells_set, show ((mv : Int) + 1) = ((mv + 1 : Nat) : Int) by omega, natsL_set, HMX0.out (by rw [HMO.out, hq]; rfl)])
            have hshl : IntKind.i64.wrap ((2 : Int) ^ k) = (pw : Int) := by
              rw [hpI]
              exact IntWalk.i64_in _ (by omega)
            clear hpI hpw hdg hq2 hmvd HMS0 HMX0 HMO
            go_upto_region 9 with fail
            refine wp_region_lit 8 [[], [], [], [], [(3, 36)], [(2, 35), (4, 37)], [(0, 33), (1, 34), (5, 38)], [(6, 39)]] Grow (fun qi v w' => match qi with
                | 0 => v = poolN ⟨fa, fc, na, nc⟩ p
                | 1 => v = .int .i64 (s : Nat)
                | 2 => v = .int .i64 (x : Nat)
                | 3 => v = .int .i64 (k : Nat)
                | 4 => v = .int .i64 (pw : Nat)
                | 5 => v = .int .i64 (dg : Nat)
                | 6 => v = .bool q2
                | 7 => v = .bool (!q2)
                | _ => False) (by kernel_rfl) (by kernel_rfl) (fun _ _ _ => Grow.trans) Grow.refl ?_ ?_ ?_
            · intro i v y y' h k
              match i, h with
              | 0, h | 1, h | 2, h | 3, h | 4, h | 5, h | 6, h | 7, h => exact h
            · simp only [StepsLit, List.take_succ_cons, List.take_zero]
              refine ⟨?_, ?_, ?_, ?_, ?_, ?_, ?_, ?_, trivial⟩
              · intro w5 hR
                have hGw : Grow wi w5 := hR.of_drew
                have HGW := Lib.hid hGw
                have hcc := (HGW.out.block HPI.out).cell
                clear hR hGw
                simp only [depV]
                try go_simp
                all_goals first
                  | (with_reducible exact Grow.refl _)
                  | (with_reducible exact ⟨Grow.refl _, rfl⟩)
              · intro w5 hR
                have hGw : Grow wi w5 := hR.of_drew
                have HGW := Lib.hid hGw
                have hcc := (HGW.out.block HPI.out).cell
                clear hR hGw
                simp only [depV]
                try go_simp
                all_goals first
                  | (with_reducible exact Grow.refl _)
                  | (with_reducible exact ⟨Grow.refl _, rfl⟩)
              · intro w5 hR
                have hGw : Grow wi w5 := hR.of_drew
                have HGW := Lib.hid hGw
                have hcc := (HGW.out.block HPI.out).cell
                clear hR hGw
                simp only [depV]
                try go_simp
                all_goals first
                  | (with_reducible exact Grow.refl _)
                  | (with_reducible exact ⟨Grow.refl _, rfl⟩)
              · intro w5 hR
                have hGw : Grow wi w5 := hR.of_drew
                have HGW := Lib.hid hGw
                have hcc := (HGW.out.block HPI.out).cell
                clear hR hGw
                simp only [depV]
                try go_simp
                all_goals first
                  | (with_reducible exact Grow.refl _)
                  | (with_reducible exact ⟨Grow.refl _, rfl⟩)
              · intro w5 hR
                have hGw : Grow wi w5 := hR.of_drew
                have HGW := Lib.hid hGw
                have hcc := (HGW.out.block HPI.out).cell
                clear hR hGw
                simp only [depV]
                rintro _ rfl
                try go_simp
                all_goals first
                  | (with_reducible exact Grow.refl _)
                  | (with_reducible exact ⟨Grow.refl _, rfl⟩)
              · intro w5 hR
                have hGw : Grow wi w5 := hR.of_drew
                have HGW := Lib.hid hGw
                have hcc := (HGW.out.block HPI.out).cell
                clear hR hGw
                simp only [depV]
                rintro _ rfl
                rintro _ rfl
                try go_simp
                all_goals first
                  | (with_reducible exact Grow.refl _)
                  | (with_reducible exact ⟨Grow.refl _, rfl⟩)
              · intro w5 hR
                have hGw : Grow wi w5 := hR.of_drew
                have HGW := Lib.hid hGw
                have hcc := (HGW.out.block HPI.out).cell
                clear hR hGw
                simp only [depV]
                rintro _ rfl
                rintro _ rfl
                rintro _ rfl
                try go_simp
                have hbw : Below w.heap.size w w5 := HGI.out.trans (Below.mono HGW.out (by have := HGI.out.size; omega))
                refine (HC2.out w5 hbw).mono ?_
                rintro e w6 ⟨rfl, hb6⟩
                exact ⟨hb6, rfl⟩
              · intro w5 hR
                have hGw : Grow wi w5 := hR.of_drew
                have HGW := Lib.hid hGw
                have hcc := (HGW.out.block HPI.out).cell
                clear hR hGw
                simp only [depV]
                rintro _ rfl
                try go_simp
                all_goals first
                  | (with_reducible exact Grow.refl _)
                  | (with_reducible exact ⟨Grow.refl _, rfl⟩)
            · intro w5 hR
              have HG5 : Hid (Grow wi w5) := Lib.hid hR.of_drew
              clear hR
              simp only [finVC, List.take_succ_cons, List.take_zero, List.drop_succ_cons, List.drop_zero]
              rintro _ rfl
              rintro _ rfl
              rintro _ rfl
              rintro _ rfl
              rintro _ rfl
              rintro _ rfl
              rintro _ rfl
              rintro _ rfl
              simp only [Act.put, List.setIfInBounds_toArray, List.set_cons_succ, List.set_cons_zero]
              have HGI5 : Hid (Below (w.heap.size + 1) W2 w5) := Lib.hid (HBI.out.trans (Below.mono HG5.out (by have := HBI.out.size; omega)))
              have HT5 := Lib.hid (HG5.out.block HTI.out)
              clear HG5
              cases q2 with
              | true =>
                have HTN : Hid (BlockIs w5 (w.heap.size + 1) 3 (intCells (natsL (missL p gs s (k + 1))))) := Lib.hid (by rw [← HMS.out rfl]; exact HT5.out)
                go_wp2_with fail
                go_roundw
                case rel => exact ⟨k + 1, by omega, by go_num, HTN, HGI5⟩
                case measure => simp [intOf]; omega
              | false =>
                have hcell : w5.cell? ⟨w.heap.size + 1, k, none⟩ = some (.int .i64 (mv : Nat)) := by
                  rw [HT5.out.cell]
                  exact HMV.out
                have hfr := HT5.out.frozen k
                have HTN : Hid (BlockIs (w5.setCell ⟨w.heap.size + 1, k, none⟩ (.int .i64 ((mv : Int) + 1))) (w.heap.size + 1) 3 (intCells (natsL (missL p gs s (k + 1))))) := Lib.hid (by
                  have h := HT5.out.near k (.int .i64 ((mv : Int) + 1))
                  rw [HMX.out rfl] at h
                  exact h)
                have HGN := Lib.hid (HGI5.out.setCell (p := ⟨w.heap.size + 1, k, none⟩) (by simp) (.int .i64 ((mv : Int) + 1)))
                go_wp2_with fail
                go_roundw
                case rel => exact ⟨k + 1, by omega, by go_num, HTN, HGN⟩
                case measure => simp [intOf]; omega
          · obtain rfl : k = p.folk.length := by omega
            have hdk : decide ((p.folk.length : Int) < (p.folk.length : Int)) = false := decide_eq_false (by omega)
            have HTN : Hid (BlockIs wi (w.heap.size + 1) 3 (intCells (natsL (missL p gs (s + 1) 0)))) := Lib.hid (by rw [← missL_full]; exact HTI.out)
            go_wp2_with fail
            go_roundw
            case rel => exact ⟨s + 1, by omega, by go_num, HTN, HBI⟩
            case measure => simp [intOf]; omega
    · obtain rfl : s = gs.length := by omega
      have hd : decide ((gs.length : Int) < (gs.length : Int)) = false := decide_eq_false (by omega)
      have HTE : Hid (BlockIs wr (w.heap.size + 1) 3 (intCells (natsL (missedD p gs)))) := Lib.hid (by rw [← HEND.out]; exact HTW.out)
      go_wp2
      go_ret
      exact ⟨⟨w.heap.size + 1, rfl, by omega, HTE.out⟩, HGR.out⟩

end Go.Proofs.Ytcgnibfcjadnjaa
