/- RStands: serves, stands, Covered, as the specification reckons. -/
import Derived.Test.YtcgnibfcjadnjaaRNeed
namespace Go.Proofs.Ytcgnibfcjadnjaa
open Go.RowKit

theorem servesTo (p : Pool) (s g k : Nat) : ((List.range (k + 1)).all fun T => decide (miss p s g T ≤ 0)) = (((List.range k).all fun T => decide (miss p s g T ≤ 0)) && decide (miss p s g k ≤ 0)) := by
  rw [List.range_succ, List.all_append]
  simp
theorem range_all_mono {f : Nat → Bool} {k m : Nat} (h : k ≤ m) (hk : (List.range k).all f = false) : (List.range m).all f = false := by
  induction m with
  | zero => obtain rfl : k = 0 := by omega
            exact hk
  | succ m ih =>
    rcases Nat.lt_or_ge m k with q | q
    · obtain rfl : k = m + 1 := by omega
      exact hk
    · rw [List.range_succ, List.all_append, ih q]; rfl
theorem range_all_succ (f : Nat → Bool) (k : Nat) : (List.range (k + 1)).all f = ((List.range k).all f && f k) := by
  rw [List.range_succ, List.all_append]
  simp
set_option maxRecDepth 100000 in
set_option maxHeartbeats 4000000 in
theorem rServes_any (h : PoolH) (p : Pool) (G : Good p) (s g : Nat) (w : World) (hA : PoolAt w w.heap.size h p.i) (hs : s < p.needs.length) (hg : g < 1048576) :
    Calls Try.prog 72 #[poolN h p, .int .i64 s, .int .i64 g] w fun e w' => e = .returned (.bool (servesD p s g)) ∧ Below w.heap.size w w' := by
  have HT := Lib.hid (fun (w0 : World) (hw : Grow w w0) => rTongues_any h p G w0 (hA.grow hw))
  have HM := Lib.hid (fun (T : Nat) (hT : T < 1048576) (w0 : World) (hw : Grow w w0) => rMissing_any h p G s g T w0 (hA.grow hw) hs hg hT)
  have HMB := Lib.hid (fun T => miss_bounds G hs g T)
  obtain ⟨f, hf'⟩ : ∃ z, (fun T => decide (miss p s g T ≤ 0)) = z := ⟨_, rfl⟩
  have HSV : Hid (servesD p s g = (List.range (2 ^ p.tn)).all f) := Lib.hid (by rw [← hf']; rfl)
  have HFE := Lib.hid (fun T => (show f T = decide (miss p s g T ≤ 0) by rw [← hf']))
  obtain ⟨sv, hsv⟩ : ∃ z, servesD p s g = z := ⟨_, rfl⟩
  rw [hsv] at HSV ⊢
  have ht3 := G.t3
  have hl0 : (0 : Int) ≤ (p.tn : Int) := by omega
  have hl64 : p.tn ≤ 64 := by omega
  have hp8 : 2 ^ p.tn ≤ 8 := Nat.pow_le_pow_right (n := 2) (by omega) ht3
  have hpI : ((2 : Int) ^ p.tn) = ((2 ^ p.tn : Nat) : Int) := (Int.natCast_pow 2 _).symm
  obtain ⟨m, hm⟩ : ∃ z, 2 ^ p.tn = z := ⟨_, rfl⟩
  rw [hm] at HSV hp8 hpI
  obtain ⟨tn, htn⟩ : ∃ z, p.tn = z := ⟨_, rfl⟩
  rw [htn] at HT hpI hl0 hl64 ht3
  have hwr : IntKind.i64.wrap ((2 : Int) ^ tn) = (m : Int) := by rw [hpI]; exact IntWalk.i64_in _ (by omega)
  have hcv : IntKind.u64.wrap (tn : Int) = (tn : Int) := IntWalk.u64_in _ (by omega)
  clear hsv hpI hm hf' hA htn
  obtain ⟨fa, fc, na, nc⟩ := h
  go_enter Try.func72, Try.ntmps72
  go_upto_region 1 with fail
  obtain ⟨W, hW, hgr, hf, hsz⟩ := one_block w 25 (cellsN ⟨fa, fc, na, nc⟩ p)
  rw [hW]
  clear hW
  have HFR := Lib.hid hf
  have HG := Lib.hid hgr
  clear hf hgr
  go_wp2_with fail
  go_loopw [7] (fun iv wr => ∃ k : Nat, k ≤ m ∧ iv = .int .i64 (k : Nat) ∧ Hid ((List.range k).all f = true) ∧ Grow W wr) (fun iv _ => m - (intOf iv).toNat)
  case atStart => exact ⟨0, Nat.zero_le _, rfl, rfl, Grow.refl _⟩
  case round =>
    obtain ⟨k, hk, rfl, HA, hgr⟩ := hrel
    rename World => wr
    have HGR := Lib.hid hgr
    have hcc := (Grow.block hgr HFR.out).cell
    clear hgr
    go_wp2_with fail
    refine (HT.out _ (HG.out.trans HGR.out)).mono ?_
    rintro e w2 ⟨rfl, hb2⟩
    have HG2 : Hid (Grow W w2) := Lib.hid (HGR.out.trans hb2)
    clear hb2 hcc
    have hcc := (HG2.out.block HFR.out).cell
    by_cases hlt : k < m
    · have hd : decide ((k : Int) < (m : Int)) = true := decide_eq_true (by omega)
      have HMK := Lib.hid (fun w0 hw => HM.out k (by omega) w0 hw)
      have hmb := HMB.out k
      have HF := Lib.hid (HFE.out k)
      have HN := Lib.hid (range_all_succ f k)
      obtain ⟨mi, hmi⟩ : ∃ z, miss p s g k = z := ⟨_, rfl⟩
      rw [hmi] at HMK hmb HF
      clear hmi
      go_wp2_with fail
      refine (HMK.out _ (HG.out.trans HG2.out)).mono ?_
      rintro e w3 ⟨rfl, hb3⟩
      have HG3 : Hid (Grow W w3) := Lib.hid (HG2.out.trans hb3)
      clear hb3 hcc
      by_cases h0 : 0 < mi
      · have hd0 : decide ((0 : Int) < mi) = true := decide_eq_true h0
        have HX : Hid (sv = false) := Lib.hid (by
          rw [HSV.out]
          exact range_all_mono (k := k + 1) (by omega) (by rw [HN.out, HF.out, decide_eq_false (by omega), Bool.and_false]))
        go_wp2
        go_ret
        exact ⟨ret_bool HX.out.symm, HG.out.trans HG3.out⟩
      · have hd0 : decide ((0 : Int) < mi) = false := decide_eq_false h0
        have HX : Hid ((List.range (k + 1)).all f = true) := Lib.hid (by rw [HN.out, HA.out, HF.out, decide_eq_true (by omega)]; rfl)
        go_wp2
        go_roundw
        case rel => exact ⟨k + 1, by omega, by go_num, HX, HG3.out⟩
        case measure => simp [intOf]; omega
    · obtain rfl : k = m := by omega
      have hd : decide ((k : Int) < (k : Int)) = false := decide_eq_false (by omega)
      have HX : Hid (sv = true) := Lib.hid (by rw [HSV.out]; exact HA.out)
      go_wp2
      go_ret
      exact ⟨ret_bool HX.out.symm, HG.out.trans HG2.out⟩

set_option maxRecDepth 100000 in
set_option maxHeartbeats 8000000 in
theorem rStands_any (h : PoolH) (p : Pool) (G : Good p) (s g k : Nat) (w : World) (hA : PoolAt w w.heap.size h p.i) (hs : s < p.needs.length) (hg : g < 32) (_hk : k ≤ 1000) :
    Calls Try.prog 51 #[poolN h p, .int .i64 s, .int .i64 g, .int .i64 k] w fun e w' => e = .returned (.bool (standsD p s g k)) ∧ Below w.heap.size w w' := by
  have HS := Lib.hid (fun (x : Nat) (hx : x < 1048576) (w0 : World) (hw : Grow w w0) => rServes_any h p G s x w0 (hA.grow hw) hs hx)
  have HZ := Lib.hid (fun (x : Nat) (hx : x < 256) w0 => rSize_any x w0 hx)
  obtain ⟨f, hf'⟩ : ∃ z, (fun x => !illB g x k || servesD p s (diffN g x)) = z := ⟨_, rfl⟩
  have HSV : Hid (standsD p s g k = (List.range (g + 1)).all f) := Lib.hid (by rw [← hf']; rfl)
  have HFE := Lib.hid (fun x => (show f x = (!(subN x g && decide (popD x ≤ k)) || servesD p s (diffN g x)) by rw [← hf']; rfl))
  obtain ⟨sv, hsv⟩ : ∃ z, standsD p s g k = z := ⟨_, rfl⟩
  rw [hsv] at HSV ⊢
  clear hsv hf' hA
  obtain ⟨fa, fc, na, nc⟩ := h
  go_enter Try.func51, Try.ntmps51
  go_upto_region 1 with fail
  obtain ⟨W, hW, hgr, hf, hsz⟩ := one_block w 25 (cellsN ⟨fa, fc, na, nc⟩ p)
  rw [hW]
  clear hW
  have HFR := Lib.hid hf
  have HG := Lib.hid hgr
  clear hf hgr
  go_wp2_with fail
  go_loopw [9] (fun iv wr => ∃ x : Nat, x ≤ g + 1 ∧ iv = .int .i64 (x : Nat) ∧ Hid ((List.range x).all f = true) ∧ Grow W wr) (fun iv _ => g + 1 - (intOf iv).toNat)
  case atStart => exact ⟨0, Nat.zero_le _, rfl, rfl, Grow.refl _⟩
  case round =>
    obtain ⟨x, hx, rfl, HA, hgr⟩ := hrel
    rename World => wr
    have HGR := Lib.hid hgr
    have hcc := (Grow.block hgr HFR.out).cell
    clear hgr
    by_cases hlt : x ≤ g
    · have hd : decide ((x : Int) ≤ (g : Int)) = true := decide_eq_true (by omega)
      have HF := Lib.hid (HFE.out x)
      have HN := Lib.hid (range_all_succ f x)
      have han := andNot_nat x g (by omega) (by omega)
      have han2 := andNot_nat g x (by omega) (by omega)
      have HZX := Lib.hid (fun w0 => HZ.out x (by omega) w0)
      have hdl : diffN g x < 32 := sub_32 hg (diff_sub g x)
      have HSX := Lib.hid (fun w0 hw => HS.out (diffN g x) (by omega) w0 hw)
      have hp8 : popD x ≤ 8 := by unfold popD; omega
      unfold subN at HF
      obtain ⟨u, hu⟩ : ∃ z, diffN x g = z := ⟨_, rfl⟩
      rw [hu] at han HF
      obtain ⟨px, hpx⟩ : ∃ z, popD x = z := ⟨_, rfl⟩
      rw [hpx] at HZX HF hp8
      obtain ⟨y, hy⟩ : ∃ z, diffN g x = z := ⟨_, rfl⟩
      rw [hy] at han2 hdl HSX HF
      obtain ⟨sy, hsy⟩ : ∃ z, servesD p s y = z := ⟨_, rfl⟩
      rw [hsy] at HSX HF
      clear hu hpx hy hsy
      have HGO : Hid (f x = true → (List.range (x + 1)).all f = true) := Lib.hid (fun h => by rw [HN.out, HA.out, h]; rfl)
      have HNO : Hid (f x = false → sv = false) := Lib.hid (fun h => by rw [HSV.out]; exact range_all_mono (k := x + 1) (by omega) (by rw [HN.out, h, Bool.and_false]))
      by_cases hu0 : u = 0
      · subst hu0
        by_cases hpk : px ≤ k
        · have hd1 : decide ((px : Int) ≤ (k : Int)) = true := decide_eq_true (by omega)
          have HF2 : Hid (f x = sy) := Lib.hid (by rw [HF.out, decide_eq_true hpk]; simp)
          cases sy with
          | true =>
            go_wp2_with (first | (go_at_call 18; refine (HZX.out _).mono ?_; rintro e w3 ⟨rfl, rfl⟩) | (go_at_call 72; refine (HSX.out _ (HG.out.trans HGR.out)).mono ?_; rintro e w3 ⟨rfl, hb3⟩; have HG3 : Hid (Grow W w3) := Lib.hid (HGR.out.trans hb3); clear hb3))
            go_roundw
            case rel => exact ⟨x + 1, by omega, by go_num, HGO.out HF2.out, HG3.out⟩
            case measure => simp [intOf]; omega
          | false =>
            go_wp2_with (first | (go_at_call 18; refine (HZX.out _).mono ?_; rintro e w3 ⟨rfl, rfl⟩) | (go_at_call 72; refine (HSX.out _ (HG.out.trans HGR.out)).mono ?_; rintro e w3 ⟨rfl, hb3⟩; have HG3 : Hid (Grow W w3) := Lib.hid (HGR.out.trans hb3); clear hb3))
            go_ret
            exact ⟨ret_bool (HNO.out HF2.out).symm, HG.out.trans HG3.out⟩
        · have hd1 : decide ((px : Int) ≤ (k : Int)) = false := decide_eq_false (by omega)
          have HF2 : Hid (f x = true) := Lib.hid (by rw [HF.out, decide_eq_false hpk]; simp)
          go_wp2_with (first | (go_at_call 18; refine (HZX.out _).mono ?_; rintro e w3 ⟨rfl, rfl⟩))
          go_roundw
          case rel => exact ⟨x + 1, by omega, by go_num, HGO.out HF2.out, HGR.out⟩
          case measure => simp [intOf]; omega
      · have hne : (((u : Nat) : Int) == 0) = false := by simpa using hu0
        have HF2 : Hid (f x = true) := Lib.hid (by rw [HF.out, decide_eq_false hu0]; rfl)
        go_wp2
        go_roundw
        case rel => exact ⟨x + 1, by omega, by go_num, HGO.out HF2.out, HGR.out⟩
        case measure => simp [intOf]; omega
    · obtain rfl : x = g + 1 := by omega
      have hd : decide (((g : Int) + 1) ≤ (g : Int)) = false := decide_eq_false (by omega)
      have hd' : decide (((g + 1 : Nat) : Int) ≤ (g : Int)) = false := decide_eq_false (by omega)
      have hd'' : decide (g + 1 ≤ g) = false := decide_eq_false (by omega)
      have HX : Hid (sv = true) := Lib.hid (by rw [HSV.out]; exact HA.out)
      go_wp2
      go_ret
      exact ⟨ret_bool HX.out.symm, HG.out.trans HGR.out⟩

set_option maxRecDepth 100000 in
set_option maxHeartbeats 1000000 in
theorem rCovered_any (h : PoolH) (p : Pool) (G : Good p) (s g : Nat) (w : World) (hA : PoolAt w w.heap.size h p.i) (hs : s < p.needs.length) (hg : g < 32) :
    Calls Try.prog 24 #[poolN h p, .int .i64 s, .int .i64 g] w fun e w' => e = .returned (.bool (coveredD p s g)) ∧ Below w.heap.size w w' := by
  have HS := Lib.hid (fun (w0 : World) (hw : Grow w w0) => rStands_any h p G s g p.ill w0 (hA.grow hw) hs hg (by have := G.ill; omega))
  rw [← covered_stands G hs hg]
  generalize standsD p s g p.ill = sv at HS ⊢
  obtain ⟨fa, fc, na, nc⟩ := h
  clear hA
  go_enter Try.func24, Try.ntmps24
  go_upto_region 1 with fail
  obtain ⟨W, hW, hgr, hf, hsz⟩ := one_block w 25 (cellsN ⟨fa, fc, na, nc⟩ p)
  rw [hW]
  clear hW
  have hcc := hf.cell
  have HG := Lib.hid hgr
  clear hf hgr
  go_wp2_with fail
  refine (HS.out _ HG.out).mono ?_
  rintro e w2 ⟨rfl, hb2⟩
  have HG2 : Hid (Grow w w2) := Lib.hid (HG.out.trans hb2)
  clear hb2
  go_wp2
  go_ret
  exact ⟨rfl, HG2.out⟩

end Go.Proofs.Ytcgnibfcjadnjaa
