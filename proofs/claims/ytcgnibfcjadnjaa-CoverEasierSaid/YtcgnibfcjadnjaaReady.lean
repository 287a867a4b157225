/- Ready: how many can be ill, and whether a slot is covered, as the program reckons; what people cost, and who can be on call; written by wip/tools/ready10.py. -/
import Derived.Test.YtcgnibfcjadnjaaNeed
import Derived.Test.YtcgnibfcjadnjaaRegion
namespace Go.Proofs.Ytcgnibfcjadnjaa
open Go.RowKit

theorem readyTo_bounds {p : Pool} (G : Good p) {s g : Nat} (hs : s < p.needs.length) (hg : g < 32) : ∀ T, -24 ≤ readyTo p s g T ∧ readyTo p s g T ≤ 5
  | 0 => by have := pop_le5 g hg; unfold readyTo; omega
  | T + 1 => by
    have ih := readyTo_bounds G hs hg T
    have := miss_bounds G hs g T
    unfold readyTo
    split <;> omega
theorem readyD_bounds {p : Pool} (G : Good p) {s g : Nat} (hs : s < p.needs.length) (hg : g < 32) : -1 ≤ readyD p s g ∧ readyD p s g ≤ 5 := by
  have := readyTo_bounds G hs hg (2 ^ (p.row s).length)
  unfold readyD
  omega
theorem readyTo_succ (p : Pool) (s g T : Nat) : readyTo p s g (T + 1) = if 0 < needed (p.row s) T then min (readyTo p s g T) (-(miss p s g T)) else readyTo p s g T := rfl

set_option maxRecDepth 100000 in
set_option maxHeartbeats 4000000 in
theorem ready_any (h : PoolH) (p : Pool) (G : Good p) (s g : Nat) (w : World) (hA : PoolAt w w.heap.size h p.i) (hs : s < p.needs.length) (hg : g < 32) :
    Calls Try.prog 50 #[poolN h p, .int .i64 s, .int .i64 g] w fun e w' => e = .returned (.int .i64 (readyD p s g)) ∧ Below w.heap.size w w' := by
  have HN := Lib.hid (fun (T : Nat) (hT : T < 1048576) (w0 : World) (hw : Grow w w0) => needed_any h p G s T w0 (hA.grow hw) hs hT)
  have HM := Lib.hid (fun (T : Nat) (hT : T < 1048576) (w0 : World) (hw : Grow w w0) => missing_any h p G s g T w0 (hA.grow hw) hs (by omega) hT)
  have HS := Lib.hid (fun w0 => size_any g w0 (by omega))
  have HRB := Lib.hid (fun T => readyTo_bounds G hs hg T)
  have HMB := Lib.hid (fun T => miss_bounds G hs g T)
  have HR : Hid (readyD p s g = max (readyTo p s g (2 ^ (p.row s).length)) (-1)) := Lib.hid rfl
  obtain ⟨rd, hrd⟩ : ∃ z, readyD p s g = z := ⟨_, rfl⟩
  rw [hrd] at HR ⊢
  clear hrd
  obtain ⟨b, off, a, c, hna, hb, hcr, hi⟩ := row_at hA.2 hs
  obtain ⟨fa, fc, na, nc⟩ := h
  obtain rfl : na = _ := hna
  have hl3 := (row_ok G hs).1
  have hs0 : (0 : Int) ≤ (s : Int) := by omega
  have hs1 : (s : Int) < (p.needs.length : Int) := by omega
  have hl0 : (0 : Int) ≤ ((p.row s).length : Int) := by omega
  have hl64 : (p.row s).length ≤ 64 := by omega
  have hp8 : 2 ^ (p.row s).length ≤ 8 := Nat.pow_le_pow_right (n := 2) (by omega) hl3
  have hpI : ((2 : Int) ^ (p.row s).length) = ((2 ^ (p.row s).length : Nat) : Int) := (Int.natCast_pow 2 _).symm
  obtain ⟨m, hm⟩ : ∃ z, 2 ^ (p.row s).length = z := ⟨_, rfl⟩
  rw [hm] at HR hp8 hpI
  have hwr : IntKind.i64.wrap ((2 : Int) ^ (p.row s).length) = (m : Int) := by rw [hpI]; exact IntWalk.i64_in _ (by omega)
  have hp5 := pop_le5 g hg
  have HP0 : Hid (readyTo p s g 0 = (popD g : Int)) := Lib.hid rfl
  obtain ⟨pg, hpg⟩ : ∃ z, popD g = z := ⟨_, rfl⟩
  rw [hpg] at HS HP0 hp5
  clear hpI hm hpg hi hA
  go_enter Try.func50, Try.ntmps50
  go_upto_region 1 with fail
  obtain ⟨W, hW, hgr, hf, hsz⟩ := one_block w 73 (cellsN ⟨fa, fc, some ⟨b, off, none⟩, nc⟩ p)
  rw [hW]
  clear hW
  have hcc := hf.cell
  have hcr := hgr.cell hcr
  have HF := Lib.hid hf
  have HG := Lib.hid hgr
  clear hf hgr
  go_wp2_with fail
  refine (HS.out _).mono ?_
  rintro e w1 ⟨rfl, rfl⟩
  go_wp2
  clear hcc hcr hwr
  go_loopw [7, 19] (fun nv iv wr => ∃ (k : Nat) (r : Int), k ≤ m ∧ iv = .int .i64 (k : Nat) ∧ nv = .int .i64 r ∧ Hid (r = readyTo p s g k) ∧ -24 ≤ r ∧ r ≤ 5 ∧ Grow W wr) (fun _ iv _ => m - (intOf iv).toNat)
  case atStart => exact ⟨0, pg, Nat.zero_le _, rfl, rfl, HP0.out.symm, by omega, by omega, Grow.refl _⟩
  case round =>
    obtain ⟨k, r, hk, rfl, rfl, HRR, hr1, hr2, hgr⟩ := hrel
    rename World => wr
    have HGR := Lib.hid hgr
    clear hgr
    by_cases hlt : k < m
    · have hcc := (HGR.out.block HF.out).cell
      have hk1 : (k : Int) < (m : Int) := by omega
      have hd : decide ((k : Int) < (m : Int)) = true := decide_eq_true hk1
      have HN := Lib.hid (fun w0 hw => HN.out k (by omega) w0 hw)
      have HM := Lib.hid (fun w0 hw => HM.out k (by omega) w0 hw)
      have hbs := HRB.out (k + 1)
      have hmb := HMB.out k
      have HS1 : Hid (readyTo p s g (k + 1) = if 0 < needed (p.row s) k then min r (-(miss p s g k)) else r) := Lib.hid (by rw [readyTo_succ, HRR.out])
      obtain ⟨nd, hnd⟩ : ∃ z, needed (p.row s) k = z := ⟨_, rfl⟩
      obtain ⟨mi, hmi⟩ : ∃ z, miss p s g k = z := ⟨_, rfl⟩
      rw [hnd] at HN HS1
      rw [hmi] at HM HS1 hmb
      rw [HS1.out] at hbs
      clear hnd hmi
      go_wp2_with fail
      refine (HN.out _ (HG.out.trans HGR.out)).mono ?_
      rintro e w2 ⟨rfl, hb2⟩
      have HG2 : Hid (Grow W w2) := Lib.hid (HGR.out.trans hb2)
      have hcc2 := (HG2.out.block HF.out).cell
      clear hb2 hcc HN
      by_cases h0 : 0 < nd
      · have hd0 : decide ((0 : Int) < (nd : Int)) = true := decide_eq_true (by omega)
        rw [if_pos h0] at hbs
        have HS1 : Hid (readyTo p s g (k + 1) = min r (-mi)) := Lib.hid (by rw [HS1.out, if_pos h0])
        go_wp2_with fail
        refine (HM.out _ (HG.out.trans HG2.out)).mono ?_
        rintro e w3 ⟨rfl, hb3⟩
        have HG3 : Hid (Grow W w3) := Lib.hid (HG2.out.trans hb3)
        clear hb3 hcc2 HM
        go_wp2
        go_roundw
        case rel => exact ⟨k + 1, min r (-mi), by omega, by go_num, by congr 1; omega, HS1.out.symm, by omega, by omega, HG3.out⟩
        case measure => simp [intOf]; omega
      · obtain rfl : nd = 0 := by omega
        have HS1 : Hid (readyTo p s g (k + 1) = r) := Lib.hid (by rw [HS1.out, if_neg (by omega)])
        go_wp2
        go_roundw
        case rel => exact ⟨k + 1, r, by omega, by go_num, rfl, HS1.out.symm, by omega, by omega, HG2.out⟩
        case measure => simp [intOf]; omega
    · obtain rfl : k = m := by omega
      have HX : Hid (max r (-1) = rd) := Lib.hid (by rw [HRR.out, HR.out])
      go_wp2
      all_goals go_ret
      all_goals exact ⟨ret_int (by rw [← HX.out]; omega), HG.out.trans HGR.out⟩

set_option maxRecDepth 100000 in
set_option maxHeartbeats 4000000 in
theorem isCovered_any (h : PoolH) (p : Pool) (G : Good p) (s g : Nat) (w : World) (hA : PoolAt w w.heap.size h p.i) (hs : s < p.needs.length) (hg : g < 32) :
    Calls Try.prog 67 #[poolN h p, .int .i64 s, .int .i64 g] w fun e w' => e = .returned (.bool (coveredD p s g)) ∧ Below w.heap.size w w' := by
  have HR := Lib.hid (fun (w0 : World) (hw : Grow w w0) => ready_any h p G s g w0 (hA.grow hw) hs hg)
  have HS := Lib.hid (fun w0 => size_any g w0 (by omega))
  have HV : Hid (decide (min (p.ill : Int) (popD g) ≤ readyD p s g) = coveredD p s g) := Lib.hid rfl
  have hrb := readyD_bounds G hs hg
  have hp5 := pop_le5 g hg
  obtain ⟨rd, hrd⟩ : ∃ z, readyD p s g = z := ⟨_, rfl⟩
  obtain ⟨pg, hpg⟩ : ∃ z, popD g = z := ⟨_, rfl⟩
  obtain ⟨mn, hmn⟩ : ∃ z, min (p.ill : Int) (pg : Int) = z := ⟨_, rfl⟩
  rw [hrd] at HR HV hrb
  rw [hpg] at HS HV hp5
  rw [hmn] at HV
  have HMN := Lib.hid hmn.symm
  clear hrd hpg hmn hA
  obtain ⟨fa, fc, na, nc⟩ := h
  go_enter Try.func67, Try.ntmps67
  go_upto_region 1 with fail
  obtain ⟨W, hW, hgr, hf, hsz⟩ := one_block w 73 (cellsN ⟨fa, fc, na, nc⟩ p)
  rw [hW]
  clear hW
  have HF := Lib.hid hf
  have HG := Lib.hid hgr
  clear hf hgr
  refine wp_region_lit 12 [[], [], [], [(0, 7), (1, 8), (2, 9)], [], [(4, 11)], [(5, 12)], [], [(7, 14)], [(6, 13), (8, 15)], [(3, 10), (9, 16)], [(10, 17)]] Grow (fun qi v w' => match qi with
      | 0 => v = poolN ⟨fa, fc, na, nc⟩ p
      | 1 => v = .int .i64 (s : Nat)
      | 2 => v = .int .i64 (g : Nat)
      | 3 => v = .int .i64 rd
      | 4 => v = .pointer (some ⟨w.heap.size, 0, none⟩)
      | 5 => v = .pointer (some ⟨w.heap.size, 2, none⟩)
      | 6 => v = .int .i64 (p.ill : Nat)
      | 7 => v = .int .i64 (g : Nat)
      | 8 => v = .int .i64 (pg : Nat)
      | 9 => v = .int .i64 mn
      | 10 => v = .bool (decide (mn ≤ rd))
      | 11 => v = .bool (decide (mn ≤ rd))
      | _ => False) (by kernel_rfl) (by kernel_rfl) (fun _ _ _ => Grow.trans) Grow.refl ?_ ?_ ?_
  · intro i v y y' h k
    match i, h with
    | 0, h | 1, h | 2, h | 3, h | 4, h | 5, h | 6, h | 7, h | 8, h | 9, h | 10, h | 11, h => exact h
  · simp only [StepsLit, List.take_succ_cons, List.take_zero]
    refine ⟨?_, ?_, ?_, ?_, ?_, ?_, ?_, ?_, ?_, ?_, ?_, ?_, trivial⟩
    · intro w5 hR
      have hGw : Grow W w5 := hR.of_drew
      have HGW := Lib.hid hGw
      have hcc := (HGW.out.block HF.out).cell
      clear hR hGw
      simp only [depV]
      try go_simp
      all_goals first
        | (with_reducible exact Grow.refl _)
        | (with_reducible exact ⟨Grow.refl _, rfl⟩)
    · intro w5 hR
      have hGw : Grow W w5 := hR.of_drew
      have HGW := Lib.hid hGw
      have hcc := (HGW.out.block HF.out).cell
      clear hR hGw
      simp only [depV]
      try go_simp
      all_goals first
        | (with_reducible exact Grow.refl _)
        | (with_reducible exact ⟨Grow.refl _, rfl⟩)
    · intro w5 hR
      have hGw : Grow W w5 := hR.of_drew
      have HGW := Lib.hid hGw
      have hcc := (HGW.out.block HF.out).cell
      clear hR hGw
      simp only [depV]
      try go_simp
      all_goals first
        | (with_reducible exact Grow.refl _)
        | (with_reducible exact ⟨Grow.refl _, rfl⟩)
    · intro w5 hR
      have hGw : Grow W w5 := hR.of_drew
      have HGW := Lib.hid hGw
      have hcc := (HGW.out.block HF.out).cell
      clear hR hGw
      simp only [depV]
      rintro _ rfl
      rintro _ rfl
      rintro _ rfl
      try go_simp
      refine (HR.out _ (HG.out.trans HGW.out)).mono ?_
      rintro e w6 ⟨rfl, hb6⟩
      exact ⟨hb6, rfl⟩
    · intro w5 hR
      have hGw : Grow W w5 := hR.of_drew
      have HGW := Lib.hid hGw
      have hcc := (HGW.out.block HF.out).cell
      clear hR hGw
      simp only [depV]
      try go_simp
      all_goals first
        | (with_reducible exact Grow.refl _)
        | (with_reducible exact ⟨Grow.refl _, rfl⟩)
    · intro w5 hR
      have hGw : Grow W w5 := hR.of_drew
      have HGW := Lib.hid hGw
      have hcc := (HGW.out.block HF.out).cell
      clear hR hGw
      simp only [depV]
      rintro _ rfl
      try go_simp
      all_goals first
        | (with_reducible exact Grow.refl _)
        | (with_reducible exact ⟨Grow.refl _, rfl⟩)
    · intro w5 hR
      have hGw : Grow W w5 := hR.of_drew
      have HGW := Lib.hid hGw
      have hcc := (HGW.out.block HF.out).cell
      clear hR hGw
      simp only [depV]
      rintro _ rfl
      try go_simp
      all_goals first
        | (with_reducible exact Grow.refl _)
        | (with_reducible exact ⟨Grow.refl _, rfl⟩)
    · intro w5 hR
      have hGw : Grow W w5 := hR.of_drew
      have HGW := Lib.hid hGw
      have hcc := (HGW.out.block HF.out).cell
      clear hR hGw
      simp only [depV]
      try go_simp
      all_goals first
        | (with_reducible exact Grow.refl _)
        | (with_reducible exact ⟨Grow.refl _, rfl⟩)
    · intro w5 hR
      have hGw : Grow W w5 := hR.of_drew
      have HGW := Lib.hid hGw
      have hcc := (HGW.out.block HF.out).cell
      clear hR hGw
      simp only [depV]
      rintro _ rfl
      try go_simp
      refine (HS.out _).mono ?_
      rintro e w6 ⟨rfl, rfl⟩
      exact ⟨Grow.refl _, rfl⟩
    · intro w5 hR
      have hGw : Grow W w5 := hR.of_drew
      have HGW := Lib.hid hGw
      have hcc := (HGW.out.block HF.out).cell
      clear hR hGw
      simp only [depV]
      rintro _ rfl
      rintro _ rfl
      try go_simp
      exact ⟨Grow.refl _, by rw [HMN.out]; split <;> omega⟩
    · intro w5 hR
      have hGw : Grow W w5 := hR.of_drew
      have HGW := Lib.hid hGw
      have hcc := (HGW.out.block HF.out).cell
      clear hR hGw
      simp only [depV]
      rintro _ rfl
      rintro _ rfl
      try go_simp
      all_goals first
        | (with_reducible exact Grow.refl _)
        | (with_reducible exact ⟨Grow.refl _, rfl⟩)
    · intro w5 hR
      have hGw : Grow W w5 := hR.of_drew
      have HGW := Lib.hid hGw
      have hcc := (HGW.out.block HF.out).cell
      clear hR hGw
      simp only [depV]
      rintro _ rfl
      try go_simp
      all_goals first
        | (with_reducible exact Grow.refl _)
        | (with_reducible exact ⟨Grow.refl _, rfl⟩)
  · intro w5 hR
    have HG5 : Hid (Grow W w5) := Lib.hid hR.of_drew
    clear hR
    simp only [finVC, List.take_succ_cons, List.take_zero, List.drop_succ_cons, List.drop_zero]
    rintro _ rfl
    rintro _ rfl
    rintro _ rfl
    rintro _ rfl
    rintro _ rfl
    rintro _ rfl
    rintro _ rfl
    rintro _ rfl
    rintro _ rfl
    rintro _ rfl
    rintro _ rfl
    rintro _ rfl
    simp only [Act.put, List.setIfInBounds_toArray, List.set_cons_succ, List.set_cons_zero]
    go_wp2
    go_ret
    exact ⟨ret_bool HV.out, HG.out.trans HG5.out⟩

theorem folk_ok {p : Pool} (G : Good p) {k : Nat} {x : FolkN} (hx : p.folk[k]? = some x) : x.t < 8 ∧ x.s < 8 ∧ x.y ≤ 1000 := by
  obtain ⟨h1, h2, h3⟩ := G.folk x (List.mem_of_getElem? hx)
  have : 2 ^ p.tn ≤ 2 ^ 3 := Nat.pow_le_pow_right (by omega) G.t3
  have : 2 ^ p.needs.length ≤ 2 ^ 3 := Nat.pow_le_pow_right (by omega) G.n3
  omega
theorem costTo_le {p : Pool} (G : Good p) (g : Nat) : ∀ k, costTo p.folk g k ≤ 1000 * k
  | 0 => Nat.le_refl _
  | k + 1 => by
    have ih := costTo_le G g k
    have : (p.folk.getD k nof).y ≤ 1000 := by
      rw [List.getD_eq_getElem?_getD]
      cases h : p.folk[k]? with
      | none => exact Nat.zero_le _
      | some x => exact (folk_ok G h).2.2
    unfold costTo
    split <;> omega
set_option maxRecDepth 100000 in
set_option maxHeartbeats 4000000 in
theorem cost_any (h : PoolH) (p : Pool) (G : Good p) (g : Nat) (w : World) (hA : PoolAt w w.heap.size h p.i) (hg : g < 1048576) :
    Calls Try.prog 60 #[poolN h p, .int .i64 g] w fun e w' => e = .returned (.int .i64 (costD p g : Nat)) ∧ Below w.heap.size w w' := by
  have HF := Lib.hid (fun (w0 : World) (hw : Grow w w0) => (hA.grow hw).1)
  have hl5 := G.f5
  have HCB := Lib.hid (fun k => costTo_le G g k)
  have HMI : Hid (costD p g = costTo p.folk g p.folk.length) := Lib.hid rfl
  obtain ⟨mi, hmi⟩ : ∃ z, costD p g = z := ⟨_, rfl⟩
  rw [hmi] at HMI ⊢
  clear hmi hA
  obtain ⟨fa, fc, na, nc⟩ := h
  go_enter Try.func60, Try.ntmps60
  go_upto_region 1 with fail
  obtain ⟨W, hW, hgr, hf, hsz⟩ := one_block w 73 (cellsN ⟨fa, fc, na, nc⟩ p)
  rw [hW]
  clear hW
  have hcc := hf.cell
  have HG := Lib.hid hgr
  clear hf hgr
  go_wp2
  clear hcc
  go_loopw [5, 12] (fun nv iv wr => ∃ (k m : Nat), k ≤ p.folk.length ∧ iv = .int .i64 (k : Nat) ∧ nv = .int .i64 (m : Nat) ∧ Hid (m = costTo p.folk g k) ∧ m ≤ 5000 ∧ Grow w wr) (fun _ iv _ => p.folk.length - (intOf iv).toNat)
  case atStart => exact ⟨0, 0, Nat.zero_le _, rfl, rfl, rfl, by omega, HG.out⟩
  case round =>
    obtain ⟨k, m, hk, rfl, rfl, HM, hm2, hgr⟩ := hrel
    rename World => wr
    have HGR := Lib.hid hgr
    clear hgr
    by_cases hlt : k < p.folk.length
    · obtain ⟨b, off, x, rfl, hbl, e0, e1, e2, HX⟩ := folk_at (HF.out wr HGR.out) hlt
      have h00 : (0 : Int) ≤ (k : Int) := by omega
      have hk1 : (k : Int) < (p.folk.length : Int) := by omega
      have hd : decide ((k : Int) < (p.folk.length : Int)) = true := decide_eq_true hk1
      have hxy := (folk_ok G HX.out).2.2
      have hxg : p.folk.getD k nof = x := by rw [List.getD_eq_getElem?_getD, HX.out]; rfl
      have HS : Hid (costTo p.folk g (k + 1) = if hasN g k then m + x.y else m) := Lib.hid (by
        show (if hasN g k = true then _ else _) = _
        rw [hxg, HM.out])
      have hcb := HCB.out (k + 1)
      rw [HS.out] at hcb
      have HH := Lib.hid (fun w0 => has_any g k w0 hg (by omega))
      obtain ⟨hb, hhb⟩ : ∃ z, hasN g k = z := ⟨_, rfl⟩
      rw [hhb] at HS HH hcb
      clear hhb hxg
      obtain ⟨W2, hW2, hg2, hf2, hsz2⟩ := one_block wr 62 (cellsF ⟨x.t, x.s, x.y⟩)
      have hpc := hf2.cell
      have HG2 : Hid (Grow w W2) := Lib.hid (HGR.out.trans hg2)
      clear hg2 hf2 hsz2
      subst hW2
      cases hb with
      | false =>
        have HS : Hid (costTo p.folk g (k + 1) = m) := Lib.hid (by rw [HS.out]; simp)
        clear hcb
        go_wp2_with fail
        refine (HH.out _).mono ?_
        rintro e w2 ⟨rfl, rfl⟩
        go_wp2
        go_roundw
        case rel => exact ⟨k + 1, m, by omega, by go_num, rfl, HS.out.symm, by omega, HG2.out⟩
        case measure => simp [intOf]; omega
      | true =>
        have HS : Hid (costTo p.folk g (k + 1) = m + x.y) := Lib.hid (by rw [HS.out]; simp)
        rw [if_pos rfl] at hcb
        go_wp2_with fail
        refine (HH.out _).mono ?_
        rintro e w2 ⟨rfl, rfl⟩
        go_wp2
        go_roundw
        case rel => exact ⟨k + 1, m + x.y, by omega, by go_num, by go_num, HS.out.symm, by omega, HG2.out⟩
        case measure => simp [intOf]; omega
    · obtain rfl : k = p.folk.length := by omega
      have HX : Hid ((m : Int) = (mi : Int)) := Lib.hid (by rw [HM.out, HMI.out])
      go_wp2
      go_ret
      exact ⟨ret_int HX.out, HGR.out⟩

theorem or_top {m k : Nat} (hm : m < 2 ^ k) : m ||| 2 ^ k = m + 2 ^ k := by
  have := Nat.two_pow_add_eq_or_of_lt hm 1
  rw [Nat.mul_one] at this
  rw [Nat.or_comm, ← this, Nat.add_comm]
set_option maxRecDepth 100000 in
set_option maxHeartbeats 4000000 in
theorem able_any (h : PoolH) (p : Pool) (G : Good p) (s : Nat) (w : World) (hA : PoolAt w w.heap.size h p.i) (hs : s < p.needs.length) :
    Calls Try.prog 75 #[poolN h p, .int .i64 s] w fun e w' => e = .returned (.int .i64 (ableD p s : Nat)) ∧ Below w.heap.size w w' := by
  have HF := Lib.hid (fun (w0 : World) (hw : Grow w w0) => (hA.grow hw).1)
  have hl5 := G.f5
  have hn3 := G.n3
  obtain ⟨f, hf'⟩ : ∃ z, (fun i => hasN (p.folk.getD i nof).s s) = z := ⟨_, rfl⟩
  have HMI : Hid (ableD p s = bitsTo f p.folk.length) := Lib.hid (by rw [← hf']; rfl)
  have HFX := Lib.hid (fun (k : Nat) (x : FolkN) (hx : p.folk[k]? = some x) => (show f k = hasN x.s s by rw [← hf']; show hasN (p.folk.getD k nof).s s = _; rw [List.getD_eq_getElem?_getD, hx]; rfl))
  obtain ⟨mi, hmi⟩ : ∃ z, ableD p s = z := ⟨_, rfl⟩
  rw [hmi] at HMI ⊢
  clear hmi hA hf'
  have h00s : (0 : Int) ≤ (s : Int) := by omega
  have h64s : s ≤ 64 := by omega
  obtain ⟨fa, fc, na, nc⟩ := h
  go_enter Try.func75, Try.ntmps75
  go_upto_region 1 with fail
  obtain ⟨W, hW, hgr, hf, hsz⟩ := one_block w 73 (cellsN ⟨fa, fc, na, nc⟩ p)
  rw [hW]
  clear hW
  have hcc := hf.cell
  have HG := Lib.hid hgr
  clear hf hgr
  go_wp2
  clear hcc
  go_loopw [5, 12] (fun nv iv wr => ∃ (k m : Nat), k ≤ p.folk.length ∧ iv = .int .i64 (k : Nat) ∧ nv = .int .i64 (m : Nat) ∧ Hid (m = bitsTo f k) ∧ m < 32 ∧ Grow w wr) (fun _ iv _ => p.folk.length - (intOf iv).toNat)
  case atStart => exact ⟨0, 0, Nat.zero_le _, rfl, rfl, rfl, by omega, HG.out⟩
  case round =>
    obtain ⟨k, m, hk, rfl, rfl, HM, hm2, hgr⟩ := hrel
    rename World => wr
    have HGR := Lib.hid hgr
    clear hgr
    by_cases hlt : k < p.folk.length
    · obtain ⟨b, off, x, rfl, hbl, e0, e1, e2, HX⟩ := folk_at (HF.out wr HGR.out) hlt
      have h00 : (0 : Int) ≤ (k : Int) := by omega
      have h64 : k ≤ 64 := by omega
      have hk1 : (k : Int) < (p.folk.length : Int) := by omega
      have hd : decide ((k : Int) < (p.folk.length : Int)) = true := decide_eq_true hk1
      have hxs := (folk_ok G HX.out).2.1
      have hsh := shr_and (s := x.s) (e := s) (by omega)
      have HS : Hid (bitsTo f (k + 1) = if decide (x.s / 2 ^ s % 2 = 1) then m + 2 ^ k else m) := Lib.hid (by
        show (if f k = true then _ else _) = _
        rw [HFX.out k x HX.out, HM.out]
        rfl)
      have hmk : m < 2 ^ k := by rw [HM.out]; exact bitsTo_lt f k
      have hlt2 := bitsTo_lt f (k + 1)
      have h32 : 2 ^ (k + 1) ≤ 32 := by have := Nat.pow_le_pow_right (n := 2) (by omega) (show k + 1 ≤ 5 by omega); simpa using this
      have hk16 : 2 ^ k < 32 := by rw [Nat.pow_succ] at h32; omega
      have hor := or_i64 m (2 ^ k) (by omega) (by omega)
      rw [or_top hmk] at hor
      have hpI : ((2 : Int) ^ k) = ((2 ^ k : Nat) : Int) := (Int.natCast_pow 2 _).symm
      generalize x.s / 2 ^ s % 2 = q at hsh HS
      obtain ⟨z, hz⟩ : ∃ z, 2 ^ k = z := ⟨_, rfl⟩
      rw [hz] at hk16 hor hpI
      have hwr : IntKind.i64.wrap ((2 : Int) ^ k) = (z : Int) := by rw [hpI]; exact IntWalk.i64_in _ (by omega)
      have HZ := Lib.hid hz
      clear hpI hz hmk
      obtain ⟨W2, hW2, hg2, hf2, hsz2⟩ := one_block wr 62 (cellsF ⟨x.t, x.s, x.y⟩)
      have hpc := hf2.cell
      have HG2 : Hid (Grow w W2) := Lib.hid (HGR.out.trans hg2)
      clear hg2 hf2 hsz2
      subst hW2
      by_cases hq : q = 1
      · subst hq
        have HS : Hid (bitsTo f (k + 1) = m + z) := Lib.hid (by rw [HS.out, HZ.out]; simp)
        have HL : Hid (m + z < 32) := Lib.hid (by rw [← HS.out]; omega)
        clear hlt2 h32
        go_wp2
        go_roundw
        case rel => exact ⟨k + 1, m + z, by omega, by go_num, by first | rfl | go_num, HS.out.symm, HL.out, HG2.out⟩
        case measure => simp [intOf]; omega
      · have HS : Hid (bitsTo f (k + 1) = m) := Lib.hid (by rw [HS.out]; simp [hq])
        have hq0 : (((q : Nat) : Int) == 1) = false := by simpa using (by omega : ¬ (q : Int) = 1)
        clear hlt2 h32
        go_wp2
        go_roundw
        case rel => exact ⟨k + 1, m, by omega, by go_num, rfl, HS.out.symm, by omega, HG2.out⟩
        case measure => simp [intOf]; omega
    · obtain rfl : k = p.folk.length := by omega
      have HX : Hid ((m : Int) = (mi : Int)) := Lib.hid (by rw [HM.out, HMI.out])
      go_wp2
      go_ret
      exact ⟨ret_int HX.out, HGR.out⟩

end Go.Proofs.Ytcgnibfcjadnjaa
