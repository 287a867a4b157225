/- Narrow: biases and narrow; written by wip/tools/narrow9.py. -/
import Derived.Test.YthehkgpnnndboaaDoorBias
namespace Go.Proofs.YthehkgpnnndboaaDoor
open Go.RowKit

theorem results_bias {fn : Func} {r : Nat} (h : fn.results = #[.cell r 107]) (t : Array Value) (W : World) (b : Nat) (l : List (Int × Int))
    (hb : BlockIs W b 107 (cellsB l)) (ht : t.getD r undef = .pointer (some ⟨b, 0, none⟩)) :
    (results fn t).run Tryd.prog W = .ok (.agg (cellsB l)) W := by
  have hc := hb.cell
  simp only [results, h]
  simp at ht
  simp [go_sem, ht, hc]
set_option maxRecDepth 100000 in
set_option maxHeartbeats 8000000 in
theorem biases_any (p : PaperR) (w : World) (hA : PaperAt w w.heap.size p) (h4 : p.judges.length ≤ 4) :
    Calls Tryd.prog 71 #[paperV p] w fun e w' => e = .returned (.agg (cellsB (biasP p.d.judges []))) ∧ Below w.heap.size w w' := by
  have HPA := Lib.hid (fun (w0 : World) (hw : Below w.heap.size w w0) => hA.below hw)
  have HD := Lib.hid (d_len p)
  have HST := Lib.hid (fun (k : Nat) (hk : k < p.d.judges.length) => startK_succ (js := p.d.judges) (by rw [HD.out]; exact h4) hk)
  have HLE := Lib.hid (fun (k : Nat) (hk : k ≤ p.d.judges.length) => startK_len (js := p.d.judges) (by rw [HD.out]; exact h4) hk)
  have HAL := Lib.hid (startK_all p.d.judges)
  rw [HD.out] at HAL HST HLE
  rw [← HAL.out]
  have HNIL := Lib.hid (fun j => spanJ_nil j)
  obtain ⟨sk, hsk⟩ : ∃ z, startK p.d.judges = z := ⟨_, rfl⟩
  have h0 : sk 0 = [(0, 0), (0, 0), (0, 0), (0, 0)] := by rw [← hsk]; rfl
  rw [hsk] at HST HLE ⊢
  clear hsk hA HAL
  go_enter Tryd.func71, Tryd.ntmps71
  go_upto_region 2 with fail
  obtain ⟨W, hW, hg, hf, hx, hy, hsz⟩ := three_blocks w 73 107 107 (cellsP p) (cellsB [(0, 0), (0, 0), (0, 0), (0, 0)]) (cellsB [(0, 0), (0, 0), (0, 0), (0, 0)])
  rw [show ((w.alloc (.cells (cellsP p) 73)).alloc (.cells #[.int .i64 0, .int .i64 0, .int .i64 0, .int .i64 0, .int .i64 0, .int .i64 0, .int .i64 0, .int .i64 0] 107)).alloc (.cells #[.int .i64 0, .int .i64 0, .int .i64 0, .int .i64 0, .int .i64 0, .int .i64 0, .int .i64 0, .int .i64 0] 107) = W from hW]
  clear hW
  rw [← h0] at hy
  have hcc := hf.cell
  obtain ⟨bb, hbb⟩ : ∃ z, w.heap.size + 1 + 1 = z := ⟨_, rfl⟩
  have hy : BlockIs W bb 107 (cellsB (sk 0)) := by rw [← hbb]; exact hy
  rw [hbb]
  have HF := Lib.hid hf
  have HX := Lib.hid hx
  have HY := Lib.hid hy
  have HG := Lib.hid hg
  clear hf hx hy hg h0
  go_wp2_with fail
  go_loopw [10] (fun iv wr => ∃ k : Nat, k ≤ p.judges.length ∧ iv = .int .i64 (k : Nat) ∧ BlockIs wr bb 107 (cellsB (sk k)) ∧ BlockIs wr w.heap.size 73 (cellsP p) ∧ BlockIs wr (w.heap.size + 1) 107 (cellsB [(0, 0), (0, 0), (0, 0), (0, 0)]) ∧ Below w.heap.size w wr) (fun iv _ => p.judges.length - (intOf iv).toNat)
  case atStart => exact ⟨0, Nat.zero_le _, rfl, HY.out, HF.out, HX.out, HG.out⟩
  case round =>
    obtain ⟨k, hk, rfl, hby, hbs, hbx, hbl⟩ := hrel
    have HBY := Lib.hid hby
    have HBS := Lib.hid hbs
    have HBX := Lib.hid hbx
    have HBL := Lib.hid hbl
    clear hby hbs hbx hbl hcc
    have hcc := HBS.out.cell
    by_cases hlt : k < p.judges.length
    · have hd : decide ((k : Int) < (p.judges.length : Int)) = true := decide_eq_true (by omega)
      obtain ⟨b, off, x, hja, hb, e0, e1, e2, e3, HX', HXD⟩ := judge_at (HPA.out wr HBL.out) hlt
      have hk0 : (0 : Int) ≤ (k : Int) := by omega
      have hk1 : (k : Int) < (p.judges.length : Int) := by omega
      have hk4 : (k : Int) < 4 := by omega
      rw [hja]
      have hja' := Lib.hid hja
      clear hja
      go_upto_region 5 with fail
      obtain ⟨W5, hW5, hg5, hf5, hsz5⟩ := one_block wr 60 (cellsJ x)
      rw [hW5]
      clear hW5 hsz5 e0 e1 e2 e3
      have BY5 := Lib.hid (hg5.block HBY.out)
      have HG5 := Lib.hid hg5
      have hjc := hf5.cell
      have hyc := BY5.out.cell
      obtain ⟨q0, q1⟩ := cellsB_at (sk k) (show k < 4 by omega)
      have e0 : W5.cell? ⟨bb, k * 2, none⟩ = some (.int .i64 ((sk k)[k]?.getD (0, 0)).1) := (hyc _).trans q0
      have e1 : W5.cell? ⟨bb, k * 2 + 1, none⟩ = some (.int .i64 ((sk k)[k]?.getD (0, 0)).2) := (hyc _).trans q1
      have hz0 := BY5.out.frozen (k * 2)
      have hz1 := BY5.out.frozen (k * 2 + 1)
      have HNX : Hid (sk (k + 1) = (sk k).set k (x.d.lo, x.d.hi)) := Lib.hid (by rw [HST.out k hlt, HXD.out, HNIL.out])
      clear hyc q0 q1 hf5 hg5
      go_wp2_with fail
      go_roundw
      case rel => exact ⟨k + 1, by omega, by go_num, by rw [HNX.out]; exact bias_store BY5.out (HLE.out k hk) (by omega) (x.d.lo, x.d.hi), ((HG5.out.block HBS.out).far (p := ⟨bb, _, none⟩) (by show w.heap.size ≠ bb; omega) _).far (p := ⟨bb, _, none⟩) (by show w.heap.size ≠ bb; omega) _, ((HG5.out.block HBX.out).far (p := ⟨bb, _, none⟩) (by show w.heap.size + 1 ≠ bb; omega) _).far (p := ⟨bb, _, none⟩) (by show w.heap.size + 1 ≠ bb; omega) _,
        ((HBL.out.trans (Below.mono HG5.out HBL.out.size)).setCell (p := ⟨bb, _, none⟩) (by show w.heap.size ≤ bb; omega) _).setCell (p := ⟨bb, _, none⟩) (by show w.heap.size ≤ bb; omega) _⟩
      case measure => simp [intOf]; omega
    · obtain rfl : k = p.judges.length := by omega
      have hd : decide ((p.judges.length : Int) < (p.judges.length : Int)) = false := decide_eq_false (by omega)
      have hyc := HBY.out.cell
      have hz0 := HBX.out.frozen
      have hxc := HBX.out.cell
      go_wp2_with fail
      refine bodyPost_ret (results_bias Tryd.results71 _ _ _ _ (eight_stores HBX.out _ _ _ _ _ _ _ _) rfl) rfl ?_
      exact ⟨rfl, HBL.out.trans (eight_below (by omega) _ _ _ _ _ _ _ _)⟩

set_option maxRecDepth 100000 in
set_option maxHeartbeats 16000000 in
theorem narrow_any (p : PaperR) (G : GoodP (withW p.d 0)) (ps : List Int) (x : Int) (w : World) (hA : PaperAt w w.heap.size p) (hk : ps.length < p.items.length) (hx : 0 ≤ x ∧ x ≤ 30) :
    Calls Tryd.prog 70 #[paperV p, .agg (cellsB (biasP p.d.judges ps)), .int .i64 (ps.length : Nat), .int .i64 x] w fun e w' => e = .returned (.agg (cellsB (biasP p.d.judges (ps ++ [x])))) ∧ Below w.heap.size w w' := by
  have HPA := Lib.hid (fun (w0 : World) (hw : Below w.heap.size w w0) => hA.below hw)
  have HD := Lib.hid (d_len p)
  have h4 : p.judges.length ≤ 4 := by have : p.d.judges.length ≤ 4 := G.j4; rw [d_len] at this; exact this
  have hi4 : p.items.length ≤ 4 := G.i4
  have HSU := Lib.hid (fun (k : Nat) (hk : k < p.d.judges.length) => biasK_succ p.d.judges ps x hk)
  have HSA := Lib.hid (fun (k : Nat) (hk : k < p.d.judges.length) hm => biasK_same p.d.judges ps x (k := k) hk hm)
  have HLE := Lib.hid (fun (k : Nat) (hk : k ≤ p.d.judges.length) => biasK_len (js := p.d.judges) G.j4 ps x hk)
  have HAT := Lib.hid (fun (k : Nat) (hk : k < p.d.judges.length) => biasK_at p.d.judges ps x hk)
  have HAL := Lib.hid (biasK_all p.d.judges ps x)
  have HZ := Lib.hid (biasK_zero p.d.judges ps x)
  rw [HD.out] at HAL HSU HSA HLE HAT
  have HSN := Lib.hid (fun (j : JudgeI) (m : Int) hm => spanJ_snoc j ps x m hm)
  have HGJ := Lib.hid (fun (k : Nat) (y : JudgeR) (hy : p.judges[k]? = some y) => G.ju y.d (by
    show y.d ∈ p.judges.map JudgeR.d
    exact List.mem_map_of_mem (List.mem_of_getElem? hy)))
  rw [← HAL.out, ← HZ.out]
  obtain ⟨sk, hsk⟩ : ∃ z, biasK p.d.judges ps x = z := ⟨_, rfl⟩
  rw [hsk] at HSU HSA HLE HAT ⊢
  clear hsk hA HAL HZ
  have hx1 := hx.1
  have hx2 := hx.2
  clear hx
  go_enter Tryd.func70, Tryd.ntmps70
  go_upto_region 1 with fail
  obtain ⟨W, hW, hg, hf, hy, hx, hsz⟩ := three_blocks w 73 107 107 (cellsP p) (cellsB (sk 0)) (cellsB [(0, 0), (0, 0), (0, 0), (0, 0)])
  rw [show ((w.alloc (.cells (cellsP p) 73)).alloc (.cells (cellsB (sk 0)) 107)).alloc (.cells #[.int .i64 0, .int .i64 0, .int .i64 0, .int .i64 0, .int .i64 0, .int .i64 0, .int .i64 0, .int .i64 0] 107) = W from hW]
  clear hW
  have hcc := hf.cell
  obtain ⟨bb, hbb⟩ : ∃ z, w.heap.size + 1 = z := ⟨_, rfl⟩
  rw [hbb] at hy hx ⊢
  have HF := Lib.hid hf
  have HX := Lib.hid hx
  have HY := Lib.hid hy
  have HG := Lib.hid hg
  clear hf hx hy hg
  go_wp2_with fail
  go_loopw [18] (fun iv wr => ∃ k : Nat, k ≤ p.judges.length ∧ iv = .int .i64 (k : Nat) ∧ BlockIs wr bb 107 (cellsB (sk k)) ∧ BlockIs wr w.heap.size 73 (cellsP p) ∧ BlockIs wr (bb + 1) 107 (cellsB [(0, 0), (0, 0), (0, 0), (0, 0)]) ∧ Below w.heap.size w wr) (fun iv _ => p.judges.length - (intOf iv).toNat)
  case atStart => exact ⟨0, Nat.zero_le _, rfl, HY.out, HF.out, HX.out, HG.out⟩
  case round =>
    obtain ⟨k, hkl, rfl, hby, hbs, hbx, hbl⟩ := hrel
    have HBY := Lib.hid hby
    have HBS := Lib.hid hbs
    have HBX := Lib.hid hbx
    have HBL := Lib.hid hbl
    clear hby hbs hbx hbl hcc
    have hcc := HBS.out.cell
    by_cases hlt : k < p.judges.length
    · have hd : decide ((k : Int) < (p.judges.length : Int)) = true := decide_eq_true (by omega)
      obtain ⟨b, off, ⟨⟨lo, hi, err, marks⟩, a, c⟩, hja, hb, e0, e1, e2, e3, HX', HXD⟩ := judge_at (HPA.out wr HBL.out) hlt
      dsimp only at e0 e1 e2 e3 HXD
      obtain ⟨hju1, hju2, hju3, hju4⟩ := HGJ.out k _ HX'.out
      dsimp only at hju1 hju2 hju3 hju4
      have hml : ps.length < marks.length := by rw [hju3]; exact hk
      obtain ⟨mb, mo, m, rfl, hmb, hmc, HM⟩ := ((HPA.out wr HBL.out).marks _ (List.mem_of_getElem? HX'.out)).at_ hml
      dsimp only at hmc HM
      obtain ⟨hm1, hm2⟩ := hju4 m (List.mem_of_getElem? HM.out)
      have hk0 : (0 : Int) ≤ (k : Int) := by omega
      have hk1 : (k : Int) < (p.judges.length : Int) := by omega
      have hk4 : (k : Int) < 4 := by omega
      have hq0 : (0 : Int) ≤ (ps.length : Int) := by omega
      have hq1 : (ps.length : Int) < (marks.length : Int) := by omega
      have HERR := Lib.hid hju2
      have HLEN := Lib.hid hju3
      clear hju1 hju2 hju3 hju4 HGJ
      rw [hja]
      have hja' := Lib.hid hja
      clear hja
      go_upto_region 4 with fail
      obtain ⟨W5, hW5, hg5, hf5, hsz5⟩ := one_block wr 60 (cellsJ ⟨⟨lo, hi, err, marks⟩, some ⟨mb, mo, none⟩, c⟩)
      rw [hW5]
      clear hW5 hsz5 e0 e1 e2 e3
      obtain ⟨jb, hjb⟩ : ∃ z, wr.heap.size = z := ⟨_, rfl⟩
      rw [hjb] at hf5 ⊢
      have BY5 := Lib.hid (hg5.block HBY.out)
      have HG5 := Lib.hid hg5
      have HJ5 := Lib.hid hf5
      have hjc := hf5.cell
      have hmc5 := hg5.cell hmc
      have hmj : (p.d.judges.getD k noJ).marks[ps.length]? = some m := by rw [HXD.out]; exact HM.out
      have HMJ := Lib.hid hmj
      clear hmj hf5 hg5 hmc hjb hcc
      by_cases hmq : m = -1
      · subst hmq
        have hdm : ((-1 : Int) != -1) = false := by decide
        have HNX : Hid (sk (k + 1) = sk k) := Lib.hid (HSA.out k hlt HMJ.out)
        go_wp2_with fail
        go_roundw
        case rel => exact ⟨k + 1, by omega, by go_num, by rw [HNX.out]; exact BY5.out, HG5.out.block HBS.out, HG5.out.block HBX.out, HBL.out.trans (Below.mono HG5.out HBL.out.size)⟩
        case measure => simp [intOf]; omega
      · have hdm : (m != -1) = true := by rw [bne_iff_ne]; exact hmq
        obtain ⟨he1, he2⟩ := HERR.out
        have hw1 : IntKind.i64.wrap (m - x) = m - x := IntWalk.i64_in _ (by omega)
        have hw2 : IntKind.i64.wrap (m - x - err) = m - x - err := IntWalk.i64_in _ (by omega)
        have hw3 : IntKind.i64.wrap (m - x + err) = m - x + err := IntWalk.i64_in _ (by omega)
        have hsp : (sk k)[k]? = some (spanJ (p.d.judges.getD k noJ) ps) := HAT.out k hlt
        have HSP := Lib.hid hsp
        obtain ⟨sp, hspe⟩ : ∃ z, spanJ (p.d.judges.getD k noJ) ps = z := ⟨_, rfl⟩
        have HNX : Hid (sk (k + 1) = (sk k).set k (max sp.1 (m - x - err), min sp.2 (m - x + err))) := Lib.hid (by
          rw [HSU.out k hlt, HSN.out _ m HMJ.out, HXD.out]
          have h1 := hspe
          rw [HXD.out] at h1
          rw [h1]
          unfold narrow1
          rw [if_neg hmq])
        rw [hspe] at HSP
        clear hsp hspe
        obtain ⟨s1, s2⟩ := sp
        dsimp only at HNX
        go_wp2_with fail
        go_quiet (fail)
        obtain ⟨W6, hW6⟩ : ∃ z, W5.drewN nq = z := ⟨_, rfl⟩
        have HG6 : Hid (Grow wr W6) := Lib.hid (by rw [← hW6]; exact Below.drewN_ HG5.out _)
        have BY6 : Hid (BlockIs W6 bb 107 (cellsB (sk k))) := Lib.hid (by rw [← hW6]; exact BY5.out.drewN _)
        rw [hW6]
        clear hW6 BY5 HJ5 hjc hmc5
        have HMAX : Hid (max s1 (m - x - err) = max s1 (m - x - err)) := rfl
        obtain ⟨nl, hnl⟩ : ∃ z, max s1 (m - x - err) = z := ⟨_, rfl⟩
        obtain ⟨nh, hnh⟩ : ∃ z, min s2 (m - x + err) = z := ⟨_, rfl⟩
        rw [hnl, hnh] at HNX
        obtain ⟨low, hlow⟩ : ∃ z, m - x - err = z := ⟨_, rfl⟩
        obtain ⟨high, hhigh⟩ : ∃ z, m - x + err = z := ⟨_, rfl⟩
        rw [hlow] at hnl ⊢
        rw [hhigh] at hnh ⊢
        have HNL := Lib.hid hnl
        have HNH := Lib.hid hnh
        clear hnl hnh hlow hhigh HMAX hw1 hw2 hw3
        go_upto_region 7 with fail
        refine wp_region_lit 15 [[], [], [(1, 43)], [(2, 44)], [(3, 45)], [], [(4, 46), (5, 47)], [], [(7, 49)], [(8, 50)], [(9, 51)], [], [(10, 52), (11, 53)], [(6, 48), (12, 54)], [(0, 42)]] Grow (fun qi v w' => match qi with
            | 0 => v = .int .i64 (k : Nat)
            | 1 => v = .int .i64 (k : Nat)
            | 2 => v = .pointer (some ⟨bb, k * 2, none⟩)
            | 3 => v = .pointer (some ⟨bb, k * 2, none⟩)
            | 4 => v = .int .i64 s1
            | 5 => v = .int .i64 low
            | 6 => v = .int .i64 nl
            | 7 => v = .int .i64 (k : Nat)
            | 8 => v = .pointer (some ⟨bb, k * 2, none⟩)
            | 9 => v = .pointer (some ⟨bb, k * 2 + 1, none⟩)
            | 10 => v = .int .i64 s2
            | 11 => v = .int .i64 high
            | 12 => v = .int .i64 nh
            | 13 => v = .agg #[.int .i64 nl, .int .i64 nh]
            | 14 => v = .pointer (some ⟨bb, k * 2, none⟩)
            | _ => False) (by kernel_rfl) (by kernel_rfl) (fun _ _ _ => Grow.trans) Grow.refl ?_ ?_ ?_
        · intro i v y y' h k
          match i, h with
          | 0, h | 1, h | 2, h | 3, h | 4, h | 5, h | 6, h | 7, h | 8, h | 9, h | 10, h | 11, h | 12, h | 13, h | 14, h => exact h
        · simp only [StepsLit, List.take_succ_cons, List.take_zero]
          refine ⟨?_, ?_, ?_, ?_, ?_, ?_, ?_, ?_, ?_, ?_, ?_, ?_, ?_, ?_, ?_, trivial⟩
          · intro w5b hR
            have hGw : Grow W6 w5b := hR.of_drew
            have HGW := Lib.hid hGw
            have hyc := (HGW.out.block BY6.out).cell
            obtain ⟨q0, q1⟩ := cellsB_at (sk k) (show k < 4 by omega)
            have hsp : (sk k)[k]?.getD (0, 0) = (s1, s2) := by rw [HSP.out]; rfl
            rw [hsp] at q0 q1
            have e0 := (hyc _).trans q0
            have e1 := (hyc _).trans q1
            clear hyc q0 q1 hsp
            clear hR hGw
            simp only [depV]
            try go_simp
            all_goals first
              | (with_reducible exact Grow.refl _)
              | (with_reducible exact ⟨Grow.refl _, rfl⟩)
          · intro w5b hR
            have hGw : Grow W6 w5b := hR.of_drew
            have HGW := Lib.hid hGw
            have hyc := (HGW.out.block BY6.out).cell
            obtain ⟨q0, q1⟩ := cellsB_at (sk k) (show k < 4 by omega)
            have hsp : (sk k)[k]?.getD (0, 0) = (s1, s2) := by rw [HSP.out]; rfl
            rw [hsp] at q0 q1
            have e0 := (hyc _).trans q0
            have e1 := (hyc _).trans q1
            clear hyc q0 q1 hsp
            clear hR hGw
            simp only [depV]
            try go_simp
            all_goals first
              | (with_reducible exact Grow.refl _)
              | (with_reducible exact ⟨Grow.refl _, rfl⟩)
          · intro w5b hR
            have hGw : Grow W6 w5b := hR.of_drew
            have HGW := Lib.hid hGw
            have hyc := (HGW.out.block BY6.out).cell
            obtain ⟨q0, q1⟩ := cellsB_at (sk k) (show k < 4 by omega)
            have hsp : (sk k)[k]?.getD (0, 0) = (s1, s2) := by rw [HSP.out]; rfl
            rw [hsp] at q0 q1
            have e0 := (hyc _).trans q0
            have e1 := (hyc _).trans q1
            clear hyc q0 q1 hsp
            clear hR hGw
            simp only [depV]
            rintro _ rfl
            try go_simp
            all_goals first
              | (with_reducible exact Grow.refl _)
              | (with_reducible exact ⟨Grow.refl _, rfl⟩)
          · intro w5b hR
            have hGw : Grow W6 w5b := hR.of_drew
            have HGW := Lib.hid hGw
            have hyc := (HGW.out.block BY6.out).cell
            obtain ⟨q0, q1⟩ := cellsB_at (sk k) (show k < 4 by omega)
            have hsp : (sk k)[k]?.getD (0, 0) = (s1, s2) := by rw [HSP.out]; rfl
            rw [hsp] at q0 q1
            have e0 := (hyc _).trans q0
            have e1 := (hyc _).trans q1
            clear hyc q0 q1 hsp
            clear hR hGw
            simp only [depV]
            rintro _ rfl
            try go_simp
            all_goals first
              | (with_reducible exact Grow.refl _)
              | (with_reducible exact ⟨Grow.refl _, rfl⟩)
          · intro w5b hR
            have hGw : Grow W6 w5b := hR.of_drew
            have HGW := Lib.hid hGw
            have hyc := (HGW.out.block BY6.out).cell
            obtain ⟨q0, q1⟩ := cellsB_at (sk k) (show k < 4 by omega)
            have hsp : (sk k)[k]?.getD (0, 0) = (s1, s2) := by rw [HSP.out]; rfl
            rw [hsp] at q0 q1
            have e0 := (hyc _).trans q0
            have e1 := (hyc _).trans q1
            clear hyc q0 q1 hsp
            clear hR hGw
            simp only [depV]
            rintro _ rfl
            try go_simp
            all_goals first
              | (with_reducible exact Grow.refl _)
              | (with_reducible exact ⟨Grow.refl _, rfl⟩)
          · intro w5b hR
            have hGw : Grow W6 w5b := hR.of_drew
            have HGW := Lib.hid hGw
            have hyc := (HGW.out.block BY6.out).cell
            obtain ⟨q0, q1⟩ := cellsB_at (sk k) (show k < 4 by omega)
            have hsp : (sk k)[k]?.getD (0, 0) = (s1, s2) := by rw [HSP.out]; rfl
            rw [hsp] at q0 q1
            have e0 := (hyc _).trans q0
            have e1 := (hyc _).trans q1
            clear hyc q0 q1 hsp
            clear hR hGw
            simp only [depV]
            try go_simp
            all_goals first
              | (with_reducible exact Grow.refl _)
              | (with_reducible exact ⟨Grow.refl _, rfl⟩)
          · intro w5b hR
            have hGw : Grow W6 w5b := hR.of_drew
            have HGW := Lib.hid hGw
            have hyc := (HGW.out.block BY6.out).cell
            obtain ⟨q0, q1⟩ := cellsB_at (sk k) (show k < 4 by omega)
            have hsp : (sk k)[k]?.getD (0, 0) = (s1, s2) := by rw [HSP.out]; rfl
            rw [hsp] at q0 q1
            have e0 := (hyc _).trans q0
            have e1 := (hyc _).trans q1
            clear hyc q0 q1 hsp
            clear hR hGw
            simp only [depV]
            rintro _ rfl
            rintro _ rfl
            try go_simp
            exact ⟨Grow.refl _, by have := HNL.out; first | omega | (split <;> omega)⟩
          · intro w5b hR
            have hGw : Grow W6 w5b := hR.of_drew
            have HGW := Lib.hid hGw
            have hyc := (HGW.out.block BY6.out).cell
            obtain ⟨q0, q1⟩ := cellsB_at (sk k) (show k < 4 by omega)
            have hsp : (sk k)[k]?.getD (0, 0) = (s1, s2) := by rw [HSP.out]; rfl
            rw [hsp] at q0 q1
            have e0 := (hyc _).trans q0
            have e1 := (hyc _).trans q1
            clear hyc q0 q1 hsp
            clear hR hGw
            simp only [depV]
            try go_simp
            all_goals first
              | (with_reducible exact Grow.refl _)
              | (with_reducible exact ⟨Grow.refl _, rfl⟩)
          · intro w5b hR
            have hGw : Grow W6 w5b := hR.of_drew
            have HGW := Lib.hid hGw
            have hyc := (HGW.out.block BY6.out).cell
            obtain ⟨q0, q1⟩ := cellsB_at (sk k) (show k < 4 by omega)
            have hsp : (sk k)[k]?.getD (0, 0) = (s1, s2) := by rw [HSP.out]; rfl
            rw [hsp] at q0 q1
            have e0 := (hyc _).trans q0
            have e1 := (hyc _).trans q1
            clear hyc q0 q1 hsp
            clear hR hGw
            simp only [depV]
            rintro _ rfl
            try go_simp
            all_goals first
              | (with_reducible exact Grow.refl _)
              | (with_reducible exact ⟨Grow.refl _, rfl⟩)
          · intro w5b hR
            have hGw : Grow W6 w5b := hR.of_drew
            have HGW := Lib.hid hGw
            have hyc := (HGW.out.block BY6.out).cell
            obtain ⟨q0, q1⟩ := cellsB_at (sk k) (show k < 4 by omega)
            have hsp : (sk k)[k]?.getD (0, 0) = (s1, s2) := by rw [HSP.out]; rfl
            rw [hsp] at q0 q1
            have e0 := (hyc _).trans q0
            have e1 := (hyc _).trans q1
            clear hyc q0 q1 hsp
            clear hR hGw
            simp only [depV]
            rintro _ rfl
            try go_simp
            all_goals first
              | (with_reducible exact Grow.refl _)
              | (with_reducible exact ⟨Grow.refl _, rfl⟩)
          · intro w5b hR
            have hGw : Grow W6 w5b := hR.of_drew
            have HGW := Lib.hid hGw
            have hyc := (HGW.out.block BY6.out).cell
            obtain ⟨q0, q1⟩ := cellsB_at (sk k) (show k < 4 by omega)
            have hsp : (sk k)[k]?.getD (0, 0) = (s1, s2) := by rw [HSP.out]; rfl
            rw [hsp] at q0 q1
            have e0 := (hyc _).trans q0
            have e1 := (hyc _).trans q1
            clear hyc q0 q1 hsp
            clear hR hGw
            simp only [depV]
            rintro _ rfl
            try go_simp
            all_goals first
              | (with_reducible exact Grow.refl _)
              | (with_reducible exact ⟨Grow.refl _, rfl⟩)
          · intro w5b hR
            have hGw : Grow W6 w5b := hR.of_drew
            have HGW := Lib.hid hGw
            have hyc := (HGW.out.block BY6.out).cell
            obtain ⟨q0, q1⟩ := cellsB_at (sk k) (show k < 4 by omega)
            have hsp : (sk k)[k]?.getD (0, 0) = (s1, s2) := by rw [HSP.out]; rfl
            rw [hsp] at q0 q1
            have e0 := (hyc _).trans q0
            have e1 := (hyc _).trans q1
            clear hyc q0 q1 hsp
            clear hR hGw
            simp only [depV]
            try go_simp
            all_goals first
              | (with_reducible exact Grow.refl _)
              | (with_reducible exact ⟨Grow.refl _, rfl⟩)
          · intro w5b hR
            have hGw : Grow W6 w5b := hR.of_drew
            have HGW := Lib.hid hGw
            have hyc := (HGW.out.block BY6.out).cell
            obtain ⟨q0, q1⟩ := cellsB_at (sk k) (show k < 4 by omega)
            have hsp : (sk k)[k]?.getD (0, 0) = (s1, s2) := by rw [HSP.out]; rfl
            rw [hsp] at q0 q1
            have e0 := (hyc _).trans q0
            have e1 := (hyc _).trans q1
            clear hyc q0 q1 hsp
            clear hR hGw
            simp only [depV]
            rintro _ rfl
            rintro _ rfl
            try go_simp
            exact ⟨Grow.refl _, by have := HNH.out; first | omega | (split <;> omega)⟩
          · intro w5b hR
            have hGw : Grow W6 w5b := hR.of_drew
            have HGW := Lib.hid hGw
            have hyc := (HGW.out.block BY6.out).cell
            obtain ⟨q0, q1⟩ := cellsB_at (sk k) (show k < 4 by omega)
            have hsp : (sk k)[k]?.getD (0, 0) = (s1, s2) := by rw [HSP.out]; rfl
            rw [hsp] at q0 q1
            have e0 := (hyc _).trans q0
            have e1 := (hyc _).trans q1
            clear hyc q0 q1 hsp
            clear hR hGw
            simp only [depV]
            rintro _ rfl
            rintro _ rfl
            try go_simp
            all_goals first
              | (with_reducible exact Grow.refl _)
              | (with_reducible exact ⟨Grow.refl _, rfl⟩)
          · intro w5b hR
            have hGw : Grow W6 w5b := hR.of_drew
            have HGW := Lib.hid hGw
            have hyc := (HGW.out.block BY6.out).cell
            obtain ⟨q0, q1⟩ := cellsB_at (sk k) (show k < 4 by omega)
            have hsp : (sk k)[k]?.getD (0, 0) = (s1, s2) := by rw [HSP.out]; rfl
            rw [hsp] at q0 q1
            have e0 := (hyc _).trans q0
            have e1 := (hyc _).trans q1
            clear hyc q0 q1 hsp
            clear hR hGw
            simp only [depV]
            rintro _ rfl
            try go_simp
            all_goals first
              | (with_reducible exact Grow.refl _)
              | (with_reducible exact ⟨Grow.refl _, rfl⟩)
        · intro w5b hR
          have HG5b : Hid (Grow W6 w5b) := Lib.hid hR.of_drew
          clear hR
          simp only [finVC, List.take_succ_cons, List.take_zero, List.drop_succ_cons, List.drop_zero]
          rintro _ rfl
          rintro _ rfl
          rintro _ rfl
          rintro _ rfl
          rintro _ rfl
          rintro _ rfl
          rintro _ rfl
          rintro _ rfl
          rintro _ rfl
          rintro _ rfl
          rintro _ rfl
          rintro _ rfl
          rintro _ rfl
          rintro _ rfl
          rintro _ rfl
          simp only [Act.put, List.setIfInBounds_toArray, List.set_cons_succ, List.set_cons_zero]
          rename World => W7
          have BY7 := Lib.hid (HG5b.out.block BY6.out)
          have HG7 : Hid (Grow wr W7) := Lib.hid (HG6.out.trans HG5b.out)
          have hyc := BY7.out.cell
          obtain ⟨q0, q1⟩ := cellsB_at (sk k) (show k < 4 by omega)
          have e0 := (hyc _).trans q0
          have e1 := (hyc _).trans q1
          have hz0 := BY7.out.frozen (k * 2)
          have hz1 := BY7.out.frozen (k * 2 + 1)
          clear hyc q0 q1
          go_wp2_with fail
          go_roundw
          case rel => exact ⟨k + 1, by omega, by go_num, by rw [HNX.out]; exact bias_store BY7.out (HLE.out k hkl) (by omega) (nl, nh), ((HG7.out.block HBS.out).far (p := ⟨bb, _, none⟩) (by show w.heap.size ≠ bb; omega) _).far (p := ⟨bb, _, none⟩) (by show w.heap.size ≠ bb; omega) _, ((HG7.out.block HBX.out).far (p := ⟨bb, _, none⟩) (by show bb + 1 ≠ bb; omega) _).far (p := ⟨bb, _, none⟩) (by show bb + 1 ≠ bb; omega) _,
            ((HBL.out.trans (Below.mono HG7.out HBL.out.size)).setCell (p := ⟨bb, _, none⟩) (by show w.heap.size ≤ bb; omega) _).setCell (p := ⟨bb, _, none⟩) (by show w.heap.size ≤ bb; omega) _⟩
          case measure => simp [intOf]; omega
    · obtain rfl : k = p.judges.length := by omega
      have hd : decide ((p.judges.length : Int) < (p.judges.length : Int)) = false := decide_eq_false (by omega)
      have hyc := HBY.out.cell
      have hz0 := HBX.out.frozen
      have hxc := HBX.out.cell
      go_wp2_with fail
      refine bodyPost_ret (results_bias Tryd.results70 _ _ _ _ (eight_stores HBX.out _ _ _ _ _ _ _ _) rfl) rfl ?_
      exact ⟨rfl, HBL.out.trans (eight_below (by omega) _ _ _ _ _ _ _ _)⟩

end Go.Proofs.YthehkgpnnndboaaDoor
