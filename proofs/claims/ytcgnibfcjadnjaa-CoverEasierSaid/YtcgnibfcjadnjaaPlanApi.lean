/- PlanApi: Plan, of a valid pool; written by wip/tools/planapi10.py. -/
import Derived.Test.YtcgnibfcjadnjaaPlanP
namespace Go.Proofs.Ytcgnibfcjadnjaa
open Go.RowKit

theorem trip_len {p : Pool} (G : Good p) (h : (planD p).isSome = true) : (tripL (planD p)).length = p.needs.length := by
  have h1 := best_is G p.needs.length 0 (fun i => if i < p.folk.length then p.most else 0) (by omega)
  unfold planD at h ⊢
  cases hb : bestD p p.needs.length 0 (fun i => if i < p.folk.length then p.most else 0) with
  | none => rw [hb] at h; cases h
  | some x =>
    rw [hb] at h1
    have := fits_len h1.1
    show x.2.length = _
    omega
theorem natsL_take_succ {l : List Nat} {k x : Nat} (h : l[k]? = some x) : natsL (l.take (k + 1)) = natsL (l.take k) ++ [(x : Int)] := by
  rw [List.take_add_one, h]
  simp [natsL]
theorem results_three {fn : Func} (h : fn.results = #[.tmp 2, .tmp 3, .tmp 4]) (t : Array Value) (W : World) (u v x : Value) (h2 : t.getD 2 undef = u) (h3 : t.getD 3 undef = v) (h4 : t.getD 4 undef = x) :
    (results fn t).run Try.prog W = .ok (.tuple #[u, v, x]) W := by
  simp only [results, h]
  simp at h2 h3 h4
  simp [go_sem, h2, h3, h4]
def planErr (b : PlanD) : Int := if b.isSome then 0 else 3

set_option maxRecDepth 100000 in
set_option maxHeartbeats 16000000 in
theorem planApi_any (h : PoolH) (p : Pool) (G : Good p) (hok : okPool p.i = true) (hs : Short p.i) (w : World) (hA : PoolAt w w.heap.size h p.i) :
    Calls Try.prog 25 #[poolN h p] w fun e w' => ∃ A cap, e = .returned (.tuple #[.slice A (tripL (planD p)).length cap, .int .i64 (tripC (planD p) : Nat), .int .i64 (planErr (planD p))]) ∧ Ints w' w'.heap.size A (natsL (tripL (planD p))) ∧ Below w.heap.size w w' := by
  obtain ⟨i0, hi, hz0, hz1, hz2⟩ := info_parts Try.infoInt
  have HR := Lib.hid (fun (w0 : World) (hw : Grow w w0) => read_any h p.i w0 (hA.grow hw) hs)
  have h1 : poolErr p.i = 0 := by unfold poolErr; rw [hok]; rfl
  have h2 : readCells h p.i = cellsN h p := by unfold readCells; rw [hok]; exact cells_i h p
  rw [h1, h2, pool_i] at HR
  have HP := Lib.hid (fun (w0 : World) (hw : Grow w w0) => planRun_any h p G w0 (hA.grow hw))
  have HLN := Lib.hid (trip_len G)
  have hn3 := G.n3
  have HER : Hid (planErr (planD p) = if (planD p).isSome then 0 else 3) := rfl
  have hbn : (planD p).isSome = false → tripL (planD p) = [] ∧ tripC (planD p) = 0 := fun h => by
    cases hb : planD p with
    | none => exact ⟨rfl, rfl⟩
    | some x => rw [hb] at h; cases h
  have HBN := Lib.hid hbn
  obtain ⟨b, hb⟩ : ∃ z, planD p = z := ⟨_, rfl⟩
  rw [hb] at HP HLN HER HBN ⊢
  rw [planC_pl] at HP
  obtain ⟨c, hc⟩ : ∃ z, tripC b = z := ⟨_, rfl⟩
  obtain ⟨l, hl⟩ : ∃ z, tripL b = z := ⟨_, rfl⟩
  obtain ⟨sf, hsf⟩ : ∃ z, b.isSome = z := ⟨_, rfl⟩
  rw [hc, hl, hsf] at HP
  rw [hl, hsf] at HLN
  rw [hsf] at HER
  rw [hsf, hl, hc] at HBN
  rw [hc, hl]
  obtain ⟨er, her⟩ : ∃ z, planErr b = z := ⟨_, rfl⟩
  rw [her] at HER ⊢
  have HPC : Hid (∀ w0, Grow w w0 → Calls Try.prog 53 #[poolN h p] w0 fun e w' => e = .returned (.agg #[.int .i64 (gAt 0 l 0 : Nat), .int .i64 (gAt 0 l 1 : Nat), .int .i64 (gAt 0 l 2 : Nat), .int .i64 (gAt 0 l 3 : Nat), .int .i64 (gAt 0 l 4 : Nat), .int .i64 (gAt 0 l 5 : Nat), .int .i64 (c : Nat), .bool sf]) ∧ Below w0.heap.size w0 w') := Lib.hid (fun w0 hw => HP.out w0 hw)
  clear h1 h2 hok hA hb hc hl hsf hbn her HP
  obtain ⟨fa, fc, na, nc⟩ := h
  go_enter Try.func25, Try.ntmps25
  go_upto_region 1 with fail
  obtain ⟨W, hW, hg, hf, hsz⟩ := one_block w 25 (cellsN ⟨fa, fc, na, nc⟩ p)
  rw [hW]
  clear hW
  have hcc := hf.cell
  have HG := Lib.hid hg
  clear hf hg
  go_wp2_with fail
  refine (HR.out W HG.out).mono ?_
  rintro e w1 ⟨rfl, hb1⟩
  have HG1 : Hid (Grow w w1) := Lib.hid (HG.out.trans hb1)
  clear hb1 hcc
  go_upto_region 4 with fail
  obtain ⟨W2, hW2, hg2, hf2, hsz2⟩ := one_block w1 73 (cellsN ⟨fa, fc, na, nc⟩ p)
  rw [hW2]
  clear hW2
  have hcc := hf2.cell
  have HB2 := Lib.hid hf2
  have HG2 : Hid (Grow w W2) := Lib.hid (HG1.out.trans hg2)
  clear hf2 hg2
  go_wp2_with fail
  refine (HPC.out W2 HG2.out).mono ?_
  rintro e w3 ⟨rfl, hb3⟩
  have HG3 : Hid (Grow w w3) := Lib.hid (HG2.out.trans hb3)
  have HB3 := Lib.hid ((show Grow W2 w3 from hb3).block HB2.out)
  clear hb3 hcc
  go_upto_region 5 with fail
  obtain ⟨W4, hW4, hg4, hf4, hsz4⟩ := one_block w3 89 #[.int .i64 (gAt 0 l 0 : Nat), .int .i64 (gAt 0 l 1 : Nat), .int .i64 (gAt 0 l 2 : Nat), .int .i64 (gAt 0 l 3 : Nat), .int .i64 (gAt 0 l 4 : Nat), .int .i64 (gAt 0 l 5 : Nat), .int .i64 (c : Nat), .bool sf]
  rw [hW4]
  clear hW4
  have HP4 := Lib.hid hf4
  have HG4 : Hid (Grow w W4) := Lib.hid (HG3.out.trans hg4)
  have HB4 := Lib.hid (hg4.block HB3.out)
  clear hf4 hg4
  have hpc := HP4.out.cell
  cases sf with
  | false =>
    obtain ⟨rfl, rfl⟩ := HBN.out rfl
    obtain rfl : er = 3 := by rw [HER.out]; rfl
    go_wp2
    refine bodyPost_ret (results_three Try.results25 _ _ _ _ _ rfl rfl rfl) rfl ?_
    exact ⟨none, ⟨0, rfl⟩, .inl rfl, HG4.out⟩
  | true =>
    obtain rfl : er = 0 := by rw [HER.out]; rfl
    have hln : l.length = p.needs.length := HLN.out rfl
    go_upto_region 7 with fail
    clear hpc
    have hcc := HB4.out.cell
    go_wp2_with fail
    clear hcc
    go_loopw [2, 25] (fun lv iv wr => ∃ (k : Nat) (A : Option Addr) (cap : Nat), k ≤ p.needs.length ∧ lv = .slice A k cap ∧ iv = .int .i64 (k : Nat) ∧ Hid (wr.ownsRow W4.heap.size 3 1 (.slice A k cap) k ((natsL (l.take k)).map (Value.int .i64))) ∧ Hid (Grow W4 wr)) (fun _ iv _ => p.needs.length - (intOf iv).toNat)
    case atStart => exact ⟨0, none, 0, Nat.zero_le _, rfl, rfl, Lib.hid ⟨rfl, .inl ⟨rfl, rfl⟩⟩, Lib.hid (Grow.refl _)⟩
    case round =>
      obtain ⟨k, A, cap, hk, rfl, rfl, HOW, HGR⟩ := hrel
      rename World => wr
      by_cases hlt : k < p.needs.length
      · have hd : decide ((k : Int) < (p.needs.length : Int)) = true := decide_eq_true (by omega)
        have h00 : (0 : Int) ≤ (k : Int) := by omega
        have hk6 : (k : Int) < 6 := by omega
        have hx : l[k]? = some (gAt 0 l k) := by
          unfold gAt
          rw [if_neg (by omega), Nat.sub_zero, List.getD_eq_getElem?_getD, List.getElem?_eq_getElem (by omega)]
          rfl
        have HTS := Lib.hid (natsL_take_succ hx)
        have hcell : wr.cell? ⟨w3.heap.size, k, none⟩ = some (.int .i64 (gAt 0 l k : Nat)) := by
          rw [(HGR.out.block HP4.out).cell]
          exact plC_at (s := 0) (c := c) (sf := true) (by omega)
        have hcell2 : wr.cell? ⟨w3.heap.size, 0 + k, none⟩ = some (.int .i64 (gAt 0 l k : Nat)) := by rw [Nat.zero_add]; exact hcell
        obtain ⟨xv, hxv⟩ : ∃ z, gAt 0 l k = z := ⟨_, rfl⟩
        rw [hxv] at hcell hcell2 HTS
        obtain ⟨xs, hxs⟩ : ∃ z, natsL (l.take k) = z := ⟨_, rfl⟩
        rw [hxs] at HOW HTS
        have HOA : Hid ((wr.alloc (.cells #[.int .i64 (xv : Nat)] 3)).ownsRow W4.heap.size 3 1 (.slice A k cap) k (xs.map (Value.int .i64))) := Lib.hid (own_grow HOW.out (Grow.alloc _ _))
        clear hx hxv hxs
        go_wp2_with (at_builtin; go_loud (refine wpList_append_own _ rfl _ _ 26 rfl W4.heap.size 3 i0 (.int .i64 0) 1 8 Try.underlying26 hi hz0 hz1 hz2 rfl (by omega) _ k (xs.map (Value.int .i64)) rfl ?d0 ⟨wr.heap.size, 0, none⟩ 1 1 [.int .i64 (xv : Nat)] rfl rfl ?d1 ?d2 ?d3 ?d4 ?d5 ?_))
        case d0 => exact HOA.out
        case d1 => exact news_one (BlockIs.new _ _ _)
        case d2 => simp [Value.oneCell']
        case d3 => unfold maxLen; omega
        case d4 => omega
        case d5 => have h1 := HGR.out.size; simp; omega
        intro v' wq hown hgr _
        obtain ⟨Aw, cw, rfl⟩ := own_form hown
        have HO3 : Hid (wq.ownsRow W4.heap.size 3 1 (.slice Aw (k + 1) cw) (k + 1) ((natsL (l.take (k + 1))).map (Value.int .i64))) := Lib.hid (by
          rw [HTS.out, List.map_append]
          exact hown)
        have HGQ : Hid (Grow W4 wq) := Lib.hid (below_grown (HGR.out.trans (Grow.alloc _ _)) HOA.out hgr (by have h1 := HGR.out.size; simp; omega))
        clear hown hgr HOA
        go_wp2
        go_roundw
        case rel => exact ⟨k + 1, Aw, cw, by omega, rfl, by go_num, HO3, HGQ⟩
        case measure => simp [intOf]; omega
      · obtain rfl : k = p.needs.length := by omega
        have hd : decide ((p.needs.length : Int) < (p.needs.length : Int)) = false := decide_eq_false (by omega)
        have HPX := Lib.hid (HGR.out.block HP4.out)
        have e6 : wr.cell? ⟨w3.heap.size, 6, none⟩ = some (.int .i64 (c : Nat)) := HPX.out.cell 6
        have HOL : Hid (wr.ownsRow W4.heap.size 3 1 (.slice A l.length cap) l.length ((natsL l).map (Value.int .i64))) := Lib.hid (by
          have h := HOW.out
          rw [← hln, List.take_length] at h
          exact h)
        rw [← hln]
        go_upto_region 12 with fail
        go_quiet (fail)
        generalize hwd : World.drewN wr _ = wd
        have HGD : Hid (Grow wr wd) := Lib.hid (by rw [← hwd]; exact Below.drewN_ (Grow.refl wr) _)
        clear hwd
        go_wp2
        refine bodyPost_ret (results_three Try.results25 _ _ _ _ _ rfl rfl rfl) rfl ?_
        exact ⟨A, cap, rfl, (own_ints (own_grow HOL.out HGD.out)).1, HG4.out.trans (HGR.out.trans HGD.out)⟩

end Go.Proofs.Ytcgnibfcjadnjaa
