/- BestP: the cheapest watch for the slots that are left, as the program finds it; written by wip/tools/bestp10.py. -/
import Derived.Test.YtcgnibfcjadnjaaBestM
namespace Go.Proofs.Ytcgnibfcjadnjaa
open Go.RowKit
open Go.ChangeMaps (setBlock)

theorem results_best {fn : Func} (h : fn.results = #[.cell 4 89]) (t : Array Value) (W : World) (b : Nat) (v0 v1 v2 v3 v4 v5 v6 v7 : Value)
    (hb : BlockIs W b 89 #[v0, v1, v2, v3, v4, v5, v6, v7]) (ht : t.getD 4 undef = .pointer (some ⟨b, 0, none⟩)) :
    (results fn t).run Try.prog W = .ok (.agg #[v0, v1, v2, v3, v4, v5, v6, v7]) W := by
  have hc := hb.cell
  simp only [results, h]
  simp at ht
  simp [go_sem, ht, hc]
theorem plC_at {s c : Nat} {l : List Nat} {sf : Bool} {i : Nat} (hi : i < 6) : (plC s c l sf)[i]? = some (.int .i64 (gAt s l i : Nat)) := by
  match i, hi with
  | 0, _ | 1, _ | 2, _ | 3, _ | 4, _ | 5, _ => rfl
theorem trip_eq (b : PlanD) : b = if b.isSome then some (tripC b, tripL b) else none := by cases b <;> rfl
/-- what stands while the groups of a slot are tried -/
abbrev BestI (w : World) (h : PoolH) (p : Pool) (ga : Option Addr) (gc mb s bb : Nat) (left : Nat → Nat) (L : List KnR) (wr : World) (b : PlanD) (Lk : List KnR) : Prop :=
  BlockIs wr w.heap.size 109 (cellsG h p ga p.needs.length gc mb) ∧ BlockIs wr (w.heap.size + 1) 112 (restC s left) ∧ BlockIs wr (w.heap.size + 1 + 1) 89 zeroPl ∧ BlockIs wr bb 89 (planC s b) ∧ KeepX mb w wr ∧ PlanAt wr w.heap.size h p ga mb Lk ∧ ∀ y, y ∈ Lk → y ∈ L ∨ s + 1 ≤ y.s

set_option maxRecDepth 100000 in
set_option maxHeartbeats 16000000 in
theorem best_any (h : PoolH) (p : Pool) (G : Good p) (ga : Option Addr) (gc mb : Nat) : ∀ (m s : Nat) (left : Nat → Nat) (L : List KnR) (w : World), s + m = p.needs.length → (∀ i, i < 8 → left i ≤ 1000) → PlanAt w w.heap.size h p ga mb L →
    Calls Try.prog 74 #[plannerV h p ga p.needs.length gc mb, restV s left] w fun e w' => e = .returned (.agg (planC s (bestD p m s left))) ∧ KeepX mb w w' ∧ ∃ L', PlanAt w' w.heap.size h p ga mb L' ∧ ∀ y, y ∈ L' → y ∈ L ∨ s ≤ y.s := by
  intro m
  induction m with
  | zero =>
    intro s left L w hs hl hP
    have HP := Lib.hid hP
    have hq : ((s : Int) == (p.needs.length : Int)) = true := by rw [beq_iff_eq]; omega
    have HE : Hid (planC s (bestD p 0 s left) = _) := Lib.hid (plC_end s)
    obtain ⟨PO, hPO⟩ : ∃ z : Ending → World → Prop, (fun e w' => e = Ending.returned (.agg (planC s (bestD p 0 s left))) ∧ KeepX mb w w' ∧ ∃ L', PlanAt w' w.heap.size h p ga mb L' ∧ ∀ y, y ∈ L' → y ∈ L ∨ s ≤ y.s) = z := ⟨_, rfl⟩
    have HPO : Hid (∀ w', KeepX mb w w' → PlanAt w' w.heap.size h p ga mb L → PO (Ending.returned (.agg #[.int .i64 0, .int .i64 0, .int .i64 0, .int .i64 0, .int .i64 0, .int .i64 0, .int .i64 0, .bool true])) w') := Lib.hid (fun w' h1 h2 => by rw [← hPO]; exact ⟨by rw [HE.out], h1, L, h2, fun y hy => .inl hy⟩)
    rw [hPO]
    clear hP hPO hs hl
    obtain ⟨fa, fc, na, nc⟩ := h
    go_enter Try.func74, Try.ntmps74
    go_upto_region 1 with fail
    obtain ⟨W, hW, hg, hf, hr, hz, hsz⟩ := three_blocks w 109 112 89 (cellsG ⟨fa, fc, na, nc⟩ p ga p.needs.length gc mb) (restC s left) zeroPl
    rw [hW]
    clear hW
    have hfc := hf.cell
    have e0 : W.cell? ⟨w.heap.size + 1, 0, none⟩ = some (.int .i64 (s : Nat)) := hr.cell 0
    have hzf := hz.frozen
    have hzc := hz.cell
    have O5 := Lib.hid (only8 W (w.heap.size + 1 + 1) (.int .i64 0) (.int .i64 0) (.int .i64 0) (.int .i64 0) (.int .i64 0) (.int .i64 0) (.int .i64 0) (.bool true))
    have H5 := Lib.hid (stores8 hz (.int .i64 0) (.int .i64 0) (.int .i64 0) (.int .i64 0) (.int .i64 0) (.int .i64 0) (.int .i64 0) (.bool true))
    have HN := Lib.hid (HPO.out _ (O5.out.keepX (.of_grow hg) (by omega)) ((HP.out.grow hg).only O5.out (by omega) (known_ne (HP.out.grow hg).known hz)))
    clear hf hr hg
    go_wp2
    exact bodyPost_ret (results_best Try.results74 _ _ _ _ _ _ _ _ _ _ _ H5.out rfl) rfl HN.out
  | succ m ih =>
    intro s left L w hs hl hP
    have hn3 := G.n3
    have hsn : s < p.needs.length := by omega
    have hs6 : s < 6 := by omega
    have hq : ((s : Int) == (p.needs.length : Int)) = false := by rw [beq_eq_false_iff_ne]; omega
    have HP := Lib.hid hP
    have HLF := Lib.hid hl
    obtain ⟨next, hnext⟩ : ∃ z, bestD p m (s + 1) = z := ⟨_, rfl⟩
    obtain ⟨row, hrow⟩ : ∃ z, coveringD p s = z := ⟨_, rfl⟩
    have HBD : Hid (bestD p (m + 1) s left = bestTo p next m left row none) := Lib.hid (by rw [← hnext, ← hrow]; rfl)
    have HR32 : Hid (∀ g, g ∈ row → g < 32) := Lib.hid (fun g hg => sub_32 (able_32 G s) ((covering_all p s).1 g (by rw [hrow]; exact hg)).1)
    have HCAP : Hid (p.needs.length - (s + 1) = m) := Lib.hid (by omega)
    obtain ⟨PO, hPO⟩ : ∃ z : Ending → World → Prop, (fun e w' => e = Ending.returned (.agg (planC s (bestD p (m + 1) s left))) ∧ KeepX mb w w' ∧ ∃ L', PlanAt w' w.heap.size h p ga mb L' ∧ ∀ y, y ∈ L' → y ∈ L ∨ s ≤ y.s) = z := ⟨_, rfl⟩
    have HPO : Hid (∀ w' v L', v = planC s (bestD p (m + 1) s left) → KeepX mb w w' → PlanAt w' w.heap.size h p ga mb L' → (∀ y, y ∈ L' → y ∈ L ∨ s ≤ y.s) → PO (Ending.returned (.agg v)) w') := Lib.hid (fun w' v L' h0 h1 h2 h3 => by rw [← hPO]; exact ⟨by rw [h0], h1, L', h2, h3⟩)
    have HIH : Hid (∀ (f : Nat → Nat) (Lk : List KnR) (w0 : World), (∀ i, i < 8 → f i ≤ 1000) → PlanAt w0 w0.heap.size h p ga mb Lk → Calls Try.prog 74 #[plannerV h p ga p.needs.length gc mb, restV (s + 1) f] w0 fun e w' => e = .returned (.agg (planC (s + 1) (next f))) ∧ KeepX mb w0 w' ∧ ∃ L', PlanAt w' w0.heap.size h p ga mb L' ∧ ∀ y, y ∈ L' → y ∈ Lk ∨ s + 1 ≤ y.s) := Lib.hid (fun f Lk w0 h1 h2 => by rw [← hnext]; exact ih (s + 1) f Lk w0 (by omega) h1 h2)
    have HAF := Lib.hid (fun (g : Nat) (hg : g < 32) (w0 : World) => after_any h p G ga p.needs.length gc mb s g left w0 hsn (by omega) hl)
    have HCOST := Lib.hid (fun (g : Nat) (hg : g < 32) (w0 : World) (hA : PoolAt w0 w0.heap.size h p.i) => cost_any h p G g w0 hA (by omega))
    have HCB : Hid (∀ f, tripC (next f) ≤ 15000) := Lib.hid (fun f => by rw [← hnext]; exact best_cost G (by omega))
    have HCG : Hid (∀ g, costD p g ≤ 5000) := Lib.hid (fun g => by have h1 := costTo_le G g p.folk.length; have h2 := G.f5; unfold costD; omega)
    have HGET : Hid (∀ j y, findK s left L = some (j, y) → y.s = s ∧ y.v = bestD p (m + 1) s left) := Lib.hid (fun j y hy => by
      obtain ⟨h1, h2, h3⟩ := findK_some hy
      obtain ⟨_, h5⟩ := HP.out.ok y h1
      refine ⟨h2.symm, ?_⟩
      rw [h5, ← h2, show p.needs.length - s = m + 1 by omega]
      exact bestD_congr p (m + 1) s y.f left fun i hi => (toL_inj h3 i hi).symm)
    obtain ⟨gb, goff, ra, rc, hga, hgbl, hrc, hri⟩ := covers_at hP.rows hsn
    obtain rfl : ga = _ := hga
    rw [hrow] at hrc hri
    have HRC := Lib.hid hrc
    have HRI := Lib.hid hri
    have hrl : row.length ≤ 32 := by
      rw [← hrow]
      have h1 := fold_len p s (subsL (ableD p s)) []
      have h2 := subs_len (ableD p s) (able_32 G s)
      unfold coveringD
      simp only [List.length_nil] at h1
      omega
    rw [hPO]
    clear hP hPO hl ih hnext hrow hrc hri
    obtain ⟨fa, fc, na, nc⟩ := h
    go_enter Try.func74, Try.ntmps74
    go_upto_region 1 with fail
    obtain ⟨W, hW, hg, hf, hr, hz, hsz⟩ := three_blocks w 109 112 89 (cellsG ⟨fa, fc, na, nc⟩ p (some ⟨gb, goff, none⟩) p.needs.length gc mb) (restC s left) zeroPl
    have hWs : W.heap.size = w.heap.size + 1 + 1 + 1 := by rw [← hW]; simp
    rw [hW]
    clear hW
    have HG := Lib.hid hg
    have HF := Lib.hid hf
    have HR := Lib.hid hr
    have HZ := Lib.hid hz
    have hfc := hf.cell
    have e0 : W.cell? ⟨w.heap.size + 1, 0, none⟩ = some (.int .i64 (s : Nat)) := HR.out.cell 0
    have e1 : W.cell? ⟨w.heap.size + 1, 1, none⟩ = some (.int .i64 (left 0 : Nat)) := HR.out.cell 1
    have e2 : W.cell? ⟨w.heap.size + 1, 2, none⟩ = some (.int .i64 (left 1 : Nat)) := HR.out.cell 2
    have e3 : W.cell? ⟨w.heap.size + 1, 3, none⟩ = some (.int .i64 (left 2 : Nat)) := HR.out.cell 3
    have e4 : W.cell? ⟨w.heap.size + 1, 4, none⟩ = some (.int .i64 (left 3 : Nat)) := HR.out.cell 4
    have e5 : W.cell? ⟨w.heap.size + 1, 5, none⟩ = some (.int .i64 (left 4 : Nat)) := HR.out.cell 5
    have e6 : W.cell? ⟨w.heap.size + 1, 6, none⟩ = some (.int .i64 (left 5 : Nat)) := HR.out.cell 6
    have e7 : W.cell? ⟨w.heap.size + 1, 7, none⟩ = some (.int .i64 (left 6 : Nat)) := HR.out.cell 7
    have e8 : W.cell? ⟨w.heap.size + 1, 8, none⟩ = some (.int .i64 (left 7 : Nat)) := HR.out.cell 8
    clear hf hr hg hz
    cases hfk : findK s left L with
    | some jy =>
      obtain ⟨j, y⟩ := jy
      obtain ⟨hy1, hy2⟩ := HGET.out j y hfk
      have hlk0 := run_lookupYes (HP.out.grow HG.out).known hfk
      rw [hy1, hy2, planC_pl] at hlk0
      obtain ⟨bd, hbd⟩ : ∃ z, bestD p (m + 1) s left = z := ⟨_, rfl⟩
      have HEQ : Hid (planC s (bestD p (m + 1) s left) = plC s (tripC bd) (tripL bd) bd.isSome) := Lib.hid (by rw [hbd]; exact planC_pl s bd)
      rw [hbd] at hlk0
      generalize tripC bd = c at hlk0 HEQ
      generalize tripL bd = l at hlk0 HEQ
      generalize bd.isSome = sf at hlk0 HEQ
      have hlk : (Instr.lookup 106 (.map (some mb)) (.agg #[.int .i64 (s : Nat), .int .i64 (left 0 : Nat), .int .i64 (left 1 : Nat), .int .i64 (left 2 : Nat), .int .i64 (left 3 : Nat), .int .i64 (left 4 : Nat), .int .i64 (left 5 : Nat), .int .i64 (left 6 : Nat), .int .i64 (left 7 : Nat)]) true).run Try.prog W = .ok (.tuple #[.agg #[.int .i64 (gAt s (l) 0 : Nat), .int .i64 (gAt s (l) 1 : Nat), .int .i64 (gAt s (l) 2 : Nat), .int .i64 (gAt s (l) 3 : Nat), .int .i64 (gAt s (l) 4 : Nat), .int .i64 (gAt s (l) 5 : Nat), .int .i64 (c : Nat), .bool sf], .bool true]) W := hlk0
      clear hlk0 hbd hfk hy1 hy2
      go_upto_region 4 with fail
      obtain ⟨W4, hW4, hg4, hf4, hsz4⟩ := one_block W 89 (plC s c l sf)
      have HZ4 := Lib.hid (hg4.block HZ.out)
      have zf := HZ4.out.frozen
      have zc := HZ4.out.cell
      have HG4 : Hid (Grow w W4) := Lib.hid (HG.out.trans hg4)
      have hW4' : W.alloc (.cells (#[.int .i64 (gAt s (l) 0 : Nat), .int .i64 (gAt s (l) 1 : Nat), .int .i64 (gAt s (l) 2 : Nat), .int .i64 (gAt s (l) 3 : Nat), .int .i64 (gAt s (l) 4 : Nat), .int .i64 (gAt s (l) 5 : Nat), .int .i64 (c : Nat), .bool sf]) 89) = W4 := hW4
      rw [hW4']
      have HX4 := Lib.hid hf4
      have O5 := Lib.hid (only8 W4 (w.heap.size + 1 + 1) (.int .i64 (gAt s (l) 0 : Nat)) (.int .i64 (gAt s (l) 1 : Nat)) (.int .i64 (gAt s (l) 2 : Nat)) (.int .i64 (gAt s (l) 3 : Nat)) (.int .i64 (gAt s (l) 4 : Nat)) (.int .i64 (gAt s (l) 5 : Nat)) (.int .i64 (c : Nat)) (.bool sf))
      have H5 := Lib.hid (stores8 HZ4.out (.int .i64 (gAt s (l) 0 : Nat)) (.int .i64 (gAt s (l) 1 : Nat)) (.int .i64 (gAt s (l) 2 : Nat)) (.int .i64 (gAt s (l) 3 : Nat)) (.int .i64 (gAt s (l) 4 : Nat)) (.int .i64 (gAt s (l) 5 : Nat)) (.int .i64 (c : Nat)) (.bool sf))
      have HN := Lib.hid (HPO.out _ _ L HEQ.out.symm (O5.out.keepX (.of_grow HG4.out) (by omega)) ((HP.out.grow HG4.out).only O5.out (by omega) (known_ne (HP.out.grow HG4.out).known HZ4.out)) (fun y hy => .inl hy))
      rw [hWs] at HX4
      obtain ⟨xb, hxb⟩ : ∃ z, w.heap.size + 1 + 1 + 1 = z := ⟨_, rfl⟩
      rw [hxb] at HX4 ⊢
      clear hWs hxb hsz4
      have q0 : W4.cell? ⟨xb, 0, none⟩ = some (.int .i64 (gAt s (l) 0 : Nat)) := HX4.out.cell 0
      have q1 : W4.cell? ⟨xb, 1, none⟩ = some (.int .i64 (gAt s (l) 1 : Nat)) := HX4.out.cell 1
      have q2 : W4.cell? ⟨xb, 2, none⟩ = some (.int .i64 (gAt s (l) 2 : Nat)) := HX4.out.cell 2
      have q3 : W4.cell? ⟨xb, 3, none⟩ = some (.int .i64 (gAt s (l) 3 : Nat)) := HX4.out.cell 3
      have q4 : W4.cell? ⟨xb, 4, none⟩ = some (.int .i64 (gAt s (l) 4 : Nat)) := HX4.out.cell 4
      have q5 : W4.cell? ⟨xb, 5, none⟩ = some (.int .i64 (gAt s (l) 5 : Nat)) := HX4.out.cell 5
      have q6 : W4.cell? ⟨xb, 6, none⟩ = some (.int .i64 (c : Nat)) := HX4.out.cell 6
      have q7 : W4.cell? ⟨xb, 7, none⟩ = some (.bool sf) := HX4.out.cell 7
      clear hW4 hW4' hg4 hf4 hlk hfc
      clear e0 e1 e2 e3 e4 e5 e6 e7 e8
      go_wp2
      exact bodyPost_ret (results_best Try.results74 _ _ _ _ _ _ _ _ _ _ _ H5.out rfl) rfl HN.out
    | none =>
      have HNO := Lib.hid (findK_none.1 hfk)
      have hlk : (Instr.lookup 106 (.map (some mb)) (.agg #[.int .i64 (s : Nat), .int .i64 (left 0 : Nat), .int .i64 (left 1 : Nat), .int .i64 (left 2 : Nat), .int .i64 (left 3 : Nat), .int .i64 (left 4 : Nat), .int .i64 (left 5 : Nat), .int .i64 (left 6 : Nat), .int .i64 (left 7 : Nat)]) true).run Try.prog W = .ok (.tuple #[.agg zeroPl, .bool false]) W := run_lookupNo (HP.out.grow HG.out).known hfk
      clear hfk
      go_upto_region 7 with fail
      obtain ⟨W5, hW5, hg5, hf5, hf6, hsz5⟩ := two_blocks W 89 89 zeroPl zeroPl
      rw [hW5]
      have HG5 : Hid (Grow w W5) := Lib.hid (HG.out.trans hg5)
      have HF5 := Lib.hid (hg5.block HF.out)
      have HR5 := Lib.hid (hg5.block HR.out)
      have HZ5 := Lib.hid (hg5.block HZ.out)
      have HY5 := Lib.hid hf6
      have hfc5 := HF5.out.cell
      have r0 : W5.cell? ⟨w.heap.size + 1, 0, none⟩ = some (.int .i64 (s : Nat)) := HR5.out.cell 0
      have hrcW : W5.cell? ⟨gb, goff + s, none⟩ = some (.slice ra row.length rc) := HG5.out.cell HRC.out
      have hbbs : w.heap.size + 1 + 1 < W.heap.size + 1 := by omega
      rw [hWs] at HY5 hbbs
      obtain ⟨bb, hbb⟩ : ∃ z, w.heap.size + 1 + 1 + 1 + 1 = z := ⟨_, rfl⟩
      rw [hbb] at HY5 hbbs ⊢
      have hs0 : (0 : Int) ≤ (s : Int) := by omega
      have hs1 : (s : Int) < (p.needs.length : Int) := by omega
      have hs6i : (s : Int) < 6 := by omega
      have hbb0 : w.heap.size ≠ bb := by omega
      have hbb1 : w.heap.size + 1 ≠ bb := by omega
      have hbb2 : w.heap.size + 1 + 1 ≠ bb := by omega
      have hbbw : w.heap.size ≤ bb := by omega
      clear hW5 hg5 hf5 hf6 hlk hfc hbb
      clear e0 e1 e2 e3 e4 e5 e6 e7 e8
      go_wp2_with fail
      clear hfc5 r0 hrcW
      go_loopw [38] (fun iv wr => ∃ (k : Nat) (b : PlanD) (Lk : List KnR), k ≤ row.length ∧ iv = .int .i64 (k : Nat) ∧ Hid (b = bestTo p next m left (row.take k) none) ∧ BestI w ⟨fa, fc, na, nc⟩ p (some ⟨gb, goff, none⟩) gc mb s bb left L wr b Lk) (fun iv _ => row.length - (intOf iv).toNat)
      case atStart => exact ⟨0, none, L, Nat.zero_le _, rfl, rfl, HF5.out, HR5.out, HZ5.out, HY5.out, .of_grow HG5.out, HP.out.grow HG5.out, fun y hy => .inl hy⟩
      case round =>
        obtain ⟨k, b, Lk, hk, rfl, HBT, hb1, hb2, hb3, hb4, hkx, hpl, hlk⟩ := hrel
        rename World => wr
        have HB1 := Lib.hid hb1
        have HR1 := Lib.hid hb2
        have HZ1 := Lib.hid hb3
        have HY1' := Lib.hid hb4
        have HK1 := Lib.hid hkx
        have HP1 := Lib.hid hpl
        have HLK := Lib.hid hlk
        have hbbm : mb ≠ bb := known_ne hpl.known hb4
        have HRI1 := Lib.hid (hkx.ints HP.out.known HRI.out)
        have HBX : Hid (planC s b = plC s (tripC b) (tripL b) b.isSome) := planC_pl s b
        have HBN : Hid (b = if b.isSome then some (tripC b, tripL b) else none) := trip_eq b
        have HY1 : Hid (BlockIs wr bb 89 (plC s (tripC b) (tripL b) b.isSome)) := Lib.hid (by rw [← HBX.out]; exact hb4)
        obtain ⟨cb, hcb⟩ : ∃ z, tripC b = z := ⟨_, rfl⟩
        obtain ⟨lb, hlb⟩ : ∃ z, tripL b = z := ⟨_, rfl⟩
        obtain ⟨sb, hsb⟩ : ∃ z, b.isSome = z := ⟨_, rfl⟩
        rw [hcb, hlb, hsb] at HBX HBN HY1
        clear hb1 hb2 hb3 hb4 hkx hpl hlk hcb hlb hsb HY1'
        have hfc := HB1.out.cell
        have e0 : wr.cell? ⟨w.heap.size + 1, 0, none⟩ = some (.int .i64 (s : Nat)) := HR1.out.cell 0
        have e1 : wr.cell? ⟨w.heap.size + 1, 1, none⟩ = some (.int .i64 (left 0 : Nat)) := HR1.out.cell 1
        have e2 : wr.cell? ⟨w.heap.size + 1, 2, none⟩ = some (.int .i64 (left 1 : Nat)) := HR1.out.cell 2
        have e3 : wr.cell? ⟨w.heap.size + 1, 3, none⟩ = some (.int .i64 (left 2 : Nat)) := HR1.out.cell 3
        have e4 : wr.cell? ⟨w.heap.size + 1, 4, none⟩ = some (.int .i64 (left 3 : Nat)) := HR1.out.cell 4
        have e5 : wr.cell? ⟨w.heap.size + 1, 5, none⟩ = some (.int .i64 (left 4 : Nat)) := HR1.out.cell 5
        have e6 : wr.cell? ⟨w.heap.size + 1, 6, none⟩ = some (.int .i64 (left 5 : Nat)) := HR1.out.cell 6
        have e7 : wr.cell? ⟨w.heap.size + 1, 7, none⟩ = some (.int .i64 (left 6 : Nat)) := HR1.out.cell 7
        have e8 : wr.cell? ⟨w.heap.size + 1, 8, none⟩ = some (.int .i64 (left 7 : Nat)) := HR1.out.cell 8
        by_cases hlt : k < row.length
        · have hd : decide ((k : Int) < (row.length : Int)) = true := decide_eq_true (by omega)
          have hk0 : (0 : Int) ≤ (k : Int) := by omega
          have hk1 : (k : Int) < (row.length : Int) := by omega
          obtain ⟨ib, io, g, rfl, hib, hic, HX⟩ := ints_nat HRI1.out hlt
          have hg32 := HR32.out g (List.mem_of_getElem? HX.out)
          have HSN0 := Lib.hid (bestTo_snoc p next m left HX.out none)
          rw [← HBT.out] at HSN0
          have HSN1 : Hid (bestTo p next m left (row.take (k + 1)) none = if roomB 8 g left then lessP b ((next (afterD g m left)).map fun x => (x.1 + costD p g, g :: x.2)) else b) := HSN0
          have HAG := Lib.hid (fun w0 => HAF.out g hg32 w0)
          rw [HCAP.out] at HAG
          have HCO0 := Lib.hid (fun w0 hA => HCOST.out g hg32 w0 hA)
          have hcg := HCG.out g
          obtain ⟨cg, hcgd⟩ : ∃ z, costD p g = z := ⟨_, rfl⟩
          rw [hcgd] at HCO0 hcg HSN1
          obtain ⟨rm, hrm⟩ : ∃ z, roomB 8 g left = z := ⟨_, rfl⟩
          rw [hrm] at HSN1 HAG
          clear hcgd hrm HSN0
          cases rm with
          | false =>
            have HN : Hid (bestTo p next m left (row.take (k + 1)) none = b) := Lib.hid (by rw [HSN1.out]; rfl)
            have HAC : Hid (∀ w0, Calls Try.prog 87 #[plannerV ⟨fa, fc, na, nc⟩ p (some ⟨gb, goff, none⟩) p.needs.length gc mb, .agg #[.int .i64 (s : Nat), .int .i64 (left 0 : Nat), .int .i64 (left 1 : Nat), .int .i64 (left 2 : Nat), .int .i64 (left 3 : Nat), .int .i64 (left 4 : Nat), .int .i64 (left 5 : Nat), .int .i64 (left 6 : Nat), .int .i64 (left 7 : Nat)], .int .i64 (g : Nat)] w0 fun e w' => e = .returned (.tuple #[.agg zeroR, .bool false]) ∧ Below w0.heap.size w0 w') := Lib.hid (fun w0 => (HAG.out w0).mono fun e w' hh => ⟨hh.2.1 rfl, hh.2.2⟩)
            go_wp2_with fail
            refine (HAC.out _).mono ?_
            rintro e w5 ⟨rfl, hb5⟩
            have HG5' : Hid (Grow wr w5) := hb5
            clear hb5 hfc
            clear e0 e1 e2 e3 e4 e5 e6 e7 e8
            go_wp2
            have hga : Grow wr (w5.alloc (.cells zeroR 112)) := HG5'.out.trans (Grow.alloc _ _)
            go_roundw
            case rel => exact ⟨k + 1, b, Lk, by omega, by go_num, HN.out.symm, hga.block HB1.out, hga.block HR1.out, hga.block HZ1.out, by rw [HBX.out]; exact hga.block HY1.out, HK1.out.grow hga, HP1.out.grow hga, HLK.out⟩
            case measure => simp [intOf]; omega
          | true =>
            obtain ⟨f, hf⟩ : ∃ z, afterD g m left = z := ⟨_, rfl⟩
            have HFL : Hid (∀ i, i < 8 → f i ≤ 1000) := Lib.hid (fun i hi => by have := HLF.out i hi; rw [← hf]; unfold afterD; omega)
            have HAC : Hid (∀ w0, Calls Try.prog 87 #[plannerV ⟨fa, fc, na, nc⟩ p (some ⟨gb, goff, none⟩) p.needs.length gc mb, .agg #[.int .i64 (s : Nat), .int .i64 (left 0 : Nat), .int .i64 (left 1 : Nat), .int .i64 (left 2 : Nat), .int .i64 (left 3 : Nat), .int .i64 (left 4 : Nat), .int .i64 (left 5 : Nat), .int .i64 (left 6 : Nat), .int .i64 (left 7 : Nat)], .int .i64 (g : Nat)] w0 fun e w' => e = .returned (.tuple #[.agg #[.int .i64 ((s : Int) + 1), .int .i64 (f 0 : Nat), .int .i64 (f 1 : Nat), .int .i64 (f 2 : Nat), .int .i64 (f 3 : Nat), .int .i64 (f 4 : Nat), .int .i64 (f 5 : Nat), .int .i64 (f 6 : Nat), .int .i64 (f 7 : Nat)], .bool true]) ∧ Below w0.heap.size w0 w') := Lib.hid (fun w0 => (HAG.out w0).mono fun e w' hh => ⟨by rw [← hf]; exact hh.1 rfl, hh.2.2⟩)
            rw [hf] at HSN1
            have hcbn := HCB.out f
            have HIF := Lib.hid (fun w0 hp => HIH.out f Lk w0 HFL.out hp)
            obtain ⟨nx, hnx⟩ : ∃ z, next f = z := ⟨_, rfl⟩
            rw [hnx] at HSN1 hcbn HIF
            have HNX0 : Hid (nx = if nx.isSome then some (tripC nx, tripL nx) else none) := trip_eq nx
            have HIC : Hid (∀ w0, PlanAt w0 w0.heap.size ⟨fa, fc, na, nc⟩ p (some ⟨gb, goff, none⟩) mb Lk → Calls Try.prog 74 #[plannerV ⟨fa, fc, na, nc⟩ p (some ⟨gb, goff, none⟩) p.needs.length gc mb, .agg #[.int .i64 ((s : Int) + 1), .int .i64 (f 0 : Nat), .int .i64 (f 1 : Nat), .int .i64 (f 2 : Nat), .int .i64 (f 3 : Nat), .int .i64 (f 4 : Nat), .int .i64 (f 5 : Nat), .int .i64 (f 6 : Nat), .int .i64 (f 7 : Nat)]] w0 fun e w' => e = .returned (.agg #[.int .i64 (gAt (s + 1) (tripL nx) 0 : Nat), .int .i64 (gAt (s + 1) (tripL nx) 1 : Nat), .int .i64 (gAt (s + 1) (tripL nx) 2 : Nat), .int .i64 (gAt (s + 1) (tripL nx) 3 : Nat), .int .i64 (gAt (s + 1) (tripL nx) 4 : Nat), .int .i64 (gAt (s + 1) (tripL nx) 5 : Nat), .int .i64 (tripC nx : Nat), .bool nx.isSome]) ∧ KeepX mb w0 w' ∧ ∃ L', PlanAt w' w0.heap.size ⟨fa, fc, na, nc⟩ p (some ⟨gb, goff, none⟩) mb L' ∧ ∀ y, y ∈ L' → y ∈ Lk ∨ s + 1 ≤ y.s) := Lib.hid (fun w0 hp => (HIF.out w0 hp).mono fun e w' hh => ⟨by rw [hh.1, planC_pl]; rfl, hh.2⟩)
            obtain ⟨c, hc⟩ : ∃ z, tripC nx = z := ⟨_, rfl⟩
            obtain ⟨l, hl'⟩ : ∃ z, tripL nx = z := ⟨_, rfl⟩
            obtain ⟨sf, hsf⟩ : ∃ z, nx.isSome = z := ⟨_, rfl⟩
            rw [hc, hl', hsf] at HIC HNX0
            rw [hc] at hcbn
            have HSN : Hid (bestTo p next m left (row.take (k + 1)) none = lessP b (nx.map fun x => (x.1 + cg, g :: x.2))) := Lib.hid (by rw [HSN1.out]; rfl)
            have HNX := HNX0
            clear hf hnx hc hl' hsf HIF HNX0 HSN1 HAG
            go_wp2_with fail
            refine (HAC.out _).mono ?_
            rintro e w5 ⟨rfl, hb5⟩
            have HG5' : Hid (Grow wr w5) := hb5
            clear hb5 hfc
            clear e0 e1 e2 e3 e4 e5 e6 e7 e8
            go_upto_region 11 with fail
            obtain ⟨w6, hw6, hg6, hf6, hsz6⟩ := one_block w5 112 (restC (s + 1) f)
            have hw6' : w5.alloc (.cells (#[.int .i64 ((s : Int) + 1), .int .i64 (f 0 : Nat), .int .i64 (f 1 : Nat), .int .i64 (f 2 : Nat), .int .i64 (f 3 : Nat), .int .i64 (f 4 : Nat), .int .i64 (f 5 : Nat), .int .i64 (f 6 : Nat), .int .i64 (f 7 : Nat)]) 112) = w6 := hw6
            rw [hw6']
            have HG6 : Hid (Grow wr w6) := Lib.hid (HG5'.out.trans hg6)
            have HT6 := Lib.hid hf6
            obtain ⟨tb, htb⟩ : ∃ z, w5.heap.size = z := ⟨_, rfl⟩
            rw [htb] at HT6 ⊢
            clear hw6 hw6' hg6 hf6 htb
            have hfc6 := (HG6.out.block HB1.out).cell
            have e0 : w6.cell? ⟨tb, 0, none⟩ = some (.int .i64 ((s : Int) + 1)) := HT6.out.cell 0
            have e1 : w6.cell? ⟨tb, 1, none⟩ = some (.int .i64 (f 0 : Nat)) := HT6.out.cell 1
            have e2 : w6.cell? ⟨tb, 2, none⟩ = some (.int .i64 (f 1 : Nat)) := HT6.out.cell 2
            have e3 : w6.cell? ⟨tb, 3, none⟩ = some (.int .i64 (f 2 : Nat)) := HT6.out.cell 3
            have e4 : w6.cell? ⟨tb, 4, none⟩ = some (.int .i64 (f 3 : Nat)) := HT6.out.cell 4
            have e5 : w6.cell? ⟨tb, 5, none⟩ = some (.int .i64 (f 4 : Nat)) := HT6.out.cell 5
            have e6 : w6.cell? ⟨tb, 6, none⟩ = some (.int .i64 (f 5 : Nat)) := HT6.out.cell 6
            have e7 : w6.cell? ⟨tb, 7, none⟩ = some (.int .i64 (f 6 : Nat)) := HT6.out.cell 7
            have e8 : w6.cell? ⟨tb, 8, none⟩ = some (.int .i64 (f 7 : Nat)) := HT6.out.cell 8
            go_wp2_with fail
            refine (HIC.out _ ((HP1.out.grow HG6.out).more (by have := HK1.out.size; have := HG6.out.size; omega))).mono ?_
            rintro e w7 ⟨rfl, hkx7, Ln, hpl7, hln7⟩
            have HKX7 := Lib.hid hkx7
            have HM6 := Lib.hid (HP1.out.grow HG6.out).known
            have HLN : Hid (∀ y, y ∈ Ln → y ∈ L ∨ s + 1 ≤ y.s) := Lib.hid (fun y hy => by
              rcases hln7 y hy with h1 | h1
              · exact HLK.out y h1
              · exact .inr h1)
            have HP7 : Hid (PlanAt w7 w.heap.size ⟨fa, fc, na, nc⟩ p (some ⟨gb, goff, none⟩) mb Ln) := Lib.hid ((HP1.out.grow HG6.out).keep hkx7 hpl7.known hpl7.ok)
            have HB7 := Lib.hid (hkx7.blk HM6.out (HG6.out.block HB1.out))
            have HR7 := Lib.hid (hkx7.blk HM6.out (HG6.out.block HR1.out))
            have HZ7 := Lib.hid (hkx7.blk HM6.out (HG6.out.block HZ1.out))
            have HY7 := Lib.hid (hkx7.blk HM6.out (HG6.out.block HY1.out))
            have HK7 : Hid (KeepX mb w w7) := Lib.hid ((HK1.out.grow HG6.out).trans hkx7)
            have hz7 : w.heap.size + 1 + 1 < w7.heap.size ∧ bb < w7.heap.size := ⟨HZ7.out.lt, HY7.out.lt⟩
            clear hkx7 hpl7 hln7 hfc6
            clear e0 e1 e2 e3 e4 e5 e6 e7 e8
            go_upto_region 13 with fail
            obtain ⟨w8, hw8, hg8, hf8, hsz8⟩ := one_block w7 89 (plC (s + 1) c l sf)
            have hw8' : w7.alloc (.cells (#[.int .i64 (gAt (s + 1) (l) 0 : Nat), .int .i64 (gAt (s + 1) (l) 1 : Nat), .int .i64 (gAt (s + 1) (l) 2 : Nat), .int .i64 (gAt (s + 1) (l) 3 : Nat), .int .i64 (gAt (s + 1) (l) 4 : Nat), .int .i64 (gAt (s + 1) (l) 5 : Nat), .int .i64 (c : Nat), .bool sf]) 89) = w8 := hw8
            rw [hw8']
            have HX8 := Lib.hid hf8
            have HB8 := Lib.hid (hg8.block HB7.out)
            have HR8 := Lib.hid (hg8.block HR7.out)
            have HZ8 := Lib.hid (hg8.block HZ7.out)
            have HY8 := Lib.hid (hg8.block HY7.out)
            have HP8 := Lib.hid (HP7.out.grow hg8)
            have HK8 := Lib.hid (HK7.out.grow hg8)
            obtain ⟨xb, hxb⟩ : ∃ z, w7.heap.size = z := ⟨_, rfl⟩
            rw [hxb] at HX8 hz7 ⊢
            have hxb0 : w.heap.size ≠ xb := by omega
            have hxb1 : w.heap.size + 1 ≠ xb := by omega
            have hxb2 : w.heap.size + 1 + 1 ≠ xb := by omega
            have hxbb : bb ≠ xb := by omega
            have hxbw : w.heap.size ≤ xb := by omega
            have hxbm : mb ≠ xb := known_ne HP8.out.known HX8.out
            clear hw8 hw8' hg8 hf8 hxb
            have r0 : w8.cell? ⟨w.heap.size + 1, 0, none⟩ = some (.int .i64 (s : Nat)) := HR8.out.cell 0
            have xs0 : w8.cell? ⟨xb, s, none⟩ = some (.int .i64 (gAt (s + 1) l s : Nat)) := by rw [HX8.out.cell, plC_at hs6]
            have xf0 := HX8.out.frozen s
            obtain ⟨w5b, hw5b⟩ : ∃ z, w8.setCell ⟨xb, s, none⟩ (.int .i64 (g : Nat)) = z := ⟨_, rfl⟩
            have Ob : OnlyB xb w8 w5b := by rw [← hw5b]; exact (OnlyB.refl _ _).setC s _
            have HX2 : Hid (BlockIs w5b xb 89 (plC s c (g :: l) sf)) := Lib.hid (by
              have h := HX8.out.near s (.int .i64 (g : Nat))
              rw [plC_set hs6, hw5b] at h
              exact h)
            have HB2 := Lib.hid (Ob.blk HB8.out hxb0)
            have HR2 := Lib.hid (Ob.blk HR8.out hxb1)
            have HZ2 := Lib.hid (Ob.blk HZ8.out hxb2)
            have HY2 := Lib.hid (Ob.blk HY8.out hxbb)
            have HP2 := Lib.hid (HP8.out.only Ob hxbw hxbm)
            have HK2 : Hid (KeepX mb w w5b) := Lib.hid (Ob.keepX HK8.out hxbw)
            have HP5 : Hid (PoolAt w5b w5b.heap.size ⟨fa, fc, na, nc⟩ p.i) := Lib.hid (HP2.out.pool.more HK2.out.size)
            have HCO := Lib.hid (fun w0 hA => HCO0.out w0 hA)
            have HWB := Lib.hid hw5b
            clear Ob hw5b
            go_upto_region 14 with fail
            try rw [HWB.out]
            clear HWB r0 xs0 xf0
            refine wp_region_lit 8 [[], [(0, 59)], [], [(2, 61)], [], [(3, 62), (4, 63)], [(1, 60), (5, 64)], []] Grow (fun qi v w' => match qi with
                | 0 => v = .pointer (some ⟨xb, 6, none⟩)
                | 1 => v = .int .i64 (c : Nat)
                | 2 => v = .pointer (some ⟨w.heap.size, 0, none⟩)
                | 3 => v = poolN ⟨fa, fc, na, nc⟩ p
                | 4 => v = .int .i64 (g : Nat)
                | 5 => v = .int .i64 (cg : Nat)
                | 6 => v = .int .i64 ((c : Int) + (cg : Int))
                | 7 => v = .pointer (some ⟨xb, 6, none⟩)
                | _ => False) (by kernel_rfl) (by kernel_rfl) (fun _ _ _ => Grow.trans) Grow.refl ?_ ?_ ?_
            · intro i v y y' h k
              match i, h with
              | 0, h | 1, h | 2, h | 3, h | 4, h | 5, h | 6, h | 7, h => exact h
            · simp only [StepsLit, List.take_succ_cons, List.take_zero]
              refine ⟨?_, ?_, ?_, ?_, ?_, ?_, ?_, ?_, trivial⟩
              · intro w9 hR
                have hGw : Grow w5b w9 := hR.of_drew
                have HGW := Lib.hid hGw
                have x6 : w9.cell? ⟨xb, 6, none⟩ = some (.int .i64 (c : Nat)) := (HGW.out.block HX2.out).cell 6
                have hpc := (HGW.out.block HB2.out).cell
                clear hR hGw
                simp only [depV]
                try go_simp
                all_goals first
                  | (with_reducible exact Grow.refl _)
                  | (with_reducible exact ⟨Grow.refl _, rfl⟩)
              · intro w9 hR
                have hGw : Grow w5b w9 := hR.of_drew
                have HGW := Lib.hid hGw
                have x6 : w9.cell? ⟨xb, 6, none⟩ = some (.int .i64 (c : Nat)) := (HGW.out.block HX2.out).cell 6
                have hpc := (HGW.out.block HB2.out).cell
                clear hR hGw
                simp only [depV]
                rintro _ rfl
                try go_simp
                all_goals first
                  | (with_reducible exact Grow.refl _)
                  | (with_reducible exact ⟨Grow.refl _, rfl⟩)
              · intro w9 hR
                have hGw : Grow w5b w9 := hR.of_drew
                have HGW := Lib.hid hGw
                have x6 : w9.cell? ⟨xb, 6, none⟩ = some (.int .i64 (c : Nat)) := (HGW.out.block HX2.out).cell 6
                have hpc := (HGW.out.block HB2.out).cell
                clear hR hGw
                simp only [depV]
                try go_simp
                all_goals first
                  | (with_reducible exact Grow.refl _)
                  | (with_reducible exact ⟨Grow.refl _, rfl⟩)
              · intro w9 hR
                have hGw : Grow w5b w9 := hR.of_drew
                have HGW := Lib.hid hGw
                have x6 : w9.cell? ⟨xb, 6, none⟩ = some (.int .i64 (c : Nat)) := (HGW.out.block HX2.out).cell 6
                have hpc := (HGW.out.block HB2.out).cell
                clear hR hGw
                simp only [depV]
                rintro _ rfl
                try go_simp
                all_goals first
                  | (with_reducible exact Grow.refl _)
                  | (with_reducible exact ⟨Grow.refl _, rfl⟩)
              · intro w9 hR
                have hGw : Grow w5b w9 := hR.of_drew
                have HGW := Lib.hid hGw
                have x6 : w9.cell? ⟨xb, 6, none⟩ = some (.int .i64 (c : Nat)) := (HGW.out.block HX2.out).cell 6
                have hpc := (HGW.out.block HB2.out).cell
                clear hR hGw
                simp only [depV]
                try go_simp
                all_goals first
                  | (with_reducible exact Grow.refl _)
                  | (with_reducible exact ⟨Grow.refl _, rfl⟩)
              · intro w9 hR
                have hGw : Grow w5b w9 := hR.of_drew
                have HGW := Lib.hid hGw
                have x6 : w9.cell? ⟨xb, 6, none⟩ = some (.int .i64 (c : Nat)) := (HGW.out.block HX2.out).cell 6
                have hpc := (HGW.out.block HB2.out).cell
                clear hR hGw
                simp only [depV]
                rintro _ rfl
                rintro _ rfl
                try go_simp
                refine (HCO.out _ (HP5.out.grow HGW.out)).mono ?_
                rintro e w6 ⟨rfl, hb6⟩
                exact ⟨hb6, rfl⟩
              · intro w9 hR
                have hGw : Grow w5b w9 := hR.of_drew
                have HGW := Lib.hid hGw
                have x6 : w9.cell? ⟨xb, 6, none⟩ = some (.int .i64 (c : Nat)) := (HGW.out.block HX2.out).cell 6
                have hpc := (HGW.out.block HB2.out).cell
                clear hR hGw
                simp only [depV]
                rintro _ rfl
                rintro _ rfl
                try go_simp
                exact ⟨Grow.refl _, IntWalk.i64_in _ (by omega)⟩
              · intro w9 hR
                have hGw : Grow w5b w9 := hR.of_drew
                have HGW := Lib.hid hGw
                have x6 : w9.cell? ⟨xb, 6, none⟩ = some (.int .i64 (c : Nat)) := (HGW.out.block HX2.out).cell 6
                have hpc := (HGW.out.block HB2.out).cell
                clear hR hGw
                simp only [depV]
                try go_simp
                all_goals first
                  | (with_reducible exact Grow.refl _)
                  | (with_reducible exact ⟨Grow.refl _, rfl⟩)
            · intro w9 hR
              have HG9 : Hid (Grow w5b w9) := Lib.hid hR.of_drew
              clear hR
              simp only [finVC, List.take_succ_cons, List.take_zero, List.drop_succ_cons, List.drop_zero]
              rintro _ rfl
              rintro _ rfl
              rintro _ rfl
              rintro _ rfl
              rintro _ rfl
              rintro _ rfl
              rintro _ rfl
              rintro _ rfl
              simp only [Act.put, List.setIfInBounds_toArray, List.set_cons_succ, List.set_cons_zero]
              have HX9 := Lib.hid (HG9.out.block HX2.out)
              have x6 : w9.cell? ⟨xb, 6, none⟩ = some (.int .i64 (c : Nat)) := HX9.out.cell 6
              have xf := HX9.out.frozen 6
              obtain ⟨w10, hw10⟩ : ∃ z, w9.setCell ⟨xb, 6, none⟩ (.int .i64 ((c : Int) + (cg : Int))) = z := ⟨_, rfl⟩
              have O10 : OnlyB xb w9 w10 := by rw [← hw10]; exact (OnlyB.refl _ _).setC 6 _
              have HX10 : Hid (BlockIs w10 xb 89 (plC s (c + cg) (g :: l) sf)) := Lib.hid (by
                have h := HX9.out.near 6 (.int .i64 ((c : Int) + (cg : Int)))
                rw [hw10, show ((c : Int) + (cg : Int)) = ((c + cg : Nat) : Int) by omega, plC_cost] at h
                exact h)
              have HB10 := Lib.hid (O10.blk (HG9.out.block HB2.out) hxb0)
              have HR10 := Lib.hid (O10.blk (HG9.out.block HR2.out) hxb1)
              have HZ10 := Lib.hid (O10.blk (HG9.out.block HZ2.out) hxb2)
              have HY10 := Lib.hid (O10.blk (HG9.out.block HY2.out) hxbb)
              have HP10 := Lib.hid ((HP2.out.grow HG9.out).only O10 hxbw hxbm)
              have HK10 : Hid (KeepX mb w w10) := Lib.hid (O10.keepX (HK2.out.grow HG9.out) hxbw)
              clear O10
              go_upto_region 15 with fail
              try rw [hw10]
              clear hw10 x6 xf
              have x0 : w10.cell? ⟨xb, 0, none⟩ = some (.int .i64 (gAt s (g :: l) 0 : Nat)) := HX10.out.cell 0
              have x1 : w10.cell? ⟨xb, 1, none⟩ = some (.int .i64 (gAt s (g :: l) 1 : Nat)) := HX10.out.cell 1
              have x2 : w10.cell? ⟨xb, 2, none⟩ = some (.int .i64 (gAt s (g :: l) 2 : Nat)) := HX10.out.cell 2
              have x3 : w10.cell? ⟨xb, 3, none⟩ = some (.int .i64 (gAt s (g :: l) 3 : Nat)) := HX10.out.cell 3
              have x4 : w10.cell? ⟨xb, 4, none⟩ = some (.int .i64 (gAt s (g :: l) 4 : Nat)) := HX10.out.cell 4
              have x5 : w10.cell? ⟨xb, 5, none⟩ = some (.int .i64 (gAt s (g :: l) 5 : Nat)) := HX10.out.cell 5
              have x6 : w10.cell? ⟨xb, 6, none⟩ = some (.int .i64 ((c : Int) + (cg : Int))) := HX10.out.cell 6
              have x7 : w10.cell? ⟨xb, 7, none⟩ = some (.bool sf) := HX10.out.cell 7
              have y0 : w10.cell? ⟨bb, 0, none⟩ = some (.int .i64 (gAt s (lb) 0 : Nat)) := HY10.out.cell 0
              have y1 : w10.cell? ⟨bb, 1, none⟩ = some (.int .i64 (gAt s (lb) 1 : Nat)) := HY10.out.cell 1
              have y2 : w10.cell? ⟨bb, 2, none⟩ = some (.int .i64 (gAt s (lb) 2 : Nat)) := HY10.out.cell 2
              have y3 : w10.cell? ⟨bb, 3, none⟩ = some (.int .i64 (gAt s (lb) 3 : Nat)) := HY10.out.cell 3
              have y4 : w10.cell? ⟨bb, 4, none⟩ = some (.int .i64 (gAt s (lb) 4 : Nat)) := HY10.out.cell 4
              have y5 : w10.cell? ⟨bb, 5, none⟩ = some (.int .i64 (gAt s (lb) 5 : Nat)) := HY10.out.cell 5
              have y6 : w10.cell? ⟨bb, 6, none⟩ = some (.int .i64 (cb : Nat)) := HY10.out.cell 6
              have y7 : w10.cell? ⟨bb, 7, none⟩ = some (.bool sb) := HY10.out.cell 7
              cases sf with
              | false =>
                have HN : Hid (bestTo p next m left (row.take (k + 1)) none = b) := Lib.hid (by rw [HSN.out, HNX.out]; rfl)
                go_wp2
                go_roundw
                case rel => exact ⟨k + 1, b, Ln, by omega, by go_num, HN.out.symm, HB10.out, HR10.out, HZ10.out, by rw [HBX.out]; exact HY10.out, HK10.out, HP10.out, HLN.out⟩
                case measure => simp [intOf]; omega
              | true =>
                have HNS : Hid (bestTo p next m left (row.take (k + 1)) none = lessP b (some (c + cg, g :: l))) := Lib.hid (by rw [HSN.out, HNX.out]; rfl)
                obtain ⟨w11, hw11⟩ : ∃ z, ((((((((w10.setCell ⟨bb, 0, none⟩ (.int .i64 (gAt s (g :: l) 0 : Nat))).setCell ⟨bb, 1, none⟩ (.int .i64 (gAt s (g :: l) 1 : Nat))).setCell ⟨bb, 2, none⟩ (.int .i64 (gAt s (g :: l) 2 : Nat))).setCell ⟨bb, 3, none⟩ (.int .i64 (gAt s (g :: l) 3 : Nat))).setCell ⟨bb, 4, none⟩ (.int .i64 (gAt s (g :: l) 4 : Nat))).setCell ⟨bb, 5, none⟩ (.int .i64 (gAt s (g :: l) 5 : Nat))).setCell ⟨bb, 6, none⟩ (.int .i64 ((c : Int) + (cg : Int)))).setCell ⟨bb, 7, none⟩ (.bool true)) = z := ⟨_, rfl⟩
                have O11 : OnlyB bb w10 w11 := by rw [← hw11]; exact only8 _ _ _ _ _ _ _ _ _ _
                have HY11 : Hid (BlockIs w11 bb 89 (planC s (some (c + cg, g :: l)))) := Lib.hid (by
                  have h := stores8 HY10.out (.int .i64 (gAt s (g :: l) 0 : Nat)) (.int .i64 (gAt s (g :: l) 1 : Nat)) (.int .i64 (gAt s (g :: l) 2 : Nat)) (.int .i64 (gAt s (g :: l) 3 : Nat)) (.int .i64 (gAt s (g :: l) 4 : Nat)) (.int .i64 (gAt s (g :: l) 5 : Nat)) (.int .i64 ((c : Int) + (cg : Int))) (.bool true)
                  rw [hw11, show ((c : Int) + (cg : Int)) = ((c + cg : Nat) : Int) by omega] at h
                  exact h)
                have HB11 := Lib.hid (O11.blk HB10.out hbb0)
                have HR11 := Lib.hid (O11.blk HR10.out hbb1)
                have HZ11 := Lib.hid (O11.blk HZ10.out hbb2)
                have HP11 := Lib.hid (HP10.out.only O11 hbbw hbbm)
                have HK11 : Hid (KeepX mb w w11) := Lib.hid (O11.keepX HK10.out hbbw)
                have yf := HY10.out.frozen
                clear O11
                cases sb with
                | false =>
                  have HN : Hid (bestTo p next m left (row.take (k + 1)) none = some (c + cg, g :: l)) := Lib.hid (by rw [HNS.out, HBN.out]; rfl)
                  go_wp2
                  try rw [hw11]
                  go_roundw
                  case rel => exact ⟨k + 1, _, Ln, by omega, by go_num, HN.out.symm, HB11.out, HR11.out, HZ11.out, HY11.out, HK11.out, HP11.out, HLN.out⟩
                  case measure => simp [intOf]; omega
                | true =>
                  by_cases hlc : c + cg < cb
                  · have hld : decide ((c : Int) + (cg : Int) < (cb : Int)) = true := decide_eq_true (by omega)
                    have hld2 : decide (c + cg < cb) = true := decide_eq_true hlc
                    have HN : Hid (bestTo p next m left (row.take (k + 1)) none = some (c + cg, g :: l)) := Lib.hid (by rw [HNS.out, HBN.out]; exact if_pos hlc)
                    go_wp2
                    try rw [hw11]
                    go_roundw
                    case rel => exact ⟨k + 1, _, Ln, by omega, by go_num, HN.out.symm, HB11.out, HR11.out, HZ11.out, HY11.out, HK11.out, HP11.out, HLN.out⟩
                    case measure => simp [intOf]; omega
                  · have hld : decide ((c : Int) + (cg : Int) < (cb : Int)) = false := decide_eq_false (by omega)
                    have hld2 : decide (c + cg < cb) = false := decide_eq_false hlc
                    have HN : Hid (bestTo p next m left (row.take (k + 1)) none = b) := Lib.hid (by rw [HNS.out, HBN.out]; exact if_neg hlc)
                    clear hw11
                    go_wp2
                    go_roundw
                    case rel => exact ⟨k + 1, b, Ln, by omega, by go_num, HN.out.symm, HB10.out, HR10.out, HZ10.out, by rw [HBX.out]; exact HY10.out, HK10.out, HP10.out, HLN.out⟩
                    case measure => simp [intOf]; omega
        · obtain rfl : k = row.length := by omega
          have hd : decide ((row.length : Int) < (row.length : Int)) = false := decide_eq_false (by omega)
          have HFIN : Hid (bestD p (m + 1) s left = b) := Lib.hid (by
            have h := HBT.out
            rw [List.take_length] at h
            rw [HBD.out, ← h])
          have hfk : findK s left Lk = none := findK_none.2 (fun y hy hh => by
            rcases HLK.out y hy with h1 | h1
            · exact HNO.out y h1 hh
            · omega)
          have hup0 := run_updateNew HP1.out.known hfk b
          rw [HBX.out] at hup0
          have hup : (Instr.mapUpdate 106 (.map (some mb)) (.agg #[.int .i64 (s : Nat), .int .i64 (left 0 : Nat), .int .i64 (left 1 : Nat), .int .i64 (left 2 : Nat), .int .i64 (left 3 : Nat), .int .i64 (left 4 : Nat), .int .i64 (left 5 : Nat), .int .i64 (left 6 : Nat), .int .i64 (left 7 : Nat)]) (.agg #[.int .i64 (gAt s (lb) 0 : Nat), .int .i64 (gAt s (lb) 1 : Nat), .int .i64 (gAt s (lb) 2 : Nat), .int .i64 (gAt s (lb) 3 : Nat), .int .i64 (gAt s (lb) 4 : Nat), .int .i64 (gAt s (lb) 5 : Nat), .int .i64 (cb : Nat), .bool sb])).run Try.prog wr = .ok () (setBlock wr mb (.map (entsK (Lk ++ [⟨s, left, b⟩])) (Lk.length + 1))) := hup0
          clear hup0 hfk
          obtain ⟨w6, hw6⟩ : ∃ z, setBlock wr mb (.map (entsK (Lk ++ [⟨s, left, b⟩])) (Lk.length + 1)) = z := ⟨_, rfl⟩
          rw [hw6] at hup
          have hx6 : KeepX mb wr w6 := by rw [← hw6]; exact KeepX.set _ _ _
          have HZ6 := Lib.hid (hx6.blk HP1.out.known HZ1.out)
          have HY6 := Lib.hid (hx6.blk HP1.out.known HY1.out)
          have hk6 : KnownAt w6 mb (Lk ++ [⟨s, left, b⟩]) := by rw [← hw6]; exact HP1.out.known.push _
          have HP6 : Hid (PlanAt w6 w.heap.size ⟨fa, fc, na, nc⟩ p (some ⟨gb, goff, none⟩) mb (Lk ++ [⟨s, left, b⟩])) := Lib.hid (HP1.out.keep hx6 hk6 (fun y hy => by
            rcases List.mem_append.1 hy with hy | hy
            · exact HP1.out.ok y hy
            · obtain rfl : y = ⟨s, left, b⟩ := by simpa using hy
              refine ⟨by show s ≤ _; omega, ?_⟩
              show b = bestD p (p.needs.length - s) s left
              rw [show p.needs.length - s = m + 1 by omega, HFIN.out]))
          have HK6 : Hid (KeepX mb w w6) := Lib.hid (HK1.out.trans hx6)
          have HL6 : Hid (∀ y, y ∈ Lk ++ [⟨s, left, b⟩] → y ∈ L ∨ s ≤ y.s) := Lib.hid (fun y hy => by
            rcases List.mem_append.1 hy with hy | hy
            · rcases HLK.out y hy with h1 | h1
              · exact .inl h1
              · exact .inr (by omega)
            · obtain rfl : y = ⟨s, left, b⟩ := by simpa using hy
              exact .inr (Nat.le_refl _))
          have HEQ : Hid (planC s (bestD p (m + 1) s left) = plC s cb lb sb) := Lib.hid (by rw [HFIN.out]; exact HBX.out)
          have zf := HZ6.out.frozen
          have zc := HZ6.out.cell
          have O7 := Lib.hid (only8 w6 (w.heap.size + 1 + 1) (.int .i64 (gAt s (lb) 0 : Nat)) (.int .i64 (gAt s (lb) 1 : Nat)) (.int .i64 (gAt s (lb) 2 : Nat)) (.int .i64 (gAt s (lb) 3 : Nat)) (.int .i64 (gAt s (lb) 4 : Nat)) (.int .i64 (gAt s (lb) 5 : Nat)) (.int .i64 (cb : Nat)) (.bool sb))
          have H7 := Lib.hid (stores8 HZ6.out (.int .i64 (gAt s (lb) 0 : Nat)) (.int .i64 (gAt s (lb) 1 : Nat)) (.int .i64 (gAt s (lb) 2 : Nat)) (.int .i64 (gAt s (lb) 3 : Nat)) (.int .i64 (gAt s (lb) 4 : Nat)) (.int .i64 (gAt s (lb) 5 : Nat)) (.int .i64 (cb : Nat)) (.bool sb))
          have HN := Lib.hid (HPO.out _ _ _ HEQ.out.symm (O7.out.keepX HK6.out (by omega)) (HP6.out.only O7.out (by omega) (known_ne HP6.out.known HZ6.out)) HL6.out)
          clear hw6 hx6 hk6
          have y0 : wr.cell? ⟨bb, 0, none⟩ = some (.int .i64 (gAt s (lb) 0 : Nat)) := HY1.out.cell 0
          have y1 : wr.cell? ⟨bb, 1, none⟩ = some (.int .i64 (gAt s (lb) 1 : Nat)) := HY1.out.cell 1
          have y2 : wr.cell? ⟨bb, 2, none⟩ = some (.int .i64 (gAt s (lb) 2 : Nat)) := HY1.out.cell 2
          have y3 : wr.cell? ⟨bb, 3, none⟩ = some (.int .i64 (gAt s (lb) 3 : Nat)) := HY1.out.cell 3
          have y4 : wr.cell? ⟨bb, 4, none⟩ = some (.int .i64 (gAt s (lb) 4 : Nat)) := HY1.out.cell 4
          have y5 : wr.cell? ⟨bb, 5, none⟩ = some (.int .i64 (gAt s (lb) 5 : Nat)) := HY1.out.cell 5
          have y6 : wr.cell? ⟨bb, 6, none⟩ = some (.int .i64 (cb : Nat)) := HY1.out.cell 6
          have y7 : wr.cell? ⟨bb, 7, none⟩ = some (.bool sb) := HY1.out.cell 7
          have z0 : w6.cell? ⟨bb, 0, none⟩ = some (.int .i64 (gAt s (lb) 0 : Nat)) := HY6.out.cell 0
          have z1 : w6.cell? ⟨bb, 1, none⟩ = some (.int .i64 (gAt s (lb) 1 : Nat)) := HY6.out.cell 1
          have z2 : w6.cell? ⟨bb, 2, none⟩ = some (.int .i64 (gAt s (lb) 2 : Nat)) := HY6.out.cell 2
          have z3 : w6.cell? ⟨bb, 3, none⟩ = some (.int .i64 (gAt s (lb) 3 : Nat)) := HY6.out.cell 3
          have z4 : w6.cell? ⟨bb, 4, none⟩ = some (.int .i64 (gAt s (lb) 4 : Nat)) := HY6.out.cell 4
          have z5 : w6.cell? ⟨bb, 5, none⟩ = some (.int .i64 (gAt s (lb) 5 : Nat)) := HY6.out.cell 5
          have z6 : w6.cell? ⟨bb, 6, none⟩ = some (.int .i64 (cb : Nat)) := HY6.out.cell 6
          have z7 : w6.cell? ⟨bb, 7, none⟩ = some (.bool sb) := HY6.out.cell 7
          go_wp2
          exact bodyPost_ret (results_best Try.results74 _ _ _ _ _ _ _ _ _ _ _ H7.out rfl) rfl HN.out

end Go.Proofs.Ytcgnibfcjadnjaa
