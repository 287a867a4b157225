/- After: what is left after a slot with a group, as the program reckons; written by wip/tools/after10.py. -/
import Derived.Test.YtcgnibfcjadnjaaCover
namespace Go.Proofs.Ytcgnibfcjadnjaa
open Go.RowKit

abbrev natCells (l : List Nat) : Array Value := (l.map fun n => Value.int .i64 (n : Nat)).toArray
theorem natCells_set (l : List Nat) (k v : Nat) : (natCells l).setIfInBounds k (.int .i64 (v : Nat)) = natCells (l.set k v) := by
  unfold natCells
  rw [List.setIfInBounds_toArray, List.map_set]
/-- the first eight numbers of a left -/
def toL (left : Nat → Nat) : List Nat := [left 0, left 1, left 2, left 3, left 4, left 5, left 6, left 7]
theorem toL_at (left : Nat → Nat) {k : Nat} (hk : k < 8) : (toL left)[k]? = some (left k) := by
  match k, hk with
  | 0, _ | 1, _ | 2, _ | 3, _ | 4, _ | 5, _ | 6, _ | 7, _ => rfl
def updF (g cap : Nat) (left : Nat → Nat) (k i : Nat) : Nat := if i < k then afterD g cap left i else left i
def updL (g cap : Nat) (left : Nat → Nat) (k : Nat) : List Nat := toL (updF g cap left k)
theorem toL_congr {a b : Nat → Nat} (h : ∀ i, i < 8 → a i = b i) : toL a = toL b := by
  unfold toL
  rw [h 0 (by omega), h 1 (by omega), h 2 (by omega), h 3 (by omega), h 4 (by omega), h 5 (by omega), h 6 (by omega), h 7 (by omega)]
theorem toL_inj {a b : Nat → Nat} (h : toL a = toL b) (i : Nat) (hi : i < 8) : a i = b i := by
  have h1 := toL_at a hi
  have h2 := toL_at b hi
  rw [h, h2] at h1
  exact (Option.some.inj h1).symm
theorem upd_zero (g cap : Nat) (left : Nat → Nat) : updL g cap left 0 = toL left := toL_congr fun i _ => by unfold updF; rw [if_neg (by omega)]
theorem upd_all (g cap : Nat) (left : Nat → Nat) : updL g cap left 8 = toL (afterD g cap left) := toL_congr fun i hi => by unfold updF; rw [if_pos hi]
theorem toL_set (f : Nat → Nat) {k : Nat} (hk : k < 8) (v : Nat) : (toL f).set k v = toL (fun i => if i = k then v else f i) := by
  match k, hk with
  | 0, _ | 1, _ | 2, _ | 3, _ | 4, _ | 5, _ | 6, _ | 7, _ => rfl
theorem upd_set {g cap : Nat} {left : Nat → Nat} {k : Nat} (hk : k < 8) : (updL g cap left k).set k (afterD g cap left k) = updL g cap left (k + 1) := by
  unfold updL
  rw [toL_set _ hk]
  refine toL_congr fun i hi => ?_
  unfold updF
  by_cases h : i = k
  · subst h
    rw [if_pos rfl, if_pos (by omega)]
  · rw [if_neg h]
    by_cases h2 : i < k
    · rw [if_pos h2, if_pos (by omega)]
    · rw [if_neg h2, if_neg (by omega)]
abbrev restC (s : Nat) (left : Nat → Nat) : Array Value := natCells (s :: toL left)
abbrev restV (s : Nat) (left : Nat → Nat) : Value := .agg (restC s left)
abbrev zeroR : Array Value := #[.int .i64 0, .int .i64 0, .int .i64 0, .int .i64 0, .int .i64 0, .int .i64 0, .int .i64 0, .int .i64 0, .int .i64 0]
/-- a planner -/
abbrev cellsG (h : PoolH) (p : Pool) (ga : Option Addr) (gn gc mb : Nat) : Array Value := #[.slice h.fa p.folk.length h.fc, .slice h.na p.needs.length h.nc, .int .i64 (p.ill : Nat), .int .i64 (p.most : Nat), .slice ga gn gc, .map (some mb)]
abbrev plannerV (h : PoolH) (p : Pool) (ga : Option Addr) (gn gc mb : Nat) : Value := .agg (cellsG h p ga gn gc mb)
theorem Try.infoInt2 : (Try.prog.info? 3).map (fun i => (i.zero, i.size, i.bytes)) = some (some (Value.int .i64 0), 1, 8) := by kernel_rfl
theorem natCells_at {l : List Nat} {k v : Nat} (h : l[k]? = some v) : (natCells l)[k]? = some (.int .i64 (v : Nat)) := by simp [natCells, h]
theorem index8 {L : List Nat} {i v : Nat} (h : L[i]? = some v) (hi : i < 8) (w : World) : (Instr.index 110 (.agg (natCells L)) (.int .i64 (i : Nat))).run Try.prog w = .ok (.int .i64 (v : Nat)) w := by
  obtain ⟨i0, hi0, hz0, hz1, hz2⟩ := info_parts Try.infoInt2
  have hin : (0 : Int) ≤ (i : Int) ∧ (i : Int) < ((8 : Nat) : Int) := by omega
  have ha : (isAgg 3).run Try.prog w = .ok false w := by
    unfold isAgg
    rw [Sem.run_bind, run_underlying Try.underlying3 w]
    rfl
  have hc := natCells_at h
  simp only [Instr.index, asIntOf, Sem.run_bind, Sem.run_pure, Result.andThen_ok, run_underlying Try.underlying110, if_pos hin, Int.toNat_natCast, sizeOf, typeInfo]
  simp [Sem.run_bind, hi0, hz1, part, ha, hc, Result.andThen]
theorem stores9 {w : World} {b : Nat} {t : TypeId} {c0 c1 c2 c3 c4 c5 c6 c7 c8 : Value} (h : BlockIs w b t #[c0, c1, c2, c3, c4, c5, c6, c7, c8]) (v0 v1 v2 v3 v4 v5 v6 v7 v8 : Value) :
    BlockIs (((((((((w.setCell ⟨b, 0, none⟩ v0).setCell ⟨b, 1, none⟩ v1).setCell ⟨b, 2, none⟩ v2).setCell ⟨b, 3, none⟩ v3).setCell ⟨b, 4, none⟩ v4).setCell ⟨b, 5, none⟩ v5).setCell ⟨b, 6, none⟩ v6).setCell ⟨b, 7, none⟩ v7).setCell ⟨b, 8, none⟩ v8) b t #[v0, v1, v2, v3, v4, v5, v6, v7, v8] :=
  by
  have h8 := ((((((((h.near 0 v0).near 1 v1).near 2 v2).near 3 v3).near 4 v4).near 5 v5).near 6 v6).near 7 v7).near 8 v8
  simpa only [List.setIfInBounds_toArray, List.set_cons_succ, List.set_cons_zero] using h8
theorem below9 {w : World} {B b : Nat} (hb : B ≤ b) (v0 v1 v2 v3 v4 v5 v6 v7 v8 : Value) : Below B w (((((((((w.setCell ⟨b, 0, none⟩ v0).setCell ⟨b, 1, none⟩ v1).setCell ⟨b, 2, none⟩ v2).setCell ⟨b, 3, none⟩ v3).setCell ⟨b, 4, none⟩ v4).setCell ⟨b, 5, none⟩ v5).setCell ⟨b, 6, none⟩ v6).setCell ⟨b, 7, none⟩ v7).setCell ⟨b, 8, none⟩ v8) :=
  by repeat (first | (with_reducible exact Below.refl _ _) | (with_reducible refine Below.setCell ?_ (by exact hb) _))
theorem results_after {fn : Func} (h : fn.results = #[.cell 6 112, .tmp 7]) (t : Array Value) (W : World) (b : Nat) (v0 v1 v2 v3 v4 v5 v6 v7 v8 u : Value)
    (hb : BlockIs W b 112 #[v0, v1, v2, v3, v4, v5, v6, v7, v8]) (ht : t.getD 6 undef = .pointer (some ⟨b, 0, none⟩)) (hu : t.getD 7 undef = u) :
    (results fn t).run Try.prog W = .ok (.tuple #[.agg #[v0, v1, v2, v3, v4, v5, v6, v7, v8], u]) W := by
  have hc := hb.cell
  simp only [results, h]
  simp at ht hu
  simp [go_sem, ht, hc, hu]
def roomTo (g : Nat) (left : Nat → Nat) (k : Nat) : Bool := roomB k g left
theorem roomB_succ (g : Nat) (left : Nat → Nat) (k : Nat) : roomB (k + 1) g left = (roomB k g left && decide ((if hasN g k then 1 else 0) ≤ left k)) := by
  unfold roomB
  rw [List.range_succ, List.all_append]
  simp
theorem roomB_mono {g : Nat} {left : Nat → Nat} {k m : Nat} (h : k ≤ m) (hk : roomB k g left = false) : roomB m g left = false := range_all_mono (f := fun i => decide ((if hasN g i then 1 else 0) ≤ left i)) h hk

set_option maxRecDepth 100000 in
set_option maxHeartbeats 16000000 in
theorem after_any (h : PoolH) (p : Pool) (G : Good p) (ga : Option Addr) (gn gc mb s g : Nat) (left : Nat → Nat) (w : World) (hs : s < p.needs.length) (hg : g < 1048576) (hl : ∀ i, i < 8 → left i ≤ 1000) :
    Calls Try.prog 87 #[plannerV h p ga gn gc mb, restV s left, .int .i64 (g : Nat)] w fun e w' => (roomB 8 g left = true → e = .returned (.tuple #[restV (s + 1) (afterD g (p.needs.length - (s + 1)) left), .bool true])) ∧ (roomB 8 g left = false → e = .returned (.tuple #[.agg zeroR, .bool false])) ∧ Below w.heap.size w w' := by
  have hn3 := G.n3
  have HLF := Lib.hid hl
  obtain ⟨PO, hPO⟩ : ∃ z : Ending → World → Prop, (fun e w' => (roomB 8 g left = true → e = Ending.returned (.tuple #[restV (s + 1) (afterD g (p.needs.length - (s + 1)) left), .bool true])) ∧ (roomB 8 g left = false → e = Ending.returned (.tuple #[.agg zeroR, .bool false])) ∧ Below w.heap.size w w') = z := ⟨_, rfl⟩
  have HY : Hid (∀ w', roomB 8 g left = true → Below w.heap.size w w' → PO (Ending.returned (.tuple #[restV (s + 1) (afterD g (p.needs.length - (s + 1)) left), .bool true])) w') := Lib.hid (fun w' h1 h2 => by rw [← hPO]; exact ⟨fun _ => rfl, fun h => (by rw [h1] at h; cases h), h2⟩)
  have HNO : Hid (∀ w', roomB 8 g left = false → Below w.heap.size w w' → PO (Ending.returned (.tuple #[.agg zeroR, .bool false])) w') := Lib.hid (fun w' h1 h2 => by rw [← hPO]; exact ⟨fun h => (by rw [h1] at h; cases h), fun _ => rfl, h2⟩)
  rw [hPO]
  clear hPO hl
  obtain ⟨cap, hcap⟩ : ∃ z, p.needs.length - (s + 1) = z := ⟨_, rfl⟩
  rw [hcap] at HY
  have hcp : IntKind.i64.wrap ((p.needs.length : Int) - ((s + 1 : Nat) : Int)) = (cap : Int) := by rw [IntWalk.i64_in _ (by omega)]; omega
  have hcp' : IntKind.i64.wrap ((p.needs.length : Int) - ((s : Int) + 1)) = (cap : Int) := by rw [IntWalk.i64_in _ (by omega)]; omega
  clear hcap
  obtain ⟨fa, fc, na, nc⟩ := h
  go_enter Try.func87, Try.ntmps87
  go_upto_region 1 with fail
  obtain ⟨W, hW, hgw, hf, hr, hz, hsz⟩ := three_blocks w 109 112 112 (cellsG ⟨fa, fc, na, nc⟩ p ga gn gc mb) (restC s left) zeroR
  rw [hW]
  clear hW
  have HF := Lib.hid hf
  have HR := Lib.hid hr
  have HZ := Lib.hid hz
  have HG := Lib.hid hgw
  have hrc := hr.cell
  have hrf := hr.frozen
  clear hf hr hz hgw
  have hs1 : (s : Int) + 1 = ((s + 1 : Nat) : Int) := by omega
  obtain ⟨W2, hW2⟩ : ∃ z, W.setCell ⟨w.heap.size + 1, 0, none⟩ (.int .i64 ((s : Int) + 1)) = z := ⟨_, rfl⟩
  have HR2 : Hid (BlockIs W2 (w.heap.size + 1) 112 (natCells ((s + 1) :: toL left))) := Lib.hid (by rw [← hW2, hs1]; exact HR.out.near 0 _)
  have HF2 : Hid (BlockIs W2 w.heap.size 109 (cellsG ⟨fa, fc, na, nc⟩ p ga gn gc mb)) := Lib.hid (by rw [← hW2]; exact HF.out.far (p := ⟨w.heap.size + 1, 0, none⟩) (by simp) _)
  have HZ2 : Hid (BlockIs W2 (w.heap.size + 1 + 1) 112 zeroR) := Lib.hid (by rw [← hW2]; exact HZ.out.far (p := ⟨w.heap.size + 1, 0, none⟩) (by simp) _)
  have HG2 : Hid (Grow w W2) := Lib.hid (by rw [← hW2]; exact HG.out.setC (p := ⟨w.heap.size + 1, 0, none⟩) (by simp) _)
  have HW2 := Lib.hid hW2
  clear hW2 hs1
  go_upto_region 2 with fail
  rw [HW2.out]
  clear hrc hrf HF HR HZ HG HW2
  have hfc := HF2.out.cell
  have hrc := HR2.out.cell
  have e0 : W2.cell? ⟨w.heap.size + 1, 0, none⟩ = some (.int .i64 ((s + 1 : Nat) : Int)) := hrc 0
  have e1 : W2.cell? ⟨w.heap.size + 1, 1, none⟩ = some (.int .i64 (left 0 : Nat)) := hrc 1
  have e2 : W2.cell? ⟨w.heap.size + 1, 2, none⟩ = some (.int .i64 (left 1 : Nat)) := hrc 2
  have e3 : W2.cell? ⟨w.heap.size + 1, 3, none⟩ = some (.int .i64 (left 2 : Nat)) := hrc 3
  have e4 : W2.cell? ⟨w.heap.size + 1, 4, none⟩ = some (.int .i64 (left 3 : Nat)) := hrc 4
  have e5 : W2.cell? ⟨w.heap.size + 1, 5, none⟩ = some (.int .i64 (left 4 : Nat)) := hrc 5
  have e6 : W2.cell? ⟨w.heap.size + 1, 6, none⟩ = some (.int .i64 (left 5 : Nat)) := hrc 6
  have e7 : W2.cell? ⟨w.heap.size + 1, 7, none⟩ = some (.int .i64 (left 6 : Nat)) := hrc 7
  have e8 : W2.cell? ⟨w.heap.size + 1, 8, none⟩ = some (.int .i64 (left 7 : Nat)) := hrc 8
  clear hrc
  go_wp2_with fail
  clear hfc e0 e1 e2 e3 e4 e5 e6 e7 e8 hcp hcp'
  go_loopw [25] (fun iv wr => ∃ k : Nat, k ≤ 8 ∧ iv = .int .i64 (k : Nat) ∧ Hid (roomB k g left = true) ∧ BlockIs wr (w.heap.size + 1) 112 (natCells ((s + 1) :: updL g cap left k)) ∧ BlockIs wr (w.heap.size + 1 + 1) 112 zeroR ∧ Grow w wr) (fun iv _ => 8 - (intOf iv).toNat)
  case atStart => exact ⟨0, by omega, rfl, rfl, by rw [upd_zero]; exact HR2.out, HZ2.out, HG2.out⟩
  case round =>
    obtain ⟨k, hk, rfl, HRK, hrb, hzb, hgr⟩ := hrel
    rename World => wr
    have HRB := Lib.hid hrb
    have HZB := Lib.hid hzb
    have HGR := Lib.hid hgr
    clear hrb hzb hgr
    by_cases hlt : k < 8
    · have hd : decide ((k : Int) < 8) = true := decide_eq_true (by omega)
      have h00 : (0 : Int) ≤ (k : Int) := by omega
      have hk8 : (k : Int) < 8 := by omega
      have hix : ∀ W, (Instr.index 110 (.agg #[.int .i64 (left 0 : Nat), .int .i64 (left 1 : Nat), .int .i64 (left 2 : Nat), .int .i64 (left 3 : Nat), .int .i64 (left 4 : Nat), .int .i64 (left 5 : Nat), .int .i64 (left 6 : Nat), .int .i64 (left 7 : Nat)]) (.int .i64 (k : Nat))).run Try.prog W = .ok (.int .i64 (left k : Nat)) W := index8 (toL_at left hlt) hlt
      have hlv := HLF.out k hlt
      have HAF : Hid (afterD g cap left k = min (left k - if hasN g k then 1 else 0) cap) := rfl
      have HRS := Lib.hid (roomB_succ g left k)
      have HH := Lib.hid (fun w0 => has_any g k w0 hg (by omega))
      obtain ⟨lv, hlvd⟩ : ∃ z, left k = z := ⟨_, rfl⟩
      rw [hlvd] at hix hlv HAF HRS
      obtain ⟨hb, hhb⟩ : ∃ z, hasN g k = z := ⟨_, rfl⟩
      rw [hhb] at HH HAF HRS
      clear hhb hlvd
      have hrf := HRB.out.frozen (1 + k)
      have hrcell : wr.cell? ⟨w.heap.size + 1, 1 + k, none⟩ = some (.int .i64 (updF g cap left k k : Nat)) := by
        rw [HRB.out.cell, Nat.add_comm 1 k]
        exact natCells_at (l := (s + 1) :: updL g cap left k) (by rw [List.getElem?_cons_succ]; exact toL_at _ hlt)
      generalize updF g cap left k k = uv at hrcell
      cases hb with
      | false =>
        have HRM : Hid (roomB (k + 1) g left = true) := Lib.hid (by rw [HRS.out, HRK.out]; simp)
        have HAF : Hid (afterD g cap left k = min lv cap) := Lib.hid (by rw [HAF.out]; simp)
        by_cases hc : cap < lv
        · have hcl : (cap : Int) < (lv : Int) := by omega
          have hcd : decide ((cap : Int) < (lv : Int)) = true := decide_eq_true hcl
          have HN : Hid (BlockIs (wr.setCell ⟨w.heap.size + 1, 1 + k, none⟩ (.int .i64 ((cap : Int)))) (w.heap.size + 1) 112 (natCells ((s + 1) :: updL g cap left (k + 1)))) := Lib.hid (by
            rw [Nat.add_comm 1 k]
            have h := HRB.out.near (k + 1) (.int .i64 ((cap : Int)))
            rw [show ((cap : Int)) = ((afterD g cap left k : Nat) : Int) by rw [HAF.out]; omega, natCells_set, List.set_cons_succ, upd_set hlt] at h
            rw [show ((cap : Int)) = ((afterD g cap left k : Nat) : Int) by rw [HAF.out]; omega]
            exact h)
          have HGN : Hid (Grow w (wr.setCell ⟨w.heap.size + 1, 1 + k, none⟩ (.int .i64 ((cap : Int))))) := Lib.hid (HGR.out.setC (p := ⟨w.heap.size + 1, 1 + k, none⟩) (by simp) _)
          have HZN := Lib.hid (HZB.out.far (p := ⟨w.heap.size + 1, 1 + k, none⟩) (by simp) (.int .i64 ((cap : Int))))
          go_wp2_with fail
          refine (HH.out _).mono ?_
          rintro e w2 ⟨rfl, rfl⟩
          go_wp2
          go_roundw
          case rel => exact ⟨k + 1, by omega, by go_num, HRM, HN.out, HZN.out, HGN.out⟩
          case measure => simp [intOf]; omega
        · have hcl : ¬ (cap : Int) < (lv : Int) := by omega
          have hcd : decide ((cap : Int) < (lv : Int)) = false := decide_eq_false hcl
          have HN : Hid (BlockIs (wr.setCell ⟨w.heap.size + 1, 1 + k, none⟩ (.int .i64 ((lv : Int)))) (w.heap.size + 1) 112 (natCells ((s + 1) :: updL g cap left (k + 1)))) := Lib.hid (by
            rw [Nat.add_comm 1 k]
            have h := HRB.out.near (k + 1) (.int .i64 ((lv : Int)))
            rw [show ((lv : Int)) = ((afterD g cap left k : Nat) : Int) by rw [HAF.out]; omega, natCells_set, List.set_cons_succ, upd_set hlt] at h
            rw [show ((lv : Int)) = ((afterD g cap left k : Nat) : Int) by rw [HAF.out]; omega]
            exact h)
          have HGN : Hid (Grow w (wr.setCell ⟨w.heap.size + 1, 1 + k, none⟩ (.int .i64 ((lv : Int))))) := Lib.hid (HGR.out.setC (p := ⟨w.heap.size + 1, 1 + k, none⟩) (by simp) _)
          have HZN := Lib.hid (HZB.out.far (p := ⟨w.heap.size + 1, 1 + k, none⟩) (by simp) (.int .i64 ((lv : Int))))
          go_wp2_with fail
          refine (HH.out _).mono ?_
          rintro e w2 ⟨rfl, rfl⟩
          go_wp2
          go_roundw
          case rel => exact ⟨k + 1, by omega, by go_num, HRM, HN.out, HZN.out, HGN.out⟩
          case measure => simp [intOf]; omega
      | true =>
        by_cases h0 : lv = 0
        · subst h0
          have HRM : Hid (roomB 8 g left = false) := Lib.hid (roomB_mono (k := k + 1) (by omega) (by rw [HRS.out]; simp))
          have H5 := Lib.hid (stores9 HZB.out (.int .i64 0) (.int .i64 0) (.int .i64 0) (.int .i64 0) (.int .i64 0) (.int .i64 0) (.int .i64 0) (.int .i64 0) (.int .i64 0))
          have HB5 := Lib.hid (HGR.out.trans' (below9 (w := wr) (B := w.heap.size) (b := w.heap.size + 1 + 1) (by omega) (.int .i64 0) (.int .i64 0) (.int .i64 0) (.int .i64 0) (.int .i64 0) (.int .i64 0) (.int .i64 0) (.int .i64 0) (.int .i64 0)))
          have hzc := HZB.out.cell
          have hzf := HZB.out.frozen
          go_wp2_with fail
          refine (HH.out _).mono ?_
          rintro e w2 ⟨rfl, rfl⟩
          go_wp2
          exact bodyPost_ret (results_after Try.results87 _ _ _ _ _ _ _ _ _ _ _ _ _ H5.out rfl rfl) rfl (HNO.out _ HRM.out HB5.out)
        · have HRM : Hid (roomB (k + 1) g left = true) := Lib.hid (by rw [HRS.out, HRK.out]; simp; omega)
          have HAF : Hid (afterD g cap left k = min (lv - 1) cap) := Lib.hid (by rw [HAF.out]; simp)
          have hn0 : ¬ (lv : Int) - 1 < 0 := by omega
          have hnd : decide ((lv : Int) - 1 < 0) = false := decide_eq_false hn0
          by_cases hc : cap < lv - 1
          · have hcl : (cap : Int) < (lv : Int) - 1 := by omega
            have hcd : decide ((cap : Int) < (lv : Int) - 1) = true := decide_eq_true hcl
            have HN : Hid (BlockIs (wr.setCell ⟨w.heap.size + 1, 1 + k, none⟩ (.int .i64 ((cap : Int)))) (w.heap.size + 1) 112 (natCells ((s + 1) :: updL g cap left (k + 1)))) := Lib.hid (by
              rw [Nat.add_comm 1 k]
              have h := HRB.out.near (k + 1) (.int .i64 ((cap : Int)))
              rw [show ((cap : Int)) = ((afterD g cap left k : Nat) : Int) by rw [HAF.out]; omega, natCells_set, List.set_cons_succ, upd_set hlt] at h
              rw [show ((cap : Int)) = ((afterD g cap left k : Nat) : Int) by rw [HAF.out]; omega]
              exact h)
            have HGN : Hid (Grow w (wr.setCell ⟨w.heap.size + 1, 1 + k, none⟩ (.int .i64 ((cap : Int))))) := Lib.hid (HGR.out.setC (p := ⟨w.heap.size + 1, 1 + k, none⟩) (by simp) _)
            have HZN := Lib.hid (HZB.out.far (p := ⟨w.heap.size + 1, 1 + k, none⟩) (by simp) (.int .i64 ((cap : Int))))
            go_wp2_with fail
            refine (HH.out _).mono ?_
            rintro e w2 ⟨rfl, rfl⟩
            go_wp2
            go_roundw
            case rel => exact ⟨k + 1, by omega, by go_num, HRM, HN.out, HZN.out, HGN.out⟩
            case measure => simp [intOf]; omega
          · have hcl : ¬ (cap : Int) < (lv : Int) - 1 := by omega
            have hcd : decide ((cap : Int) < (lv : Int) - 1) = false := decide_eq_false hcl
            have HN : Hid (BlockIs (wr.setCell ⟨w.heap.size + 1, 1 + k, none⟩ (.int .i64 ((lv : Int) - 1))) (w.heap.size + 1) 112 (natCells ((s + 1) :: updL g cap left (k + 1)))) := Lib.hid (by
              rw [Nat.add_comm 1 k]
              have h := HRB.out.near (k + 1) (.int .i64 ((lv : Int) - 1))
              rw [show ((lv : Int) - 1) = ((afterD g cap left k : Nat) : Int) by rw [HAF.out]; omega, natCells_set, List.set_cons_succ, upd_set hlt] at h
              rw [show ((lv : Int) - 1) = ((afterD g cap left k : Nat) : Int) by rw [HAF.out]; omega]
              exact h)
            have HGN : Hid (Grow w (wr.setCell ⟨w.heap.size + 1, 1 + k, none⟩ (.int .i64 ((lv : Int) - 1)))) := Lib.hid (HGR.out.setC (p := ⟨w.heap.size + 1, 1 + k, none⟩) (by simp) _)
            have HZN := Lib.hid (HZB.out.far (p := ⟨w.heap.size + 1, 1 + k, none⟩) (by simp) (.int .i64 ((lv : Int) - 1)))
            go_wp2_with fail
            refine (HH.out _).mono ?_
            rintro e w2 ⟨rfl, rfl⟩
            go_wp2
            go_roundw
            case rel => exact ⟨k + 1, by omega, by go_num, HRM, HN.out, HZN.out, HGN.out⟩
            case measure => simp [intOf]; omega
    · obtain rfl : k = 8 := by omega
      have hd : decide ((8 : Int) < 8) = false := by decide
      have HRX : Hid (BlockIs wr (w.heap.size + 1) 112 (natCells ((s + 1) :: toL (afterD g cap left)))) := Lib.hid (by rw [← upd_all]; exact HRB.out)
      obtain ⟨f, hf'⟩ : ∃ z, afterD g cap left = z := ⟨_, rfl⟩
      rw [hf'] at HRX HY
      clear hf'
      have hrc := HRX.out.cell
      have e0 : wr.cell? ⟨w.heap.size + 1, 0, none⟩ = some (.int .i64 ((s + 1 : Nat) : Int)) := hrc 0
      have e1 : wr.cell? ⟨w.heap.size + 1, 1, none⟩ = some (.int .i64 (f 0 : Nat)) := hrc 1
      have e2 : wr.cell? ⟨w.heap.size + 1, 2, none⟩ = some (.int .i64 (f 1 : Nat)) := hrc 2
      have e3 : wr.cell? ⟨w.heap.size + 1, 3, none⟩ = some (.int .i64 (f 2 : Nat)) := hrc 3
      have e4 : wr.cell? ⟨w.heap.size + 1, 4, none⟩ = some (.int .i64 (f 3 : Nat)) := hrc 4
      have e5 : wr.cell? ⟨w.heap.size + 1, 5, none⟩ = some (.int .i64 (f 4 : Nat)) := hrc 5
      have e6 : wr.cell? ⟨w.heap.size + 1, 6, none⟩ = some (.int .i64 (f 5 : Nat)) := hrc 6
      have e7 : wr.cell? ⟨w.heap.size + 1, 7, none⟩ = some (.int .i64 (f 6 : Nat)) := hrc 7
      have e8 : wr.cell? ⟨w.heap.size + 1, 8, none⟩ = some (.int .i64 (f 7 : Nat)) := hrc 8
      clear hrc
      have hzc := HZB.out.cell
      have hzf := HZB.out.frozen
      have H5 := Lib.hid (stores9 HZB.out (.int .i64 ((s + 1 : Nat) : Int)) (.int .i64 (f 0 : Nat)) (.int .i64 (f 1 : Nat)) (.int .i64 (f 2 : Nat)) (.int .i64 (f 3 : Nat)) (.int .i64 (f 4 : Nat)) (.int .i64 (f 5 : Nat)) (.int .i64 (f 6 : Nat)) (.int .i64 (f 7 : Nat)))
      have HB5 := Lib.hid (HGR.out.trans' (below9 (w := wr) (B := w.heap.size) (b := w.heap.size + 1 + 1) (by omega) (.int .i64 ((s + 1 : Nat) : Int)) (.int .i64 (f 0 : Nat)) (.int .i64 (f 1 : Nat)) (.int .i64 (f 2 : Nat)) (.int .i64 (f 3 : Nat)) (.int .i64 (f 4 : Nat)) (.int .i64 (f 5 : Nat)) (.int .i64 (f 6 : Nat)) (.int .i64 (f 7 : Nat))))
      go_wp2
      exact bodyPost_ret (results_after Try.results87 _ _ _ _ _ _ _ _ _ _ _ _ _ H5.out rfl rfl) rfl (HY.out _ HRK.out HB5.out)

end Go.Proofs.Ytcgnibfcjadnjaa
