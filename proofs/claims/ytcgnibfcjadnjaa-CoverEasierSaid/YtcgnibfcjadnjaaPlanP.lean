/- PlanP: the best watch of a pool, as the program finds it; written by wip/tools/plan10.py. -/
import Derived.Test.YtcgnibfcjadnjaaRowsP
namespace Go.Proofs.Ytcgnibfcjadnjaa
open Go.RowKit
open Go.ChangeMaps (setBlock)

theorem own_setC {w : World} {base e size n : Nat} {v : Value} {xs : List Value} {p : Addr} (h : w.ownsRow base e size v n xs) (hp : p.block < base) (u : Value) : (w.setCell p u).ownsRow base e size v n xs := by
  refine ⟨h.1, ?_⟩
  rcases h.2 with h2 | ⟨g, c, cur, hv, hge, hh, r⟩
  · exact .inl h2
  · exact .inr ⟨g, c, cur, hv, hge, (Below.heap_setCell w p u g (by omega)).trans hh, r⟩
theorem ElemR.setC {w : World} {lo : Nat} {xs : List Nat} {u : Value} {p : Addr} (h : ElemR w lo xs u) (hp : p.block < lo) (v : Value) : ElemR (w.setCell p v) lo xs u := by
  obtain ⟨a, c, rfl, hh⟩ := h
  refine ⟨a, c, rfl, ?_⟩
  rcases hh with e | ⟨b, cs, e, h1, hb, hc⟩
  · exact .inl e
  · exact .inr ⟨b, cs, e, h1, (Below.heap_setCell w p v b (by omega)).trans hb, hc⟩
theorem row_g {w : World} {base k cap : Nat} {A : Option Addr} {us : List Value} (h : w.ownsRow base 74 1 (.slice A k cap) k us) (hb : base ≤ w.heap.size) : ∃ g, RowG A g w.heap.size ∧ base ≤ g := by
  rcases h.2 with ⟨hv, _⟩ | ⟨g, c, cur, hv, hge, hh, _⟩
  · injection hv with e
    exact ⟨w.heap.size, .inr ⟨e, rfl⟩, hb⟩
  · injection hv with e
    exact ⟨g, .inl ⟨e, (Array.getElem?_eq_some_iff.1 hh).1⟩, hge⟩
theorem ElemR.old {w w' : World} {base k cap g : Nat} {A : Option Addr} {us : List Value} {xs ys : List Nat} {u : Value} (h : ElemR w base ys u) (r : TurnR g k w.heap.size xs w w') (hG : RowG A g w.heap.size) (ho : w.ownsRow base 74 1 (.slice A k cap) k us) : ElemR w' base ys u := by
  obtain ⟨a, c, rfl, hh⟩ := h
  refine ⟨a, c, rfl, ?_⟩
  rcases hh with e | ⟨b, cs, e, h1, hb, hc⟩
  · exact .inl e
  · have hbl := hb.lt
    refine .inr ⟨b, cs, e, h1, r.blk hb (.inl ?_), hc⟩
    rcases hG with ⟨e2, hl⟩ | ⟨e2, e3⟩
    · have hne := own_block_ne ho hb (by decide)
      rw [e2] at hne
      intro e4
      subst e4
      exact hne rfl
    · omega
/-- a slice of one slice, new -/
def NewS (lo : Nat) (xs : List Nat) (v : Value) (w : World) : Prop := ∃ b u, v = .slice (some ⟨b, 0, none⟩) 1 1 ∧ lo ≤ b ∧ BlockIs w b 74 #[u] ∧ ElemR w lo xs u
theorem NewS.turn {g n lo : Nat} {xs : List Nat} {v : Value} {w w' : World} (h : NewS lo xs v w) (r : TurnR g n lo xs w w') : NewS lo xs v w' := by
  obtain ⟨b, u, rfl, h1, h2, h3⟩ := h
  exact ⟨b, u, rfl, h1, r.blk h2 (.inr h1), h3.turn r⟩
/-- the rows of the groups worth trying -/
theorem own_rowsS {w : World} {base cap : Nat} {A : Option Addr} {us : List Value} {p : Pool} (h : w.ownsRow base 74 1 (.slice A p.needs.length cap) p.needs.length us) (he : ∀ i, i < p.needs.length → ∃ u, us[i]? = some u ∧ ElemR w base (coveringD p i) u) : Rows w w.heap.size A (coversL p) := by
  have h' := h
  rcases h.2 with ⟨e, e2⟩ | ⟨g, c, cur, hv, hg, hh, h2, h3, h4, h5⟩
  · exact .inl (by unfold coversL; rw [e2]; rfl)
  · injection hv with e1 e2 e3
    subst e1 e3
    have hB : BlockIs w g 74 cur := hh
    refine .inr ⟨g, 0, rfl, hB.lt, fun i xs hi => ?_⟩
    have hlt : i < p.needs.length := by
      have := (List.getElem?_eq_some_iff.1 hi).1
      unfold coversL at this
      simpa using this
    have hx : natsL (coveringD p i) = xs := by
      unfold coversL at hi
      rw [List.getElem?_map, List.getElem?_range hlt] at hi
      exact Option.some.inj hi
    subst hx
    obtain ⟨u, hu, a, cc, rfl, hh⟩ := he i hlt
    refine ⟨a, cc, ?_, hh.ints⟩
    have hc := World.ownsRow.cells (g := g) h' rfl i _ hu
    rw [show (⟨g, 0, none⟩ : Addr).add i = ⟨g, 0 + i, none⟩ by (simp [Addr.add]; try omega)] at hc
    rw [natsL_length]
    exact hc
theorem snoc_elems {w : World} {base k : Nat} {p : Pool} {us : List Value} {u : Value} (hl : us.length = k) (h : ∀ i, i < k → ∃ u, us[i]? = some u ∧ ElemR w base (coveringD p i) u) (hu : ElemR w base (coveringD p k) u) : ∀ i, i < k + 1 → ∃ v, (us ++ [u])[i]? = some v ∧ ElemR w base (coveringD p i) v := by
  intro i hi
  by_cases h1 : i < k
  · obtain ⟨v, h2, h3⟩ := h i h1
    exact ⟨v, by rw [List.getElem?_append_left (by omega)]; exact h2, h3⟩
  · obtain rfl : i = k := by omega
    exact ⟨u, by rw [← hl, List.getElem?_concat_length], hu⟩
def fillF (most k i : Nat) : Nat := if i < k then most else 0
theorem fillP_set {most k : Nat} (hk : k < 8) : (toL (fillF most k)).set k most = toL (fillF most (k + 1)) := by
  rw [toL_set _ hk]
  refine toL_congr fun i hi => ?_
  unfold fillF
  by_cases h : i = k
  · subst h
    rw [if_pos rfl, if_pos (by omega)]
  · rw [if_neg h]
    by_cases h2 : i < k
    · rw [if_pos h2, if_pos (by omega)]
    · rw [if_neg h2, if_neg (by omega)]
theorem planD_fill (p : Pool) : planD p = bestD p p.needs.length 0 (fillF p.most p.folk.length) := rfl
theorem results_plan {fn : Func} (h : fn.results = #[.cell 2 89]) (t : Array Value) (W : World) (b : Nat) (v0 v1 v2 v3 v4 v5 v6 v7 : Value)
    (hb : BlockIs W b 89 #[v0, v1, v2, v3, v4, v5, v6, v7]) (ht : t.getD 2 undef = .pointer (some ⟨b, 0, none⟩)) :
    (results fn t).run Try.prog W = .ok (.agg #[v0, v1, v2, v3, v4, v5, v6, v7]) W := by
  have hc := hb.cell
  simp only [results, h]
  simp at ht
  simp [go_sem, ht, hc]
theorem plC_at' {s c : Nat} {l : List Nat} {sf : Bool} : plC s c l sf = #[.int .i64 (gAt s l 0 : Nat), .int .i64 (gAt s l 1 : Nat), .int .i64 (gAt s l 2 : Nat), .int .i64 (gAt s l 3 : Nat), .int .i64 (gAt s l 4 : Nat), .int .i64 (gAt s l 5 : Nat), .int .i64 (c : Nat), .bool sf] := rfl

set_option maxRecDepth 100000 in
set_option maxHeartbeats 16000000 in
theorem planRun_any (h : PoolH) (p : Pool) (G : Good p) (w : World) (hA : PoolAt w w.heap.size h p.i) :
    Calls Try.prog 53 #[poolN h p] w fun e w' => e = .returned (.agg (planC 0 (planD p))) ∧ Below w.heap.size w w' := by
  have hmm := @run_makeMap Try.prog
  have HA := Lib.hid hA
  have hn3 := G.n3
  have hf5 := G.f5
  have HCV := Lib.hid (fun (s : Nat) (hs : s < p.needs.length) (w0 : World) (hw : PoolAt w0 w0.heap.size h p.i) => covering_any h p G s w0 hw hs)
  have HBT := Lib.hid (fun (ga : Option Addr) (gc mb : Nat) (w0 : World) (hl : ∀ i, i < 8 → fillF p.most p.folk.length i ≤ 1000) (hP : PlanAt w0 w0.heap.size h p ga mb []) => best_any h p G ga gc mb p.needs.length 0 (fillF p.most p.folk.length) [] w0 (Nat.zero_add _) hl hP)
  clear hA
  obtain ⟨PO, hPO⟩ : ∃ z : Ending → World → Prop, (fun e w' => e = Ending.returned (.agg (planC 0 (planD p))) ∧ Below w.heap.size w w') = z := ⟨_, rfl⟩
  have HPO : Hid (∀ w' v, v = planC 0 (planD p) → Below w.heap.size w w' → PO (Ending.returned (.agg v)) w') := Lib.hid (fun w' v h0 h1 => by rw [← hPO]; exact ⟨by rw [h0], h1⟩)
  rw [hPO]
  clear hPO
  obtain ⟨fa, fc, na, nc⟩ := h
  go_enter Try.func53, Try.ntmps53
  go_upto_region 1 with fail
  obtain ⟨W, hW, hg, hf, hz, hsz⟩ := two_blocks w 73 89 (cellsN ⟨fa, fc, na, nc⟩ p) zeroPl
  rw [hW]
  clear hW
  have hfc := hf.cell
  go_upto_region 2 with fail
  clear hmm hfc
  obtain ⟨mb, hmb⟩ : ∃ z, W.heap.size = z := ⟨_, rfl⟩
  obtain ⟨W2, hW2⟩ : ∃ z, (W.alloc (Obj.map #[] 0)).alloc (Obj.cells (cellsG ⟨fa, fc, na, nc⟩ p none 0 0 mb) 109) = z := ⟨_, rfl⟩
  have HGW : Hid (Grow W W2) := Lib.hid (by rw [← hW2]; exact (Grow.alloc _ _).trans (Grow.alloc _ _))
  have HM : Hid (KnownAt W2 mb []) := Lib.hid (by rw [← hW2, ← hmb]; exact (Below.heap_alloc _ _ _ (by simp)).trans (heap_alloc_new W _))
  have HX : Hid (BlockIs W2 (mb + 1) 109 (cellsG ⟨fa, fc, na, nc⟩ p none 0 0 mb)) := Lib.hid (by rw [← hW2, ← hmb]; have h := BlockIs.new (W.alloc (Obj.map #[] 0)) 109 (cellsG ⟨fa, fc, na, nc⟩ p none 0 0 W.heap.size); simpa using h)
  have HZ2 : Hid (W2.heap.size = mb + 1 + 1) := Lib.hid (by rw [← hW2, ← hmb]; simp)
  have hwm : w.heap.size + 1 < mb := by omega
  have HG2 : Hid (Grow w W2) := Lib.hid (hg.trans HGW.out)
  have HP2 := Lib.hid (HGW.out.block hf)
  have HZP2 := Lib.hid (HGW.out.block hz)
  rw [hmb, hW2]
  clear hW2 hmb hg hf hz hsz HGW
  clear W
  have hfc := HP2.out.cell
  go_wp2_with fail
  clear hfc
  go_loopw [14] (fun iv wr => ∃ (k : Nat) (A : Option Addr) (cap : Nat) (us : List Value), k ≤ p.needs.length ∧ iv = .int .i64 (k : Nat) ∧ Hid (BlockIs wr (mb + 1) 109 (cellsG ⟨fa, fc, na, nc⟩ p A k cap mb)) ∧ Hid (wr.ownsRow (mb + 1 + 1) 74 1 (.slice A k cap) k us) ∧ Hid (∀ i, i < k → ∃ u, us[i]? = some u ∧ ElemR wr (mb + 1 + 1) (coveringD p i) u) ∧ Hid (Below (mb + 1) W2 wr)) (fun iv _ => p.needs.length - (intOf iv).toNat)
  case atStart => exact ⟨0, none, 0, [], Nat.zero_le _, rfl, HX, Lib.hid ⟨rfl, .inl ⟨rfl, rfl⟩⟩, Lib.hid (fun i hi => by omega), Lib.hid (Below.refl _ _)⟩
  case round =>
    obtain ⟨k, A, cap, us, hk, rfl, HXB, HOW, HEL, HBW⟩ := hrel
    rename World => wr
    have HZR : Hid (mb + 1 + 1 ≤ wr.heap.size) := Lib.hid (by have h1 := HBW.out.size; have h2 := HZ2.out; omega)
    have HPB := Lib.hid (HP2.out.below HBW.out (by omega))
    by_cases hlt : k < p.needs.length
    · have hd : decide ((k : Int) < (p.needs.length : Int)) = true := decide_eq_true (by omega)
      have HUL : Hid (us.length = k) := Lib.hid (by have := HOW.out.1; omega)
      obtain ⟨gg, hRG, hgg⟩ := row_g HOW.out HZR.out
      have HRG := Lib.hid hRG
      have HGG := Lib.hid hgg
      have HCK := Lib.hid (HCV.out k hlt)
      have HSN := Lib.hid (fun (w0 : World) (u : Value) (h1 : ∀ i, i < k → ∃ u, us[i]? = some u ∧ ElemR w0 (mb + 1 + 1) (coveringD p i) u) (h2 : ElemR w0 (mb + 1 + 1) (coveringD p k) u) => snoc_elems (u := u) HUL.out h1 h2)
      obtain ⟨row, hrow⟩ : ∃ z, coveringD p k = z := ⟨_, rfl⟩
      rw [hrow] at HSN HCK
      clear hRG hgg hrow
      obtain ⟨lo, hlo⟩ : ∃ q, wr.heap.size = q := ⟨_, rfl⟩
      have HLO := Lib.hid hlo
      rw [hlo] at HRG HZR
      clear hlo
      go_upto_region 5 with fail
      clear hd
      have HGR0 : Hid (Below w.heap.size w wr) := Lib.hid (HG2.out.trans' (HBW.out.mono (by omega)))
      refine wp_region_lit 8 [[], [(0, 17)], [], [], [(2, 19), (3, 20)], [(4, 21)], [(1, 18), (5, 22)], []] (TurnR gg k lo row) (fun qi v w' => match qi with
          | 0 => v = .pointer (some ⟨mb + 1, 4, none⟩)
          | 1 => v = .slice A k cap
          | 2 => v = poolN ⟨fa, fc, na, nc⟩ p
          | 3 => v = .int .i64 (k : Nat)
          | 4 => ElemR w' lo row v
          | 5 => NewS lo row v w'
          | 6 => OwnS gg lo (mb + 1 + 1) k us row v w'
          | 7 => v = .pointer (some ⟨mb + 1, 4, none⟩)
          | _ => False) (by kernel_rfl) (by kernel_rfl) (fun _ _ _ => TurnR.trans) (TurnR.refl _ _ _ _) ?_ ?_ ?_
      · intro i v y y' h k
        match i, h with
        | 4, h => exact h.turn k
        | 5, h => exact h.turn k
        | 6, h => exact h.turn k
        | 0, h | 1, h | 2, h | 3, h | 7, h => exact h
      · simp only [StepsLit, List.take_succ_cons, List.take_zero]
        refine ⟨?_, ?_, ?_, ?_, ?_, ?_, ?_, ?_, trivial⟩
        · intro w5 hR
          have hGw : (TurnR gg k lo row) wr w5 := hR.of_drew
          have HGW := Lib.hid hGw
          have hz5 : lo ≤ w5.heap.size := by rw [← HLO.out]; exact hGw.size
          have hb5 : Below (mb + 1 + 1) wr w5 := hGw.below HGG.out (by rw [HLO.out]; exact HZR.out)
          have HP5 := Lib.hid (HPB.out.below hb5 (by omega))
          have hfc := HP5.out.cell
          have hxc := (HXB.out.below hb5 (by omega)).cell
          clear hR hGw
          simp only [depV]
          try go_simp
          all_goals first
            | (with_reducible exact (TurnR.refl _ _ _ _) _)
            | (with_reducible exact ⟨(TurnR.refl _ _ _ _) _, rfl⟩)
        · intro w5 hR
          have hGw : (TurnR gg k lo row) wr w5 := hR.of_drew
          have HGW := Lib.hid hGw
          have hz5 : lo ≤ w5.heap.size := by rw [← HLO.out]; exact hGw.size
          have hb5 : Below (mb + 1 + 1) wr w5 := hGw.below HGG.out (by rw [HLO.out]; exact HZR.out)
          have HP5 := Lib.hid (HPB.out.below hb5 (by omega))
          have hfc := HP5.out.cell
          have hxc := (HXB.out.below hb5 (by omega)).cell
          clear hR hGw
          simp only [depV]
          rintro _ rfl
          try go_simp
          all_goals first
            | (with_reducible exact (TurnR.refl _ _ _ _) _)
            | (with_reducible exact ⟨(TurnR.refl _ _ _ _) _, rfl⟩)
        · intro w5 hR
          have hGw : (TurnR gg k lo row) wr w5 := hR.of_drew
          have HGW := Lib.hid hGw
          have hz5 : lo ≤ w5.heap.size := by rw [← HLO.out]; exact hGw.size
          have hb5 : Below (mb + 1 + 1) wr w5 := hGw.below HGG.out (by rw [HLO.out]; exact HZR.out)
          have HP5 := Lib.hid (HPB.out.below hb5 (by omega))
          have hfc := HP5.out.cell
          have hxc := (HXB.out.below hb5 (by omega)).cell
          clear hR hGw
          simp only [depV]
          try go_simp
          all_goals first
            | (with_reducible exact (TurnR.refl _ _ _ _) _)
            | (with_reducible exact ⟨(TurnR.refl _ _ _ _) _, rfl⟩)
        · intro w5 hR
          have hGw : (TurnR gg k lo row) wr w5 := hR.of_drew
          have HGW := Lib.hid hGw
          have hz5 : lo ≤ w5.heap.size := by rw [← HLO.out]; exact hGw.size
          have hb5 : Below (mb + 1 + 1) wr w5 := hGw.below HGG.out (by rw [HLO.out]; exact HZR.out)
          have HP5 := Lib.hid (HPB.out.below hb5 (by omega))
          have hfc := HP5.out.cell
          have hxc := (HXB.out.below hb5 (by omega)).cell
          clear hR hGw
          simp only [depV]
          try go_simp
          all_goals first
            | (with_reducible exact (TurnR.refl _ _ _ _) _)
            | (with_reducible exact ⟨(TurnR.refl _ _ _ _) _, rfl⟩)
        · intro w5 hR
          have hGw : (TurnR gg k lo row) wr w5 := hR.of_drew
          have HGW := Lib.hid hGw
          have hz5 : lo ≤ w5.heap.size := by rw [← HLO.out]; exact hGw.size
          have hb5 : Below (mb + 1 + 1) wr w5 := hGw.below HGG.out (by rw [HLO.out]; exact HZR.out)
          have HP5 := Lib.hid (HPB.out.below hb5 (by omega))
          have hfc := HP5.out.cell
          have hxc := (HXB.out.below hb5 (by omega)).cell
          clear hR hGw
          simp only [depV]
          rintro _ rfl
          rintro _ rfl
          try go_simp
          have hbw : Below w.heap.size w w5 := HGR0.out.trans (hb5.mono (by omega))
          refine (HCK.out w5 ((HA.out.below hbw).more hbw.size)).mono ?_
          rintro e w6 ⟨a, c, rfl, h6, hb6⟩
          exact ⟨TurnR.of_grow hb6, a, c, rfl, h6.mono hz5⟩
        · intro w5 hR
          have hGw : (TurnR gg k lo row) wr w5 := hR.of_drew
          have HGW := Lib.hid hGw
          have hz5 : lo ≤ w5.heap.size := by rw [← HLO.out]; exact hGw.size
          have hb5 : Below (mb + 1 + 1) wr w5 := hGw.below HGG.out (by rw [HLO.out]; exact HZR.out)
          have HP5 := Lib.hid (HPB.out.below hb5 (by omega))
          have hfc := HP5.out.cell
          have hxc := (HXB.out.below hb5 (by omega)).cell
          clear hR hGw
          simp only [depV]
          intro v4 hv4
          obtain ⟨a4, c4, rfl, h4⟩ := hv4
          try go_simp
          exact ⟨TurnR.of_grow (Grow.alloc _ _), _, _, rfl, hz5, BlockIs.new _ _ _, ElemR.grow (w := w5) ⟨a4, c4, rfl, h4⟩ (Grow.alloc _ _)⟩
        · intro w5 hR
          have hGw : (TurnR gg k lo row) wr w5 := hR.of_drew
          have HGW := Lib.hid hGw
          have hz5 : lo ≤ w5.heap.size := by rw [← HLO.out]; exact hGw.size
          have hb5 : Below (mb + 1 + 1) wr w5 := hGw.below HGG.out (by rw [HLO.out]; exact HZR.out)
          have HP5 := Lib.hid (HPB.out.below hb5 (by omega))
          have hfc := HP5.out.cell
          have hxc := (HXB.out.below hb5 (by omega)).cell
          clear hR hGw
          simp only [depV]
          rintro _ rfl
          intro v5 hv5
          obtain ⟨b5, u5, rfl, hb5', hB5, he5⟩ := hv5
          obtain ⟨v', w', hrun, hT, hO⟩ := append_turn (own_turn HOW.out HGW.out HRG.out rfl) HRG.out hz5 hB5 he5 (by have := HZR.out; omega) (by omega)
          refine wp_append_headS (s := .tmp 18) (x := .tmp 22) rfl rfl rfl rfl hrun ?_
          exact ⟨rfl, hT, hO⟩
        · intro w5 hR
          have hGw : (TurnR gg k lo row) wr w5 := hR.of_drew
          have HGW := Lib.hid hGw
          have hz5 : lo ≤ w5.heap.size := by rw [← HLO.out]; exact hGw.size
          have hb5 : Below (mb + 1 + 1) wr w5 := hGw.below HGG.out (by rw [HLO.out]; exact HZR.out)
          have HP5 := Lib.hid (HPB.out.below hb5 (by omega))
          have hfc := HP5.out.cell
          have hxc := (HXB.out.below hb5 (by omega)).cell
          clear hR hGw
          simp only [depV]
          try go_simp
          all_goals first
            | (with_reducible exact (TurnR.refl _ _ _ _) _)
            | (with_reducible exact ⟨(TurnR.refl _ _ _ _) _, rfl⟩)
      · intro w5 hR
        have HG5 : Hid ((TurnR gg k lo row) wr w5) := Lib.hid hR.of_drew
        clear hR
        simp only [finVC, List.take_succ_cons, List.take_zero, List.drop_succ_cons, List.drop_zero]
        rintro _ rfl
        rintro _ rfl
        rintro _ rfl
        rintro _ rfl
        intro v4 hv4
        intro v5 hv5
        intro v6 hv6
        rintro _ rfl
        simp only [Act.put, List.setIfInBounds_toArray, List.set_cons_succ, List.set_cons_zero]
        obtain ⟨b6, c6, u6, rfl, hown6, he6⟩ := hv6.own HUL.out
        have hb5 : Below (mb + 1 + 1) wr w5 := HG5.out.below HGG.out (by rw [HLO.out]; exact HZR.out)
        have HX5 := Lib.hid (HXB.out.below hb5 (by omega))
        have hxc := HX5.out.cell
        have hxf := HX5.out.frozen
        have HXN : Hid (BlockIs (w5.setCell ⟨mb + 1, 4, none⟩ (.slice (some ⟨b6, 0, none⟩) (k + 1) c6)) (mb + 1) 109 (cellsG ⟨fa, fc, na, nc⟩ p (some ⟨b6, 0, none⟩) (k + 1) c6 mb)) := Lib.hid (HX5.out.near 4 _)
        have HON := Lib.hid (own_setC (p := ⟨mb + 1, 4, none⟩) hown6 (by simp) (.slice (some ⟨b6, 0, none⟩) (k + 1) c6))
        have HEN := Lib.hid (HSN.out (w5.setCell ⟨mb + 1, 4, none⟩ (.slice (some ⟨b6, 0, none⟩) (k + 1) c6)) u6 (fun i hi => by
          obtain ⟨u, h1, h2⟩ := HEL.out i hi
          exact ⟨u, h1, (h2.old (by rw [HLO.out]; exact HG5.out) (by rw [HLO.out]; exact HRG.out) HOW.out).setC (by simp) _⟩) ((he6.mono HZR.out).setC (by simp) _))
        have HBN := Lib.hid ((HBW.out.trans (hb5.mono (by omega))).setCell (p := ⟨mb + 1, 4, none⟩) (by simp) (.slice (some ⟨b6, 0, none⟩) (k + 1) c6))
        clear hv4 hv5 hv6 hown6 he6 hb5 HG5
        go_wp2_with fail
        go_roundw
        case rel => exact ⟨k + 1, some ⟨b6, 0, none⟩, c6, us ++ [u6], by omega, by go_num, HXN, HON, HEN, HBN⟩
        case measure => simp [intOf]; omega
    · obtain rfl : k = p.needs.length := by omega
      have hd : decide ((p.needs.length : Int) < (p.needs.length : Int)) = false := decide_eq_false (by omega)
      have HRW : Hid (Rows wr wr.heap.size A (coversL p)) := Lib.hid (own_rowsS HOW.out HEL.out)
      have HZPB := Lib.hid (HZP2.out.below HBW.out (by omega))
      have HKM : Hid (KnownAt wr mb []) := Lib.hid ((HBW.out.block mb (Nat.lt_succ_self _)).trans HM.out)
      have HGR : Hid (Below w.heap.size w wr) := Lib.hid (HG2.out.trans' (HBW.out.mono (by omega)))
      clear HOW HEL hk
      go_upto_region 8 with fail
      obtain ⟨W3, hW3, hg3, hr3, hsz3⟩ := one_block wr 112 zeroR
      rw [hW3]
      clear hW3 hd
      have hfc := (hg3.block HPB.out).cell
      have HP3 := Lib.hid (hg3.block HPB.out)
      have HX3 := Lib.hid (hg3.block HXB.out)
      have HZ3 := Lib.hid (hg3.block HZPB.out)
      have HR3 : Hid (BlockIs W3 wr.heap.size 112 (natCells (0 :: toL (fillF p.most 0)))) := Lib.hid (by rw [show toL (fillF p.most 0) = [0, 0, 0, 0, 0, 0, 0, 0] by simp [toL, fillF]]; exact hr3)
      have HRW3 := Lib.hid (HRW.out.below hg3)
      have HKM3 := Lib.hid (HKM.out.grow hg3)
      have HGR3 : Hid (Below w.heap.size w W3) := Lib.hid (HGR.out.trans (Below.mono hg3 HGR.out.size))
      have hwr : mb + 1 < wr.heap.size := HXB.out.lt
      have HW3s : Hid (wr.heap.size < W3.heap.size) := Lib.hid hsz3
      clear hg3 hr3 HRW HKM HGR HXB HZPB HPB hsz3
      obtain ⟨rb, hrb⟩ : ∃ z, wr.heap.size = z := ⟨_, rfl⟩
      rw [hrb] at HR3 HRW3 hwr HW3s ⊢
      clear hrb
      have hfl8 : p.folk.length < 8 := by omega
      go_wp2_with fail
      clear hfc
      go_loopw [30] (fun iv w4 => ∃ k : Nat, k ≤ p.folk.length ∧ iv = .int .i64 (k : Nat) ∧ Hid (BlockIs w4 rb 112 (natCells (0 :: toL (fillF p.most k)))) ∧ Hid (Below rb W3 w4)) (fun iv _ => p.folk.length - (intOf iv).toNat)
      case atStart => exact ⟨0, Nat.zero_le _, rfl, HR3, Lib.hid (Below.refl _ _)⟩
      case round =>
        obtain ⟨k, hk, rfl, HRB, HB4⟩ := hrel
        rename World => w4
        have HP4 := Lib.hid (HP3.out.below HB4.out (by omega))
        have hfc := HP4.out.cell
        by_cases hlt : k < p.folk.length
        · have hd : decide ((k : Int) < (p.folk.length : Int)) = true := decide_eq_true (by omega)
          have h00 : (0 : Int) ≤ (k : Int) := by omega
          have hk8 : (k : Int) < 8 := by omega
          have hk8n : k < 8 := by omega
          have hrf := HRB.out.frozen (1 + k)
          have hrcell : w4.cell? ⟨rb, 1 + k, none⟩ = some (.int .i64 (fillF p.most k k : Nat)) := by
            rw [HRB.out.cell, Nat.add_comm 1 k]
            exact natCells_at (l := 0 :: toL (fillF p.most k)) (by rw [List.getElem?_cons_succ]; exact toL_at _ hk8n)
          generalize fillF p.most k k = uv at hrcell
          have HN : Hid (BlockIs (w4.setCell ⟨rb, 1 + k, none⟩ (.int .i64 (p.most : Nat))) rb 112 (natCells (0 :: toL (fillF p.most (k + 1))))) := Lib.hid (by
            rw [Nat.add_comm 1 k]
            have h := HRB.out.near (k + 1) (.int .i64 (p.most : Nat))
            rw [natCells_set, List.set_cons_succ, fillP_set hk8n] at h
            exact h)
          have HBN := Lib.hid (HB4.out.setCell (p := ⟨rb, 1 + k, none⟩) (by simp) (.int .i64 (p.most : Nat)))
          go_wp2_with fail
          go_roundw
          case rel => exact ⟨k + 1, by omega, by go_num, HN, HBN⟩
          case measure => simp [intOf]; omega
        · obtain rfl : k = p.folk.length := by omega
          have hd : decide ((p.folk.length : Int) < (p.folk.length : Int)) = false := decide_eq_false (by omega)
          have HX4 := Lib.hid (HX3.out.below HB4.out (by omega))
          have HZ4 := Lib.hid (HZ3.out.below HB4.out (by omega))
          have HG4 : Hid (Below w.heap.size w w4) := Lib.hid (HGR3.out.trans (HB4.out.mono (by omega)))
          have hw4 : rb < w4.heap.size := by have h1 := HW3s.out; have h2 := HB4.out.size; omega
          have HKM4 : Hid (KnownAt w4 mb []) := Lib.hid ((HB4.out.block mb (by omega)).trans HKM3.out)
          have HPL : Hid (PlanAt w4 w4.heap.size ⟨fa, fc, na, nc⟩ p A mb []) := Lib.hid ⟨(HA.out.below HG4.out).more HG4.out.size, (HRW3.out.below HB4.out).more (by omega), HKM4.out, fun y hy => by cases hy⟩
          have HLF : Hid (∀ i, i < 8 → fillF p.most p.folk.length i ≤ 1000) := Lib.hid (fun i _ => by have := G.most; unfold fillF; split <;> omega)
          have HIF := Lib.hid (fun w0 hP => HBT.out A cap mb w0 HLF.out hP)
          rw [planD_fill] at HPO
          obtain ⟨f, hff⟩ : ∃ z, fillF p.most p.folk.length = z := ⟨_, rfl⟩
          rw [hff] at HRB HIF HPO
          obtain ⟨b, hb⟩ : ∃ z, bestD p p.needs.length 0 f = z := ⟨_, rfl⟩
          rw [hb] at HIF HPO
          rw [planC_pl] at HIF HPO
          obtain ⟨c, hc⟩ : ∃ z, tripC b = z := ⟨_, rfl⟩
          obtain ⟨l, hl⟩ : ∃ z, tripL b = z := ⟨_, rfl⟩
          obtain ⟨sf, hsf⟩ : ∃ z, b.isSome = z := ⟨_, rfl⟩
          rw [hc, hl, hsf] at HIF HPO
          clear hff hb hc hl hsf HBT HLF
          have HIC : Hid (∀ w0, PlanAt w0 w0.heap.size ⟨fa, fc, na, nc⟩ p A mb [] → Calls Try.prog 74 #[plannerV ⟨fa, fc, na, nc⟩ p A p.needs.length cap mb, .agg #[.int .i64 0, .int .i64 (f 0 : Nat), .int .i64 (f 1 : Nat), .int .i64 (f 2 : Nat), .int .i64 (f 3 : Nat), .int .i64 (f 4 : Nat), .int .i64 (f 5 : Nat), .int .i64 (f 6 : Nat), .int .i64 (f 7 : Nat)]] w0 fun e w' => e = .returned (.agg #[.int .i64 (gAt 0 l 0 : Nat), .int .i64 (gAt 0 l 1 : Nat), .int .i64 (gAt 0 l 2 : Nat), .int .i64 (gAt 0 l 3 : Nat), .int .i64 (gAt 0 l 4 : Nat), .int .i64 (gAt 0 l 5 : Nat), .int .i64 (c : Nat), .bool sf]) ∧ KeepX mb w0 w') := Lib.hid (fun w0 hP => (HIF.out w0 hP).mono fun e w' h => ⟨h.1, h.2.1⟩)
          have hxc := HX4.out.cell
          have e0 : w4.cell? ⟨rb, 0, none⟩ = some (.int .i64 0) := HRB.out.cell 0
          have e1 : w4.cell? ⟨rb, 1, none⟩ = some (.int .i64 (f 0 : Nat)) := HRB.out.cell 1
          have e2 : w4.cell? ⟨rb, 2, none⟩ = some (.int .i64 (f 1 : Nat)) := HRB.out.cell 2
          have e3 : w4.cell? ⟨rb, 3, none⟩ = some (.int .i64 (f 2 : Nat)) := HRB.out.cell 3
          have e4 : w4.cell? ⟨rb, 4, none⟩ = some (.int .i64 (f 3 : Nat)) := HRB.out.cell 4
          have e5 : w4.cell? ⟨rb, 5, none⟩ = some (.int .i64 (f 4 : Nat)) := HRB.out.cell 5
          have e6 : w4.cell? ⟨rb, 6, none⟩ = some (.int .i64 (f 5 : Nat)) := HRB.out.cell 6
          have e7 : w4.cell? ⟨rb, 7, none⟩ = some (.int .i64 (f 6 : Nat)) := HRB.out.cell 7
          have e8 : w4.cell? ⟨rb, 8, none⟩ = some (.int .i64 (f 7 : Nat)) := HRB.out.cell 8
          go_wp2_with fail
          refine (HIC.out w4 HPL.out).mono ?_
          rintro e w5 ⟨rfl, hkx⟩
          have HK5 := Lib.hid hkx
          have HZ5 := Lib.hid (hkx.blk HKM4.out HZ4.out)
          clear hkx hxc hfc e0 e1 e2 e3 e4 e5 e6 e7 e8
          have hzc := HZ5.out.cell
          have hzf := HZ5.out.frozen
          have H5 := Lib.hid (stores8 HZ5.out (.int .i64 (gAt 0 l 0 : Nat)) (.int .i64 (gAt 0 l 1 : Nat)) (.int .i64 (gAt 0 l 2 : Nat)) (.int .i64 (gAt 0 l 3 : Nat)) (.int .i64 (gAt 0 l 4 : Nat)) (.int .i64 (gAt 0 l 5 : Nat)) (.int .i64 (c : Nat)) (.bool sf))
          have O5 := Lib.hid (only8 w5 (w.heap.size + 1) (.int .i64 (gAt 0 l 0 : Nat)) (.int .i64 (gAt 0 l 1 : Nat)) (.int .i64 (gAt 0 l 2 : Nat)) (.int .i64 (gAt 0 l 3 : Nat)) (.int .i64 (gAt 0 l 4 : Nat)) (.int .i64 (gAt 0 l 5 : Nat)) (.int .i64 (c : Nat)) (.bool sf))
          have HBF : Hid (Below w.heap.size w w5) := Lib.hid (HG4.out.trans ⟨HK5.out.os.symm, HK5.out.tape.symm, HK5.out.output.symm, HK5.out.size, fun k hk => HK5.out.block k (by omega) (by omega)⟩)
          go_wp2
          refine bodyPost_ret (results_plan Try.results53 _ _ _ _ _ _ _ _ _ _ _ H5.out rfl) rfl (HPO.out _ _ rfl (HBF.out.trans ⟨O5.out.os.symm, O5.out.tape.symm, O5.out.output.symm, by have := O5.out.size; omega, fun k hk => O5.out.block k (by omega)⟩))

end Go.Proofs.Ytcgnibfcjadnjaa
