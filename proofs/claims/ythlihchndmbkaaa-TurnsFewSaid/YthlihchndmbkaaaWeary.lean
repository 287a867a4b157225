/- Weary: turns.Weary. -/
import Derived.Test.YthlihchndmbkaaaLongM
import Derived.Test.YthlihchndmbkaaaRegionP
namespace Go.Proofs.Ythlihchndmbkaaa
open Go.RowKit

/-- spans, as pairs of numbers, at A, in a block below B -/
def SpansAt (w : World) (B : Nat) (A : Option Addr) (l : List (Int × Int)) : Prop :=
  l = [] ∨ ∃ b, A = some ⟨b, 0, none⟩ ∧ b < B ∧ ∀ (i : Nat) (p : Int × Int), l[i]? = some p → w.cell? ⟨b, i * 2, none⟩ = some (.int .i64 p.1) ∧ w.cell? ⟨b, i * 2 + 1, none⟩ = some (.int .i64 p.2)
theorem SpansAt.below {w w' : World} {B : Nat} {A : Option Addr} {l : List (Int × Int)} (h : SpansAt w B A l) (hb : Below B w w') : SpansAt w' B A l := by
  rcases h with h | ⟨b, e, h1, h2⟩
  · exact .inl h
  · exact .inr ⟨b, e, h1, fun i p hp => ⟨(hb.cell (p := ⟨b, i * 2, none⟩) h1).trans (h2 i p hp).1, (hb.cell (p := ⟨b, i * 2 + 1, none⟩) h1).trans (h2 i p hp).2⟩⟩
/-- a row with room for r spans, of which the first are l -/
def SpanRow (w : World) (b r : Nat) (l : List (Int × Int)) : Prop := ∃ cs : Array Value, BlockIs w b 47 cs ∧ cs.size = r * 2 ∧ ∀ (i : Nat) (p : Int × Int), l[i]? = some p → cs[i * 2]? = some (.int .i64 p.1) ∧ cs[i * 2 + 1]? = some (.int .i64 p.2)
theorem SpanRow.keep {w w' : World} {b r : Nat} {l : List (Int × Int)} (h : SpanRow w b r l) (e : w'.heap[b]? = w.heap[b]?) : SpanRow w' b r l := by
  obtain ⟨cs, h1, h2, h3⟩ := h
  exact ⟨cs, e.trans h1, h2, h3⟩
theorem SpanRow.lt {w : World} {b r : Nat} {l : List (Int × Int)} (h : SpanRow w b r l) : b < w.heap.size := h.choose_spec.1.lt
theorem SpanRow.spot {w : World} {b r : Nat} {l : List (Int × Int)} (h : SpanRow w b r l) {k : Nat} (hk : k < r * 2) : (∃ v, w.cell? ⟨b, k, none⟩ = some v) ∧ w.frozen? ⟨b, k, none⟩ = false := by
  obtain ⟨cs, h1, h2, _⟩ := h
  refine ⟨⟨cs[k]'(by omega), ?_⟩, h1.frozen k⟩
  rw [h1.cell]
  exact Array.getElem?_eq_getElem (by omega)
theorem SpanRow.put {w : World} {b r : Nat} {l : List (Int × Int)} (h : SpanRow w b r l) (hl : l.length < r) (x y : Int) : SpanRow ((w.setCell ⟨b, l.length * 2, none⟩ (.int .i64 x)).setCell ⟨b, l.length * 2 + 1, none⟩ (.int .i64 y)) b r (l ++ [(x, y)]) := by
  obtain ⟨cs, h1, h2, h3⟩ := h
  refine ⟨_, (h1.near (l.length * 2) (.int .i64 x)).near (l.length * 2 + 1) (.int .i64 y), by simp [h2], fun i p hi => ?_⟩
  simp only [Array.getElem?_setIfInBounds, Array.size_setIfInBounds]
  by_cases e : i < l.length
  · rw [List.getElem?_append_left e] at hi
    have := h3 i p hi
    rw [if_neg (by omega), if_neg (by omega), if_neg (by omega), if_neg (by omega)]
    exact this
  · have hlt := lt_of_at hi
    simp at hlt
    obtain rfl : i = l.length := by omega
    simp at hi
    subst hi
    rw [if_neg (by omega), if_pos rfl, if_pos (by omega), if_pos rfl, if_pos (by omega)]
    exact ⟨rfl, rfl⟩
theorem SpanRow.full {w : World} {b r : Nat} {l : List (Int × Int)} (h : SpanRow w b r l) : SpansAt w w.heap.size (some ⟨b, 0, none⟩) l := by
  obtain ⟨cs, h1, _, h3⟩ := h
  exact .inr ⟨b, rfl, h1.lt, fun i p hi => by rw [h1.cell, h1.cell]; exact h3 i p hi⟩
theorem Try.infoSpan : (Try.prog.info? 47).map (fun i => (i.zero, i.size, i.bytes)) = some (some (.agg #[.int .i64 0, .int .i64 0]), 2, 16) := by kernel_rfl
theorem make_spans (ln : Nat) (w : World) (hl : ln ≤ 10) : (Instr.makeSlice 43 (.int .i64 (ln : Int)) (.int .i64 (ln : Int))).run Try.prog w = .ok (.slice (some ⟨w.heap.size, 0, none⟩) ln ln) (w.alloc (.cells (madeCells #[.int .i64 0, .int .i64 0] (ln * 2)) 47)) := by
  obtain ⟨i0, hi, hz0, hz1, hz2⟩ := info_parts Try.infoSpan
  have h := run_make (P := Try.prog) w 43 47 i0 (.agg #[.int .i64 0, .int .i64 0]) Try.underlying43 hi hz0 .i64 .i64 ln ln (by omega) (Int.le_refl _) (by rw [hz2]; omega) (by omega)
  rw [hz1, Int.toNat_natCast] at h
  exact h
/-- the spans of weariness before a part -/
def wearyL (t : TaskD) (xs : List Int) (part : Nat) : List (Int × Int) := (List.range t.hands.length).map fun h => ((afterD false t (natsOf (xs.take part))).get h, (afterD true t (natsOf (xs.take part))).get h)
def wearyErr (t : TaskD) (xs : List Int) (part : Int) : Int := if okTask t = true then if okRota t xs = true then if 0 ≤ part ∧ part ≤ (t.parts.length : Int) then 0 else 1 else 41 else 40
theorem results_two67 {fn : Func} (h : fn.results = #[.tmp 6, .tmp 7]) (t : Array Value) (W : World) (u1 u2 : Value) (h1 : t.getD 6 undef = u1) (h2 : t.getD 7 undef = u2) :
    (results fn t).run Try.prog W = .ok (.tuple #[u1, u2]) W := by
  simp only [results, h]
  simp at h1 h2
  simp [go_sem, h1, h2]

/-- the heads p and q leave different values -/
def Apart (p q i j : Nat) (v u : Value) : Prop := (i = p ∧ j = q) ∨ (i = q ∧ j = p) → v ≠ u
theorem Apart.other {p q i : Nat} (h1 : i ≠ p) (h2 : i ≠ q) (j : Nat) (v u : Value) : Apart p q i j v u ∧ Apart p q j i u v := ⟨fun h => by omega, fun h => by omega⟩
theorem Apart.fresh {p q i : Nat} {a : Nat} (_hpq : i = p ∨ i = q) (j : Nat) (u : Value) (h : j = p ∨ j = q → ∃ b, u = .pointer (some ⟨b, 0, none⟩) ∧ b < a) : Apart p q i j (.pointer (some ⟨a, 0, none⟩)) u ∧ Apart p q j i u (.pointer (some ⟨a, 0, none⟩)) := by
  refine ⟨fun hh e => ?_, fun hh e => ?_⟩
  all_goals
    obtain ⟨b, rfl, hb⟩ := h (by omega)
    injection e with e
    injection e with e
    injection e with e
    omega
abbrev zerosS : Array Value := #[.int .i64 0, .int .i64 0, .int .i64 0, .int .i64 0, .int .i64 0, .int .i64 0]
def NewState (lo : Nat) (v : Value) (w : World) : Prop := ∃ b, v = .pointer (some ⟨b, 0, none⟩) ∧ lo ≤ b ∧ BlockIs w b 77 zerosS
theorem NewState.grow {lo : Nat} {v : Value} {x y : World} (h : NewState lo v x) (k : Grow x y) : NewState lo v y := by
  obtain ⟨b, h1, h2, h3⟩ := h
  exact ⟨b, h1, h2, k.block h3⟩

set_option maxRecDepth 100000 in
set_option maxHeartbeats 16000000 in
theorem weary_any (t : TaskR) (xs : List Int) (A1 : Option Addr) (c1 : Nat) (part : Nat) (n : Nat) (w : World) (ht : TaskAt w n t) (h1 : Ints w n A1 xs) (hn : n ≤ w.heap.size) (hc : xs.length ≤ c1) (hok : okTask t.d = true) (hr : okRota t.d xs = true) (hp : part ≤ t.d.parts.length) :
    Calls Try.prog 22 #[taskV t, .slice A1 xs.length c1, .int .i64 part] w fun e w' => (∃ A, e = .returned (.tuple #[.slice A t.d.hands.length t.d.hands.length, .int .i64 0]) ∧ SpansAt w' w'.heap.size A (wearyL t.d xs part)) ∧ Below w.heap.size w w' := by
  obtain ⟨q1, q2, q3⟩ := okRota_parts hr
  have hparts := okTask_parts hok
  obtain ⟨bA, oA, rfl⟩ : ∃ b off, A1 = some ⟨b, off, none⟩ := by
    rcases h1 with e | ⟨b, off, e, _⟩
    · rw [e] at q1; simp at q1; omega
    · exact ⟨b, off, e⟩
  have HV := Lib.hid (fun (w0 : World) (hw : Grow w w0) => readRota_any t xs (some ⟨bA, oA, none⟩) c1 w.heap.size w0 ((ht.more hn).below hw) ((h1.more hn).below hw) hw.size)
  rw [(readRota_good hok hr).1] at HV
  have ht1 : natsL (natsOf (xs.take part)) = xs.take part := by
    have e : natsOf (xs.take part) = (natsOf xs).take part := by unfold natsOf; rw [List.map_take]
    rw [e]
    have h := congrArg (List.take part) q2
    rwa [← List.map_take] at h
  have ht2 : ∀ h ∈ natsOf (xs.take part), h < t.d.hands.length := fun h hh => by
    have e : natsOf (xs.take part) = (natsOf xs).take part := by unfold natsOf; rw [List.map_take]
    rw [e] at hh
    exact q3 h (List.mem_of_mem_take hh)
  have ht3 : (natsOf (xs.take part)).length = part := by rw [natsOf_len, List.length_take]; omega
  have hAB := fun (w0 : World) (hw : Grow w w0) => after_any false 67 68 endFn_low endFn_high t (natsOf (xs.take part)) (some ⟨bA, oA, none⟩) c1 w.heap.size w0 ((ht.more hn).below hw) hw.size hok (by rw [ht1]; exact ((h1.more hn).below hw).take part) ht2 (by rw [ht3]; exact hp)
  have hAW := fun (w0 : World) (hw : Grow w w0) => after_any true 68 67 endFn_high endFn_low t (natsOf (xs.take part)) (some ⟨bA, oA, none⟩) c1 w.heap.size w0 ((ht.more hn).below hw) hw.size hok (by rw [ht1]; exact ((h1.more hn).below hw).take part) ht2 (by rw [ht3]; exact hp)
  rw [ht3] at hAB hAW
  have HAB := Lib.hid hAB
  have HAW := Lib.hid hAW
  have HWL : Hid (wearyL t.d xs part = (List.range t.d.hands.length).map fun h => ((afterD false t.d (natsOf (xs.take part))).get h, (afterD true t.d (natsOf (xs.take part))).get h)) := rfl
  have hl3 := hparts.1.2
  have HMK := Lib.hid (fun (w0 : World) => make_spans t.d.hands.length w0 (by omega))
  have hpc : (part : Int) ≤ (c1 : Int) := by omega
  have HPX : Hid ((part : Int) ≤ (xs.length : Int)) := Lib.hid (by omega)
  have hp0 : (0 : Int) ≤ (part : Int) := by omega
  have hplt : (part : Int) ≤ (t.d.parts.length : Int) := by omega
  have HIN : Hid (inB (part : Int) 0 (t.d.parts.length : Int) = true) := Lib.hid (inB_iff.2 ⟨hp0, hplt⟩)
  clear ht h1 hn hok hr q1 q2 q3 ht1 ht2 ht3 hparts hAB hAW hp
  generalize afterD false t.d (natsOf (xs.take part)) = sb at HAB HWL
  generalize afterD true t.d (natsOf (xs.take part)) = sw at HAW HWL
  generalize wearyL t.d xs part = wl at HWL ⊢
  go_enter Try.func22, Try.ntmps22
  go_upto_region 1 with fail
  obtain ⟨W, hW, hg, hf, hsz⟩ := one_block w 25 (cellsT t)
  rw [hW]
  clear hW
  have htc := hf.cell
  have HG := Lib.hid hg
  clear hf hg
  go_wp2_with fail
  refine (HV.out _ HG.out).mono ?_
  rintro e w2 ⟨rfl, hb2⟩
  have HG2 : Hid (Grow W w2) := hb2
  clear htc hb2
  go_upto_region 2 with fail
  obtain ⟨W3, hW3, hg3, hs3, hsz3⟩ := one_block w2 67 (cellsT t)
  rw [hW3]
  clear hW3
  obtain ⟨b8, e8⟩ : ∃ q, w2.heap.size = q := ⟨_, rfl⟩
  rw [e8] at hs3 hsz3 ⊢
  have HG3 : Hid (Grow W W3) := HG2.out.trans hg3
  have HS3 := Lib.hid hs3
  have hsc := hs3.cell
  clear hg3 hs3
  go_wp2_with fail
  refine (within_any _ _ _ _).mono ?_
  rintro e w' ⟨rfl, rfl⟩
  rw [HIN.out]
  go_upto_region 6 with fail
  have hpx : (part : Int) ≤ (xs.length : Int) := HPX.out
  refine wp_region_litP 14 [[], [(0, 30)], [], [], [(2, 32), (3, 33)], [(1, 31), (4, 34)], [], [(6, 36)], [], [], [(8, 38), (9, 39)], [(7, 37), (10, 40)], [], []] Grow (fun i v w' => match i with
      | 0 => v = taskV t
      | 1 => v = courseV 67 68 t
      | 2 => v = .slice (some ⟨bA, oA, none⟩) xs.length c1
      | 3 => v = .int .i64 part
      | 4 => v = .slice (some ⟨bA, oA, none⟩) part c1
      | 5 => v = stV sb
      | 6 => v = taskV t
      | 7 => v = courseV 68 67 t
      | 8 => v = .slice (some ⟨bA, oA, none⟩) xs.length c1
      | 9 => v = .int .i64 part
      | 10 => v = .slice (some ⟨bA, oA, none⟩) part c1
      | 11 => v = stV sw
      | 12 => NewState W3.heap.size v w'
      | 13 => NewState W3.heap.size v w'
      | _ => False) (Apart 12 13) (by kernel_rfl) (by kernel_rfl) (fun _ _ _ => Grow.trans) Grow.refl ?_ ?_ ?_
  · intro i v y y' h k
    match i, h with
    | 12, h => exact h.grow k
    | 13, h => exact h.grow k
    | 0, h | 1, h | 2, h | 3, h | 4, h | 5, h | 6, h | 7, h | 8, h | 9, h | 10, h | 11, h => exact h
  · simp only [StepsLitP, List.take_succ_cons, List.take_zero]
    refine ⟨?_, ?_, ?_, ?_, ?_, ?_, ?_, ?_, ?_, ?_, ?_, ?_, ?_, ?_, trivial⟩
    all_goals
      intro w5 hR
      have hGw : Grow W3 w5 := hR.of_drew
      have HGW := Lib.hid hGw
      have hsc := (hGw.block HS3.out).cell
      have hz5 : W3.heap.size ≤ w5.heap.size := hGw.size
      clear hR hGw
      simp only [depV]
      repeat (rintro _ rfl)
      try go_simp
    all_goals first
      | (with_reducible exact ⟨Grow.refl _, rfl, fun j u _ _ => Apart.other (by decide) (by decide) j _ u⟩)
      | (with_reducible exact ⟨Grow.refl _, fun j u _ _ => Apart.other (by decide) (by decide) j _ u⟩)
      | skip
    · refine (best_any _ _).mono ?_
      rintro e w6 ⟨rfl, hb6⟩
      exact ⟨hb6, rfl, fun j u _ _ => Apart.other (by decide) (by decide) j _ u⟩
    · refine (HAB.out _ (HG.out.trans (HG3.out.trans HGW.out))).mono ?_
      rintro e w6 ⟨rfl, hb6⟩
      exact ⟨hb6, rfl, fun j u _ _ => Apart.other (by decide) (by decide) j _ u⟩
    · refine (worst_any _ _).mono ?_
      rintro e w6 ⟨rfl, hb6⟩
      exact ⟨hb6, rfl, fun j u _ _ => Apart.other (by decide) (by decide) j _ u⟩
    · refine (HAW.out _ (HG.out.trans (HG3.out.trans HGW.out))).mono ?_
      rintro e w6 ⟨rfl, hb6⟩
      exact ⟨hb6, rfl, fun j u _ _ => Apart.other (by decide) (by decide) j _ u⟩
    · refine ⟨Grow.alloc _ _, ⟨_, rfl, hz5, BlockIs.new _ _ _⟩, fun j u _ hj => Apart.fresh (.inl rfl) j u fun h => ?_⟩
      rcases h with rfl | rfl
      all_goals
        obtain ⟨b, e, _, hb⟩ : NewState W3.heap.size u w5 := hj
        exact ⟨b, e, hb.lt⟩
    · refine ⟨Grow.alloc _ _, ⟨_, rfl, hz5, BlockIs.new _ _ _⟩, fun j u _ hj => Apart.fresh (.inr rfl) j u fun h => ?_⟩
      rcases h with rfl | rfl
      all_goals
        obtain ⟨b, e, _, hb⟩ : NewState W3.heap.size u w5 := hj
        exact ⟨b, e, hb.lt⟩
  · intro w5 hR
    have HG5 : Hid (Grow W3 w5) := Lib.hid hR.of_drew
    clear hR
    simp only [finVC, List.take_succ_cons, List.take_zero, List.drop_succ_cons, List.drop_zero]
    rintro _ rfl
    rintro _ rfl
    rintro _ rfl
    rintro _ rfl
    rintro _ rfl
    rintro _ rfl
    rintro _ rfl
    rintro _ rfl
    rintro _ rfl
    rintro _ rfl
    rintro _ rfl
    rintro _ rfl
    intro v12 hv12
    intro v13 hv13
    simp only [Act.put, List.setIfInBounds_toArray, List.set_cons_succ, List.set_cons_zero]
    intro hpair
    have hap := hpair 12 13 10 11 (by decide) (by decide) (by decide) rfl rfl (.inl ⟨rfl, rfl⟩)
    obtain ⟨b10, rfl, h10, hB10⟩ := hv12
    obtain ⟨b11, rfl, h11, hB11⟩ := hv13
    have hne : b10 ≠ b11 := fun e => hap (by subst e; rfl)
    clear hpair hap
    have hc10 := hB10.cell
    have hf10 := hB10.frozen
    have hc11 := hB11.cell
    have hf11 := hB11.frozen
    have HB10 := Lib.hid hB10
    have HB11 := Lib.hid hB11
    clear hB10 hB11
    go_upto_region 7 with fail
    obtain ⟨w6, hw6⟩ : ∃ q, ((((((((((((w5.setCell ⟨b10, 0, none⟩ (.int .i64 sb.w0)).setCell ⟨b10, 1, none⟩ (.int .i64 sb.w1)).setCell ⟨b10, 2, none⟩ (.int .i64 sb.w2)).setCell ⟨b10, 3, none⟩ (.int .i64 sb.parts)).setCell ⟨b10, 4, none⟩ (.int .i64 sb.mis)).setCell ⟨b10, 5, none⟩ (.int .i64 sb.last)).setCell ⟨b11, 0, none⟩ (.int .i64 sw.w0)).setCell ⟨b11, 1, none⟩ (.int .i64 sw.w1)).setCell ⟨b11, 2, none⟩ (.int .i64 sw.w2)).setCell ⟨b11, 3, none⟩ (.int .i64 sw.parts)).setCell ⟨b11, 4, none⟩ (.int .i64 sw.mis)).setCell ⟨b11, 5, none⟩ (.int .i64 sw.last)) = q := ⟨_, rfl⟩
    have K10 : Hid (BlockIs w6 b10 77 (cellsS sb)) := Lib.hid (by rw [← hw6]; exact six_far (six_storesS (s := ⟨0, 0, 0, 0, 0, 0⟩) HB10.out sb) hne (.int .i64 sw.w0) (.int .i64 sw.w1) (.int .i64 sw.w2) (.int .i64 sw.parts) (.int .i64 sw.mis) (.int .i64 sw.last))
    have K11 : Hid (BlockIs w6 b11 77 (cellsS sw)) := Lib.hid (by rw [← hw6]; exact six_storesS (s := ⟨0, 0, 0, 0, 0, 0⟩) (six_far HB11.out hne.symm (.int .i64 sb.w0) (.int .i64 sb.w1) (.int .i64 sb.w2) (.int .i64 sb.parts) (.int .i64 sb.mis) (.int .i64 sb.last)) sw)
    have KG : Hid (Grow W3 w6) := Lib.hid (by rw [← hw6]; exact (HG5.out.trans' (six_below (w := w5) (B := W3.heap.size) (b := b10) h10 (.int .i64 sb.w0) (.int .i64 sb.w1) (.int .i64 sb.w2) (.int .i64 sb.parts) (.int .i64 sb.mis) (.int .i64 sb.last))).trans (six_below (w := _) (B := W3.heap.size) (b := b11) h11 (.int .i64 sw.w0) (.int .i64 sw.w1) (.int .i64 sw.w2) (.int .i64 sw.parts) (.int .i64 sw.mis) (.int .i64 sw.last)))
    rw [hw6]
    clear hw6 hc10 hf10 hc11 hf11 HB10 HB11 HG5
    have hsc := (KG.out.block HS3.out).cell
    have hlt8 : b8 < w6.heap.size := (KG.out.block HS3.out).lt
    obtain ⟨ln, hln⟩ : ∃ q, t.d.hands.length = q := ⟨_, rfl⟩
    have hsc0 : w6.cell? ⟨b8, 0, none⟩ = some (.slice t.A ln t.ca) := by rw [← hln]; exact hsc 0
    have HMK1 := HMK.out w6
    have HLN := Lib.hid hln
    rw [hln] at HMK1 HWL hl3 ⊢
    clear hsc hln
    go_upto_region 8 with fail
    obtain ⟨w7, hw7⟩ : ∃ q, w6.alloc (.cells (madeCells #[.int .i64 0, .int .i64 0] (ln * 2)) 47) = q := ⟨_, rfl⟩
    obtain ⟨bp, ebp⟩ : ∃ q, w6.heap.size = q := ⟨_, rfl⟩
    have L10 : Hid (BlockIs w7 b10 77 (cellsS sb)) := Lib.hid (by rw [← hw7]; exact (Grow.alloc _ _).block K10.out)
    have L11 : Hid (BlockIs w7 b11 77 (cellsS sw)) := Lib.hid (by rw [← hw7]; exact (Grow.alloc _ _).block K11.out)
    have LG : Hid (Grow W3 w7) := Lib.hid (by rw [← hw7]; exact KG.out.trans (Grow.alloc _ _))
    have hp10 : b10 < bp := by rw [← ebp]; exact K10.out.lt
    have hp11 : b11 < bp := by rw [← ebp]; exact K11.out.lt
    have hp3 : W3.heap.size ≤ bp := by rw [← ebp]; exact KG.out.size
    have LR : Hid (SpanRow w7 bp ln (wl.take 0)) := Lib.hid (by
      rw [← hw7, ← ebp]
      exact ⟨_, BlockIs.new _ _ _, size_madeCells _ _, fun i x hi => by simp at hi⟩)
    rw [hw7, ebp]
    have hwl : wl.length = ln := by rw [HWL.out]; simp
    have HWK := Lib.hid (fun (k : Nat) (hk : k < ln) => show wl[k]? = some (sb.get k, sw.get k) by rw [HWL.out]; simp [hk])
    have HWLN := Lib.hid hwl
    clear hw7 ebp HMK1 K10 K11 KG hsc0 hlt8 hwl
    go_wp2_with fail
    go_loopw [49] (fun iv wr => ∃ k : Nat, iv = .int .i64 k ∧ k ≤ ln ∧ SpanRow wr bp ln (wl.take k) ∧ Below bp w7 wr) (fun i _ => ln - (intOf i).toNat)
    case atStart => exact ⟨0, rfl, Nat.zero_le _, LR.out, Below.refl _ _⟩
    case round =>
      obtain ⟨k, rfl, hk, hrow, hbw⟩ := hrel
      rename World => wr
      have HRW := Lib.hid hrow
      have HBW := Lib.hid hbw
      clear hrow hbw
      by_cases hlt : k < ln
      · have hld : decide ((k : Int) < (ln : Int)) = true := decide_eq_true (by omega)
        have hldn : decide (k < ln) = true := decide_eq_true hlt
        have hki : (k : Int) < (ln : Int) := by omega
        have hk3 : (k : Int) < 3 := by omega
        have hk0 : (0 : Int) ≤ (k : Int) := by omega
        have hkk3 : k < 3 := by omega
        have M10 := Lib.hid (L10.out.below HBW.out hp10)
        have M11 := Lib.hid (L11.out.below HBW.out hp11)
        go_upto_region 11 with fail
        refine wp_region_lit 12 [[], [], [], [], [(2, 54), (3, 55)], [(4, 56)], [], [], [(6, 58), (7, 59)], [(8, 60)], [(5, 57), (9, 61)], [(0, 52), (1, 53)]] Grow (fun i v w' => match i with
            | 0 => v = .slice (some ⟨bp, 0, none⟩) ln ln
            | 1 => v = .int .i64 k
            | 2 => v = .int .i64 k
            | 3 => v = .pointer (some ⟨b10, 0, none⟩)
            | 4 => v = .pointer (some ⟨b10, k, none⟩)
            | 5 => v = .int .i64 (sb.get k)
            | 6 => v = .int .i64 k
            | 7 => v = .pointer (some ⟨b11, 0, none⟩)
            | 8 => v = .pointer (some ⟨b11, k, none⟩)
            | 9 => v = .int .i64 (sw.get k)
            | 10 => v = spanV (sb.get k) (sw.get k)
            | 11 => v = .pointer (some ⟨bp, k * 2, none⟩)
            | _ => False) (by kernel_rfl) (by kernel_rfl) (fun _ _ _ => Grow.trans) Grow.refl ?_ ?_ ?_
        · intro i v y y' h k
          match i, h with
          | 0, h | 1, h | 2, h | 3, h | 4, h | 5, h | 6, h | 7, h | 8, h | 9, h | 10, h | 11, h => exact h
        · simp only [StepsLit, List.take_succ_cons, List.take_zero]
          refine ⟨?_, ?_, ?_, ?_, ?_, ?_, ?_, ?_, ?_, ?_, ?_, ?_, trivial⟩
          all_goals
            intro w8 hR
            have hGw : Grow wr w8 := hR.of_drew
            have h10k := ((hGw.block M10.out).cell k).trans (StD.cell sb hkk3)
            have h11k := ((hGw.block M11.out).cell k).trans (StD.cell sw hkk3)
            clear hR hGw
            simp only [depV]
            repeat (rintro _ rfl)
            try go_simp
          all_goals first
            | (with_reducible exact Grow.refl _)
            | (with_reducible exact ⟨Grow.refl _, rfl⟩)
            | skip
        · intro w8 hR
          have HG8 : Hid (Grow wr w8) := Lib.hid hR.of_drew
          clear hR
          simp only [finVC, List.take_succ_cons, List.take_zero, List.drop_succ_cons, List.drop_zero]
          rintro _ rfl
          rintro _ rfl
          rintro _ rfl
          rintro _ rfl
          rintro _ rfl
          rintro _ rfl
          rintro _ rfl
          rintro _ rfl
          rintro _ rfl
          rintro _ rfl
          rintro _ rfl
          rintro _ rfl
          simp only [Act.put, List.setIfInBounds_toArray, List.set_cons_succ, List.set_cons_zero]
          have hrow8 : SpanRow w8 bp ln (wl.take k) := HRW.out.keep (Below.block HG8.out bp HRW.out.lt)
          obtain ⟨⟨va, hva⟩, hfa⟩ := hrow8.spot (k := k * 2) (by omega)
          obtain ⟨⟨vb, hvb⟩, hfb⟩ := hrow8.spot (k := k * 2 + 1) (by omega)
          have htl : (wl.take k).length = k := by rw [List.length_take, HWLN.out]; omega
          have hput := hrow8.put (by rw [htl]; exact hlt) (sb.get k) (sw.get k)
          rw [htl, ← take_snoc (HWK.out k hlt)] at hput
          have HPUT := Lib.hid hput
          have HB9 := Lib.hid (((HBW.out.trans (Below.mono HG8.out (Nat.le_of_lt HRW.out.lt))).setCell (p := ⟨bp, k * 2, none⟩) (Nat.le_refl _) (.int .i64 (sb.get k))).setCell (p := ⟨bp, k * 2 + 1, none⟩) (Nat.le_refl _) (.int .i64 (sw.get k)))
          clear hrow8 htl hput
          go_wp2
          go_roundw
          case rel => exact ⟨k + 1, by go_num, hlt, HPUT.out, HB9.out⟩
          case measure => simp [intOf]; omega
      · obtain rfl : k = ln := by omega
        have hld : decide ((k : Int) < (k : Int)) = false := by simp
        have HF : Hid (SpansAt wr wr.heap.size (some ⟨bp, 0, none⟩) wl) := Lib.hid (by
          have h := HRW.out
          rw [← HWLN.out, List.take_length] at h
          exact h.full)
        have HGF : Hid (Grow w wr) := Lib.hid ((HG.out.trans (HG3.out.trans LG.out)).trans' (Below.mono HBW.out (Nat.le_trans (HG.out.trans HG3.out).size hp3)))
        go_wp2
        exact bodyPost_ret (results_two67 Try.results22 _ _ _ _ rfl rfl) rfl ⟨⟨some ⟨bp, 0, none⟩, by rw [HLN.out]; rfl, HF.out⟩, HGF.out⟩

end Go.Proofs.Ythlihchndmbkaaa
