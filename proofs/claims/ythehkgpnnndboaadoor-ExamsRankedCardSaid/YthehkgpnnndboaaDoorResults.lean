/- Results: for each item and each number of points of it the span of the results; written by wip/tools/results9.py. -/
import Derived.Test.YthehkgpnnndboaaDoorRepeat
import Derived.Test.YthehkgpnnndboaaDoorRound
namespace Go.Proofs.YthehkgpnnndboaaDoor
open Go.RowKit Go.Shelf

attribute [local go_sem] Oper.semAt_some

/-- the cells of a row of rows of spans, the first k of them there -/
def cellsR (bs ms : Nat → Nat) (k n : Nat) : Array Value := ((List.range n).map fun i => if i < k then Value.slice (some ⟨bs i, 0, none⟩) (ms i) (ms i) else Value.slice none 0 0).toArray
theorem cellsR_size (bs ms : Nat → Nat) (k n : Nat) : (cellsR bs ms k n).size = n := by unfold cellsR; simp
theorem cellsR_get (bs ms : Nat → Nat) (k n i : Nat) : (cellsR bs ms k n)[i]? = if i < n then some (if i < k then Value.slice (some ⟨bs i, 0, none⟩) (ms i) (ms i) else Value.slice none 0 0) else none := by
  unfold cellsR
  rw [List.getElem?_toArray, List.getElem?_map]
  by_cases h : i < n
  · rw [if_pos h, List.getElem?_range h]; rfl
  · rw [if_neg h, List.getElem?_eq_none (by simp; omega)]; rfl
theorem cellsR_at {bs ms : Nat → Nat} {n i : Nat} (hi : i < n) : (cellsR bs ms n n)[i]? = some (Value.slice (some ⟨bs i, 0, none⟩) (ms i) (ms i)) := by rw [cellsR_get, if_pos hi, if_pos hi]
theorem cellsR_set {bs ms : Nat → Nat} {k n : Nat} (hk : k < n) (b : Nat) : (cellsR bs ms k n).setIfInBounds k (.slice (some ⟨b, 0, none⟩) (ms k) (ms k)) = cellsR (fun i => if i = k then b else bs i) ms (k + 1) n := by
  apply Array.ext_getElem?
  intro i
  rw [Array.getElem?_setIfInBounds, cellsR_size, cellsR_get, cellsR_get]
  by_cases h1 : k = i
  · subst h1
    rw [if_pos rfl, if_pos hk, if_pos hk, if_pos (Nat.lt_succ_self _)]
    simp
  · rw [if_neg h1]
    by_cases h2 : i < n
    · rw [if_pos h2, if_pos h2]
      by_cases h3 : i < k
      · rw [if_pos h3, if_pos (by omega)]
        simp [show i ≠ k by omega]
      · rw [if_neg h3, if_neg (by omega)]
    · rw [if_neg h2, if_neg h2]
theorem Tryd.infoRowS : (Tryd.prog.info? 36).map (fun i => (i.zero, i.size, i.bytes)) = some (some (Value.slice none 0 0), 1, 24) := by kernel_rfl
theorem made_rows (bs ms : Nat → Nat) (n : Nat) : madeCells #[Value.slice none 0 0] n = cellsR bs ms 0 n := by
  apply Array.ext_getElem?
  intro i
  rw [cellsR_get]
  by_cases hi : i < n
  · rw [if_pos hi]
    unfold madeCells
    rw [Array.getElem?_map, Array.getElem?_range, if_pos hi]
    simp [Nat.mod_one]
  · rw [if_neg hi, Array.getElem?_eq_none (by rw [size_madeCells]; omega)]
theorem make_rows (ln : Nat) (w : World) (hl : ln ≤ 100) : (Instr.makeSlice 116 (.int .i64 (ln : Int)) (.int .i64 (ln : Int))).run Tryd.prog w = .ok (.slice (some ⟨w.heap.size, 0, none⟩) ln ln) (w.alloc (.cells (cellsR (fun _ => 0) (fun _ => 0) 0 ln) 36)) := by
  obtain ⟨i0, hi, hz0, hz1, hz2⟩ := info_parts Tryd.infoRowS
  have h := run_make (P := Tryd.prog) w 116 36 i0 (.slice none 0 0) Tryd.underlying116 hi hz0 .i64 .i64 ln ln (by omega) (Int.le_refl _) (by rw [hz2]; omega) (by omega)
  rw [hz1, Int.toNat_natCast, Nat.mul_one] at h
  rw [← made_rows (fun _ => 0) (fun _ => 0)]
  exact h
theorem cellsR_ms (bs ms ms' : Nat → Nat) (n : Nat) : cellsR bs ms 0 n = cellsR bs ms' 0 n := rfl
theorem cellsR_bs (bs bs' ms : Nat → Nat) (n : Nat) : cellsR bs ms 0 n = cellsR bs' ms 0 n := rfl
/-- how many numbers of points an item has -/
def msOf (l : List ItemI) (i : Nat) : Nat := ((l.getD i ⟨0, 0⟩).m + 1).toNat
/-- the rows of spans in their blocks -/
def RowsT (w : World) (bs ms : Nat → Nat) (n : Nat) (f : Nat → Nat → Int × Int) : Prop := ∀ i, i < n → BlockIs w (bs i) 33 (rowC (f i) (ms i))
/-- the spans by some truths -/
def atF (l : List ItemI) (pre : List (List Int)) (i v : Nat) : Int × Int := spanS ((pre.filter fun ps => decide (ps.getD i 0 = (v : Int))).map (resD l))
def midF (l : List ItemI) (pre : List (List Int)) (x : List Int) (k i : Nat) : Nat → Int × Int := if i < k then atF l (pre ++ [x]) i else atF l pre i
theorem atF_snoc (l : List ItemI) (pre : List (List Int)) (x : List Int) {i y : Nat} (hy : x.getD i 0 = (y : Int)) (v : Nat) : atF l (pre ++ [x]) i v = updS (atF l pre i) y (withS (atF l pre i y) (resD l x)) v := by
  unfold atF updS
  rw [List.filter_append]
  by_cases h : v = y
  · subst h
    rw [if_pos rfl, List.filter_cons_of_pos (by rw [decide_eq_true_iff]; exact hy), List.filter_nil, List.map_append]
    exact span_snoc _ _
  · rw [if_neg h, List.filter_cons_of_neg (by rw [decide_eq_true_iff, hy]; omega), List.filter_nil, List.append_nil]
theorem midF_zero (l : List ItemI) (pre : List (List Int)) (x : List Int) (i : Nat) : midF l pre x 0 i = atF l pre i := by unfold midF; rw [if_neg (by omega)]
theorem midF_all (l : List ItemI) (pre : List (List Int)) (x : List Int) {n i : Nat} (hi : i < n) : midF l pre x n i = atF l (pre ++ [x]) i := by unfold midF; rw [if_pos hi]
theorem midF_at (l : List ItemI) (pre : List (List Int)) (x : List Int) (k : Nat) : midF l pre x k k = atF l pre k := by unfold midF; rw [if_neg (by omega)]
theorem midF_succ (l : List ItemI) (pre : List (List Int)) (x : List Int) {k y : Nat} (hy : x.getD k 0 = (y : Int)) (i v : Nat) : midF l pre x (k + 1) i v = if i = k then updS (atF l pre k) y (withS (atF l pre k y) (resD l x)) v else midF l pre x k i v := by
  unfold midF
  by_cases h : i = k
  · subst h
    rw [if_pos rfl, if_pos (by omega)]
    exact atF_snoc l pre x hy v
  · rw [if_neg h]
    by_cases h2 : i < k
    · rw [if_pos (by omega), if_pos h2]
    · rw [if_neg (by omega), if_neg h2]
theorem RowsT.congr {w : World} {bs ms : Nat → Nat} {n : Nat} {f g : Nat → Nat → Int × Int} (h : RowsT w bs ms n f) (e : ∀ i, i < n → ∀ v, f i v = g i v) : RowsT w bs ms n g := fun i hi => by
  have := h i hi
  rwa [rowC_congr fun v _ => e i hi v] at this
theorem RowsT.grow {w w' : World} {bs ms : Nat → Nat} {n : Nat} {f : Nat → Nat → Int × Int} (h : RowsT w bs ms n f) (g : Grow w w') : RowsT w' bs ms n f := fun i hi => g.block (h i hi)
/-- a store into one of the rows -/
theorem RowsT.store {w : World} {bs ms : Nat → Nat} {n k y : Nat} {f : Nat → Nat → Int × Int} (h : RowsT w bs ms n f) (hinj : ∀ i j, i < n → j < n → bs i = bs j → i = j) (hk : k < n) (hy : y < ms k) (v : Int × Int) :
    RowsT ((w.setCell ⟨bs k, y * 2, none⟩ (.int .i64 v.1)).setCell ⟨bs k, y * 2 + 1, none⟩ (.int .i64 v.2)) bs ms n (fun i => if i = k then updS (f k) y v else f i) := fun i hi => by
  by_cases hik : i = k
  · subst hik
    dsimp only
    rw [if_pos rfl, ← rowC_set _ v hy]
    exact ((h i hi).near _ _).near _ _
  · dsimp only
    rw [if_neg hik]
    have hne : bs i ≠ bs k := fun e => hik (hinj i k hi hk e)
    exact ((h i hi).far (p := ⟨bs k, y * 2, none⟩) hne _).far (p := ⟨bs k, y * 2 + 1, none⟩) hne _

set_option maxRecDepth 100000 in
set_option maxHeartbeats 16000000 in
theorem results_any (p : PaperR) (G : GoodP p.d) (w : World) (hA : PaperAt w w.heap.size p) (hG : Glob w) :
    Calls Tryd.prog 78 #[paperV p] w fun e w' => (∃ rb bs, e = .returned (.slice (some ⟨rb, 0, none⟩) p.items.length p.items.length) ∧ BlockIs w' rb 36 (cellsR bs (msOf p.items) p.items.length p.items.length) ∧ RowsT w' bs (msOf p.items) p.items.length (atF p.items (truthsL p.d))) ∧ Below w.heap.size w w' := by
  have HPA := Lib.hid (fun (w0 : World) (hw : Below w.heap.size w w0) => hA.below hw)
  have HGL := Lib.hid (fun (w0 : World) (hw : Grow w w0) => hG.grow hw)
  have h4 : p.items.length ≤ 4 := G.i4
  have HIT := Lib.hid (fun (k : Nat) (x : ItemI) (hx : p.items[k]? = some x) => G.it x (List.mem_of_getElem? hx))
  have hmk : ∀ w0, (Instr.makeSlice 116 (.int .i64 (p.items.length : Int)) (.int .i64 (p.items.length : Int))).run Tryd.prog w0 = .ok (.slice (some ⟨w0.heap.size, 0, none⟩) p.items.length p.items.length) (w0.alloc (.cells (cellsR (fun _ => 0) (fun _ => 0) 0 p.items.length) 36)) := fun w0 => make_rows p.items.length w0 (by omega)
  have hro : Fence.wide.round = none := rfl
  have HREP := Lib.hid (fun q n w0 hq h1 hn => repeat_any noneS q n w0 hq h1 hn)
  clear hA hG
  refine (callsIn_wide (n := 8)).1 ?_
  refine callsIn_of_wp_marks Tryd.func78 rfl trivial ?_ hro
  simp only [Tryd.ntmps78, List.size_toArray, List.length_cons, List.length_nil, Nat.reduceAdd, Nat.reduceSub, Array.replicate_succ, Array.replicate_zero, List.push_toArray, List.append_toArray, List.nil_append, List.cons_append]
  refine wpIn_wide.2 ?_
  go_upto_region 1 with fail
  obtain ⟨W0, hW0, hg0, hf0, hsz0⟩ := one_block w 73 (cellsP p)
  have hz0 : W0.heap.size = w.heap.size + 1 := by rw [← hW0]; simp
  rw [hW0]
  clear hW0
  have hcc := hf0.cell
  go_upto_region 2 with fail
  obtain ⟨W, hW, hg, hrb, hsb, hsz⟩ := two_blocks W0 36 116 (cellsR (fun _ => 0) (fun _ => 0) 0 p.items.length) #[.slice (some ⟨w.heap.size + 1, 0, none⟩) p.items.length p.items.length]
  rw [hW]
  rw [hz0] at hrb hsb hsz
  have HF := Lib.hid (hg.block hf0)
  have HRB := Lib.hid hrb
  have HSB := Lib.hid hsb
  have HG := Lib.hid (hg0.trans hg)
  clear hW hg hrb hsb hcc hg0 hf0 hsz0 hz0 hmk
  have hcc := HF.out.cell
  go_wp2_with fail
  go_loopw [19] (fun iv wr => ∃ (k : Nat) (bs : Nat → Nat), k ≤ p.items.length ∧ iv = .int .i64 (k : Nat) ∧ BlockIs wr (w.heap.size + 1) 36 (cellsR bs (msOf p.items) k p.items.length) ∧ (∀ i, i < k → w.heap.size + 2 < bs i ∧ bs i < wr.heap.size) ∧ (∀ i j, i < j → j < k → bs i < bs j) ∧ RowsT wr bs (msOf p.items) k (atF p.items []) ∧
    BlockIs wr w.heap.size 73 (cellsP p) ∧ BlockIs wr (w.heap.size + 1 + 1) 116 #[.slice (some ⟨w.heap.size + 1, 0, none⟩) p.items.length p.items.length] ∧ Below w.heap.size w wr ∧ w.heap.size + 2 < wr.heap.size) (fun iv _ => p.items.length - (intOf iv).toNat)
  case atStart => exact ⟨0, fun _ => 0, Nat.zero_le _, rfl, HRB.out, fun i hi => by omega, fun i j _ hj => by omega, fun i hi => by omega, HF.out, HSB.out, HG.out, hsz⟩
  case round =>
    obtain ⟨k, bs, hk, rfl, hrb, hbs, hord, hrows, hsv, hsb, hbe, hsz1⟩ := hrel
    rename World => wr
    have HRB1 := Lib.hid hrb
    have HBS := Lib.hid hbs
    have HORD := Lib.hid hord
    have HROW := Lib.hid hrows
    have HSV := Lib.hid hsv
    have HSB1 := Lib.hid hsb
    have HBE := Lib.hid hbe
    clear hrb hbs hord hrows hsv hsb hbe hcc
    have hcc := HSV.out.cell
    by_cases hlt : k < p.items.length
    · have hd : decide ((k : Int) < (p.items.length : Int)) = true := decide_eq_true (by omega)
      obtain ⟨b, off, x, hia, hb, e0, e1, HX⟩ := item_at (HPA.out wr HBE.out) hlt
      have hk0 : (0 : Int) ≤ (k : Int) := by omega
      have hk1 : (k : Int) < (p.items.length : Int) := by omega
      obtain ⟨⟨_, _⟩, m1, m2⟩ := HIT.out k x HX.out
      have HMS : Hid (msOf p.items k = (x.m + 1).toNat) := Lib.hid (by unfold msOf; rw [List.getD_eq_getElem?_getD, show p.items[k]? = some x from HX.out]; rfl)
      obtain ⟨mm, hmm⟩ : ∃ mm : Nat, x.m + 1 = (mm : Int) := ⟨(x.m + 1).toNat, by omega⟩
      have hwm : IntKind.i64.wrap (mm : Int) = (mm : Int) := IntWalk.i64_in _ (by omega)
      have hms : msOf p.items k = mm := by rw [HMS.out, hmm]; rfl
      have hsz4 : wr.cell? ⟨w.heap.size, 0, none⟩ = some (.slice (some ⟨b, off, none⟩) p.items.length p.ic) := (hcc 0).trans (by show some (Value.slice p.ia p.items.length p.ic) = _; rw [hia])
      clear hcc
      go_upto_region 5 with fail
      obtain ⟨W2, hW2, hg2, hit2, hs2⟩ := one_block wr 78 #[.int .i64 x.w, .int .i64 x.m]
      rw [hW2]
      clear hW2
      obtain ⟨ib, hib⟩ : ∃ z, wr.heap.size = z := ⟨_, rfl⟩
      rw [hib] at hit2 hs2 ⊢
      have HIBQ := Lib.hid hib
      have HIT2 := Lib.hid hit2
      have HB2 : Hid (Below w.heap.size w W2) := Lib.hid (HBE.out.trans (Below.mono hg2 HBE.out.size))
      have HSB2 := Lib.hid (hg2.block HSB1.out)
      have HRB2 := Lib.hid (hg2.block HRB1.out)
      have HSV2 := Lib.hid (hg2.block HSV.out)
      have HRW2 := Lib.hid (HROW.out.grow hg2)
      have hmm1 : 1 ≤ mm := by omega
      have hmm2 : mm ≤ 31 := by omega
      clear hg2 hit2 hib e0 e1 hia hsz4
      refine wp_region_lit 9 [[], [], [], [(2, 26)], [], [(4, 28)], [(5, 29)], [(3, 27), (6, 30)], [(0, 24), (1, 25)]] Grow (fun qi v w' => match qi with
          | 0 => v = .slice (some ⟨w.heap.size + 1, 0, none⟩) p.items.length p.items.length
          | 1 => v = .int .i64 (k : Nat)
          | 2 => v = .agg #[.int .i64 1201, .int .i64 (-1)]
          | 3 => ∃ q, v = .slice (some ⟨q, 0, none⟩) 1 1 ∧ BlockIs w' q 33 (cellsS noneS)
          | 4 => v = .pointer (some ⟨ib, 1, none⟩)
          | 5 => v = .int .i64 x.m
          | 6 => v = .int .i64 (mm : Nat)
          | 7 => ∃ q, v = .slice (some ⟨q, 0, none⟩) mm mm ∧ ib < q ∧ BlockIs w' q 33 (rowC (fun _ => noneS) mm)
          | 8 => v = .pointer (some ⟨w.heap.size + 1, k, none⟩)
          | _ => False) (by kernel_rfl) (by kernel_rfl) (fun _ _ _ => Grow.trans) Grow.refl ?_ ?_ ?_
      · intro i v y y' h k
        match i, h with
        | 3, h => let ⟨q, h1, h2⟩ := h; exact ⟨q, h1, Grow.block k h2⟩
        | 7, h => let ⟨q, h1, h2, h3⟩ := h; exact ⟨q, h1, h2, Grow.block k h3⟩
        | 0, h | 1, h | 2, h | 4, h | 5, h | 6, h | 8, h => exact h
      · simp only [StepsLit, List.take_succ_cons, List.take_zero]
        refine ⟨?_, ?_, ?_, ?_, ?_, ?_, ?_, ?_, ?_, trivial⟩
        · intro w5 hR
          have hGw : Grow W2 w5 := hR.of_drew
          have HGW := Lib.hid hGw
          have hcs := (HGW.out.block HSB2.out).cell 0
          have hci := (HGW.out.block HIT2.out).cell 1
          have hgg := HGL.out w5 (HB2.out.trans (Below.mono HGW.out HB2.out.size))
          have hg0 := hgg.lo
          have hg1 := hgg.hi
          have hg2 := hgg.lt
          have hs5 := HGW.out.size
          clear hgg
          clear hR hGw
          simp only [depV]
          try go_simp
          all_goals first
            | (with_reducible exact Grow.refl _)
            | (with_reducible exact ⟨Grow.refl _, rfl⟩)
        · intro w5 hR
          have hGw : Grow W2 w5 := hR.of_drew
          have HGW := Lib.hid hGw
          have hcs := (HGW.out.block HSB2.out).cell 0
          have hci := (HGW.out.block HIT2.out).cell 1
          have hgg := HGL.out w5 (HB2.out.trans (Below.mono HGW.out HB2.out.size))
          have hg0 := hgg.lo
          have hg1 := hgg.hi
          have hg2 := hgg.lt
          have hs5 := HGW.out.size
          clear hgg
          clear hR hGw
          simp only [depV]
          try go_simp
          all_goals first
            | (with_reducible exact Grow.refl _)
            | (with_reducible exact ⟨Grow.refl _, rfl⟩)
        · intro w5 hR
          have hGw : Grow W2 w5 := hR.of_drew
          have HGW := Lib.hid hGw
          have hcs := (HGW.out.block HSB2.out).cell 0
          have hci := (HGW.out.block HIT2.out).cell 1
          have hgg := HGL.out w5 (HB2.out.trans (Below.mono HGW.out HB2.out.size))
          have hg0 := hgg.lo
          have hg1 := hgg.hi
          have hg2 := hgg.lt
          have hs5 := HGW.out.size
          clear hgg
          clear hR hGw
          simp only [depV]
          try go_simp
          all_goals first
            | (with_reducible exact Grow.refl _)
            | (with_reducible exact ⟨Grow.refl _, rfl⟩)
        · intro w5 hR
          have hGw : Grow W2 w5 := hR.of_drew
          have HGW := Lib.hid hGw
          have hcs := (HGW.out.block HSB2.out).cell 0
          have hci := (HGW.out.block HIT2.out).cell 1
          have hgg := HGL.out w5 (HB2.out.trans (Below.mono HGW.out HB2.out.size))
          have hg0 := hgg.lo
          have hg1 := hgg.hi
          have hg2 := hgg.lt
          have hs5 := HGW.out.size
          clear hgg
          clear hR hGw
          simp only [depV]
          rintro _ rfl
          try go_simp
          exact ⟨Grow.alloc _ _, BlockIs.new _ _ _⟩
        · intro w5 hR
          have hGw : Grow W2 w5 := hR.of_drew
          have HGW := Lib.hid hGw
          have hcs := (HGW.out.block HSB2.out).cell 0
          have hci := (HGW.out.block HIT2.out).cell 1
          have hgg := HGL.out w5 (HB2.out.trans (Below.mono HGW.out HB2.out.size))
          have hg0 := hgg.lo
          have hg1 := hgg.hi
          have hg2 := hgg.lt
          have hs5 := HGW.out.size
          clear hgg
          clear hR hGw
          simp only [depV]
          try go_simp
          all_goals first
            | (with_reducible exact Grow.refl _)
            | (with_reducible exact ⟨Grow.refl _, rfl⟩)
        · intro w5 hR
          have hGw : Grow W2 w5 := hR.of_drew
          have HGW := Lib.hid hGw
          have hcs := (HGW.out.block HSB2.out).cell 0
          have hci := (HGW.out.block HIT2.out).cell 1
          have hgg := HGL.out w5 (HB2.out.trans (Below.mono HGW.out HB2.out.size))
          have hg0 := hgg.lo
          have hg1 := hgg.hi
          have hg2 := hgg.lt
          have hs5 := HGW.out.size
          clear hgg
          clear hR hGw
          simp only [depV]
          rintro _ rfl
          try go_simp
          all_goals first
            | (with_reducible exact Grow.refl _)
            | (with_reducible exact ⟨Grow.refl _, rfl⟩)
        · intro w5 hR
          have hGw : Grow W2 w5 := hR.of_drew
          have HGW := Lib.hid hGw
          have hcs := (HGW.out.block HSB2.out).cell 0
          have hci := (HGW.out.block HIT2.out).cell 1
          have hgg := HGL.out w5 (HB2.out.trans (Below.mono HGW.out HB2.out.size))
          have hg0 := hgg.lo
          have hg1 := hgg.hi
          have hg2 := hgg.lt
          have hs5 := HGW.out.size
          clear hgg
          clear hR hGw
          simp only [depV]
          rintro _ rfl
          try go_simp
          all_goals first
            | (with_reducible exact Grow.refl _)
            | (with_reducible exact ⟨Grow.refl _, rfl⟩)
        · intro w5 hR
          have hGw : Grow W2 w5 := hR.of_drew
          have HGW := Lib.hid hGw
          have hcs := (HGW.out.block HSB2.out).cell 0
          have hci := (HGW.out.block HIT2.out).cell 1
          have hgg := HGL.out w5 (HB2.out.trans (Below.mono HGW.out HB2.out.size))
          have hg0 := hgg.lo
          have hg1 := hgg.hi
          have hg2 := hgg.lt
          have hs5 := HGW.out.size
          clear hgg
          clear hR hGw
          simp only [depV]
          intro v3 hv3
          rintro _ rfl
          obtain ⟨q3, rfl, hq3⟩ := hv3
          try go_simp
          refine (HREP.out q3 mm w5 hq3 hmm1 hmm2).mono ?_
          rintro e w6 ⟨rfl, hb6, hg6⟩
          exact ⟨hg6, _, rfl, by omega, hb6⟩
        · intro w5 hR
          have hGw : Grow W2 w5 := hR.of_drew
          have HGW := Lib.hid hGw
          have hcs := (HGW.out.block HSB2.out).cell 0
          have hci := (HGW.out.block HIT2.out).cell 1
          have hgg := HGL.out w5 (HB2.out.trans (Below.mono HGW.out HB2.out.size))
          have hg0 := hgg.lo
          have hg1 := hgg.hi
          have hg2 := hgg.lt
          have hs5 := HGW.out.size
          clear hgg
          clear hR hGw
          simp only [depV]
          rintro _ rfl
          rintro _ rfl
          try go_simp
          all_goals first
            | (with_reducible exact Grow.refl _)
            | (with_reducible exact ⟨Grow.refl _, rfl⟩)
      · intro w5 hR
        have HG5 : Hid (Grow W2 w5) := Lib.hid hR.of_drew
        clear hR
        simp only [finVC, List.take_succ_cons, List.take_zero, List.drop_succ_cons, List.drop_zero]
        rintro _ rfl
        rintro _ rfl
        rintro _ rfl
        intro v3 hv3
        rintro _ rfl
        rintro _ rfl
        rintro _ rfl
        intro v7 hv7
        rintro _ rfl
        simp only [Act.put, List.setIfInBounds_toArray, List.set_cons_succ, List.set_cons_zero]
        obtain ⟨qb, rfl, hqb, hqk⟩ := hv7
        have HQB := Lib.hid hqk
        have HRB5 := Lib.hid (HG5.out.block HRB2.out)
        have hrc := HRB5.out.cell
        have hrf := HRB5.out.frozen
        have hcl : (cellsR bs (msOf p.items) k p.items.length)[k]? = some (Value.slice none 0 0) := by rw [cellsR_get, if_pos hlt, if_neg (Nat.lt_irrefl _)]
        have hrck := (hrc k).trans hcl
        have HN := Lib.hid (cellsR_set (bs := bs) (ms := msOf p.items) hlt qb)
        rw [hms] at HN
        have hqw := hqk.lt
        have hib' := HIBQ.out
        have hibk : w.heap.size + 2 < ib := by omega
        have h5 := HG5.out.size
        clear hib'
        clear hqk hrc hcl
        go_wp2_with fail
        go_roundw
        case rel => exact ⟨k + 1, fun i => if i = k then qb else bs i, by omega, by go_num, by
            rw [← HN.out]
            exact HRB5.out.near k _, fun i hi => by
            dsimp only
            split
            · constructor
              · omega
              · simpa using hqw
            · have := HBS.out i (by omega)
              have hib' := HIBQ.out
              constructor
              · omega
              · simp; omega, fun i j hij hj => by
            dsimp only
            by_cases h1 : j = k
            · subst h1
              rw [if_pos rfl, if_neg (by omega)]
              have := HBS.out i hij
              have hib' := HIBQ.out
              omega
            · rw [if_neg h1, if_neg (by omega)]
              exact HORD.out i j hij (by omega), fun i hi => by
            dsimp only
            by_cases h1 : i = k
            · subst h1
              rw [if_pos rfl, hms]
              exact HQB.out.far (p := ⟨w.heap.size + 1, i, none⟩) (by show qb ≠ w.heap.size + 1; omega) _
            · rw [if_neg h1]
              have hi2 := HBS.out i (by omega)
              exact ((HG5.out.block (HRW2.out i (by omega)))).far (p := ⟨w.heap.size + 1, k, none⟩) (by show bs i ≠ w.heap.size + 1; omega) _, 
            (HG5.out.block HSV2.out).far (p := ⟨w.heap.size + 1, k, none⟩) (by show w.heap.size ≠ w.heap.size + 1; omega) _,
            (HG5.out.block HSB2.out).far (p := ⟨w.heap.size + 1, k, none⟩) (by show w.heap.size + 1 + 1 ≠ w.heap.size + 1; omega) _,
            (HB2.out.trans (Below.mono HG5.out HB2.out.size)).setCell (p := ⟨w.heap.size + 1, k, none⟩) (by show w.heap.size ≤ w.heap.size + 1; omega) _, by have := HG5.out.size; simp; omega⟩
        case measure => simp [intOf]; omega
    · obtain rfl : k = p.items.length := by omega
      have hd : decide ((p.items.length : Int) < (p.items.length : Int)) = false := decide_eq_false (by omega)
      go_wp2_with fail
      refine (wpIn_wide (n := 8)).1 ?_
      refine wpIn_rangeLow (first := #[paperV p]) (lb := #[]) (gf := 50) rfl (enters_of Tryd.func50 (by kernel_rfl) rfl)
        (truths_stops p (good_with G (Int.le_refl 0) (by omega)) w.heap.size w.heap.size wr (HPA.out wr HBE.out) HBE.out.size) HBE.out.size (by omega) (Below.refl _ _) (fun _ => rfl)
        (fun pre W' => RowsT W' bs (msOf p.items) p.items.length (atF p.items pre) ∧ BlockIs W' (w.heap.size + 1) 36 (cellsR bs (msOf p.items) p.items.length p.items.length) ∧ BlockIs W' w.heap.size 73 (cellsP p) ∧ BlockIs W' (w.heap.size + 1 + 1) 116 #[.slice (some ⟨w.heap.size + 1, 0, none⟩) p.items.length p.items.length] ∧ Below w.heap.size w W' ∧ wr.heap.size ≤ W'.heap.size)
        (fun _ _ => False)
        (fun pre A B h g => ⟨fun i hi => (g.block _ (HBS.out i hi).2).trans (h.1 i hi), (g.block _ (by omega)).trans h.2.1, (g.block _ (by omega)).trans h.2.2.1, (g.block _ (by omega)).trans h.2.2.2.1, h.2.2.2.2.1.trans (Below.mono g HBE.out.size), Nat.le_trans h.2.2.2.2.2 g.size⟩)
        (fun _ _ _ h _ => h)
        (fun _ _ h => h.2.2.2.2.2) (fun _ _ h => h.elim)
        ⟨HROW.out, HRB1.out, HSV.out, HSB1.out, HBE.out, Nat.le_refl _⟩
        (fun x a' W' => ∃ tb, wr.heap.size ≤ tb ∧ BlockIs W' tb 81 (cellsT x) ∧ a' = { tmps := #[paperV p, .pointer (some ⟨w.heap.size, 0, none⟩), .slice none 0 0, .pointer (some ⟨w.heap.size + 1 + 1, 0, none⟩), u4, u5, .pointer (some ⟨tb, 0, none⟩), undef, undef, undef, .pointer (some ⟨w.heap.size, 0, none⟩), .pointer (some ⟨w.heap.size, 0, none⟩), .slice p.ia p.items.length p.ic, .int .i64 (p.items.length : Int), .slice (some ⟨w.heap.size + 1, 0, none⟩) p.items.length p.items.length, .pointer (some ⟨w.heap.size, 0, none⟩), .pointer (some ⟨w.heap.size, 0, none⟩), .slice p.ia p.items.length p.ic, .int .i64 (p.items.length : Int), .int .i64 (p.items.length : Int), .bool false, u21, u22, u23, u24, u25, u26, u27, u28, u29, u30, u31, u32, u33, .agg (cellsP p), .func (.func 50) #[.agg (cellsP p)] #[], .agg (cellsT x), .int .i64 (wrongS p.d.judges x : Nat), undef, undef, undef, undef, undef, undef, undef, undef, undef, undef, undef, undef, undef, undef, undef, undef, undef, undef, undef, undef, undef, undef, undef, undef, undef, undef, undef], defers := [] })
        (fun _ _ _ _ _ _ ⟨tb, h1, h2, h3⟩ hg hr => ⟨tb, h1, block_own h2 hg hr, h3⟩)
        ?assign ?body ?done ?stop
      case assign =>
        rintro l pre x W3 K hi hK
        obtain ⟨hrw, hrb, hsv, hsb, hgw, hsw⟩ := hi
        simp only [encT]
        gi_wp2
        have hg3 := Grow.alloc W3 (.cells (cellsT x) 81)
        exact hK _ _ (KeepM.of_grow hg3 hgw.size) ⟨hrw.grow hg3, hg3.block hrb, hg3.block hsv, hg3.block hsb, hgw.trans (Below.mono hg3 hgw.size), Nat.le_trans hsw hg3.size⟩ ⟨W3.heap.size, hsw, BlockIs.new _ _ _, rfl⟩
      case body =>
        rintro l pre x a' W3 hl ⟨r, hr⟩ ⟨hrw, hrb, hsv, hsb, hgw, hsw⟩ ⟨tb, htb, ht, rfl⟩ hpr
        have hmem : x ∈ truthsL p.d := by
          obtain ⟨post, hq⟩ := hpr
          rw [← hq]
          simp
        have hfit : fitsI p.items x = true := by
          have h1 := mem_truths.1 hmem
          unfold possD at h1
          rw [Bool.and_eq_true] at h1
          exact h1.1
        have hn3 : w.heap.size ≤ W3.heap.size := hgw.size
        have HRS := Lib.hid (fun (w0 : World) (hg : Grow W3 w0) => result_any p G x hfit w0 ((HPA.out w0 (Below.trans hgw (Below.mono hg hn3))).more (Nat.le_trans hn3 hg.size)))
        obtain ⟨rs, hrs⟩ : ∃ z, resD p.items x = z := ⟨_, rfl⟩
        rw [hrs] at HRS
        have HFIT := Lib.hid hfit
        have HV := Lib.hid hrw
        have HRB3 := Lib.hid hrb
        have HS := Lib.hid hsv
        have HSB3 := Lib.hid hsb
        have HT := Lib.hid ht
        have HGB := Lib.hid hgw
        have HSW := Lib.hid hsw
        have HRSD := Lib.hid hrs
        have hsc := hsv.cell
        have htc := ht.cell
        clear hmem hfit hrs hrw hrb hsv hsb ht hgw hpr hcc
        gi_wp2_with fail
        refine ⟨trivial, (CallsIn.inRound l (callsIn_wide.2 (HRS.out W3 (Grow.refl _)))).mono ?_⟩
        rintro e w4 ⟨rfl, hb4⟩
        have HG4 : Hid (Grow W3 w4) := Lib.hid hb4
        have HV4 := Lib.hid (HV.out.grow HG4.out)
        have HRB4 := Lib.hid (HG4.out.block HRB3.out)
        have HS4 := Lib.hid (HG4.out.block HS.out)
        have HSB4 := Lib.hid (HG4.out.block HSB3.out)
        have HT4 := Lib.hid (HG4.out.block HT.out)
        have hsc := HS4.out.cell
        clear hb4 htc
        gi_wp2_with fail
        gi_loopw [45] (fun iv wi => ∃ k : Nat, k ≤ p.items.length ∧ iv = .int .i64 (k : Nat) ∧ RowsT wi bs (msOf p.items) p.items.length (midF p.items pre x k) ∧ KeepM w.heap.size w.heap.size wr.heap.size W3 wi ∧ BlockIs wi (w.heap.size + 1) 36 (cellsR bs (msOf p.items) p.items.length p.items.length) ∧ BlockIs wi w.heap.size 73 (cellsP p) ∧ BlockIs wi (w.heap.size + 1 + 1) 116 #[.slice (some ⟨w.heap.size + 1, 0, none⟩) p.items.length p.items.length] ∧ BlockIs wi tb 81 (cellsT x)) (fun iv _ => p.items.length - (intOf iv).toNat)
        case atStart => exact ⟨0, Nat.zero_le _, rfl, HV4.out.congr fun i _ v => by rw [midF_zero], KeepM.of_grow HG4.out hn3, HRB4.out, HS4.out, HSB4.out, HT4.out⟩
        case round =>
          obtain ⟨k, hk, rfl, hrw, hkm, hrb, hsv, hsb, ht⟩ := hrel
          rename World => wi
          have HVi := Lib.hid hrw
          have HKM := Lib.hid hkm
          have HRBi := Lib.hid hrb
          have HSi := Lib.hid hsv
          have HSBi := Lib.hid hsb
          have HTi := Lib.hid ht
          clear hrw hkm hrb hsv hsb ht hsc
          have hsi : wr.heap.size ≤ wi.heap.size := Nat.le_trans HSW.out HKM.out.below.size
          by_cases hlt : k < p.items.length
          · have hd : decide ((k : Int) < (p.items.length : Int)) = true := decide_eq_true (by omega)
            have hk0 : (0 : Int) ≤ (k : Int) := by omega
            have hk1 : (k : Int) < (p.items.length : Int) := by omega
            have hk4 : (k : Int) < 4 := by omega
            have hlen := fitsI_len HFIT.out
            have hxk : x[k]? = some x[k] := List.getElem?_eq_getElem (by omega)
            have hik : p.items[k]? = some p.items[k] := List.getElem?_eq_getElem hlt
            have hfk := fitsI_at HFIT.out hik hxk
            obtain ⟨⟨_, _⟩, m1, m2⟩ := HIT.out k _ hik
            obtain ⟨y, hy⟩ : ∃ y : Nat, x[k] = (y : Int) := ⟨x[k].toNat, by omega⟩
            have hyd : x.getD k 0 = (y : Int) := by rw [List.getD_eq_getElem?_getD, hxk]; exact hy
            obtain ⟨mm, hms⟩ : ∃ mm, msOf p.items k = mm := ⟨_, rfl⟩
            have hym : y < mm := by
              have h1 : msOf p.items k = (p.items[k].m + 1).toNat := by unfold msOf; rw [List.getD_eq_getElem?_getD, hik]; rfl
              omega
            have hy0 : (0 : Int) ≤ (y : Int) := by omega
            have hy1 : (y : Int) < (mm : Int) := by omega
            have HYD := Lib.hid hyd
            have HMS := Lib.hid hms
            have htk : (cellsT x)[k]? = some (.int .i64 (y : Nat)) := by rw [cellsT_at x (by omega), hxk, ← hy]; rfl
            have hrk : (cellsR bs (msOf p.items) p.items.length p.items.length)[k]? = some (Value.slice (some ⟨bs k, 0, none⟩) mm mm) := by rw [cellsR_at hlt, hms]
            have HTK := Lib.hid htk
            have HRK := Lib.hid hrk
            have HBK := Lib.hid (HBS.out k hlt)
            have HBKi : Hid (BlockIs wi (bs k) 33 (rowC (atF p.items pre k) mm)) := Lib.hid (by
              have h1 := HVi.out k hlt
              rw [hms] at h1
              rwa [rowC_congr (g := atF p.items pre k) fun v _ => by rw [midF_at]] at h1)
            have HLO := Lib.hid (rowC_lo (atF p.items pre k) hym)
            have HHI := Lib.hid (rowC_hi (atF p.items pre k) hym)
            obtain ⟨sp, hsp⟩ : ∃ z, atF p.items pre k y = z := ⟨_, rfl⟩
            rw [hsp] at HLO HHI
            have HWT := Lib.hid (fun w0 => with_any sp rs w0)
            have HSP := Lib.hid hsp
            obtain ⟨nw, hnw⟩ : ∃ z, withS sp rs = z := ⟨_, rfl⟩
            rw [hnw] at HWT
            have HNW := Lib.hid hnw
            clear hfk m1 m2 hy hyd hms htk hrk hxk hik hsp hnw hlen
            obtain ⟨s1, s2⟩ := sp
            obtain ⟨n1, n2⟩ := nw
            obtain ⟨kb, hkb⟩ : ∃ z, bs k = z := ⟨_, rfl⟩
            rw [hkb] at HRK HBK HBKi
            have HKB := Lib.hid hkb
            clear hkb
            gi_wp2_with fail
            refine wpIn_region_round 8 [[], [], [(0, 48), (1, 49)], [(2, 50)], [], [(4, 52)], [(5, 53)], [(3, 51), (6, 54)]] Grow (fun qi v w' => match qi with
                | 0 => v = .slice (some ⟨w.heap.size + 1, 0, none⟩) p.items.length p.items.length
                | 1 => v = .int .i64 (k : Nat)
                | 2 => v = .pointer (some ⟨w.heap.size + 1, k, none⟩)
                | 3 => v = .slice (some ⟨kb, 0, none⟩) mm mm
                | 4 => v = .int .i64 (k : Nat)
                | 5 => v = .pointer (some ⟨tb, k, none⟩)
                | 6 => v = .int .i64 (y : Nat)
                | 7 => v = .pointer (some ⟨kb, y * 2, none⟩)
                | _ => False) (by kernel_rfl) (by kernel_rfl) (by kernel_rfl) (fun ⟨_, _, h⟩ => h) (fun _ _ _ => Grow.trans) Grow.refl ?_ ?_ ?_
            · intro i v y y' h k
              match i, h with
              | 0, h | 1, h | 2, h | 3, h | 4, h | 5, h | 6, h | 7, h => exact h
            · simp only [StepsLit, List.take_succ_cons, List.take_zero]
              refine ⟨?_, ?_, ?_, ?_, ?_, ?_, ?_, ?_, trivial⟩
              · intro w5 hR
                have hGw : Grow wi w5 := hR.of_drew
                have HGW := Lib.hid hGw
                have hsbc := (HGW.out.block HSBi.out).cell 0
                have hrbc := ((HGW.out.block HRBi.out).cell k).trans HRK.out
                have htbc := ((HGW.out.block HTi.out).cell k).trans HTK.out
                clear hR hGw
                simp only [depV]
                try go_simp
                all_goals first
                  | (with_reducible exact Grow.refl _)
                  | (with_reducible exact ⟨Grow.refl _, rfl⟩)
              · intro w5 hR
                have hGw : Grow wi w5 := hR.of_drew
                have HGW := Lib.hid hGw
                have hsbc := (HGW.out.block HSBi.out).cell 0
                have hrbc := ((HGW.out.block HRBi.out).cell k).trans HRK.out
                have htbc := ((HGW.out.block HTi.out).cell k).trans HTK.out
                clear hR hGw
                simp only [depV]
                try go_simp
                all_goals first
                  | (with_reducible exact Grow.refl _)
                  | (with_reducible exact ⟨Grow.refl _, rfl⟩)
              · intro w5 hR
                have hGw : Grow wi w5 := hR.of_drew
                have HGW := Lib.hid hGw
                have hsbc := (HGW.out.block HSBi.out).cell 0
                have hrbc := ((HGW.out.block HRBi.out).cell k).trans HRK.out
                have htbc := ((HGW.out.block HTi.out).cell k).trans HTK.out
                clear hR hGw
                simp only [depV]
                rintro _ rfl
                rintro _ rfl
                try go_simp
                all_goals first
                  | (with_reducible exact Grow.refl _)
                  | (with_reducible exact ⟨Grow.refl _, rfl⟩)
              · intro w5 hR
                have hGw : Grow wi w5 := hR.of_drew
                have HGW := Lib.hid hGw
                have hsbc := (HGW.out.block HSBi.out).cell 0
                have hrbc := ((HGW.out.block HRBi.out).cell k).trans HRK.out
                have htbc := ((HGW.out.block HTi.out).cell k).trans HTK.out
                clear hR hGw
                simp only [depV]
                rintro _ rfl
                try go_simp
                all_goals first
                  | (with_reducible exact Grow.refl _)
                  | (with_reducible exact ⟨Grow.refl _, rfl⟩)
              · intro w5 hR
                have hGw : Grow wi w5 := hR.of_drew
                have HGW := Lib.hid hGw
                have hsbc := (HGW.out.block HSBi.out).cell 0
                have hrbc := ((HGW.out.block HRBi.out).cell k).trans HRK.out
                have htbc := ((HGW.out.block HTi.out).cell k).trans HTK.out
                clear hR hGw
                simp only [depV]
                try go_simp
                all_goals first
                  | (with_reducible exact Grow.refl _)
                  | (with_reducible exact ⟨Grow.refl _, rfl⟩)
              · intro w5 hR
                have hGw : Grow wi w5 := hR.of_drew
                have HGW := Lib.hid hGw
                have hsbc := (HGW.out.block HSBi.out).cell 0
                have hrbc := ((HGW.out.block HRBi.out).cell k).trans HRK.out
                have htbc := ((HGW.out.block HTi.out).cell k).trans HTK.out
                clear hR hGw
                simp only [depV]
                rintro _ rfl
                try go_simp
                all_goals first
                  | (with_reducible exact Grow.refl _)
                  | (with_reducible exact ⟨Grow.refl _, rfl⟩)
              · intro w5 hR
                have hGw : Grow wi w5 := hR.of_drew
                have HGW := Lib.hid hGw
                have hsbc := (HGW.out.block HSBi.out).cell 0
                have hrbc := ((HGW.out.block HRBi.out).cell k).trans HRK.out
                have htbc := ((HGW.out.block HTi.out).cell k).trans HTK.out
                clear hR hGw
                simp only [depV]
                rintro _ rfl
                try go_simp
                all_goals first
                  | (with_reducible exact Grow.refl _)
                  | (with_reducible exact ⟨Grow.refl _, rfl⟩)
              · intro w5 hR
                have hGw : Grow wi w5 := hR.of_drew
                have HGW := Lib.hid hGw
                have hsbc := (HGW.out.block HSBi.out).cell 0
                have hrbc := ((HGW.out.block HRBi.out).cell k).trans HRK.out
                have htbc := ((HGW.out.block HTi.out).cell k).trans HTK.out
                clear hR hGw
                simp only [depV]
                rintro _ rfl
                rintro _ rfl
                try go_simp
                all_goals first
                  | (with_reducible exact Grow.refl _)
                  | (with_reducible exact ⟨Grow.refl _, rfl⟩)
            · intro w5 hR
              have HG5 : Hid (Grow wi w5) := Lib.hid hR.of_drew
              clear hR
              simp only [finVC, List.take_succ_cons, List.take_zero, List.drop_succ_cons, List.drop_zero]
              rintro _ rfl
              rintro _ rfl
              rintro _ rfl
              rintro _ rfl
              rintro _ rfl
              rintro _ rfl
              rintro _ rfl
              rintro _ rfl
              simp only [Act.put, List.setIfInBounds_toArray, List.set_cons_succ, List.set_cons_zero]
              rename World => W8
              have HBK8 := Lib.hid (HG5.out.block HBKi.out)
              have hlo := (HBK8.out.cell (y * 2)).trans HLO.out
              have hhi := (HBK8.out.cell (y * 2 + 1)).trans HHI.out
              go_wp2_with fail
              gi_wp2_with fail
              refine ⟨trivial, (CallsIn.inRound l (callsIn_wide.2 (HWT.out W8))).mono ?_⟩
              rintro e w9 ⟨rfl, hb9⟩
              have HG9 : Hid (Grow wi w9) := Lib.hid (HG5.out.trans hb9)
              have HBK9 := Lib.hid (HG9.out.block HBKi.out)
              have hbf := HBK9.out.frozen
              have hlo9 := (HBK9.out.cell (y * 2)).trans HLO.out
              have hhi9 := (HBK9.out.cell (y * 2 + 1)).trans HHI.out
              clear hb9 hlo hhi
              gi_wp2_with fail
              go_roundw
              case rel =>
                have hkb := HKB.out
                have hms := HMS.out
                refine ⟨k + 1, by omega, by go_num, ?_, ?_, ?_, ?_, ?_, ?_⟩
                · have h1 := RowsT.store (k := k) (y := y) (HVi.out.grow HG9.out) (fun i j hi hj e => by
                    rcases Nat.lt_trichotomy i j with h | h | h
                    · have := HORD.out i j h hj; omega
                    · exact h
                    · have := HORD.out j i h hi; omega) hlt (by omega) (n1, n2)
                  rw [hkb] at h1
                  refine h1.congr fun i _ v => ?_
                  have h2 := HNW.out
                  rw [midF_succ _ _ _ HYD.out, midF_at, HSP.out, HRSD.out, h2]
                  split <;> rfl
                · exact ((HKM.out.trans (KeepM.of_grow HG9.out (by omega))).trans (KeepM.store _ _ _ (by have := HBK.out.1; omega) HBK.out.2 (by have := HBK.out.1; omega))).trans (KeepM.store _ _ _ (by have := HBK.out.1; omega) HBK.out.2 (by have := HBK.out.1; omega))
                · exact ((HG9.out.block HRBi.out).far (p := ⟨kb, y * 2, none⟩) (by show w.heap.size + 1 ≠ kb; have := HBK.out.1; omega) _).far (p := ⟨kb, y * 2 + 1, none⟩) (by show w.heap.size + 1 ≠ kb; have := HBK.out.1; omega) _
                · exact ((HG9.out.block HSi.out).far (p := ⟨kb, y * 2, none⟩) (by show w.heap.size ≠ kb; have := HBK.out.1; omega) _).far (p := ⟨kb, y * 2 + 1, none⟩) (by show w.heap.size ≠ kb; have := HBK.out.1; omega) _
                · exact ((HG9.out.block HSBi.out).far (p := ⟨kb, y * 2, none⟩) (by show w.heap.size + 1 + 1 ≠ kb; have := HBK.out.1; omega) _).far (p := ⟨kb, y * 2 + 1, none⟩) (by show w.heap.size + 1 + 1 ≠ kb; have := HBK.out.1; omega) _
                · exact ((HG9.out.block HTi.out).far (p := ⟨kb, y * 2, none⟩) (by show tb ≠ kb; have := HBK.out.2; omega) _).far (p := ⟨kb, y * 2 + 1, none⟩) (by show tb ≠ kb; have := HBK.out.2; omega) _
              case measure => simp [intOf]; omega
          · obtain rfl : k = p.items.length := by omega
            have hd : decide ((p.items.length : Int) < (p.items.length : Int)) = false := decide_eq_false (by omega)
            gi_wp2_with fail
            refine ⟨HKM.out, HVi.out.congr fun i hi v => by rw [midF_all _ _ _ hi], HRBi.out, HSi.out, HSBi.out, HGB.out.trans HKM.out.below, hsi⟩
      case done =>
        rintro D xs W3 hD rfl ⟨hrw, hrb, hsv, hsb, hgw, hsw⟩ hK
        have hsbc := hsb.cell
        have HRW := Lib.hid hrw
        have HRBd := Lib.hid hrb
        have HGB := Lib.hid hgw
        clear hrw hrb hsv hsb hgw hcc
        go_wp2
        refine ⟨by simp, .inl ⟨_, _, rfl, run_takeDeferred hK, ?_⟩⟩
        refine ⟨_, results_tmp Tryd.results78 _ _ _, ⟨w.heap.size + 1, bs, rfl, ?_, ?_⟩, ?_⟩
        · exact (World.putObj_heap_other (by omega)).trans HRBd.out
        · exact fun i hi => (World.putObj_heap_other (by have := (HBS.out i hi).2; omega)).trans (HRW.out i hi)
        · exact HGB.out.trans (put_below _ _ (by omega))
      case stop =>
        rintro D pre W3 hD _ h _
        exact h.elim

end Go.Proofs.YthehkgpnnndboaaDoor
