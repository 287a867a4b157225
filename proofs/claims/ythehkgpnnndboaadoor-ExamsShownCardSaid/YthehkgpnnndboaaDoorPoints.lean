/- Points: exams.Points; written by wip/tools/points9.py. -/
import Derived.Test.YthehkgpnnndboaaDoorResults
namespace Go.Proofs.YthehkgpnnndboaaDoor
open Go.RowKit Go.Shelf

attribute [local go_sem] Oper.semAt_some

/-- the spans of points by some truths -/
def ptF (pre : List (List Int)) (i : Nat) : Int × Int := spanS (pre.map fun ps => ps.getD i 0)
def midP (pre : List (List Int)) (x : List Int) (k i : Nat) : Int × Int := if i < k then ptF (pre ++ [x]) i else ptF pre i
theorem ptF_snoc (pre : List (List Int)) (x : List Int) (i : Nat) : ptF (pre ++ [x]) i = withS (ptF pre i) (x.getD i 0) := by
  unfold ptF
  rw [List.map_append]
  exact span_snoc _ _
theorem midP_all (pre : List (List Int)) (x : List Int) {n i : Nat} (hi : i < n) : midP pre x n i = ptF (pre ++ [x]) i := by unfold midP; rw [if_pos hi]
theorem midP_at (pre : List (List Int)) (x : List Int) (k : Nat) : midP pre x k k = ptF pre k := by unfold midP; rw [if_neg (by omega)]
theorem midP_succ (pre : List (List Int)) (x : List Int) (k i : Nat) : midP pre x (k + 1) i = updS (midP pre x k) k (withS (ptF pre k) (x.getD k 0)) i := by
  unfold midP updS
  by_cases h : i = k
  · subst h
    rw [if_pos (by omega), if_pos rfl, ptF_snoc]
  · rw [if_neg h]
    dsimp only
    by_cases h2 : i < k
    · rw [if_pos (by omega), if_pos h2]
    · rw [if_neg (by omega), if_neg h2]

set_option maxRecDepth 100000 in
set_option maxHeartbeats 8000000 in
theorem points_bad (p : PaperR) (w : World) (hA : PaperAt w w.heap.size p) (hs : Short p) (he : numErr p 0 0 ≠ 0) :
    Calls Tryd.prog 20 #[paperV p] w fun e w' => e = .returned (.tuple #[.slice none 0 0, .int .i64 (numErr p 0 0)]) ∧ Below w.heap.size w w' := by
  have HR := Lib.hid (fun (w0 : World) (hw : Grow w w0) => readPossible_any p w0 (hA.grow hw) hs)
  rw [show numCells p 0 0 = zeroP from by unfold numCells; rw [if_neg he]] at HR
  obtain ⟨er, her⟩ : ∃ z, numErr p 0 0 = z := ⟨_, rfl⟩
  rw [her] at HR he ⊢
  have hne : (er != 0) = true := by rw [bne_iff_ne]; exact he
  clear her hA he
  go_enter Tryd.func20, Tryd.ntmps20
  go_upto_region 1 with fail
  obtain ⟨W, hW, hg, hf, hsz⟩ := one_block w 26 (cellsP p)
  rw [hW]
  clear hW
  have hcc := hf.cell
  have HG := Lib.hid hg
  clear hf hg
  go_wp2_with fail
  refine (HR.out W HG.out).mono ?_
  rintro e w1 ⟨rfl, hb1⟩
  have HG1 : Hid (Grow w w1) := Lib.hid (HG.out.trans hb1)
  clear hb1 hcc
  go_upto_region 3 with fail
  obtain ⟨W2, hW2, hg2, _, _⟩ := one_block w1 73 zeroP
  rw [hW2]
  clear hW2
  have HG2 : Hid (Grow w W2) := Lib.hid (HG1.out.trans hg2)
  clear hg2
  go_wp2_with fail
  go_ret2
  exact ⟨rfl, HG2.out⟩

set_option maxRecDepth 100000 in
set_option maxHeartbeats 16000000 in
theorem points_good (p : PaperR) (w : World) (hA : PaperAt w w.heap.size p) (hs : Short p) (hG : Glob w) (he : numErr p 0 0 = 0) :
    Calls Tryd.prog 20 #[paperV p] w fun e w' => (∃ b, e = .returned (.tuple #[.slice (some ⟨b, 0, none⟩) p.items.length p.items.length, .int .i64 0]) ∧ BlockIs w' b 33 (rowC (pointD p.d) p.items.length)) ∧ Below w.heap.size w w' := by
  obtain ⟨G, _, hne⟩ := numErr_zero he
  have HR := Lib.hid (fun (w0 : World) (hw : Grow w w0) => readPossible_any p w0 (hA.grow hw) hs)
  rw [show numCells p 0 0 = cellsP p from by unfold numCells; rw [if_pos he], he] at HR
  have HPA := Lib.hid (fun (w0 : World) (hw : Below w.heap.size w w0) => hA.below hw)
  have HGL := Lib.hid (fun (w0 : World) (hw : Grow w w0) => hG.grow hw)
  have HPD : Hid (∀ i, pointD p.d i = ptF (truthsL p.d) i) := Lib.hid (fun _ => rfl)
  have h4 : p.items.length ≤ 4 := G.i4
  have h1 : 1 ≤ p.items.length := G.i1
  have HREP := Lib.hid (fun q n w0 hq h1 hn => repeat_any noneS q n w0 hq h1 hn)
  have hro : Fence.wide.round = none := rfl
  clear hA hG he
  refine (callsIn_wide (n := 8)).1 ?_
  refine callsIn_of_wp_marks Tryd.func20 rfl trivial ?_ hro
  simp only [Tryd.ntmps20, List.size_toArray, List.length_cons, List.length_nil, Nat.reduceAdd, Nat.reduceSub, Array.replicate_succ, Array.replicate_zero, List.push_toArray, List.append_toArray, List.nil_append, List.cons_append]
  refine wpIn_wide.2 ?_
  go_upto_region 1 with fail
  obtain ⟨W, hW, hg, hf, hsz⟩ := one_block w 26 (cellsP p)
  rw [hW]
  clear hW
  have hcc := hf.cell
  have HG := Lib.hid hg
  clear hf hg
  go_wp2_with fail
  refine (HR.out W HG.out).mono ?_
  rintro e w1 ⟨rfl, hb1⟩
  have HG1 : Hid (Grow w w1) := Lib.hid (HG.out.trans hb1)
  clear hb1 hcc
  go_upto_region 4 with fail
  obtain ⟨W2, hW2, hg2, hs2, hsz2⟩ := one_block w1 73 (cellsP p)
  rw [hW2]
  clear hW2
  obtain ⟨sb, hsb⟩ : ∃ z, w1.heap.size = z := ⟨_, rfl⟩
  rw [hsb] at hs2 hsz2 ⊢
  have hsbw : w.heap.size ≤ sb := by have := HG1.out.size; omega
  have HS2 := Lib.hid hs2
  have HG2 : Hid (Grow w W2) := Lib.hid (HG1.out.trans hg2)
  have hsc := hs2.cell
  have hgl := HGL.out W2 HG2.out
  have hg0 := hgl.lo
  have hg1 := hgl.hi
  have hg3 := hgl.lt
  clear hg2 hs2 hgl hsb HG1
  go_wp2_with fail
  refine (HREP.out W2.heap.size p.items.length _ (BlockIs.new W2 33 (cellsS noneS)) h1 (by omega)).mono ?_
  rintro e w3 ⟨rfl, hb3, hg3'⟩
  have HG3 : Hid (Grow W2 w3) := Lib.hid ((Grow.alloc _ _).trans hg3')
  have hsz3 : (W2.alloc (.cells (cellsS noneS) 33)).heap.size = W2.heap.size + 1 := by simp
  rw [hsz3] at hb3
  obtain ⟨rb, hrb⟩ : ∃ z, W2.heap.size + 1 = z := ⟨_, rfl⟩
  have hrb2 : sb < rb := by omega
  rw [hrb] at hb3
  have HR3 := Lib.hid hb3
  have HS3 := Lib.hid (HG3.out.block HS2.out)
  first | rw [hrb] | skip
  clear hb3 hg3' hsz3 hsc hg0 hg1 hg3 HS2
  go_upto_region 5 with fail
  obtain ⟨W4, hW4, hg4, hv4, hsz4⟩ := one_block w3 36 #[.slice (some ⟨rb, 0, none⟩) p.items.length p.items.length]
  rw [hW4]
  clear hW4
  obtain ⟨vb, hvb⟩ : ∃ z, w3.heap.size = z := ⟨_, rfl⟩
  rw [hvb] at hv4 hsz4 ⊢
  have hrv : rb < vb := by have := HR3.out.lt; omega
  have HV4 := Lib.hid hv4
  have HR4 := Lib.hid (hg4.block HR3.out)
  have HS4 := Lib.hid (hg4.block HS3.out)
  have HG4 : Hid (Grow w W4) := Lib.hid (HG2.out.trans (HG3.out.trans hg4))
  have hsc := HS4.out.cell
  clear hg4 hv4 hvb HR3 HS3
  go_wp2_with fail
  refine (wpIn_wide (n := 8)).1 ?_
  refine wpIn_rangeLow (first := #[paperV p]) (lb := #[]) (gf := 50) rfl (enters_of Tryd.func50 (by kernel_rfl) rfl)
    (truths_stops p (good_with G (Int.le_refl 0) (by omega)) w.heap.size sb W4 (HPA.out W4 HG4.out) HG4.out.size) HG4.out.size (by omega) (Below.refl _ _) (fun _ => rfl)
    (fun pre W' => BlockIs W' rb 33 (rowC (ptF pre) p.items.length) ∧ BlockIs W' sb 73 (cellsP p) ∧ BlockIs W' vb 36 #[.slice (some ⟨rb, 0, none⟩) p.items.length p.items.length] ∧ Below w.heap.size w W' ∧ W4.heap.size ≤ W'.heap.size)
    (fun _ _ => False)
    (fun pre A B h g => ⟨(g.block _ (by omega)).trans h.1, (g.block _ (by omega)).trans h.2.1, (g.block _ (by omega)).trans h.2.2.1, h.2.2.2.1.trans (Below.mono g HG4.out.size), Nat.le_trans h.2.2.2.2 g.size⟩)
    (fun _ _ _ h _ => h)
    (fun _ _ h => h.2.2.2.2) (fun _ _ h => h.elim)
    ⟨HR4.out, HS4.out, HV4.out, HG4.out, Nat.le_refl _⟩
    (fun x a' W' => ∃ tb, W4.heap.size ≤ tb ∧ BlockIs W' tb 81 (cellsT x) ∧ a' = { tmps := #[paperV p, .pointer (some ⟨w.heap.size, 0, none⟩), .slice none 0 0, .int .i64 0, .pointer (some ⟨sb, 0, none⟩), .int .i64 0, .pointer (some ⟨vb, 0, none⟩), .pointer (some ⟨tb, 0, none⟩), undef, undef, .tuple #[.agg (cellsP p), .int .i64 0], paperV p, .tuple #[.agg (cellsP p), .int .i64 0], .agg (cellsP p), .int .i64 0, .int .i64 0, .bool false, undef, .agg #[.int .i64 1201, .int .i64 (-1)], .slice (some ⟨W2.heap.size, 0, none⟩) 1 1, .pointer (some ⟨sb, 0, none⟩), .pointer (some ⟨sb, 0, none⟩), .slice p.ia p.items.length p.ic, .int .i64 (p.items.length : Int), .slice (some ⟨rb, 0, none⟩) p.items.length p.items.length, paperV p, .func (.func 50) #[paperV p] #[], .agg (cellsT x), .int .i64 (wrongS p.d.judges x : Nat), undef, undef, undef, undef, undef, undef, undef, undef, undef, undef, undef, undef, undef, undef, undef, undef, undef], defers := [] })
    (fun _ _ _ _ _ _ ⟨tb, h1, h2, h3⟩ hg hr => ⟨tb, h1, block_own h2 hg hr, h3⟩)
    ?assign ?body ?done ?stop
  case assign =>
    rintro l pre x W3 K hi hK
    obtain ⟨hrw, hsv, hsb, hgw, hsw⟩ := hi
    simp only [encT]
    gi_wp2
    have hg3 := Grow.alloc W3 (.cells (cellsT x) 81)
    exact hK _ _ (KeepM.of_grow hg3 hgw.size) ⟨hg3.block hrw, hg3.block hsv, hg3.block hsb, hgw.trans (Below.mono hg3 hgw.size), Nat.le_trans hsw hg3.size⟩ ⟨W3.heap.size, hsw, BlockIs.new _ _ _, rfl⟩
  case body =>
    rintro l pre x a' W3 hl ⟨r, hr⟩ ⟨hrw, hsv, hsb, hgw, hsw⟩ ⟨tb, htb, ht, rfl⟩ hpr
    have hmem : x ∈ truthsL p.d := by
      obtain ⟨post, hq⟩ := hpr
      rw [← hq]
      simp
    have hfit : fitsI p.items x = true := by
      have h1 := mem_truths.1 hmem
      unfold possD at h1
      rw [Bool.and_eq_true] at h1
      exact h1.1
    have hn3 : w.heap.size ≤ W3.heap.size := hgw.size
    have HFIT := Lib.hid hfit
    have HV := Lib.hid hrw
    have HS := Lib.hid hsv
    have HVB := Lib.hid hsb
    have HT := Lib.hid ht
    have HGB := Lib.hid hgw
    have HSW := Lib.hid hsw
    have hvc := hsb.cell
    clear hmem hfit hrw hsv hsb ht hgw hpr hsc
    gi_wp2_with fail
    gi_loopw [31] (fun iv wi => ∃ k : Nat, k ≤ p.items.length ∧ iv = .int .i64 (k : Nat) ∧ BlockIs wi rb 33 (rowC (midP pre x k) p.items.length) ∧ KeepM w.heap.size sb W4.heap.size W3 wi ∧ BlockIs wi sb 73 (cellsP p) ∧ BlockIs wi vb 36 #[.slice (some ⟨rb, 0, none⟩) p.items.length p.items.length] ∧ BlockIs wi tb 81 (cellsT x)) (fun iv _ => p.items.length - (intOf iv).toNat)
    case atStart => exact ⟨0, Nat.zero_le _, rfl, by rw [rowC_congr (g := ptF pre) fun i _ => by unfold midP; rw [if_neg (by omega)]]; exact HV.out, KeepM.refl _ _ _ _, HS.out, HVB.out, HT.out⟩
    case round =>
      obtain ⟨k, hk, rfl, hrw, hkm, hsv, hsb, ht⟩ := hrel
      rename World => wi
      have HVi := Lib.hid hrw
      have HKM := Lib.hid hkm
      have HSi := Lib.hid hsv
      have HVBi := Lib.hid hsb
      have HTi := Lib.hid ht
      clear hrw hkm hsv hsb ht hvc
      have hsi : W4.heap.size ≤ wi.heap.size := Nat.le_trans HSW.out HKM.out.below.size
      by_cases hlt : k < p.items.length
      · have hd : decide ((k : Int) < (p.items.length : Int)) = true := decide_eq_true (by omega)
        have hk0 : (0 : Int) ≤ (k : Int) := by omega
        have hk1 : (k : Int) < (p.items.length : Int) := by omega
        have hk4 : (k : Int) < 4 := by omega
        have hlen := fitsI_len HFIT.out
        have hxk : x[k]? = some x[k] := List.getElem?_eq_getElem (by omega)
        obtain ⟨y, hy⟩ : ∃ y, x[k] = y := ⟨_, rfl⟩
        have HYD : Hid (x.getD k 0 = y) := Lib.hid (by rw [List.getD_eq_getElem?_getD, hxk]; exact hy)
        have HTK : Hid ((cellsT x)[k]? = some (.int .i64 y)) := Lib.hid (by rw [cellsT_at x (by omega), hxk, ← hy]; rfl)
        have HBKi : Hid (BlockIs wi rb 33 (rowC (midP pre x k) p.items.length)) := HVi
        have HLO := Lib.hid (rowC_lo (midP pre x k) hlt)
        have HHI := Lib.hid (rowC_hi (midP pre x k) hlt)
        rw [midP_at] at HLO HHI
        obtain ⟨sp, hsp⟩ : ∃ z, ptF pre k = z := ⟨_, rfl⟩
        rw [hsp] at HLO HHI
        have HSP := Lib.hid hsp
        have HWT := Lib.hid (fun w0 => with_any sp y w0)
        obtain ⟨nw, hnw⟩ : ∃ z, withS sp y = z := ⟨_, rfl⟩
        rw [hnw] at HWT
        have HNW := Lib.hid hnw
        have hlo := (HBKi.out.cell (k * 2)).trans HLO.out
        have hhi := (HBKi.out.cell (k * 2 + 1)).trans HHI.out
        clear hy hxk hsp hnw hlen
        obtain ⟨s1, s2⟩ := sp
        obtain ⟨n1, n2⟩ := nw
        obtain ⟨W9, hW9⟩ : ∃ z, wi.alloc (.cells #[.int .i64 s1, .int .i64 s2] 33) = z := ⟨_, rfl⟩
        have HGX9 : Hid (Grow wi W9) := Lib.hid (by rw [← hW9]; exact Grow.alloc _ _)
        have HX9 : Hid (BlockIs W9 wi.heap.size 33 #[.int .i64 s1, .int .i64 s2]) := Lib.hid (by rw [← hW9]; exact BlockIs.new _ _ _)
        have HBK9 := Lib.hid (HGX9.out.block HBKi.out)
        have HVB9 := Lib.hid (HGX9.out.block HVBi.out)
        have HT9 := Lib.hid (HGX9.out.block HTi.out)
        gi_wp2_with fail
        clear hW9 hlo hhi
        refine wpIn_region_round 8 [[], [], [], [], [(3, 39)], [(4, 40)], [(2, 38), (5, 41)], [(0, 36), (1, 37)]] Grow (fun qi v w' => match qi with
            | 0 => v = .slice (some ⟨rb, 0, none⟩) p.items.length p.items.length
            | 1 => v = .int .i64 (k : Nat)
            | 2 => v = spanV (s1, s2)
            | 3 => v = .int .i64 (k : Nat)
            | 4 => v = .pointer (some ⟨tb, k, none⟩)
            | 5 => v = .int .i64 y
            | 6 => v = spanV (n1, n2)
            | 7 => v = .pointer (some ⟨rb, k * 2, none⟩)
            | _ => False) (by kernel_rfl) (by kernel_rfl) (by kernel_rfl) (fun ⟨_, _, h⟩ => h) (fun _ _ _ => Grow.trans) Grow.refl ?_ ?_ ?_
        · intro i v y y' h k
          match i, h with
          | 0, h | 1, h | 2, h | 3, h | 4, h | 5, h | 6, h | 7, h => exact h
        · simp only [StepsLit, List.take_succ_cons, List.take_zero]
          refine ⟨?_, ?_, ?_, ?_, ?_, ?_, ?_, ?_, trivial⟩
          · intro w5 hR
            have hGw : Grow W9 w5 := hR.of_drew
            have HGW := Lib.hid hGw
            have hvbc := (HGW.out.block HVB9.out).cell 0
            have htbc := ((HGW.out.block HT9.out).cell k).trans HTK.out
            have hxc := (HGW.out.block HX9.out).cell
            clear hR hGw
            simp only [depV]
            try go_simp
            all_goals first
              | (with_reducible exact Grow.refl _)
              | (with_reducible exact ⟨Grow.refl _, rfl⟩)
          · intro w5 hR
            have hGw : Grow W9 w5 := hR.of_drew
            have HGW := Lib.hid hGw
            have hvbc := (HGW.out.block HVB9.out).cell 0
            have htbc := ((HGW.out.block HT9.out).cell k).trans HTK.out
            have hxc := (HGW.out.block HX9.out).cell
            clear hR hGw
            simp only [depV]
            try go_simp
            all_goals first
              | (with_reducible exact Grow.refl _)
              | (with_reducible exact ⟨Grow.refl _, rfl⟩)
          · intro w5 hR
            have hGw : Grow W9 w5 := hR.of_drew
            have HGW := Lib.hid hGw
            have hvbc := (HGW.out.block HVB9.out).cell 0
            have htbc := ((HGW.out.block HT9.out).cell k).trans HTK.out
            have hxc := (HGW.out.block HX9.out).cell
            clear hR hGw
            simp only [depV]
            try go_simp
            all_goals first
              | (with_reducible exact Grow.refl _)
              | (with_reducible exact ⟨Grow.refl _, rfl⟩)
          · intro w5 hR
            have hGw : Grow W9 w5 := hR.of_drew
            have HGW := Lib.hid hGw
            have hvbc := (HGW.out.block HVB9.out).cell 0
            have htbc := ((HGW.out.block HT9.out).cell k).trans HTK.out
            have hxc := (HGW.out.block HX9.out).cell
            clear hR hGw
            simp only [depV]
            try go_simp
            all_goals first
              | (with_reducible exact Grow.refl _)
              | (with_reducible exact ⟨Grow.refl _, rfl⟩)
          · intro w5 hR
            have hGw : Grow W9 w5 := hR.of_drew
            have HGW := Lib.hid hGw
            have hvbc := (HGW.out.block HVB9.out).cell 0
            have htbc := ((HGW.out.block HT9.out).cell k).trans HTK.out
            have hxc := (HGW.out.block HX9.out).cell
            clear hR hGw
            simp only [depV]
            rintro _ rfl
            try go_simp
            all_goals first
              | (with_reducible exact Grow.refl _)
              | (with_reducible exact ⟨Grow.refl _, rfl⟩)
          · intro w5 hR
            have hGw : Grow W9 w5 := hR.of_drew
            have HGW := Lib.hid hGw
            have hvbc := (HGW.out.block HVB9.out).cell 0
            have htbc := ((HGW.out.block HT9.out).cell k).trans HTK.out
            have hxc := (HGW.out.block HX9.out).cell
            clear hR hGw
            simp only [depV]
            rintro _ rfl
            try go_simp
            all_goals first
              | (with_reducible exact Grow.refl _)
              | (with_reducible exact ⟨Grow.refl _, rfl⟩)
          · intro w5 hR
            have hGw : Grow W9 w5 := hR.of_drew
            have HGW := Lib.hid hGw
            have hvbc := (HGW.out.block HVB9.out).cell 0
            have htbc := ((HGW.out.block HT9.out).cell k).trans HTK.out
            have hxc := (HGW.out.block HX9.out).cell
            clear hR hGw
            simp only [depV]
            rintro _ rfl
            rintro _ rfl
            try go_simp
            refine (HWT.out w5).mono ?_
            rintro e w6 ⟨rfl, hb6⟩
            exact ⟨hb6, rfl⟩
          · intro w5 hR
            have hGw : Grow W9 w5 := hR.of_drew
            have HGW := Lib.hid hGw
            have hvbc := (HGW.out.block HVB9.out).cell 0
            have htbc := ((HGW.out.block HT9.out).cell k).trans HTK.out
            have hxc := (HGW.out.block HX9.out).cell
            clear hR hGw
            simp only [depV]
            rintro _ rfl
            rintro _ rfl
            try go_simp
            all_goals first
              | (with_reducible exact Grow.refl _)
              | (with_reducible exact ⟨Grow.refl _, rfl⟩)
        · intro w5 hR
          have HG5 : Hid (Grow W9 w5) := Lib.hid hR.of_drew
          clear hR
          simp only [finVC, List.take_succ_cons, List.take_zero, List.drop_succ_cons, List.drop_zero]
          rintro _ rfl
          rintro _ rfl
          rintro _ rfl
          rintro _ rfl
          rintro _ rfl
          rintro _ rfl
          rintro _ rfl
          rintro _ rfl
          simp only [Act.put, List.setIfInBounds_toArray, List.set_cons_succ, List.set_cons_zero]
          rename World => W8
          have HBK8 := Lib.hid (HG5.out.block HBK9.out)
          have hlo := (HBK8.out.cell (k * 2)).trans HLO.out
          have hhi := (HBK8.out.cell (k * 2 + 1)).trans HHI.out
          have hbf := HBK8.out.frozen
          have HG8 : Hid (Grow wi W8) := Lib.hid (HGX9.out.trans HG5.out)
          go_wp2_with fail
          gi_wp2_with fail
          go_roundw
          case rel =>
            refine ⟨k + 1, by omega, by go_num, ?_, ?_, ?_, ?_, ?_⟩
            · have h := HBK8.out.near (k * 2) (.int .i64 n1) |>.near (k * 2 + 1) (.int .i64 n2)
              rw [rowC_set (midP pre x k) (n1, n2) hlt] at h
              rwa [rowC_congr (g := midP pre x (k + 1)) fun i _ => by rw [midP_succ, HYD.out, HSP.out, HNW.out]] at h
            · exact ((HKM.out.trans (KeepM.of_grow HG8.out (by omega))).trans (KeepM.store _ _ _ (by omega) (by omega) (by omega))).trans (KeepM.store _ _ _ (by omega) (by omega) (by omega))
            · exact ((HG8.out.block HSi.out).far (p := ⟨rb, k * 2, none⟩) (by show sb ≠ rb; omega) _).far (p := ⟨rb, k * 2 + 1, none⟩) (by show sb ≠ rb; omega) _
            · exact ((HG8.out.block HVBi.out).far (p := ⟨rb, k * 2, none⟩) (by show vb ≠ rb; omega) _).far (p := ⟨rb, k * 2 + 1, none⟩) (by show vb ≠ rb; omega) _
            · exact ((HG8.out.block HTi.out).far (p := ⟨rb, k * 2, none⟩) (by show tb ≠ rb; omega) _).far (p := ⟨rb, k * 2 + 1, none⟩) (by show tb ≠ rb; omega) _
          case measure => simp [intOf]; omega
      · obtain rfl : k = p.items.length := by omega
        have hd : decide ((p.items.length : Int) < (p.items.length : Int)) = false := decide_eq_false (by omega)
        gi_wp2_with fail
        exact ⟨HKM.out, by rw [← rowC_congr (f := midP pre x p.items.length) fun i hi => midP_all pre x hi]; exact HVi.out, HSi.out, HVBi.out, HGB.out.trans HKM.out.below, hsi⟩
  case done =>
    rintro D xs W3 hD rfl ⟨hrw, hsv, hsb, hgw, hsw⟩ hK
    have hvc := hsb.cell
    have HRW := Lib.hid hrw
    have HGB := Lib.hid hgw
    clear hrw hsv hsb hgw hsc
    go_wp2
    refine ⟨by simp, .inl ⟨_, _, rfl, run_takeDeferred hK, ?_⟩⟩
    refine ⟨_, results_tmp2 Tryd.results20 _ _ _, ⟨rb, rfl, ?_⟩, ?_⟩
    · rw [rowC_congr fun i _ => HPD.out i]
      exact (World.putObj_heap_other (by omega)).trans HRW.out
    · exact HGB.out.trans (put_below _ _ (by omega))
  case stop =>
    rintro D pre W3 hD _ h _
    exact h.elim

/-- what Points hands back -/
theorem pointsApi_any (p : PaperR) (w : World) (hA : PaperAt w w.heap.size p) (hs : Short p) (hG : Glob w) :
    Calls Tryd.prog 20 #[paperV p] w fun e w' => (∃ A n, e = .returned (.tuple #[.slice A n n, .int .i64 (numErr p 0 0)]) ∧ Hid (if numErr p 0 0 = 0 then n = p.items.length ∧ ∃ b, A = some ⟨b, 0, none⟩ ∧ BlockIs w' b 33 (rowC (pointD p.d) n) else A = none ∧ n = 0)) ∧ Below w.heap.size w w' := by
  by_cases he : numErr p 0 0 = 0
  · refine (points_good p w hA hs hG he).mono ?_
    rintro e w' ⟨⟨b, rfl, hb⟩, hg⟩
    exact ⟨⟨some ⟨b, 0, none⟩, p.items.length, by rw [he], Lib.hid (by rw [if_pos he]; exact ⟨rfl, b, rfl, hb⟩)⟩, hg⟩
  · refine (points_bad p w hA hs he).mono ?_
    rintro e w' ⟨rfl, hg⟩
    exact ⟨⟨none, 0, rfl, Lib.hid (by rw [if_neg he]; exact ⟨rfl, rfl⟩)⟩, hg⟩

end Go.Proofs.YthehkgpnnndboaaDoor
