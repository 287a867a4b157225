/- WhyLaw: the law GlossesWhy answers true; written by wip/tools/whylaw02.py. -/
import Derived.Test.YtinlojealfbbfaaRWhy
import Derived.Test.YtinlojealfbbfaaFar
import Derived.Deep.DeepCutAuto
namespace Go.Proofs.Ytinlojealfbbfaa
open Go.RowKit

structure HereD where
  film : Int
  frame : Int
  a : Int
  b : Int
  set : Int
abbrev cellsHe (x : HereD) : Array Value := #[.int .i64 x.film, .int .i64 x.frame, .int .i64 x.a, .int .i64 x.b, .int .i64 x.set]
abbrev hereV (x : HereD) : Value := .agg (cellsHe x)
theorem far_limits {f : FilmsD} {l : List GlossD} (h : farD f l = false) : f.frames.length ≤ 20 ∧ l.length ≤ 60 ∧ (l.length ≤ 12 ∨ 40 < l.length) := by
  unfold farD at h
  simp only [Bool.or_eq_false_iff, Bool.and_eq_false_iff, decide_eq_false_iff_not] at h
  obtain ⟨⟨h1, h2⟩, h3, _⟩ := h
  refine ⟨by omega, by omega, ?_⟩
  rcases h3 with h3 | h3 <;> omega

def whyL (f : FilmsD) (l : List GlossD) (film frame er : Int) : List GlossD := if er = 0 then whyD f.signs.toNat (rAtD l film frame) else []
theorem whyL_len (f : FilmsD) (l : List GlossD) (film frame er : Int) : (whyL f l film frame er).length ≤ l.length := by
  unfold whyL
  split
  · exact Nat.le_trans (bestP_len _ _ _) (rAtD_len l film frame)
  · simp
theorem WhyV.row {f : FilmsD} {l : List GlossD} {film frame er : Int} {v : Value} {w : World} (h : WhyV f l film frame v er w) : IsRowG (whyL f l film frame er) v w := by
  unfold whyL
  by_cases h0 : er = 0
  · rw [if_pos h0]; exact h.2 h0
  · rw [if_neg h0, h.1 h0]; exact ⟨none, 0, rfl, .inl rfl⟩
def IsTup (l : List GlossD) (er : Int) (v : Value) (w : World) : Prop := ∃ A c, v = .tuple #[.slice A l.length c, .int .i64 er] ∧ GlossAt w w.heap.size A l
theorem IsTup.grow {l : List GlossD} {er : Int} {v : Value} {a b : World} (h : IsTup l er v a) (g : Grow a b) : IsTup l er v b := by
  obtain ⟨A, c, e, h⟩ := h
  exact ⟨A, c, e, (h.below g).more g.size⟩
def IsFilmW (d : FilmsD) (v : Value) (w : World) : Prop := ∃ A c, v = filmsV ⟨d, A, c⟩ ∧ Ints w w.heap.size A d.frames
theorem IsFilmW.grow {d : FilmsD} {v : Value} {a b : World} (h : IsFilmW d v a) (g : Grow a b) : IsFilmW d v b := by
  obtain ⟨A, c, e, h⟩ := h
  exact ⟨A, c, e, (h.below g).more g.size⟩

set_option maxRecDepth 100000 in
set_option maxHeartbeats 16000000 in
theorem glossesWhy_any (f : FilmsR) (l : List GlossD) (A : Option Addr) (c : Nat) (x : HereD) (w : World) (hf : Ints w w.heap.size f.A f.d.frames) (hA : GlossAt w w.heap.size A l) :
    Calls Try.prog 11 #[filmsV f, .slice A l.length c, hereV x] w fun e w' => e = .returned (.bool true) ∧ Below w.heap.size w w' := by
  have HI := Lib.hid (fun (w0 : World) (hw : Grow w w0) => (hf.below hw).more hw.size)
  have HGA := Lib.hid (fun (w0 : World) (hw : Grow w w0) => (hA.below hw).more hw.size)
  have HFA := Lib.hid (fun (w0 : World) (hw : Grow w w0) => far_any f l A c w0.heap.size w0 (HI.out w0 hw) (Nat.le_refl _))
  have HPA := Lib.hid (fun (h : farD f.d l = false) => far_limits h)
  obtain ⟨fa, hfa⟩ : ∃ q, farD f.d l = q := ⟨_, rfl⟩
  rw [hfa] at HFA HPA
  clear hfa hf hA
  go_enter Try.func11, Try.ntmps11
  go_upto_region 1 with fail
  obtain ⟨W, hW, hg, hf, hs, hsz⟩ := two_blocks w 24 42 (cellsF f) (cellsHe x)
  rw [hW]
  clear hW
  have hcc := hf.cell
  have HF := Lib.hid hf
  have HS := Lib.hid hs
  have HG := Lib.hid hg
  clear hf hs hg
  go_wp2_with fail
  refine (HFA.out W HG.out).mono ?_
  rintro e w1 ⟨rfl, hb1⟩
  have HG1 : Hid (Grow W w1) := hb1
  clear hb1 hcc HFA
  cases fa with
  | true =>
    go_wp2_with fail
    refine (works_any _).mono ?_
    rintro e w2 ⟨rfl, hb2⟩
    go_wp2
    go_ret
    exact ⟨rfl, HG.out.trans (HG1.out.trans hb2)⟩
  | false =>
    obtain ⟨hf20, ha60, ha12⟩ := HPA.out (by first | rfl | trivial)
    have ha9 : l.length ≤ 1000 := by omega
    have hf9 : f.d.frames.length ≤ 1000000 := by omega
    have H12 : Hid (readErr f.d [l] = 0 → l.length ≤ 12) := Lib.hid (fun h => by
      have := (readErr_zero h).2.2.1
      omega)
    clear HPA
    have HWP := Lib.hid (fun (Ag A1 : Option Addr) (cg c1 : Nat) (w0 : World) (hi : Ints w0 w0.heap.size Ag f.d.frames) (ht : GlossAt w0 w0.heap.size A1 l) => whyApi_any sortG_ok ⟨f.d, Ag, cg⟩ l A1 c1 x.film x.frame w0.heap.size w0 hi ht (Nat.le_refl _) hf9 ha9 H12.out)
    have HWR := Lib.hid (fun (w0 : World) (hw : Grow w w0) => rWhyApi_any f l A c x.film x.frame w0.heap.size w0 (HI.out w0 hw) (HGA.out w0 hw) (Nat.le_refl _) hf9 ha9 H12.out)
    dsimp only at HWP
    obtain ⟨es, hes⟩ : ∃ q, frameErr f.d l x.film x.frame = q := ⟨_, rfl⟩
    rw [hes] at HWP HWR
    have hyl9 : (whyL f.d l x.film x.frame es).length ≤ 1000000 := Nat.le_trans (whyL_len _ _ _ _ _) (by omega)
    have HRP := Lib.hid (fun (v : Value) (w0 : World) (h : WhyV f.d l x.film x.frame v es w0) => h.row)
    obtain ⟨yl, hyl⟩ : ∃ q, whyL f.d l x.film x.frame es = q := ⟨_, rfl⟩
    rw [hyl] at HRP hyl9
    have HGA1 : Hid (Grow w w1) := Lib.hid (HG.out.trans HG1.out)
    have HF1 := Lib.hid (HG1.out.block HF.out)
    have HS1 := Lib.hid (HG1.out.block HS.out)
    clear hes hyl HF HS
    go_upto_region 3 with fail
    refine wp_region_lit 13 [[], [(0, 16)], [], [(2, 18)], [], [(4, 20)], [], [(6, 22)], [(1, 17), (3, 19), (5, 21), (7, 23)], [(8, 24)], [(9, 15)], [(9, 15)], [(10, 25)]] Grow (fun qi v w' => match qi with
        | 0 => v = filmsV f
        | 1 => IsFilmW f.d v w'
        | 2 => v = .slice A l.length c
        | 3 => IsRowG l v w'
        | 4 => v = .pointer (some ⟨w.heap.size + 1, 0, none⟩)
        | 5 => v = .int .i64 x.film
        | 6 => v = .pointer (some ⟨w.heap.size + 1, 1, none⟩)
        | 7 => v = .int .i64 x.frame
        | 8 => IsTup yl es v w'
        | 9 => IsTup yl es v w'
        | 10 => IsRowG yl v w'
        | 11 => v = .int .i64 es
        | 12 => IsRowG yl v w'
        | _ => False) (by kernel_rfl) (by kernel_rfl) (fun _ _ _ => Grow.trans) Grow.refl ?_ ?_ ?_
    · intro i v y y' h k
      match i, h with
      | 1, h => exact h.grow k
      | 3, h => exact h.grow k
      | 8, h => exact h.grow k
      | 9, h => exact h.grow k
      | 10, h => exact h.grow k
      | 12, h => exact h.grow k
      | 0, h | 2, h | 4, h | 5, h | 6, h | 7, h | 11, h => exact h
    · simp only [StepsLit, List.take_succ_cons, List.take_zero]
      refine ⟨?_, ?_, ?_, ?_, ?_, ?_, ?_, ?_, ?_, ?_, ?_, ?_, ?_, trivial⟩
      · intro w5 hR
        have hGw : Grow w1 w5 := hR.of_drew
        have HGW := Lib.hid hGw
        have hcc := (HGW.out.block HF1.out).cell
        have hsc := (HGW.out.block HS1.out).cell
        clear hR hGw
        simp only [depV]
        try go_simp
        all_goals first
          | (with_reducible exact Grow.refl _)
          | (with_reducible exact ⟨Grow.refl _, rfl⟩)
      · intro w5 hR
        have hGw : Grow w1 w5 := hR.of_drew
        have HGW := Lib.hid hGw
        have hcc := (HGW.out.block HF1.out).cell
        have hsc := (HGW.out.block HS1.out).cell
        clear hR hGw
        simp only [depV]
        rintro _ rfl
        try go_simp
        refine (rCopyF_any f w5.heap.size w5 (HI.out w5 (HGA1.out.trans HGW.out)) (Nat.le_refl _) (by omega)).mono ?_
        rintro e w6 ⟨Ag, cg, rfl, hig, hb6⟩
        exact ⟨hb6, Ag, cg, rfl, hig⟩
      · intro w5 hR
        have hGw : Grow w1 w5 := hR.of_drew
        have HGW := Lib.hid hGw
        have hcc := (HGW.out.block HF1.out).cell
        have hsc := (HGW.out.block HS1.out).cell
        clear hR hGw
        simp only [depV]
        try go_simp
        all_goals first
          | (with_reducible exact Grow.refl _)
          | (with_reducible exact ⟨Grow.refl _, rfl⟩)
      · intro w5 hR
        have hGw : Grow w1 w5 := hR.of_drew
        have HGW := Lib.hid hGw
        have hcc := (HGW.out.block HF1.out).cell
        have hsc := (HGW.out.block HS1.out).cell
        clear hR hGw
        simp only [depV]
        rintro _ rfl
        try go_simp
        refine (copied_any l A c w5.heap.size w5 (HGA.out w5 (HGA1.out.trans HGW.out)) (Nat.le_refl _) (by omega)).mono ?_
        rintro e w6 ⟨Ag, cg, rfl, hig, hb6⟩
        exact ⟨hb6, Ag, cg, rfl, hig.at_⟩
      · intro w5 hR
        have hGw : Grow w1 w5 := hR.of_drew
        have HGW := Lib.hid hGw
        have hcc := (HGW.out.block HF1.out).cell
        have hsc := (HGW.out.block HS1.out).cell
        clear hR hGw
        simp only [depV]
        try go_simp
        all_goals first
          | (with_reducible exact Grow.refl _)
          | (with_reducible exact ⟨Grow.refl _, rfl⟩)
      · intro w5 hR
        have hGw : Grow w1 w5 := hR.of_drew
        have HGW := Lib.hid hGw
        have hcc := (HGW.out.block HF1.out).cell
        have hsc := (HGW.out.block HS1.out).cell
        clear hR hGw
        simp only [depV]
        rintro _ rfl
        try go_simp
        all_goals first
          | (with_reducible exact Grow.refl _)
          | (with_reducible exact ⟨Grow.refl _, rfl⟩)
      · intro w5 hR
        have hGw : Grow w1 w5 := hR.of_drew
        have HGW := Lib.hid hGw
        have hcc := (HGW.out.block HF1.out).cell
        have hsc := (HGW.out.block HS1.out).cell
        clear hR hGw
        simp only [depV]
        try go_simp
        all_goals first
          | (with_reducible exact Grow.refl _)
          | (with_reducible exact ⟨Grow.refl _, rfl⟩)
      · intro w5 hR
        have hGw : Grow w1 w5 := hR.of_drew
        have HGW := Lib.hid hGw
        have hcc := (HGW.out.block HF1.out).cell
        have hsc := (HGW.out.block HS1.out).cell
        clear hR hGw
        simp only [depV]
        rintro _ rfl
        try go_simp
        all_goals first
          | (with_reducible exact Grow.refl _)
          | (with_reducible exact ⟨Grow.refl _, rfl⟩)
      · intro w5 hR
        have hGw : Grow w1 w5 := hR.of_drew
        have HGW := Lib.hid hGw
        have hcc := (HGW.out.block HF1.out).cell
        have hsc := (HGW.out.block HS1.out).cell
        clear hR hGw
        simp only [depV]
        intro v1 hv1
        intro v3 hv3
        rintro _ rfl
        rintro _ rfl
        obtain ⟨Ag, cg, rfl, hig⟩ := hv1
        obtain ⟨A1, c1, rfl, ht1⟩ := hv3
        clear hcc hsc
        try go_simp
        refine (HWP.out Ag A1 cg c1 w5 hig ht1).mono ?_
        rintro e w6 ⟨v6, rfl, hv6, hb6⟩
        obtain ⟨A6, c6, rfl, h6⟩ := HRP.out _ _ hv6
        exact ⟨hb6, A6, c6, rfl, h6⟩
      · intro w5 hR
        have hGw : Grow w1 w5 := hR.of_drew
        have HGW := Lib.hid hGw
        have hcc := (HGW.out.block HF1.out).cell
        have hsc := (HGW.out.block HS1.out).cell
        clear hR hGw
        simp only [depV]
        intro v8 hv8
        obtain ⟨A6, c6, rfl, h6⟩ := hv8
        clear hcc hsc
        try go_simp
        exact ⟨Grow.refl _, A6, c6, rfl, h6⟩
      · intro w5 hR
        have hGw : Grow w1 w5 := hR.of_drew
        have HGW := Lib.hid hGw
        have hcc := (HGW.out.block HF1.out).cell
        have hsc := (HGW.out.block HS1.out).cell
        clear hR hGw
        simp only [depV]
        intro v9 hv9
        obtain ⟨A6, c6, rfl, h6⟩ := hv9
        clear hcc hsc
        try go_simp
        exact ⟨Grow.refl _, A6, c6, rfl, h6⟩
      · intro w5 hR
        have hGw : Grow w1 w5 := hR.of_drew
        have HGW := Lib.hid hGw
        have hcc := (HGW.out.block HF1.out).cell
        have hsc := (HGW.out.block HS1.out).cell
        clear hR hGw
        simp only [depV]
        intro v9 hv9
        obtain ⟨A6, c6, rfl, h6⟩ := hv9
        clear hcc hsc
        try go_simp
        all_goals first
          | (with_reducible exact Grow.refl _)
          | (with_reducible exact ⟨Grow.refl _, rfl⟩)
      · intro w5 hR
        have hGw : Grow w1 w5 := hR.of_drew
        have HGW := Lib.hid hGw
        have hcc := (HGW.out.block HF1.out).cell
        have hsc := (HGW.out.block HS1.out).cell
        clear hR hGw
        simp only [depV]
        intro v10 hv10
        obtain ⟨A6, c6, rfl, h6⟩ := hv10
        clear hcc hsc
        try go_simp
        exact ⟨Grow.refl _, A6, c6, rfl, h6⟩
    · intro w5 hR
      have HG5 : Hid (Grow w1 w5) := Lib.hid hR.of_drew
      clear hR
      simp only [finVC, List.take_succ_cons, List.take_zero, List.drop_succ_cons, List.drop_zero]
      rintro _ rfl
      intro v1 hv1
      rintro _ rfl
      intro v3 hv3
      rintro _ rfl
      rintro _ rfl
      rintro _ rfl
      rintro _ rfl
      intro v8 hv8
      intro v9 hv9
      intro v10 hv10
      rintro _ rfl
      intro v12 hv12
      simp only [Act.put, List.setIfInBounds_toArray, List.set_cons_succ, List.set_cons_zero]
      obtain ⟨A6, c6, rfl, h6⟩ := hv12
      have HG6 : Hid (Grow w w5) := Lib.hid (HGA1.out.trans HG5.out)
      have H6 := Lib.hid (fun (w0 : World) (hw : Grow w5 w0) => (h6.below hw).more hw.size)
      have hcc := (HG5.out.block HF1.out).cell
      have hsc := (HG5.out.block HS1.out).cell
      clear hv1 hv3 hv8 hv9 hv10 h6 HWP
      go_wp2_with fail
      refine (HWR.out w5 HG6.out).mono ?_
      rintro e w7 ⟨v7, rfl, hv7, hb7⟩
      obtain ⟨A7, c7, rfl, h7⟩ := HRP.out _ _ hv7
      have HG7 : Hid (Grow w w7) := Lib.hid (HG6.out.trans hb7)
      have HS2 := Lib.hid (lsame_any yl yl A6 A7 c6 c7 w7.heap.size w7.heap.size w7 (H6.out w7 hb7) h7 hyl9)
      rw [decide_eq_true rfl] at HS2
      generalize yl.length = ml at HS2 ⊢
      clear hv7 hb7 h7 hcc hsc H6 HWR
      have hnn1 : (es == es) = true := by simp
      go_wp2_with fail
      refine HS2.out.mono ?_
      rintro e w8 ⟨rfl, nq, rfl⟩
      have HG8 : Hid (Grow w (w7.drewN nq)) := Lib.hid (Below.drewN_ HG7.out nq)
      generalize w7.drewN nq = w8 at HG8 ⊢
      go_wp2_with fail
      refine (works_any _).mono ?_
      rintro e w9 ⟨rfl, hb9⟩
      go_wp2
      go_ret
      exact ⟨rfl, HG8.out.trans hb9⟩

end Go.Proofs.Ytinlojealfbbfaa
