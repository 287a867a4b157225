/- The specification's mirror form. -/
import Derived.Test.YtfpmkolaiomabaaGreatMirror
import Derived.Test.YtfpmkolaiomabaaGreatRegion
import Derived.Deep.AppendLies
namespace Go.Proofs.YtfpmkolaiomabaaGreat
open Go.RowKit

set_option maxRecDepth 100000 in
set_option maxHeartbeats 2000000 in
theorem rMirror_cap (f : FormD) (A : Option Addr) (cap B : Nat) (w : World) (hA : Ints w B A f.moves) (hl : f.moves.length ≤ 6) (hB : B ≤ w.heap.size) (hok : okForm f = true) :
    Calls Tryz.prog 41 #[formV f A cap] w fun e w' => ∃ A' cap', e = .returned (formV (mirrorD f) A' cap') ∧ IntsF w' w.heap.size A' (mirrorD f).moves ∧ Below w.heap.size w w' ∧ f.moves.length ≤ cap' := by
  obtain ⟨r, l, c, row, face, ms⟩ := f
  dsimp only at *
  have hc1 : -3 ≤ c ∧ c ≤ 3 := by simp [okForm, inB] at hok; omega
  obtain ⟨hc1, hc2⟩ := hc1
  have hmv : ∀ (j : Nat) (x : Int), ms[j]? = some x → 0 ≤ x ∧ x ≤ 7 := fun j x hx => okForm_move hok j x hx
  obtain ⟨i0, hi, hz0, hz1, hz2⟩ := info_parts Tryz.infoInt
  clear hok
  go_enter Tryz.func41, Tryz.ntmps41
  go_wp2
  obtain ⟨W, hW, hWb, hf, hr, ho, hsz⟩ : ∃ W, (((w.alloc (Obj.cells #[.int .i64 r, .int .i64 l, .int .i64 c, .int .i64 row, .int .i64 face, .slice A ms.length cap] 24)).alloc
      (Obj.cells #[.int .i64 0, .int .i64 0, .int .i64 0, .int .i64 0, .int .i64 0, .slice none 0 0] 24)).alloc
      (Obj.cells #[.int .i64 l, .int .i64 r, .int .i64 (-c), .int .i64 row, .int .i64 face, .slice none 0 0] 24)) = W ∧ Below w.heap.size w W ∧
      BlockIs W w.heap.size 24 #[.int .i64 r, .int .i64 l, .int .i64 c, .int .i64 row, .int .i64 face, .slice A ms.length cap] ∧
      BlockIs W (w.heap.size + 1) 24 #[.int .i64 0, .int .i64 0, .int .i64 0, .int .i64 0, .int .i64 0, .slice none 0 0] ∧
      BlockIs W (w.heap.size + 1 + 1) 24 #[.int .i64 l, .int .i64 r, .int .i64 (-c), .int .i64 row, .int .i64 face, .slice none 0 0] ∧ w.heap.size + 1 + 1 < W.heap.size := by
    refine ⟨_, rfl, by (repeat (first | (with_reducible exact Below.refl _ _) | (with_reducible assumption) | (with_reducible refine Below.drewN_ ?_ _) | (with_reducible refine Below.drew ?_) | (with_reducible refine Below.alloc ?_ (by first | omega | (simp <;> omega)) _) | (with_reducible refine Below.setCell ?_ (by first | omega | (simp <;> omega)) _))), ((BlockIs.new _ _ _).old _).old _, ?_, ?_, by simp⟩
    · have h := (BlockIs.new (w.alloc (Obj.cells #[.int .i64 r, .int .i64 l, .int .i64 c, .int .i64 row, .int .i64 face, .slice A ms.length cap] 24)) 24 #[.int .i64 0, .int .i64 0, .int .i64 0, .int .i64 0, .int .i64 0, .slice none 0 0]).old (Obj.cells #[.int .i64 l, .int .i64 r, .int .i64 (-c), .int .i64 row, .int .i64 face, .slice none 0 0] 24)
      simpa using h
    · have h := BlockIs.new ((w.alloc (Obj.cells #[.int .i64 r, .int .i64 l, .int .i64 c, .int .i64 row, .int .i64 face, .slice A ms.length cap] 24)).alloc (Obj.cells #[.int .i64 0, .int .i64 0, .int .i64 0, .int .i64 0, .int .i64 0, .slice none 0 0] 24)) 24 #[.int .i64 l, .int .i64 r, .int .i64 (-c), .int .i64 row, .int .i64 face, .slice none 0 0]
      simpa using h
  rw [hW]
  clear hW
  obtain ⟨b3, e3⟩ : ∃ b, w.heap.size + 1 + 1 = b := ⟨_, rfl⟩
  rw [e3] at hsz ho ⊢
  obtain ⟨b2, e2⟩ : ∃ b, w.heap.size + 1 = b := ⟨_, rfl⟩
  rw [e2] at hr ⊢
  have l2 : w.heap.size < b2 := by omega
  have l3 : b2 < b3 := by omega
  clear e2 e3
  go_loopw [4] (fun i wr => ∃ (k : Nat) (A' : Option Addr) (cap' : Nat), k ≤ ms.length ∧ i = .int .i64 k ∧ Below b3 W wr ∧ W.heap.size ≤ wr.heap.size ∧
      BlockIs wr b3 24 #[.int .i64 l, .int .i64 r, .int .i64 (-c), .int .i64 row, .int .i64 face, .slice A' k cap'] ∧
      wr.ownsRow W.heap.size 3 1 (.slice A' k cap') k (((ms.take k).map fun d => -d % 8).map (Value.int .i64))) (fun i _ => ms.length - (intOf i).toNat)
  case atStart => exact ⟨0, none, 0, Nat.zero_le _, rfl, Below.refl _ _, Nat.le_refl _, ho, by simp [World.ownsRow]⟩
  case round =>
    obtain ⟨k, A', cap', hk, rfl, hbw, hz, hob, hown⟩ := hrel
    have hAw := ((hA.more hB).below hWb).below (hbw.mono (by omega))
    have hfb := hf.below hbw (by omega)
    have hrb := hr.below hbw (by omega)
    by_cases hlt : k < ms.length
    · obtain ⟨b, off, x, rfl, hb, hc, HX⟩ := hAw.at_ hlt
      obtain ⟨hx0, hx7⟩ := hmv k x HX.out
      have hfc : wr.cell? ⟨w.heap.size, 5, none⟩ = some (.slice (some ⟨b, off, none⟩) ms.length cap) := hfb.cell 5
      have hoc : wr.cell? ⟨b3, 5, none⟩ = some (.slice A' k cap') := hob.cell 5
      have hof := hob.frozen 5
      have HF := Lib.hid hf
      have HR := Lib.hid hr
      have HO := Lib.hid ho
      have HOB := Lib.hid hob
      have HFB := Lib.hid hfb
      have HRB := Lib.hid hrb
      have HOWN := Lib.hid hown
      have HBW := Lib.hid hbw
      have HWB := Lib.hid hWb
      have ag3 := own_ne hown hsz
      have agf := own_ne hown (q := w.heap.size) (by omega)
      have agb := own_ne hown (q := b) (by omega)
      have lw : w.heap.size < wr.heap.size := by omega
      have lb3 : b3 < wr.heap.size := by omega
      have lb : b < wr.heap.size := by omega
      clear hf hr ho hob hfb hrb hown hbw hWb
      have s1 : IntKind.i64.wrap (8 - x) = 8 - x := IntWalk.i64_in _ (by omega)
      have s2 : (8 - x).tmod 8 = -x % 8 := by rw [Int.tmod_eq_emod_of_nonneg (by omega)]; omega
      have s1' := s1; have s2' := s2
      have hlt2 : (k : Int) < (ms.length : Int) := by omega
      have hk0 : (0 : Int) ≤ (k : Int) := by omega
      clear hA hAw
      go_wp2_with fail
      refine wp_region_lit 10 [[], [(0, 24)], [], [(2, 26)], [], [(3, 27), (4, 28)], [(5, 29)], [(6, 30)], [(7, 31)], [(8, 32)]] Grow (fun i v w' => match i with
          | 0 => v = .pointer (some ⟨b3, 5, none⟩) | 1 => v = .slice A' k cap' | 2 => v = .pointer (some ⟨w.heap.size, 5, none⟩) | 3 => v = .slice (some ⟨b, off, none⟩) ms.length cap
          | 4 => v = .int .i64 k | 5 => v = .pointer (some ⟨b, off + k, none⟩) | 6 => v = .int .i64 x | 7 => v = .int .i64 (8 - x) | 8 => v = .int .i64 (-x % 8)
          | 9 => ∃ g, v = .slice (some ⟨g, 0, none⟩) 1 1 ∧ wr.heap.size ≤ g ∧ BlockIs w' g 3 #[.int .i64 (-x % 8)]
          | _ => False) (by kernel_rfl) (by kernel_rfl) (fun _ _ _ => Grow.trans) Grow.refl ?_ ?_ ?_
      · intro i v x y h g
        match i, h with
        | 0, h | 1, h | 2, h | 3, h | 4, h | 5, h | 6, h | 7, h | 8, h => exact h
        | 9, ⟨q, h1, h2, h3⟩ => exact ⟨q, h1, h2, g.block h3⟩
      · simp only [StepsLit, List.take_succ_cons, List.take_zero]
        refine ⟨?_, ?_, ?_, ?_, ?_, ?_, ?_, ?_, ?_, ?_, trivial⟩
        all_goals
          intro w1 hR
          have hq1 := hR.cell hoc
          have hq2 := hR.cell hfc
          have hq3 := hR.cell hc
          have hq4 : wr.heap.size ≤ w1.heap.size := hR.size
          simp only [depV, Region.wanted, cond_true]
          repeat (rintro _ rfl)
          go_simp
          first | exact Grow.refl _ | exact ⟨Grow.alloc _ _, BlockIs.new _ _ _⟩
      · intro w2 hR2
        simp only [finVC, List.take_succ_cons, List.take_zero, List.drop_succ_cons, List.drop_zero]
        rintro _ rfl _ rfl _ rfl _ rfl _ rfl _ rfl _ rfl _ rfl _ rfl _ ⟨q, rfl, hq, hqb⟩
        have hG := hR2.of_drew
        have hown2 := own_grow HOWN.out hG
        have hzs : wr.heap.size ≤ w2.heap.size := hG.size
        have hob2 := (hG.block HOB.out)
        have hof2 := hob2.frozen 5
        have hoc2 : w2.cell? ⟨b3, 5, none⟩ = some (.slice A' k cap') := hob2.cell 5
        have HOB2 := Lib.hid hob2
        clear hob2
        have hn1 := news_one hqb
        have h63 : k + 1 ≤ maxLen := by unfold maxLen; omega
        simp only [Act.put, List.setIfInBounds_toArray, List.set_cons_succ, List.set_cons_zero]
        go_wp2_with (at_builtin; refine wpList_append_own _ rfl _ _ 22 rfl W.heap.size 3 i0 (.int .i64 0) 1 8 Tryz.underlying22 hi hz0 hz1 hz2 rfl (by decide) _ _ _ rfl hown2 ⟨q, 0, none⟩ 1 1 [.int .i64 (-x % 8)] rfl rfl ?c1 ?c2 ?c3 ?c4 ?c5 ?_)
        case c1 => exact hn1
        case c2 => simp [Value.oneCell']
        case c3 => exact h63
        case c4 => omega
        case c5 => omega
        intro v' w3 hown3 hgrow _
        obtain ⟨A2, cap2, rfl⟩ := own_form hown3
        have hob3 := HOB2.out.grown hgrow (Ne.symm ag3)
        have hof3 := hob3.frozen 5
        have hoc3 : w3.cell? ⟨b3, 5, none⟩ = some (.slice A' k cap') := hob3.cell 5
        have HOB3 := Lib.hid hob3
        have HOWN3 := Lib.hid hown3
        have HGR := Lib.hid hgrow
        have HG := Lib.hid hG
        clear hob3 hown3 hgrow hoc2 hof2 hown2 hn1 hqb hG hR2
        go_wp2
        go_roundw
        case rel =>
          refine ⟨k + 1, A2, cap2, by omega, by go_num, ?_, ?_, HOB3.out.near 5 _, ?_⟩
          · exact (((HBW.out.trans (Below.mono (show Below wr.heap.size wr w2 from HG.out) (by omega))).grown HGR.out (by omega) (fun q hq => by have := own_ge HOWN.out q hq; omega)).setCell (p := ⟨b3, 5, none⟩) (Nat.le_refl _) _)
          · have := HGR.out.size
            simp [World.setCell]
            omega
          · rw [take_snoc HX.out]
            have := ownsRow_setCell_below HOWN3.out (a := ⟨b3, 5, none⟩) hsz (.slice A2 (k + 1) cap2)
            simpa using this
        case measure => simp [intOf]; omega
    · obtain rfl : k = ms.length := by omega
      have hoc := hob.cell
      have hrc := hrb.cell
      have hrf := hrb.frozen
      have hfc := hfb.cell
      have HOWN := Lib.hid hown
      have HBW := Lib.hid hbw
      have HRB := Lib.hid hrb
      clear hA hAw hmv hi hz0 hz1 hz2 hown hbw hf hr ho hob hfb hrb
      go_wp2
      have h1 := (((((HRB.out.near 0 (.int .i64 l)).near 1 (.int .i64 r)).near 2 (.int .i64 (-c))).near 3 (.int .i64 row)).near 4 (.int .i64 face)).near 5 (.slice A' ms.length cap')
      have h2 := HOWN.out
      rw [List.take_length] at h2
      have h3 := fun (W1 : World) (h : W1.ownsRow W.heap.size 3 1 (.slice A' ms.length cap') ms.length ((ms.map fun d => -d % 8).map (Value.int .i64))) (j : Nat) (u : Value) => ownsRow_setCell_below h (a := ⟨b2, j, none⟩) (by simp; omega) u
      have h4 := h3 _ (h3 _ (h3 _ (h3 _ (h3 _ (h3 _ h2 0 (.int .i64 l)) 1 (.int .i64 r)) 2 (.int .i64 (-c))) 3 (.int .i64 row)) 4 (.int .i64 face)) 5 (.slice A' ms.length cap')
      have h5 := (own_intsF h4).mono (lo' := w.heap.size) (by omega)
      have h6 := (own_ints h4).2.2
      have hb2 := HBW.out.mono (B' := w.heap.size) (by omega)
      clear h2 h3 h4 hoc hrc hrf hfc
      refine bodyPost_ret (results_form Tryz.results41 _ _ _ _ _ _ _ _ _ h1 rfl) rfl ⟨A', cap', by simp [formV, mirrorD], h5, (hWb.trans ?_), h6⟩
      (repeat (first | (with_reducible exact Below.refl _ _) | (with_reducible assumption) | (with_reducible refine Below.drewN_ ?_ _) | (with_reducible refine Below.drew ?_) | (with_reducible refine Below.alloc ?_ (by first | omega | (simp <;> omega)) _) | (with_reducible refine Below.setCell ?_ (by first | omega | (simp <;> omega)) _)))

theorem rMirror_any (f : FormD) (A : Option Addr) (cap B : Nat) (w : World) (hA : Ints w B A f.moves) (hl : f.moves.length ≤ 6) (hB : B ≤ w.heap.size) (hok : okForm f = true) :
    Calls Tryz.prog 41 #[formV f A cap] w fun e w' => ∃ A' cap', e = .returned (formV (mirrorD f) A' cap') ∧ IntsF w' w.heap.size A' (mirrorD f).moves ∧ Below w.heap.size w w' :=
  (rMirror_cap f A cap B w hA hl hB hok).mono fun _ _ ⟨A', cap', h1, h2, h3, _⟩ => ⟨A', cap', h1, h2, h3⟩

end Go.Proofs.YtfpmkolaiomabaaGreat
