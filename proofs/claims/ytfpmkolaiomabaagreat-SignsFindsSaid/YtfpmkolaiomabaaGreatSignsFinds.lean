/- SignsFinds: the law's walk. -/
import Derived.Test.YtfpmkolaiomabaaGreatRAsk
import Derived.Test.YtfpmkolaiomabaaGreatWorks
import Derived.Test.YtfpmkolaiomabaaGreatCopySeen
import Derived.Test.YtfpmkolaiomabaaGreatCopy
namespace Go.Proofs.YtfpmkolaiomabaaGreat
open Go.RowKit

/-- v is a copy of the sight s -/
def NewS (s : SeenD) (v : Value) (w : World) : Prop := ∃ A cap, v = seenV s A cap ∧ IntsT w 0 A s.moves ∧ s.moves.length ≤ cap
theorem NewS.grow {s : SeenD} {v : Value} {w w' : World} (h : NewS s v w) (g : Grow w w') : NewS s v w' := by
  obtain ⟨A, cap, h1, h2, h3⟩ := h
  exact ⟨A, cap, h1, h2.grow g, h3⟩
/-- v points to a new sight -/
def NewP (lo : Nat) (v : Value) (w : World) : Prop := ∃ b, v = .pointer (some ⟨b, 0, none⟩) ∧ lo ≤ b ∧ BlockIs w b 50 #[.int .i64 0, .int .i64 0, .int .i64 0, .int .i64 0, .int .i64 0, .int .i64 0, .int .i64 0, .int .i64 0, .int .i64 0, .int .i64 0, .int .i64 0, .slice none 0 0]
theorem NewP.grow {lo : Nat} {v : Value} {w w' : World} (h : NewP lo v w) (g : Grow w w') : NewP lo v w' := by
  obtain ⟨b, h1, h2, h3⟩ := h
  exact ⟨b, h1, h2, g.block h3⟩

theorem grown_two {a b c : World} {r : Option Nat} (h : a.grownBy b r) (k : b.grownBy c r) : a.grownBy c r :=
  ⟨k.os.trans h.os, k.tape.trans h.tape, k.output.trans h.output, Nat.le_trans h.size k.size, fun i hi hne => (k.block i (Nat.lt_of_lt_of_le hi h.size) hne).trans (h.block i hi hne)⟩
theorem IntsT.keptB {w w' : World} {lo b : Nat} {t : TypeId} {cs : Array Value} {A : Option Addr} {xs : List Int} (h : IntsT w lo A xs) (hb : BlockIs w b t cs) (ht : t ≠ 3) (hg : w.grownBy w' (some b)) : IntsT w' lo A xs := by
  rcases h with h | ⟨c, off, ds, h1, h2, h3, h4⟩
  · exact .inl h
  · have hne : c ≠ b := by
      intro e
      subst e
      unfold BlockIs at h3 hb
      rw [h3] at hb
      injection hb with hb
      injection hb with _ e2 _
      exact ht e2.symm
    have hk := h3.grown hg (by simpa using hne)
    refine .inr ⟨c, off, ds, h1, h2, hk, fun j x hj => ?_⟩
    rw [hk.cell, ← h3.cell]
    exact h4 j x hj

set_option maxRecDepth 100000 in
set_option maxHeartbeats 16000000 in
theorem signsFinds_any (A A' : Option Addr) (cap cap' : Nat) (l : List EntryR) (s : SeenD) (w : World) (hA : EntsO w w.heap.size A l) (hl : l.length ≤ 9223372036854775807) (hA' : Ints w w.heap.size A' s.moves) (hc' : s.moves.length ≤ cap') :
    Calls Tryz.prog 6 #[.slice A l.length cap, seenV s A' cap'] w fun e w' => e = .returned (.bool true) ∧ Below w.heap.size w w' := by
  have HWK := Lib.hid works_any
  have HFA := Lib.hid (fun (w0 : World) (h : Grow w w0) => Far_any A cap w.heap.size l w0 (hA.below h) hl h.size)
  by_cases hP : farD (l.map (·.d)) = false ∧ s.moves.length ≤ 20
  · obtain ⟨hfar, hml⟩ := hP
    rw [hfar] at HFA
    have hlong : longD (l.map (·.d)) = false := by
      unfold farD at hfar
      rw [Bool.or_eq_false_iff] at hfar
      exact hfar.1
    obtain ⟨hE, hl60⟩ := hA.short hlong
    have hcaps : ∀ x ∈ l, x.d.form.moves.length ≤ x.cap := fun x hx => (hA.2 x hx).2
    have HML := Lib.hid (fun (d : EntryD) (hd : d ∈ l.map (·.d)) => show d.form.moves.length ≤ 1000000 by
      obtain ⟨x, hx, rfl⟩ := List.mem_map.1 hd
      exact (hE.2 x hx).2)
    have HCS := Lib.hid (fun (w0 : World) (h : Grow w w0) => rCopySeenT_any s A' cap' w.heap.size w0 (hA'.below h) (by omega) h.size)
    have HCO := Lib.hid (fun (w0 : World) (h : Grow w w0) => rCopy_any A cap w.heap.size l w0 (hE.below h) (by omega) h.size)
    have HRF := Lib.hid (fun (w0 : World) (h : Grow w w0) => rFind_any A A' cap cap' l s w0 ((hE.below h).more h.size) (by omega) ((hA'.below h).more h.size) (by omega) hc' hcaps)
    have HRA := Lib.hid (fun (w0 : World) (h : Grow w w0) => rAsk_any A A' cap cap' l s w0 ((hE.below h).more h.size) (by omega) ((hA'.below h).more h.size) (by omega) hc' hcaps)
    have d1 : decide (20 < (s.moves.length : Int)) = false := by simp; omega
    clear hA hE hcaps hlong hfar hA'
    go_enter Tryz.func6, Tryz.ntmps6
    go_upto_region 1 with fail
    obtain ⟨W, hW, hg, hf, hsz⟩ := one_block w 50 (cellsS s A' cap')
    rw [hW]
    clear hW
    have HG := Lib.hid hg
    have HF := Lib.hid hf
    clear hf hg
    go_wp2_with fail
    refine (HFA.out _ HG.out).mono ?_
    rintro e w2 ⟨rfl, hb2⟩
    have HG2 : Hid (Grow w w2) := HG.out.trans hb2
    have HF2 := Lib.hid (Grow.block hb2 HF.out)
    have hfc := HF2.out.cell
    clear hb2
    go_upto_region 3 with fail
    clear hfc
    refine wp_region_lit 6 [[], [(0, 26)], [], [(2, 28)], [], [(1, 27)]] Grow (fun i v w' => match i with
      | 0 => v = .slice A l.length cap
      | 1 => CopyAt w2.heap.size l v w'
      | 2 => v = seenV s A' cap'
      | 3 => NewS s v w'
      | 4 => NewP w2.heap.size v w'
      | 5 => CopyAt w2.heap.size l v w'
      | _ => False) (by kernel_rfl) (by kernel_rfl) (fun _ _ _ => Grow.trans) Grow.refl ?_ ?_ ?_
    · intro i v y y' h k
      match i, h with
      | 0, h | 2, h => exact h
      | 1, h => exact CopyAt.grow h k
      | 3, h => exact NewS.grow h k
      | 4, h => exact NewP.grow h k
      | 5, h => exact CopyAt.grow h k
    · simp only [StepsLit, List.take_succ_cons, List.take_zero]
      refine ⟨?_, ?_, ?_, ?_, ?_, ?_, trivial⟩
      all_goals
        intro w6 hR
        have HG6 := Lib.hid hR.of_drew
        have hfc := (HG6.out.block HF2.out).cell
        clear hR
        simp only [depV, Region.wanted, cond_true]
      · go_simp
        all_goals (with_reducible exact Grow.refl _)
      · rintro _ rfl
        go_simp
        refine (HCO.out _ (HG2.out.trans HG6.out)).mono ?_
        rintro e w7 ⟨v, rfl, hv, hb7⟩
        exact ⟨hb7, hv.mono HG6.out.size⟩
      · go_simp
        all_goals (with_reducible exact Grow.refl _)
      · rintro _ rfl
        go_simp
        refine (HCS.out _ (HG2.out.trans HG6.out)).mono ?_
        rintro e w7 ⟨A2, cap2, rfl, hi, hb7, hc⟩
        exact ⟨hb7, ⟨A2, cap2, rfl, hi.mono (Nat.zero_le _), hc⟩⟩
      · go_simp
        exact ⟨Grow.alloc _ _, ⟨_, rfl, HG6.out.size, BlockIs.new _ _ _⟩⟩
      · rintro v hv
        go_simp
        first
          | exact Grow.refl _
          | exact ⟨Grow.refl _, hv⟩
    · intro w6 hR
      have HG6 := Lib.hid hR.of_drew
      clear hR
      simp only [finVC, List.take_succ_cons, List.take_zero, List.drop_succ_cons, List.drop_zero]
      rintro _ rfl v1 - _ rfl _ ⟨A2, cap2, rfl, hi2, hc2⟩ _ ⟨bt, rfl, hbt, hbT⟩ _ ⟨A3, cap3, ys, rfl, hys, hown, hym⟩
      simp only [Act.put, List.setIfInBounds_toArray, List.set_cons_succ, List.set_cons_zero]
      have hyl : l.length = ys.length := by
        have := congrArg List.length hys
        simpa using this.symm
      have htf := hbT.frozen
      have htc := hbT.cell
      have HI2 := Lib.hid hi2
      have HYS := Lib.hid hys
      have HYM := Lib.hid hym
      have HOWN := Lib.hid hown
      have HBT := Lib.hid hbT
      clear hi2 hys hym hown hbT
      go_upto_region 4 with fail
      obtain ⟨W7, hW7, hT7, hB7, hg67⟩ : ∃ W', ((((((((((((w6.setCell ⟨bt, 0, none⟩ (.int .i64 s.rights)).setCell ⟨bt, 1, none⟩ (.int .i64 s.lefts)).setCell ⟨bt, 2, none⟩ (.int .i64 s.faces)).setCell ⟨bt, 3, none⟩ (.int .i64 s.regions)).setCell ⟨bt, 4, none⟩ (.int .i64 s.lost)).setCell ⟨bt, 5, none⟩ (.int .i64 s.cl)).setCell ⟨bt, 6, none⟩ (.int .i64 s.ch)).setCell ⟨bt, 7, none⟩ (.int .i64 s.rl)).setCell ⟨bt, 8, none⟩ (.int .i64 s.rh)).setCell ⟨bt, 9, none⟩ (.int .i64 s.al)).setCell ⟨bt, 10, none⟩ (.int .i64 s.ah)).setCell ⟨bt, 11, none⟩ (.slice A2 s.moves.length cap2)) = W' ∧ BlockIs W' bt 50 (cellsS s A2 cap2) ∧ Below bt w6 W' ∧ w6.grownBy W' (some bt) := ⟨_, rfl, twelve_stores HBT.out (.int .i64 s.rights) (.int .i64 s.lefts) (.int .i64 s.faces) (.int .i64 s.regions) (.int .i64 s.lost) (.int .i64 s.cl) (.int .i64 s.ch) (.int .i64 s.rl) (.int .i64 s.rh) (.int .i64 s.al) (.int .i64 s.ah) (.slice A2 s.moves.length cap2), (((((((((((((Below.refl _ _).setCell (p := ⟨bt, 0, none⟩) (Nat.le_refl _) _).setCell (p := ⟨bt, 1, none⟩) (Nat.le_refl _) _).setCell (p := ⟨bt, 2, none⟩) (Nat.le_refl _) _).setCell (p := ⟨bt, 3, none⟩) (Nat.le_refl _) _).setCell (p := ⟨bt, 4, none⟩) (Nat.le_refl _) _).setCell (p := ⟨bt, 5, none⟩) (Nat.le_refl _) _).setCell (p := ⟨bt, 6, none⟩) (Nat.le_refl _) _).setCell (p := ⟨bt, 7, none⟩) (Nat.le_refl _) _).setCell (p := ⟨bt, 8, none⟩) (Nat.le_refl _) _).setCell (p := ⟨bt, 9, none⟩) (Nat.le_refl _) _).setCell (p := ⟨bt, 10, none⟩) (Nat.le_refl _) _).setCell (p := ⟨bt, 11, none⟩) (Nat.le_refl _) _), (grown_two (grown_two (grown_two (grown_two (grown_two (grown_two (grown_two (grown_two (grown_two (grown_two (grown_two (grown_set _ ⟨bt, 0, none⟩ _) (grown_set _ ⟨bt, 1, none⟩ _)) (grown_set _ ⟨bt, 2, none⟩ _)) (grown_set _ ⟨bt, 3, none⟩ _)) (grown_set _ ⟨bt, 4, none⟩ _)) (grown_set _ ⟨bt, 5, none⟩ _)) (grown_set _ ⟨bt, 6, none⟩ _)) (grown_set _ ⟨bt, 7, none⟩ _)) (grown_set _ ⟨bt, 8, none⟩ _)) (grown_set _ ⟨bt, 9, none⟩ _)) (grown_set _ ⟨bt, 10, none⟩ _)) (grown_set _ ⟨bt, 11, none⟩ _))⟩
      rw [hW7]
      have hg7 : Grow w2 W7 := (HG6.out).trans' (hB7.mono hbt)
      have HG7 : Hid (Grow w W7) := HG2.out.trans hg7
      have HF7 := Lib.hid (hg7.block HF2.out)
      have HT7 := Lib.hid hT7
      have hI7 : Ints W7 W7.heap.size A2 s.moves := (HI2.out.keptB HBT.out (by decide) hg67).intsF.ints
      have hown7 := HOWN.out.kept hg67 (.inr (own_not_block HOWN.out HBT.out (by decide)))
      obtain ⟨hey, -⟩ := own_ents hown7 (fun y hy => ⟨((HYM.out y hy).1.keptB HBT.out (by decide) hg67).intsF.ints, HML.out y.d (by rw [← HYS.out]; exact List.mem_map.2 ⟨y, hy, rfl⟩)⟩)
      have HFY := Lib.hid (fun (w0 : World) (h : Grow W7 w0) => by have k := Find_any A3 A2 cap3 cap2 W7.heap.size ys s w0 (hey.below h) (by omega) (hI7.below h) (by omega) h.size; rw [← hyl, HYS.out] at k; exact k)
      have HAY := Lib.hid (fun (w0 : World) (h : Grow W7 w0) => by have k := Ask_any A3 A2 cap3 cap2 W7.heap.size ys s w0 (hey.below h) (by omega) (hI7.below h) (by omega) h.size; rw [← hyl, HYS.out] at k; exact k)
      clear hW7 htf htc hg67 hB7 hown7 hey hI7 hT7 hg7 HI2 HYM HYS HOWN HBT HML hyl
      have htc := HT7.out.cell
      go_wp2_with fail
      refine (HFY.out W7 (Grow.refl _)).mono ?_
      rintro e w8 ⟨hb8, A8, cap8, a, rfl, hi8, hn8, ho8⟩
      have HG8 : Hid (Grow w w8) := HG7.out.trans hb8
      have HG78 : Hid (Grow W7 w8) := hb8
      have HT8 := Lib.hid (Grow.block hb8 HT7.out)
      have HF8 := Lib.hid (Grow.block hb8 HF7.out)
      have HI8 := Lib.hid hi8.ints
      have HN8 := Lib.hid hn8
      have HO8 := Lib.hid ho8
      clear htc hb8 hi8 hn8 ho8
      have hfc := HF8.out.cell
      go_wp2_with fail
      refine (HRF.out w8 HG8.out).mono ?_
      rintro e w9 ⟨hb9, A9, cap9, b, rfl, hi9, hn9, ho9, hl9⟩
      have HG9 : Hid (Grow w w9) := HG8.out.trans hb9
      have HG79 : Hid (Grow W7 w9) := HG78.out.trans hb9
      have HT9 := Lib.hid (Grow.block hb9 HT8.out)
      have HF9 := Lib.hid (Grow.block hb9 HF8.out)
      have HI8' := Lib.hid ((HI8.out.below hb9).more (Below.size hb9))
      have HI9 := Lib.hid hi9.ints
      have hab : a = b := by
        by_cases h : findErr (l.map (·.d)) s = 0
        · exact (HO8.out h).unique (ho9 h)
        · rw [(HN8.out h).2, hn9 h]
      subst hab
      clear hfc hb9 hi9 hn9 ho9 HN8 HO8
      have htc := HT9.out.cell
      go_wp2_with fail
      refine (HAY.out w9 HG79.out).mono ?_
      rintro e w10 ⟨hb10, rfl⟩
      have HG10 : Hid (Grow w w10) := HG9.out.trans hb10
      have HF10 := Lib.hid (Grow.block hb10 HF9.out)
      have HI8a := Lib.hid ((HI8'.out.below hb10).more (Below.size hb10))
      have HI9a := Lib.hid ((HI9.out.below hb10).more (Below.size hb10))
      clear htc hb10
      have hfc := HF10.out.cell
      go_wp2_with fail
      refine (HRA.out w10 HG10.out).mono ?_
      rintro e w11 ⟨rfl, hb11⟩
      have HG11 : Hid (Grow w w11) := HG10.out.trans hb11
      have hsi := sameInts_any A8 A9 cap8 cap9 w10.heap.size w10.heap.size a a w11 (HI8a.out.below hb11) (HI9a.out.below hb11) (by omega) (by omega)
      rw [decide_eq_true rfl] at hsi
      have HSI := Lib.hid hsi
      clear hfc hb11 hsi
      generalize (askR (l.map (·.d)) s).1 = q0
      generalize (askR (l.map (·.d)) s).2.1 = q1
      generalize (askR (l.map (·.d)) s).2.2 = q2
      generalize findErr (l.map (·.d)) s = fe
      go_wp2_with fail
      refine HSI.out.mono ?_
      rintro e w12 ⟨rfl, n, rfl⟩
      go_wp2_with fail
      refine (HWK.out _).mono ?_
      rintro e w13 ⟨rfl, hb13⟩
      have HG13 : Hid (Grow w w13) := Grow.trans (show Grow w (w11.drewN n) from Below.drewN_ HG11.out n) hb13
      clear hb13
      go_wp2
      go_ret
      exact ⟨rfl, HG13.out⟩
  · have HP := Lib.hid hP
    clear hA hA' hP
    go_enter Tryz.func6, Tryz.ntmps6
    go_upto_region 1 with fail
    obtain ⟨W, hW, hg, hf, hsz⟩ := one_block w 50 (cellsS s A' cap')
    rw [hW]
    clear hW
    have HG := Lib.hid hg
    have HF := Lib.hid hf
    clear hf hg
    go_wp2_with fail
    refine (HFA.out _ HG.out).mono ?_
    rintro e w2 ⟨rfl, hb2⟩
    have HG2 : Hid (Grow w w2) := HG.out.trans hb2
    have HF2 := Lib.hid (Grow.block hb2 HF.out)
    have hfc := HF2.out.cell
    clear hb2
    generalize farD (l.map (·.d)) = fa at HP ⊢
    cases fa with
    | true =>
      go_wp2_with fail
      refine (HWK.out _).mono ?_
      rintro e w13 ⟨rfl, hb13⟩
      have HG13 : Hid (Grow w w13) := HG2.out.trans hb13
      clear hb13
      go_wp2
      go_ret
      exact ⟨rfl, HG13.out⟩
    | false =>
      have d1 : decide (20 < (s.moves.length : Int)) = true := decide_eq_true (by
        by_cases h : 20 < (s.moves.length : Int)
        · exact h
        · exact absurd ⟨rfl, by omega⟩ HP.out)
      go_wp2_with fail
      refine (HWK.out _).mono ?_
      rintro e w13 ⟨rfl, hb13⟩
      have HG13 : Hid (Grow w w13) := HG2.out.trans hb13
      clear hb13
      go_wp2
      go_ret
      exact ⟨rfl, HG13.out⟩

end Go.Proofs.YtfpmkolaiomabaaGreat
