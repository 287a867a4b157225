/- Plan: turns.task.plan. -/
import Derived.Test.YthlihchndmbkaaaBuild
namespace Go.Proofs.Ythlihchndmbkaaa
open Go.RowKit

theorem grow_same {w : World} {b : Nat} {t : TypeId} {v : Value} (h : BlockIs w b t #[v]) : Grow w (w.setCell ⟨b, 0, none⟩ v) := by
  refine ⟨rfl, rfl, rfl, by simp, fun k hk => ?_⟩
  by_cases e : k = b
  · subst e
    exact (h.near 0 v).trans h.symm
  · exact Below.heap_setCell w ⟨b, 0, none⟩ v k e
/-- what plan returns -/
def PlanV (t : TaskD) (lo : Nat) (v : Value) (m : Value) (w : World) : Prop := match planD t with
  | none => v = .slice none 0 0 ∧ ∃ u, m = .int .i64 u
  | some (xs, k) => ∃ b off cap, v = .slice (some ⟨b, off, none⟩) xs.length cap ∧ IntsFc w lo (some ⟨b, off, none⟩) cap xs ∧ m = .int .i64 k
theorem PlanV.grow {t : TaskD} {lo : Nat} {v m : Value} {x y : World} (h : PlanV t lo v m x) (k : Grow x y) : PlanV t lo v m y := by
  unfold PlanV at *
  split at h
  · exact h
  · obtain ⟨b, off, cap, h1, h2, h3⟩ := h
    exact ⟨b, off, cap, h1, h2.grow k, h3⟩
def NewBuf (lo r : Nat) (v : Value) (w : World) : Prop := ∃ b, v = .slice (some ⟨b, 0, none⟩) 0 r ∧ lo ≤ b ∧ RowAt w b r []
theorem NewBuf.grow {lo r : Nat} {v : Value} {x y : World} (h : NewBuf lo r v x) (k : Grow x y) : NewBuf lo r v y := by
  obtain ⟨b, h1, h2, h3⟩ := h
  exact ⟨b, h1, h2, h3.keep (Below.block k b h3.lt)⟩
theorem results_plan {fn : Func} (h : fn.results = #[.cell 2 23, .cell 3 3]) (t : Array Value) (W : World) (br bw : Nat) (v0 v1 : Value)
    (hb : BlockIs W br 23 #[v0]) (hb' : BlockIs W bw 3 #[v1]) (ht : t.getD 2 undef = .pointer (some ⟨br, 0, none⟩)) (hu : t.getD 3 undef = .pointer (some ⟨bw, 0, none⟩)) :
    (results fn t).run Try.prog W = .ok (.tuple #[v0, v1]) W := by
  have hc := hb.cell
  have hd := hb'.cell
  simp only [results, h]
  simp at ht hu
  simp [go_sem, ht, hu, hc, hd]

theorem make_int (ln : Nat) (w : World) (hl : ln ≤ 10) : (Instr.makeSlice 23 (.int .i64 0) (.int .i64 (ln : Int))).run Try.prog w = .ok (.slice (some ⟨w.heap.size, 0, none⟩) 0 ln) (w.alloc (.cells (madeCells #[.int .i64 0] ln) 3)) := by
  obtain ⟨i0, hi, hz0, hz1, hz2⟩ := info_parts Try.infoInt
  have h := run_make (P := Try.prog) w 23 3 i0 (.int .i64 0) Try.underlying23 hi hz0 .i64 .i64 0 ln (Int.le_refl _) (by omega) (by rw [hz2]; omega) (by omega)
  rw [hz1, Int.toNat_natCast, Nat.mul_one] at h
  exact h
theorem newBuf_make (ln : Nat) (w : World) {lo : Nat} (hl : lo ≤ w.heap.size) : NewBuf lo ln (.slice (some ⟨w.heap.size, 0, none⟩) 0 ln) (w.alloc (.cells (madeCells #[.int .i64 0] ln) 3)) :=
  ⟨w.heap.size, rfl, hl, _, BlockIs.new _ _ _, size_madeCells _ _, fun i x hi => by simp at hi⟩

set_option maxRecDepth 100000 in
set_option maxHeartbeats 8000000 in
theorem plan_any (t : TaskR) (n : Nat) (w : World) (ht : TaskAt w n t) (hn : n ≤ w.heap.size) (hok : okTask t.d = true) :
    Calls Try.prog 41 #[taskV t] w fun e w' => ∃ v m, e = .returned (.tuple #[v, m]) ∧ PlanV t.d w.heap.size v m w' ∧ Below w.heap.size w w' := by
  have HT := Lib.hid (ht.more hn)
  have HOK := Lib.hid hok
  clear ht hn hok
  go_enter Try.func41, Try.ntmps41
  go_upto_region 1 with fail
  obtain ⟨W, hW, hg, h0, h1, h2, hsz⟩ := three_blocks w 67 23 3 (cellsT t) #[.slice none 0 0] #[.int .i64 0]
  rw [hW]
  clear hW
  obtain ⟨bt, et⟩ : ∃ b, w.heap.size = b := ⟨_, rfl⟩
  obtain ⟨br, er⟩ : ∃ b, bt + 1 = b := ⟨_, rfl⟩
  obtain ⟨bw, ew⟩ : ∃ b, br + 1 = b := ⟨_, rfl⟩
  rw [et] at h0 h1 h2 hsz ⊢
  rw [er] at h1 h2 hsz ⊢
  rw [ew] at h2 hsz ⊢
  have HG := Lib.hid hg
  have HB0 := Lib.hid h0
  have HB1 := Lib.hid h1
  have HB2 := Lib.hid h2
  have htc := h0.cell
  have ltr : bt < br := by omega
  have lrw : br < bw := by omega
  clear hg h0 h1 h2 er ew
  go_wp2_with fail
  refine (worst_any t _).mono ?_
  rintro e w2 ⟨rfl, hb2⟩
  have HG2 : Hid (Grow W w2) := hb2
  have hz2 := hb2.size
  clear htc hb2
  go_upto_region 4 with fail
  obtain ⟨bc, ec⟩ : ∃ b, w2.heap.size = b := ⟨_, rfl⟩
  obtain ⟨bb, eb⟩ : ∃ b, bc + 1 = b := ⟨_, rfl⟩
  obtain ⟨W4, hW4, hg4, h3, h4, hsz4⟩ := two_blocks w2 80 92 (cellsC 68 67 t) #[.func (.func 60) #[] (capV br bw bt bb bc)]
  rw [ec] at h3 h4 hsz4 ⊢
  rw [eb] at h4 hsz4 ⊢
  rw [hW4]
  clear hW4
  have lwc : bw < bc := by omega
  have lcb : bc < bb := by omega
  clear eb
  have HG4 : Hid (Grow W W4) := HG2.out.trans hg4
  have HB3 := Lib.hid h3
  have HB4 := Lib.hid h4
  have HL : Hid (t.d.parts.length ≤ 10 ∧ t.d.hands.length ≤ 3) := ⟨(okTask_parts HOK.out).2.2.1.2, (okTask_parts HOK.out).1.2⟩
  clear hg4 h3 h4
  obtain ⟨ln, hln⟩ : ∃ k, t.d.parts.length = k := ⟨_, rfl⟩
  have HLN := Lib.hid hln
  have hl10 : ln ≤ 10 := by have := HL.out.1; omega
  clear hln
  refine wp_region_lit 8 [[], [], [(1, 10)], [(2, 11)], [(3, 12)], [(4, 13)], [], [(6, 15)]] Grow (fun i v w' => match i with
      | 0 => v = .func (.func 60) #[] (capV br bw bt bb bc)
      | 1 => v = .pointer (some ⟨bt, 0, none⟩)
      | 2 => v = .pointer (some ⟨bt, 1, none⟩)
      | 3 => v = .slice t.B ln t.cb
      | 4 => v = .int .i64 ln
      | 5 => NewBuf W4.heap.size ln v w'
      | 6 => v = courseV 68 67 t
      | 7 => v = stV (beginD true t.d)
      | _ => False) (by kernel_rfl) (by kernel_rfl) (fun _ _ _ => Grow.trans) Grow.refl ?_ ?_ ?_
  · intro i v y y' h k
    match i, h with
    | 5, h => exact h.grow k
    | 0, h | 1, h | 2, h | 3, h | 4, h | 6, h | 7, h => exact h
  · simp only [StepsLit, List.take_succ_cons, List.take_zero]
    refine ⟨?_, ?_, ?_, ?_, ?_, ?_, ?_, ?_, trivial⟩
    all_goals
      intro w5 hR
      have hGw : Grow W4 w5 := hR.of_drew
      have HGW := Lib.hid hGw
      have hbt1 : w5.cell? ⟨bt, 1, none⟩ = some (.slice t.B ln t.cb) := by rw [← HLN.out]; exact ((HG4.out.trans hGw).block HB0.out).cell 1
      have hbc := (hGw.block HB3.out).cell
      have hbb := (hGw.block HB4.out).cell
      clear hR hGw
      have hmk := make_int ln w5 hl10
      have hlo5 : W4.heap.size ≤ w5.heap.size := HGW.out.size
      simp only [depV]
      repeat (rintro _ rfl)
      try go_simp
    all_goals first
      | (with_reducible exact Grow.refl _)
      | (with_reducible exact ⟨Grow.refl _, rfl⟩)
      | skip
    · exact ⟨Grow.alloc _ _, newBuf_make ln w5 hlo5⟩
    · refine (begin_any true 68 67 endFn_high t w.heap.size w5 (HT.out.below (HG.out.trans (HG4.out.trans HGW.out))) (HG.out.trans (HG4.out.trans HGW.out)).size HL.out.2).mono ?_
      rintro e w6 ⟨rfl, hb6⟩
      exact ⟨hb6, rfl⟩
  · intro w5 hR
    have HG5 : Hid (Grow W4 w5) := Lib.hid hR.of_drew
    clear hR
    simp only [finVC, List.take_succ_cons, List.take_zero, List.drop_succ_cons, List.drop_zero]
    rintro _ rfl
    rintro _ rfl
    rintro _ rfl
    rintro _ rfl
    rintro _ rfl
    intro v5 hv5
    rintro _ rfl
    rintro _ rfl
    simp only [Act.put, List.setIfInBounds_toArray, List.set_cons_succ, List.set_cons_zero]
    obtain ⟨bf, rfl, hbf, hrow⟩ := hv5
    have hz5 := HG5.out.size
    have hzW := HG4.out.size
    have hblt := hrow.lt
    obtain ⟨lo, hlo⟩ : ∃ k, w5.heap.size = k := ⟨_, rfl⟩
    have hd : EnvD lo w.heap.size t br bw bt bb bc bf := ⟨HOK.out, by omega, by omega, by omega⟩
    have hE : EnvAt w5 lo w.heap.size t br bw bt bb bc := ⟨Nat.le_of_eq hlo.symm, HT.out.below (HG.out.trans (HG4.out.trans HG5.out)), (HG4.out.trans HG5.out).block HB0.out, HG5.out.block HB4.out, HG5.out.block HB3.out⟩
    have hB : BestAt w5 lo br bw none := ⟨(HG4.out.trans HG5.out).block HB1.out, 0, (HG4.out.trans HG5.out).block HB2.out⟩
    have hIH := build_any lo w.heap.size t br bw bt bb bc bf ln hd (Nat.le_of_eq HLN.out) ln [] (beginD true t.d) none w5 (by rw [HLN.out]; simp) (beginTo_ok (okTask_parts HOK.out).2.1 _ HL.out.2).1 (beginTo_ok (okTask_parts HOK.out).2.1 _ HL.out.2).2 (by simp) hE hB hrow
    have HPD : Hid (buildD t.d ln (natsL []) (beginD true t.d) none = planD t.d) := Lib.hid (by unfold planD; rw [HLN.out]; rfl)
    have HIH := Lib.hid hIH
    have HD := Lib.hid hd
    have hnew : w.heap.size ≤ bt := Nat.le_of_eq et
    clear hIH hE hB hrow hd
    have henters : ∀ args w, (callFunc 60 args).run Try.prog w = .ok (.enter 60 args) w := Go.Proofs.enters_of Try.func60 (by kernel_rfl) rfl
    go_wp2_with fail
    refine HIH.out.mono ?_
    rintro e w9 ⟨rfl, hB9, hK9, hR9⟩
    rw [HPD.out] at hB9
    have HB9 := Lib.hid hB9
    have HK9 := Lib.hid hK9
    clear hB9 hK9 hR9
    have hval : ∃ A l c m, BlockIs w9 br 23 #[.slice A l c] ∧ BlockIs w9 bw 3 #[.int .i64 m] ∧ PlanV t.d w.heap.size (.slice A l c) (.int .i64 m) w9 := by
      have hle : w.heap.size ≤ lo := by omega
      have hB := HB9.out
      unfold PlanV
      match planD t.d, hB with
      | none, ⟨h1, u, h2⟩ => exact ⟨_, _, _, _, h1, h2, rfl, u, rfl⟩
      | some (xs, k), ⟨⟨b, off, cap, h1, h2⟩, h3⟩ => exact ⟨_, _, _, _, h1, h3, b, off, cap, rfl, h2.mono hle, rfl⟩
    obtain ⟨Av, lv, cv, mv, hV, hM, hPV⟩ := hval
    have HV := Lib.hid hV
    have HM := Lib.hid hM
    have HPV := Lib.hid hPV
    have HK : Hid (Grow w w9) := Lib.hid ((HG.out.trans (HG4.out.trans HG5.out)).trans' (HK9.out.below (n := w.heap.size) (by omega) (by omega) (by omega) (by omega)))
    clear hV hM hPV HK9 HB9
    go_upto_region 5 with fail
    refine wp_region_litS 4 [[], [], [(0, 18)], [(1, 19)]] Grow (fun i v w' => match i with
        | 0 => v = .slice Av lv cv
        | 1 => v = .int .i64 mv
        | 2 => BlockIs w' br 23 #[.slice Av lv cv]
        | 3 => BlockIs w' bw 3 #[.int .i64 mv]
        | _ => False) (by kernel_rfl) (by kernel_rfl) (fun _ _ _ => Grow.trans) Grow.refl ?_ ?_ ?_
    · intro i v y y' h k
      match i, h with
      | 2, h => exact k.block h
      | 3, h => exact k.block h
      | 0, h | 1, h => exact h
    · simp only [StepsLit, List.take_succ_cons, List.take_zero]
      refine ⟨?_, ?_, ?_, ?_, trivial⟩
      all_goals
        intro w6 hR
        have hGw : Grow w9 w6 := hR.of_drew
        have hv6 := hGw.block HV.out
        have hm6 := hGw.block HM.out
        have HV6 := Lib.hid hv6
        have HM6 := Lib.hid hm6
        have hvc := hv6.cell 0
        have hmc := hm6.cell 0
        have hvf := hv6.frozen 0
        have hmf := hm6.frozen 0
        clear hR hGw hv6 hm6
        simp only [depV]
        repeat (rintro _ rfl)
        try go_simp
      all_goals first
        | (with_reducible exact Grow.refl _)
        | (with_reducible exact ⟨Grow.refl _, rfl⟩)
        | skip
      · exact ⟨grow_same HV6.out, (grow_same HV6.out).block HV6.out⟩
      · exact ⟨grow_same HM6.out, (grow_same HM6.out).block HM6.out⟩
    · intro w6 hR
      have HG6 : Hid (Grow w9 w6) := Lib.hid hR.of_drew
      clear hR
      simp only [finVC, List.take_succ_cons, List.take_zero, List.drop_succ_cons, List.drop_zero]
      rintro _ rfl
      rintro _ rfl
      intro v2 hv2
      intro v3 hv3
      simp only [Act.put, List.setIfInBounds_toArray, List.set_cons_succ, List.set_cons_zero]
      go_wp2
      exact bodyPost_ret (results_plan Try.results41 _ _ br bw _ _ hv2 hv3 rfl rfl) rfl ⟨_, _, rfl, HPV.out.grow HG6.out, HK.out.trans HG6.out⟩

end Go.Proofs.Ythlihchndmbkaaa
