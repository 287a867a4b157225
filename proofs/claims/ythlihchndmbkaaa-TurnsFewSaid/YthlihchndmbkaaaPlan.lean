/- Plan: turns.task.plan. PlanApi: turns.Plan. Example: the laws' example. Works: the laws' look at the examples. -/
import Derived.Test.YthlihchndmbkaaaBuild
import Derived.Test.YthlihchndmbkaaaPlanD
namespace Go.Proofs.Ythlihchndmbkaaa
open Go.RowKit

theorem grow_same {w : World} {b : Nat} {t : TypeId} {v : Value} (h : BlockIs w b t #[v]) : Grow w (w.setCell ⟨b, 0, none⟩ v) := by
  refine ⟨rfl, rfl, rfl, by simp, fun k hk => ?_⟩
  by_cases e : k = b
  · subst e
    exact (h.near 0 v).trans h.symm
  · exact Below.heap_setCell w ⟨b, 0, none⟩ v k e
/-- what plan returns -/
def PlanV (t : TaskD) (lo : Nat) (v : Value) (m : Value) (w : World) : Prop := match planD t with
  | none => v = .slice none 0 0 ∧ ∃ u, m = .int .i64 u
  | some (xs, k) => ∃ b off cap, v = .slice (some ⟨b, off, none⟩) xs.length cap ∧ IntsFc w lo (some ⟨b, off, none⟩) cap xs ∧ m = .int .i64 k
theorem PlanV.grow {t : TaskD} {lo : Nat} {v m : Value} {x y : World} (h : PlanV t lo v m x) (k : Grow x y) : PlanV t lo v m y := by
  unfold PlanV at *
  split at h
  · exact h
  · obtain ⟨b, off, cap, h1, h2, h3⟩ := h
    exact ⟨b, off, cap, h1, h2.grow k, h3⟩
def NewBuf (lo r : Nat) (v : Value) (w : World) : Prop := ∃ b, v = .slice (some ⟨b, 0, none⟩) 0 r ∧ lo ≤ b ∧ RowAt w b r []
theorem NewBuf.grow {lo r : Nat} {v : Value} {x y : World} (h : NewBuf lo r v x) (k : Grow x y) : NewBuf lo r v y := by
  obtain ⟨b, h1, h2, h3⟩ := h
  exact ⟨b, h1, h2, h3.keep (Below.block k b h3.lt)⟩
theorem results_plan {fn : Func} (h : fn.results = #[.cell 2 23, .cell 3 3]) (t : Array Value) (W : World) (br bw : Nat) (v0 v1 : Value)
    (hb : BlockIs W br 23 #[v0]) (hb' : BlockIs W bw 3 #[v1]) (ht : t.getD 2 undef = .pointer (some ⟨br, 0, none⟩)) (hu : t.getD 3 undef = .pointer (some ⟨bw, 0, none⟩)) :
    (results fn t).run Try.prog W = .ok (.tuple #[v0, v1]) W := by
  have hc := hb.cell
  have hd := hb'.cell
  simp only [results, h]
  simp at ht hu
  simp [go_sem, ht, hu, hc, hd]

theorem make_int (ln : Nat) (w : World) (hl : ln ≤ 10) : (Instr.makeSlice 23 (.int .i64 0) (.int .i64 (ln : Int))).run Try.prog w = .ok (.slice (some ⟨w.heap.size, 0, none⟩) 0 ln) (w.alloc (.cells (madeCells #[.int .i64 0] ln) 3)) := by
  obtain ⟨i0, hi, hz0, hz1, hz2⟩ := info_parts Try.infoInt
  have h := run_make (P := Try.prog) w 23 3 i0 (.int .i64 0) Try.underlying23 hi hz0 .i64 .i64 0 ln (Int.le_refl _) (by omega) (by rw [hz2]; omega) (by omega)
  rw [hz1, Int.toNat_natCast, Nat.mul_one] at h
  exact h
theorem newBuf_make (ln : Nat) (w : World) {lo : Nat} (hl : lo ≤ w.heap.size) : NewBuf lo ln (.slice (some ⟨w.heap.size, 0, none⟩) 0 ln) (w.alloc (.cells (madeCells #[.int .i64 0] ln) 3)) :=
  ⟨w.heap.size, rfl, hl, _, BlockIs.new _ _ _, size_madeCells _ _, fun i x hi => by simp at hi⟩

set_option maxRecDepth 100000 in
set_option maxHeartbeats 8000000 in
theorem plan_any (t : TaskR) (n : Nat) (w : World) (ht : TaskAt w n t) (hn : n ≤ w.heap.size) (hok : okTask t.d = true) :
    Calls Try.prog 41 #[taskV t] w fun e w' => ∃ v m, e = .returned (.tuple #[v, m]) ∧ PlanV t.d w.heap.size v m w' ∧ Below w.heap.size w w' := by
  have HT := Lib.hid (ht.more hn)
  have HOK := Lib.hid hok
  clear ht hn hok
  go_enter Try.func41, Try.ntmps41
  go_upto_region 1 with fail
  obtain ⟨W, hW, hg, h0, h1, h2, hsz⟩ := three_blocks w 67 23 3 (cellsT t) #[.slice none 0 0] #[.int .i64 0]
  rw [hW]
  clear hW
  obtain ⟨bt, et⟩ : ∃ b, w.heap.size = b := ⟨_, rfl⟩
  obtain ⟨br, er⟩ : ∃ b, bt + 1 = b := ⟨_, rfl⟩
  obtain ⟨bw, ew⟩ : ∃ b, br + 1 = b := ⟨_, rfl⟩
  rw [et] at h0 h1 h2 hsz ⊢
  rw [er] at h1 h2 hsz ⊢
  rw [ew] at h2 hsz ⊢
  have HG := Lib.hid hg
  have HB0 := Lib.hid h0
  have HB1 := Lib.hid h1
  have HB2 := Lib.hid h2
  have htc := h0.cell
  have ltr : bt < br := by omega
  have lrw : br < bw := by omega
  clear hg h0 h1 h2 er ew
  go_wp2_with fail
  refine (worst_any t _).mono ?_
  rintro e w2 ⟨rfl, hb2⟩
  have HG2 : Hid (Grow W w2) := hb2
  have hz2 := hb2.size
  clear htc hb2
  go_upto_region 4 with fail
  obtain ⟨bc, ec⟩ : ∃ b, w2.heap.size = b := ⟨_, rfl⟩
  obtain ⟨bb, eb⟩ : ∃ b, bc + 1 = b := ⟨_, rfl⟩
  obtain ⟨W4, hW4, hg4, h3, h4, hsz4⟩ := two_blocks w2 80 92 (cellsC 68 67 t) #[.func (.func 60) #[] (capV br bw bt bb bc)]
  rw [ec] at h3 h4 hsz4 ⊢
  rw [eb] at h4 hsz4 ⊢
  rw [hW4]
  clear hW4
  have lwc : bw < bc := by omega
  have lcb : bc < bb := by omega
  clear eb
  have HG4 : Hid (Grow W W4) := HG2.out.trans hg4
  have HB3 := Lib.hid h3
  have HB4 := Lib.hid h4
  have HL : Hid (t.d.parts.length ≤ 10 ∧ t.d.hands.length ≤ 3) := ⟨(okTask_parts HOK.out).2.2.1.2, (okTask_parts HOK.out).1.2⟩
  clear hg4 h3 h4
  obtain ⟨ln, hln⟩ : ∃ k, t.d.parts.length = k := ⟨_, rfl⟩
  have HLN := Lib.hid hln
  have hl10 : ln ≤ 10 := by have := HL.out.1; omega
  clear hln
  refine wp_region_lit 8 [[], [], [(1, 10)], [(2, 11)], [(3, 12)], [(4, 13)], [], [(6, 15)]] Grow (fun i v w' => match i with
      | 0 => v = .func (.func 60) #[] (capV br bw bt bb bc)
      | 1 => v = .pointer (some ⟨bt, 0, none⟩)
      | 2 => v = .pointer (some ⟨bt, 1, none⟩)
      | 3 => v = .slice t.B ln t.cb
      | 4 => v = .int .i64 ln
      | 5 => NewBuf W4.heap.size ln v w'
      | 6 => v = courseV 68 67 t
      | 7 => v = stV (beginD true t.d)
      | _ => False) (by kernel_rfl) (by kernel_rfl) (fun _ _ _ => Grow.trans) Grow.refl ?_ ?_ ?_
  · intro i v y y' h k
    match i, h with
    | 5, h => exact h.grow k
    | 0, h | 1, h | 2, h | 3, h | 4, h | 6, h | 7, h => exact h
  · simp only [StepsLit, List.take_succ_cons, List.take_zero]
    refine ⟨?_, ?_, ?_, ?_, ?_, ?_, ?_, ?_, trivial⟩
    all_goals
      intro w5 hR
      have hGw : Grow W4 w5 := hR.of_drew
      have HGW := Lib.hid hGw
      have hbt1 : w5.cell? ⟨bt, 1, none⟩ = some (.slice t.B ln t.cb) := by rw [← HLN.out]; exact ((HG4.out.trans hGw).block HB0.out).cell 1
      have hbc := (hGw.block HB3.out).cell
      have hbb := (hGw.block HB4.out).cell
      clear hR hGw
      have hmk := make_int ln w5 hl10
      have hlo5 : W4.heap.size ≤ w5.heap.size := HGW.out.size
      simp only [depV]
      repeat (rintro _ rfl)
      try go_simp
    all_goals first
      | (with_reducible exact Grow.refl _)
      | (with_reducible exact ⟨Grow.refl _, rfl⟩)
      | skip
    · exact ⟨Grow.alloc _ _, newBuf_make ln w5 hlo5⟩
    · refine (begin_any true 68 67 endFn_high t w.heap.size w5 (HT.out.below (HG.out.trans (HG4.out.trans HGW.out))) (HG.out.trans (HG4.out.trans HGW.out)).size HL.out.2).mono ?_
      rintro e w6 ⟨rfl, hb6⟩
      exact ⟨hb6, rfl⟩
  · intro w5 hR
    have HG5 : Hid (Grow W4 w5) := Lib.hid hR.of_drew
    clear hR
    simp only [finVC, List.take_succ_cons, List.take_zero, List.drop_succ_cons, List.drop_zero]
    rintro _ rfl
    rintro _ rfl
    rintro _ rfl
    rintro _ rfl
    rintro _ rfl
    intro v5 hv5
    rintro _ rfl
    rintro _ rfl
    simp only [Act.put, List.setIfInBounds_toArray, List.set_cons_succ, List.set_cons_zero]
    obtain ⟨bf, rfl, hbf, hrow⟩ := hv5
    have hz5 := HG5.out.size
    have hzW := HG4.out.size
    have hblt := hrow.lt
    obtain ⟨lo, hlo⟩ : ∃ k, w5.heap.size = k := ⟨_, rfl⟩
    have hd : EnvD lo w.heap.size t br bw bt bb bc bf := ⟨HOK.out, by omega, by omega, by omega⟩
    have hE : EnvAt w5 lo w.heap.size t br bw bt bb bc := ⟨Nat.le_of_eq hlo.symm, HT.out.below (HG.out.trans (HG4.out.trans HG5.out)), (HG4.out.trans HG5.out).block HB0.out, HG5.out.block HB4.out, HG5.out.block HB3.out⟩
    have hB : BestAt w5 lo br bw none := ⟨(HG4.out.trans HG5.out).block HB1.out, 0, (HG4.out.trans HG5.out).block HB2.out⟩
    have hIH := build_any lo w.heap.size t br bw bt bb bc bf ln hd (Nat.le_of_eq HLN.out) ln [] (beginD true t.d) none w5 (by rw [HLN.out]; simp) (beginTo_ok (okTask_parts HOK.out).2.1 _ HL.out.2).1 (beginTo_ok (okTask_parts HOK.out).2.1 _ HL.out.2).2 (by simp) hE hB hrow
    have HPD : Hid (buildD t.d ln (natsL []) (beginD true t.d) none = planD t.d) := Lib.hid (by unfold planD; rw [HLN.out]; rfl)
    have HIH := Lib.hid hIH
    have HD := Lib.hid hd
    have hnew : w.heap.size ≤ bt := Nat.le_of_eq et
    clear hIH hE hB hrow hd
    have henters : ∀ args w, (callFunc 60 args).run Try.prog w = .ok (.enter 60 args) w := Go.Proofs.enters_of Try.func60 (by kernel_rfl) rfl
    go_wp2_with fail
    refine HIH.out.mono ?_
    rintro e w9 ⟨rfl, hB9, hK9, hR9⟩
    rw [HPD.out] at hB9
    have HB9 := Lib.hid hB9
    have HK9 := Lib.hid hK9
    clear hB9 hK9 hR9
    have hval : ∃ A l c m, BlockIs w9 br 23 #[.slice A l c] ∧ BlockIs w9 bw 3 #[.int .i64 m] ∧ PlanV t.d w.heap.size (.slice A l c) (.int .i64 m) w9 := by
      have hle : w.heap.size ≤ lo := by omega
      have hB := HB9.out
      unfold PlanV
      match planD t.d, hB with
      | none, ⟨h1, u, h2⟩ => exact ⟨_, _, _, _, h1, h2, rfl, u, rfl⟩
      | some (xs, k), ⟨⟨b, off, cap, h1, h2⟩, h3⟩ => exact ⟨_, _, _, _, h1, h3, b, off, cap, rfl, h2.mono hle, rfl⟩
    obtain ⟨Av, lv, cv, mv, hV, hM, hPV⟩ := hval
    have HV := Lib.hid hV
    have HM := Lib.hid hM
    have HPV := Lib.hid hPV
    have HK : Hid (Grow w w9) := Lib.hid ((HG.out.trans (HG4.out.trans HG5.out)).trans' (HK9.out.below (n := w.heap.size) (by omega) (by omega) (by omega) (by omega)))
    clear hV hM hPV HK9 HB9
    go_upto_region 5 with fail
    refine wp_region_litS 4 [[], [], [(0, 18)], [(1, 19)]] Grow (fun i v w' => match i with
        | 0 => v = .slice Av lv cv
        | 1 => v = .int .i64 mv
        | 2 => BlockIs w' br 23 #[.slice Av lv cv]
        | 3 => BlockIs w' bw 3 #[.int .i64 mv]
        | _ => False) (by kernel_rfl) (by kernel_rfl) (fun _ _ _ => Grow.trans) Grow.refl ?_ ?_ ?_
    · intro i v y y' h k
      match i, h with
      | 2, h => exact k.block h
      | 3, h => exact k.block h
      | 0, h | 1, h => exact h
    · simp only [StepsLit, List.take_succ_cons, List.take_zero]
      refine ⟨?_, ?_, ?_, ?_, trivial⟩
      all_goals
        intro w6 hR
        have hGw : Grow w9 w6 := hR.of_drew
        have hv6 := hGw.block HV.out
        have hm6 := hGw.block HM.out
        have HV6 := Lib.hid hv6
        have HM6 := Lib.hid hm6
        have hvc := hv6.cell 0
        have hmc := hm6.cell 0
        have hvf := hv6.frozen 0
        have hmf := hm6.frozen 0
        clear hR hGw hv6 hm6
        simp only [depV]
        repeat (rintro _ rfl)
        try go_simp
      all_goals first
        | (with_reducible exact Grow.refl _)
        | (with_reducible exact ⟨Grow.refl _, rfl⟩)
        | skip
      · exact ⟨grow_same HV6.out, (grow_same HV6.out).block HV6.out⟩
      · exact ⟨grow_same HM6.out, (grow_same HM6.out).block HM6.out⟩
    · intro w6 hR
      have HG6 : Hid (Grow w9 w6) := Lib.hid hR.of_drew
      clear hR
      simp only [finVC, List.take_succ_cons, List.take_zero, List.drop_succ_cons, List.drop_zero]
      rintro _ rfl
      rintro _ rfl
      intro v2 hv2
      intro v3 hv3
      simp only [Act.put, List.setIfInBounds_toArray, List.set_cons_succ, List.set_cons_zero]
      go_wp2
      exact bodyPost_ret (results_plan Try.results41 _ _ br bw _ _ hv2 hv3 rfl rfl) rfl ⟨_, _, rfl, HPV.out.grow HG6.out, HK.out.trans HG6.out⟩

end Go.Proofs.Ythlihchndmbkaaa

namespace Go.Proofs.Ythlihchndmbkaaa
open Go.RowKit

def PlanApiV (t : TaskD) (lo : Nat) (v m : Value) (er : Int) (w : World) : Prop :=
  if okTask t = true then match planD t with
    | none => v = .slice none 0 0 ∧ m = .int .i64 0 ∧ er = 3
    | some (xs, k) => ∃ b off cap, v = .slice (some ⟨b, off, none⟩) xs.length cap ∧ IntsFc w lo (some ⟨b, off, none⟩) cap xs ∧ m = .int .i64 k ∧ er = 0
  else v = .slice none 0 0 ∧ m = .int .i64 0 ∧ er = 40
theorem results_three234 {fn : Func} (h : fn.results = #[.tmp 2, .tmp 3, .tmp 4]) (t : Array Value) (W : World) (u1 u2 u3 : Value) (h1 : t.getD 2 undef = u1) (h2 : t.getD 3 undef = u2) (h3 : t.getD 4 undef = u3) :
    (results fn t).run Try.prog W = .ok (.tuple #[u1, u2, u3]) W := by
  simp only [results, h]
  simp at h1 h2 h3
  simp [go_sem, h1, h2, h3]

set_option maxRecDepth 100000 in
set_option maxHeartbeats 8000000 in
theorem planApi_any (t : TaskR) (n : Nat) (w : World) (ht : TaskAt w n t) (hn : n ≤ w.heap.size) :
    Calls Try.prog 13 #[taskV t] w fun e w' => ∃ v m er, e = .returned (.tuple #[v, m, .int .i64 er]) ∧ PlanApiV t.d w.heap.size v m er w' ∧ Below w.heap.size w w' := by
  have HV := Lib.hid (fun (w0 : World) (hw : Grow w w0) => read_any t w.heap.size w0 ((ht.more hn).below hw) hw.size)
  by_cases hk : okTask t.d = true
  · have HPL := Lib.hid (fun (w0 : World) (hw : Grow w w0) => plan_any t w.heap.size w0 ((ht.more hn).below hw) hw.size hk)
    rw [if_pos hk, if_pos hk] at HV
    have HOK := Lib.hid hk
    clear ht hn hk
    go_enter Try.func13, Try.ntmps13
    go_upto_region 1 with fail
    obtain ⟨W, hW, hg, hf, hsz⟩ := one_block w 25 (cellsT t)
    rw [hW]
    clear hW
    have hcc := hf.cell
    have HG := Lib.hid hg
    clear hf hg
    go_wp2_with fail
    refine (HV.out _ HG.out).mono ?_
    rintro e w2 ⟨rfl, hb2⟩
    have HG2 : Hid (Grow w w2) := HG.out.trans hb2
    clear hcc hb2
    go_upto_region 2 with fail
    obtain ⟨W3, hW3, hg3, hS3, hsz3⟩ := one_block w2 67 (cellsT t)
    rw [hW3]
    clear hW3
    have HG3 : Hid (Grow w W3) := HG2.out.trans hg3
    have hcc := hS3.cell
    clear hg3 hS3
    go_wp2_with fail
    refine (HPL.out _ HG3.out).mono ?_
    rintro e w4 ⟨v, m, rfl, hpv, hb4⟩
    have HG4 : Hid (Grow w w4) := HG3.out.trans hb4
    have HLE : Hid (w.heap.size ≤ W3.heap.size) := HG3.out.size
    clear hcc hb4
    unfold PlanV at hpv
    cases hpd : planD t.d with
    | none =>
      rw [hpd] at hpv
      obtain ⟨rfl, u, rfl⟩ := hpv
      have HPD := Lib.hid hpd
      clear hpd
      have hnil := none_eql_nil
      go_wp2
      exact bodyPost_ret (results_three234 Try.results13 _ _ _ _ _ rfl rfl rfl) rfl ⟨_, _, _, rfl, by unfold PlanApiV; rw [if_pos HOK.out, HPD.out]; exact ⟨rfl, rfl, rfl⟩, HG4.out⟩
    | some p =>
      obtain ⟨xs, k⟩ := p
      rw [hpd] at hpv
      obtain ⟨b, off, cap, rfl, hF, rfl⟩ := hpv
      have HPD := Lib.hid hpd
      have HF := Lib.hid hF
      clear hpd hF
      have hnil := some_eql_nil
      go_wp2
      exact bodyPost_ret (results_three234 Try.results13 _ _ _ _ _ rfl rfl rfl) rfl ⟨_, _, _, rfl, by unfold PlanApiV; rw [if_pos HOK.out, HPD.out]; exact ⟨b, off, cap, rfl, HF.out.mono HLE.out, rfl, rfl⟩, HG4.out⟩
  · rw [if_neg hk, if_neg hk] at HV
    have HOK := Lib.hid hk
    clear ht hn hk
    go_enter Try.func13, Try.ntmps13
    go_upto_region 1 with fail
    obtain ⟨W, hW, hg, hf, hsz⟩ := one_block w 25 (cellsT t)
    rw [hW]
    clear hW
    have hcc := hf.cell
    have HG := Lib.hid hg
    clear hf hg
    go_wp2_with fail
    refine (HV.out _ HG.out).mono ?_
    rintro e w2 ⟨rfl, hb2⟩
    have HG2 : Hid (Grow w w2) := HG.out.trans hb2
    clear hcc hb2
    go_upto_region 2 with fail
    obtain ⟨W3, hW3, hg3, hS3, hsz3⟩ := one_block w2 67 #[.slice none 0 0, .slice none 0 0, .int .i64 0, .int .i64 0, .int .i64 0]
    rw [hW3]
    clear hW3
    have HG3 : Hid (Grow w W3) := HG2.out.trans hg3
    clear hg3 hS3
    go_wp2
    exact bodyPost_ret (results_three234 Try.results13 _ _ _ _ _ rfl rfl rfl) rfl ⟨_, _, _, rfl, by unfold PlanApiV; rw [if_neg HOK.out]; exact ⟨rfl, rfl, rfl⟩, HG3.out⟩

end Go.Proofs.Ythlihchndmbkaaa

namespace Go.Proofs.Ythlihchndmbkaaa
open Go.RowKit

theorem results_spanL {fn : Func} (h : fn.results = #[.cell 4 47]) (t : Array Value) (W : World) (b : Nat) (v0 v1 : Value)
    (hb : BlockIs W b 47 #[v0, v1]) (ht : t.getD 4 undef = .pointer (some ⟨b, 0, none⟩)) :
    (results fn t).run Try.prog W = .ok (.agg #[v0, v1]) W := by
  have hc := hb.cell
  simp only [results, h]
  simp at ht
  simp [go_sem, ht, hc]
set_option maxHeartbeats 800000 in
theorem lspan_any (lo hi : Int) (w : World) : Calls Try.prog 24 #[.int .i64 lo, .int .i64 hi] w fun e w' => e = .returned (spanV lo hi) ∧ Below w.heap.size w w' := by
  go_enter Try.func24, Try.ntmps24
  go_upto_region 1 with fail
  obtain ⟨W, hW, hg, hf, hsz⟩ := one_block w 47 #[.int .i64 0, .int .i64 0]
  rw [hW]
  clear hW
  have hcc := hf.cell
  have hff := hf.frozen
  have H2 := Lib.hid ((hf.near 0 (.int .i64 lo)).near 1 (.int .i64 hi))
  have HG := Lib.hid hg
  clear hf hg
  go_wp2
  exact bodyPost_ret (results_spanL Try.results24 _ _ w.heap.size _ _ H2.out rfl) rfl ⟨rfl, (HG.out.setC (p := ⟨w.heap.size, 0, none⟩) (Nat.le_refl _) _).setC (p := ⟨w.heap.size, 1, none⟩) (Nat.le_refl _) _⟩

theorem results_task0 {fn : Func} (h : fn.results = #[.cell 0 25]) (t : Array Value) (W : World) (b : Nat) (v0 v1 v2 v3 v4 : Value)
    (hb : BlockIs W b 25 #[v0, v1, v2, v3, v4]) (ht : t.getD 0 undef = .pointer (some ⟨b, 0, none⟩)) :
    (results fn t).run Try.prog W = .ok (.agg #[v0, v1, v2, v3, v4]) W := by
  have hc := hb.cell
  simp only [results, h]
  simp at ht
  simp [go_sem, ht, hc]
abbrev exampleH : Array Value := #[.int .i64 0, .int .i64 2, .int .i64 2, .int .i64 3, .int .i64 1, .int .i64 2, .int .i64 1, .int .i64 0, .int .i64 0, .int .i64 1, .int .i64 4, .int .i64 2, .int .i64 2, .int .i64 2]
abbrev exampleP : Array Value := #[.int .i64 1, .int .i64 1, .int .i64 2, .int .i64 1]
theorem example_at {w : World} {a : Nat} (h1 : BlockIs w a 52 exampleH) (h2 : BlockIs w (a + 1) 3 exampleP) : TaskAt w w.heap.size ⟨exampleT, some ⟨a, 0, none⟩, 2, some ⟨a + 1, 0, none⟩, 4⟩ := by
  refine ⟨.inr ⟨a, 0, rfl, h1.lt, fun i x hi j hj => ?_⟩, .inr ⟨a + 1, 0, rfl, h2.lt, fun i x hi => ?_⟩⟩
  · rw [h1.cell]
    match i, hi with
    | 0, hi | 1, hi =>
      obtain rfl := Option.some.inj hi
      match j, hj with
      | 0, _ | 1, _ | 2, _ | 3, _ | 4, _ | 5, _ | 6, _ => rfl
  · rw [h2.cell]
    match i, hi with
    | 0, hi | 1, hi | 2, hi | 3, hi =>
      obtain rfl := Option.some.inj hi
      rfl

set_option maxRecDepth 100000 in
set_option maxHeartbeats 4000000 in
theorem example_any (w : World) : Calls Try.prog 39 #[] w fun e w' => ∃ a b : Nat, e = .returned (taskV ⟨exampleT, some ⟨a, 0, none⟩, 2, some ⟨b, 0, none⟩, 4⟩) ∧ Grow w w' ∧ TaskAt w' w'.heap.size ⟨exampleT, some ⟨a, 0, none⟩, 2, some ⟨b, 0, none⟩, 4⟩ := by
  go_enter Try.func39, Try.ntmps39
  go_upto_region 1 with fail
  obtain ⟨W, hW, hg, hf, hsz⟩ := one_block w 25 #[.slice none 0 0, .slice none 0 0, .int .i64 0, .int .i64 0, .int .i64 0]
  rw [hW]
  clear hW
  have HF := Lib.hid hf
  have HG := Lib.hid hg
  clear hf hg
  go_wp2_with fail
  refine (lspan_any _ _ _).mono ?_
  rintro e w1 ⟨rfl, hb1⟩
  have HG1 : Hid (Grow W w1) := hb1
  clear hb1
  go_wp2_with fail
  refine (lspan_any _ _ _).mono ?_
  rintro e w2 ⟨rfl, hb2⟩
  have HG2 : Hid (Grow W w2) := HG1.out.trans hb2
  clear hb2
  go_wp2_with fail
  refine (lspan_any _ _ _).mono ?_
  rintro e w3 ⟨rfl, hb3⟩
  have HG3 : Hid (Grow W w3) := HG2.out.trans hb3
  clear hb3
  go_wp2_with fail
  refine (lspan_any _ _ _).mono ?_
  rintro e w4 ⟨rfl, hb4⟩
  have HG4 : Hid (Grow W w4) := HG3.out.trans hb4
  clear hb4
  go_wp2_with fail
  refine (lspan_any _ _ _).mono ?_
  rintro e w5 ⟨rfl, hb5⟩
  have HG5 : Hid (Grow W w5) := HG4.out.trans hb5
  clear hb5
  have hB5 := Grow.block HG5.out HF.out
  have hcc := hB5.cell
  have hff := hB5.frozen
  have hz5 : w.heap.size < w5.heap.size := hB5.lt
  have hne5 : w.heap.size ≠ w5.heap.size := by omega
  have hne6 : w.heap.size ≠ w5.heap.size + 1 := by omega
  go_wp2
  have H5 := five_stores hB5 (.slice (some ⟨w5.heap.size, 0, none⟩) 2 2) (.slice (some ⟨w5.heap.size + 1, 0, none⟩) 4 4) (.int .i64 2) (.int .i64 1) (.int .i64 1)
  have hb8 := five_below (w := w5) (B := w.heap.size) (b := w.heap.size) (Nat.le_refl _) (.slice (some ⟨w5.heap.size, 0, none⟩) 2 2) (.slice (some ⟨w5.heap.size + 1, 0, none⟩) 4 4) (.int .i64 2) (.int .i64 1) (.int .i64 1)
  obtain ⟨W8, hW8⟩ : ∃ W8, (((((w5.setCell ⟨w.heap.size, 0, none⟩ (.slice (some ⟨w5.heap.size, 0, none⟩) 2 2)).setCell ⟨w.heap.size, 1, none⟩ (.slice (some ⟨w5.heap.size + 1, 0, none⟩) 4 4)).setCell ⟨w.heap.size, 2, none⟩ (.int .i64 2)).setCell ⟨w.heap.size, 3, none⟩ (.int .i64 1)).setCell ⟨w.heap.size, 4, none⟩ (.int .i64 1)) = W8 := ⟨_, rfl⟩
  have hs8 : W8.heap.size = w5.heap.size := by rw [← hW8]; simp
  rw [hW8] at H5 hb8 ⊢
  obtain ⟨W9, hW9, hg9, hH9, hP9, hsz9⟩ := two_blocks W8 52 3 exampleH exampleP
  rw [hW9]
  rw [hs8] at hH9 hP9
  have hF9 := Grow.block hg9 H5
  exact bodyPost_ret (results_task0 Try.results39 _ _ w.heap.size _ _ _ _ _ hF9 rfl) rfl ⟨w5.heap.size, w5.heap.size + 1, rfl, (HG.out.trans HG5.out).trans' (hb8.trans (Below.mono hg9 (by omega))), example_at hH9 hP9⟩

end Go.Proofs.Ythlihchndmbkaaa

namespace Go.Proofs.Ythlihchndmbkaaa
open Go.RowKit

abbrev rowE : Array Value := #[.int .i64 1, .int .i64 1, .int .i64 0, .int .i64 0]
theorem rowE_ints {w : World} {b : Nat} (h : BlockIs w b 3 rowE) : Ints w w.heap.size (some ⟨b, 0, none⟩) [1, 1, 0, 0] := by
  refine .inr ⟨b, 0, rfl, h.lt, fun i x hi => ?_⟩
  rw [h.cell]
  match i, hi with
  | 0, hi | 1, hi | 2, hi | 3, hi =>
    obtain rfl := Option.some.inj hi
    rfl
theorem example_planV {lo : Nat} {v m : Value} {er : Int} {w : World} (h : PlanApiV exampleT lo v m er w) : ∃ b off cap, v = .slice (some ⟨b, off, none⟩) 4 cap ∧ IntsFc w lo (some ⟨b, off, none⟩) cap [1, 1, 0, 0] ∧ m = .int .i64 15 ∧ er = 0 := by
  unfold PlanApiV at h
  rw [if_pos example_ok, example_plan] at h
  exact h

set_option maxRecDepth 100000 in
set_option maxHeartbeats 8000000 in
theorem works_any (w : World) : Calls Try.prog 12 #[] w fun e w' => e = .returned (.bool true) ∧ Below w.heap.size w w' := by
  go_enter Try.func12, Try.ntmps12
  go_wp2_with fail
  refine (example_any _).mono ?_
  rintro e w1 ⟨a1, b1, rfl, hg1, ht1⟩
  have HG1 := Lib.hid hg1
  have HP := Lib.hid (planApi_any _ _ w1 ht1 (Nat.le_refl _))
  clear hg1 ht1
  go_wp2_with fail
  refine HP.out.mono ?_
  rintro e w2 ⟨v, m, er, rfl, hpv, hb2⟩
  have HG2 : Hid (Grow w w2) := HG1.out.trans hb2
  obtain ⟨b, off, cap, rfl, hF, rfl, rfl⟩ := example_planV hpv
  have HF := Lib.hid hF
  clear hpv hb2 hF HP
  go_wp2_with fail
  refine (example_any _).mono ?_
  rintro e w3 ⟨a3, b3, rfl, hg3, ht3⟩
  have HT3 := Lib.hid ht3
  have HF3 := Lib.hid (HF.out.grow hg3)
  have HG3 : Hid (Grow w w3) := HG2.out.trans hg3
  clear hg3 ht3
  have hnew : BlockIs (w3.alloc (.cells rowE 3)) w3.heap.size 3 rowE := BlockIs.new _ _ _
  have hm := mistakes_any ⟨exampleT, some ⟨a3, 0, none⟩, 2, some ⟨b3, 0, none⟩, 4⟩ [1, 1, 0, 0] (some ⟨w3.heap.size, 0, none⟩) 4 _ (w3.alloc (.cells rowE 3)) ((HT3.out.below (Grow.alloc _ _)).more (Grow.alloc _ _).size) (rowE_ints hnew) (Nat.le_refl _)
  rw [example_mist] at hm
  have HM := Lib.hid hm
  have HG4 : Hid (Grow w (w3.alloc (.cells rowE 3))) := Lib.hid (HG3.out.trans (Grow.alloc _ _))
  have HF4 := Lib.hid (HF3.out.grow (Grow.alloc w3 (.cells rowE 3)))
  clear hm hnew
  go_wp2_with fail
  refine HM.out.mono ?_
  rintro e w5 ⟨rfl, hb5⟩
  have HG5 : Hid (Grow w w5) := HG4.out.trans hb5
  have HF5 := Lib.hid (HF4.out.grow hb5)
  have hnew : BlockIs (w5.alloc (.cells rowE 3)) w5.heap.size 3 rowE := BlockIs.new _ _ _
  have HS := Lib.hid (sameInts_any (some ⟨b, off, none⟩) (some ⟨w5.heap.size, 0, none⟩) cap 4 _ _ [1, 1, 0, 0] [1, 1, 0, 0] (w5.alloc (.cells rowE 3)) (HF5.out.grow (Grow.alloc w5 (.cells rowE 3))).1.ints (rowE_ints hnew) (by simp) (by simp))
  clear hb5 hnew
  go_wp2_with fail
  refine HS.out.mono ?_
  rintro e w6 ⟨rfl, nd, rfl⟩
  have HG6 : Hid (Grow w ((w5.alloc (.cells rowE 3)).drewN nd)) := Lib.hid (Below.drewN_ (HG5.out.trans (Grow.alloc _ _)) nd)
  generalize (w5.alloc (.cells rowE 3)).drewN nd = w6 at HG6 ⊢
  go_wp2
  go_ret
  exact ⟨ret_bool (by simp), HG6.out⟩

end Go.Proofs.Ythlihchndmbkaaa

