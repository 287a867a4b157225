/- Mist: turns.Mistakes. -/
import Derived.Test.YthlihchndmbkaaaRota
import Derived.Test.YthlihchndmbkaaaRegion
namespace Go.Proofs.Ythlihchndmbkaaa
open Go.RowKit

def natsOf (xs : List Int) : List Nat := xs.map Int.toNat
def mistD (t : TaskD) (xs : List Int) : Int × Int × Int :=
  if okTask t = true then if okRota t xs = true then ((afterD false t (natsOf xs)).mis, (afterD true t (natsOf xs)).mis, 0) else (0, 0, 41) else (0, 0, 40)
theorem okRota_parts {t : TaskD} {xs : List Int} (h : okRota t xs = true) : xs.length = t.parts.length ∧ natsL (natsOf xs) = xs ∧ ∀ h ∈ natsOf xs, h < t.hands.length := by
  unfold okRota at h
  rw [Bool.and_eq_true, decide_eq_true_eq, List.all_eq_true] at h
  obtain ⟨h1, h2⟩ := h
  refine ⟨h1, ?_, ?_⟩
  · unfold natsL natsOf
    rw [List.map_map]
    refine (List.map_congr_left fun x hx => ?_).trans (List.map_id _)
    have := inB_iff.1 (h2 x hx)
    show ((x.toNat : Nat) : Int) = x
    omega
  · intro k hk
    obtain ⟨x, hx, rfl⟩ := List.mem_map.1 hk
    have := inB_iff.1 (h2 x hx)
    omega
theorem readRota_bad {t : TaskR} {xs : List Int} (h : ¬ (okTask t.d = true ∧ okRota t.d xs = true)) : ∃ er, (er = 40 ∨ er = 41) ∧ readRotaV t xs = .tuple #[zeroTV, .int .i64 er] ∧ mistD t.d xs = (0, 0, er) := by
  unfold readRotaV mistD
  rw [if_neg h]
  cases h1 : okTask t.d
  · exact ⟨40, .inl rfl, rfl, rfl⟩
  · cases h2 : okRota t.d xs
    · exact ⟨41, .inr rfl, rfl, rfl⟩
    · exact absurd ⟨h1, h2⟩ h
theorem readRota_good {t : TaskR} {xs : List Int} (h1 : okTask t.d = true) (h2 : okRota t.d xs = true) : readRotaV t xs = .tuple #[taskV t, .int .i64 0] ∧ mistD t.d xs = ((afterD false t.d (natsOf xs)).mis, (afterD true t.d (natsOf xs)).mis, 0) := by
  unfold readRotaV mistD
  rw [if_pos ⟨h1, h2⟩, if_pos h1, if_pos h2, if_pos h1, if_pos h2]
  exact ⟨rfl, rfl⟩
theorem field_mis (s : StD) (w : World) : (Instr.field 77 (stV s) 2).run Try.prog w = .ok (.int .i64 s.mis) w := by kernel_rfl
theorem results_three {fn : Func} (h : fn.results = #[.tmp 4, .tmp 5, .tmp 6]) (t : Array Value) (W : World) (u1 u2 u3 : Value) (h1 : t.getD 4 undef = u1) (h2 : t.getD 5 undef = u2) (h3 : t.getD 6 undef = u3) :
    (results fn t).run Try.prog W = .ok (.tuple #[u1, u2, u3]) W := by
  simp only [results, h]
  simp at h1 h2 h3
  simp [go_sem, h1, h2, h3]
abbrev mistV (m : Int × Int × Int) : Value := .tuple #[.int .i64 m.1, .int .i64 m.2.1, .int .i64 m.2.2]

set_option maxRecDepth 100000 in
set_option maxHeartbeats 8000000 in
theorem mistakes_any (t : TaskR) (xs : List Int) (A1 : Option Addr) (c1 n : Nat) (w : World) (ht : TaskAt w n t) (h1 : Ints w n A1 xs) (hn : n ≤ w.heap.size) :
    Calls Try.prog 17 #[taskV t, .slice A1 xs.length c1] w fun e w' => e = .returned (mistV (mistD t.d xs)) ∧ Below w.heap.size w w' := by
  have HV := Lib.hid (fun (w0 : World) (hw : Grow w w0) => readRota_any t xs A1 c1 w.heap.size w0 ((ht.more hn).below hw) ((h1.more hn).below hw) hw.size)
  by_cases hgood : okTask t.d = true ∧ okRota t.d xs = true
  · obtain ⟨hk, hr⟩ := hgood
    obtain ⟨q1, q2, q3⟩ := okRota_parts hr
    have q4 : (natsOf xs).length = xs.length := by unfold natsOf; rw [List.length_map]
    obtain ⟨g1, g2⟩ := readRota_good hk hr
    rw [g1] at HV
    rw [g2]
    have hAB := fun (w0 : World) (hw : Grow w w0) => after_any false 67 68 endFn_low endFn_high t (natsOf xs) A1 c1 w.heap.size w0 ((ht.more hn).below hw) hw.size hk (by rw [q2]; exact (h1.more hn).below hw) q3 (by rw [q4, q1]; exact Nat.le_refl _)
    have hAW := fun (w0 : World) (hw : Grow w w0) => after_any true 68 67 endFn_high endFn_low t (natsOf xs) A1 c1 w.heap.size w0 ((ht.more hn).below hw) hw.size hk (by rw [q2]; exact (h1.more hn).below hw) q3 (by rw [q4, q1]; exact Nat.le_refl _)
    rw [q4] at hAB hAW
    have HAB := Lib.hid hAB
    have HAW := Lib.hid hAW
    clear hAB hAW g1 g2 q1 q2 q3 q4 hk hr ht h1 hn
    generalize afterD false t.d (natsOf xs) = sb at HAB ⊢
    generalize afterD true t.d (natsOf xs) = sw at HAW ⊢
    obtain ⟨⟨hs, ps, limit, rest, swap⟩, A, ca, B, cb⟩ := t
    try dsimp only
    go_enter Try.func17, Try.ntmps17
    go_upto_region 1 with fail
    obtain ⟨W, hW, hg, hf, hsz⟩ := one_block w 25 (cellsT ⟨⟨hs, ps, limit, rest, swap⟩, A, ca, B, cb⟩)
    rw [hW]
    clear hW
    have hcc := hf.cell
    have HG := Lib.hid hg
    clear hf hg
    go_wp2_with fail
    refine (HV.out _ HG.out).mono ?_
    rintro e w2 ⟨rfl, hb2⟩
    have HG2 : Hid (Grow w w2) := HG.out.trans hb2
    clear hcc hb2
    go_upto_region 2 with fail
    obtain ⟨W3, hW3, hg3, hS3, hsz3⟩ := one_block w2 67 (cellsT ⟨⟨hs, ps, limit, rest, swap⟩, A, ca, B, cb⟩)
    rw [hW3]
    clear hW3
    obtain ⟨b7, e7⟩ : ∃ b, w2.heap.size = b := ⟨_, rfl⟩
    rw [e7] at hS3 hsz3 ⊢
    clear e7
    have HG3 : Hid (Grow w W3) := HG2.out.trans hg3
    have HS3 := Lib.hid hS3
    clear hg3 hS3
    go_upto_region 4 with fail
    refine wp_region_lit 13 [[], [(0, 17)], [], [(1, 18), (2, 19)], [(3, 20)], [], [(5, 22)], [], [(6, 23), (7, 24)], [(8, 25)], [(4, 21)], [(9, 26)], []] Grow (fun i v w' => match i with
        | 0 => v = taskV ⟨⟨hs, ps, limit, rest, swap⟩, A, ca, B, cb⟩
        | 1 => v = courseV 67 68 ⟨⟨hs, ps, limit, rest, swap⟩, A, ca, B, cb⟩
        | 2 => v = .slice A1 xs.length c1
        | 3 => v = stV sb
        | 4 => v = .int .i64 sb.mis
        | 5 => v = taskV ⟨⟨hs, ps, limit, rest, swap⟩, A, ca, B, cb⟩
        | 6 => v = courseV 68 67 ⟨⟨hs, ps, limit, rest, swap⟩, A, ca, B, cb⟩
        | 7 => v = .slice A1 xs.length c1
        | 8 => v = stV sw
        | 9 => v = .int .i64 sw.mis
        | 10 => v = .int .i64 sb.mis
        | 11 => v = .int .i64 sw.mis
        | 12 => v = .int .i64 0
        | _ => False) (by kernel_rfl) (by kernel_rfl) (fun _ _ _ => Grow.trans) Grow.refl ?_ ?_ ?_
    · intro i v y y' h k
      match i, h with
      | 0, h | 1, h | 2, h | 3, h | 4, h | 5, h | 6, h | 7, h | 8, h | 9, h | 10, h | 11, h | 12, h => exact h
    · simp only [StepsLit, List.take_succ_cons, List.take_zero]
      refine ⟨?_, ?_, ?_, ?_, ?_, ?_, ?_, ?_, ?_, ?_, ?_, ?_, ?_, trivial⟩
      all_goals
        intro w5 hR
        have hGw : Grow W3 w5 := hR.of_drew
        have HGW := Lib.hid hGw
        have hcc := (hGw.block HS3.out).cell
        clear hR hGw
        have hfd1 := field_mis sb
        have hfd2 := field_mis sw
        simp only [depV]
        repeat (rintro _ rfl)
        try go_simp
      all_goals first
        | (with_reducible exact Grow.refl _)
        | (with_reducible exact ⟨Grow.refl _, rfl⟩)
        | skip
      · refine (best_any _ _).mono ?_
        rintro e w6 ⟨rfl, hb6⟩
        exact ⟨hb6, rfl⟩
      · refine (HAB.out _ (HG3.out.trans HGW.out)).mono ?_
        rintro e w6 ⟨rfl, hb6⟩
        exact ⟨hb6, rfl⟩
      · refine (worst_any _ _).mono ?_
        rintro e w6 ⟨rfl, hb6⟩
        exact ⟨hb6, rfl⟩
      · refine (HAW.out _ (HG3.out.trans HGW.out)).mono ?_
        rintro e w6 ⟨rfl, hb6⟩
        exact ⟨hb6, rfl⟩
    · intro w5 hR
      have HG5 := Lib.hid hR.of_drew
      simp only [finVC, List.take_succ_cons, List.take_zero, List.drop_succ_cons, List.drop_zero]
      rintro _ rfl
      rintro _ rfl
      rintro _ rfl
      rintro _ rfl
      rintro _ rfl
      rintro _ rfl
      rintro _ rfl
      rintro _ rfl
      rintro _ rfl
      rintro _ rfl
      rintro _ rfl
      rintro _ rfl
      rintro _ rfl
      simp only [Act.put, List.setIfInBounds_toArray, List.set_cons_succ, List.set_cons_zero]
      go_wp2
      exact bodyPost_ret (results_three Try.results17 _ _ _ _ _ rfl rfl rfl) rfl ⟨rfl, HG3.out.trans HG5.out⟩
  · obtain ⟨er, her, g1, g2⟩ := readRota_bad hgood
    rw [g1] at HV
    rw [g2]
    clear hgood g1 g2 ht h1 hn
    obtain ⟨⟨hs, ps, limit, rest, swap⟩, A, ca, B, cb⟩ := t
    try dsimp only
    go_enter Try.func17, Try.ntmps17
    go_upto_region 1 with fail
    obtain ⟨W, hW, hg, hf, hsz⟩ := one_block w 25 (cellsT ⟨⟨hs, ps, limit, rest, swap⟩, A, ca, B, cb⟩)
    rw [hW]
    clear hW
    have hcc := hf.cell
    have HG := Lib.hid hg
    clear hf hg
    go_wp2_with fail
    refine (HV.out _ HG.out).mono ?_
    rintro e w2 ⟨rfl, hb2⟩
    have HG2 : Hid (Grow w w2) := HG.out.trans hb2
    clear hcc hb2
    rcases her with rfl | rfl
    all_goals
      go_upto_region 2 with fail
      obtain ⟨W3, hW3, hg3, hS3, hsz3⟩ := one_block w2 67 #[.slice none 0 0, .slice none 0 0, .int .i64 0, .int .i64 0, .int .i64 0]
      rw [hW3]
      clear hW3
      have HG3 : Hid (Grow w W3) := HG2.out.trans hg3
      clear hg3 hS3
      go_wp2
      exact bodyPost_ret (results_three Try.results17 _ _ _ _ _ rfl rfl rfl) rfl ⟨rfl, HG3.out⟩

end Go.Proofs.Ythlihchndmbkaaa
