/- Right: turns.task.right. -/
import Derived.Test.YthlihchndmbkaaaMay
import Derived.Test.YthlihchndmbkaaaRegion
namespace Go.Proofs.Ythlihchndmbkaaa
open Go.RowKit

theorem Ints.take {w : World} {B : Nat} {A : Option Addr} {xs : List Int} (h : Ints w B A xs) (k : Nat) : Ints w B A (xs.take k) := by
  rcases h with rfl | ⟨b, off, rfl, hl, hc⟩
  · exact .inl (by simp)
  · refine .inr ⟨b, off, rfl, hl, fun i x hi => hc i x ?_⟩
    rw [List.getElem?_take] at hi
    split at hi
    · exact hi
    · simp at hi
def rightTo (t : TaskD) (xs : List Int) (k : Nat) : Bool := (List.range k).all fun i => maySignD t (xs.take i) (xs.getD i 0)
def rightD (t : TaskD) (xs : List Int) : Bool := rightTo t xs xs.length
theorem rightTo_succ {t : TaskD} {xs : List Int} {k : Nat} {y : Int} (h : xs[k]? = some y) : rightTo t xs (k + 1) = (rightTo t xs k && maySignD t (xs.take k) y) := by
  unfold rightTo
  rw [List.range_succ, List.all_append]
  simp [List.getD, h]
theorem rightTo_false {t : TaskD} {xs : List Int} {k : Nat} (h : rightTo t xs k = false) (hk : k ≤ xs.length) : rightD t xs = false := by
  unfold rightD rightTo at *
  rw [List.all_eq_false] at *
  obtain ⟨i, hi, hn⟩ := h
  exact ⟨i, List.mem_range.2 (by have := List.mem_range.1 hi; omega), hn⟩

set_option maxRecDepth 100000 in
set_option maxHeartbeats 8000000 in
theorem right_any (t : TaskR) (xs : List Int) (A1 : Option Addr) (c1 n : Nat) (w : World) (h1 : Ints w n A1 xs) (hn : n ≤ w.heap.size) (hl : xs.length ≤ 10) (hc : xs.length ≤ c1) (hlim : 1 ≤ t.d.limit ∧ t.d.limit ≤ 10) :
    Calls Try.prog 44 #[taskV t, .slice A1 xs.length c1] w fun e w' => e = .returned (.bool (rightD t.d xs)) ∧ Below w.heap.size w w' := by
  have HI := Lib.hid (h1.more hn)
  have HMS := Lib.hid (fun (w0 : World) (hw : Grow w w0) (k : Nat) (hk : k ≤ xs.length) (y : Int) => maySign_any t (xs.take k) y A1 c1 w.heap.size w0 (((h1.more hn).below hw).take k) hw.size (by rw [List.length_take]; omega) (by rw [List.length_take]; omega) hlim)
  have HLT : Hid (∀ k, k ≤ xs.length → (xs.take k).length = k) := fun k hk => by rw [List.length_take]; omega
  clear h1 hn hlim
  have HR0 : Hid (rightTo t.d xs 0 = true) := rfl
  have HRF := Lib.hid (fun k => rightTo_false (t := t.d) (xs := xs) (k := k))
  have HRS := Lib.hid (fun k y => rightTo_succ (t := t.d) (xs := xs) (k := k) (y := y))
  have HRD : Hid (rightTo t.d xs xs.length = rightD t.d xs) := rfl
  obtain ⟨rd, hrd⟩ : ∃ rd, rightD t.d xs = rd := ⟨_, rfl⟩
  rw [hrd] at HRF HRD ⊢
  clear hrd
  obtain ⟨⟨hs, ps, limit, rest, swap⟩, A, ca, B, cb⟩ := t
  try dsimp only
  go_enter Try.func44, Try.ntmps44
  go_upto_region 1 with fail
  obtain ⟨W, hW, hg, hf, hsz⟩ := one_block w 67 (cellsT ⟨⟨hs, ps, limit, rest, swap⟩, A, ca, B, cb⟩)
  rw [hW]
  clear hW
  have HF := Lib.hid hf
  have HG := Lib.hid hg
  clear hf hg
  go_wp2_with fail
  go_loopw [9] (fun iv wr => ∃ k : Nat, k ≤ xs.length ∧ iv = .int .i64 k ∧ rightTo ⟨hs, ps, limit, rest, swap⟩ xs k = true ∧ Grow W wr) (fun i _ => xs.length - (intOf i).toNat)
  case atStart => exact ⟨0, Nat.zero_le _, rfl, HR0.out, Grow.refl _⟩
  case round =>
    obtain ⟨k, hk, rfl, hrt, hgr⟩ := hrel
    rename World => wr
    have HRT := Lib.hid hrt
    have HGR := Lib.hid hgr
    clear hrt hgr
    by_cases hlt : k < xs.length
    · have hki : (k : Int) < xs.length := by omega
      have hkc : (k : Int) ≤ (c1 : Int) := by omega
      have hk0 : (0 : Int) ≤ (k : Int) := by omega
      obtain ⟨b, off, y, hAe, hb, hcy, HY⟩ := (HI.out.below (HG.out.trans HGR.out)).at_ hlt
      subst hAe
      have HS := Lib.hid (HRS.out k y HY.out)
      rw [HRT.out, Bool.true_and] at HS
      have HM := Lib.hid (fun (w0 : World) (hw : Grow wr w0) => HMS.out w0 (HG.out.trans (HGR.out.trans hw)) k hk y)
      rw [HLT.out k hk] at HM
      try dsimp only at HM
      generalize maySignD ⟨hs, ps, limit, rest, swap⟩ (xs.take k) y = mv at HM HS
      clear hb
      go_upto_region 4 with fail
      refine wp_region_lit 7 [[], [], [], [(1, 15), (2, 16)], [], [(0, 14), (3, 17), (4, 18)], [(5, 19)]] Grow (fun i v w' => match i with
          | 0 => v = taskV ⟨⟨hs, ps, limit, rest, swap⟩, A, ca, B, cb⟩
          | 1 => v = .slice (some ⟨b, off, none⟩) xs.length c1
          | 2 => v = .int .i64 k
          | 3 => v = .slice (some ⟨b, off, none⟩) k c1
          | 4 => v = .int .i64 y
          | 5 => v = .bool mv
          | 6 => v = .bool (!mv)
          | _ => False) (by kernel_rfl) (by kernel_rfl) (fun _ _ _ => Grow.trans) Grow.refl ?_ ?_ ?_
      · intro i v y y' h k
        match i, h with
        | 0, h | 1, h | 2, h | 3, h | 4, h | 5, h | 6, h => exact h
      · simp only [StepsLit, List.take_succ_cons, List.take_zero]
        refine ⟨?_, ?_, ?_, ?_, ?_, ?_, ?_, trivial⟩
        all_goals
          intro w5 hR
          have hGw : Grow wr w5 := hR.of_drew
          have HGW := Lib.hid hGw
          have hcc := ((HGR.out.trans hGw).block HF.out).cell
          clear hR hGw
          simp only [depV]
          repeat (rintro _ rfl)
          try go_simp
        all_goals first
          | (with_reducible exact Grow.refl _)
          | (with_reducible exact ⟨Grow.refl _, rfl⟩)
          | skip
        · refine (HM.out _ HGW.out).mono ?_
          rintro e w6 ⟨rfl, hb6⟩
          exact ⟨hb6, rfl⟩
      · intro w5 hR
        have HG5 := Lib.hid hR.of_drew
        simp only [finVC, List.take_succ_cons, List.take_zero, List.drop_succ_cons, List.drop_zero]
        rintro _ rfl
        rintro _ rfl
        rintro _ rfl
        rintro _ rfl
        rintro _ rfl
        rintro _ rfl
        rintro _ rfl
        simp only [Act.put, List.setIfInBounds_toArray, List.set_cons_succ, List.set_cons_zero]
        cases mv
        · have HFF := Lib.hid (HRF.out (k + 1) HS.out (by omega))
          go_wp2
          go_ret
          exact ⟨ret_bool (by rw [HFF.out]), HG.out.trans (HGR.out.trans HG5.out)⟩
        · go_wp2
          go_roundw
          case rel => exact ⟨k + 1, by omega, by go_num, HS.out, HGR.out.trans HG5.out⟩
          case measure => simp [intOf]; omega
    · obtain rfl : k = xs.length := by omega
      have HFT : Hid (rd = true) := HRD.out.symm.trans HRT.out
      go_wp2
      go_ret
      exact ⟨ret_bool (by rw [HFT.out]), HG.out.trans HGR.out⟩

end Go.Proofs.Ythlihchndmbkaaa
