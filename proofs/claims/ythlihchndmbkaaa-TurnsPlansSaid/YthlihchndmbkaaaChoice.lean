/- Choice: the program's before of two choices of hands. -/
import Derived.Test.YthlihchndmbkaaaEveryM
import Derived.Test.YthlihchndmbkaaaExtM
namespace Go.Proofs.Ythlihchndmbkaaa
open Go.RowKit

theorem cmpL_before : ∀ {a b : List Int}, a.length = b.length → decide (cmpL a b < 0) = beforeL a b
  | [], [], _ => rfl
  | [], _ :: _, h => by simp at h
  | _ :: _, [], h => by simp at h
  | x :: a, y :: b, h => by
    unfold cmpL beforeL
    by_cases e : x = y
    · subst e
      rw [if_pos rfl, if_pos (by unfold cmpI; rw [if_neg (by omega), if_neg (by omega)])]
      exact cmpL_before (by simpa using h)
    · rw [if_neg e]
      by_cases g : x < y
      · have hc : cmpI x y = -1 := by unfold cmpI; rw [if_pos g]
        rw [hc, if_neg (by decide), decide_eq_true g]
        rfl
      · have hc : cmpI x y = 1 := by unfold cmpI; rw [if_neg g, if_pos (by omega)]
        rw [hc, if_neg (by decide), decide_eq_false g]
        rfl
theorem choice_or (l l' : List Nat) (m m' : Int) : decide (orL [cmpI (l.length : Int) (l'.length : Int), cmpI m m', cmpL (natsL l) (natsL l')] < 0) = betterD (l, m) (l', m') := by
  unfold betterD
  dsimp only
  by_cases h1 : l.length < l'.length
  · rw [show cmpI (l.length : Int) (l'.length : Int) = -1 by unfold cmpI; rw [if_pos (by omega)], decide_eq_true h1]
    rfl
  · by_cases h2 : l.length = l'.length
    · rw [show cmpI (l.length : Int) (l'.length : Int) = 0 by unfold cmpI; rw [if_neg (by omega), if_neg (by omega)], decide_eq_false h1, decide_eq_true h2]
      show decide (orL [cmpI m m', cmpL (natsL l) (natsL l')] < 0) = (false || (true && _))
      rw [Bool.false_or, Bool.true_and]
      by_cases h3 : m < m'
      · rw [show cmpI m m' = -1 by unfold cmpI; rw [if_pos h3], decide_eq_true h3]
        rfl
      · by_cases h4 : m = m'
        · rw [show cmpI m m' = 0 by unfold cmpI; rw [if_neg h3, if_neg (by omega)], decide_eq_false h3, decide_eq_true h4, Bool.false_or, Bool.true_and, ← cmpL_before (by simp [h2])]
          show decide (orL [cmpL (natsL l) (natsL l')] < 0) = _
          unfold orL
          by_cases h5 : cmpL (natsL l) (natsL l') = 0
          · rw [if_pos h5, h5]
            rfl
          · rw [if_neg h5]
        · rw [show cmpI m m' = 1 by unfold cmpI; rw [if_neg h3, if_pos (by omega)], decide_eq_false h3, decide_eq_false h4]
          rfl
    · rw [show cmpI (l.length : Int) (l'.length : Int) = 1 by unfold cmpI; rw [if_neg (by omega), if_pos (by omega)], decide_eq_false h1, decide_eq_false h2]
      rfl
abbrev choiceV (A : Option Addr) (n c : Nat) (m : Int) : Value := .agg #[.slice A n c, .int .i64 m]

set_option maxRecDepth 100000 in
set_option maxHeartbeats 8000000 in
theorem choice_any (l l' : List Nat) (mx my : Int) (A A' : Option Addr) (c c' n : Nat) (w : World) (h : Ints w n A (natsL l)) (h' : Ints w n A' (natsL l')) (hn : n ≤ w.heap.size) (hl : l.length ≤ 3) (hl' : l'.length ≤ 3) :
    Calls Try.prog 71 #[choiceV A l.length c mx, choiceV A' l'.length c' my] w fun e w' => e = .returned (.bool (betterD (l, mx) (l', my))) ∧ Below w.heap.size w w' := by
  have hCL := fun (w0 : World) (hw : Grow w w0) => slicesCompare_any A A' c c' w.heap.size w.heap.size (natsL l) (natsL l') w0 ((h.more hn).below hw) ((h'.more hn).below hw) (by simp; omega) (by simp; omega)
  rw [show (natsL l).length = l.length from List.length_map .., show (natsL l').length = l'.length from List.length_map ..] at hCL
  have HV := Lib.hid (choice_or l l' mx my)
  obtain ⟨cl, hcl⟩ : ∃ q, cmpL (natsL l) (natsL l') = q := ⟨_, rfl⟩
  rw [hcl] at HV hCL
  have HCL := Lib.hid hCL
  obtain ⟨lx, hlx⟩ : ∃ q, l.length = q := ⟨_, rfl⟩
  obtain ⟨ly, hly⟩ : ∃ q, l'.length = q := ⟨_, rfl⟩
  rw [hlx, hly] at HV HCL ⊢
  generalize betterD (l, mx) (l', my) = bv at HV ⊢
  clear hCL hcl hlx hly hl hl' h h' hn
  go_enter Try.func71, Try.ntmps71
  go_upto_region 1 with fail
  obtain ⟨W, hW, hg, hx, hy, hsz⟩ := two_blocks w 100 100 #[.slice A lx c, .int .i64 mx] #[.slice A' ly c', .int .i64 my]
  rw [hW]
  clear hW
  obtain ⟨b2, eb2⟩ : ∃ q, w.heap.size + 1 = q := ⟨_, rfl⟩
  rw [eb2] at hy hsz ⊢
  have hxc := hx.cell
  have hyc := hy.cell
  have HG := Lib.hid hg
  have HX := Lib.hid hx
  have HY := Lib.hid hy
  clear hg hx hy eb2
  go_wp2_with fail
  refine (cmpCompare_any _ _ _).mono ?_
  rintro e w6 ⟨rfl, rfl⟩
  go_upto_region 2 with fail
  clear hxc hyc
  refine wp_region_lit 11 [[], [], [(1, 14)], [], [(3, 16)], [(2, 15), (4, 17)], [], [(6, 19)], [], [(8, 21)], [(7, 20), (9, 22)]] Grow (fun qi v w' => match qi with
      | 0 => v = .int .i64 (cmpI lx ly)
      | 1 => v = .pointer (some ⟨w.heap.size, 1, none⟩)
      | 2 => v = .int .i64 mx
      | 3 => v = .pointer (some ⟨b2, 1, none⟩)
      | 4 => v = .int .i64 my
      | 5 => v = .int .i64 (cmpI mx my)
      | 6 => v = .pointer (some ⟨w.heap.size, 0, none⟩)
      | 7 => v = .slice A lx c
      | 8 => v = .pointer (some ⟨b2, 0, none⟩)
      | 9 => v = .slice A' ly c'
      | 10 => v = .int .i64 cl
      | _ => False) (by kernel_rfl) (by kernel_rfl) (fun _ _ _ => Grow.trans) Grow.refl ?_ ?_ ?_
  · intro i v y y' h k
    match i, h with
    | 0, h | 1, h | 2, h | 3, h | 4, h | 5, h | 6, h | 7, h | 8, h | 9, h | 10, h => exact h
  · simp only [StepsLit, List.take_succ_cons, List.take_zero]
    refine ⟨?_, ?_, ?_, ?_, ?_, ?_, ?_, ?_, ?_, ?_, ?_, trivial⟩
    · intro w5 hR
      have hGw : Grow W w5 := hR.of_drew
      have HGW := Lib.hid hGw
      have hxc := (hGw.block HX.out).cell
      have hyc := (hGw.block HY.out).cell
      clear hR hGw
      simp only [depV]
      try go_simp
      first
        | (with_reducible exact Grow.refl _)
        | (with_reducible exact ⟨Grow.refl _, rfl⟩)
    · intro w5 hR
      have hGw : Grow W w5 := hR.of_drew
      have HGW := Lib.hid hGw
      have hxc := (hGw.block HX.out).cell
      have hyc := (hGw.block HY.out).cell
      clear hR hGw
      simp only [depV]
      try go_simp
      first
        | (with_reducible exact Grow.refl _)
        | (with_reducible exact ⟨Grow.refl _, rfl⟩)
    · intro w5 hR
      have hGw : Grow W w5 := hR.of_drew
      have HGW := Lib.hid hGw
      have hxc := (hGw.block HX.out).cell
      have hyc := (hGw.block HY.out).cell
      clear hR hGw
      simp only [depV]
      rintro _ rfl
      try go_simp
      first
        | (with_reducible exact Grow.refl _)
        | (with_reducible exact ⟨Grow.refl _, rfl⟩)
    · intro w5 hR
      have hGw : Grow W w5 := hR.of_drew
      have HGW := Lib.hid hGw
      have hxc := (hGw.block HX.out).cell
      have hyc := (hGw.block HY.out).cell
      clear hR hGw
      simp only [depV]
      try go_simp
      first
        | (with_reducible exact Grow.refl _)
        | (with_reducible exact ⟨Grow.refl _, rfl⟩)
    · intro w5 hR
      have hGw : Grow W w5 := hR.of_drew
      have HGW := Lib.hid hGw
      have hxc := (hGw.block HX.out).cell
      have hyc := (hGw.block HY.out).cell
      clear hR hGw
      simp only [depV]
      rintro _ rfl
      try go_simp
      first
        | (with_reducible exact Grow.refl _)
        | (with_reducible exact ⟨Grow.refl _, rfl⟩)
    · intro w5 hR
      have hGw : Grow W w5 := hR.of_drew
      have HGW := Lib.hid hGw
      have hxc := (hGw.block HX.out).cell
      have hyc := (hGw.block HY.out).cell
      clear hR hGw
      simp only [depV]
      rintro _ rfl
      rintro _ rfl
      try go_simp
      refine (cmpCompare_any _ _ _).mono ?_
      rintro e w6 ⟨rfl, rfl⟩
      exact ⟨Grow.refl _, rfl⟩
    · intro w5 hR
      have hGw : Grow W w5 := hR.of_drew
      have HGW := Lib.hid hGw
      have hxc := (hGw.block HX.out).cell
      have hyc := (hGw.block HY.out).cell
      clear hR hGw
      simp only [depV]
      try go_simp
      first
        | (with_reducible exact Grow.refl _)
        | (with_reducible exact ⟨Grow.refl _, rfl⟩)
    · intro w5 hR
      have hGw : Grow W w5 := hR.of_drew
      have HGW := Lib.hid hGw
      have hxc := (hGw.block HX.out).cell
      have hyc := (hGw.block HY.out).cell
      clear hR hGw
      simp only [depV]
      rintro _ rfl
      try go_simp
      first
        | (with_reducible exact Grow.refl _)
        | (with_reducible exact ⟨Grow.refl _, rfl⟩)
    · intro w5 hR
      have hGw : Grow W w5 := hR.of_drew
      have HGW := Lib.hid hGw
      have hxc := (hGw.block HX.out).cell
      have hyc := (hGw.block HY.out).cell
      clear hR hGw
      simp only [depV]
      try go_simp
      first
        | (with_reducible exact Grow.refl _)
        | (with_reducible exact ⟨Grow.refl _, rfl⟩)
    · intro w5 hR
      have hGw : Grow W w5 := hR.of_drew
      have HGW := Lib.hid hGw
      have hxc := (hGw.block HX.out).cell
      have hyc := (hGw.block HY.out).cell
      clear hR hGw
      simp only [depV]
      rintro _ rfl
      try go_simp
      first
        | (with_reducible exact Grow.refl _)
        | (with_reducible exact ⟨Grow.refl _, rfl⟩)
    · intro w5 hR
      have hGw : Grow W w5 := hR.of_drew
      have HGW := Lib.hid hGw
      have hxc := (hGw.block HX.out).cell
      have hyc := (hGw.block HY.out).cell
      clear hR hGw
      simp only [depV]
      rintro _ rfl
      rintro _ rfl
      try go_simp
      refine (HCL.out _ (HG.out.trans HGW.out)).mono ?_
      rintro e w6 ⟨rfl, rfl⟩
      exact ⟨Grow.refl _, rfl⟩
  · intro w5 hR
    have HG5 : Hid (Grow W w5) := Lib.hid hR.of_drew
    clear hR
    simp only [finVC, List.take_succ_cons, List.take_zero, List.drop_succ_cons, List.drop_zero]
    rintro _ rfl
    rintro _ rfl
    rintro _ rfl
    rintro _ rfl
    rintro _ rfl
    rintro _ rfl
    rintro _ rfl
    rintro _ rfl
    rintro _ rfl
    rintro _ rfl
    rintro _ rfl
    simp only [Act.put, List.setIfInBounds_toArray, List.set_cons_succ, List.set_cons_zero]
    go_wp2_with fail
    refine (cmpOr_any _ 3 _ [cmpI lx ly, cmpI mx my, cl] _ (ints_block (BlockIs.new _ 3 _)) (by simp)).mono ?_
    rintro e w6 ⟨rfl, rfl⟩
    go_wp2
    go_ret
    exact ⟨ret_bool HV.out, (HG.out.trans HG5.out).trans (Grow.alloc _ _)⟩

end Go.Proofs.Ythlihchndmbkaaa
