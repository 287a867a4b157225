/- RefRota: the specification's CheckRota and Right. RefW: the specification's Worst and Mistakes. -/
import Derived.Test.YthlihchndmbkaaaIsRota
import Derived.Test.YthlihchndmbkaaaFar
import Derived.Test.YthlihchndmbkaaaLimit
import Derived.Test.YthlihchndmbkaaaApi
import Derived.Test.YthlihchndmbkaaaExtM
namespace Go.Proofs.Ythlihchndmbkaaa
open Go.RowKit

def rotaErr (t : TaskD) (xs : List Int) : Int := if okTask t = true then if okRota t xs = true then 0 else 41 else 40
theorem rotaErr_cases (t : TaskD) (xs : List Int) : (okTask t = true ∧ okRota t xs = true ∧ rotaErr t xs = 0) ∨ ((rotaErr t xs = 40 ∨ rotaErr t xs = 41) ∧ ¬ (okTask t = true ∧ okRota t xs = true)) := by
  unfold rotaErr
  cases okTask t <;> cases okRota t xs <;> simp

set_option maxRecDepth 100000 in
set_option maxHeartbeats 4000000 in
theorem checkRota_any (t : TaskR) (xs : List Int) (A1 : Option Addr) (c1 n : Nat) (w : World) (ht : TaskAt w n t) (h1 : Ints w n A1 xs) (hn : n ≤ w.heap.size) (hl : xs.length ≤ 20) :
    Calls Try.prog 53 #[taskV t, .slice A1 xs.length c1] w fun e w' => e = .returned (.int .i64 (rotaErr t.d xs)) ∧ Below w.heap.size w w' := by
  have HC := Lib.hid (fun (w0 : World) (hw : Grow w w0) => rCheck_any t w.heap.size w0 ((ht.more hn).below hw) hw.size)
  unfold rotaErr
  cases hk : okTask t.d with
  | false =>
    rw [hk] at HC
    simp only [if_false, Bool.false_eq_true] at HC ⊢
    clear ht h1 hn hl hk
    go_enter Try.func53, Try.ntmps53
    go_upto_region 1 with fail
    obtain ⟨W, hW, hg, hf, hsz⟩ := one_block w 25 (cellsT t)
    rw [hW]
    clear hW
    have hcc := hf.cell
    have HG := Lib.hid hg
    clear hf hg
    go_wp2_with fail
    refine (HC.out _ HG.out).mono ?_
    rintro e w2 ⟨rfl, hb2⟩
    have HG2 : Hid (Grow w w2) := HG.out.trans hb2
    clear hcc hb2
    go_wp2
    go_ret
    exact ⟨rfl, HG2.out⟩
  | true =>
    have HI := Lib.hid (fun (w0 : World) (hw : Grow w w0) => isRota_any t xs A1 c1 w.heap.size w0 ((h1.more hn).below hw) hw.size hl (okTask_parts hk).1.2)
    rw [hk] at HC
    generalize okRota t.d xs = ok at HI ⊢
    simp only [if_true] at HC ⊢
    clear ht h1 hn hl hk
    cases ok
    all_goals
      simp only [if_true, if_false, Bool.false_eq_true]
      go_enter Try.func53, Try.ntmps53
      go_upto_region 1 with fail
      obtain ⟨W, hW, hg, hf, hsz⟩ := one_block w 25 (cellsT t)
      rw [hW]
      clear hW
      have hcc := hf.cell
      have HF := Lib.hid hf
      have HG := Lib.hid hg
      clear hf hg
      go_wp2_with fail
      refine (HC.out _ HG.out).mono ?_
      rintro e w2 ⟨rfl, hb2⟩
      have HG2 : Hid (Grow W w2) := hb2
      clear hcc hb2
      have hcc := (HG2.out.block HF.out).cell
      go_wp2_with fail
      refine (HI.out _ (HG.out.trans HG2.out)).mono ?_
      rintro e w3 ⟨rfl, hb3⟩
      have HG3 : Hid (Grow W w3) := HG2.out.trans hb3
      clear hcc hb3
      go_wp2
      go_ret
      exact ⟨rfl, HG.out.trans HG3.out⟩

theorem rightApi_ref {t : TaskD} {xs : List Int} (hk : okTask t = true) (hr : okRota t xs = true) : rightApiD t xs = (isRightD t xs, 0) := by
  unfold rightApiD
  rw [if_pos hk, if_pos hr]
  obtain ⟨_, q2, q3⟩ := okRota_parts hr
  have h := isRight_right (okTask_parts hk).2.2.2.2.1.1 (natsOf xs) q3
  rw [q2] at h
  rw [h]
theorem rightApi_err {t : TaskD} {xs : List Int} (h : ¬ (okTask t = true ∧ okRota t xs = true)) : rightApiD t xs = (false, rotaErr t xs) := by
  unfold rightApiD rotaErr
  cases h1 : okTask t <;> cases h2 : okRota t xs <;> simp_all

set_option maxRecDepth 100000 in
set_option maxHeartbeats 4000000 in
theorem rRight_any (t : TaskR) (xs : List Int) (A1 : Option Addr) (c1 n : Nat) (w : World) (ht : TaskAt w n t) (h1 : Ints w n A1 xs) (hn : n ≤ w.heap.size) (hl : xs.length ≤ 20) :
    Calls Try.prog 31 #[taskV t, .slice A1 xs.length c1] w fun e w' => e = .returned (.tuple #[.bool (rightApiD t.d xs).1, .int .i64 (rightApiD t.d xs).2]) ∧ Below w.heap.size w w' := by
  have HC := Lib.hid (fun (w0 : World) (hw : Grow w w0) => checkRota_any t xs A1 c1 w.heap.size w0 ((ht.more hn).below hw) ((h1.more hn).below hw) hw.size hl)
  rcases rotaErr_cases t.d xs with ⟨hk, hr, he⟩ | ⟨he, hb⟩
  · have hp := okTask_parts hk
    have HI := Lib.hid (fun (w0 : World) (hw : Grow w w0) => isRight_any t xs A1 c1 w.heap.size w0 ((h1.more hn).below hw) hw.size hl hp.1.2 (by omega))
    rw [he] at HC
    rw [rightApi_ref hk hr]
    generalize isRightD t.d xs = ok at HI ⊢
    clear ht h1 hn hl hk hr he hp
    dsimp only
    go_enter Try.func31, Try.ntmps31
    go_upto_region 1 with fail
    obtain ⟨W, hW, hg, hf, hsz⟩ := one_block w 25 (cellsT t)
    rw [hW]
    clear hW
    have hcc := hf.cell
    have HF := Lib.hid hf
    have HG := Lib.hid hg
    clear hf hg
    go_wp2_with fail
    refine (HC.out _ HG.out).mono ?_
    rintro e w2 ⟨rfl, hb2⟩
    have HG2 : Hid (Grow W w2) := hb2
    clear hcc hb2
    have hcc := (HG2.out.block HF.out).cell
    go_wp2_with fail
    refine (HI.out _ (HG.out.trans HG2.out)).mono ?_
    rintro e w3 ⟨rfl, hb3⟩
    have HG3 : Hid (Grow W w3) := HG2.out.trans hb3
    clear hcc hb3
    go_wp2
    go_ret2
    exact ⟨rfl, HG.out.trans HG3.out⟩
  · rw [rightApi_err hb]
    clear ht h1 hn hl hb
    dsimp only
    generalize rotaErr t.d xs = er at HC he ⊢
    rcases he with rfl | rfl
    all_goals
      go_enter Try.func31, Try.ntmps31
      go_upto_region 1 with fail
      obtain ⟨W, hW, hg, hf, hsz⟩ := one_block w 25 (cellsT t)
      rw [hW]
      clear hW
      have hcc := hf.cell
      have HG := Lib.hid hg
      clear hf hg
      go_wp2_with fail
      refine (HC.out _ HG.out).mono ?_
      rintro e w2 ⟨rfl, hb2⟩
      have HG2 : Hid (Grow W w2) := hb2
      clear hcc hb2
      go_wp2
      go_ret2
      exact ⟨rfl, HG.out.trans HG2.out⟩

end Go.Proofs.Ythlihchndmbkaaa

namespace Go.Proofs.Ythlihchndmbkaaa
open Go.RowKit

/-- v is the extreme course of a rota -/
def IsExt (up : Bool) (t : TaskR) (rota : List Nat) (v : Value) (w : World) : Prop := ∃ x : CourseR, v = courseKV x ∧ CourseAt w w.heap.size x ∧ x.st = extSt up t.d ∧ x.rows.map (·.xs) = extRows up t.d rota
theorem IsExt.grow {up : Bool} {t : TaskR} {rota : List Nat} {v : Value} {a b : World} (h : IsExt up t rota v a) (k : Grow a b) : IsExt up t rota v b := by
  obtain ⟨x, h1, h2, h3⟩ := h
  exact ⟨x, h1, (h2.below k).more k.size, h3⟩
/-- v is what Run answers in the extreme course of a rota -/
def IsRun (up : Bool) (t : TaskR) (rota : List Nat) (v : Value) (w : World) : Prop := ∃ A cap R, v = .tuple #[.slice A (rota.length + 1) cap, .int .i64 (afterD up t.d rota).mis] ∧ RowsAt w w.heap.size A R ∧ R.map (·.xs) = (List.range (rota.length + 1)).map (wearRow t.d.hands.length (runF rota (extSt up t.d) (extRows up t.d rota)))
theorem IsRun.grow {up : Bool} {t : TaskR} {rota : List Nat} {v : Value} {a b : World} (h : IsRun up t rota v a) (k : Grow a b) : IsRun up t rota v b := by
  obtain ⟨A, cap, R, h1, h2, h3⟩ := h
  exact ⟨A, cap, R, h1, (h2.below k).more k.size, h3⟩
def IsRows (up : Bool) (t : TaskR) (rota : List Nat) (v : Value) (w : World) : Prop := ∃ A cap R, v = .slice A (rota.length + 1) cap ∧ RowsAt w w.heap.size A R ∧ R.map (·.xs) = (List.range (rota.length + 1)).map (wearRow t.d.hands.length (runF rota (extSt up t.d) (extRows up t.d rota)))
theorem IsRows.grow {up : Bool} {t : TaskR} {rota : List Nat} {v : Value} {a b : World} (h : IsRows up t rota v a) (k : Grow a b) : IsRows up t rota v b := by
  obtain ⟨A, cap, R, h1, h2, h3⟩ := h
  exact ⟨A, cap, R, h1, (h2.below k).more k.size, h3⟩
theorem isExt_call {up : Bool} {t : TaskR} {rota : List Nat} {A1 : Option Addr} {c1 : Nat} {w w5 : World} (ht : TaskAt w w.heap.size t) (h1 : Ints w w.heap.size A1 (natsL rota)) (hk : okTask t.d = true) (hl : rota.length ≤ t.d.parts.length) (hg : Grow w w5) :
    Calls Try.prog 54 #[taskV t, .slice A1 rota.length c1, .bool up] w5 fun e w' => ∃ v, e = .returned v ∧ Grow w5 w' ∧ IsExt up t rota v w' :=
  (extreme_any t rota A1 c1 up w.heap.size w5 (ht.below hg) (h1.below hg) hg.size hk (by have := (okTask_parts hk).2.2.1.2; omega)).mono fun e w' ⟨x, he, h2, h3, h4, hb⟩ => ⟨_, he, hb, x, rfl, h2, h3, h4⟩
theorem isRun_call {up : Bool} {t : TaskR} {rota : List Nat} {A1 : Option Addr} {c1 : Nat} {w w5 : World} (ht : TaskAt w w.heap.size t) (h1 : Ints w w.heap.size A1 (natsL rota)) (hk : okTask t.d = true) (hr : ∀ h ∈ rota, h < t.d.hands.length) (hl : rota.length ≤ t.d.parts.length) (hg : Grow w w5) {v : Value} (hv : IsExt up t rota v w5) :
    Calls Try.prog 21 #[taskV t, .slice A1 rota.length c1, v] w5 fun e w' => ∃ u, e = .returned u ∧ Grow w5 w' ∧ IsRun up t rota u w' := by
  obtain ⟨x, rfl, hx, h3, h4⟩ := hv
  have hR := ext_run hk hr hl up
  rw [← h3, ← h4] at hR
  refine (run_any t rota A1 c1 x w5.heap.size w5 ((ht.below hg).more hg.size) ((h1.below hg).more hg.size) hx (Nat.le_refl _) hR).mono fun e w' ⟨A, cap, R, he, hR', hm, hb⟩ => ⟨_, he, hb, A, cap, R, ?_, hR', ?_⟩
  · rw [h3, h4, ext_mist hk hr hl up]
  · rw [hm, h3, h4]

set_option maxRecDepth 100000 in
set_option maxHeartbeats 8000000 in
theorem rWorst_any (t : TaskR) (rota : List Nat) (A1 : Option Addr) (c1 : Nat) (n : Nat) (w : World) (ht : TaskAt w n t) (h1 : Ints w n A1 (natsL rota)) (hn : n ≤ w.heap.size) (hk : okTask t.d = true) (hr : ∀ h ∈ rota, h < t.d.hands.length) (hl : rota.length ≤ t.d.parts.length) :
    Calls Try.prog 55 #[taskV t, .slice A1 rota.length c1] w fun e w' => e = .returned (.int .i64 (afterD true t.d rota).mis) ∧ Below w.heap.size w w' := by
  have HEX := Lib.hid (fun (w5 : World) (hg : Grow w w5) => isExt_call (up := true) (c1 := c1) (ht.more hn) (h1.more hn) hk hl hg)
  have HRU := Lib.hid (fun (w5 : World) (hg : Grow w w5) (v : Value) (hv : IsExt true t rota v w5) => isRun_call (up := true) (c1 := c1) (ht.more hn) (h1.more hn) hk hr hl hg hv)
  clear ht h1 hn hk hr hl
  go_enter Try.func55, Try.ntmps55
  go_upto_region 1 with fail
  obtain ⟨W, hW, hg, hf, hsz⟩ := one_block w 25 (cellsT t)
  rw [hW]
  clear hW
  have HG := Lib.hid hg
  have HF := Lib.hid hf
  have HGB : Hid (Grow W W) := Lib.hid (Grow.refl _)
  clear hg hf
  refine wp_region_lit 11 [[], [], [], [], [(2, 10), (3, 11)], [(0, 8), (1, 9), (4, 12)], [(5, 13)], [(6, 7)], [(6, 7)], [(7, 14)], [(8, 15)]] Grow (fun i v w' => match i with
      | 0 => v = taskV t
      | 1 => v = .slice A1 rota.length c1
      | 2 => v = taskV t
      | 3 => v = .slice A1 rota.length c1
      | 4 => IsExt true t rota v w'
      | 5 => IsRun true t rota v w'
      | 6 => IsRun true t rota v w'
      | 7 => IsRows true t rota v w'
      | 8 => v = .int .i64 (afterD true t.d rota).mis
      | 9 => IsRows true t rota v w'
      | 10 => v = .int .i64 (afterD true t.d rota).mis
      | _ => False) (by kernel_rfl) (by kernel_rfl) (fun _ _ _ => Grow.trans) Grow.refl ?_ ?_ ?_
  · intro i v y y' h k
    match i, h with
    | 4, h => exact h.grow k
    | 5, h => exact h.grow k
    | 6, h => exact h.grow k
    | 7, h => exact h.grow k
    | 9, h => exact h.grow k
    | 0, h | 1, h | 2, h | 3, h | 8, h | 10, h => exact h
  · simp only [StepsLit, List.take_succ_cons, List.take_zero]
    refine ⟨?_, ?_, ?_, ?_, ?_, ?_, ?_, ?_, ?_, ?_, ?_, trivial⟩
    · intro w5 hR
      have hGw : Grow W w5 := hR.of_drew
      have HGW := Lib.hid hGw
      have hcc := (HGW.out.block (HGB.out.block HF.out)).cell
      clear hR hGw
      simp only [depV]
      try go_simp
      first
        | (with_reducible exact Grow.refl _)
        | (with_reducible exact ⟨Grow.refl _, rfl⟩)
    · intro w5 hR
      have hGw : Grow W w5 := hR.of_drew
      have HGW := Lib.hid hGw
      have hcc := (HGW.out.block (HGB.out.block HF.out)).cell
      clear hR hGw
      simp only [depV]
      try go_simp
      first
        | (with_reducible exact Grow.refl _)
        | (with_reducible exact ⟨Grow.refl _, rfl⟩)
    · intro w5 hR
      have hGw : Grow W w5 := hR.of_drew
      have HGW := Lib.hid hGw
      have hcc := (HGW.out.block (HGB.out.block HF.out)).cell
      clear hR hGw
      simp only [depV]
      try go_simp
      first
        | (with_reducible exact Grow.refl _)
        | (with_reducible exact ⟨Grow.refl _, rfl⟩)
    · intro w5 hR
      have hGw : Grow W w5 := hR.of_drew
      have HGW := Lib.hid hGw
      have hcc := (HGW.out.block (HGB.out.block HF.out)).cell
      clear hR hGw
      simp only [depV]
      try go_simp
      first
        | (with_reducible exact Grow.refl _)
        | (with_reducible exact ⟨Grow.refl _, rfl⟩)
    · intro w5 hR
      have hGw : Grow W w5 := hR.of_drew
      have HGW := Lib.hid hGw
      have hcc := (HGW.out.block (HGB.out.block HF.out)).cell
      clear hR hGw
      simp only [depV]
      rintro _ rfl
      rintro _ rfl
      try go_simp
      refine (HEX.out _ (HG.out.trans (HGB.out.trans HGW.out))).mono ?_
      rintro e w6 ⟨v, rfl, hg6, hv⟩
      exact ⟨hg6, hv⟩
    · intro w5 hR
      have hGw : Grow W w5 := hR.of_drew
      have HGW := Lib.hid hGw
      have hcc := (HGW.out.block (HGB.out.block HF.out)).cell
      clear hR hGw
      simp only [depV]
      rintro _ rfl
      rintro _ rfl
      intro v4 hv4
      try go_simp
      refine (HRU.out _ (HG.out.trans (HGB.out.trans HGW.out)) _ hv4).mono ?_
      rintro e w6 ⟨u, rfl, hg6, hu⟩
      exact ⟨hg6, hu⟩
    · intro w5 hR
      have hGw : Grow W w5 := hR.of_drew
      have HGW := Lib.hid hGw
      have hcc := (HGW.out.block (HGB.out.block HF.out)).cell
      clear hR hGw
      simp only [depV]
      intro v5 hv5
      try go_simp
      first
        | exact ⟨Grow.refl _, hv5⟩
        | exact Grow.refl _
    · intro w5 hR
      have hGw : Grow W w5 := hR.of_drew
      have HGW := Lib.hid hGw
      have hcc := (HGW.out.block (HGB.out.block HF.out)).cell
      clear hR hGw
      simp only [depV]
      intro v6 hv6
      obtain ⟨A, cap, R, rfl, hr1, hr2⟩ := hv6
      try go_simp
      exact ⟨Grow.refl _, ⟨A, cap, R, rfl, hr1, hr2⟩⟩
    · intro w5 hR
      have hGw : Grow W w5 := hR.of_drew
      have HGW := Lib.hid hGw
      have hcc := (HGW.out.block (HGB.out.block HF.out)).cell
      clear hR hGw
      simp only [depV]
      intro v6 hv6
      obtain ⟨A, cap, R, rfl, hr1, hr2⟩ := hv6
      try go_simp
      first
        | exact ⟨Grow.refl _, rfl⟩
        | exact Grow.refl _
    · intro w5 hR
      have hGw : Grow W w5 := hR.of_drew
      have HGW := Lib.hid hGw
      have hcc := (HGW.out.block (HGB.out.block HF.out)).cell
      clear hR hGw
      simp only [depV]
      intro v7 hv7
      try go_simp
      first
        | exact ⟨Grow.refl _, hv7⟩
        | exact Grow.refl _
    · intro w5 hR
      have hGw : Grow W w5 := hR.of_drew
      have HGW := Lib.hid hGw
      have hcc := (HGW.out.block (HGB.out.block HF.out)).cell
      clear hR hGw
      simp only [depV]
      rintro _ rfl
      try go_simp
      first
        | (with_reducible exact Grow.refl _)
        | (with_reducible exact ⟨Grow.refl _, rfl⟩)
  · intro w5 hR
    have HG5 : Hid (Grow W w5) := Lib.hid hR.of_drew
    clear hR
    simp only [finVC, List.take_succ_cons, List.take_zero, List.drop_succ_cons, List.drop_zero]
    rintro _ rfl
    rintro _ rfl
    rintro _ rfl
    rintro _ rfl
    intro v4 hv4
    intro v5 hv5
    intro v6 hv6
    intro v7 hv7
    rintro _ rfl
    intro v9 hv9
    rintro _ rfl
    simp only [Act.put, List.setIfInBounds_toArray, List.set_cons_succ, List.set_cons_zero]
    go_wp2
    go_ret
    exact ⟨rfl, HG.out.trans HG5.out⟩

set_option maxRecDepth 100000 in
set_option maxHeartbeats 8000000 in
theorem rMistakes_ok (t : TaskR) (rota : List Nat) (A1 : Option Addr) (c1 : Nat) (n : Nat) (w : World) (ht : TaskAt w n t) (h1 : Ints w n A1 (natsL rota)) (hn : n ≤ w.heap.size) (hk : okTask t.d = true) (hro : okRota t.d (natsL rota) = true) :
    Calls Try.prog 32 #[taskV t, .slice A1 rota.length c1] w fun e w' => e = .returned (mistV ((afterD false t.d rota).mis, (afterD true t.d rota).mis, 0)) ∧ Below w.heap.size w w' := by
  obtain ⟨q1, q2, q3⟩ := okRota_parts hro
  rw [natsOf_natsL] at q3
  have hll : (natsL rota).length = rota.length := List.length_map ..
  have hl : rota.length ≤ t.d.parts.length := by omega
  have HEX := Lib.hid (fun (w5 : World) (hg : Grow w w5) => isExt_call (up := false) (c1 := c1) (ht.more hn) (h1.more hn) hk hl hg)
  have HRU := Lib.hid (fun (w5 : World) (hg : Grow w w5) (v : Value) (hv : IsExt false t rota v w5) => isRun_call (up := false) (c1 := c1) (ht.more hn) (h1.more hn) hk q3 hl hg hv)
  have hCR := fun (w0 : World) (hw : Grow w w0) => checkRota_any t (natsL rota) A1 c1 w.heap.size w0 ((ht.more hn).below hw) ((h1.more hn).below hw) hw.size (by have := (okTask_parts hk).2.2.1.2; omega)
  have he : rotaErr t.d (natsL rota) = 0 := by unfold rotaErr; rw [if_pos hk, if_pos hro]
  rw [he, hll] at hCR
  have HCR := Lib.hid hCR
  have HWO := Lib.hid (fun (w0 : World) (hw : Grow w w0) => rWorst_any t rota A1 c1 w.heap.size w0 ((ht.more hn).below hw) ((h1.more hn).below hw) hw.size hk q3 hl)
  clear ht h1 hn hk hro q1 q2 q3 hll hl hCR he
  go_enter Try.func32, Try.ntmps32
  go_upto_region 1 with fail
  obtain ⟨W, hW, hg, hf, hsz⟩ := one_block w 25 (cellsT t)
  rw [hW]
  clear hW
  have hcc := hf.cell
  have HG := Lib.hid hg
  have HF := Lib.hid hf
  clear hg hf
  go_wp2_with fail
  refine (HCR.out _ HG.out).mono ?_
  rintro e w2 ⟨rfl, hb2⟩
  have HGB : Hid (Grow W w2) := hb2
  clear hcc hb2
  go_upto_region 4 with fail
  refine wp_region_lit 10 [[], [], [], [], [(2, 17), (3, 18)], [(0, 15), (1, 16), (4, 19)], [(5, 20)], [(6, 14)], [(6, 14)], [(8, 22)]] Grow (fun i v w' => match i with
      | 0 => v = taskV t
      | 1 => v = .slice A1 rota.length c1
      | 2 => v = taskV t
      | 3 => v = .slice A1 rota.length c1
      | 4 => IsExt false t rota v w'
      | 5 => IsRun false t rota v w'
      | 6 => IsRun false t rota v w'
      | 7 => IsRows false t rota v w'
      | 8 => v = .int .i64 (afterD false t.d rota).mis
      | 9 => v = .int .i64 (afterD false t.d rota).mis
      | _ => False) (by kernel_rfl) (by kernel_rfl) (fun _ _ _ => Grow.trans) Grow.refl ?_ ?_ ?_
  · intro i v y y' h k
    match i, h with
    | 4, h => exact h.grow k
    | 5, h => exact h.grow k
    | 6, h => exact h.grow k
    | 7, h => exact h.grow k
    | 0, h | 1, h | 2, h | 3, h | 8, h | 9, h => exact h
  · simp only [StepsLit, List.take_succ_cons, List.take_zero]
    refine ⟨?_, ?_, ?_, ?_, ?_, ?_, ?_, ?_, ?_, ?_, trivial⟩
    · intro w5 hR
      have hGw : Grow w2 w5 := hR.of_drew
      have HGW := Lib.hid hGw
      have hcc := (HGW.out.block (HGB.out.block HF.out)).cell
      clear hR hGw
      simp only [depV]
      try go_simp
      first
        | (with_reducible exact Grow.refl _)
        | (with_reducible exact ⟨Grow.refl _, rfl⟩)
    · intro w5 hR
      have hGw : Grow w2 w5 := hR.of_drew
      have HGW := Lib.hid hGw
      have hcc := (HGW.out.block (HGB.out.block HF.out)).cell
      clear hR hGw
      simp only [depV]
      try go_simp
      first
        | (with_reducible exact Grow.refl _)
        | (with_reducible exact ⟨Grow.refl _, rfl⟩)
    · intro w5 hR
      have hGw : Grow w2 w5 := hR.of_drew
      have HGW := Lib.hid hGw
      have hcc := (HGW.out.block (HGB.out.block HF.out)).cell
      clear hR hGw
      simp only [depV]
      try go_simp
      first
        | (with_reducible exact Grow.refl _)
        | (with_reducible exact ⟨Grow.refl _, rfl⟩)
    · intro w5 hR
      have hGw : Grow w2 w5 := hR.of_drew
      have HGW := Lib.hid hGw
      have hcc := (HGW.out.block (HGB.out.block HF.out)).cell
      clear hR hGw
      simp only [depV]
      try go_simp
      first
        | (with_reducible exact Grow.refl _)
        | (with_reducible exact ⟨Grow.refl _, rfl⟩)
    · intro w5 hR
      have hGw : Grow w2 w5 := hR.of_drew
      have HGW := Lib.hid hGw
      have hcc := (HGW.out.block (HGB.out.block HF.out)).cell
      clear hR hGw
      simp only [depV]
      rintro _ rfl
      rintro _ rfl
      try go_simp
      refine (HEX.out _ (HG.out.trans (HGB.out.trans HGW.out))).mono ?_
      rintro e w6 ⟨v, rfl, hg6, hv⟩
      exact ⟨hg6, hv⟩
    · intro w5 hR
      have hGw : Grow w2 w5 := hR.of_drew
      have HGW := Lib.hid hGw
      have hcc := (HGW.out.block (HGB.out.block HF.out)).cell
      clear hR hGw
      simp only [depV]
      rintro _ rfl
      rintro _ rfl
      intro v4 hv4
      try go_simp
      refine (HRU.out _ (HG.out.trans (HGB.out.trans HGW.out)) _ hv4).mono ?_
      rintro e w6 ⟨u, rfl, hg6, hu⟩
      exact ⟨hg6, hu⟩
    · intro w5 hR
      have hGw : Grow w2 w5 := hR.of_drew
      have HGW := Lib.hid hGw
      have hcc := (HGW.out.block (HGB.out.block HF.out)).cell
      clear hR hGw
      simp only [depV]
      intro v5 hv5
      try go_simp
      first
        | exact ⟨Grow.refl _, hv5⟩
        | exact Grow.refl _
    · intro w5 hR
      have hGw : Grow w2 w5 := hR.of_drew
      have HGW := Lib.hid hGw
      have hcc := (HGW.out.block (HGB.out.block HF.out)).cell
      clear hR hGw
      simp only [depV]
      intro v6 hv6
      obtain ⟨A, cap, R, rfl, hr1, hr2⟩ := hv6
      try go_simp
      exact ⟨Grow.refl _, ⟨A, cap, R, rfl, hr1, hr2⟩⟩
    · intro w5 hR
      have hGw : Grow w2 w5 := hR.of_drew
      have HGW := Lib.hid hGw
      have hcc := (HGW.out.block (HGB.out.block HF.out)).cell
      clear hR hGw
      simp only [depV]
      intro v6 hv6
      obtain ⟨A, cap, R, rfl, hr1, hr2⟩ := hv6
      try go_simp
      first
        | exact ⟨Grow.refl _, rfl⟩
        | exact Grow.refl _
    · intro w5 hR
      have hGw : Grow w2 w5 := hR.of_drew
      have HGW := Lib.hid hGw
      have hcc := (HGW.out.block (HGB.out.block HF.out)).cell
      clear hR hGw
      simp only [depV]
      rintro _ rfl
      try go_simp
      first
        | (with_reducible exact Grow.refl _)
        | (with_reducible exact ⟨Grow.refl _, rfl⟩)
  · intro w5 hR
    have HG5 : Hid (Grow w2 w5) := Lib.hid hR.of_drew
    clear hR
    simp only [finVC, List.take_succ_cons, List.take_zero, List.drop_succ_cons, List.drop_zero]
    rintro _ rfl
    rintro _ rfl
    rintro _ rfl
    rintro _ rfl
    intro v4 hv4
    intro v5 hv5
    intro v6 hv6
    intro v7 hv7
    rintro _ rfl
    rintro _ rfl
    simp only [Act.put, List.setIfInBounds_toArray, List.set_cons_succ, List.set_cons_zero]
    have hcc := ((HGB.out.trans HG5.out).block HF.out).cell
    go_wp2_with fail
    refine (HWO.out _ (HG.out.trans (HGB.out.trans HG5.out))).mono ?_
    rintro e w6 ⟨rfl, hb6⟩
    have HG6 : Hid (Grow W w6) := Lib.hid ((HGB.out.trans HG5.out).trans hb6)
    clear hcc hb6
    go_wp2
    exact bodyPost_ret (results_three Try.results32 _ _ _ _ _ rfl rfl rfl) rfl ⟨rfl, HG.out.trans HG6.out⟩

set_option maxRecDepth 100000 in
set_option maxHeartbeats 8000000 in
theorem rMistakes_any (t : TaskR) (xs : List Int) (A1 : Option Addr) (c1 : Nat) (n : Nat) (w : World) (ht : TaskAt w n t) (h1 : Ints w n A1 xs) (hn : n ≤ w.heap.size) (hl : xs.length ≤ 20) :
    Calls Try.prog 32 #[taskV t, .slice A1 xs.length c1] w fun e w' => e = .returned (mistV (mistD t.d xs)) ∧ Below w.heap.size w w' := by
  have HC := Lib.hid (fun (w0 : World) (hw : Grow w w0) => checkRota_any t xs A1 c1 w.heap.size w0 ((ht.more hn).below hw) ((h1.more hn).below hw) hw.size hl)
  rcases rotaErr_cases t.d xs with ⟨hk, hr, _⟩ | ⟨he, hb⟩
  · obtain ⟨q1, q2, q3⟩ := okRota_parts hr
    obtain ⟨rota, hro⟩ : ∃ q, natsOf xs = q := ⟨_, rfl⟩
    rw [(readRota_good hk hr).2, hro]
    rw [hro] at q2
    subst q2
    rw [show (natsL rota).length = rota.length from List.length_map ..]
    exact rMistakes_ok t rota A1 c1 n w ht h1 hn hk hr
  · have e : mistD t.d xs = (0, 0, rotaErr t.d xs) := by
      unfold mistD rotaErr
      cases h1 : okTask t.d <;> cases h2 : okRota t.d xs <;> simp_all
    rw [e]
    clear ht h1 hn hl hb e
    generalize rotaErr t.d xs = er at HC he ⊢
    rcases he with rfl | rfl
    all_goals
      go_enter Try.func32, Try.ntmps32
      go_upto_region 1 with fail
      obtain ⟨W, hW, hg, hf, hsz⟩ := one_block w 25 (cellsT t)
      rw [hW]
      clear hW
      have hcc := hf.cell
      have HG := Lib.hid hg
      clear hf hg
      go_wp2_with fail
      refine (HC.out _ HG.out).mono ?_
      rintro e w2 ⟨rfl, hb2⟩
      have HG2 : Hid (Grow W w2) := hb2
      clear hcc hb2
      go_wp2
      exact bodyPost_ret (results_three Try.results32 _ _ _ _ _ rfl rfl rfl) rfl ⟨rfl, HG.out.trans HG2.out⟩

end Go.Proofs.Ythlihchndmbkaaa

