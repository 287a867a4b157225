/- Runs: TurnsRuns' walk. -/
import Derived.Test.YthlihchndmbkaaaRunsM
import Derived.Test.YthlihchndmbkaaaLawFar
import Derived.Test.YthlihchndmbkaaaWorks
namespace Go.Proofs.Ythlihchndmbkaaa
open Go.RowKit

set_option maxRecDepth 100000 in
set_option maxHeartbeats 16000000 in
theorem runs_off0 (t : TaskR) (xs : List Int) (A1 : Option Addr) (c1 : Nat) (part : Int) (w : World) (ht : TaskAt w w.heap.size t) (hf : farD t.d = true) :
    Calls Try.prog 9 #[taskV t, .slice A1 xs.length c1, .int .i64 part] w fun e w' => e = .returned (.bool true) ∧ Below w.heap.size w w' := by
  have HWK := Lib.hid works_any
  have HFA := Lib.hid (fun (w0 : World) (hw : Grow w w0) => far_any t w.heap.size w0 (ht.below hw) hw.size)
  rw [hf] at HFA
  clear ht hf
  go_enter Try.func9, Try.ntmps9
  go_upto_region 1 with fail
  obtain ⟨W, hW, hg, hf, hsz⟩ := one_block w 25 (cellsT t)
  rw [hW]
  clear hW
  have hcc := hf.cell
  have HG := Lib.hid hg
  have HF := Lib.hid hf
  clear hf hg
  go_wp2_with fail
  refine (HFA.out _ HG.out).mono ?_
  rintro e w2 ⟨rfl, hb2⟩
  have HG2 : Hid (Grow W w2) := hb2
  clear hcc hb2
  go_wp2_with fail
  refine (HWK.out _).mono ?_
  rintro e w9 ⟨rfl, hb9⟩
  have HG9 : Hid (Grow W w9) := HG2.out.trans hb9
  clear hb9
  go_wp2
  go_ret
  exact ⟨rfl, HG.out.trans HG9.out⟩

set_option maxRecDepth 100000 in
set_option maxHeartbeats 16000000 in
theorem runs_off1 (t : TaskR) (xs : List Int) (A1 : Option Addr) (c1 : Nat) (part : Int) (w : World) (ht : TaskAt w w.heap.size t) (hf : farD t.d = false) (hl : ¬ xs.length ≤ 20) :
    Calls Try.prog 9 #[taskV t, .slice A1 xs.length c1, .int .i64 part] w fun e w' => e = .returned (.bool true) ∧ Below w.heap.size w w' := by
  have HWK := Lib.hid works_any
  have HFA := Lib.hid (fun (w0 : World) (hw : Grow w w0) => far_any t w.heap.size w0 (ht.below hw) hw.size)
  rw [hf] at HFA
  have g0a : decide ((20 : Int) < (xs.length : Int)) = true := decide_eq_true (by omega)
  have g0b : decide (20 < xs.length) = true := decide_eq_true (by omega)
  clear ht hf hl
  go_enter Try.func9, Try.ntmps9
  go_upto_region 1 with fail
  obtain ⟨W, hW, hg, hf, hsz⟩ := one_block w 25 (cellsT t)
  rw [hW]
  clear hW
  have hcc := hf.cell
  have HG := Lib.hid hg
  have HF := Lib.hid hf
  clear hf hg
  go_wp2_with fail
  refine (HFA.out _ HG.out).mono ?_
  rintro e w2 ⟨rfl, hb2⟩
  have HG2 : Hid (Grow W w2) := hb2
  clear hcc hb2
  go_wp2_with fail
  refine (HWK.out _).mono ?_
  rintro e w9 ⟨rfl, hb9⟩
  have HG9 : Hid (Grow W w9) := HG2.out.trans hb9
  clear hb9
  go_wp2
  go_ret
  exact ⟨rfl, HG.out.trans HG9.out⟩

set_option maxRecDepth 100000 in
set_option maxHeartbeats 16000000 in
theorem runs_on (t : TaskR) (xs : List Int) (A1 : Option Addr) (c1 : Nat) (part : Int) (w : World) (ht : TaskAt w w.heap.size t) (h1 : Ints w w.heap.size A1 xs) (hcap : xs.length ≤ c1) (hf : farD t.d = false) (hl : xs.length ≤ 20) :
    Calls Try.prog 9 #[taskV t, .slice A1 xs.length c1, .int .i64 part] w fun e w' => e = .returned (.bool true) ∧ Below w.heap.size w w' := by
  have HWK := Lib.hid works_any
  have HFA := Lib.hid (fun (w0 : World) (hw : Grow w w0) => far_any t w.heap.size w0 (ht.below hw) hw.size)
  rw [hf] at HFA
  have g0a : decide ((20 : Int) < (xs.length : Int)) = false := decide_eq_false (by omega)
  have g0b : decide (20 < xs.length) = false := decide_eq_false (by omega)
  have hfar : t.d.hands.length ≤ 20 ∧ t.d.parts.length ≤ 20 := by
    unfold farD at hf
    simp only [Bool.or_eq_false_iff, decide_eq_false_iff_not] at hf
    omega
  have HCO := Lib.hid (fun (w0 : World) (hw : Grow w w0) => rCopy_any t w.heap.size w0 (ht.below hw) hw.size hfar.1 hfar.2)
  have HPL := Lib.hid hfar.2
  obtain ⟨i0, hi, hz0, hz1, hz2⟩ := info_parts Try.infoInt
  have hown0 : ∀ (W : World) (b : Nat), b = W.heap.size → (W.alloc (.cells #[] 3)).ownsRow b 3 1 (.slice (some ⟨b, 0, none⟩) 0 0) 0 [] := fun W b hb => by
    subst hb
    exact ⟨rfl, .inr ⟨W.heap.size, 0, #[], rfl, Nat.le_refl _, heap_alloc_new W _, Nat.le_refl _, by unfold maxLen; omega, rfl, rfl⟩⟩
  obtain ⟨ck, hck⟩ : ∃ q : Int, (if okTask t.d = true then 0 else 40) = q := ⟨_, rfl⟩
  obtain ⟨⟨rb, re⟩, hri⟩ : ∃ q, rightApiD t.d xs = q := ⟨_, rfl⟩
  obtain ⟨⟨ma, mb, mc⟩, hmi⟩ : ∃ q, mistD t.d xs = q := ⟨_, rfl⟩
  have hwl3 := wearyAll_len t.d xs part
  obtain ⟨wl, hwl⟩ : ∃ q, wearyAll t.d xs part = q := ⟨_, rfl⟩
  obtain ⟨we, hwe⟩ : ∃ q, wearyEr t.d xs part = q := ⟨_, rfl⟩
  have hRC := fun (w0 : World) (hw : Grow w w0) => rCheck_any t w.heap.size w0 (ht.below hw) hw.size
  have hRR := fun (w0 : World) (hw : Grow w w0) => rRight_any t xs A1 c1 w.heap.size w0 (ht.below hw) (h1.below hw) hw.size hl
  have hRM := fun (w0 : World) (hw : Grow w w0) => rMistakes_any t xs A1 c1 w.heap.size w0 (ht.below hw) (h1.below hw) hw.size hl
  have hRW := fun (w0 : World) (hw : Grow w w0) => rWeary_all t xs A1 c1 part w.heap.size w0 (ht.below hw) (h1.below hw) hw.size hl
  have hSC := fun (A B : Option Addr) (ca cb : Nat) (m : Nat) (w0 : World) (h : TaskAt w0 m ⟨t.d, A, ca, B, cb⟩) (hm : m ≤ w0.heap.size) => check_any ⟨t.d, A, ca, B, cb⟩ m w0 h hm
  have hSR := fun (A B : Option Addr) (ca cb : Nat) (A' : Option Addr) (c' m : Nat) (w0 : World) (h : TaskAt w0 m ⟨t.d, A, ca, B, cb⟩) (hi : Ints w0 m A' xs) (hm : m ≤ w0.heap.size) (hc : xs.length ≤ c') => rightApi_any ⟨t.d, A, ca, B, cb⟩ xs A' c' m w0 h hi hm hc
  have hSM := fun (A B : Option Addr) (ca cb : Nat) (A' : Option Addr) (c' m : Nat) (w0 : World) (h : TaskAt w0 m ⟨t.d, A, ca, B, cb⟩) (hi : Ints w0 m A' xs) (hm : m ≤ w0.heap.size) => mistakes_any ⟨t.d, A, ca, B, cb⟩ xs A' c' m w0 h hi hm
  have hSW := fun (A B : Option Addr) (ca cb : Nat) (A' : Option Addr) (c' m : Nat) (w0 : World) (h : TaskAt w0 m ⟨t.d, A, ca, B, cb⟩) (hi : Ints w0 m A' xs) (hm : m ≤ w0.heap.size) (hc : xs.length ≤ c') => sWeary_all ⟨t.d, A, ca, B, cb⟩ xs A' c' part m w0 h hi hm hc
  dsimp only at hSC hSR hSM hSW
  rw [hck] at hRC
  simp only [hck] at hSC
  rw [hri] at hRR
  simp only [hri] at hSR
  rw [hmi] at hRM
  simp only [hmi] at hSM
  rw [hwl, hwe] at hRW
  simp only [hwl, hwe] at hSW
  rw [hwl] at hwl3
  have HRC := Lib.hid hRC
  have HRR := Lib.hid hRR
  have HRM := Lib.hid hRM
  have HRW := Lib.hid hRW
  have HSC := Lib.hid hSC
  have HSR := Lib.hid hSR
  have HSM := Lib.hid hSM
  have HSW := Lib.hid hSW
  have HCAP := Lib.hid hcap
  have HI := Lib.hid h1
  have HT := Lib.hid ht
  have hckn : (ck != ck) = false := by simp
  have hrbn : (rb != rb) = false := by simp
  have hren : (re != re) = false := by simp
  have hman : (ma != ma) = false := by simp
  have hmbn : (mb != mb) = false := by simp
  have hmcn : (mc != mc) = false := by simp
  have hwen : (we == we) = true := by simp
  have HSI := Lib.hid (fun (A A' : Option Addr) (c c' B B' : Nat) (ys : List Int) (w0 : World) (h : Ints w0 B A ys) (h' : Ints w0 B' A' ys) (hy : ys.length ≤ 1000000) => sameInts_any A A' c c' B B' ys ys w0 h h' hy hy)
  simp only [decide_true] at HSI
  clear ht h1 hcap hf hck hri hmi hwl hwe hRC hRR hRM hRW hSC hSR hSM hSW hfar
  go_enter Try.func9, Try.ntmps9
  go_upto_region 1 with fail
  obtain ⟨W, hW, hg, hf, hsz⟩ := one_block w 25 (cellsT t)
  rw [hW]
  clear hW
  have hcc := hf.cell
  have HG := Lib.hid hg
  have HF := Lib.hid hf
  clear hf hg
  go_wp2_with fail
  refine (HFA.out _ HG.out).mono ?_
  rintro e w2 ⟨rfl, hb2⟩
  have HG2 : Hid (Grow W w2) := hb2
  clear hcc hb2
  have hcc := (HG2.out.block HF.out).cell
  go_wp2_with fail
  refine (HCO.out _ (HG.out.trans HG2.out)).mono ?_
  rintro e w3 ⟨A3, ca3, B3, cb3, lo3, rfl, hT3, ⟨hq3, hlo3⟩, hI3, hb3⟩
  have HG3 : Hid (Grow W w3) := HG2.out.trans hb3
  have HU3 : Hid (TaskAt w3 w3.heap.size ⟨t.d, A3, ca3, B3, cb3⟩) := Lib.hid ⟨hT3.at_, hI3.1.ints⟩
  clear hcc hb3 hT3 hI3 hq3 hlo3
  go_wp2_with (at_builtin; go_loud (refine wpList_append_ints rfl _ _ 23 rfl w3.heap.size 3 i0 (.int .i64 0) 8 Try.underlying23 hi hz0 hz1 hz2 rfl _ 0 [] rfl ?c0 A1 xs.length c1 w.heap.size xs rfl rfl ?c1 ?c2 ?c3 ?c4 ?_))
  case c0 => exact hown0 _ _ rfl
  case c1 => exact HI.out.below (HG.out.trans (HG3.out.trans (Grow.alloc _ _)))
  case c2 => unfold maxLen; omega
  case c3 => omega
  case c4 => simp
  intro v' w4 hown hgr
  obtain ⟨Ao, co, rfl⟩ := own_form hown
  have hb4 : Grow w3 w4 := ((Below.refl _ w3).alloc (Nat.le_refl _) _).grown hgr (by simp) (fun k hk => by simp [Value.ownBlock] at hk; omega)
  have hoi := own_ints (by simpa using hown)
  have HOI : Hid (Ints w4 w4.heap.size Ao xs) := Lib.hid hoi.1
  have HOC : Hid (xs.length ≤ co) := Lib.hid (by have := hoi.2.2; omega)
  have HG4 : Hid (Grow W w4) := HG3.out.trans hb4
  have HU4 : Hid (TaskAt w4 w4.heap.size ⟨t.d, A3, ca3, B3, cb3⟩) := Lib.hid ((HU3.out.below hb4).more hb4.size)
  clear hown hgr hb4 hoi HU3
  go_upto_region 4 with fail
  obtain ⟨W5, hW5, hg5, hu5, hsz5⟩ := one_block w4 25 (cellsT ⟨t.d, A3, ca3, B3, cb3⟩)
  rw [hW5]
  clear hW5
  obtain ⟨bu, ebu⟩ : ∃ q, w4.heap.size = q := ⟨_, rfl⟩
  rw [ebu] at hu5 hsz5 ⊢
  have HB5 := Lib.hid hu5
  have HG5 : Hid (Grow W W5) := Lib.hid (HG4.out.trans hg5)
  have HUW := Lib.hid (fun (w0 : World) (hw : Grow W5 w0) => (HU4.out.below (hg5.trans hw)).more (hg5.trans hw).size)
  have HOW := Lib.hid (fun (w0 : World) (hw : Grow W5 w0) => (HOI.out.below (hg5.trans hw)).more (hg5.trans hw).size)
  clear hg5 hu5 ebu
  refine wp_region_lit 5 [[], [(0, 36)], [], [(2, 38)], [(1, 37), (3, 39)]] Grow (fun i v w' => match i with
      | 0 => v = taskV ⟨t.d, A3, ca3, B3, cb3⟩
      | 1 => v = .int .i64 ck
      | 2 => v = taskV t
      | 3 => v = .int .i64 ck
      | 4 => v = .bool false
      | _ => False) (by kernel_rfl) (by kernel_rfl) (fun _ _ _ => Grow.trans) Grow.refl ?_ ?_ ?_
  · intro i v y y' h k
    match i, h with
    | 0, h | 1, h | 2, h | 3, h | 4, h => exact h
  · simp only [StepsLit, List.take_succ_cons, List.take_zero]
    refine ⟨?_, ?_, ?_, ?_, ?_, trivial⟩
    · intro w5 hR
      have hGw : Grow W5 w5 := hR.of_drew
      have HGW := Lib.hid hGw
      have hcc := ((HG5.out.trans HGW.out).block HF.out).cell
      have hbc := (HGW.out.block HB5.out).cell
      clear hR hGw
      simp only [depV]
      try go_simp
      first
        | (with_reducible exact Grow.refl _)
        | (with_reducible exact ⟨Grow.refl _, rfl⟩)
    · intro w5 hR
      have hGw : Grow W5 w5 := hR.of_drew
      have HGW := Lib.hid hGw
      have hcc := ((HG5.out.trans HGW.out).block HF.out).cell
      have hbc := (HGW.out.block HB5.out).cell
      clear hR hGw
      simp only [depV]
      rintro _ rfl
      try go_simp
      refine (HSC.out A3 B3 ca3 cb3 _ _ (HUW.out _ HGW.out) (Nat.le_refl _)).mono ?_
      rintro e w6 ⟨rfl, hb6⟩
      exact ⟨hb6, rfl⟩
    · intro w5 hR
      have hGw : Grow W5 w5 := hR.of_drew
      have HGW := Lib.hid hGw
      have hcc := ((HG5.out.trans HGW.out).block HF.out).cell
      have hbc := (HGW.out.block HB5.out).cell
      clear hR hGw
      simp only [depV]
      try go_simp
      first
        | (with_reducible exact Grow.refl _)
        | (with_reducible exact ⟨Grow.refl _, rfl⟩)
    · intro w5 hR
      have hGw : Grow W5 w5 := hR.of_drew
      have HGW := Lib.hid hGw
      have hcc := ((HG5.out.trans HGW.out).block HF.out).cell
      have hbc := (HGW.out.block HB5.out).cell
      clear hR hGw
      simp only [depV]
      rintro _ rfl
      try go_simp
      refine (HRC.out _ (HG.out.trans (HG5.out.trans HGW.out))).mono ?_
      rintro e w6 ⟨rfl, hb6⟩
      exact ⟨hb6, rfl⟩
    · intro w5 hR
      have hGw : Grow W5 w5 := hR.of_drew
      have HGW := Lib.hid hGw
      have hcc := ((HG5.out.trans HGW.out).block HF.out).cell
      have hbc := (HGW.out.block HB5.out).cell
      clear hR hGw
      simp only [depV]
      rintro _ rfl
      rintro _ rfl
      try go_simp
      first
        | (with_reducible exact Grow.refl _)
        | (with_reducible exact ⟨Grow.refl _, rfl⟩)
  · intro w5 hR
    have HG5' : Hid (Grow W5 w5) := Lib.hid hR.of_drew
    clear hR
    simp only [finVC, List.take_succ_cons, List.take_zero, List.drop_succ_cons, List.drop_zero]
    rintro _ rfl
    rintro _ rfl
    rintro _ rfl
    rintro _ rfl
    rintro _ rfl
    simp only [Act.put, List.setIfInBounds_toArray, List.set_cons_succ, List.set_cons_zero]
    obtain ⟨w6, e6⟩ : ∃ q, w5 = q := ⟨_, rfl⟩
    have HH6 : Hid (Grow W5 w6) := Lib.hid (by rw [← e6]; exact HG5'.out)
    rw [e6]
    clear e6 HG5'
    have hcc := ((HG5.out.trans HH6.out).block HF.out).cell
    have hbc := (HH6.out.block HB5.out).cell
    go_wp2_with fail
    refine (HSR.out A3 B3 ca3 cb3 Ao co _ _ (HUW.out _ HH6.out) (HOW.out _ HH6.out) (Nat.le_refl _) HOC.out).mono ?_
    rintro e w7 ⟨rfl, hb7⟩
    have HH7 : Hid (Grow W5 w7) := HH6.out.trans hb7
    clear hcc hbc hb7
    have hcc := ((HG5.out.trans HH7.out).block HF.out).cell
    have hbc := (HH7.out.block HB5.out).cell
    go_wp2_with fail
    refine (HRR.out _ (HG.out.trans (HG5.out.trans HH7.out))).mono ?_
    rintro e w8 ⟨rfl, hb8⟩
    have HH8 : Hid (Grow W5 w8) := HH7.out.trans hb8
    clear hcc hbc hb8
    have hcc := ((HG5.out.trans HH8.out).block HF.out).cell
    have hbc := (HH8.out.block HB5.out).cell
    go_wp2_with fail
    refine (HSM.out A3 B3 ca3 cb3 Ao co _ _ (HUW.out _ HH8.out) (HOW.out _ HH8.out) (Nat.le_refl _)).mono ?_
    rintro e w9 ⟨rfl, hb9⟩
    have HH9 : Hid (Grow W5 w9) := HH8.out.trans hb9
    clear hcc hbc hb9
    have hcc := ((HG5.out.trans HH9.out).block HF.out).cell
    have hbc := (HH9.out.block HB5.out).cell
    go_wp2_with fail
    refine (HRM.out _ (HG.out.trans (HG5.out.trans HH9.out))).mono ?_
    rintro e w10 ⟨rfl, hb10⟩
    have HH10 : Hid (Grow W5 w10) := HH9.out.trans hb10
    clear hcc hbc hb10
    have hcc := ((HG5.out.trans HH10.out).block HF.out).cell
    have hbc := (HH10.out.block HB5.out).cell
    go_wp2_with fail
    refine (HSW.out A3 B3 ca3 cb3 Ao co _ _ (HUW.out _ HH10.out) (HOW.out _ HH10.out) (Nat.le_refl _) HOC.out).mono ?_
    rintro e w11 ⟨Al, cl, rfl, hS11, hb11⟩
    have HH11 : Hid (Grow W5 w11) := HH10.out.trans hb11
    clear hcc hbc hb11
    have HS11 := Lib.hid hS11
    clear hS11
    have hcc := ((HG5.out.trans HH11.out).block HF.out).cell
    have hbc := (HH11.out.block HB5.out).cell
    go_wp2_with fail
    refine (HRW.out _ (HG.out.trans (HG5.out.trans HH11.out))).mono ?_
    rintro e w12 ⟨Am, cm, rfl, hS12, hb12⟩
    have HS11' := Lib.hid (HS11.out.below hb12)
    have HH12 : Hid (Grow W5 w12) := HH11.out.trans hb12
    clear hcc hbc hb12
    have HS12 := Lib.hid hS12
    clear hS12 HS11
    go_wp2_with fail
    refine (sameSpans_same Al Am cl cm _ _ wl _ HS11'.out HS12.out hwl3).mono ?_
    rintro e w13 ⟨rfl, hb13⟩
    have HH13 : Hid (Grow W5 w13) := HH12.out.trans hb13
    clear hb13
    go_wp2_with fail
    refine (HSI.out Ao A1 co c1 _ _ xs _ (HOW.out _ HH13.out) (HI.out.below (HG.out.trans (HG5.out.trans HH13.out))) (by omega)).mono ?_
    rintro e w14 ⟨rfl, ⟨q14, rfl⟩⟩
    have HH14 : Hid (Grow W5 (w13.drewN q14)) := Lib.hid (HH13.out.trans (Below.drewN_ (Below.refl _ _) _))
    have hcc := ((HG5.out.trans HH14.out).block HF.out).cell
    have hbc := (HH14.out.block HB5.out).cell
    go_wp2_with fail
    refine (HSI.out B3 t.B cb3 t.cb _ _ t.d.parts _ (HUW.out _ HH14.out).2 (HT.out.2.below (HG.out.trans (HG5.out.trans HH14.out))) (by have := HPL.out; omega)).mono ?_
    rintro e w15 ⟨rfl, ⟨q15, rfl⟩⟩
    have HH15 : Hid (Grow W5 ((w13.drewN q14).drewN q15)) := Lib.hid (HH14.out.trans (Below.drewN_ (Below.refl _ _) _))
    clear hcc hbc
    go_wp2_with fail
    refine (HWK.out _).mono ?_
    rintro e w16 ⟨rfl, hb16⟩
    have HH16 : Hid (Grow W5 w16) := Lib.hid (Grow.trans (by have h := HH15.out; rw [World.drewN_drewN] at h; exact h) hb16)
    clear hb16
    go_wp2
    go_ret
    exact ⟨rfl, HG.out.trans (HG5.out.trans HH16.out)⟩

theorem turnsRuns_any (t : TaskR) (xs : List Int) (A1 : Option Addr) (c1 : Nat) (part : Int) (w : World) (ht : TaskAt w w.heap.size t) (h1 : Ints w w.heap.size A1 xs) (hcap : xs.length ≤ c1) :
    Calls Try.prog 9 #[taskV t, .slice A1 xs.length c1, .int .i64 part] w fun e w' => e = .returned (.bool true) ∧ Below w.heap.size w w' := by
  cases hf : farD t.d with
  | true => exact runs_off0 t xs A1 c1 part w ht hf
  | false =>
    by_cases hl : xs.length ≤ 20
    · exact runs_on t xs A1 c1 part w ht h1 hcap hf hl
    · exact runs_off1 t xs A1 c1 part w ht hf hl

end Go.Proofs.Ythlihchndmbkaaa
