/- Slot: the cheapest group with which a slot is covered; written by wip/tools/slot10.py. -/
import Derived.Test.YtcgnibfcjadnjaaPlanApi
namespace Go.Proofs.Ytcgnibfcjadnjaa
open Go.RowKit

set_option maxHeartbeats 400000 in
theorem isNaN_any (n : Int) (w : World) :
    Calls Try.prog 77 #[.int .i64 n] w fun e w' => e = .returned (.bool false) ∧ w = w' := by
  go_enter Try.func77, Try.ntmps77
  go_wp2
  all_goals go_ret
  all_goals exact ⟨ret_bool (by simp), rfl⟩

set_option maxHeartbeats 400000 in
theorem cmpCompare_any (a b : Int) (w : World) :
    Calls Try.prog 59 #[.int .i64 a, .int .i64 b] w fun e w' => e = .returned (.int .i64 (cmpI a b)) ∧ w = w' := by
  go_enter Try.func59, Try.ntmps59
  go_wp2_with (first | (go_at_call 77; refine (isNaN_any _ _).mono ?_; rintro e w' ⟨rfl, rfl⟩))
  all_goals go_ret
  all_goals exact ⟨ret_int (by unfold cmpI; split <;> (try split) <;> omega), rfl⟩


set_option maxHeartbeats 400000 in
theorem cmpOr_any (A : Option Addr) (cap B : Nat) (xs : List Int) (w : World) (hA : Ints w B A xs) (hl : xs.length ≤ 1000000) :
    Calls Try.prog 58 #[.slice A xs.length cap] w fun e w' => e = .returned (.int .i64 (orL xs)) ∧ w = w' := by
  go_enter Try.func58, Try.ntmps58
  go_wp2
  go_loop [8] (fun i => ∃ k : Nat, k ≤ xs.length ∧ i = .int .i64 k ∧ orL (xs.take k) = 0) (fun i => xs.length - (intOf i).toNat)
  case atStart => exact ⟨0, Nat.zero_le _, rfl, rfl⟩
  case round =>
    obtain ⟨k, hk, rfl, hor⟩ := hrel
    by_cases hlt : k < xs.length
    · obtain ⟨b, off, x, rfl, hb, hc, HX⟩ := hA.at_ hlt
      have HT := Lib.hid (orL_take_succ HX.out hor)
      clear hA hor
      go_wp2
      · go_ret
        exact ⟨ret_int (by rw [orL_of_take xs (k + 1) (by rw [HT.out]; simpa using ‹(x != 0) = true›), HT.out]), rfl⟩
      · go_round
        case rel => exact ⟨k + 1, by omega, by go_num, by rw [HT.out]; simpa using ‹(x != 0) = false›⟩
        case measure => simp [intOf]; omega
    · obtain rfl : k = xs.length := by omega
      have HO := Lib.hid hor
      clear hor hA
      go_wp2
      go_ret
      exact ⟨ret_int (by have := HO.out; rw [List.take_length] at this; rw [this]), rfl⟩

theorem or_two (a b : Int) : orL [a, b] = if a = 0 then b else a := by
  unfold orL
  split
  · unfold orL
    split
    · rename_i h; rw [h]; rfl
    · rfl
  · rfl
theorem key_lt {p : Pool} {a b : Nat} (ha : popD a ≤ 5) (hb : popD b ≤ 5) : orL [cmpI (costD p a : Nat) (costD p b : Nat), cmpI (popD a : Nat) (popD b : Nat)] < 0 ↔ keyD p a < keyD p b := by
  rw [or_two]
  unfold keyD
  by_cases h1 : costD p a < costD p b
  · rw [cmpI_lt (by omega), if_neg (by omega)]
    constructor <;> intro _ <;> omega
  · by_cases h2 : costD p b < costD p a
    · rw [cmpI_gt (by omega), if_neg (by omega)]
      constructor <;> intro _ <;> omega
    · rw [show costD p a = costD p b by omega, cmpI_self, if_pos rfl]
      by_cases h3 : popD a < popD b
      · rw [cmpI_lt (by omega)]
        constructor <;> intro _ <;> omega
      · by_cases h4 : popD b < popD a
        · rw [cmpI_gt (by omega)]
          constructor <;> intro _ <;> omega
        · rw [show popD a = popD b by omega, cmpI_self]
          constructor <;> intro _ <;> omega
/-- two integers in a new block -/
def TwoI (lo : Nat) (x y : Int) (v : Value) (w : World) : Prop := ∃ b, v = .slice (some ⟨b, 0, none⟩) 2 2 ∧ lo ≤ b ∧ BlockIs w b 3 #[.int .i64 x, .int .i64 y]
theorem TwoI.grow {lo : Nat} {x y : Int} {v : Value} {a b : World} (h : TwoI lo x y v a) (g : Grow a b) : TwoI lo x y v b := by
  obtain ⟨q, e, h1, h2⟩ := h
  exact ⟨q, e, h1, g.block h2⟩
theorem BlockIs.ints {w : World} {q : Nat} {x y : Int} (h : BlockIs w q 3 #[.int .i64 x, .int .i64 y]) : Ints w w.heap.size (some ⟨q, 0, none⟩) [x, y] := by
  refine .inr ⟨q, 0, rfl, h.lt, fun j z hj => ?_⟩
  rw [Nat.zero_add, h.cell]
  match j, hj with
  | 0, hj => obtain rfl : x = z := by simpa using hj
             rfl
  | 1, hj => obtain rfl : y = z := by simpa using hj
             rfl
set_option maxRecDepth 100000 in
set_option maxHeartbeats 8000000 in
theorem slotCmp_any (h : PoolH) (p : Pool) (G : Good p) (xb a b : Nat) (ha : a < 32) (hb : b < 32) (w : World) (hA : PoolAt w w.heap.size h p.i) (hX : BlockIs w xb 73 (cellsN h p)) :
    Calls Try.prog 57 #[.int .i64 (a : Nat), .int .i64 (b : Nat), .pointer (some ⟨xb, 0, none⟩)] w fun e w' => ∃ z, e = .returned (.int .i64 z) ∧ (z < 0 ↔ keyD p a < keyD p b) ∧ Below w.heap.size w w' := by
  have HPA := Lib.hid (fun (w0 : World) (hw : Grow w w0) => hA.grow hw)
  have HCA := Lib.hid (fun (w0 : World) (hP : PoolAt w0 w0.heap.size h p.i) => cost_any h p G a w0 hP (by omega))
  have HCB := Lib.hid (fun (w0 : World) (hP : PoolAt w0 w0.heap.size h p.i) => cost_any h p G b w0 hP (by omega))
  have HCC := Lib.hid (fun w0 => cmpCompare_any (costD p a : Nat) (costD p b : Nat) w0)
  have HCS := Lib.hid (fun w0 => cmpCompare_any (popD a : Nat) (popD b : Nat) w0)
  have HSA := Lib.hid (fun w0 => size_any a w0 (by omega))
  have HSB := Lib.hid (fun w0 => size_any b w0 (by omega))
  have HZ := Lib.hid (key_lt (p := p) (pop_le5 a ha) (pop_le5 b hb))
  have HXB := Lib.hid hX
  obtain ⟨lo, hlo⟩ : ∃ z, w.heap.size = z := ⟨_, rfl⟩
  obtain ⟨PO, hPO⟩ : ∃ z : Ending → World → Prop, (fun e w' => ∃ z, e = Ending.returned (.int .i64 z) ∧ (z < 0 ↔ keyD p a < keyD p b) ∧ Below w.heap.size w w') = z := ⟨_, rfl⟩
  have HPO : Hid (∀ w', Grow w w' → PO (Ending.returned (.int .i64 (orL [cmpI (costD p a : Nat) (costD p b : Nat), cmpI (popD a : Nat) (popD b : Nat)]))) w') := Lib.hid (fun w' h1 => by rw [← hPO]; exact ⟨_, rfl, HZ.out, h1⟩)
  rw [hPO]
  clear hA hX G hPO HZ
  obtain ⟨fa, fc, na, nc⟩ := h
  go_enter Try.func57, Try.ntmps57
  go_upto_region 1 with fail
  refine wp_region_lit 14 [[], [], [(0, 6), (1, 7)], [], [], [(3, 9), (4, 10)], [(2, 8), (5, 11)], [], [(7, 13)], [], [(9, 15)], [(8, 14), (10, 16)], [(6, 12), (11, 17)], [(12, 18)]] Grow (fun qi v w' => match qi with
      | 0 => v = poolN ⟨fa, fc, na, nc⟩ p
      | 1 => v = .int .i64 (a : Nat)
      | 2 => v = .int .i64 (costD p a : Nat)
      | 3 => v = poolN ⟨fa, fc, na, nc⟩ p
      | 4 => v = .int .i64 (b : Nat)
      | 5 => v = .int .i64 (costD p b : Nat)
      | 6 => v = .int .i64 (cmpI (costD p a : Nat) (costD p b : Nat))
      | 7 => v = .int .i64 (a : Nat)
      | 8 => v = .int .i64 (popD a : Nat)
      | 9 => v = .int .i64 (b : Nat)
      | 10 => v = .int .i64 (popD b : Nat)
      | 11 => v = .int .i64 (cmpI (popD a : Nat) (popD b : Nat))
      | 12 => TwoI lo (cmpI (costD p a : Nat) (costD p b : Nat)) (cmpI (popD a : Nat) (popD b : Nat)) v w'
      | 13 => v = .int .i64 (orL [cmpI (costD p a : Nat) (costD p b : Nat), cmpI (popD a : Nat) (popD b : Nat)])
      | _ => False) (by kernel_rfl) (by kernel_rfl) (fun _ _ _ => Grow.trans) Grow.refl ?_ ?_ ?_
  · intro i v y y' h k
    match i, h with
    | 12, h => exact h.grow k
    | 0, h | 1, h | 2, h | 3, h | 4, h | 5, h | 6, h | 7, h | 8, h | 9, h | 10, h | 11, h | 13, h => exact h
  · simp only [StepsLit, List.take_succ_cons, List.take_zero]
    refine ⟨?_, ?_, ?_, ?_, ?_, ?_, ?_, ?_, ?_, ?_, ?_, ?_, ?_, ?_, trivial⟩
    · intro w5 hR
      have hGw : Grow w w5 := hR.of_drew
      have HGW := Lib.hid hGw
      have hxc := (HGW.out.block HXB.out).cell
      have hz5 : lo ≤ w5.heap.size := by have := HGW.out.size; omega
      clear hR hGw
      simp only [depV]
      try go_simp
      all_goals first
        | (with_reducible exact Grow.refl _)
        | (with_reducible exact ⟨Grow.refl _, rfl⟩)
    · intro w5 hR
      have hGw : Grow w w5 := hR.of_drew
      have HGW := Lib.hid hGw
      have hxc := (HGW.out.block HXB.out).cell
      have hz5 : lo ≤ w5.heap.size := by have := HGW.out.size; omega
      clear hR hGw
      simp only [depV]
      try go_simp
      all_goals first
        | (with_reducible exact Grow.refl _)
        | (with_reducible exact ⟨Grow.refl _, rfl⟩)
    · intro w5 hR
      have hGw : Grow w w5 := hR.of_drew
      have HGW := Lib.hid hGw
      have hxc := (HGW.out.block HXB.out).cell
      have hz5 : lo ≤ w5.heap.size := by have := HGW.out.size; omega
      clear hR hGw
      simp only [depV]
      rintro _ rfl
      rintro _ rfl
      try go_simp
      refine (HCA.out w5 (HPA.out w5 HGW.out)).mono ?_
      rintro e w6 ⟨rfl, hb6⟩
      exact ⟨hb6, rfl⟩
    · intro w5 hR
      have hGw : Grow w w5 := hR.of_drew
      have HGW := Lib.hid hGw
      have hxc := (HGW.out.block HXB.out).cell
      have hz5 : lo ≤ w5.heap.size := by have := HGW.out.size; omega
      clear hR hGw
      simp only [depV]
      try go_simp
      all_goals first
        | (with_reducible exact Grow.refl _)
        | (with_reducible exact ⟨Grow.refl _, rfl⟩)
    · intro w5 hR
      have hGw : Grow w w5 := hR.of_drew
      have HGW := Lib.hid hGw
      have hxc := (HGW.out.block HXB.out).cell
      have hz5 : lo ≤ w5.heap.size := by have := HGW.out.size; omega
      clear hR hGw
      simp only [depV]
      try go_simp
      all_goals first
        | (with_reducible exact Grow.refl _)
        | (with_reducible exact ⟨Grow.refl _, rfl⟩)
    · intro w5 hR
      have hGw : Grow w w5 := hR.of_drew
      have HGW := Lib.hid hGw
      have hxc := (HGW.out.block HXB.out).cell
      have hz5 : lo ≤ w5.heap.size := by have := HGW.out.size; omega
      clear hR hGw
      simp only [depV]
      rintro _ rfl
      rintro _ rfl
      try go_simp
      refine (HCB.out w5 (HPA.out w5 HGW.out)).mono ?_
      rintro e w6 ⟨rfl, hb6⟩
      exact ⟨hb6, rfl⟩
    · intro w5 hR
      have hGw : Grow w w5 := hR.of_drew
      have HGW := Lib.hid hGw
      have hxc := (HGW.out.block HXB.out).cell
      have hz5 : lo ≤ w5.heap.size := by have := HGW.out.size; omega
      clear hR hGw
      simp only [depV]
      rintro _ rfl
      rintro _ rfl
      try go_simp
      refine (HCC.out _).mono ?_
      rintro e w6 ⟨rfl, rfl⟩
      exact ⟨Grow.refl _, rfl⟩
    · intro w5 hR
      have hGw : Grow w w5 := hR.of_drew
      have HGW := Lib.hid hGw
      have hxc := (HGW.out.block HXB.out).cell
      have hz5 : lo ≤ w5.heap.size := by have := HGW.out.size; omega
      clear hR hGw
      simp only [depV]
      try go_simp
      all_goals first
        | (with_reducible exact Grow.refl _)
        | (with_reducible exact ⟨Grow.refl _, rfl⟩)
    · intro w5 hR
      have hGw : Grow w w5 := hR.of_drew
      have HGW := Lib.hid hGw
      have hxc := (HGW.out.block HXB.out).cell
      have hz5 : lo ≤ w5.heap.size := by have := HGW.out.size; omega
      clear hR hGw
      simp only [depV]
      rintro _ rfl
      try go_simp
      refine (HSA.out _).mono ?_
      rintro e w6 ⟨rfl, rfl⟩
      exact ⟨Grow.refl _, rfl⟩
    · intro w5 hR
      have hGw : Grow w w5 := hR.of_drew
      have HGW := Lib.hid hGw
      have hxc := (HGW.out.block HXB.out).cell
      have hz5 : lo ≤ w5.heap.size := by have := HGW.out.size; omega
      clear hR hGw
      simp only [depV]
      try go_simp
      all_goals first
        | (with_reducible exact Grow.refl _)
        | (with_reducible exact ⟨Grow.refl _, rfl⟩)
    · intro w5 hR
      have hGw : Grow w w5 := hR.of_drew
      have HGW := Lib.hid hGw
      have hxc := (HGW.out.block HXB.out).cell
      have hz5 : lo ≤ w5.heap.size := by have := HGW.out.size; omega
      clear hR hGw
      simp only [depV]
      rintro _ rfl
      try go_simp
      refine (HSB.out _).mono ?_
      rintro e w6 ⟨rfl, rfl⟩
      exact ⟨Grow.refl _, rfl⟩
    · intro w5 hR
      have hGw : Grow w w5 := hR.of_drew
      have HGW := Lib.hid hGw
      have hxc := (HGW.out.block HXB.out).cell
      have hz5 : lo ≤ w5.heap.size := by have := HGW.out.size; omega
      clear hR hGw
      simp only [depV]
      rintro _ rfl
      rintro _ rfl
      try go_simp
      refine (HCS.out _).mono ?_
      rintro e w6 ⟨rfl, rfl⟩
      exact ⟨Grow.refl _, rfl⟩
    · intro w5 hR
      have hGw : Grow w w5 := hR.of_drew
      have HGW := Lib.hid hGw
      have hxc := (HGW.out.block HXB.out).cell
      have hz5 : lo ≤ w5.heap.size := by have := HGW.out.size; omega
      clear hR hGw
      simp only [depV]
      rintro _ rfl
      rintro _ rfl
      try go_simp
      exact ⟨Grow.alloc _ _, _, rfl, hz5, BlockIs.new _ _ _⟩
    · intro w5 hR
      have hGw : Grow w w5 := hR.of_drew
      have HGW := Lib.hid hGw
      have hxc := (HGW.out.block HXB.out).cell
      have hz5 : lo ≤ w5.heap.size := by have := HGW.out.size; omega
      clear hR hGw
      simp only [depV]
      intro v12 hv12
      obtain ⟨q, rfl, hq, hB⟩ := hv12
      try go_simp
      refine (cmpOr_any (some ⟨q, 0, none⟩) 2 w5.heap.size [_, _] w5 hB.ints (by simp)).mono ?_
      rintro e w6 ⟨rfl, rfl⟩
      exact ⟨Grow.refl _, rfl⟩
  · intro w5 hR
    have HG5 : Hid (Grow w w5) := Lib.hid hR.of_drew
    clear hR
    simp only [finVC, List.take_succ_cons, List.take_zero, List.drop_succ_cons, List.drop_zero]
    rintro _ rfl
    rintro _ rfl
    rintro _ rfl
    rintro _ rfl
    rintro _ rfl
    rintro _ rfl
    rintro _ rfl
    rintro _ rfl
    rintro _ rfl
    rintro _ rfl
    rintro _ rfl
    rintro _ rfl
    intro v12 hv12
    rintro _ rfl
    simp only [Act.put, List.setIfInBounds_toArray, List.set_cons_succ, List.set_cons_zero]
    go_wp2
    first
      | exact HPO.out _ HG5.out
      | (go_ret; exact HPO.out _ HG5.out)

theorem leastTo_snoc {α : Type} (k : α → Nat) (x : α) : ∀ (l : List α) (b : α), leastTo k (l ++ [x]) b = if k x < k (leastTo k l b) then x else leastTo k l b
  | [], _ => rfl
  | y :: l, b => leastTo_snoc k x l (if k y < k b then y else b)
theorem leastTo_mem {α : Type} (k : α → Nat) : ∀ (l : List α) (b : α), leastTo k l b = b ∨ leastTo k l b ∈ l
  | [], _ => .inl rfl
  | y :: l, b => by
    rw [leastTo]
    rcases leastTo_mem k l (if k y < k b then y else b) with h | h
    · rw [h]
      split
      · exact .inr (by simp)
      · exact .inl rfl
    · exact .inr (by simp [h])
set_option maxRecDepth 100000 in
set_option maxHeartbeats 2000000 in
theorem minFunc_any (A : Option Addr) (cap : Nat) (g : Nat) (gs : List Nat) (k : Nat → Nat) (c : Value) (w : World) (hI : Ints w w.heap.size A (natsL (g :: gs))) (hl : gs.length ≤ 100000)
    (hp : ∀ a b w0, a ∈ g :: gs → b ∈ g :: gs → Grow w w0 → Calls Try.prog 57 #[.int .i64 (a : Nat), .int .i64 (b : Nat), c] w0 fun e w' => ∃ z, e = .returned (.int .i64 z) ∧ (z < 0 ↔ k a < k b) ∧ Below w0.heap.size w0 w') :
    Calls Try.prog 56 #[.slice A (gs.length + 1) cap, .func (.func 57) #[] #[c]] w fun e w' => e = .returned (.int .i64 (leastTo k gs g : Nat)) ∧ Below w.heap.size w w' := by
  have HP := Lib.hid hp
  have HIN := Lib.hid (fun (w0 : World) (hw : Grow w w0) => (hI.below hw).more hw.size)
  obtain ⟨ab, ao, g0, rfl, hab, hac, HX0⟩ := ints_nat hI (k := 0) (by simp)
  obtain rfl : g0 = g := by have h := HX0.out; simpa using h.symm
  rw [Nat.add_zero] at hac
  have h0 : (0 : Int) < ((gs.length : Int) + 1) := by omega
  have h1 : decide (((gs.length : Int) + 1) < 1) = false := decide_eq_false (by omega)
  have HM := Lib.hid (fun (l : List Nat) (hq : ∀ x ∈ l, x ∈ gs) => (show leastTo k l g0 ∈ g0 :: gs by
    rcases leastTo_mem k l g0 with h | h
    · rw [h]; simp
    · exact List.mem_cons_of_mem _ (hq _ h)))
  clear hp hI
  go_enter Try.func56, Try.ntmps56
  go_upto_region 5 with fail
  clear hac h1
  go_loopw [5, 6] (fun mv iv wr => ∃ j : Nat, j ≤ gs.length ∧ iv = .int .i64 ((j + 1 : Nat) : Int) ∧ mv = .int .i64 (leastTo k (gs.take j) g0 : Nat) ∧ Hid (Grow w wr)) (fun _ iv _ => gs.length + 1 - (intOf iv).toNat)
  case atStart => exact ⟨0, Nat.zero_le _, rfl, rfl, Lib.hid (Grow.refl _)⟩
  case round =>
    obtain ⟨j, hj, rfl, rfl, HG⟩ := hrel
    rename World => wr
    have HMM := Lib.hid (HM.out (gs.take j) fun x hx => List.mem_of_mem_take hx)
    by_cases hlt : j < gs.length
    · have hd : decide (((j + 1 : Nat) : Int) < ((gs.length : Int) + 1)) = true := decide_eq_true (by omega)
      obtain ⟨_, _, x, e, _, hxc, HX⟩ := ints_nat (HIN.out wr HG.out) (k := j + 1) (by simp; omega)
      injection e with e
      injection e with e1 e2
      subst e1 e2
      have hxj : gs[j]? = some x := by have h := HX.out; simpa using h
      have HS : Hid (leastTo k (gs.take (j + 1)) g0 = if k x < k (leastTo k (gs.take j) g0) then x else leastTo k (gs.take j) g0) := Lib.hid (by rw [take_snoc hxj, leastTo_snoc])
      have hj0 : (0 : Int) ≤ ((j + 1 : Nat) : Int) := by omega
      have hj1 : ((j + 1 : Nat) : Int) < ((gs.length : Int) + 1) := by omega
      have HXM : Hid (x ∈ g0 :: gs) := Lib.hid (List.mem_cons_of_mem _ (List.mem_of_getElem? hxj))
      obtain ⟨m, hm⟩ : ∃ z, leastTo k (gs.take j) g0 = z := ⟨_, rfl⟩
      rw [hm] at HMM HS ⊢
      have HXC := Lib.hid hxc
      clear hxj hm
      go_wp2_with fail
      refine (HP.out x m wr HXM.out HMM.out HG.out).mono ?_
      rintro e w2 ⟨z, rfl, hz, hb2⟩
      have HG2 : Hid (Grow wr w2) := hb2
      have HZ := Lib.hid hz
      have hxc2 := HG2.out.cell HXC.out
      clear hb2 hz hxc
      by_cases hzn : z < 0
      · have hdz : decide (z < 0) = true := decide_eq_true hzn
        have HS2 : Hid (leastTo k (gs.take (j + 1)) g0 = x) := Lib.hid (by rw [HS.out, if_pos (HZ.out.1 hzn)])
        clear hzn
        go_wp2_with fail
        go_roundw
        case rel => exact ⟨j + 1, by omega, by go_num, by rw [HS2.out], Lib.hid (HG.out.trans HG2.out)⟩
        case measure => simp [intOf]; omega
      · have hdz : decide (z < 0) = false := decide_eq_false hzn
        have HS2 : Hid (leastTo k (gs.take (j + 1)) g0 = m) := Lib.hid (by rw [HS.out, if_neg (fun q => hzn (HZ.out.2 q))])
        clear hzn
        go_wp2_with fail
        go_roundw
        case rel => exact ⟨j + 1, by omega, by go_num, by rw [HS2.out], Lib.hid (HG.out.trans HG2.out)⟩
        case measure => simp [intOf]; omega
    · obtain rfl : j = gs.length := by omega
      have hd : decide (((gs.length + 1 : Nat) : Int) < ((gs.length : Int) + 1)) = false := decide_eq_false (by omega)
      rw [List.take_length]
      go_wp2_with fail
      go_ret
      exact ⟨rfl, HG.out⟩

/-- what Slot answers -/
def slotG (p : Pool) (s : Nat) : Nat := match minL (keyD p) (coveringD p s) with
  | none => 0
  | some g => g
def slotC (p : Pool) (s : Nat) : Nat := match minL (keyD p) (coveringD p s) with
  | none => 0
  | some g => costD p g
def slotE (p : Pool) (s : Nat) : Int := match minL (keyD p) (coveringD p s) with
  | none => 3
  | some _ => 0
theorem results_456 {fn : Func} (h : fn.results = #[.tmp 4, .tmp 5, .tmp 6]) (t : Array Value) (W : World) (u v x : Value) (h4 : t.getD 4 undef = u) (h5 : t.getD 5 undef = v) (h6 : t.getD 6 undef = x) :
    (results fn t).run Try.prog W = .ok (.tuple #[u, v, x]) W := by
  simp only [results, h]
  simp at h4 h5 h6
  simp [go_sem, h4, h5, h6]
theorem smallI_of {p : Pool} (G : Good p) : smallI p.i := by
  have h5 := G.f5
  have h3 := G.n3
  have ht := G.t3
  refine ⟨by show (List.map _ _).length ≤ 5; rw [List.length_map]; exact h5, by show (List.map _ _).length ≤ 3; rw [List.length_map]; exact h3, ?_⟩
  have e : tnI p.i = p.tn := by
    unfold tnI Pool.tn Pool.row
    show ((p.needs.map natsL).getD 0 []).length = _
    rw [List.getD_eq_getElem?_getD, List.getD_eq_getElem?_getD, List.getElem?_map]
    cases p.needs[0]? with
    | none => rfl
    | some r => exact natsL_length r
  omega
theorem cover_len (p : Pool) (s : Nat) : ∀ (r l : List Nat), (r.foldl (coverStep p s) l).length ≤ l.length + r.length
  | [], l => by simp
  | g :: r, l => by
    rw [List.foldl_cons]
    have h := cover_len p s r (coverStep p s l g)
    have h2 : (coverStep p s l g).length ≤ l.length + 1 := by
      unfold coverStep
      split
      · omega
      · split
        · simp
        · omega
    rw [List.length_cons]
    omega
theorem covering_len {p : Pool} (G : Good p) (s : Nat) : (coveringD p s).length ≤ 32 := by
  have h := cover_len p s (subsL (ableD p s)) []
  have h2 : (subsL (ableD p s)).length ≤ ableD p s + 1 := by
    unfold subsL
    have := List.length_filter_le (fun x => subN x (ableD p s)) (List.range (ableD p s + 1))
    rwa [List.length_range] at this
  have h3 := able_32 G s
  unfold coveringD
  simp only [List.length_nil] at h
  omega
theorem nats_cons (g : Nat) (gs : List Nat) : natsL (g :: gs) = (g : Int) :: natsL gs := rfl
set_option maxRecDepth 100000 in
set_option maxHeartbeats 8000000 in
theorem slotApi_any (h : PoolH) (p : Pool) (G : Good p) (hok : okPool p.i = true) (hs : Short p.i) (s : Nat) (w : World) (hA : PoolAt w w.heap.size h p.i) (hsn : s < p.needs.length) :
    Calls Try.prog 27 #[poolN h p, .int .i64 (s : Nat)] w fun e w' => e = .returned (.tuple #[.int .i64 (slotG p s : Nat), .int .i64 (slotC p s : Nat), .int .i64 (slotE p s)]) ∧ Below w.heap.size w w' := by
  have hf5 := G.f5
  have hn3 := G.n3
  have hse : slotErr p.i s = 0 := by
    unfold slotErr
    rw [hok, if_pos rfl, if_pos]
    refine inB_iff.2 ⟨by omega, ?_⟩
    show (s : Int) ≤ ((List.map natsL p.needs).length : Int) - 1
    rw [List.length_map]
    omega
  have HRS := Lib.hid (fun (w0 : World) (hw : Grow w w0) => readSlot_any h p.i s w0 (hA.grow hw) hs (fun _ => smallI_of G))
  have hsc : slotCells h p.i s = cellsN h p := by unfold slotCells; rw [hse, if_pos rfl, cells_i]
  simp only [hse, hsc, pool_i] at HRS
  have HCV := Lib.hid (fun (w0 : World) (hP : PoolAt w0 w0.heap.size h p.i) => covering_any h p G s w0 hP hsn)
  have HPA := Lib.hid (fun (w0 : World) (hw : Grow w w0) => hA.grow hw)
  have HC32 := Lib.hid (fun x (hx : x ∈ coveringD p s) => sub_32 (able_32 G s) ((covering_all p s).1 x hx).1)
  have HCO := Lib.hid (fun (g : Nat) (hg : g < 32) (w0 : World) (hP : PoolAt w0 w0.heap.size h p.i) => cost_any h p G g w0 hP (by omega))
  have HCM := Lib.hid (fun (xb a b : Nat) (ha : a < 32) (hb : b < 32) (w0 : World) (hP : PoolAt w0 w0.heap.size h p.i) (hX : BlockIs w0 xb 73 (cellsN h p)) => slotCmp_any h p G xb a b ha hb w0 hP hX)
  have hcl : (coveringD p s).length ≤ 32 := covering_len G s
  obtain ⟨PO, hPO⟩ : ∃ z : Ending → World → Prop, (fun e w' => e = Ending.returned (.tuple #[.int .i64 (slotG p s : Nat), .int .i64 (slotC p s : Nat), .int .i64 (slotE p s)]) ∧ Below w.heap.size w w') = z := ⟨_, rfl⟩
  have HPO : Hid (∀ w', Below w.heap.size w w' → PO (Ending.returned (.tuple #[.int .i64 (slotG p s : Nat), .int .i64 (slotC p s : Nat), .int .i64 (slotE p s)])) w') := Lib.hid (fun w' h1 => by rw [← hPO]; exact ⟨rfl, h1⟩)
  unfold slotG slotC slotE at HPO
  rw [hPO]
  clear hok hA hs hse hsc hPO
  obtain ⟨L, hL⟩ : ∃ z, coveringD p s = z := ⟨_, rfl⟩
  rw [hL] at HCV HC32 HPO hcl
  clear hL
  obtain ⟨fa, fc, na, nc⟩ := h
  go_enter Try.func27, Try.ntmps27
  go_upto_region 1 with fail
  obtain ⟨W, hW, hg, hf, hsz⟩ := one_block w 25 (cellsN ⟨fa, fc, na, nc⟩ p)
  rw [hW]
  clear hW
  have hcc := hf.cell
  have HG := Lib.hid hg
  clear hf hg
  go_wp2_with fail
  refine (HRS.out W HG.out).mono ?_
  rintro e w1 ⟨rfl, hb1⟩
  have HG1 : Hid (Grow w w1) := Lib.hid (HG.out.trans hb1)
  clear hb1 hcc
  go_upto_region 2 with fail
  obtain ⟨W2, hW2, hg2, hf2, hsz2⟩ := one_block w1 73 (cellsN ⟨fa, fc, na, nc⟩ p)
  rw [hW2]
  clear hW2
  obtain ⟨xb, hxb⟩ : ∃ z, w1.heap.size = z := ⟨_, rfl⟩
  rw [hxb] at hf2 hsz2 ⊢
  have HX2 := Lib.hid hf2
  have hcc := hf2.cell
  have HG2 : Hid (Grow w W2) := Lib.hid (HG1.out.trans hg2)
  clear hf2 hg2 HG1 hxb
  go_wp2_with fail
  refine (HCV.out W2 (HPA.out W2 HG2.out)).mono ?_
  rintro e w3 ⟨A, cap, rfl, ht3, hb3⟩
  have HG3 : Hid (Grow W2 w3) := hb3
  have HI3 := Lib.hid ht3.ints
  have HX3 := Lib.hid (HG3.out.block HX2.out)
  have hxb3 : xb < w3.heap.size := HX3.out.lt
  clear ht3 hb3 hcc HX2
  have HGW : Hid (Grow w w3) := Lib.hid (HG2.out.trans HG3.out)
  cases L with
  | nil =>
    go_wp2
    exact bodyPost_ret (results_456 Try.results27 _ _ _ _ _ rfl rfl rfl) rfl (HPO.out _ HGW.out)
  | cons g gs =>
    have hl1 : (((gs.length : Int) + 1) == 0) = false := by simp; omega
    have HLM : Hid (leastTo (keyD p) gs g ∈ g :: gs) := Lib.hid (by
      rcases leastTo_mem (keyD p) gs g with h | h
      · rw [h]; simp
      · exact List.mem_cons_of_mem _ h)
    have HMF := Lib.hid (minFunc_any A cap g gs (keyD p) (.pointer (some ⟨xb, 0, none⟩)) w3 HI3.out (by simp at hcl; omega) (fun a b w0 ha hb hw => HCM.out xb a b (HC32.out a ha) (HC32.out b hb) w0 ((HPA.out w3 HGW.out).grow hw) (hw.block HX3.out)))
    have HM32 := Lib.hid (HC32.out _ HLM.out)
    simp only [minL] at HPO
    obtain ⟨m, hm⟩ : ∃ z, leastTo (keyD p) gs g = z := ⟨_, rfl⟩
    rw [hm] at HMF HM32 HPO
    clear hm HLM
    simp only [List.length_cons]
    go_upto_region 7 with fail
    go_wp2_with fail
    refine HMF.out.mono ?_
    rintro e w4 ⟨rfl, hb4⟩
    have HG4 : Hid (Grow w3 w4) := hb4
    have hcc := (HG4.out.block HX3.out).cell
    clear hb4
    go_wp2_with fail
    refine (HCO.out m HM32.out w4 (HPA.out w4 (HGW.out.trans HG4.out))).mono ?_
    rintro e w5 ⟨rfl, hb5⟩
    have HG5 : Hid (Grow w w5) := Lib.hid ((HGW.out.trans HG4.out).trans hb5)
    clear hb5 hcc
    go_wp2
    exact bodyPost_ret (results_456 Try.results27 _ _ _ _ _ rfl rfl rfl) rfl (HPO.out _ HG5.out)

end Go.Proofs.Ytcgnibfcjadnjaa
