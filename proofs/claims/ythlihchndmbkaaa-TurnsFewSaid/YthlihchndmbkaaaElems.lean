/- Elems: the elements of a set of hands, by the program and by the specification. -/
import Derived.Test.YthlihchndmbkaaaEveryM
import Derived.Test.YthlihchndmbkaaaExtM
namespace Go.Proofs.Ythlihchndmbkaaa
open Go.RowKit

def elemsTo (s i : Nat) : List Nat := (List.range i).filter fun j => decide (s / 2 ^ j % 2 = 1)
theorem elemsTo_all (s : Nat) : elemsTo s 3 = elemsD s := rfl
theorem elemsTo_in {s i : Nat} (h : s / 2 ^ i % 2 = 1) : elemsTo s (i + 1) = elemsTo s i ++ [i] := by
  unfold elemsTo
  rw [List.range_succ, List.filter_append]
  simp [h]
theorem elemsTo_out {s i : Nat} (h : ¬ s / 2 ^ i % 2 = 1) : elemsTo s (i + 1) = elemsTo s i := by
  unfold elemsTo
  rw [List.range_succ, List.filter_append]
  simp [h]
theorem elemsTo_end {s i : Nat} (hi : i ≤ 3) (h : s / 2 ^ i = 0) : elemsTo s i = elemsD s := by
  have z : ∀ j, i ≤ j → ¬ s / 2 ^ j % 2 = 1 := fun j hj => by
    have : s / 2 ^ j = 0 := by
      have h1 : s < 2 ^ i := by
        rcases Nat.div_eq_zero_iff.1 h with h | h
        · have := Nat.pow_pos (n := i) (show 0 < 2 by omega); omega
        · exact h
      exact Nat.div_eq_of_lt (Nat.lt_of_lt_of_le h1 (Nat.pow_le_pow_right (by omega) hj))
    rw [this]
    omega
  rw [← elemsTo_all]
  match i, hi with
  | 3, _ => rfl
  | 2, _ => exact (elemsTo_out (z 2 (by omega))).symm
  | 1, _ => rw [show elemsTo s 3 = elemsTo s 2 from elemsTo_out (z 2 (by omega))]; exact (elemsTo_out (z 1 (by omega))).symm
  | 0, _ => rw [show elemsTo s 3 = elemsTo s 2 from elemsTo_out (z 2 (by omega)), show elemsTo s 2 = elemsTo s 1 from elemsTo_out (z 1 (by omega))]; exact (elemsTo_out (z 0 (by omega))).symm
theorem elemsTo_len (s i : Nat) : (elemsTo s i).length ≤ i := by
  unfold elemsTo
  exact Nat.le_trans (List.length_filter_le _ _) (by simp)
theorem int_div (s i : Nat) : (s : Int) / 2 ^ i = ((s / 2 ^ i : Nat) : Int) := by
  rw [Int.natCast_ediv, Int.natCast_pow]
  rfl
theorem bit_val (s i : Nat) (hs : s < 8) : bits .and .i64 ((s : Int) / 2 ^ i) 1 = ((s / 2 ^ i % 2 : Nat) : Int) := by
  have h := Nat.div_le_self s (2 ^ i)
  rw [int_div]
  generalize s / 2 ^ i = q at h ⊢
  rw [and_one (by omega) (by omega)]
  omega

set_option maxRecDepth 100000 in
set_option maxHeartbeats 4000000 in
theorem elements_any (s : Nat) (w : World) (hs : s < 8) :
    Calls Try.prog 69 #[.int .i64 (s : Nat)] w fun e w' => ∃ A cap, e = .returned (.slice A (elemsD s).length cap) ∧ w'.ownsRow w.heap.size 3 1 (.slice A (elemsD s).length cap) (elemsD s).length ((natsL (elemsD s)).map (Value.int .i64)) ∧ Below w.heap.size w w' := by
  obtain ⟨i0, hi, hz0, hz1, hz2⟩ := info_parts Try.infoInt
  go_enter Try.func69, Try.ntmps69
  go_wp2
  go_loopw [3, 4] (fun v iv wr => ∃ (i : Nat) (A : Option Addr) (cap n : Nat), i ≤ 3 ∧ iv = .int .i64 i ∧ v = .slice A n cap ∧ Hid (n = (elemsTo s i).length) ∧ n ≤ 3 ∧ wr.ownsRow w.heap.size 3 1 (.slice A n cap) n ((natsL (elemsTo s i)).map (Value.int .i64)) ∧ Grow w wr) (fun _ v _ => 3 - (intOf v).toNat)
  case atStart => exact ⟨0, none, 0, 0, by omega, rfl, rfl, rfl, by omega, own_nil _ _ _, Grow.refl _⟩
  case round =>
    obtain ⟨i, A, cap, n, hi3, rfl, rfl, HN, hn3, hown, hgr⟩ := hrel
    rename World => wr
    have HOW := Lib.hid hown
    have HGR := Lib.hid hgr
    have HS := Lib.hid hs
    clear hown hgr
    have hb := bit_val s i hs
    by_cases hlt : 0 < s / 2 ^ i
    · have hq : (0 : Int) < (s : Int) / 2 ^ i := by rw [int_div]; generalize s / 2 ^ i = q at hlt; omega
      have hqd : decide ((0 : Int) < (s : Int) / 2 ^ i) = true := decide_eq_true hq
      have hi2 : i < 3 := by
        rcases Nat.lt_or_ge i 3 with h | h
        · exact h
        · obtain rfl : i = 3 := by omega
          rw [show s / 2 ^ 3 = 0 from Nat.div_eq_of_lt (by omega)] at hlt
          omega
      clear hq hlt
      by_cases hbit : s / 2 ^ i % 2 = 1
      · have hb1 : bits .and .i64 ((s : Int) / 2 ^ i) 1 = 1 := by rw [hb, hbit]; rfl
        have HIN := Lib.hid (elemsTo_in hbit)
        have HOW2 := Lib.hid (own_grow HOW.out (Grow.alloc wr (.cells #[.int .i64 i] 3)))
        clear hb hbit hs
        go_wp2_with (at_builtin; go_loud (refine wpList_append_own _ rfl _ _ 23 rfl w.heap.size 3 i0 (.int .i64 0) 1 8 Try.underlying23 hi hz0 hz1 hz2 rfl (by omega) _ n ((natsL (elemsTo s i)).map (Value.int .i64)) rfl ?d0 ⟨wr.heap.size, 0, none⟩ 1 1 [.int .i64 i] rfl rfl ?d1 ?d2 ?d3 ?d4 ?d5 ?_))
        case d0 => exact HOW2.out
        case d1 => exact news_one (BlockIs.new _ _ _)
        case d2 => simp [Value.oneCell']
        case d3 => unfold maxLen; omega
        case d4 => omega
        case d5 => have := HGR.out.size; simp; omega
        intro v' w3 hown hgr _
        obtain ⟨Aw, cw, rfl⟩ := own_form hown
        have HOW3 : Hid (w3.ownsRow w.heap.size 3 1 (.slice Aw (n + 1) cw) (n + 1) ((natsL (elemsTo s (i + 1))).map (Value.int .i64))) := Lib.hid (by
          rw [HIN.out, ← natsL_snoc, List.map_append]
          simpa using hown)
        have HG3 : Hid (Grow w w3) := Lib.hid (below_grown (HGR.out.trans (Grow.alloc _ _)) HOW2.out hgr (by have := HGR.out.size; simp; omega))
        have HN3 : Hid (n + 1 = (elemsTo s (i + 1)).length) := Lib.hid (by rw [HIN.out, List.length_append, ← HN.out]; rfl)
        have hn4 : n + 1 ≤ 3 := by have h1 := HN3.out; have h2 := elemsTo_len s (i + 1); omega
        clear hown hgr HOW2
        go_wp2
        go_roundw
        case rel => exact ⟨i + 1, Aw, cw, n + 1, by omega, by go_num, rfl, HN3.out, hn4, HOW3.out, HG3.out⟩
        case measure => simp [intOf]; omega
      · have hb0 : bits .and .i64 ((s : Int) / 2 ^ i) 1 = 0 := by rw [hb, show s / 2 ^ i % 2 = 0 by omega]; rfl
        have HOUT := Lib.hid (elemsTo_out hbit)
        clear hb hbit hs
        go_wp2
        go_roundw
        case rel => exact ⟨i + 1, A, cap, n, by omega, by go_num, rfl, by rw [HOUT.out]; exact HN.out, hn3, by rw [HOUT.out]; exact HOW.out, HGR.out⟩
        case measure => simp [intOf]; omega
    · have hq : ¬ (0 : Int) < (s : Int) / 2 ^ i := by rw [int_div]; generalize s / 2 ^ i = q at hlt; omega
      have hqd : decide ((0 : Int) < (s : Int) / 2 ^ i) = false := decide_eq_false hq
      have HE := Lib.hid (elemsTo_end (s := s) hi3 (Nat.eq_zero_of_not_pos hlt))
      clear hq hlt
      clear hb hs
      go_wp2
      go_ret
      have hnn : n = (elemsD s).length := by rw [← HE.out]; exact HN.out
      refine ⟨A, cap, by rw [← hnn]; rfl, ?_, HGR.out⟩
      rw [← hnn, ← HE.out]
      exact HOW.out

set_option maxRecDepth 100000 in
set_option maxHeartbeats 4000000 in
theorem members_any (s : Nat) (w : World) (hs : s < 8) :
    Calls Try.prog 57 #[.int .i64 (s : Nat)] w fun e w' => ∃ A cap, e = .returned (.slice A (elemsD s).length cap) ∧ w'.ownsRow w.heap.size 3 1 (.slice A (elemsD s).length cap) (elemsD s).length ((natsL (elemsD s)).map (Value.int .i64)) ∧ Below w.heap.size w w' := by
  obtain ⟨i0, hi, hz0, hz1, hz2⟩ := info_parts Try.infoInt
  go_enter Try.func57, Try.ntmps57
  go_wp2
  go_loopw [3, 4] (fun v iv wr => ∃ (i : Nat) (A : Option Addr) (cap n : Nat), i ≤ 3 ∧ iv = .int .i64 i ∧ v = .slice A n cap ∧ Hid (n = (elemsTo s i).length) ∧ n ≤ 3 ∧ wr.ownsRow w.heap.size 3 1 (.slice A n cap) n ((natsL (elemsTo s i)).map (Value.int .i64)) ∧ Grow w wr) (fun _ v _ => 3 - (intOf v).toNat)
  case atStart => exact ⟨0, none, 0, 0, by omega, rfl, rfl, rfl, by omega, own_nil _ _ _, Grow.refl _⟩
  case round =>
    obtain ⟨i, A, cap, n, hi3, rfl, rfl, HN, hn3, hown, hgr⟩ := hrel
    rename World => wr
    have HOW := Lib.hid hown
    have HGR := Lib.hid hgr
    have HS := Lib.hid hs
    clear hown hgr
    have hb := bit_val s i hs
    by_cases hlt : i < 3
    · have hld : decide ((i : Int) < 3) = true := decide_eq_true (by omega)
      by_cases hbit : s / 2 ^ i % 2 = 1
      · have hb1 : bits .and .i64 ((s : Int) / 2 ^ i) 1 = 1 := by rw [hb, hbit]; rfl
        have HIN := Lib.hid (elemsTo_in hbit)
        have HOW2 := Lib.hid (own_grow HOW.out (Grow.alloc wr (.cells #[.int .i64 i] 3)))
        clear hb hbit hs
        go_wp2_with (at_builtin; go_loud (refine wpList_append_own _ rfl _ _ 23 rfl w.heap.size 3 i0 (.int .i64 0) 1 8 Try.underlying23 hi hz0 hz1 hz2 rfl (by omega) _ n ((natsL (elemsTo s i)).map (Value.int .i64)) rfl ?d0 ⟨wr.heap.size, 0, none⟩ 1 1 [.int .i64 i] rfl rfl ?d1 ?d2 ?d3 ?d4 ?d5 ?_))
        case d0 => exact HOW2.out
        case d1 => exact news_one (BlockIs.new _ _ _)
        case d2 => simp [Value.oneCell']
        case d3 => unfold maxLen; omega
        case d4 => omega
        case d5 => have := HGR.out.size; simp; omega
        intro v' w3 hown hgr _
        obtain ⟨Aw, cw, rfl⟩ := own_form hown
        have HOW3 : Hid (w3.ownsRow w.heap.size 3 1 (.slice Aw (n + 1) cw) (n + 1) ((natsL (elemsTo s (i + 1))).map (Value.int .i64))) := Lib.hid (by
          rw [HIN.out, ← natsL_snoc, List.map_append]
          simpa using hown)
        have HG3 : Hid (Grow w w3) := Lib.hid (below_grown (HGR.out.trans (Grow.alloc _ _)) HOW2.out hgr (by have := HGR.out.size; simp; omega))
        have HN3 : Hid (n + 1 = (elemsTo s (i + 1)).length) := Lib.hid (by rw [HIN.out, List.length_append, ← HN.out]; rfl)
        have hn4 : n + 1 ≤ 3 := by have h1 := HN3.out; have h2 := elemsTo_len s (i + 1); omega
        clear hown hgr HOW2
        go_wp2
        go_roundw
        case rel => exact ⟨i + 1, Aw, cw, n + 1, by omega, by go_num, rfl, HN3.out, hn4, HOW3.out, HG3.out⟩
        case measure => simp [intOf]; omega
      · have hb0 : bits .and .i64 ((s : Int) / 2 ^ i) 1 = 0 := by rw [hb, show s / 2 ^ i % 2 = 0 by omega]; rfl
        have HOUT := Lib.hid (elemsTo_out hbit)
        clear hb hbit hs
        go_wp2
        go_roundw
        case rel => exact ⟨i + 1, A, cap, n, by omega, by go_num, rfl, by rw [HOUT.out]; exact HN.out, hn3, by rw [HOUT.out]; exact HOW.out, HGR.out⟩
        case measure => simp [intOf]; omega
    · obtain rfl : i = 3 := by omega
      have HE := Lib.hid (elemsTo_all s)
      clear hlt
      clear hb hs
      go_wp2
      go_ret
      have hnn : n = (elemsD s).length := by rw [← HE.out]; exact HN.out
      refine ⟨A, cap, by rw [← hnn]; rfl, ?_, HGR.out⟩
      rw [← hnn, ← HE.out]
      exact HOW.out

end Go.Proofs.Ythlihchndmbkaaa
