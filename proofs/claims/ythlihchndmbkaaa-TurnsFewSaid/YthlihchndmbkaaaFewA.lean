/- FewA: TurnsFew, where there is nothing to find. -/
import Derived.Test.YthlihchndmbkaaaFewL
import Derived.Test.YthlihchndmbkaaaPlan
import Derived.Test.YthlihchndmbkaaaKeep
namespace Go.Proofs.Ythlihchndmbkaaa
open Go.RowKit

set_option maxRecDepth 100000 in
set_option maxHeartbeats 16000000 in
theorem few_early (t : TaskR) (most other : Int) (w : World) (ht : TaskAt w w.heap.size t) (hob : other < 9223372036854775808) (hP : ¬ (validD t.d = true ∧ 0 ≤ most)) :
    Calls Try.prog 7 #[taskV t, .int .i64 most, .int .i64 other] w fun e w' => e = .returned (.bool true) ∧ Below w.heap.size w w' := by
  have HWK := Lib.hid works_any
  have HVA := Lib.hid (fun (w0 : World) (hw : Grow w w0) => valid_any t w.heap.size w0 (ht.below hw) hw.size)
  have HNO := Lib.hid hP
  clear hP
  cases hv : validD t.d
  · rw [hv] at HVA
    clear HNO hv ht
    go_enter Try.func7, Try.ntmps7
    go_upto_region 1 with fail
    obtain ⟨W, hW, hg, hf, hsz⟩ := one_block w 25 (cellsT t)
    rw [hW]
    clear hW
    have htc := hf.cell
    have HG := Lib.hid hg
    clear hf hg
    go_wp2_with fail
    refine (HVA.out _ HG.out).mono ?_
    rintro e w2 ⟨rfl, hb2⟩
    have HG2 : Hid (Grow W w2) := hb2
    clear htc hb2
    go_wp2_with fail
    refine (HWK.out _).mono ?_
    rintro e w6 ⟨rfl, hbw6⟩
    have HGw6 : Hid (Grow W w6) := HG2.out.trans hbw6
    clear hbw6
    go_wp2
    go_ret
    exact ⟨rfl, HG.out.trans HGw6.out⟩
  · have hmd : decide (most < 0) = true := decide_eq_true (by have : ¬ 0 ≤ most := fun h => HNO.out ⟨hv, h⟩; omega)
    rw [hv] at HVA
    clear HNO hv ht
    go_enter Try.func7, Try.ntmps7
    go_upto_region 1 with fail
    obtain ⟨W, hW, hg, hf, hsz⟩ := one_block w 25 (cellsT t)
    rw [hW]
    clear hW
    have htc := hf.cell
    have HG := Lib.hid hg
    clear hf hg
    go_wp2_with fail
    refine (HVA.out _ HG.out).mono ?_
    rintro e w2 ⟨rfl, hb2⟩
    have HG2 : Hid (Grow W w2) := hb2
    clear htc hb2
    go_wp2_with fail
    refine (HWK.out _).mono ?_
    rintro e w6 ⟨rfl, hbw6⟩
    have HGw6 : Hid (Grow W w6) := HG2.out.trans hbw6
    clear hbw6
    go_wp2
    go_ret
    exact ⟨rfl, HG.out.trans HGw6.out⟩


set_option maxRecDepth 100000 in
set_option maxHeartbeats 16000000 in
theorem few_none (t : TaskR) (most other : Int) (w : World) (ht : TaskAt w w.heap.size t) (hob : other < 9223372036854775808) (hv : validD t.d = true) (hm : 0 ≤ most) (hfd : fewD t.d most = none) :
    Calls Try.prog 7 #[taskV t, .int .i64 most, .int .i64 other] w fun e w' => e = .returned (.bool true) ∧ Below w.heap.size w w' := by
  have HWK := Lib.hid works_any
  have HVA := Lib.hid (fun (w0 : World) (hw : Grow w w0) => valid_any t w.heap.size w0 (ht.below hw) hw.size)
  obtain ⟨hk, _⟩ := validD_iff.1 hv
  rw [hv] at HVA
  obtain ⟨i0, hi, hz0, hz1, hz2⟩ := info_parts Try.infoInt
  have hparts := okTask_parts hk
  have hn1 := hparts.1.1
  have hn3 := hparts.1.2
  have hmd : decide (most < 0) = false := decide_eq_false (by omega)
  have HOB := Lib.hid hob
  have HHA := Lib.hid (fun (w0 : World) (hw : Grow w w0) => handsApi_any t most w.heap.size w0 (ht.below hw) hw.size)
  have HPA : Hid (∀ (w0 : World), Grow w w0 → Ints w0 w0.heap.size t.B t.d.parts) := Lib.hid (fun w0 hw => (ht.2.below hw).more hw.size)
  have HFI := few_facts t.d most
  have hes : ∀ s, s < 2 ^ t.d.hands.length → ∀ x ∈ elemsD s, x < t.d.hands.length := fun s hs x hx => elems_hand hn3 hs hx
  have hp8 := pow_cases hn1 hn3
  have HWITH := Lib.hid (fun (s : Nat) (h1 : 1 ≤ s) (hs : s < 2 ^ t.d.hands.length) => And.intro
    (fun (A : Option Addr) (c : Nat) (w0 : World) (hw : Grow w w0) (hi : Ints w0 w0.heap.size A (natsL (elemsD s))) => rWith_any t (elemsD s) A c w0.heap.size w0 ((ht.below hw).more hw.size) hi (Nat.le_refl _) hk (hes s hs) (elems_len s))
    (fun (A : Option Addr) (ca : Nat) (w0 : World) (hu : TaskAt w0 w0.heap.size ⟨withT t.d (elemsD s), A, ca, t.B, t.cb⟩) => planWith t (elemsD s) A ca w0 hu (with_ok hk (hes s hs) (elems_ne h1 (by omega)) (elems_len s))))
  have HHV : Hid (∀ {v er w}, HandsV t.d most v er w → FewR w v (fewD t.d most) ∧ er = (if (fewD t.d most).isSome = true then 0 else 3)) := fun h => by
    unfold HandsV at h
    rwa [if_pos (mostErr_ok hk hm)] at h
  rw [hfd] at HHV HFI
  have HCAN := Lib.hid (fun (s : Nat) (h1 : 1 ≤ s) (hs : s < 2 ^ t.d.hands.length) (ys : List Int) (k : Int) (hp : planD (withT t.d (elemsD s)) = some (ys, k)) (hkm : k ≤ most) => (by
    have h := HFI s h1 hs
    rw [cand_of hp hkm] at h
    exact h : (some (elemsD s, k) : Option (List Nat × Int)) = none))
  obtain ⟨nn, hnn⟩ : ∃ q, t.d.hands.length = q := ⟨_, rfl⟩
  have HNN := Lib.hid hnn
  rw [hnn] at HWITH HCAN hn1 hn3
  clear ht hv hk hparts hm HFI hes hp8 hnn hob
  go_enter Try.func7, Try.ntmps7
  go_upto_region 1 with fail
  obtain ⟨W, hW, hg, hf, hsz⟩ := one_block w 25 (cellsT t)
  rw [hW]
  clear hW
  have htc := hf.cell
  have HF := Lib.hid hf
  have HG := Lib.hid hg
  clear hf hg
  go_wp2_with fail
  refine (HVA.out _ HG.out).mono ?_
  rintro e w2 ⟨rfl, hb2⟩
  have HG2 : Hid (Grow W w2) := hb2
  clear htc hb2
  have htc := (HG2.out.block HF.out).cell
  go_wp2_with fail
  refine (HHA.out _ (HG.out.trans HG2.out)).mono ?_
  rintro e w3 ⟨v, er, rfl, hhv, hb3⟩
  obtain ⟨rfl, rfl⟩ := HHV.out hhv
  have HG3 : Hid (Grow W w3) := HG2.out.trans hb3
  clear htc hb3 hhv
  have hnl : decide ((nn : Int) < 0) = false := decide_eq_false (by omega)
  have htc0 : w3.cell? ⟨w.heap.size, 0, none⟩ = some (.slice t.A nn t.ca) := by rw [← HNN.out]; exact (HG3.out.block HF.out).cell 0
  go_upto_region 17 with fail
  clear htc0
  have htc0 : w3.cell? ⟨w.heap.size, 0, none⟩ = some (.slice t.A nn t.ca) := by rw [← HNN.out]; exact (HG3.out.block HF.out).cell 0
  go_wp2_with fail
  go_loopw [14, 15] (fun v iv wr => ∃ (i : Nat) (A : Option Addr) (cap n : Nat), i ≤ nn ∧ iv = .int .i64 i ∧ v = .slice A n cap ∧ Hid (n = (elemsTo other.toNat i).length) ∧ n ≤ 3 ∧ wr.ownsRow w3.heap.size 3 1 (.slice A n cap) n ((natsL (elemsTo other.toNat i)).map (Value.int .i64)) ∧ Grow w3 wr) (fun _ v _ => nn - (intOf v).toNat)
  case atStart => exact ⟨0, none, 0, 0, by omega, rfl, rfl, rfl, by omega, own_nil _ _ _, Grow.refl _⟩
  case round =>
    obtain ⟨i, A, cap, n, hi3, rfl, rfl, HN, hq3, hown, hgr⟩ := hrel
    rename World => wr
    have HOW := Lib.hid hown
    have HGR := Lib.hid hgr
    clear hown hgr htc0
    have htc0 : wr.cell? ⟨w.heap.size, 0, none⟩ = some (.slice t.A nn t.ca) := by rw [← HNN.out]; exact ((HG3.out.trans HGR.out).block HF.out).cell 0
    by_cases hlt : i < nn
    · have hld : decide ((i : Int) < (nn : Int)) = true := decide_eq_true (by omega)
      have hldn : decide (i < nn) = true := decide_eq_true hlt
      by_cases hbit : other.toNat / 2 ^ i % 2 = 1
      · have ho0 : 0 ≤ other := by
          rcases Int.lt_or_le other 0 with h | h
          · rw [Int.toNat_of_nonpos (by omega), Nat.zero_div] at hbit
            omega
          · exact h
        have hod : decide ((0 : Int) ≤ other) = true := decide_eq_true ho0
        have hb1 : bits .and .i64 (other / 2 ^ i) 1 = 1 := by rw [bit_big i ho0 HOB.out, hbit]; rfl
        have HIN := Lib.hid (elemsTo_in hbit)
        have HOW2 := Lib.hid (own_grow HOW.out (Grow.alloc wr (.cells #[.int .i64 i] 3)))
        clear hbit ho0
        go_wp2_with (at_builtin; go_loud (refine wpList_append_own _ rfl _ _ 23 rfl w3.heap.size 3 i0 (.int .i64 0) 1 8 Try.underlying23 hi hz0 hz1 hz2 rfl (by omega) _ n ((natsL (elemsTo other.toNat i)).map (Value.int .i64)) rfl ?d0 ⟨wr.heap.size, 0, none⟩ 1 1 [.int .i64 i] rfl rfl ?d1 ?d2 ?d3 ?d4 ?d5 ?_))
        case d0 => exact HOW2.out
        case d1 => exact news_one (BlockIs.new _ _ _)
        case d2 => simp [Value.oneCell']
        case d3 => unfold maxLen; omega
        case d4 => omega
        case d5 => have := HGR.out.size; simp; omega
        intro v' wq hown hgr _
        obtain ⟨Aw, cw, rfl⟩ := own_form hown
        have HOW3 : Hid (wq.ownsRow w3.heap.size 3 1 (.slice Aw (n + 1) cw) (n + 1) ((natsL (elemsTo other.toNat (i + 1))).map (Value.int .i64))) := Lib.hid (by
          rw [HIN.out, ← natsL_snoc, List.map_append]
          simpa using hown)
        have HGQ : Hid (Grow w3 wq) := Lib.hid (below_grown (HGR.out.trans (Grow.alloc _ _)) HOW2.out hgr (by have := HGR.out.size; simp; omega))
        have HN3 : Hid (n + 1 = (elemsTo other.toNat (i + 1)).length) := Lib.hid (by rw [HIN.out, List.length_append, ← HN.out]; rfl)
        have hn4 : n + 1 ≤ 3 := by have h1 := HN3.out; have h2 := elemsTo_len other.toNat (i + 1); omega
        clear hown hgr HOW2 htc0
        go_wp2
        go_roundw
        case rel => exact ⟨i + 1, Aw, cw, n + 1, by omega, by go_num, rfl, HN3.out, hn4, HOW3.out, HGQ.out⟩
        case measure => simp [intOf]; omega
      · have HOUT := Lib.hid (elemsTo_out hbit)
        rcases Int.lt_or_le other 0 with ho0 | ho0
        · have hod : decide ((0 : Int) ≤ other) = false := decide_eq_false (by omega)
          clear hbit ho0
          go_wp2
          go_roundw
          case rel => exact ⟨i + 1, A, cap, n, by omega, by go_num, rfl, by rw [HOUT.out]; exact HN.out, hq3, by rw [HOUT.out]; exact HOW.out, HGR.out⟩
          case measure => simp [intOf]; omega
        · have hod : decide ((0 : Int) ≤ other) = true := decide_eq_true ho0
          have hb0 : bits .and .i64 (other / 2 ^ i) 1 = 0 := by rw [bit_big i ho0 HOB.out, show other.toNat / 2 ^ i % 2 = 0 by omega]; rfl
          clear hbit ho0
          go_wp2
          go_roundw
          case rel => exact ⟨i + 1, A, cap, n, by omega, by go_num, rfl, by rw [HOUT.out]; exact HN.out, hq3, by rw [HOUT.out]; exact HOW.out, HGR.out⟩
          case measure => simp [intOf]; omega
    · obtain rfl : nn = i := by omega
      have hld : decide ((nn : Int) < (nn : Int)) = false := by simp
      have hldn : decide (nn < nn) = false := by simp
      have HGO : Hid (Grow W wr) := Lib.hid (HG3.out.trans HGR.out)
      by_cases hz : n = 0
      · subst hz
        clear hlt hq3 HN HOW
        go_wp2_with fail
        refine (HWK.out _).mono ?_
        rintro e wx ⟨rfl, hbwx⟩
        have HGwx : Hid (Grow W wx) := HGO.out.trans hbwx
        clear hbwx
        go_wp2
        go_ret
        exact ⟨rfl, HG.out.trans HGwx.out⟩
      · have hzd : decide ((n : Int) = 0) = false := decide_eq_false (by omega)
        have hzn : decide (n = 0) = false := decide_eq_false hz
        have hzb : ((n : Int) == 0) = false := by simpa using hz
        have hsl : other.toNat % 2 ^ nn < 2 ^ nn := Nat.mod_lt _ (Nat.pow_pos (by omega))
        obtain ⟨s, hs⟩ : ∃ q, other.toNat % 2 ^ nn = q := ⟨_, rfl⟩
        have hel : elemsTo other.toNat nn = elemsD s := by rw [elemsTo_mod (by omega) (by omega), hs]
        rw [hs] at hsl
        have hown := HOW.out
        have hlen := HN.out
        rw [hel] at hown hlen
        have hs1 : 1 ≤ s := by
          rcases Nat.eq_zero_or_pos s with h | h
          · subst h; rw [elemsD_zero] at hlen; exact absurd hlen hz
          · exact h
        have HIO : Hid (Ints wr wr.heap.size A (natsL (elemsD s))) := Lib.hid (IntsT.ints (own_intsT' (lo := 0) hown (by rw [List.length_map]; exact hlen) (by omega) (Nat.zero_le _)))
        have HWI := Lib.hid (HWITH.out s hs1 hsl)
        have HCN := Lib.hid (HCAN.out s hs1 hsl)
        have HLE := Lib.hid hlen
        obtain ⟨el, hel2⟩ : ∃ q, elemsD s = q := ⟨_, rfl⟩
        rw [hel2] at HIO HWI HCN HLE
        clear hel hown hlen hs1 hs hsl hel2 HN HOW hlt hz
        have HW1 := HWI.out.1 A cap wr (HG.out.trans HGO.out) HIO.out
        rw [← HLE.out] at HW1
        have HW2 := Lib.hid HW1
        clear HW1
        go_upto_region 23 with fail
        clear htc0
        have htc := (HGO.out.block HF.out).cell
        go_wp2_with fail
        refine HW2.out.mono ?_
        rintro e wa ⟨Ah, ch, rfl, hha, hba⟩
        have HGA : Hid (Grow wr wa) := hba
        have HU : Hid (TaskAt wa wa.heap.size ⟨withT t.d el, Ah, ch, t.B, t.cb⟩) := Lib.hid ⟨hha.at_, HPA.out wa (HG.out.trans (HGO.out.trans hba))⟩
        clear htc hha hba
        go_wp2_with fail
        refine (HWI.out.2 Ah ch wa HU.out).mono ?_
        rintro e wb ⟨v2, m2, er2, rfl, hpv, hbb⟩
        have HGB : Hid (Grow wr wb) := HGA.out.trans hbb
        have HGWB : Hid (Grow W wb) := Lib.hid (HGO.out.trans HGB.out)
        clear hbb HU
        cases hpd : planD (withT t.d el) with
        | none =>
          rw [hpd] at hpv
          obtain ⟨rfl, rfl, rfl⟩ := hpv
          clear hpd
          go_wp2_with fail
          refine (HWK.out _).mono ?_
          rintro e wx ⟨rfl, hbwx⟩
          have HGwx : Hid (Grow W wx) := HGWB.out.trans hbwx
          clear hbwx
          go_wp2
          go_ret
          exact ⟨rfl, HG.out.trans HGwx.out⟩
        | some p =>
          obtain ⟨ys, k⟩ := p
          rw [hpd] at hpv
          obtain ⟨bp, op, cp, rfl, _, rfl, rfl⟩ := hpv
          by_cases hkm : most < k
          · have hkd : decide (most < k) = true := decide_eq_true hkm
            clear hkm hpd
            go_wp2_with fail
            refine (HWK.out _).mono ?_
            rintro e wx ⟨rfl, hbwx⟩
            have HGwx : Hid (Grow W wx) := HGWB.out.trans hbwx
            clear hbwx
            go_wp2
            go_ret
            exact ⟨rfl, HG.out.trans HGwx.out⟩
          · exact absurd (HCN.out ys k hpd (by omega)) (by simp)

end Go.Proofs.Ythlihchndmbkaaa
