/- Lower: the specification's lower. RHands: the specification's Hands. -/
import Derived.Test.YthlihchndmbkaaaKeep
import Derived.Test.YthlihchndmbkaaaHandsApi
import Derived.Test.YthlihchndmbkaaaRPlan
namespace Go.Proofs.Ythlihchndmbkaaa
open Go.RowKit

set_option maxRecDepth 100000 in
set_option maxHeartbeats 4000000 in
theorem lower_any (A A' : Option Addr) (cap cap' B B' : Nat) (xs ys : List Int) (w : World) (hA : Ints w B A xs) (hA' : Ints w B' A' ys) (hl : xs.length = ys.length) (hl' : ys.length ≤ 20) :
    Calls Try.prog 58 #[.slice A xs.length cap, .slice A' ys.length cap'] w fun e w' => e = .returned (.bool (beforeL xs ys)) ∧ ∃ n, w' = w.drewN n := by
  have HA := Lib.hid hA
  have HA' := Lib.hid hA'
  have HLL := Lib.hid hl
  have HBD := Lib.hid (fun (k : Nat) (x y : Int) => beforeL_diff (xs := xs) (ys := ys) (k := k) (x := x) (y := y))
  have HBS : Hid (xs = ys → beforeL xs ys = false) := fun e => by subst e; exact beforeL_self _
  generalize beforeL xs ys = bv at HBD HBS ⊢
  clear hA hA' hl
  go_enter Try.func58, Try.ntmps58
  go_wp2
  go_loopw [5] (fun i wr => ∃ k n : Nat, agreeL xs ys k ∧ i = .int .i64 k ∧ wr = w.drewN n) (fun i _ => xs.length - (intOf i).toNat)
  case atStart => exact ⟨0, 0, agreeL_zero _ _, rfl, rfl⟩
  case round =>
    obtain ⟨k, q, hag, rfl, rfl⟩ := hrel
    have hk := hag.1
    have hk' := hag.2.1
    have HAG := Lib.hid hag
    clear hag
    by_cases hlt : k < xs.length
    · have hlt' : k < ys.length := by have := HLL.out; omega
      obtain ⟨b, off, x, hAe, hb, hcx, HX⟩ := HA.out.at_ hlt
      obtain ⟨b', off', y, hAe', hb', hcy, HY⟩ := HA'.out.at_ hlt'
      subst hAe
      subst hAe'
      have hki : (k : Int) < xs.length := by omega
      have hki' : (k : Int) < ys.length := by omega
      have hk0 : (0 : Int) ≤ (k : Int) := by omega
      clear hb hb'
      by_cases hne : x = y
      · subst hne
        have hnd : (!decide (x = x)) = false := by simp
        have hnb : (x != x) = false := by simp
        have HAN := Lib.hid (agreeL_succ HAG.out HX.out HY.out rfl)
        go_wp2
        go_quiet (fail)
        go_wp2
        go_roundw
        case rel => exact ⟨k + 1, _, HAN.out, by go_num, rfl⟩
        case measure => simp [intOf]; omega
      · have hnd : decide (x = y) = false := decide_eq_false hne
        have hnb : (x != y) = true := by simpa using hne
        have HV := Lib.hid (HBD.out k x y HAG.out HX.out HY.out hne)
        clear hne
        go_wp2
        go_quiet (fail)
        go_upto_region 5 with fail
        go_quiet (fail)
        go_wp2
        go_ret
        exact ⟨ret_bool HV.out.symm, _, by rw [World.drewN_drewN, World.drewN_drewN]⟩
    · obtain rfl : k = xs.length := by omega
      have HEQ : Hid (bv = false) := Lib.hid (HBS.out (agreeL_all HAG.out HLL.out))
      go_wp2
      go_ret
      exact ⟨ret_bool HEQ.out.symm, _, rfl⟩

end Go.Proofs.Ythlihchndmbkaaa

namespace Go.Proofs.Ythlihchndmbkaaa
open Go.RowKit

/-- the best hands so far, and their mistakes, as the specification's Hands keeps them -/
def BestF (w : World) (v u : Value) : Option (List Nat × Int) → Prop
  | none => v = .slice none 0 0 ∧ u = .int .i64 0
  | some (l, m) => ∃ b c, v = .slice (some ⟨b, 0, none⟩) l.length c ∧ u = .int .i64 m ∧ IntsT w 0 (some ⟨b, 0, none⟩) (natsL l) ∧ l.length ≤ 3
theorem BestF.grow {w w' : World} {v u : Value} {o : Option (List Nat × Int)} (h : BestF w v u o) (g : Grow w w') : BestF w' v u o := by
  match o, h with
  | none, h => exact h
  | some (l, m), ⟨b, c, h1, h2, h3, h4⟩ => exact ⟨b, c, h1, h2, h3.grow g, h4⟩
theorem handsV_bad {t : TaskD} {most : Int} {v : Value} {er : Int} {w : World} (h : mostErr t most ≠ 0) (h1 : v = .slice none 0 0) (h2 : er = mostErr t most) : HandsV t most v er w := by
  unfold HandsV
  rw [if_neg h]
  exact ⟨h1, h2⟩
theorem better_lt {l l0 : List Nat} {k m0 : Int} (h : l.length < l0.length) : betterD (l, k) (l0, m0) = true := by simp [betterD, h]
theorem better_gt {l l0 : List Nat} {k m0 : Int} (h : ¬ l.length < l0.length) (h2 : ¬ l.length = l0.length) : betterD (l, k) (l0, m0) = false := by simp [betterD, h, h2]
theorem better_klt {l l0 : List Nat} {k m0 : Int} (h : l.length = l0.length) (h2 : k < m0) : betterD (l, k) (l0, m0) = true := by simp [betterD, h, h2]
theorem better_kgt {l l0 : List Nat} {k m0 : Int} (h : l.length = l0.length) (h2 : ¬ k < m0) (h3 : ¬ k = m0) : betterD (l, k) (l0, m0) = false := by simp [betterD, h, h2, h3]
theorem better_keq {l l0 : List Nat} {k m0 : Int} (h : l.length = l0.length) (h2 : k = m0) : betterD (l, k) (l0, m0) = beforeL (natsL l) (natsL l0) := by simp [betterD, h, h2]

set_option maxRecDepth 100000 in
set_option maxHeartbeats 16000000 in
theorem rHands_ok (t : TaskR) (most : Int) (n : Nat) (w : World) (ht : TaskAt w n t) (hn : n ≤ w.heap.size) (hk : okTask t.d = true) (hm : 0 ≤ most) :
    Calls Try.prog 37 #[taskV t, .int .i64 most] w fun e w' => ∃ v er, e = .returned (.tuple #[v, .int .i64 er]) ∧ (FewR w' v (fewD t.d most) ∧ er = (if (fewD t.d most).isSome = true then 0 else 3)) ∧ Below w.heap.size w w' := by
  have HC := Lib.hid (fun (w0 : World) (hw : Grow w w0) => rCheck_any t w.heap.size w0 ((ht.more hn).below hw) hw.size)
  rw [if_pos hk] at HC
  have HT := Lib.hid (ht.more hn)
  have hn1 := (okTask_parts hk).1.1
  have hn3 := (okTask_parts hk).1.2
  have HOK := Lib.hid hk
  have HFD : Hid (fewD t.d most = fewTo t.d most (2 ^ t.d.hands.length - 1)) := rfl
  generalize fewD t.d most = fd at HFD ⊢
  obtain ⟨rv, hrv⟩ : ∃ q : Int, (if fd.isSome = true then (0 : Int) else 3) = q := ⟨_, rfl⟩
  have HRV := Lib.hid hrv
  rw [hrv]
  clear hrv
  have hmd : decide (most < 0) = false := decide_eq_false (by omega)
  clear ht hn hk hm
  obtain ⟨nn, hnn⟩ : ∃ q, t.d.hands.length = q := ⟨_, rfl⟩
  have HNN := Lib.hid hnn
  rw [hnn] at hn3 hn1 HFD
  clear hnn
  have hp8 := pow_cases hn1 hn3
  obtain ⟨pw, hpw⟩ : ∃ q, 2 ^ nn = q := ⟨_, rfl⟩
  have HPW := Lib.hid hpw
  rw [hpw] at hp8 HFD
  have hpw1 : 1 ≤ pw := by rw [← hpw]; exact Nat.pow_pos (by omega)
  have HWR : Hid (wrap64 ((2 : Int) ^ nn) = (pw : Int)) := Lib.hid (by
    rw [← hpw]
    have h3 : nn = 1 ∨ nn = 2 ∨ nn = 3 := by omega
    rcases h3 with rfl | rfl | rfl <;> decide +kernel)
  clear hpw
  go_enter Try.func37, Try.ntmps37
  go_upto_region 1 with fail
  obtain ⟨W, hW, hg, hf, hsz⟩ := one_block w 25 (cellsT t)
  rw [hW]
  clear hW
  have hcc := hf.cell
  have HG := Lib.hid hg
  have HF := Lib.hid hf
  clear hg hf
  go_wp2_with fail
  refine (HC.out _ HG.out).mono ?_
  rintro e w2 ⟨rfl, hb2⟩
  have HG2 : Hid (Grow W w2) := hb2
  clear hcc hb2
  go_wp2_with fail
  go_loopw [6, 7, 8] (fun v6 v7 sv wr => ∃ s : Nat, sv = .int .i64 ((s + 1 : Nat) : Int) ∧ s + 1 ≤ pw ∧ BestF wr v6 v7 (fewTo t.d most s) ∧ Grow W wr) (fun _ _ v _ => pw - (intOf v).toNat)
  case atStart => exact ⟨0, rfl, hpw1, ⟨rfl, rfl⟩, HG2.out⟩
  case round =>
    obtain ⟨s, rfl, hs, hfew, hgr⟩ := hrel
    rename World => wr
    have HFE := Lib.hid hfew
    have HGR := Lib.hid hgr
    clear hfew hgr
    obtain ⟨s1, hs1⟩ : ∃ q, s + 1 = q := ⟨_, rfl⟩
    have HS1 := Lib.hid hs1
    rw [hs1] at hs ⊢
    clear hs1
    have htc0 : wr.cell? ⟨w.heap.size, 0, none⟩ = some (.slice t.A nn t.ca) := by rw [← HNN.out]; exact (HGR.out.block HF.out).cell 0
    by_cases hlt : s1 < pw
    · have hd1 : decide ((s1 : Int) < wrap64 ((2 : Int) ^ nn)) = true := decide_eq_true (by rw [HWR.out]; omega)
      have HLT := Lib.hid hlt
      have hs8 : s1 < 8 := by omega
      have hel3 := elems_len s1
      have helh : ∀ k ∈ elemsD s1, k < t.d.hands.length := fun k hkk => by
        rw [HNN.out]
        exact elems_hand hn3 (by rw [HPW.out]; exact hlt) hkk
      have hne := elems_ne (s := s1) (by have := HS1.out; omega) hs8
      have HCA : Hid (candD t.d most s1 = match planD (withT t.d (elemsD s1)) with | some (_, m) => if m ≤ most then some (elemsD s1, m) else none | none => none) := rfl
      have HFS : Hid (fewTo t.d most s1 = takeD (fewTo t.d most s) (candD t.d most s1)) := Lib.hid (by rw [← HS1.out]; rfl)
      have hwok := with_ok HOK.out helh hne hel3
      have HON := Lib.hid (fun (A : Option Addr) (c : Nat) (w0 : World) (hw : Grow w w0) (hi : Ints w0 w0.heap.size A (natsL (elemsD s1))) => rWith_any t (elemsD s1) A c w0.heap.size w0 ((HT.out.below hw).more hw.size) hi (Nat.le_refl _) HOK.out helh hel3)
      have HPL := Lib.hid (fun (A : Option Addr) (ca : Nat) (w0 : World) (hu : TaskAt w0 w0.heap.size ⟨withT t.d (elemsD s1), A, ca, t.B, t.cb⟩) => rplan_any ⟨withT t.d (elemsD s1), A, ca, t.B, t.cb⟩ w0.heap.size w0 hu (Nat.le_refl _) hwok)
      have HEL := Lib.hid (fun w0 => members_any s1 w0 hs8)
      have HPA : Hid (∀ (w0 : World), Grow w w0 → Ints w0 w0.heap.size t.B t.d.parts) := Lib.hid (fun w0 hw => (HT.out.2.below hw).more hw.size)
      clear hwok helh hlt
      obtain ⟨el, hel⟩ : ∃ q, elemsD s1 = q := ⟨_, rfl⟩
      rw [hel] at HCA HON HPL HEL hel3 hne
      clear hel
      have hep : 0 < el.length := List.length_pos_iff.2 hne
      obtain ⟨en, hen⟩ : ∃ q, el.length = q := ⟨_, rfl⟩
      have HEN := Lib.hid hen
      rw [hen] at HON HEL hel3 hep
      clear hen hne
      go_wp2_with fail
      refine (HEL.out _).mono ?_
      rintro e w5 ⟨Ae, ce, rfl, hown, hb5⟩
      have HG5 : Hid (Grow wr w5) := hb5
      have HIE := Lib.hid (own_intsT' (lo := 0) hown (by rw [List.length_map]; exact HEN.out.symm) hep (Nat.zero_le _))
      obtain ⟨be, hbe⟩ := IntsT.addr HIE.out (by rw [List.length_map, HEN.out]; exact hep)
      subst hbe
      have htb := ((HGR.out.trans HG5.out).block HF.out).cell
      clear hown hb5 htc0
      go_wp2_with fail
      refine (HON.out _ _ _ (HG.out.trans (HGR.out.trans HG5.out)) HIE.out.ints).mono ?_
      rintro e w7 ⟨Ah, ch, rfl, hh7, hb7⟩
      have HG7 : Hid (Grow wr w7) := HG5.out.trans hb7
      have HU7 : Hid (TaskAt w7 w7.heap.size ⟨withT t.d el, Ah, ch, t.B, t.cb⟩) := Lib.hid ⟨hh7.at_, HPA.out w7 (HG.out.trans (HGR.out.trans HG7.out))⟩
      have HIE7 := Lib.hid (HIE.out.grow hb7)
      clear htb hh7 hb7 HIE HG5
      go_wp2_with fail
      refine (HPL.out _ _ _ HU7.out).mono ?_
      rintro e w8 ⟨v8, m8, rfl, hpv, hb8⟩
      have HG8 : Hid (Grow wr w8) := HG7.out.trans hb8
      have HIE8 := Lib.hid (HIE7.out.grow hb8)
      clear hb8 HU7 HG7 HIE7
      try dsimp only at hpv
      cases hpd : planD (withT t.d el) with
      | none =>
        rw [hpd] at hpv
        obtain ⟨rfl, rfl⟩ := hpv
        have HCN : Hid (fewTo t.d most s1 = fewTo t.d most s) := Lib.hid (by rw [HFS.out, HCA.out, hpd]; rfl)
        clear hpd
        dsimp only [isB]
        go_wp2
        go_roundw
        case rel => exact ⟨s1, by go_num, HLT.out, by rw [HCN.out]; exact HFE.out.grow HG8.out, HGR.out.trans HG8.out⟩
        case measure => have := HLT.out; have := HS1.out; simp [intOf]; omega
      | some p =>
        obtain ⟨xs, k⟩ := p
        rw [hpd] at hpv
        obtain ⟨bp, cp, rfl, rfl, _⟩ := hpv
        have HPD := Lib.hid hpd
        clear hpd
        dsimp only [isB]
        by_cases hkm : k ≤ most
        · have hd3 : decide (most < k) = false := decide_eq_false (by omega)
          have HCN : Hid (fewTo t.d most s1 = takeD (fewTo t.d most s) (some (el, k))) := Lib.hid (by
            rw [HFS.out, HCA.out, HPD.out]
            dsimp only
            rw [if_pos hkm])
          clear hkm
          cases hfb : fewTo t.d most s with
          | none =>
            have hfv := HFE.out
            rw [hfb] at hfv
            obtain ⟨rfl, rfl⟩ := hfv
            have hnil2 := none_eql_nil
            have HCM : Hid (fewTo t.d most s1 = some (el, k)) := Lib.hid (by rw [HCN.out, hfb]; rfl)
            clear hfb
            go_wp2
            go_roundw
            case rel => exact ⟨s1, by go_num, HLT.out, by rw [HCM.out]; exact ⟨be, ce, by rw [HEN.out], rfl, HIE8.out, by rw [HEN.out]; exact hel3⟩, HGR.out.trans HG8.out⟩
            case measure => have := HLT.out; have := HS1.out; simp [intOf]; omega
          | some p0 =>
            obtain ⟨l0, m0⟩ := p0
            have hfv := HFE.out
            rw [hfb] at hfv
            obtain ⟨b0, c0, rfl, rfl, hI0, hl0⟩ := hfv
            have HI8 := Lib.hid (hI0.grow HG8.out)
            have hnil2 := some_eql_nil
            obtain ⟨ln, hln⟩ : ∃ q, l0.length = q := ⟨_, rfl⟩
            have HLN := Lib.hid hln
            have HTK : Hid (fewTo t.d most s1 = if betterD (el, k) (l0, m0) = true then some (el, k) else some (l0, m0)) := Lib.hid (by rw [HCN.out, hfb]; rfl)
            rw [hln] at hl0 ⊢
            clear hfb hI0 hln
            by_cases hll : en < ln
            · have hl1 : decide ((en : Int) < (ln : Int)) = true := decide_eq_true (by omega)
              have hl2 : decide (en < ln) = true := decide_eq_true hll
              have HCM : Hid (fewTo t.d most s1 = some (el, k)) := Lib.hid (by rw [HTK.out, better_lt (by rw [HEN.out, HLN.out]; exact hll)]; rfl)
              clear hll
              go_wp2
              go_roundw
              case rel => exact ⟨s1, by go_num, HLT.out, by rw [HCM.out]; exact ⟨be, ce, by rw [HEN.out], rfl, HIE8.out, by rw [HEN.out]; exact hel3⟩, HGR.out.trans HG8.out⟩
              case measure => have := HLT.out; have := HS1.out; simp [intOf]; omega
            · have hl1 : decide ((en : Int) < (ln : Int)) = false := decide_eq_false (by omega)
              have hl2 : decide (en < ln) = false := decide_eq_false hll
              by_cases hee : en = ln
              · have he1 : decide ((en : Int) = (ln : Int)) = true := decide_eq_true (by omega)
                have he2 : decide (en = ln) = true := decide_eq_true hee
                have he3 : ((en : Int) == (ln : Int)) = true := by simp [hee]
                have HEE : Hid (el.length = l0.length) := Lib.hid (by rw [HEN.out, HLN.out]; exact hee)
                clear hll hee
                by_cases hkl : k < m0
                · have hk1 : decide (k < m0) = true := decide_eq_true hkl
                  have HCM : Hid (fewTo t.d most s1 = some (el, k)) := Lib.hid (by rw [HTK.out, better_klt HEE.out hkl]; rfl)
                  clear hkl
                  go_wp2
                  go_roundw
                  case rel => exact ⟨s1, by go_num, HLT.out, by rw [HCM.out]; exact ⟨be, ce, by rw [HEN.out], rfl, HIE8.out, by rw [HEN.out]; exact hel3⟩, HGR.out.trans HG8.out⟩
                  case measure => have := HLT.out; have := HS1.out; simp [intOf]; omega
                · have hk1 : decide (k < m0) = false := decide_eq_false hkl
                  by_cases hke : k = m0
                  · have hk2 : decide (k = m0) = true := decide_eq_true hke
                    have hk3 : (k == m0) = true := by simp [hke]
                    have HTB : Hid (fewTo t.d most s1 = if beforeL (natsL el) (natsL l0) = true then some (el, k) else some (l0, m0)) := Lib.hid (by rw [HTK.out, better_keq HEE.out hke])
                    have HLO := Lib.hid (fun (w0 : World) (hw : Grow w8 w0) => lower_any (some ⟨be, 0, none⟩) (some ⟨b0, 0, none⟩) ce c0 w0.heap.size w0.heap.size (natsL el) (natsL l0) w0 (HIE8.out.grow hw).ints (HI8.out.grow hw).ints (by rw [List.length_map, List.length_map]; exact HEE.out) (by rw [List.length_map, HLN.out]; omega))
                    rw [show (natsL el).length = en by rw [List.length_map]; exact HEN.out, show (natsL l0).length = ln by rw [List.length_map]; exact HLN.out] at HLO
                    generalize beforeL (natsL el) (natsL l0) = bf at HTB HLO
                    clear hkl hke
                    go_wp2_with fail
                    refine (HLO.out _ (Grow.refl _)).mono ?_
                    rintro e w9 ⟨rfl, q9, rfl⟩
                    cases bf with
                    | true =>
                      have HCM : Hid (fewTo t.d most s1 = some (el, k)) := Lib.hid (by rw [HTB.out]; rfl)
                      go_wp2
                      go_roundw
                      case rel => exact ⟨s1, by go_num, HLT.out, by rw [HCM.out]; exact ⟨be, ce, by rw [HEN.out], rfl, HIE8.out.grow (Below.drewN_ (Grow.refl _) _), by rw [HEN.out]; exact hel3⟩, HGR.out.trans (HG8.out.trans (Below.drewN_ (Grow.refl _) _))⟩
                      case measure => have := HLT.out; have := HS1.out; simp [intOf]; omega
                    | false =>
                      have HCM : Hid (fewTo t.d most s1 = some (l0, m0)) := Lib.hid (by rw [HTB.out]; rfl)
                      go_wp2
                      go_roundw
                      case rel => exact ⟨s1, by go_num, HLT.out, by rw [HCM.out]; exact ⟨b0, c0, by rw [HLN.out], rfl, HI8.out.grow (Below.drewN_ (Grow.refl _) _), by rw [HLN.out]; exact hl0⟩, HGR.out.trans (HG8.out.trans (Below.drewN_ (Grow.refl _) _))⟩
                      case measure => have := HLT.out; have := HS1.out; simp [intOf]; omega
                  · have hk2 : decide (k = m0) = false := decide_eq_false hke
                    have hk3 : (k == m0) = false := by simpa using hke
                    have HCM : Hid (fewTo t.d most s1 = some (l0, m0)) := Lib.hid (by rw [HTK.out, better_kgt HEE.out hkl hke]; rfl)
                    clear hkl hke
                    go_wp2
                    go_roundw
                    case rel => exact ⟨s1, by go_num, HLT.out, by rw [HCM.out]; exact ⟨b0, c0, by rw [HLN.out], rfl, HI8.out, by rw [HLN.out]; exact hl0⟩, HGR.out.trans HG8.out⟩
                    case measure => have := HLT.out; have := HS1.out; simp [intOf]; omega
              · have he1 : decide ((en : Int) = (ln : Int)) = false := decide_eq_false (by omega)
                have he2 : decide (en = ln) = false := decide_eq_false hee
                have he3 : ((en : Int) == (ln : Int)) = false := by simp; omega
                have HCM : Hid (fewTo t.d most s1 = some (l0, m0)) := Lib.hid (by rw [HTK.out, better_gt (by rw [HEN.out, HLN.out]; exact hll) (by rw [HEN.out, HLN.out]; exact hee)]; rfl)
                clear hll hee
                go_wp2
                go_roundw
                case rel => exact ⟨s1, by go_num, HLT.out, by rw [HCM.out]; exact ⟨b0, c0, by rw [HLN.out], rfl, HI8.out, by rw [HLN.out]; exact hl0⟩, HGR.out.trans HG8.out⟩
                case measure => have := HLT.out; have := HS1.out; simp [intOf]; omega
        · have hd3 : decide (most < k) = true := decide_eq_true (by omega)
          have HCN : Hid (fewTo t.d most s1 = fewTo t.d most s) := Lib.hid (by
            rw [HFS.out, HCA.out, HPD.out]
            dsimp only
            rw [if_neg hkm]
            rfl)
          clear hkm
          go_wp2
          go_roundw
          case rel => exact ⟨s1, by go_num, HLT.out, by rw [HCN.out]; exact HFE.out.grow HG8.out, HGR.out.trans HG8.out⟩
          case measure => have := HLT.out; have := HS1.out; simp [intOf]; omega
    · have he : s1 = pw := by omega
      have hd1 : decide ((s1 : Int) < wrap64 ((2 : Int) ^ nn)) = false := decide_eq_false (by rw [HWR.out]; omega)
      have HSF : Hid (fewTo t.d most s = fd) := Lib.hid (by rw [HFD.out, ← he, ← HS1.out]; rfl)
      clear hlt he
      cases hfb : fewTo t.d most s with
      | none =>
        have hfv := HFE.out
        rw [hfb] at hfv
        obtain ⟨rfl, rfl⟩ := hfv
        have hnil := none_eql_nil
        have HSE : Hid (fd = none) := Lib.hid (by rw [← HSF.out, hfb])
        clear hfb
        go_wp2
        exact bodyPost_ret (results_pair45 Try.results37 _ _ _ _ rfl rfl) rfl ⟨_, _, rfl, ⟨by rw [HSE.out]; exact rfl, by rw [← HRV.out, HSE.out]; rfl⟩, HG.out.trans HGR.out⟩
      | some p0 =>
        obtain ⟨l0, m0⟩ := p0
        have hfv := HFE.out
        rw [hfb] at hfv
        obtain ⟨b0, c0, rfl, rfl, hI0, hl0⟩ := hfv
        have hnil := some_eql_nil
        have HI0 := Lib.hid hI0
        have HSE : Hid (fd = some (l0, m0)) := Lib.hid (by rw [← HSF.out, hfb])
        clear hfb hI0
        go_wp2
        exact bodyPost_ret (results_pair45 Try.results37 _ _ _ _ rfl rfl) rfl ⟨_, _, rfl, ⟨by rw [HSE.out]; exact ⟨b0, c0, rfl, HI0.out⟩, by rw [← HRV.out, HSE.out]; rfl⟩, HG.out.trans HGR.out⟩

set_option maxRecDepth 100000 in
set_option maxHeartbeats 16000000 in
theorem rHands_any (t : TaskR) (most : Int) (n : Nat) (w : World) (ht : TaskAt w n t) (hn : n ≤ w.heap.size) :
    Calls Try.prog 37 #[taskV t, .int .i64 most] w fun e w' => ∃ v er, e = .returned (.tuple #[v, .int .i64 er]) ∧ HandsV t.d most v er w' ∧ Below w.heap.size w w' := by
  rcases mostErr_cases t.d most with ⟨h1, h2, h3⟩ | ⟨h1, h3⟩ | ⟨h1, h2, h3⟩
  · have HV := Lib.hid (fun (w0 : World) => handsV_bad (t := t.d) (most := most) (v := .slice none 0 0) (w := w0) (by rw [h3]; decide) rfl rfl)
    rw [h3] at HV
    have HC := Lib.hid (fun (w0 : World) (hw : Grow w w0) => rCheck_any t w.heap.size w0 ((ht.more hn).below hw) hw.size)
    rw [if_pos h1] at HC
    have hmd : decide (most < 0) = true := decide_eq_true h2
    clear ht hn h1 h2 h3
    go_enter Try.func37, Try.ntmps37
    go_upto_region 1 with fail
    obtain ⟨W, hW, hg, hf, hsz⟩ := one_block w 25 (cellsT t)
    rw [hW]
    clear hW
    have hcc := hf.cell
    have HG := Lib.hid hg
    have HF := Lib.hid hf
    clear hg hf
    go_wp2_with fail
    refine (HC.out _ HG.out).mono ?_
    rintro e w2 ⟨rfl, hb2⟩
    have HG2 : Hid (Grow W w2) := hb2
    clear hcc hb2
    go_wp2
    exact bodyPost_ret (results_pair45 Try.results37 _ _ _ _ rfl rfl) rfl ⟨_, _, rfl, HV.out _, HG.out.trans HG2.out⟩
  · have HV := Lib.hid (fun (w0 : World) => handsV_bad (t := t.d) (most := most) (v := .slice none 0 0) (w := w0) (by rw [h3]; decide) rfl rfl)
    rw [h3] at HV
    have HC := Lib.hid (fun (w0 : World) (hw : Grow w w0) => rCheck_any t w.heap.size w0 ((ht.more hn).below hw) hw.size)
    rw [if_neg h1] at HC
    clear ht hn h1 h3
    go_enter Try.func37, Try.ntmps37
    go_upto_region 1 with fail
    obtain ⟨W, hW, hg, hf, hsz⟩ := one_block w 25 (cellsT t)
    rw [hW]
    clear hW
    have hcc := hf.cell
    have HG := Lib.hid hg
    have HF := Lib.hid hf
    clear hg hf
    go_wp2_with fail
    refine (HC.out _ HG.out).mono ?_
    rintro e w2 ⟨rfl, hb2⟩
    have HG2 : Hid (Grow W w2) := hb2
    clear hcc hb2
    go_wp2
    exact bodyPost_ret (results_pair45 Try.results37 _ _ _ _ rfl rfl) rfl ⟨_, _, rfl, HV.out _, HG.out.trans HG2.out⟩
  · refine (rHands_ok t most n w ht hn h1 h2).mono ?_
    rintro e w' ⟨v, er, rfl, h, hb⟩
    exact ⟨v, er, rfl, (by unfold HandsV; rw [if_pos h3]; exact h), hb⟩

end Go.Proofs.Ythlihchndmbkaaa

