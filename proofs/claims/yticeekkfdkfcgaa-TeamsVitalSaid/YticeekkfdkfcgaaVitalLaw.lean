/- VitalLaw: TeamsVital. -/
import Derived.Test.YticeekkfdkfcgaaTieM
import Derived.Test.YticeekkfdkfcgaaWorks
import Derived.BigQuiet
namespace Go.Proofs.Yticeekkfdkfcgaa
open Go.RowKit

theorem natsL_len4 (l : List Nat) : (natsL l).length = l.length := List.length_map _
theorem vitL_len5 (c : CrewR) (j : JobD) (f : Nat → Nat) : (vitL c j f).length ≤ c.people.length := by
  unfold vitL
  split
  · exact Nat.zero_le _
  · exact Nat.le_trans (List.length_filter_le _ _) (Nat.le_of_eq (List.length_range))
/-- is someone among the first k? -/
def inTo (l : List Nat) (who k : Nat) : Bool := (l.take k).any fun x => decide (x = who)
theorem inTo_succ {l : List Nat} {who k x : Nat} (h : l[k]? = some x) : inTo l who (k + 1) = (inTo l who k || decide (x = who)) := by
  unfold inTo
  rw [List.take_add_one, h, List.any_append]
  simp
theorem inTo_all {l : List Nat} {who : Nat} : inTo l who l.length = decide (who ∈ l) := by
  unfold inTo
  rw [List.take_length, Bool.eq_iff_iff, List.any_eq_true, decide_eq_true_iff]
  constructor
  · rintro ⟨x, hx, he⟩
    rw [← of_decide_eq_true he]
    exact hx
  · exact fun h => ⟨who, h, by simp⟩

set_option maxRecDepth 100000 in
set_option maxHeartbeats 16000000 in
theorem vitalLaw_any (c : CrewR) (j : JobD) (whoI : Int) (n : Nat) (w : World) (hA : CrewAt w n c) (hn : n ≤ w.heap.size) :
    Calls Try.prog 8 #[crewV c, jobV j, .int .i64 whoI] w fun e w' => e = .returned (.bool true) ∧ Below w.heap.size w w' := by
  obtain ⟨i0, hi, hz0, hz1, hz2⟩ := info_parts Try.infoInt
  have HAT := Lib.hid (fun (w0 : World) (hw : Grow w w0) => ((hA.more hn).below hw).more hw.size)
  have HRD := Lib.hid (fun (w0 : World) (hw : Grow w w0) => ready_any c j w0.heap.size w0 (HAT.out w0 hw) (Nat.le_refl _))
  have HVT := Lib.hid (fun (hs : Short c) (w0 : World) (hw : Grow w w0) => vitalApi_any c j w0.heap.size w0 (HAT.out w0 hw) (Nat.le_refl _) hs)
  have HTE := Lib.hid (fun (hs : Short c) (w0 : World) (hw : Grow w w0) => team_flat c j w0.heap.size w0 (HAT.out w0 hw) (Nat.le_refl _) hs)
  have HCP := Lib.hid (fun (h : farC c = false) (w0 : World) (hw : Grow w w0) => rCopy_any c w0.heap.size w0 (HAT.out w0 hw) (Nat.le_refl _) (far_small h).1 (far_small h).2.1 (far_small h).2.2)
  have HRF := Lib.hid (fun (h : readyC c j = true) => ready_facts h)
  obtain ⟨rd, hrd⟩ : ∃ z, readyC c j = z := ⟨_, rfl⟩
  rw [hrd] at HRD HRF
  clear hA hn hrd
  go_enter Try.func8, Try.ntmps8
  go_upto_region 1 with fail
  obtain ⟨W, hW, hg, hfr, hs1, _⟩ := two_blocks w 25 27 (cellsC c) (cellsJ j)
  rw [hW]
  clear hW
  have HG := Lib.hid hg
  have HF := Lib.hid hfr
  have HS := Lib.hid hs1
  have hcc := hfr.cell
  have hjc := hs1.cell
  clear hg hfr hs1
  go_wp2_with fail
  refine (HRD.out W HG.out).mono ?_
  rintro e w1 ⟨rfl, hb1⟩
  have HG1 : Hid (Grow w w1) := Lib.hid (HG.out.trans hb1)
  have HF1 := Lib.hid ((show Grow W w1 from hb1).block HF.out)
  have HS1 := Lib.hid ((show Grow W w1 from hb1).block HS.out)
  have hcc1 := HF1.out.cell
  have hjc1 := HS1.out.cell
  clear hb1 hcc hjc HRD HG HF HS
  cases rd with
  | false =>
    go_wp2_with fail
    refine (works_any _).mono ?_
    rintro e w2 ⟨rfl, hb2⟩
    have HG2 : Hid (Grow w w2) := Lib.hid (HG1.out.trans hb2)
    clear hb2
    go_wp2
    go_ret
    exact ⟨rfl, HG2.out⟩
  | true =>
    obtain ⟨hfa, he0, hok, hoj⟩ := HRF.out rfl
    by_cases hw0 : whoI < 0
    · have d1 : decide (whoI < 0) = true := decide_eq_true hw0
      go_wp2_with fail
      refine (works_any _).mono ?_
      rintro e w2 ⟨rfl, hb2⟩
      have HG2 : Hid (Grow w w2) := Lib.hid (HG1.out.trans hb2)
      clear hb2
      go_wp2
      go_ret
      exact ⟨rfl, HG2.out⟩
    have d1 : decide (whoI < 0) = false := decide_eq_false hw0
    by_cases hw1 : (c.people.length : Int) ≤ whoI
    · have d2 : decide ((c.people.length : Int) ≤ whoI) = true := decide_eq_true hw1
      go_wp2_with fail
      refine (works_any _).mono ?_
      rintro e w2 ⟨rfl, hb2⟩
      have HG2 : Hid (Grow w w2) := Lib.hid (HG1.out.trans hb2)
      clear hb2
      go_wp2
      go_ret
      exact ⟨rfl, HG2.out⟩
    have d2 : decide ((c.people.length : Int) ≤ whoI) = false := decide_eq_false hw1
    go_upto_region 3 with fail
    clear d1 d2
    obtain ⟨who, rfl⟩ : ∃ z : Nat, whoI = (z : Int) := ⟨whoI.toNat, by omega⟩
    have hwl : who < c.people.length := by omega
    have HWL := Lib.hid hwl
    have HE0 := Lib.hid he0
    have HFA := Lib.hid hfa
    have HSC := Lib.hid (far_short hfa)
    have HL5 := Lib.hid (five_people hfa hok)
    have HVR := Lib.hid (vit_err he0)
    have HVT1 := Lib.hid (HVT.out HSC.out)
    have HTE1 := Lib.hid (HTE.out HSC.out)
    have HCP1 := Lib.hid (HCP.out HFA.out)
    have HVLT := Lib.hid (vitL_lt c j (brokenT c j))
    have HVUP := Lib.hid (fun (k a b : Nat) h1 h2 => vitL_up c j (brokenT c j) (k := k) (a := a) (b := b) h1 h2)
    have HTIE := Lib.hid (fun (c' : CrewR) (h : TiedC c c' who j.client) (hv : vitE c j (brokenT c j) = 0) => tie_law h HE0.out HWL.out hv)
    have HVLN := Lib.hid (vitL_len5 c j (brokenT c j))
    obtain ⟨l, hl⟩ : ∃ z, vitL c j (brokenT c j) = z := ⟨_, rfl⟩
    obtain ⟨ve, hve⟩ : ∃ z, vitE c j (brokenT c j) = z := ⟨_, rfl⟩
    obtain ⟨tt, htt⟩ : ∃ z, tmT c j = z := ⟨_, rfl⟩
    obtain ⟨tf, htf⟩ : ∃ z, tmF c j = z := ⟨_, rfl⟩
    obtain ⟨te, hte⟩ : ∃ z, tmE c j = z := ⟨_, rfl⟩
    rw [hl, hve] at HVT1 HTIE
    rw [hl] at HVLT HVUP HVLN
    rw [hve, hte] at HVR
    rw [htt, htf, hte] at HTE1
    clear hl hve htt htf hte hfa he0 hok hoj HRF HVT HTE HCP hw0 hw1 hwl
    have hcc1 := HF1.out.cell
    have hjc1 := HS1.out.cell
    go_wp2_with fail
    refine (HVT1.out w1 HG1.out).mono ?_
    rintro e w2 ⟨A, cap, rfl, hi2, hb2⟩
    have HG2 : Hid (Grow w w2) := Lib.hid (HG1.out.trans hb2)
    have HF2 := Lib.hid ((show Grow w1 w2 from hb2).block HF1.out)
    have HS2 := Lib.hid ((show Grow w1 w2 from hb2).block HS1.out)
    have HI2 := Lib.hid hi2
    have hcc2 := HF2.out.cell
    have hjc2 := HS2.out.cell
    clear hb2 hi2 hcc1 hjc1 HVT1 HG1 HF1 HS1
    rcases HVR.out with rfl | ⟨rfl, rfl⟩
    case inr =>
      clear HVR
      go_wp2_with fail
      refine (HTE1.out w2 HG2.out).mono ?_
      rintro e w3 ⟨rfl, hb3⟩
      have HG3 : Hid (Grow w w3) := Lib.hid (HG2.out.trans hb3)
      clear hb3 hcc2 hjc2
      go_wp2_with fail
      refine (works_any _).mono ?_
      rintro e w4 ⟨rfl, hb4⟩
      have HG4 : Hid (Grow w w4) := Lib.hid (HG3.out.trans hb4)
      clear hb4
      go_wp2
      go_ret
      exact ⟨rfl, HG4.out⟩
    case inl =>
      clear HVR HTE1
      go_upto_region 9 with fail
      clear hcc2 hjc2
      have hl5 : l.length ≤ 5 := Nat.le_trans HVLN.out HL5.out
      obtain ⟨m, hm⟩ : ∃ z, l.length = z := ⟨_, rfl⟩
      have HM := Lib.hid hm
      rw [hm] at hl5 ⊢
      clear hm
      go_loopw [12, 13] (fun bv iv wx => ∃ k : Nat, k ≤ m ∧ iv = .int .i64 k ∧ bv = .bool (inTo l who k) ∧ Grow w2 wx) (fun _ v _ => m - (intOf v).toNat)
      case atStart => exact ⟨0, Nat.zero_le _, rfl, rfl, Grow.refl _⟩
      case round =>
        obtain ⟨k, hk, rfl, rfl, hgr⟩ := hrel
        rename World => wr
        have HGR := Lib.hid hgr
        clear hgr
        by_cases hlt : k < m
        · obtain ⟨xb, hxb⟩ : ∃ x, l[k]? = some x := ⟨l[k]'(by rw [HM.out]; exact hlt), List.getElem?_eq_getElem _⟩
          have HXB := Lib.hid hxb
          obtain ⟨ab, ao, rfl, hab, hic⟩ : ∃ ab ao, A = some ⟨ab, ao, none⟩ ∧ ab < w2.heap.size ∧ ∀ k x, l[k]? = some x → w2.cell? ⟨ab, ao + k, none⟩ = some (.int .i64 (x : Nat)) := by
            rcases HI2.out with h | ⟨b, o, rfl, hb, hc⟩
            · have h2 : l.length = 0 := by rw [← natsL_len4, h]; rfl
              have h3 := HM.out
              omega
            · exact ⟨b, o, rfl, hb, fun k x hx => hc k _ (by unfold natsL; rw [List.getElem?_map, hx]; rfl)⟩
          have HIC := Lib.hid (fun k x hx => HGR.out.cell (hic k x hx))
          have HSU := Lib.hid (inTo_succ (who := who) hxb)
          have cb := HIC.out k xb hxb
          have hk0 : (0 : Int) ≤ (k : Int) := by omega
          have hk1 : (k : Int) < (m : Int) := by omega
          obtain ⟨bb, hbb⟩ : ∃ z, inTo l who k = z := ⟨_, rfl⟩
          rw [hbb] at HSU ⊢
          go_upto_region 11 with fail
          by_cases hz : k = 0
          · have d1 : decide ((0 : Int) < (k : Int)) = false := decide_eq_false (by omega)
            have hkp : ¬ 0 < k := by omega
            have d1b : decide (0 < k) = false := decide_eq_false hkp
            clear hz
            go_quiet (fail)
            clear d1 d1b hkp
            have cb2 : (wr.drewN nq).cell? ⟨ab, ao + k, none⟩ = some (.int .i64 (xb : Nat)) := cb
            cases bb with
            | true =>
              go_wp2
              go_roundw
              case rel => exact ⟨k + 1, by omega, by go_num, by rw [HSU.out]; rfl, HGR.out.trans (Below.drewN_ (Below.refl _ _) _)⟩
              case measure => simp [intOf]; omega
            | false =>
              by_cases hxw : xb = who
              · have hq : ((xb : Int) == (who : Int)) = true := by simp [hxw]
                go_wp2
                go_roundw
                case rel => exact ⟨k + 1, by omega, by go_num, by rw [HSU.out, decide_eq_true hxw]; rfl, HGR.out.trans (Below.drewN_ (Below.refl _ _) _)⟩
                case measure => simp [intOf]; omega
              · have hq : ((xb : Int) == (who : Int)) = false := by simp; omega
                have hq2 : (xb == who) = false := by simpa using hxw
                go_wp2
                go_roundw
                case rel => exact ⟨k + 1, by omega, by go_num, by rw [HSU.out, decide_eq_false hxw]; rfl, HGR.out.trans (Below.drewN_ (Below.refl _ _) _)⟩
                case measure => simp [intOf]; omega
          · have d1 : decide ((0 : Int) < (k : Int)) = true := decide_eq_true (by omega)
            have hkp : 0 < k := by omega
            have d1b : decide (0 < k) = true := decide_eq_true hkp
            obtain ⟨xa, hxa⟩ : ∃ x, l[k - 1]? = some x := ⟨l[k - 1]'(by rw [HM.out]; omega), List.getElem?_eq_getElem _⟩
            have hup := HVUP.out (k - 1) xa xb hxa (by rw [show k - 1 + 1 = k by omega]; exact HXB.out)
            have ca := HIC.out (k - 1) xa hxa
            have hw1 : IntKind.i64.wrap ((k : Int) - 1) = ((k - 1 : Nat) : Int) := by rw [IntWalk.i64_in _ (by omega)]; omega
            have hj0 : (0 : Int) ≤ ((k - 1 : Nat) : Int) := by omega
            have hj1 : ((k - 1 : Nat) : Int) < (m : Int) := by omega
            have d2 : decide ((xb : Int) ≤ (xa : Int)) = false := decide_eq_false (by omega)
            have d3 : decide (xb ≤ xa) = false := decide_eq_false (by omega)
            obtain ⟨k1, hk1e⟩ : ∃ z, k - 1 = z := ⟨_, rfl⟩
            rw [hk1e] at ca hw1 hj0 hj1
            clear hk1e hxa
            go_quiet (fail)
            clear d1 d1b hkp d2 d3 ca hw1 hj0 hj1 hup
            have cb2 : (wr.drewN nq).cell? ⟨ab, ao + k, none⟩ = some (.int .i64 (xb : Nat)) := cb
            cases bb with
            | true =>
              go_wp2
              go_roundw
              case rel => exact ⟨k + 1, by omega, by go_num, by rw [HSU.out]; rfl, HGR.out.trans (Below.drewN_ (Below.refl _ _) _)⟩
              case measure => simp [intOf]; omega
            | false =>
              by_cases hxw : xb = who
              · have hq : ((xb : Int) == (who : Int)) = true := by simp [hxw]
                go_wp2
                go_roundw
                case rel => exact ⟨k + 1, by omega, by go_num, by rw [HSU.out, decide_eq_true hxw]; rfl, HGR.out.trans (Below.drewN_ (Below.refl _ _) _)⟩
                case measure => simp [intOf]; omega
              · have hq : ((xb : Int) == (who : Int)) = false := by simp; omega
                have hq2 : (xb == who) = false := by simpa using hxw
                go_wp2
                go_roundw
                case rel => exact ⟨k + 1, by omega, by go_num, by rw [HSU.out, decide_eq_false hxw]; rfl, HGR.out.trans (Below.drewN_ (Below.refl _ _) _)⟩
                case measure => simp [intOf]; omega
        · obtain rfl : k = m := by omega
          have HIN : Hid (inTo l who k = decide (who ∈ l)) := Lib.hid (by rw [← HM.out]; exact inTo_all)
          obtain ⟨bb, hbb⟩ : ∃ z, inTo l who k = z := ⟨_, rfl⟩
          rw [hbb] at HIN ⊢
          have hccr := (HGR.out.block HF2.out).cell
          clear hbb hlt hk hl5 HI2 HVUP HVLT HVLN
          go_wp2_with fail
          refine (HCP1.out wr (HG2.out.trans HGR.out)).mono ?_
          rintro e w3 ⟨d, rfl, hd, hdp, hdl, hnew, hb3⟩
          have HG3 : Hid (Grow w w3) := Lib.hid (HG2.out.trans (HGR.out.trans hb3))
          have HF3 := Lib.hid ((HGR.out.trans hb3).block HF2.out)
          have HS3 := Lib.hid ((HGR.out.trans hb3).block HS2.out)
          have HNW := Lib.hid hnew
          have HDD := Lib.hid hd
          have HDL := Lib.hid hdl
          have HDP := Lib.hid hdp
          have HWR := Lib.hid (HG2.out.trans HGR.out).size
          clear hd hdp hdl hnew hccr HCP1 HGR hb3
          go_upto_region 15 with fail
          obtain ⟨w4, hw4, hg4, hf4, hz4⟩ := one_block w3 25 (cellsC d)
          rw [hw4]
          have HK4 := Lib.hid hf4
          have HG4 : Hid (Grow w3 w4) := hg4
          have hkc := hf4.cell
          have hwd : who < d.people.length := by rw [HDP.out]; exact HWL.out
          obtain ⟨xd, hxd⟩ : ∃ x, d.people[who]? = some x := ⟨d.people[who], List.getElem?_eq_getElem hwd⟩
          have HXD := Lib.hid hxd
          obtain ⟨pb, cs, hpa, hlo, hpB, hcs⟩ : ∃ pb cs, d.pa = some ⟨pb, 0, none⟩ ∧ wr.heap.size ≤ pb ∧ BlockIs w3 pb 52 cs ∧ ∀ i x, d.people[i]? = some x → ∀ j, j < 6 → cs[i * 6 + j]? = (cellsPL x)[j]? := by
            rcases own_flat (enc := cellsPL) (fun _ => rfl) HNW.out.people rfl with e | ⟨b, cs, e, hl, hB, _, _, hc⟩
            · rw [e] at hwd; exact absurd hwd (by simp)
            · exact ⟨b, cs, e, hl, hB, hc⟩
          have HPB := Lib.hid hpB
          have HCS := Lib.hid hcs
          have HLO := Lib.hid hlo
          have hq : ∀ q u, (cellsPL xd)[q]? = some u → q < 6 → w4.cell? ⟨pb, who * 6 + q, none⟩ = some u := fun q u hu h6 => by rw [(HG4.out.block HPB.out).cell, HCS.out who xd HXD.out q h6, hu]
          have p0 := hq 0 _ rfl (by omega); have p1 := hq 1 _ rfl (by omega); have p2 := hq 2 _ rfl (by omega); have p3 := hq 3 _ rfl (by omega); have p4 := hq 4 _ rfl (by omega); have p5 := hq 5 _ rfl (by omega)
          rw [Nat.add_zero] at p0
          clear hcs hpB hlo hq hwd hxd
          have hh0 : (0 : Int) ≤ (who : Int) := by omega
          have hh1 : (who : Int) < (d.people.length : Int) := by rw [HDP.out]; have := HWL.out; omega
          have hjc4 := (hg4.block HS3.out).cell
          clear hw4 hg4 hf4 hz4
          go_upto_region 16 with fail
          obtain ⟨w5, hw5, hg5, hf5, hz5⟩ := one_block w4 52 (cellsP xd)
          rw [hw5]
          have HB5 := Lib.hid hf5
          have HG5 : Hid (Grow w4 w5) := hg5
          have HJ5 := Lib.hid (hg5.block (HG4.out.block HS3.out))
          have hjc5 := HJ5.out.cell
          have HB6 := Lib.hid ((Grow.alloc w5 (.cells #[.int .i64 j.client] 3)).block hf5)
          have hbc6 := HB6.out.cell
          have hbf6 := HB6.out.frozen
          clear hw5 hg5 hf5 hz5 hjc4 hkc p0 p1 p2 p3 p4 p5
          go_upto_region 17 with fail
          obtain ⟨w6, hw6, hg6, hb6, hi6⟩ : ∃ V, ((w5.alloc (.cells #[.int .i64 j.client] 3)).setCell ⟨w4.heap.size, 3, none⟩ (.slice (some ⟨w5.heap.size, 0, none⟩) 1 1)) = V ∧ Grow w4 V ∧ BlockIs V w4.heap.size 52 (cellsP ⟨{ xd.d with ties := [j.client] }, xd.la, xd.lc, some ⟨w5.heap.size, 0, none⟩, 1⟩) ∧ BlockIs V w5.heap.size 3 #[.int .i64 j.client] := by
            have h5 := HB5.out.lt
            exact ⟨_, rfl, ((show Below w4.heap.size w4 w5 from HG5.out).alloc (by omega) _).setCell (p := ⟨w4.heap.size, 3, none⟩) (by simp) _, HB6.out.near 3 _, (BlockIs.new w5 _ _).far (p := ⟨w4.heap.size, 3, none⟩) (by simp; omega) _⟩
          rw [hw6]
          have HG6 : Hid (Grow w3 w6) := Lib.hid (HG4.out.trans hg6)
          have HI6 := Lib.hid hi6
          have HP6 := Lib.hid (HG6.out.block HPB.out)
          have HK6 := Lib.hid (hg6.block HK4.out)
          have HS6 := Lib.hid (HG6.out.block HS3.out)
          have hkc6 := HK6.out.cell
          have hbc7 := hb6.cell
          have hpf6 := HP6.out.frozen
          have hq : ∀ q u, (cellsPL xd)[q]? = some u → q < 6 → w6.cell? ⟨pb, who * 6 + q, none⟩ = some u := fun q u hu h6 => by rw [HP6.out.cell, HCS.out who xd HXD.out q h6, hu]
          have p0 := hq 0 _ rfl (by omega); have p1 := hq 1 _ rfl (by omega); have p2 := hq 2 _ rfl (by omega); have p3 := hq 3 _ rfl (by omega); have p4 := hq 4 _ rfl (by omega); have p5 := hq 5 _ rfl (by omega)
          rw [Nat.add_zero] at p0
          clear hw6 hg6 hb6 hi6 hq HB6 hbc6 hbf6 HB5 HG5 HJ5 hjc5
          go_upto_region 18 with fail
          have HX : Hid (∀ V, KeepTy 3 w6 V → w6.heap.size ≤ V.heap.size → PersonAt V V.heap.size ⟨{ xd.d with ties := [j.client] }, xd.la, xd.lc, some ⟨w5.heap.size, 0, none⟩, 1⟩) := Lib.hid (fun V hk hz => by
            have h1 := (HNW.out.rows.keep ((KeepTy.of_grow HG6.out).trans hk)).mem (List.mem_of_getElem? HXD.out)
            have h2 := hk _ _ HI6.out
            refine ⟨h1.1, .inr ⟨w5.heap.size, 0, rfl, h2.lt, fun q u hu => ?_⟩⟩
            rw [Nat.zero_add, h2.cell]
            cases q with
            | zero => rw [← Option.some.inj hu]; rfl
            | succ q => cases hu)
          obtain ⟨w7, hw7⟩ : ∃ V, sixW w6 pb (who * 6) ⟨{ xd.d with ties := [j.client] }, xd.la, xd.lc, some ⟨w5.heap.size, 0, none⟩, 1⟩ = V := ⟨_, rfl⟩
          show Code.wp _ _ _ _ (sixW w6 pb (who * 6) ⟨{ xd.d with ties := [j.client] }, xd.la, xd.lc, some ⟨w5.heap.size, 0, none⟩, 1⟩)
          rw [hw7]
          have HAT7 := Lib.hid (put_at HNW.out (fun t => KeepTy.of_grow HG6.out) HP6.out hpa HCS.out (by rw [HDP.out]; exact HWL.out) HX.out)
          have hkc7 := (six_keep (o := who * 6) (x := ⟨{ xd.d with ties := [j.client] }, xd.la, xd.lc, some ⟨w5.heap.size, 0, none⟩, 1⟩) HP6.out (t := 25) (by decide) _ _ HK6.out).cell
          have hjc7 := (six_keep (o := who * 6) (x := ⟨{ xd.d with ties := [j.client] }, xd.la, xd.lc, some ⟨w5.heap.size, 0, none⟩, 1⟩) HP6.out (t := 27) (by decide) _ _ HS6.out).cell
          have HG7 : Hid (Grow w w7) := Lib.hid (by
            rw [← hw7]
            have h3 : Below w.heap.size w w3 := HG3.out
            have h6 : Below w.heap.size w w6 := h3.trans (Below.mono HG6.out h3.size)
            exact h6.trans (sixW_below (Nat.le_trans HWR.out HLO.out)))
          rw [hw7] at HAT7 hkc7 hjc7
          have HTI := Lib.hid (HTIE.out _ (tied_of (x := ⟨{ xd.d with ties := [j.client] }, xd.la, xd.lc, some ⟨w5.heap.size, 0, none⟩, 1⟩) HDD.out HXD.out rfl) (by trivial))
          have HSD := Lib.hid (short_put (who := who) (x := ⟨{ xd.d with ties := [j.client] }, xd.la, xd.lc, some ⟨w5.heap.size, 0, none⟩, 1⟩) (short_same HDD.out HDL.out HSC.out) ⟨((short_same HDD.out HDL.out HSC.out).2.2 xd (List.mem_of_getElem? HXD.out)).1, by simp⟩)
          obtain ⟨d', hd'⟩ : ∃ z, putP d who ⟨{ xd.d with ties := [j.client] }, xd.la, xd.lc, some ⟨w5.heap.size, 0, none⟩, 1⟩ = z := ⟨_, rfl⟩
          have HCV : Hid (crewV d' = .agg #[.int .i64 d.languages, .slice (some ⟨pb, 0, none⟩) d.people.length d.pc, .slice d.wa d.laws.length d.wc]) := Lib.hid (by
            rw [← hd', ← hpa]
            show Value.agg #[.int .i64 d.languages, .slice d.pa (d.people.set who _).length d.pc, .slice d.wa d.laws.length d.wc] = _
            rw [List.length_set])
          rw [hd'] at HAT7 HTI HSD
          have HTC := Lib.hid (team_flat d' j w7.heap.size w7 HAT7.out (Nat.le_refl _) HSD.out)
          rw [HCV.out] at HTC
          clear hw7 hd' HCV HAT7 HSD HX hkc6 hbc7 hpf6 p0 p1 p2 p3 p4 p5
          go_wp2_with fail
          refine HTC.out.mono ?_
          rintro e w8 ⟨rfl, hb8⟩
          have HG8 : Hid (Grow w w8) := Lib.hid (HG7.out.trans hb8)
          clear hb8 hkc7 hjc7 HTC
          rcases HTI.out with ⟨h3, hin⟩ | ⟨h3, hin⟩
          · rw [h3]
            obtain rfl : bb = true := by rw [HIN.out]; exact decide_eq_true hin
            clear h3 hin HTI HIN
            go_wp2_with fail
            refine (works_any _).mono ?_
            rintro e w9 ⟨rfl, hb9⟩
            have HG9 : Hid (Grow w w9) := Lib.hid (HG8.out.trans hb9)
            clear hb9
            go_wp2
            go_ret
            exact ⟨rfl, HG9.out⟩
          · rw [h3]
            obtain rfl : bb = false := by rw [HIN.out]; exact decide_eq_false hin
            clear h3 hin HTI HIN
            go_wp2_with fail
            refine (works_any _).mono ?_
            rintro e w9 ⟨rfl, hb9⟩
            have HG9 : Hid (Grow w w9) := Lib.hid (HG8.out.trans hb9)
            clear hb9
            go_wp2
            go_ret
            exact ⟨rfl, HG9.out⟩

end Go.Proofs.Yticeekkfdkfcgaa
