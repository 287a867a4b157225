/- Refs: the specification's IsTeam, checkTeam and Fee. Refs2: the specification's Fee, Joins and Allowed. -/
import Derived.Test.YticeekkfdkfcgaaApiT
import Derived.Test.YticeekkfdkfcgaaJob
namespace Go.Proofs.Yticeekkfdkfcgaa
open Go.RowKit

set_option maxRecDepth 100000 in
set_option maxHeartbeats 4000000 in
theorem rIsTeam_any (c : CrewR) (team : Int) (w : World) (hl8 : c.people.length ≤ 8) :
    Calls Try.prog 29 #[crewV c, .int .i64 team] w fun e w' => e = .returned (.bool (inB team 0 (2 ^ c.people.length - 1))) ∧ Below w.heap.size w w' := by
  have HW := Lib.hid (fun w0 => rwithin_any team 0 (2 ^ c.people.length - 1) w0)
  have hl0 : (0 : Int) ≤ (c.people.length : Int) := by omega
  have hl64 : c.people.length ≤ 64 := by omega
  have hcv : IntKind.u64.wrap (c.people.length : Int) = (c.people.length : Int) := IntWalk.u64_in _ (by omega)
  have hpl : 2 ^ c.people.length ≤ 256 := Nat.pow_le_pow_right (n := 2) (by omega) hl8
  have hp1 : 1 ≤ 2 ^ c.people.length := Nat.one_le_two_pow
  have hpI : ((2 : Int) ^ c.people.length) = ((2 ^ c.people.length : Nat) : Int) := (Int.natCast_pow 2 _).symm
  have hwr : IntKind.i64.wrap ((2 : Int) ^ c.people.length) = (2 : Int) ^ c.people.length := by
    rw [hpI]
    exact IntWalk.i64_in _ (by omega)
  have hwr2 : IntKind.i64.wrap ((2 : Int) ^ c.people.length - 1) = (2 : Int) ^ c.people.length - 1 := by
    rw [hpI]
    exact IntWalk.i64_in _ (by omega)
  clear hpI hpl hp1
  obtain ⟨ib, hib⟩ : ∃ z, inB team 0 (2 ^ c.people.length - 1) = z := ⟨_, rfl⟩
  rw [hib] at HW ⊢
  clear hib
  go_enter Try.func29, Try.ntmps29
  go_wp2_with fail
  refine (HW.out _).mono ?_
  rintro e w2 ⟨rfl, rfl⟩
  go_wp2
  go_ret
  exact ⟨rfl, Grow.alloc _ _⟩

set_option maxRecDepth 100000 in
set_option maxHeartbeats 4000000 in
theorem rCheckTeam_any (c : CrewR) (j : JobD) (team : Int) (n : Nat) (w : World) (hA : CrewAt w n c) (hn : n ≤ w.heap.size) (hs : Short c) :
    Calls Try.prog 43 #[crewV c, jobV j, .int .i64 team] w fun e w' => e = .returned (.int .i64 (teamErr c.d j team)) ∧ Below w.heap.size w w' := by
  have HC := Lib.hid (fun (w0 : World) (hw : Grow w w0) => rCheck_any c j w0.heap.size w0 (((hA.more hn).below hw).more hw.size) (Nat.le_refl _) hs)
  have HE : Hid (teamErr c.d j team = if crewErr c.d j ≠ 0 then crewErr c.d j else if inB team 0 (2 ^ c.people.length - 1) = false then 1 else 0) := Lib.hid (by unfold teamErr; rw [show c.d.people.length = c.people.length from List.length_map ..])
  have HL8 : Hid (crewErr c.d j = 0 → c.people.length ≤ 8) := Lib.hid (fun h => by
    have h2 : okCrew c.d = true := by
      cases hk : okCrew c.d with
      | true => rfl
      | false => rw [crewErr, if_pos hk] at h; cases h
    have h3 := (okCrew_ok h2).count
    rwa [show c.d.people.length = c.people.length from List.length_map ..] at h3)
  have HT : Hid (c.people.length ≤ 8 → ∀ w0, Calls Try.prog 29 #[crewV c, .int .i64 team] w0 fun e w' => e = .returned (.bool (inB team 0 (2 ^ c.people.length - 1))) ∧ Below w0.heap.size w0 w') := Lib.hid fun h w0 => rIsTeam_any c team w0 h
  obtain ⟨te, hte⟩ : ∃ z, teamErr c.d j team = z := ⟨_, rfl⟩
  obtain ⟨er, her⟩ : ∃ z, crewErr c.d j = z := ⟨_, rfl⟩
  obtain ⟨inb, hinb⟩ : ∃ z, inB team 0 (2 ^ c.people.length - 1) = z := ⟨_, rfl⟩
  rw [hte, her, hinb] at HE
  rw [her] at HC HL8
  rw [hinb] at HT
  rw [hte]
  clear hA hn hte her hinb
  go_enter Try.func43, Try.ntmps43
  go_upto_region 1 with fail
  obtain ⟨W, hW, hg, hf, hs1, hsz⟩ := two_blocks w 25 27 (cellsC c) (cellsJ j)
  rw [hW]
  clear hW
  have hcc := hf.cell
  have hjc := hs1.cell
  have HF := Lib.hid hf
  have HG := Lib.hid hg
  clear hf hs1 hg
  go_wp2_with fail
  refine (HC.out W HG.out).mono ?_
  rintro e w1 ⟨rfl, hb1⟩
  have HG1 : Hid (Grow W w1) := hb1
  have hcc1 := (HG1.out.block HF.out).cell
  clear hb1 hcc hjc
  by_cases h0 : er = 0
  · subst h0
    have HE1 : Hid (te = if inb = false then 1 else 0) := HE
    have HT1 := Lib.hid (HT.out (HL8.out rfl))
    clear HE HT HL8
    go_wp2_with fail
    refine (HT1.out _).mono ?_
    rintro e w2 ⟨rfl, hb2⟩
    have HG2 : Hid (Grow w1 w2) := hb2
    clear hb2
    cases inb with
    | false =>
      obtain rfl : te = 1 := HE1.out
      go_wp2
      go_ret
      exact ⟨rfl, HG.out.trans (HG1.out.trans HG2.out)⟩
    | true =>
      obtain rfl : te = 0 := HE1.out
      go_wp2
      go_ret
      exact ⟨rfl, HG.out.trans (HG1.out.trans HG2.out)⟩
  · obtain rfl : te = er := by rw [HE.out, if_pos h0]
    have hne : (te != 0) = true := by simpa using h0
    go_wp2
    go_ret
    exact ⟨rfl, HG.out.trans HG1.out⟩

end Go.Proofs.Yticeekkfdkfcgaa

namespace Go.Proofs.Yticeekkfdkfcgaa
open Go.RowKit

set_option maxRecDepth 100000 in
set_option maxHeartbeats 4000000 in
theorem rFee_any (c : CrewR) (team : Nat) (w : World) (hP : People w w.heap.size c.pa c.people) (hl : c.people.length ≤ 8) (ht : team < 1024) (hf : ∀ x ∈ c.people, 0 ≤ x.d.fee ∧ x.d.fee ≤ 1000) :
    Calls Try.prog 30 #[crewV c, .int .i64 (team : Nat)] w fun e w' => e = .returned (.int .i64 (feeL (membersL c.people team))) ∧ Below w.heap.size w w' := by
  have HP := Lib.hid (fun (w0 : World) (hw : Grow w w0) => hP.below hw)
  have HHAS := Lib.hid (fun k (hk : k ≤ 40) w0 => rHas_any team k w0 (by omega) hk)
  have HB := Lib.hid (fun l => feeL_bound hf l)
  have hf0 := hf
  clear hP hf
  go_enter Try.func30, Try.ntmps30
  go_upto_region 1 with fail
  obtain ⟨W, hW, hg, hfr, _⟩ := one_block w 25 (cellsC c)
  rw [hW]
  clear hW
  have hcc := hfr.cell
  have HG := Lib.hid hg
  clear hg hfr
  go_upto_region 3 with fail
  go_loopw [5, 6] (fun v iv wr => ∃ (k : Nat), k ≤ c.people.length ∧ iv = .int .i64 k ∧ v = .int .i64 (feeL (memTo c.people team k)) ∧ wr = W) (fun _ v _ => c.people.length - (intOf v).toNat)
  case atStart => exact ⟨0, by omega, rfl, rfl, rfl⟩
  case round =>
    obtain ⟨k, hk, rfl, rfl, rfl⟩ := hrel
    by_cases hlt : k < c.people.length
    · obtain ⟨b, off, x, hpa, hbl, hcx, hpx, HX⟩ := (HP.out _ HG.out).at_ hlt
      have e5 := hcx 5 (by omega)
      have hk0 : (0 : Int) ≤ (k : Int) := by omega
      have hk1 : (k : Int) < (c.people.length : Int) := by omega
      have hd1 : decide ((k : Int) < (c.people.length : Int)) = true := decide_eq_true (by omega)
      have HH := Lib.hid (fun w0 => HHAS.out k (by omega) w0)
      have hny := memTo_yes (team := team) HX.out
      have hnn := memTo_no (P := c.people) (team := team) (k := k)
      have hb1 := HB.out (memTo c.people team k)
      have hlen := memTo_len c.people team k
      have hfx := hf0 x (List.mem_of_getElem? HX.out)
      obtain ⟨s, hs⟩ : ∃ z, feeL (memTo c.people team k) = z := ⟨_, rfl⟩
      obtain ⟨hb, hhb⟩ : ∃ z, hasN team k = z := ⟨_, rfl⟩
      rw [hhb] at HH hny hnn
      rw [hs] at hb1 ⊢
      have HS := Lib.hid hs
      have hwr : IntKind.i64.wrap (s + x.d.fee) = s + x.d.fee := IntWalk.i64_in _ (by omega)
      clear hhb hcx hpx hs
      cases hb with
      | false =>
        have HN := Lib.hid (hnn rfl)
        clear hny hnn
        go_wp2_with fail
        refine (HH.out _).mono ?_
        rintro e w2 ⟨rfl, rfl⟩
        go_wp2
        go_roundw
        case rel => exact ⟨k + 1, by omega, by simp, by rw [HN.out, HS.out], by simp⟩
        case measure => simp [intOf]; omega
      | true =>
        have HN := Lib.hid (hny rfl)
        clear hny hnn
        go_wp2_with fail
        refine (HH.out _).mono ?_
        rintro e w2 ⟨rfl, rfl⟩
        go_wp2
        go_roundw
        case rel => exact ⟨k + 1, by omega, by simp, by rw [HN.out, feeL_snoc, HS.out], by simp⟩
        case measure => simp [intOf]; omega
    · obtain rfl : k = c.people.length := by omega
      go_wp2
      go_ret
      exact ⟨rfl, HG.out⟩

set_option maxRecDepth 100000 in
set_option maxHeartbeats 4000000 in
theorem rJoins_any (c : CrewR) (team a b : Nat) (lv : Int) (w : World) (hP : People w w.heap.size c.pa c.people) (hl : c.people.length ≤ 8) (ht : team < 1024) (hv : ∀ x ∈ c.people, a < x.d.levels.length ∧ b < x.d.levels.length) :
    Calls Try.prog 36 #[crewV c, .int .i64 (team : Nat), .int .i64 lv, .int .i64 (a : Nat), .int .i64 (b : Nat)] w fun e w' => e = .returned (.bool (joinsL lv a b (membersL c.people team))) ∧ Below w.heap.size w w' := by
  have HP := Lib.hid (fun (w0 : World) (hw : Grow w w0) => hP.below hw)
  have HHAS := Lib.hid (fun k (hk : k ≤ 40) w0 => rHas_any team k w0 (by omega) hk)
  have HV := Lib.hid hv
  have HTO := Lib.hid (fun (k : Nat) (h : joinsL lv a b (memTo c.people team k) = true) (hk : k ≤ c.people.length) => joinsL_to h hk)
  have HFI : Hid (membersL c.people team = memTo c.people team c.people.length) := Lib.hid rfl
  obtain ⟨res, hres⟩ : ∃ z, joinsL lv a b (membersL c.people team) = z := ⟨_, rfl⟩
  rw [hres]
  have HRES := Lib.hid hres
  clear hP hv hres
  go_enter Try.func36, Try.ntmps36
  go_upto_region 1 with fail
  obtain ⟨W, hW, hg, hfr, _⟩ := one_block w 25 (cellsC c)
  rw [hW]
  clear hW
  have hcc := hfr.cell
  have HG := Lib.hid hg
  clear hg hfr
  go_upto_region 2 with fail
  go_loopw [11] (fun iv wr => ∃ (k : Nat), k ≤ c.people.length ∧ iv = .int .i64 k ∧ Hid (joinsL lv a b (memTo c.people team k) = false) ∧ wr = W) (fun v _ => c.people.length - (intOf v).toNat)
  case atStart => exact ⟨0, by omega, rfl, rfl, rfl⟩
  case round =>
    obtain ⟨k, hk, rfl, HK, rfl⟩ := hrel
    by_cases hlt : k < c.people.length
    · obtain ⟨pb, off, x, hpa, hbl, hcx, hpx, HX⟩ := (HP.out _ HG.out).at_ hlt
      have e0 := hcx 0 (by omega)
      rw [Nat.add_zero] at e0
      have hk0 : (0 : Int) ≤ (k : Int) := by omega
      have hk1 : (k : Int) < (c.people.length : Int) := by omega
      have hd1 : decide ((k : Int) < (c.people.length : Int)) = true := decide_eq_true (by omega)
      have HH := Lib.hid (fun w0 => HHAS.out k (by omega) w0)
      have hvx := HV.out x (List.mem_of_getElem? HX.out)
      obtain ⟨b1, o1, y1, hla, hlb, hc1, H1⟩ := hpx.1.at_ hvx.1
      obtain ⟨b2, o2, y2, hla2, _, hc2, H2⟩ := hpx.1.at_ hvx.2
      obtain ⟨rfl, rfl⟩ : b1 = b2 ∧ o1 = o2 := by
        rw [hla] at hla2
        simpa using hla2
      have hny := memTo_yes (team := team) HX.out
      have hnn := memTo_no (P := c.people) (team := team) (k := k)
      obtain ⟨hb, hhb⟩ : ∃ z, hasN team k = z := ⟨_, rfl⟩
      rw [hhb] at HH hny hnn
      have HBO : Hid (bothD lv a b x.d = (decide (lv ≤ y1) && decide (lv ≤ y2))) := Lib.hid (by
        unfold bothD lvD
        rw [H1.out, H2.out]
        show decide (lv ≤ min y1 y2) = _
        rw [← Bool.decide_and]
        exact decide_eq_decide.2 Int.le_min)
      have ha0 : (0 : Int) ≤ (a : Int) := by omega
      have hb0 : (0 : Int) ≤ (b : Int) := by omega
      have ha1 : (a : Int) < (x.d.levels.length : Int) := by have := hvx.1; omega
      have hb1 : (b : Int) < (x.d.levels.length : Int) := by have := hvx.2; omega
      clear hhb hcx hpx hvx hla2
      cases hb with
      | false =>
        have HN := Lib.hid (hnn rfl)
        clear hny hnn
        go_wp2_with fail
        refine (HH.out _).mono ?_
        rintro e w2 ⟨rfl, rfl⟩
        go_wp2
        go_roundw
        case rel => exact ⟨k + 1, by omega, by simp, by rw [HN.out]; exact HK, by simp⟩
        case measure => simp [intOf]; omega
      | true =>
        have HN := Lib.hid (hny rfl)
        clear hny hnn
        have HJ : Hid (joinsL lv a b (memTo c.people team (k + 1)) = (decide (lv ≤ y1) && decide (lv ≤ y2))) := Lib.hid (by
          rw [HN.out, ← HBO.out]
          have := HK.out
          unfold joinsL at this ⊢
          rw [List.any_append, this]
          simp)
        have HJT := Lib.hid (fun h => HTO.out (k + 1) h (by omega))
        by_cases h1 : lv ≤ y1
        · by_cases h2 : lv ≤ y2
          · obtain rfl : res = true := by rw [← HRES.out]; exact HJT.out (by rw [HJ.out]; simp [h1, h2])
            have d1 : decide (y1 ≥ lv) = true := decide_eq_true h1
            have d2 : decide (y2 ≥ lv) = true := decide_eq_true h2
            go_wp2_with fail
            refine (HH.out _).mono ?_
            rintro e w2 ⟨rfl, rfl⟩
            go_wp2
            go_ret
            exact ⟨rfl, HG.out⟩
          · have d1 : decide (y1 ≥ lv) = true := decide_eq_true h1
            have d2 : decide (y2 ≥ lv) = false := decide_eq_false h2
            have HK2 : Hid (joinsL lv a b (memTo c.people team (k + 1)) = false) := Lib.hid (by rw [HJ.out]; simp [h2])
            go_wp2_with fail
            refine (HH.out _).mono ?_
            rintro e w2 ⟨rfl, rfl⟩
            go_wp2
            go_roundw
            case rel => exact ⟨k + 1, by omega, by simp, HK2, by simp⟩
            case measure => simp [intOf]; omega
        · have d1 : decide (y1 ≥ lv) = false := decide_eq_false h1
          have HK2 : Hid (joinsL lv a b (memTo c.people team (k + 1)) = false) := Lib.hid (by rw [HJ.out]; simp [h1])
          go_wp2_with fail
          refine (HH.out _).mono ?_
          rintro e w2 ⟨rfl, rfl⟩
          go_wp2
          go_roundw
          case rel => exact ⟨k + 1, by omega, by simp, HK2, by simp⟩
          case measure => simp [intOf]; omega
    · obtain rfl : k = c.people.length := by omega
      obtain rfl : res = false := by rw [← HRES.out, HFI.out]; exact HK.out
      go_wp2
      go_ret
      exact ⟨rfl, HG.out⟩

end Go.Proofs.Yticeekkfdkfcgaa

