/- Allowed: whom the specification allows, and its May. RMay: the specification's May. RBrokenApi: the specification's exported Broken, where its broken sets are known. -/
import Derived.Test.YticeekkfdkfcgaaRefs2
import Derived.Test.YticeekkfdkfcgaaMayApi
import Derived.Test.YticeekkfdkfcgaaRFits
namespace Go.Proofs.Yticeekkfdkfcgaa
open Go.RowKit

theorem break_zero (j : JobD) (p : PersonD) : decide (breakD j p = 0) = (!tiedD p j.client && (hasN p.fields.toNat j.field.toNat && hasN p.clears.toNat j.kind.toNat)) := by
  unfold breakD brkD
  cases tiedD p j.client <;> cases hasN p.fields.toNat j.field.toNat <;> cases hasN p.clears.toNat j.kind.toNat <;> decide

set_option maxRecDepth 100000 in
set_option maxHeartbeats 4000000 in
theorem rAllowed_any (c : CrewR) (j : JobD) (k : Nat) (x : PersonR) (w : World) (hP : People w w.heap.size c.pa c.people) (hx : c.people[k]? = some x) (_ : c.people.length ≤ 8) (hok : PersonOK x.d) (hj : JobOK j) :
    Calls Try.prog 40 #[crewV c, jobV j, .int .i64 (k : Nat)] w fun e w' => e = .returned (.bool (decide (breakD j x.d = 0))) ∧ Below w.heap.size w w' := by
  have hlt := lt_of_at hx
  obtain ⟨f, hf⟩ := Int.eq_ofNat_of_zero_le hok.2.1
  obtain ⟨cl, hcl⟩ := Int.eq_ofNat_of_zero_le hok.2.2.2.1
  obtain ⟨jf, hjf⟩ := Int.eq_ofNat_of_zero_le hj.1
  obtain ⟨jk, hjk⟩ := Int.eq_ofNat_of_zero_le hj.2.2.1
  obtain ⟨b1, b2, b3, b4, b5⟩ := hok
  obtain ⟨j1, j2, j3, j4⟩ := hj
  have HTI := Lib.hid (fun (w0 : World) (hw : Grow w w0) => rTied_any x j.client w0.heap.size w0 (((hP.2 x (List.mem_of_getElem? hx)).below hw).more hw.size) (Nat.le_refl _) b1)
  have HH1 := Lib.hid (fun w0 => rHas_any f jf w0 (by omega) (by omega))
  have HH2 := Lib.hid (fun w0 => rHas_any cl jk w0 (by omega) (by omega))
  have HBZ := Lib.hid (break_zero j x.d)
  have HF : Hid (x.d.fields = (f : Int)) := Lib.hid hf
  have HC : Hid (x.d.clears = (cl : Int)) := Lib.hid hcl
  have HJF : Hid (j.field = (jf : Int)) := Lib.hid hjf
  have HJK : Hid (j.kind = (jk : Int)) := Lib.hid hjk
  rw [hf, hcl, hjf, hjk] at HBZ
  have HBZ1 : Hid (decide (breakD j x.d = 0) = (!tiedD x.d j.client && (hasN f jf && hasN cl jk))) := HBZ
  have HP := Lib.hid (fun (w0 : World) (hw : Grow w w0) => hP.below hw)
  obtain ⟨r, hr⟩ : ∃ z, decide (breakD j x.d = 0) = z := ⟨_, rfl⟩
  obtain ⟨t, ht⟩ : ∃ z, tiedD x.d j.client = z := ⟨_, rfl⟩
  obtain ⟨g1, hg1⟩ : ∃ z, hasN f jf = z := ⟨_, rfl⟩
  obtain ⟨g2, hg2⟩ : ∃ z, hasN cl jk = z := ⟨_, rfl⟩
  rw [hr, ht, hg1, hg2] at HBZ1
  rw [ht] at HTI
  rw [hg1] at HH1
  rw [hg2] at HH2
  rw [hr]
  have HX := Lib.hid hx
  clear HBZ hP hx hf hcl hjf hjk hr ht hg1 hg2 b1 b2 b3 b4 b5 j1 j2 j3 j4
  go_enter Try.func40, Try.ntmps40
  go_upto_region 1 with fail
  obtain ⟨W, hW, hg, hfr, hs1, _⟩ := two_blocks w 25 27 (cellsC c) (cellsJ j)
  rw [hW]
  clear hW
  have hcc := hfr.cell
  have HS1 := Lib.hid hs1
  have HG := Lib.hid hg
  obtain ⟨pb, off, y, hpa, hbl, hcx, hpx, HY⟩ := (HP.out W hg).at_ hlt
  obtain rfl : y = x := by
    have h := HY.out
    rw [HX.out] at h
    exact (Option.some.inj h).symm
  have e0 := hcx 0 (by omega); have e1 := hcx 1 (by omega); have e2 := hcx 2 (by omega); have e3 := hcx 3 (by omega); have e4 := hcx 4 (by omega); have e5 := hcx 5 (by omega)
  rw [Nat.add_zero] at e0
  have hk0 : (0 : Int) ≤ (k : Int) := by omega
  have hk1 : (k : Int) < (c.people.length : Int) := by omega
  clear hg hfr hs1 hcx hpx hlt
  go_upto_region 2 with fail
  obtain ⟨W2, hW2, hg2, hp2, _⟩ := one_block W 52 (cellsP y)
  rw [hW2]
  have HG2 : Hid (Grow w W2) := Lib.hid (HG.out.trans hg2)
  have hjc := (Grow.block hg2 HS1.out).cell
  have hpc := hp2.cell
  have HPB := Lib.hid hp2
  have HJB := Lib.hid (Grow.block hg2 HS1.out)
  clear hW2 hg2 hp2 hcc e0 e1 e2 e3 e4 e5
  go_wp2_with fail
  refine (HTI.out W2 HG2.out).mono ?_
  rintro e w3 ⟨rfl, hg3⟩
  have hg3 : Grow W2 w3 := hg3
  have HG3 : Hid (Grow w w3) := Lib.hid (HG2.out.trans hg3)
  have c1 : w3.cell? ⟨W.heap.size, 1, none⟩ = some (.int .i64 (f : Nat)) := by rw [(Grow.block hg3 HPB.out).cell, ← HF.out]; rfl
  have c2 : w3.cell? ⟨W.heap.size, 2, none⟩ = some (.int .i64 (cl : Nat)) := by rw [(Grow.block hg3 HPB.out).cell, ← HC.out]; rfl
  have c3 : w3.cell? ⟨w.heap.size + 1, 3, none⟩ = some (.int .i64 (jf : Nat)) := by rw [(Grow.block hg3 HJB.out).cell, ← HJF.out]; rfl
  have c4 : w3.cell? ⟨w.heap.size + 1, 4, none⟩ = some (.int .i64 (jk : Nat)) := by rw [(Grow.block hg3 HJB.out).cell, ← HJK.out]; rfl
  clear hg3 hjc hpc
  cases t with
  | true =>
    obtain rfl : r = false := HBZ1.out
    go_wp2
    go_ret
    exact ⟨rfl, HG3.out⟩
  | false =>
    cases g1 with
    | false =>
      obtain rfl : r = false := HBZ1.out
      go_wp2_with fail
      refine (HH1.out _).mono ?_
      rintro e w4 ⟨rfl, rfl⟩
      go_wp2
      go_ret
      exact ⟨rfl, HG3.out⟩
    | true =>
      obtain rfl : r = g2 := HBZ1.out
      go_wp2_with fail
      refine (HH1.out _).mono ?_
      rintro e w4 ⟨rfl, rfl⟩
      go_wp2_with fail
      refine (HH2.out _).mono ?_
      rintro e w5 ⟨rfl, rfl⟩
      go_wp2
      go_ret
      exact ⟨rfl, HG3.out⟩

end Go.Proofs.Yticeekkfdkfcgaa

namespace Go.Proofs.Yticeekkfdkfcgaa
open Go.RowKit

set_option maxRecDepth 100000 in
set_option maxHeartbeats 16000000 in
theorem rMay_any (c : CrewR) (j : JobD) (n : Nat) (w : World) (hA : CrewAt w n c) (hn : n ≤ w.heap.size) (hs : Short c) :
    Calls Try.prog 16 #[crewV c, jobV j] w fun e w' => ∃ A cap, e = .returned (.tuple #[.slice A (mayL c j).length cap, .int .i64 (crewErr c.d j)]) ∧ Ints w' w'.heap.size A (natsL (mayL c j)) ∧ Below w.heap.size w w' := by
  obtain ⟨i0, hi, hz0, hz1, hz2⟩ := info_parts Try.infoInt
  have HAT := Lib.hid (fun (w0 : World) (hw : Grow w w0) => ((hA.more hn).below hw).more hw.size)
  have HC := Lib.hid (fun (w0 : World) (hw : Grow w w0) => rCheck_any c j w0.heap.size w0 (HAT.out w0 hw) (Nat.le_refl _) hs)
  have HML : Hid (mayL c j = if crewErr c.d j ≠ 0 then [] else zerosTo (setsL c j) c.people.length) := Lib.hid rfl
  have HOK : Hid (crewErr c.d j = 0 → c.people.length ≤ 8 ∧ JobOK j ∧ ∀ x ∈ c.people, PersonOK x.d) := Lib.hid (fun h => by
    have h2 : okCrew c.d = true := by
      cases hk : okCrew c.d with
      | true => rfl
      | false => rw [crewErr, if_pos hk] at h; cases h
    have h3 : okJob c.languages j = true := by
      cases hk : okJob c.languages j with
      | true => rfl
      | false => rw [crewErr, if_neg (by rw [h2]; decide), if_pos hk] at h; cases h
    exact ⟨(good_ok h2 h3).len, (okJob_ok h3).ok, fun x hx => okPerson_ok ((okCrew_ok h2).people x.d (List.mem_map.2 ⟨x, hx, rfl⟩))⟩)
  obtain ⟨ml, hml⟩ : ∃ z, mayL c j = z := ⟨_, rfl⟩
  obtain ⟨er, her⟩ : ∃ z, crewErr c.d j = z := ⟨_, rfl⟩
  rw [hml, her] at HML
  rw [her] at HC HOK
  rw [hml, her]
  clear hA hn her hml
  go_enter Try.func16, Try.ntmps16
  go_upto_region 1 with fail
  obtain ⟨W, hW, hg, hf, hs1, hsz⟩ := two_blocks w 25 27 (cellsC c) (cellsJ j)
  rw [hW]
  clear hW
  have hcc := hf.cell
  have hjc := hs1.cell
  have HF := Lib.hid hf
  have HS1 := Lib.hid hs1
  have HG := Lib.hid hg
  clear hf hs1 hg
  go_wp2_with fail
  refine (HC.out W HG.out).mono ?_
  rintro e w1 ⟨rfl, hb1⟩
  have HG1 : Hid (Grow W w1) := hb1
  clear hb1 hcc hjc HC
  by_cases h0 : er = 0
  · subst h0
    obtain ⟨hl8, hjo, hpo⟩ := HOK.out rfl
    have HM1 : Hid (ml = zerosTo (setsL c j) c.people.length) := HML
    have HAL := Lib.hid (fun (k : Nat) (x : PersonR) (w0 : World) (hw : Grow w w0) (hx : c.people[k]? = some x) => rAllowed_any c j k x w0 (HAT.out w0 hw).1 hx hl8 (hpo x (List.mem_of_getElem? hx)) hjo)
    obtain ⟨bl, hbl⟩ : ∃ z, setsL c j = z := ⟨_, rfl⟩
    have HBL : Hid (∀ (k : Nat) (x : PersonR), c.people[k]? = some x → bl[k]? = some (breakD j x.d)) := Lib.hid (fun k x hx => by rw [← hbl, List.getElem?_map, hx]; rfl)
    rw [hbl] at HM1
    clear hbl HML HOK HAT hjo hpo
    go_upto_region 6 with fail
    go_loopw [7, 8] (fun v iv wr => ∃ (k : Nat) (A : Option Addr) (cap n : Nat), k ≤ c.people.length ∧ iv = .int .i64 k ∧ v = .slice A n cap ∧ Hid (n = (zerosTo bl k).length) ∧ n ≤ 8 ∧ wr.ownsRow w1.heap.size 3 1 (.slice A n cap) n ((natsL (zerosTo bl k)).map (Value.int .i64)) ∧ Grow w1 wr) (fun _ v _ => c.people.length - (intOf v).toNat)
    case atStart => exact ⟨0, none, 0, 0, by omega, rfl, rfl, rfl, by omega, nil_own _ _ _, Grow.refl _⟩
    case round =>
      obtain ⟨k, A, cap, n, hk, rfl, rfl, HN, hn8, hown, hgr⟩ := hrel
      rename World => wr
      have HOW := Lib.hid hown
      have HGR := Lib.hid hgr
      have hcc := (Grow.block (HG1.out.trans HGR.out) HF.out).cell
      have hjc := (Grow.block (HG1.out.trans HGR.out) HS1.out).cell
      clear hown hgr
      by_cases hlt : k < c.people.length
      · have hk0 : (0 : Int) ≤ (k : Int) := by omega
        have hk1 : (k : Int) < (c.people.length : Int) := by omega
        have hd : decide ((k : Int) < (c.people.length : Int)) = true := decide_eq_true hk1
        obtain ⟨x, hx⟩ : ∃ x, c.people[k]? = some x := ⟨_, List.getElem?_eq_getElem hlt⟩
        have hbx := HBL.out k x hx
        have HAX := Lib.hid (HAL.out k x wr (HG.out.trans (HG1.out.trans HGR.out)) hx)
        obtain ⟨bv, hbv⟩ : ∃ z, breakD j x.d = z := ⟨_, rfl⟩
        rw [hbv] at hbx HAX
        clear hx hbv
        by_cases hz : bv = 0
        · subst hz
          have HIN := Lib.hid (zeros_in hbx)
          have HAY : Hid (Calls Try.prog 40 #[crewV c, jobV j, .int .i64 (k : Nat)] wr fun e w' => e = .returned (.bool true) ∧ Below wr.heap.size wr w') := HAX
          clear hbx HAX
          go_wp2_with fail
          refine HAY.out.mono ?_
          rintro e w3 ⟨rfl, hg3⟩
          have HG3 : Hid (Grow wr w3) := hg3
          have HOW2 := Lib.hid (own_grow (own_grow HOW.out hg3) (Grow.alloc w3 (.cells #[.int .i64 k] 3)))
          clear hg3 hcc hjc
          go_wp2_with (at_builtin; go_loud (refine wpList_append_own _ rfl _ _ 33 rfl w1.heap.size 3 i0 (.int .i64 0) 1 8 Try.underlying33 hi hz0 hz1 hz2 rfl (by omega) _ n ((natsL (zerosTo bl k)).map (Value.int .i64)) rfl ?d0 ⟨w3.heap.size, 0, none⟩ 1 1 [.int .i64 k] rfl rfl ?d1 ?d2 ?d3 ?d4 ?d5 ?_))
          case d0 => exact HOW2.out
          case d1 => exact news_one (BlockIs.new _ _ _)
          case d2 => simp [Value.oneCell']
          case d3 => unfold maxLen; omega
          case d4 => omega
          case d5 => have := (HGR.out.trans HG3.out).size; simp; omega
          intro v' w4 hown hgr _
          obtain ⟨Aw, cw, rfl⟩ := own_form hown
          have HOW3 : Hid (w4.ownsRow w1.heap.size 3 1 (.slice Aw (n + 1) cw) (n + 1) ((natsL (zerosTo bl (k + 1))).map (Value.int .i64))) := Lib.hid (by
            rw [HIN.out, natsL_snoc, List.map_append]
            simpa using hown)
          have HG4 : Hid (Grow w1 w4) := Lib.hid (below_grown ((HGR.out.trans HG3.out).trans (Grow.alloc _ _)) HOW2.out hgr (by have := (HGR.out.trans HG3.out).size; simp; omega))
          have HN3 : Hid (n + 1 = (zerosTo bl (k + 1)).length) := Lib.hid (by rw [HIN.out, List.length_append, ← HN.out]; rfl)
          have hn4 : n + 1 ≤ 8 := by have h1 := HN3.out; have h2 := zeros_len bl (k + 1); omega
          clear hown hgr HOW2
          go_wp2
          go_roundw
          case rel => exact ⟨k + 1, Aw, cw, n + 1, by omega, by go_num, rfl, HN3.out, hn4, HOW3.out, HG4.out⟩
          case measure => simp [intOf]; omega
        · have HOUT := Lib.hid (zeros_out (b := bl) (k := k) (by rw [hbx]; simpa using hz))
          have HAY : Hid (Calls Try.prog 40 #[crewV c, jobV j, .int .i64 (k : Nat)] wr fun e w' => e = .returned (.bool false) ∧ Below wr.heap.size wr w') := Lib.hid (by
            have h := HAX.out
            rw [decide_eq_false hz] at h
            exact h)
          clear hbx HAX
          go_wp2_with fail
          refine HAY.out.mono ?_
          rintro e w3 ⟨rfl, hg3⟩
          have HG3 : Hid (Grow wr w3) := hg3
          have HOW3 := Lib.hid (own_grow HOW.out hg3)
          clear hg3 hcc hjc
          go_wp2
          go_roundw
          case rel => exact ⟨k + 1, A, cap, n, by omega, by go_num, rfl, by rw [HOUT.out]; exact HN.out, hn8, by rw [HOUT.out]; exact HOW3.out, HGR.out.trans HG3.out⟩
          case measure => simp [intOf]; omega
      · have hq : decide ((k : Int) < (c.people.length : Int)) = false := decide_eq_false (by omega)
        have hke : k = c.people.length := by omega
        have HE : Hid (n = ml.length ∧ natsL (zerosTo bl k) = natsL ml) := Lib.hid (by rw [HM1.out, HN.out, hke]; exact ⟨rfl, rfl⟩)
        clear hke
        go_wp2
        all_goals (refine bodyPost_ret (results_pair45 Try.results16 _ _ _ _ rfl rfl) rfl ?_; refine ⟨A, cap, ?_, ?_, HG.out.trans (HG1.out.trans HGR.out)⟩)
        · rw [← HE.out.1]; rfl
        · rw [← HE.out.2]; exact (own_ints HOW.out).1
  · have HMN : Hid (ml = []) := Lib.hid (HML.out.trans (if_pos h0))
    have hne : (er != 0) = true := by simpa using h0
    go_wp2
    all_goals (refine bodyPost_ret (results_pair45 Try.results16 _ _ _ _ rfl rfl) rfl ?_; refine ⟨none, 0, ?_, ?_, HG.out.trans HG1.out⟩)
    · rw [HMN.out]; rfl
    · rw [HMN.out]; exact .inl rfl

end Go.Proofs.Yticeekkfdkfcgaa

namespace Go.Proofs.Yticeekkfdkfcgaa
open Go.RowKit

set_option maxRecDepth 100000 in
set_option maxHeartbeats 16000000 in
theorem rBrokenApi_any (c : CrewR) (j : JobD) (f : Nat → Nat) (team : Int) (n : Nat) (w : World) (hA : CrewAt w n c) (hn : n ≤ w.heap.size) (hs : Short c) (hRB : teamErr c.d j team = 0 → RB c j f w) (hl : teamErr c.d j team = 0 → c.people.length ≤ 8) :
    Calls Try.prog 18 #[crewV c, jobV j, .int .i64 team] w fun e w' => ∃ b : Nat, e = .returned (.tuple #[.int .i64 b, .int .i64 (teamErr c.d j team)]) ∧ (teamErr c.d j team ≠ 0 → b = 0) ∧ (teamErr c.d j team = 0 → b = f team.toNat) ∧ Below w.heap.size w w' := by
  have HC := Lib.hid (fun (w0 : World) (hw : Grow w w0) => rCheckTeam_any c j team w0.heap.size w0 (((hA.more hn).below hw).more hw.size) (Nat.le_refl _) hs)
  have HRB := Lib.hid hRB
  have HTN := Lib.hid (fun (h : teamErr c.d j team = 0) => team_nat h (hl h))
  obtain ⟨te, hte⟩ : ∃ z, teamErr c.d j team = z := ⟨_, rfl⟩
  rw [hte] at HC HRB HTN ⊢
  clear hA hn hte hRB hl
  go_enter Try.func18, Try.ntmps18
  go_upto_region 1 with fail
  obtain ⟨W, hW, hg, hf, hs1, hsz⟩ := two_blocks w 25 27 (cellsC c) (cellsJ j)
  rw [hW]
  clear hW
  have hcc := hf.cell
  have hjc := hs1.cell
  have HF := Lib.hid hf
  have HS := Lib.hid hs1
  have HG := Lib.hid hg
  clear hf hs1 hg
  go_wp2_with fail
  refine (HC.out W HG.out).mono ?_
  rintro e w1 ⟨rfl, hb1⟩
  have HG1 : Hid (Grow W w1) := hb1
  have hcc1 := (HG1.out.block HF.out).cell
  have hjc1 := (HG1.out.block HS.out).cell
  clear hb1 hcc hjc HC
  by_cases h0 : te = 0
  · subst h0
    obtain ⟨t, rfl, ht1, ht2⟩ := HTN.out rfl
    have HB := Lib.hid (fun w0 hw => HRB.out rfl t w0 ht2 hw)
    clear HTN HRB ht1
    go_wp2_with fail
    refine (HB.out w1 (HG.out.trans HG1.out)).mono ?_
    rintro e w2 ⟨rfl, hb2⟩
    have HG2 : Hid (Grow W w2) := Lib.hid (HG1.out.trans hb2)
    clear hb2 hcc1 hjc1
    go_wp2
    all_goals (refine bodyPost_ret (results_pair67 Try.results18 _ _ _ _ rfl rfl) rfl ?_; exact ⟨_, rfl, rfl, HG.out.trans HG2.out⟩)
  · have hne : (te != 0) = true := by simpa using h0
    go_wp2
    all_goals (refine bodyPost_ret (results_pair67 Try.results18 _ _ _ _ rfl rfl) rfl ?_; exact ⟨0, rfl, fun _ => rfl, fun h => absurd h h0, HG.out.trans HG1.out⟩)

end Go.Proofs.Yticeekkfdkfcgaa

