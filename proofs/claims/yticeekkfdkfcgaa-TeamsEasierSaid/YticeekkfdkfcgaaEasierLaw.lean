/- EasierLaw: TeamsEasier; written by wip/tools/easier3.py. -/
import Derived.Test.YticeekkfdkfcgaaEasierF
import Derived.Test.YticeekkfdkfcgaaWorks
import Derived.Deep.DeepCutAuto
import Derived.Deep.RegionLaw
namespace Go.Proofs.Yticeekkfdkfcgaa
open Go.RowKit

/-- the argument: a person more, and what is eased of whom -/
structure EaseR where
  x : PersonR
  who : Int
  tie : Int
  ef : Int
  ec : Int
  lang : Int
  amt : Int
abbrev cellsE (e : EaseR) : Array Value := #[.slice e.x.la e.x.d.levels.length e.x.lc, .int .i64 e.x.d.fields, .int .i64 e.x.d.clears, .slice e.x.ta e.x.d.ties.length e.x.tc, .bool e.x.d.deaf, .int .i64 e.x.d.fee, .int .i64 e.who, .int .i64 e.tie, .int .i64 e.ef, .int .i64 e.ec, .int .i64 e.lang, .int .i64 e.amt]
abbrev easeV (e : EaseR) : Value := .agg (cellsE e)
/-- a copied crew, one person longer -/
def longer (d : CrewR) (x : PersonR) (A : Option Addr) (cap : Nat) : CrewR := { d with people := d.people ++ [x], pa := A, pc := cap }
theorem longer_at {w w' : World} {lo cap : Nat} {A : Option Addr} {d : CrewR} {x : PersonR} (hnew : NewCrew w lo d) (hI : KeepTy 3 w w') (hL : KeepTy 58 w w') (hx : PersonAt w' w'.heap.size x)
    (hrow : w'.ownsRow lo 52 6 (.slice A (d.people.length + 1) cap) (d.people.length + 1) ((d.people ++ [x]).flatMap cellsPL)) : CrewAt w' w'.heap.size (longer d x A cap) := by
  have hlen : (d.people ++ [x]).length = d.people.length + 1 := by simp
  refine ⟨⟨?_, fun y hy => ?_⟩, ?_⟩
  · rcases own_flat (enc := cellsPL) (fun _ => rfl) hrow hlen.symm with e | ⟨b, cs, e, _, hB, _, _, hc⟩
    · simp at e
    · exact .inr ⟨b, 0, e, hB.lt, fun i y hi j hj => by rw [hB.cell, Nat.zero_add, hc i y hi j hj]; exact Array.getElem?_toList⟩
  · rcases List.mem_append.1 hy with h | h
    · exact (hnew.rows.keep hI).mem h
    · rw [List.mem_singleton] at h
      subst h
      exact hx
  · rcases own_flat (enc := cellsLL) (fun _ => rfl) (own_keep hnew.laws hL) rfl with e | ⟨b, cs, e, _, hB, _, _, hc⟩
    · exact .inl e
    · exact .inr ⟨b, 0, e, hB.lt, fun i x hi j hj => by rw [hB.cell, Nat.zero_add, hc i x hi j hj]; exact Array.getElem?_toList⟩

set_option maxRecDepth 100000 in
set_option maxHeartbeats 16000000 in
theorem easierLaw_any (c : CrewR) (j : JobD) (ea : EaseR) (n : Nat) (w : World) (hA : CrewAt w n c) (hE : PersonAt w n ea.x) (hn : n ≤ w.heap.size) :
    Calls Try.prog 7 #[crewV c, jobV j, easeV ea] w fun e w' => e = .returned (.bool true) ∧ Below w.heap.size w w' := by
  obtain ⟨ex, ewho, etie, eef, eec, elang, eamt⟩ := ea
  obtain ⟨i0, hi, hz0, hz1, hz2⟩ := info_parts Try.infoInt
  obtain ⟨p0, hpi, hpz0, hpz1, hpz2⟩ := info_parts Try.infoPerson
  have HAT := Lib.hid (fun (w0 : World) (hw : Grow w w0) => ((hA.more hn).below hw).more hw.size)
  have HET := Lib.hid (fun (w0 : World) (hw : Grow w w0) => ((hE.more hn).below hw).more hw.size)
  have HRD := Lib.hid (fun (w0 : World) (hw : Grow w w0) => ready_any c j w0.heap.size w0 (HAT.out w0 hw) (Nat.le_refl _))
  have HTE := Lib.hid (fun (hs : Short c) (w0 : World) (hw : Grow w w0) => team_flat c j w0.heap.size w0 (HAT.out w0 hw) (Nat.le_refl _) hs)
  have HCP := Lib.hid (fun (h : farC c = false) (w0 : World) (hw : Grow w w0) => rCopy_any c w0.heap.size w0 (HAT.out w0 hw) (Nat.le_refl _) (far_small h).1 (far_small h).2.1 (far_small h).2.2)
  have HRF := Lib.hid (fun (h : readyC c j = true) => ready_facts h)
  obtain ⟨rd, hrd⟩ : ∃ z, readyC c j = z := ⟨_, rfl⟩
  rw [hrd] at HRD HRF
  clear hA hE hn hrd
  go_enter Try.func7, Try.ntmps7
  go_upto_region 1 with fail
  obtain ⟨W, hW, hg, hfr, hs1, he1, _⟩ := three_blocks w 25 27 54 (cellsC c) (cellsJ j) (cellsE ⟨ex, ewho, etie, eef, eec, elang, eamt⟩)
  rw [hW]
  clear hW
  have HG := Lib.hid hg
  have HF := Lib.hid hfr
  have HS := Lib.hid hs1
  have HE := Lib.hid he1
  have hcc := hfr.cell
  have hjc := hs1.cell
  clear hg hfr hs1 he1
  go_wp2_with fail
  refine (HRD.out W HG.out).mono ?_
  rintro e w1 ⟨rfl, hb1⟩
  have HG1 : Hid (Grow w w1) := Lib.hid (HG.out.trans hb1)
  have HF1 := Lib.hid ((show Grow W w1 from hb1).block HF.out)
  have HS1 := Lib.hid ((show Grow W w1 from hb1).block HS.out)
  have HE1 := Lib.hid ((show Grow W w1 from hb1).block HE.out)
  have hcc1 := HF1.out.cell
  have hjc1 := HS1.out.cell
  have hec1 := HE1.out.cell
  clear hb1 hcc hjc HRD HG HF HS HE
  cases rd with
  | false =>
    go_wp2_with fail
    refine (works_any _).mono ?_
    rintro e w20 ⟨rfl, hb20⟩
    have HG20 : Hid (Grow w w20) := Lib.hid (HG1.out.trans hb20)
    clear hb20
    go_wp2
    go_ret
    exact ⟨rfl, HG20.out⟩
  | true =>
    obtain ⟨hfa, he0, hok, hoj⟩ := HRF.out rfl
    have HE0 := Lib.hid he0
    have HFA := Lib.hid hfa
    have HSC := Lib.hid (far_short hfa)
    have HL5 := Lib.hid (five_people hfa hok)
    clear hfa he0 hok hoj HRF
    by_cases q1 : 4 < c.people.length
    · have d1 : decide ((4 : Int) < (c.people.length : Int)) = true := decide_eq_true (by omega)
      have d1b : decide (4 < c.people.length) = true := decide_eq_true q1
      go_wp2_with fail
      refine (works_any _).mono ?_
      rintro e w20 ⟨rfl, hb20⟩
      have HG20 : Hid (Grow w w20) := Lib.hid (HG1.out.trans hb20)
      clear hb20
      go_wp2
      go_ret
      exact ⟨rfl, HG20.out⟩
    have d1 : decide ((4 : Int) < (c.people.length : Int)) = false := decide_eq_false (by omega)
    have d1b : decide (4 < c.people.length) = false := decide_eq_false q1
    by_cases q2 : 20 < ex.d.levels.length
    · have d2 : decide ((20 : Int) < (ex.d.levels.length : Int)) = true := decide_eq_true (by omega)
      have d2b : decide (20 < ex.d.levels.length) = true := decide_eq_true q2
      go_wp2_with fail
      refine (works_any _).mono ?_
      rintro e w20 ⟨rfl, hb20⟩
      have HG20 : Hid (Grow w w20) := Lib.hid (HG1.out.trans hb20)
      clear hb20
      go_wp2
      go_ret
      exact ⟨rfl, HG20.out⟩
    have d2 : decide ((20 : Int) < (ex.d.levels.length : Int)) = false := decide_eq_false (by omega)
    have d2b : decide (20 < ex.d.levels.length) = false := decide_eq_false q2
    by_cases q3 : 30 < ex.d.ties.length
    · have d3 : decide ((30 : Int) < (ex.d.ties.length : Int)) = true := decide_eq_true (by omega)
      have d3b : decide (30 < ex.d.ties.length) = true := decide_eq_true q3
      go_wp2_with fail
      refine (works_any _).mono ?_
      rintro e w20 ⟨rfl, hb20⟩
      have HG20 : Hid (Grow w w20) := Lib.hid (HG1.out.trans hb20)
      clear hb20
      go_wp2
      go_ret
      exact ⟨rfl, HG20.out⟩
    have d3 : decide ((30 : Int) < (ex.d.ties.length : Int)) = false := decide_eq_false (by omega)
    have d3b : decide (30 < ex.d.ties.length) = false := decide_eq_false q3
    by_cases q4 : eamt < 0
    · have d4 : decide (eamt < 0) = true := decide_eq_true q4
      go_wp2_with fail
      refine (works_any _).mono ?_
      rintro e w20 ⟨rfl, hb20⟩
      have HG20 : Hid (Grow w w20) := Lib.hid (HG1.out.trans hb20)
      clear hb20
      go_wp2
      go_ret
      exact ⟨rfl, HG20.out⟩
    have d4 : decide (eamt < 0) = false := decide_eq_false q4
    by_cases q5 : 5 < eamt
    · have d5 : decide (5 < eamt) = true := decide_eq_true q5
      go_wp2_with fail
      refine (works_any _).mono ?_
      rintro e w20 ⟨rfl, hb20⟩
      have HG20 : Hid (Grow w w20) := Lib.hid (HG1.out.trans hb20)
      clear hb20
      go_wp2
      go_ret
      exact ⟨rfl, HG20.out⟩
    have d5 : decide (5 < eamt) = false := decide_eq_false q5
    go_upto_region 3 with fail
    have HXS : Hid (ex.d.levels.length ≤ 1000000 ∧ ex.d.ties.length ≤ 1000000) := Lib.hid ⟨by omega, by omega⟩
    have HAM : Hid (0 ≤ eamt ∧ eamt ≤ 5) := Lib.hid ⟨by omega, by omega⟩
    have HL4 : Hid (c.people.length ≤ 4) := Lib.hid (by omega)
    have HTE1 := Lib.hid (HTE.out HSC.out)
    have HCP1 := Lib.hid (HCP.out HFA.out)
    have HCH := Lib.hid (cheap_or HE0.out (Nat.le_trans HL5.out (by omega)))
    have HMP := Lib.hid (fun (c' : CrewR) (x : PersonR) (h1 : c'.languages = c.languages) (h2 : c'.laws = c.laws) (h3 : c'.people.map (·.d) = c.people.map (·.d) ++ [x.d]) (hk : okCrew c'.d = true) (ht : tmE c j = 0) => more_person (c := c) (j := j) (Nat.le_trans HL5.out (by omega)) h1 h2 h3 HE0.out hk ht)
    have HEC := Lib.hid (fun (d : CrewR) (who : Nat) (x y : PersonR) (mf mc : Nat) (hd : d.d = c.d) (hy : d.people[who]? = some y) (hx : Eased y.d x.d mf mc) (h1 : mf < 256) (h2 : mc < 256) (ht : tmE c j = 0) => eased_crew hd hy hx h1 h2 HE0.out ht)
    obtain ⟨tt, htt⟩ : ∃ z, tmT c j = z := ⟨_, rfl⟩
    obtain ⟨tf, htf⟩ : ∃ z, tmF c j = z := ⟨_, rfl⟩
    obtain ⟨te, hte⟩ : ∃ z, tmE c j = z := ⟨_, rfl⟩
    rw [htt, htf, hte] at HTE1 HCH
    rw [htf, hte] at HMP HEC
    clear d1 d1b d2 d2b d3 d3b d4 d5 q1 q2 q3 q4 q5 htt htf hte HTE HCP
    go_wp2_with fail
    refine (HTE1.out w1 HG1.out).mono ?_
    rintro e w2 ⟨rfl, hb2⟩
    have HG2 : Hid (Grow w w2) := Lib.hid (HG1.out.trans hb2)
    have HF2 := Lib.hid ((show Grow w1 w2 from hb2).block HF1.out)
    have HS2 := Lib.hid ((show Grow w1 w2 from hb2).block HS1.out)
    have HE2 := Lib.hid ((show Grow w1 w2 from hb2).block HE1.out)
    have hcc2 := HF2.out.cell
    clear hb2 hcc1 hjc1 hec1 HTE1 HG1 HF1 HS1 HE1
    rcases HCH.out with ⟨rfl, _⟩ | ⟨rfl, _⟩
    · clear HCH
      go_wp2_with fail
      refine (works_any _).mono ?_
      rintro e w20 ⟨rfl, hb20⟩
      have HG20 : Hid (Grow w w20) := Lib.hid (HG2.out.trans hb20)
      clear hb20
      go_wp2
      go_ret
      exact ⟨rfl, HG20.out⟩
    · clear HCH
      go_wp2_with fail
      refine (HCP1.out w2 HG2.out).mono ?_
      rintro e w3 ⟨d, rfl, hd, hdp, hdl, hnew, hb3⟩
      have HG3 : Hid (Grow w w3) := Lib.hid (HG2.out.trans hb3)
      have HF3 := Lib.hid ((show Grow w2 w3 from hb3).block HF2.out)
      have HS3 := Lib.hid ((show Grow w2 w3 from hb3).block HS2.out)
      have HE3 := Lib.hid ((show Grow w2 w3 from hb3).block HE2.out)
      have HNW := Lib.hid hnew
      have HDD := Lib.hid hd
      have HDL := Lib.hid hdl
      have HDP := Lib.hid hdp
      have HZ3 : Hid (w.heap.size ≤ w2.heap.size) := Lib.hid HG2.out.size
      have hz23 : w2.heap.size ≤ w3.heap.size := hb3.size
      have HB3 : Hid (Grow w2 w3) := hb3
      clear hd hdp hdl hnew hb3 hcc2 HF2 HS2 HE2
      go_upto_region 7 with fail
      obtain ⟨w4, hw4, hg4, hf4, hz4⟩ := one_block w3 25 (cellsC d)
      rw [hw4]
      have HK4 := Lib.hid hf4
      have HG4 : Hid (Grow w3 w4) := hg4
      have hkc := hf4.cell
      have hkf := hf4.frozen
      have hec4 := (hg4.block HE3.out).cell
      have HROW := Lib.hid (own_keep HNW.out.people (.of_grow (hg4.trans (Grow.alloc w4 (.cells (cellsP ex) 52)))))
      have hz34 : w3.heap.size < w4.heap.size := hf4.lt
      have hd5 : d.people.length ≤ 4 := by rw [HDP.out]; exact HL4.out
      clear hw4 hg4 hf4 hz4
      go_wp2_with (at_builtin; go_loud (refine wpList_append_own _ rfl _ _ 22 rfl w2.heap.size 52 p0 (.agg #[.slice none 0 0, .int .i64 0, .int .i64 0, .slice none 0 0, .bool false, .int .i64 0]) 6 80 Try.underlying22 hpi hpz0 hpz1 hpz2 rfl (by omega) _ d.people.length (d.people.flatMap cellsPL) rfl ?d0 ⟨w4.heap.size, 0, none⟩ 1 1 (cellsPL ex) rfl rfl ?d1 ?d2 ?d3 ?d4 ?d5 ?_))
      case d0 => exact HROW.out
      case d1 => exact news_person (BlockIs.new _ _ _)
      case d2 => exact one_person _
      case d3 => unfold maxLen; omega
      case d4 => omega
      case d5 => simp; omega
      intro v' w5 hown hgr _
      obtain ⟨A5, c5, rfl⟩ := own_form hown
      have HKI := Lib.hid (KeepTy.grown (t := 3) HROW.out hgr (by decide))
      have HKL := Lib.hid (KeepTy.grown (t := 58) HROW.out hgr (by decide))
      have HKC := Lib.hid (KeepTy.grown (t := 25) HROW.out hgr (by decide))
      have HKJ := Lib.hid (KeepTy.grown (t := 27) HROW.out hgr (by decide))
      have HKE := Lib.hid (KeepTy.grown (t := 54) HROW.out hgr (by decide))
      have hga : Grow w3 (w4.alloc (.cells (cellsP ex) 52)) := HG4.out.trans (Grow.alloc _ _)
      have HB5 : Hid (Grow w2 w5) := Lib.hid (below_grown (HB3.out.trans hga) HROW.out hgr (by simp; omega))
      have HK5 := Lib.hid (HKC.out _ _ ((Grow.alloc w4 (.cells (cellsP ex) 52)).block HK4.out))
      have HF5 := Lib.hid (HKC.out _ _ (hga.block HF3.out))
      have HS5 := Lib.hid (HKJ.out _ _ (hga.block HS3.out))
      have HE5 := Lib.hid (HKE.out _ _ (hga.block HE3.out))
      have hkc5 := HK5.out.cell
      have hkf5 := HK5.out.frozen
      clear hkc hkf hec4
      go_upto_region 8 with fail
      obtain ⟨w6, hw6, hg6, hk6⟩ : ∃ V, w5.setCell ⟨w3.heap.size, 1, none⟩ (.slice A5 (d.people.length + 1) c5) = V ∧ Grow w2 V ∧ BlockIs V w3.heap.size 25 #[.int .i64 d.languages, .slice A5 (d.people.length + 1) c5, .slice d.wa d.laws.length d.wc] :=
        ⟨_, rfl, (show Below w2.heap.size w2 w5 from HB5.out).setCell (p := ⟨w3.heap.size, 1, none⟩) hz23 _, HK5.out.near 1 _⟩
      have HKP6 : Hid (KeepTy 52 w5 w6) := Lib.hid (by rw [← hw6]; exact KeepTy.store HK5.out (by decide) _ _)
      have HKI6 : Hid (KeepTy 3 w5 w6) := Lib.hid (by rw [← hw6]; exact KeepTy.store HK5.out (by decide) _ _)
      have HKL6 : Hid (KeepTy 58 w5 w6) := Lib.hid (by rw [← hw6]; exact KeepTy.store HK5.out (by decide) _ _)
      have HS6 : Hid (BlockIs w6 (w.heap.size + 1) 27 (cellsJ j)) := Lib.hid (by rw [← hw6]; exact KeepTy.store HK5.out (by decide) _ _ _ _ HS5.out)
      have HE6 : Hid (BlockIs w6 (w.heap.size + 1 + 1) 54 (cellsE ⟨ex, ewho, etie, eef, eec, elang, eamt⟩)) := Lib.hid (by rw [← hw6]; exact KeepTy.store HK5.out (by decide) _ _ _ _ HE5.out)
      have HF6 : Hid (BlockIs w6 w.heap.size 25 (cellsC c)) := Lib.hid (by rw [← hw6]; exact HF5.out.far (p := ⟨w3.heap.size, 1, none⟩) (by have := HF3.out.lt; simp; omega) _)
      rw [hw6]
      have HX6 : Hid (Grow w2 w6) := hg6
      have HG6 : Hid (Grow w w6) := Lib.hid ((show Below w.heap.size w w2 from HG2.out).trans (Below.mono hg6 HG2.out.size))
      have HAL := Lib.hid (longer_at (A := A5) (cap := c5) HNW.out ((KeepTy.of_grow hga).trans (HKI.out.trans HKI6.out)) ((KeepTy.of_grow hga).trans (HKL.out.trans HKL6.out)) (HET.out w6 HG6.out) (own_keep (by rw [List.flatMap_append, List.flatMap_singleton]; exact hown) HKP6.out))
      have HSL : Hid (Short (longer d ex A5 c5)) := Lib.hid (by
        have h1 := short_same HDD.out HDL.out HSC.out
        refine ⟨?_, h1.2.1, fun y hy => ?_⟩
        · show (d.people ++ [ex]).length ≤ 1000000
          rw [List.length_append]
          simp
          omega
        · rcases List.mem_append.1 hy with h | h
          · exact h1.2.2 y h
          · rw [List.mem_singleton] at h
            subst h
            exact HXS.out)
      have HCV : Hid (crewV (longer d ex A5 c5) = .agg #[.int .i64 d.languages, .slice A5 (d.people.length + 1) c5, .slice d.wa d.laws.length d.wc]) := Lib.hid (by
        show Value.agg #[.int .i64 d.languages, .slice A5 (d.people ++ [ex]).length c5, .slice d.wa d.laws.length d.wc] = _
        rw [List.length_append]
        rfl)
      have HIC := Lib.hid (isCrew_any (longer d ex A5 c5) w6.heap.size w6 HAL.out (Nat.le_refl _) HSL.out)
      have HTL := Lib.hid (fun (w0 : World) (hw : Grow w6 w0) => team_flat (longer d ex A5 c5) j w0.heap.size w0 (((HAL.out.below hw).more hw.size)) (Nat.le_refl _) HSL.out)
      have HML := Lib.hid (HMP.out (longer d ex A5 c5) ex (congrArg CrewD.languages HDD.out) (congrArg CrewD.laws HDD.out) (by
        show (d.people ++ [ex]).map (·.d) = _
        rw [List.map_append, show d.people.map (·.d) = c.people.map (·.d) from congrArg CrewD.people HDD.out]
        rfl))
      rw [HCV.out] at HIC HTL
      obtain ⟨okl, hokl⟩ : ∃ z, okCrew (longer d ex A5 c5).d = z := ⟨_, rfl⟩
      obtain ⟨tl, htl⟩ : ∃ z, tmT (longer d ex A5 c5) j = z := ⟨_, rfl⟩
      obtain ⟨fl, hfl⟩ : ∃ z, tmF (longer d ex A5 c5) j = z := ⟨_, rfl⟩
      obtain ⟨el, hel⟩ : ∃ z, tmE (longer d ex A5 c5) j = z := ⟨_, rfl⟩
      rw [hokl] at HIC HML
      rw [htl, hfl, hel] at HTL
      rw [hel, hfl] at HML
      have hkc6 := hk6.cell
      have HK6 := Lib.hid hk6
      clear hokl htl hfl hel hw6 hg6 hk6 HCV HAL HSL HMP hown hgr hga HKI HKL HKC HKJ HKE HKP6 HKI6 HKL6 HROW HK5 HF5 HS5 HE5 hkc5 hkf5 HB5 HK4 HG4 HF3 HS3 HE3 HNW HDD HDL HDP hz34 hd5 HG3 HZ3
      go_wp2_with fail
      refine HIC.out.mono ?_
      rintro e w7 ⟨rfl, hb7⟩
      have HX7 : Hid (Grow w6 w7) := hb7
      clear hb7 hkc6 HIC
      go_upto_if 78 with fail
      go_cut [6] (fun v wx => v = .bool false ∧ Grow w6 wx)
      case first =>
        cases okl with
        | false =>
          go_wp2
          go_meet
          exact ⟨rfl, HX7.out⟩
        | true =>
          obtain ⟨h1, h2⟩ := HML.out rfl (by trivial)
          rw [h1] at HTL
          have hkc7 := (HX7.out.block HK6.out).cell
          have hjc7 := (HX7.out.block HS6.out).cell
          have d1 : decide (tf < fl) = false := decide_eq_false (by omega)
          clear h1 h2 HML
          go_wp2_with fail
          refine (HTL.out w7 HX7.out).mono ?_
          rintro e w8 ⟨rfl, hb8⟩
          go_wp2
          go_meet
          exact ⟨rfl, HX7.out.trans hb8⟩
      case rest => as_aux_lemma =>
        obtain ⟨rfl, hgr⟩ := hcut
        rename World => w8
        have HG8 : Hid (Grow w w8) := Lib.hid (HG6.out.trans hgr)
        have HF8 := Lib.hid (hgr.block HF6.out)
        have HS8 := Lib.hid (hgr.block HS6.out)
        have HE8 := Lib.hid (hgr.block HE6.out)
        have hcc8 := HF8.out.cell
        have hec8 := HE8.out.cell
        clear hgr HTL HML HX7 HF6 HS6 HE6 HK6 HG6 HX6
        by_cases q1 : ewho < 0
        · have d1 : decide (ewho < 0) = true := decide_eq_true q1
          go_wp2_with fail
          refine (works_any _).mono ?_
          rintro e w20 ⟨rfl, hb20⟩
          have HG20 : Hid (Grow w w20) := Lib.hid (HG8.out.trans hb20)
          clear hb20
          go_wp2
          go_ret
          exact ⟨rfl, HG20.out⟩
        have d1 : decide (ewho < 0) = false := decide_eq_false q1
        by_cases q2 : (c.people.length : Int) ≤ ewho
        · have d2 : decide ((c.people.length : Int) ≤ ewho) = true := decide_eq_true q2
          go_wp2_with fail
          refine (works_any _).mono ?_
          rintro e w20 ⟨rfl, hb20⟩
          have HG20 : Hid (Grow w w20) := Lib.hid (HG8.out.trans hb20)
          clear hb20
          go_wp2
          go_ret
          exact ⟨rfl, HG20.out⟩
        have d2 : decide ((c.people.length : Int) ≤ ewho) = false := decide_eq_false q2
        go_wp2_with fail
        refine (HCP1.out w8 HG8.out).mono ?_
        rintro e w9 ⟨d, rfl, hd, hdp, hdl, hnew, hb9⟩
        obtain ⟨who, rfl⟩ : ∃ z : Nat, ewho = (z : Int) := ⟨ewho.toNat, by omega⟩
        have HWL : Hid (who < c.people.length) := Lib.hid (by omega)
        have HG9 : Hid (Grow w w9) := Lib.hid (HG8.out.trans hb9)
        have HS9 := Lib.hid ((show Grow w8 w9 from hb9).block HS8.out)
        have HE9 := Lib.hid ((show Grow w8 w9 from hb9).block HE8.out)
        have HNW := Lib.hid hnew
        have HDD := Lib.hid hd
        have HDL := Lib.hid hdl
        have HDP := Lib.hid hdp
        have hz89 : w8.heap.size ≤ w9.heap.size := hb9.size
        have hz08 : w.heap.size ≤ w8.heap.size := HG8.out.size
        clear hd hdp hdl hnew hb9 hcc8 hec8 HF8 HS8 HE8 d1 d2 q1 q2 HCP1
        go_upto_region 15 with fail
        obtain ⟨w10, hw10, hg10, hf10, hz10⟩ := one_block w9 25 (cellsC d)
        rw [hw10]
        have HK10 := Lib.hid hf10
        have HX10 : Hid (Grow w9 w10) := hg10
        have hkc := hf10.cell
        have hec10 := (hg10.block HE9.out).cell
        have hwd : who < d.people.length := by rw [HDP.out]; exact HWL.out
        obtain ⟨y, hy⟩ : ∃ x, d.people[who]? = some x := ⟨d.people[who], List.getElem?_eq_getElem hwd⟩
        have HY := Lib.hid hy
        have HWD := Lib.hid hwd
        obtain ⟨pb, cs, hpa, hlo, hpB, hcs⟩ : ∃ pb cs, d.pa = some ⟨pb, 0, none⟩ ∧ w8.heap.size ≤ pb ∧ BlockIs w9 pb 52 cs ∧ ∀ i x, d.people[i]? = some x → ∀ j, j < 6 → cs[i * 6 + j]? = (cellsPL x)[j]? := by
          rcases own_flat (enc := cellsPL) (fun _ => rfl) HNW.out.people rfl with e | ⟨b, cs, e, hl, hB, _, _, hc⟩
          · rw [e] at hwd; exact absurd hwd (by simp)
          · exact ⟨b, cs, e, hl, hB, hc⟩
        have HPB := Lib.hid hpB
        have HCS := Lib.hid hcs
        have HLO := Lib.hid hlo
        have hq : ∀ q u, (cellsPL y)[q]? = some u → q < 6 → w10.cell? ⟨pb, who * 6 + q, none⟩ = some u := fun q u hu h6 => by rw [(HX10.out.block HPB.out).cell, HCS.out who y HY.out q h6, hu]
        have p0c := hq 0 _ rfl (by omega); have p1c := hq 1 _ rfl (by omega); have p2c := hq 2 _ rfl (by omega); have p3c := hq 3 _ rfl (by omega); have p4c := hq 4 _ rfl (by omega); have p5c := hq 5 _ rfl (by omega)
        rw [Nat.add_zero] at p0c
        have hh0 : (0 : Int) ≤ (who : Int) := by omega
        have hh1 : (who : Int) < (d.people.length : Int) := by omega
        clear hw10 hg10 hf10 hz10 hcs hpB hlo hq hwd hy
        go_upto_region 16 with fail
        obtain ⟨w11, hw11, hg11, hf11, hz11⟩ := one_block w10 52 (cellsP y)
        rw [hw11]
        have HB11 := Lib.hid hf11
        have HX11 : Hid (Grow w9 w11) := Lib.hid (HX10.out.trans hg11)
        have hbc11 := hf11.cell
        have hbf11 := hf11.frozen
        have hec11 := (HX11.out.block HE9.out).cell
        have HK11 := Lib.hid (hg11.block HK10.out)
        clear hw11 hg11 hf11 hz11 p0c p1c p2c p3c p4c p5c hkc hec10 hh0 hh1
        obtain ⟨sa, sm, sb, hs1, hs2, hs3, hs4, hOL, hOT, hsep⟩ := newPs_sep HNW.out.rows HY.out
        have HOL := Lib.hid (hOL.keep (.of_grow HX11.out))
        have HOT := Lib.hid (hOT.keep (.of_grow HX11.out))
        have HOTH : Hid (∀ i x, i ≠ who → d.people[i]? = some x → PB w11 x ∧ Outside x sa sb) := Lib.hid (fun i x hi hx => ⟨(newPs_pb HNW.out.rows (List.mem_of_getElem? hx)).keep (.of_grow HX11.out), hsep i x hi hx⟩)
        have HR := Lib.hid (show w8.heap.size ≤ sa ∧ sa ≤ sm ∧ sm ≤ sb ∧ sb ≤ w9.heap.size from ⟨hs1, hs2, hs3, hs4⟩)
        clear hs1 hs2 hs3 hs4 hOL hOT hsep
        have HGB : Hid (Below w.heap.size w w11) := Lib.hid ((show Below w.heap.size w w9 from HG9.out).trans (Below.mono HX11.out (by omega)))
        have HEZ : Hid (Eased y.d y.d 0 0) := Lib.hid (by
          have h1 := person_ok HE0.out HDD.out HY.out
          exact Eased.none _ h1.1 h1.2)
        have HTL10 : Hid (y.d.ties.length ≤ 1000000) := Lib.hid ((short_same HDD.out HDL.out HSC.out).2.2 y (List.mem_of_getElem? HY.out)).2
        obtain ⟨tb, htb⟩ : ∃ z, (decide (0 ≤ etie) && decide (etie < (y.d.ties.length : Int))) = z := ⟨_, rfl⟩
        have HTB := Lib.hid htb
        clear htb
        go_cut [123] (fun v wx => v = .bool tb ∧ w11 = wx)
        case first =>
          by_cases t0 : 0 ≤ etie
          · have d1 : decide (0 ≤ etie) = true := decide_eq_true t0
            go_wp2
            go_meet
            exact ⟨by rw [← HTB.out, d1]; rfl, rfl⟩
          · have d1 : decide (0 ≤ etie) = false := decide_eq_false t0
            go_wp2
            go_meet
            exact ⟨by rw [← HTB.out, d1]; rfl, rfl⟩
        case rest => as_aux_lemma =>
          obtain ⟨rfl, rfl⟩ := hcut
          go_upto_if 123 with fail
          go_cut [6] (fun v wx => ∃ d1 : PersonD, Eased y.d d1 0 0 ∧ d1.levels = y.d.levels ∧ d1.fields = y.d.fields ∧ d1.clears = y.d.clears ∧ BlockIs wx w10.heap.size 52 (cellsP ⟨d1, y.la, y.lc, y.ta, y.tc⟩) ∧ PB wx ⟨d1, y.la, y.lc, y.ta, y.tc⟩ ∧ (∀ i x, i ≠ who → d.people[i]? = some x → PB wx x) ∧ (∀ t, t ≠ 3 → t ≠ 52 → KeepTy t w11 wx) ∧ BlockIs wx pb 52 cs ∧ Below w.heap.size w wx)
          case first =>
            cases tb with
            | false =>
              go_wp2
              go_meet
              exact ⟨y.d, HEZ.out, rfl, rfl, rfl, HB11.out, ⟨IntsB.own HOL.out, IntsB.own HOT.out⟩, fun i x hi hx => (HOTH.out i x hi hx).1, fun t _ _ => KeepTy.refl t w11, HX11.out.block HPB.out, HGB.out⟩
            | true =>
              obtain ⟨ti, rfl, hti⟩ : ∃ z : Nat, etie = (z : Int) ∧ z < y.d.ties.length := by
                have h := HTB.out
                rw [Bool.and_eq_true, decide_eq_true_eq, decide_eq_true_eq] at h
                exact ⟨etie.toNat, by omega, by omega⟩
              obtain ⟨Bt, cur, hta, hBlo, hBt, hcap, hcsz, htc⟩ := own_room HOT.out.1 hti
              have hBhi := HOT.out.2 _ hta
              have HBT := Lib.hid hBt
              have HR2 := HR.out
              have hz9 := HX11.out.size
              have hne : w10.heap.size ≠ Bt := by have h1 := HX10.out.size; have h2 := HR.out; simp at hBhi; omega
              have HBR := Lib.hid (And.intro hBlo hBhi)
              have HCAP := Lib.hid (show y.d.ties.length ≤ cur.size by omega)
              have HTC := Lib.hid htc
              have HTI := Lib.hid hti
              obtain ⟨news, hnw⟩ : ∃ z, (y.d.ties.drop (ti + 1)).map (Value.int .i64) = z := ⟨_, rfl⟩
              have HNWS := Lib.hid hnw
              have hnl : news.length = y.d.ties.length - (ti + 1) := by rw [← hnw, List.length_map, List.length_drop]
              have s1 : Hid (news.length = (y.d.ties.length - (ti + 1)) * 1) := Lib.hid (by rw [Nat.mul_one]; exact hnl)
              have s2 : Hid (∀ u ∈ news, u.oneCell' = true) := Lib.hid (by
                intro u hu
                rw [← hnw] at hu
                obtain ⟨x, _, rfl⟩ := List.mem_map.1 hu
                rfl)
              obtain ⟨AA, hAA, hnews⟩ : ∃ A : Addr, (if y.tc = ti + 1 then some (⟨Bt, 0, none⟩ : Addr) else some ⟨Bt, ti + 1, none⟩) = some A ∧ Hid (∀ j u, news[j]? = some u → w11.drew.cell? (A.add j) = some u) := by
                by_cases h : y.tc = ti + 1
                · refine ⟨⟨Bt, 0, none⟩, by simp [h], Lib.hid fun q u hu => ?_⟩
                  have := (List.getElem?_eq_some_iff.1 hu).1
                  omega
                · refine ⟨⟨Bt, ti + 1, none⟩, by simp [h], Lib.hid fun q u hu => ?_⟩
                  rw [← hnw, List.getElem?_map, List.getElem?_drop] at hu
                  cases hx : y.d.ties[ti + 1 + q]? with
                  | none => rw [hx] at hu; cases hu
                  | some x =>
                    rw [hx] at hu
                    rw [← Option.some.inj hu]
                    show w11.cell? _ = _
                    rw [show (⟨Bt, ti + 1, none⟩ : Addr).add q = ⟨Bt, ti + 1 + q, none⟩ by (simp [Addr.add]; try omega)]
                    exact htc _ x hx
              have s3 : Hid (∀ q, q < news.length → (w11.drew.cell? ⟨Bt, 0 + ti * 1 + q, none⟩).isSome = true ∧ w11.drew.frozen? ⟨Bt, 0 + ti * 1 + q, none⟩ = false) := Lib.hid (fun q hq => by
                rw [Nat.mul_one, Nat.zero_add]
                refine ⟨?_, hBt.frozen _⟩
                show (w11.cell? _).isSome = true
                rw [hBt.cell, Array.getElem?_eq_getElem (by omega)]
                rfl)
              have hwr : IntKind.i64.wrap ((ti : Int) + 1) = (ti : Int) + 1 := IntWalk.i64_in _ (by have := HTL10.out; omega)
              have hp0 : (0 : Int) ≤ (ti : Int) := by omega
              have hp1 : (ti : Int) ≤ (y.d.ties.length : Int) := by omega
              have hp1b : ti ≤ y.tc := by omega
              have hp2 : (0 : Int) ≤ (ti : Int) + 1 := by omega
              have hp3 : (ti : Int) + 1 ≤ (y.d.ties.length : Int) := by omega
              have hp4 : ((ti : Int) + 1).toNat = ti + 1 := by omega
              have HOB : Hid (OnlyB Bt w11.drew (w11.drew.setCells Bt ti news)) := Lib.hid OnlyB.cells
              have HBX := Lib.hid (HOB.out.far (show BlockIs w11.drew w10.heap.size 52 (cellsP y) from HB11.out) hne)
              have hxc := HBX.out.cell
              have hxf := HBX.out.frozen
              have hroom : ti + (y.d.ties.length - (ti + 1)) ≤ y.tc := by omega
              have HDONE : Hid (∃ d1 : PersonD, Eased y.d d1 0 0 ∧ d1.levels = y.d.levels ∧ d1.fields = y.d.fields ∧ d1.clears = y.d.clears ∧ BlockIs ((w11.drew.setCells Bt ti news).setCell ⟨w10.heap.size, 3, none⟩ (.slice (some ⟨Bt, 0, none⟩) (ti + (y.d.ties.length - (ti + 1))) y.tc)) w10.heap.size 52 (cellsP ⟨d1, y.la, y.lc, y.ta, y.tc⟩) ∧ PB ((w11.drew.setCells Bt ti news).setCell ⟨w10.heap.size, 3, none⟩ (.slice (some ⟨Bt, 0, none⟩) (ti + (y.d.ties.length - (ti + 1))) y.tc)) ⟨d1, y.la, y.lc, y.ta, y.tc⟩ ∧ (∀ i x, i ≠ who → d.people[i]? = some x → PB ((w11.drew.setCells Bt ti news).setCell ⟨w10.heap.size, 3, none⟩ (.slice (some ⟨Bt, 0, none⟩) (ti + (y.d.ties.length - (ti + 1))) y.tc)) x) ∧ (∀ t, t ≠ 3 → t ≠ 52 → KeepTy t w11 ((w11.drew.setCells Bt ti news).setCell ⟨w10.heap.size, 3, none⟩ (.slice (some ⟨Bt, 0, none⟩) (ti + (y.d.ties.length - (ti + 1))) y.tc))) ∧ BlockIs ((w11.drew.setCells Bt ti news).setCell ⟨w10.heap.size, 3, none⟩ (.slice (some ⟨Bt, 0, none⟩) (ti + (y.d.ties.length - (ti + 1))) y.tc)) pb 52 cs ∧ Below w.heap.size w ((w11.drew.setCells Bt ti news).setCell ⟨w10.heap.size, 3, none⟩ (.slice (some ⟨Bt, 0, none⟩) (ti + (y.d.ties.length - (ti + 1))) y.tc))) := Lib.hid (by
                have hst : KeepTy 3 (w11.drew.setCells Bt ti news) ((w11.drew.setCells Bt ti news).setCell ⟨w10.heap.size, 3, none⟩ (.slice (some ⟨Bt, 0, none⟩) (ti + (y.d.ties.length - (ti + 1))) y.tc)) := KeepTy.store HBX.out (by decide) 3 _
                have hr := HR.out
                have hbr := HBR.out
                have hbhi : Bt < sb := hbr.2
                refine ⟨{ y.d with ties := cutAt y.d.ties ti }, HEZ.out.cut _ cutAt_mem (by rw [cutAt_len HTI.out]; have := HTI.out; omega), rfl, rfl, rfl, ?_, ⟨?_, ?_⟩, ?_, ?_, ?_, ?_⟩
                · have h := HBX.out.near 3 (.slice (some ⟨Bt, 0, none⟩) (ti + (y.d.ties.length - (ti + 1))) y.tc)
                  have e : (Value.slice y.ta (cutAt y.d.ties ti).length y.tc) = .slice (some ⟨Bt, 0, none⟩) (ti + (y.d.ties.length - (ti + 1))) y.tc := by rw [hta, cutAt_len HTI.out]
                  show BlockIs _ _ _ #[.slice y.la y.d.levels.length y.lc, .int .i64 y.d.fields, .int .i64 y.d.clears, .slice y.ta (cutAt y.d.ties ti).length y.tc, .bool y.d.deaf, .int .i64 y.d.fee]
                  rw [e]
                  exact h
                · exact ((show IntsB w11.drew y.la y.d.levels from IntsB.own HOL.out).only HOB.out (fun ad e => by have := own_block_in HOL.out ad e; omega)).keep hst
                · show IntsB _ y.ta (cutAt y.d.ties ti)
                  rw [hta]
                  obtain ⟨cur', hc'⟩ := setCells_block news ti w11.drew cur HBT.out
                  refine (IntsB.of hc' ?_).keep hst
                  rw [← HNWS.out]
                  exact cut_ints (w := w11.drew) HBT.out HCAP.out HTI.out HTC.out
                · intro i x hi hx
                  obtain ⟨h1, h2⟩ := HOTH.out i x hi hx
                  exact ((show PB w11.drew x from h1).only HOB.out (fun ad e => by have := h2.1 ad e; omega) (fun ad e => by have := h2.2 ad e; omega)).keep hst
                · exact fun t h1 h2 g cs' hB => KeepTy.store HBX.out h2 3 _ _ _ (HOB.out.far (show BlockIs w11.drew g t cs' from hB) (block_ne hB HBT.out h1))
                · have h1 := HX11.out.block HPB.out
                  exact (HOB.out.far (show BlockIs w11.drew pb _ cs from h1) (block_ne h1 HBT.out (by decide))).far (p := ⟨w10.heap.size, 3, none⟩) (by have h1 := HPB.out.lt; have h2 := HX10.out.size; simp; omega) _
                · have h1 : Below w.heap.size w (w11.drew.setCells Bt ti news) := (show Below w.heap.size w w11.drew from HGB.out.drew).trans (Below.mono HOB.out.below (by omega))
                  exact h1.setCell (p := ⟨w10.heap.size, 3, none⟩) (by have h2 := HX10.out.size; simp; omega) _)
              clear hnw hcap hcsz htc hnl hBt hBlo hBhi HR2 hz9 hne
              go_upto_region 17 with fail
              go_region_law (refine step_append_room rfl (.tmp 128) (.tmp 134) 33 rfl 3 i0 1 Try.underlying33 hi hz1 Bt 0 ti y.tc (by simp [Act.eval, Act.put]) AA (y.d.ties.length - (ti + 1)) (y.tc - (ti + 1)) news (by simp [Act.eval, Act.put]) s1.out hnews.out s2.out hroom s3.out ?_)
              all_goals
                go_wp2
                go_meet
                exact HDONE.out
          case rest => as_aux_lemma =>
            obtain ⟨d1, h1, h2, h3, h4, h5, h6, h7, h8, h9, h10⟩ := hcut
            rename World => w12
            have HD1 := Lib.hid h1
            have HD2 := Lib.hid h2
            have HD34 := Lib.hid (And.intro h3 h4)
            have HB12 := Lib.hid h5
            have HPB12 := Lib.hid h6
            have HO12 := Lib.hid h7
            have HKT := Lib.hid h8
            have HP12 := Lib.hid h9
            have HG12 : Hid (Below w.heap.size w w12) := Lib.hid h10
            have hbc12 := h5.cell
            have hbf12 := h5.frozen
            have hec12 := (h8 54 (by decide) (by decide) _ _ (HX11.out.block HE9.out)).cell
            clear h1 h2 h3 h4 h5 h6 h7 h8 h9 h10 hbc11 hbf11 hec11
            obtain ⟨mf, hmf, hmfe⟩ := and_255 eef
            obtain ⟨mc, hmc, hmce⟩ := and_255 eec
            have HMF := Lib.hid (And.intro hmf hmc)
            go_upto_region 18 with fail
            have hor1 : bits .or .i64 d1.fields (mf : Int) = ((y.d.fields.toNat ||| mf : Nat) : Int) := by
              have hp := person_in HE0.out HDD.out HY.out
              unfold okPerson at hp
              simp only [Bool.and_eq_true] at hp
              have w2 := inB_iff.1 hp.1.1.2.1
              rw [HD34.out.1, show y.d.fields = ((y.d.fields.toNat : Nat) : Int) by omega, Int.toNat_natCast]
              exact or_i64 _ _ (by omega) (by omega)
            have hor2 : bits .or .i64 d1.clears (mc : Int) = ((y.d.clears.toNat ||| mc : Nat) : Int) := by
              have hp := person_in HE0.out HDD.out HY.out
              unfold okPerson at hp
              simp only [Bool.and_eq_true] at hp
              have w2 := inB_iff.1 hp.1.1.2.2
              rw [HD34.out.2, show y.d.clears = ((y.d.clears.toNat : Nat) : Int) by omega, Int.toNat_natCast]
              exact or_i64 _ _ (by omega) (by omega)
            have HD3 := Lib.hid (HD1.out.sets mf mc)
            obtain ⟨nf, hnf⟩ : ∃ z, y.d.fields.toNat ||| mf = z := ⟨_, rfl⟩
            obtain ⟨nc, hnc⟩ : ∃ z, y.d.clears.toNat ||| mc = z := ⟨_, rfl⟩
            rw [hnf] at hor1 HD3
            rw [hnc] at hor2 HD3
            clear hnf hnc hmf hmc HD34
            go_region
            have hb12 := HB12.out
            obtain ⟨w13, hw13, k13, hki, hb13, hp13⟩ : ∃ V, ((w12.setCell ⟨w10.heap.size, 1, none⟩ (.int .i64 (nf : Int))).setCell ⟨w10.heap.size, 2, none⟩ (.int .i64 (nc : Int))).drew = V ∧ BlockIs V w10.heap.size 52 (cellsP ⟨{ d1 with fields := (nf : Int), clears := (nc : Int) }, y.la, y.lc, y.ta, y.tc⟩) ∧ (∀ t, t ≠ 52 → KeepTy t w12 V) ∧ Below w.heap.size w V ∧ BlockIs V pb 52 cs := by
              have hne : pb ≠ w10.heap.size := by have h1 := HPB.out.lt; have h2 := HX10.out.size; omega
              have hlw : w.heap.size ≤ w10.heap.size := by have h2 := HX10.out.size; omega
              exact ⟨_, rfl, (hb12.near 1 _).near 2 _, fun t ht => (KeepTy.store hb12 ht 1 _).trans (KeepTy.store (hb12.near 1 _) ht 2 _), (((show Below w.heap.size w w12 from HG12.out).setCell (p := ⟨w10.heap.size, 1, none⟩) hlw _).setCell (p := ⟨w10.heap.size, 2, none⟩) hlw _).drew, (HP12.out.far (p := ⟨w10.heap.size, 1, none⟩) hne _).far (p := ⟨w10.heap.size, 2, none⟩) hne _⟩
            rw [hw13]
            have HB13 := Lib.hid k13
            have HPB13 : Hid (PB w13 ⟨{ d1 with fields := (nf : Int), clears := (nc : Int) }, y.la, y.lc, y.ta, y.tc⟩) := Lib.hid (show PB w13 ⟨{ d1 with fields := (nf : Int), clears := (nc : Int) }, y.la, y.lc, y.ta, y.tc⟩ from ⟨(HPB12.out.keep (hki _ (by decide))).1, (HPB12.out.keep (hki _ (by decide))).2⟩)
            have HO13 : Hid (∀ i x, i ≠ who → d.people[i]? = some x → PB w13 x) := Lib.hid (fun i x hi hx => (HO12.out i x hi hx).keep (hki _ (by decide)))
            have HKT13 : Hid (∀ t, t ≠ 3 → t ≠ 52 → KeepTy t w11 w13) := Lib.hid (fun t h1 h2 => (HKT.out t h1 h2).trans (hki t h2))
            have HP13 := Lib.hid hp13
            have HG13 : Hid (Below w.heap.size w w13) := Lib.hid hb13
            have hbc13 := k13.cell
            have hec13 := (HKT13.out 54 (by decide) (by decide) _ _ (HX11.out.block HE9.out)).cell
            have HOUT : Hid (∀ i x, i ≠ who → d.people[i]? = some x → Outside x sa sb) := Lib.hid (fun i x hi hx => (HOTH.out i x hi hx).2)
            have HLR := Lib.hid (own_block_in HOL.out)
            have HTR := Lib.hid (own_block_in HOT.out)
            have HLN := Lib.hid HD2.out
            clear hw13 k13 hki hb13 hp13 hb12 hbc12 hbf12 hec12 hor1 hor2 hmfe hmce HB12 HPB12 HO12 HKT HP12 HG12 HD1 HD2 HOL HOT HOTH HB11 HGB HEZ HTB
            obtain ⟨lb, hlb⟩ : ∃ z, (decide (0 ≤ elang) && decide (elang < (d1.levels.length : Int))) = z := ⟨_, rfl⟩
            have HLB := Lib.hid hlb
            clear hlb
            go_upto_region 19 with fail
            go_cut [161] (fun v wx => v = .bool lb ∧ w13 = wx)
            case first =>
              by_cases t0 : 0 ≤ elang
              · have d1 : decide (0 ≤ elang) = true := decide_eq_true t0
                go_wp2
                go_meet
                exact ⟨by rw [← HLB.out, d1]; rfl, rfl⟩
              · have d1 : decide (0 ≤ elang) = false := decide_eq_false t0
                go_wp2
                go_meet
                exact ⟨by rw [← HLB.out, d1]; rfl, rfl⟩
            case rest => as_aux_lemma =>
              obtain ⟨rfl, rfl⟩ := hcut
              go_upto_if 161 with fail
              go_cut [6] (fun v wx => ∃ d2 : PersonD, Eased y.d d2 mf mc ∧ BlockIs wx w10.heap.size 52 (cellsP ⟨d2, y.la, y.lc, y.ta, y.tc⟩) ∧ PB wx ⟨d2, y.la, y.lc, y.ta, y.tc⟩ ∧ (∀ i x, i ≠ who → d.people[i]? = some x → PB wx x) ∧ (∀ t, t ≠ 3 → t ≠ 52 → KeepTy t w11 wx) ∧ BlockIs wx pb 52 cs ∧ Below w.heap.size w wx)
              case first =>
                cases lb with
                | false =>
                  go_wp2
                  go_meet
                  exact ⟨_, HD3.out, HB13.out, HPB13.out, HO13.out, HKT13.out, HP13.out, HG13.out⟩
                | true =>
                  obtain ⟨k, rfl, hk⟩ : ∃ z : Nat, elang = (z : Int) ∧ z < d1.levels.length := by
                    have h := HLB.out
                    rw [Bool.and_eq_true, decide_eq_true_eq, decide_eq_true_eq] at h
                    exact ⟨elang.toNat, by omega, by omega⟩
                  obtain ⟨Bl, cur, hla, hBl, hcl⟩ : ∃ B cur, y.la = some ⟨B, 0, none⟩ ∧ BlockIs w13 B 3 cur ∧ ∀ (q : Nat) x, d1.levels[q]? = some x → cur[q]? = some (.int .i64 x) := by
                    rcases HPB13.out.1 with h | h
                    · have h2 : d1.levels = [] := h
                      rw [h2] at hk
                      simp at hk
                    · exact h
                  obtain ⟨lv, hlv⟩ : ∃ x, d1.levels[k]? = some x := ⟨d1.levels[k], List.getElem?_eq_getElem hk⟩
                  have hlv5 : 0 ≤ lv ∧ lv ≤ 5 := by
                    have hp := person_in HE0.out HDD.out HY.out
                    unfold okPerson at hp
                    simp only [Bool.and_eq_true] at hp
                    have w1 := hp.1.1.1.2
                    rw [List.all_eq_true] at w1
                    exact inB_iff.1 (w1 lv (by rw [← HLN.out]; exact List.mem_of_getElem? hlv))
                  have hlc : w13.cell? ⟨Bl, k, none⟩ = some (.int .i64 lv) := by rw [hBl.cell]; exact hcl k lv hlv
                  have hlf := hBl.frozen
                  have ham := HAM.out
                  have hadd : IntKind.i64.wrap (lv + eamt) = lv + eamt := IntWalk.i64_in _ (by omega)
                  have hk0 : (0 : Int) ≤ (k : Int) := by omega
                  have hk1 : (k : Int) < (d1.levels.length : Int) := by omega
                  have HLV := Lib.hid hlv
                  have HLV5 := Lib.hid hlv5
                  have HBL := Lib.hid hBl
                  have HCL := Lib.hid hcl
                  clear hlv hlv5 ham hBl hcl hk
                  have HDONE : Hid (∃ d2 : PersonD, Eased y.d d2 mf mc ∧ BlockIs (w13.setCell ⟨Bl, k, none⟩ (.int .i64 (if lv + eamt < 5 then lv + eamt else 5))).drew w10.heap.size 52 (cellsP ⟨d2, y.la, y.lc, y.ta, y.tc⟩) ∧ PB (w13.setCell ⟨Bl, k, none⟩ (.int .i64 (if lv + eamt < 5 then lv + eamt else 5))).drew ⟨d2, y.la, y.lc, y.ta, y.tc⟩ ∧ (∀ i x, i ≠ who → d.people[i]? = some x → PB (w13.setCell ⟨Bl, k, none⟩ (.int .i64 (if lv + eamt < 5 then lv + eamt else 5))).drew x) ∧ (∀ t, t ≠ 3 → t ≠ 52 → KeepTy t w11 (w13.setCell ⟨Bl, k, none⟩ (.int .i64 (if lv + eamt < 5 then lv + eamt else 5))).drew) ∧ BlockIs (w13.setCell ⟨Bl, k, none⟩ (.int .i64 (if lv + eamt < 5 then lv + eamt else 5))).drew pb 52 cs ∧ Below w.heap.size w (w13.setCell ⟨Bl, k, none⟩ (.int .i64 (if lv + eamt < 5 then lv + eamt else 5))).drew) := Lib.hid (by
                    obtain ⟨nv, hnv⟩ : ∃ z, (if lv + eamt < 5 then lv + eamt else 5) = z := ⟨_, rfl⟩
                    have hv5 := HLV5.out
                    have ham := HAM.out
                    have hnb : lv ≤ nv ∧ 0 ≤ nv ∧ nv ≤ 5 := by rw [← hnv]; split <;> omega
                    rw [hnv]
                    have hr := HR.out
                    have hlb := HLR.out _ hla
                    have hlo : sa ≤ Bl := hlb.1
                    have hhi : Bl < sm := hlb.2
                    have HO1 : OnlyB Bl w13 (w13.setCell ⟨Bl, k, none⟩ (.int .i64 nv)) := OnlyB.one
                    refine ⟨_, HD3.out.raise (k := k) (v := nv) (fun x hx => ?_) (fun _ => inB_iff.2 hnb.2), ?_, ⟨?_, ?_⟩, ?_, ?_, ?_, ?_⟩
                    · have e : lv = x := Option.some.inj (HLV.out.symm.trans hx)
                      omega
                    · have h := HO1.far HB13.out (block_ne HB13.out HBL.out (by decide))
                      show BlockIs _ _ _ #[.slice y.la (d1.levels.set k nv).length y.lc, .int .i64 (nf : Int), .int .i64 (nc : Int), .slice y.ta d1.ties.length y.tc, .bool d1.deaf, .int .i64 d1.fee]
                      rw [List.length_set]
                      exact h
                    · show IntsB _ y.la (d1.levels.set k nv)
                      rw [hla]
                      exact set_ints (w := w13) HBL.out HCL.out
                    · have q := (show IntsB w13 y.ta d1.ties from HPB13.out.2).only HO1 (fun ad (e : y.ta = some ad) => by have := HTR.out ad e; omega)
                      exact q
                    · intro i x hi hx
                      have h2 := HOUT.out i x hi hx
                      have q := (HO13.out i x hi hx).only HO1 (fun ad (e : x.la = some ad) => by have := h2.1 ad e; omega) (fun ad (e : x.ta = some ad) => by have := h2.2 ad e; omega)
                      exact q
                    · exact fun t h1 h2 => (HKT13.out t h1 h2).trans (fun g cs' hB => HO1.far hB (block_ne hB HBL.out h1))
                    · exact HO1.far HP13.out (block_ne HP13.out HBL.out (by decide))
                    · exact ((show Below w.heap.size w w13 from HG13.out).trans (Below.mono HO1.below (by omega))).drew)
                  go_upto_region 20 with fail
                  go_region
                  obtain ⟨nv, hnv⟩ : ∃ z, (if lv + eamt < 5 then lv + eamt else 5) = z := ⟨_, rfl⟩
                  rw [hnv] at HDONE ⊢
                  clear hnv
                  go_wp2
                  go_meet
                  exact HDONE.out
              case rest => as_aux_lemma =>
                obtain ⟨d2, h1, h2, h3, h4, h5, h6, h7⟩ := hcut
                rename World => w14
                have HD4 := Lib.hid h1
                have HP14 := Lib.hid h6
                have HG14 : Hid (Below w.heap.size w w14) := Lib.hid h7
                have HAT14 := Lib.hid (put_at2 (lo := w8.heap.size) (x := ⟨d2, y.la, y.lc, y.ta, y.tc⟩) h6 hpa HCS.out HWD.out h4 h3 (own_keep HNW.out.laws ((KeepTy.of_grow HX11.out).trans (h5 58 (by decide) (by decide)))))
                have hkc14 := (h5 25 (by decide) (by decide) _ _ HK11.out).cell
                have hec14 := (h5 54 (by decide) (by decide) _ _ (HX11.out.block HE9.out)).cell
                have hbc14 := h2.cell
                have hpf14 := h6.frozen
                have hkc15 := (six_keep (o := who * 6) (x := ⟨d2, y.la, y.lc, y.ta, y.tc⟩) h6 (t := 25) (by decide) _ _ (h5 25 (by decide) (by decide) _ _ HK11.out)).cell
                have hjc15 := (six_keep (o := who * 6) (x := ⟨d2, y.la, y.lc, y.ta, y.tc⟩) h6 (t := 27) (by decide) _ _ (h5 27 (by decide) (by decide) _ _ (HX11.out.block HS9.out))).cell
                have hq : ∀ q u, (cellsPL y)[q]? = some u → q < 6 → w14.cell? ⟨pb, who * 6 + q, none⟩ = some u := fun q u hu h6' => by rw [h6.cell, HCS.out who y HY.out q h6', hu]
                have p0c := hq 0 _ rfl (by omega); have p1c := hq 1 _ rfl (by omega); have p2c := hq 2 _ rfl (by omega); have p3c := hq 3 _ rfl (by omega); have p4c := hq 4 _ rfl (by omega); have p5c := hq 5 _ rfl (by omega)
                rw [Nat.add_zero] at p0c
                have hh0 : (0 : Int) ≤ (who : Int) := by omega
                have hh1 : (who : Int) < (d.people.length : Int) := by have := HWD.out; omega
                clear hq h1 h2 h3 h4 h5 h6 h7 hbc13 hec13
                go_upto_region 22 with fail
                show Code.wp _ _ _ _ (sixW w14 pb (who * 6) ⟨d2, y.la, y.lc, y.ta, y.tc⟩)
                obtain ⟨w15, hw15⟩ : ∃ V, sixW w14 pb (who * 6) ⟨d2, y.la, y.lc, y.ta, y.tc⟩ = V := ⟨_, rfl⟩
                have HG15 : Hid (Below w.heap.size w w15) := Lib.hid (by
                  rw [← hw15]
                  have h1 := HLO.out
                  exact HG14.out.trans (sixW_below (by omega)))
                rw [hw15] at HAT14 hkc15 hjc15 ⊢
                have HSD : Hid (Short { d with people := d.people.set who ⟨d2, y.la, y.lc, y.ta, y.tc⟩ }) := Lib.hid (by
                  have h1 := short_same HDD.out HDL.out HSC.out
                  refine ⟨by rw [List.length_set]; exact h1.1, h1.2.1, fun z hz => ?_⟩
                  rcases List.mem_or_eq_of_mem_set hz with h | rfl
                  · exact h1.2.2 z h
                  · have h2 := h1.2.2 y (List.mem_of_getElem? HY.out)
                    have h3 : d2.levels.length ≤ 1000000 := by have := HD4.out.len; omega
                    have h4 : d2.ties.length ≤ 1000000 := by have := HD4.out.few; omega
                    exact ⟨h3, h4⟩)
                obtain ⟨hf1, hf2⟩ := HEC.out d who ⟨d2, y.la, y.lc, y.ta, y.tc⟩ y mf mc HDD.out HY.out HD4.out HMF.out.1 HMF.out.2 (by trivial)
                have HTC := Lib.hid (team_flat { d with people := d.people.set who ⟨d2, y.la, y.lc, y.ta, y.tc⟩ } j w15.heap.size w15 HAT14.out (Nat.le_refl _) HSD.out)
                rw [hf1] at HTC
                have HCV : Hid (crewV { d with people := d.people.set who ⟨d2, y.la, y.lc, y.ta, y.tc⟩ } = .agg #[.int .i64 d.languages, .slice (some ⟨pb, 0, none⟩) d.people.length d.pc, .slice d.wa d.laws.length d.wc]) := Lib.hid (by
                  rw [← hpa]
                  show Value.agg #[.int .i64 d.languages, .slice d.pa (d.people.set who _).length d.pc, .slice d.wa d.laws.length d.wc] = _
                  rw [List.length_set])
                rw [HCV.out] at HTC
                obtain ⟨tn, htn⟩ : ∃ z, tmT { d with people := d.people.set who ⟨d2, y.la, y.lc, y.ta, y.tc⟩ } j = z := ⟨_, rfl⟩
                obtain ⟨fn, hfn⟩ : ∃ z, tmF { d with people := d.people.set who ⟨d2, y.la, y.lc, y.ta, y.tc⟩ } j = z := ⟨_, rfl⟩
                rw [htn, hfn] at HTC
                rw [hfn] at hf2
                have dd : decide (fn ≤ tf) = true := decide_eq_true hf2
                clear hw15 htn hfn hf1 hf2 HCV HAT14 HSD hkc14 hec14 hbc14 hpf14 p0c p1c p2c p3c p4c p5c hh0 hh1
                go_wp2_with fail
                refine HTC.out.mono ?_
                rintro e w16 ⟨rfl, hb16⟩
                have HG16 : Hid (Grow w w16) := Lib.hid ((show Below w.heap.size w w15 from HG15.out).trans (Below.mono hb16 HG15.out.size))
                clear hb16 hkc15 hjc15 HTC
                go_wp2_with fail
                refine (works_any _).mono ?_
                rintro e w20 ⟨rfl, hb20⟩
                have HG20 : Hid (Grow w w20) := Lib.hid (HG16.out.trans hb20)
                clear hb20
                go_wp2
                go_ret
                exact ⟨rfl, HG20.out⟩

end Go.Proofs.Yticeekkfdkfcgaa
