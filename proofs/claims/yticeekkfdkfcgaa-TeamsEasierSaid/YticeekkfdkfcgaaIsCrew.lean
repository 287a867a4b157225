/- IsCrew: the specification's IsCrew and IsJob, and both sides' Check of a job. -/
import Derived.Test.YticeekkfdkfcgaaValid
namespace Go.Proofs.Yticeekkfdkfcgaa
open Go.RowKit

theorem all_succ {α : Type} {q : α → Bool} {l : List α} {k : Nat} {x : α} (hx : l[k]? = some x) (h : (l.take k).all q = true) : (l.take (k + 1)).all q = q x := by
  rw [take_snoc hx, List.all_append, h]; simp
theorem all_no {α : Type} {q : α → Bool} {l : List α} {k : Nat} {x : α} (hx : l[k]? = some x) (h : q x = false) : l.all q = false := by
  rw [List.all_eq_false]
  exact ⟨x, List.mem_of_getElem? hx, by simp [h]⟩
def basicP (n : Int) (p : PersonD) : Bool := decide ((p.levels.length : Int) = n) && (inB p.fields 0 255 && (inB p.clears 0 255 && (decide (p.ties.length ≤ 10) && inB p.fee 0 1000)))
theorem okPerson_basic (n : Int) (p : PersonD) : okPerson n p = (basicP n p && ((p.levels.all fun x => inB x 0 5) && (p.ties.all fun x => inB x 0 99))) := by
  unfold okPerson basicP
  cases decide ((p.levels.length : Int) = n) <;> cases inB p.fields 0 255 <;> cases inB p.clears 0 255 <;> cases decide (p.ties.length ≤ 10) <;> cases inB p.fee 0 1000 <;> cases (p.levels.all fun x => inB x 0 5) <;> simp

set_option maxRecDepth 100000 in
set_option maxHeartbeats 16000000 in
theorem isCrew_any (c : CrewR) (n : Nat) (w : World) (hA : CrewAt w n c) (hn : n ≤ w.heap.size) (hs : Short c) :
    Calls Try.prog 35 #[crewV c] w fun e w' => e = .returned (.bool (okCrew c.d)) ∧ Below w.heap.size w w' := by
  have hA := hA.more hn
  obtain ⟨hs1, hs2, hs3⟩ := hs
  have HP := Lib.hid (fun (w0 : World) (hw : Grow w w0) => hA.1.below hw)
  have HL := Lib.hid (fun (w0 : World) (hw : Grow w w0) => hA.2.below hw)
  have HS3 := Lib.hid hs3
  have HWA := Lib.hid (fun w0 => rwithin_any c.languages 2 5 w0)
  have HO : Hid (okCrew c.d = ((inB c.languages 2 5 && (decide (c.people.length ≤ 8) && c.people.all fun x => okPerson c.languages x.d)) && (decide (c.laws.length = 4) && c.laws.all okLaw))) := by
    show okCrew _ = _
    unfold okCrew
    rw [all_people, List.length_map]
  generalize inB c.languages 2 5 = a at HWA HO
  obtain ⟨ok, hok⟩ : ∃ z, okCrew c.d = z := ⟨_, rfl⟩
  rw [hok] at HO ⊢
  clear hA hn hs3 hok
  go_enter Try.func35, Try.ntmps35
  go_upto_region 1 with fail
  obtain ⟨W, hW, hg, hf, hsz⟩ := one_block w 25 (cellsC c)
  rw [hW]
  clear hW
  have HG := Lib.hid hg
  have HF := Lib.hid hf
  have hcc := hf.cell
  clear hf hg
  cases a with
  | false =>
    have HX : Hid (ok = false) := Lib.hid (by rw [HO.out]; simp)
    go_wp2_with fail
    refine (HWA.out _).mono ?_
    rintro e w' ⟨rfl, rfl⟩
    go_wp2
    go_ret
    exact ⟨ret_bool HX.out.symm, HG.out⟩
  | true =>
    by_cases hb : c.people.length ≤ 8
    · have hb1 : decide ((8 : Int) < (c.people.length : Int)) = false := decide_eq_false (by omega)
      have hb2 : decide (8 < c.people.length) = false := decide_eq_false (by omega)
      by_cases hc : c.laws.length = 4
      · have hc1 : ((c.laws.length : Int) != 4) = false := by simp; omega
        have hc2 : decide ((c.laws.length : Int) = 4) = true := decide_eq_true (by omega)
        have HOK : Hid (ok = ((c.people.all fun x => okPerson c.languages x.d) && c.laws.all okLaw)) := Lib.hid (by rw [HO.out, decide_eq_true hb, decide_eq_true hc]; simp)
        clear HO
        go_wp2_with fail
        refine (HWA.out _).mono ?_
        rintro e w' ⟨rfl, rfl⟩
        go_upto_region 3 with fail
        clear hcc hc1 hc2 hb1 hb2
        go_wp2_with fail
        go_loopw [3] (fun iv wr => ∃ k : Nat, k ≤ c.people.length ∧ iv = .int .i64 k ∧ (c.people.take k).all (fun x => okPerson c.languages x.d) = true ∧ Grow W wr) (fun iv _ => c.people.length - (intOf iv).toNat)
        case atStart => exact ⟨0, Nat.zero_le _, rfl, rfl, Grow.refl _⟩
        case round => as_aux_lemma =>
          obtain ⟨k, hk, rfl, hall, hgr⟩ := hrel
          rename World => wr
          have HGR : Hid (Grow W wr) := Lib.hid hgr
          have HALL := Lib.hid hall
          clear hgr hall
          have hcc := (HGR.out.block HF.out).cell
          by_cases hlt : k < c.people.length
          · have hd1 : decide ((k : Int) < (c.people.length : Int)) = true := decide_eq_true (by omega)
            have hd2 : decide (k < c.people.length) = true := decide_eq_true hlt
            have hk0 : (0 : Int) ≤ (k : Int) := by omega
            have hk1 : (k : Int) < (c.people.length : Int) := by omega
            obtain ⟨b, off, x, hpa, hbl, hcx, hpx, HX⟩ := (HP.out wr (HG.out.trans HGR.out)).at_ hlt
            have HNX := Lib.hid (all_succ (q := fun x : PersonR => okPerson c.languages x.d) HX.out HALL.out)
            have HNO := Lib.hid (fun (h : okPerson c.languages x.d = false) => all_no (q := fun x : PersonR => okPerson c.languages x.d) HX.out h)
            have HSX := Lib.hid (HS3.out x (List.mem_of_getElem? HX.out))
            have hcc1 : wr.cell? ⟨w.heap.size, 1, none⟩ = some (.slice (some ⟨b, off, none⟩) c.people.length c.pc) := by rw [hcc 1, ← hpa]; rfl
            have hcc0 : wr.cell? ⟨w.heap.size, 0, none⟩ = some (.int .i64 c.languages) := hcc 0
            have e0 := hcx 0 (by omega); have e1 := hcx 1 (by omega); have e2 := hcx 2 (by omega); have e3 := hcx 3 (by omega); have e4 := hcx 4 (by omega); have e5 := hcx 5 (by omega)
            rw [Nat.add_zero] at e0
            have HPX := Lib.hid hpx
            have HLT := Lib.hid hlt
            rw [okPerson_basic] at HNX HNO
            have HQ1 := Lib.hid (fun w0 => rwithin_any x.d.fields 0 255 w0)
            have HQ2 := Lib.hid (fun w0 => rwithin_any x.d.clears 0 255 w0)
            have HQ3 := Lib.hid (fun w0 => rwithin_any x.d.fee 0 1000 w0)
            have HBP : Hid (basicP c.languages x.d = (decide ((x.d.levels.length : Int) = c.languages) && (inB x.d.fields 0 255 && (inB x.d.clears 0 255 && (decide (x.d.ties.length ≤ 10) && inB x.d.fee 0 1000))))) := rfl
            generalize inB x.d.fields 0 255 = q1 at HQ1 HBP
            generalize inB x.d.clears 0 255 = q2 at HQ2 HBP
            generalize inB x.d.fee 0 1000 = q3 at HQ3 HBP
            generalize basicP c.languages x.d = bp at HBP HNX HNO
            clear hcc hcx hbl hpx hpa
            go_upto_region 7 with fail
            obtain ⟨W2, hW2, hg2, hf2, hsz2⟩ := one_block wr 52 (cellsP x)
            rw [hW2]
            clear hW2
            have HG2 := Lib.hid hg2
            have HF2 := Lib.hid hf2
            have hpc := hf2.cell
            have hcc0 : W2.cell? ⟨w.heap.size, 0, none⟩ = some (.int .i64 c.languages) := ((HGR.out.trans hg2).block HF.out).cell 0
            clear hf2 hg2 hcc1 e0 e1 e2 e3 e4 e5 hd1 hd2
            go_cut [65] (fun v wx => v = .bool (!bp) ∧ wx = W2)
            case first => as_aux_lemma =>
              by_cases h1 : (x.d.levels.length : Int) = c.languages
              · have h1a : ((x.d.levels.length : Int) != c.languages) = false := by simp [h1]
                have h1b : decide ((x.d.levels.length : Int) = c.languages) = true := decide_eq_true h1
                have HBQ : Hid (bp = (q1 && (q2 && (decide (x.d.ties.length ≤ 10) && q3)))) := Lib.hid (by rw [HBP.out, h1b, Bool.true_and])
                clear h1 HBP
                cases q1 with
                | false =>
                  obtain rfl : bp = false := HBQ.out
                  go_wp2_with fail
                  refine (HQ1.out _).mono ?_
                  rintro e w' ⟨rfl, rfl⟩
                  go_wp2
                  go_meet
                  exact ⟨rfl, rfl⟩
                | true =>
                  cases q2 with
                  | false =>
                    obtain rfl : bp = false := HBQ.out
                    go_wp2_with fail
                    refine (HQ1.out _).mono ?_
                    rintro e w' ⟨rfl, rfl⟩
                    go_wp2_with fail
                    refine (HQ2.out _).mono ?_
                    rintro e w' ⟨rfl, rfl⟩
                    go_wp2
                    go_meet
                    exact ⟨rfl, rfl⟩
                  | true =>
                    by_cases h4 : x.d.ties.length ≤ 10
                    · have h4a : decide ((10 : Int) < (x.d.ties.length : Int)) = false := decide_eq_false (by omega)
                      have h4b : decide (10 < x.d.ties.length) = false := decide_eq_false (by omega)
                      obtain rfl : bp = q3 := by rw [HBQ.out, decide_eq_true h4]; simp
                      clear h4
                      go_wp2_with fail
                      refine (HQ1.out _).mono ?_
                      rintro e w' ⟨rfl, rfl⟩
                      go_wp2_with fail
                      refine (HQ2.out _).mono ?_
                      rintro e w' ⟨rfl, rfl⟩
                      go_wp2_with fail
                      refine (HQ3.out _).mono ?_
                      rintro e w' ⟨rfl, rfl⟩
                      go_wp2
                      go_meet
                      exact ⟨rfl, rfl⟩
                    · have h4a : decide ((10 : Int) < (x.d.ties.length : Int)) = true := decide_eq_true (by omega)
                      have h4b : decide (10 < x.d.ties.length) = true := decide_eq_true (by omega)
                      obtain rfl : bp = false := by rw [HBQ.out, decide_eq_false h4]; rfl
                      clear h4
                      go_wp2_with fail
                      refine (HQ1.out _).mono ?_
                      rintro e w' ⟨rfl, rfl⟩
                      go_wp2_with fail
                      refine (HQ2.out _).mono ?_
                      rintro e w' ⟨rfl, rfl⟩
                      go_wp2
                      go_meet
                      exact ⟨rfl, rfl⟩
              · have h1a : ((x.d.levels.length : Int) != c.languages) = true := by simp [h1]
                have h1b : decide ((x.d.levels.length : Int) = c.languages) = false := decide_eq_false h1
                obtain rfl : bp = false := by rw [HBP.out, h1b]; rfl
                clear h1
                go_wp2
                go_meet
                exact ⟨rfl, rfl⟩
            case rest =>
              obtain ⟨rfl, rfl⟩ := hcut
              rename World => W2
              clear HQ1 HQ2 HQ3 HBP hcc0
              have HIL := Lib.hid (fun (w0 : World) (hw : Grow wr w0) => HPX.out.1.below (Below.mono hw (HG.out.trans HGR.out).size))
              have HIT := Lib.hid (fun (w0 : World) (hw : Grow wr w0) => HPX.out.2.below (Below.mono hw (HG.out.trans HGR.out).size))
              obtain ⟨hl1, hl2⟩ := HSX.out
              cases bp with
              | false =>
                have HXX : Hid (ok = false) := Lib.hid (by rw [HOK.out, HNO.out rfl]; rfl)
                go_wp2
                go_ret
                exact ⟨ret_bool HXX.out.symm, HG.out.trans (HGR.out.trans HG2.out)⟩
              | true =>
                rw [Bool.true_and] at HNX HNO
                simp only [Bool.not_true]
                go_upto_region 9 with fail
                clear hpc
                go_wp2_with fail
                go_loopw [5] (fun iv wx => ∃ i : Nat, i ≤ x.d.levels.length ∧ iv = .int .i64 i ∧ (x.d.levels.take i).all (fun n => inB n 0 5) = true ∧ wx = W2) (fun iv _ => x.d.levels.length - (intOf iv).toNat)
                case atStart => exact ⟨0, Nat.zero_le _, rfl, rfl, rfl⟩
                case round => as_aux_lemma =>
                  obtain ⟨i, hi, rfl, hla, rfl⟩ := hrel
                  rename World => W2
                  have HLA := Lib.hid hla
                  clear hla
                  by_cases hil : i < x.d.levels.length
                  · have hi1 : decide ((i : Int) < (x.d.levels.length : Int)) = true := decide_eq_true (by omega)
                    have hi2 : decide (i < x.d.levels.length) = true := decide_eq_true hil
                    have hi3 : (i : Int) < (x.d.levels.length : Int) := by omega
                    have hi0 : (0 : Int) ≤ (i : Int) := by omega
                    obtain ⟨lb, lo, y, hla, hlb, hy, HY⟩ := (HIL.out W2 HG2.out).at_ hil
                    have hpc0 : W2.cell? ⟨wr.heap.size, 0, none⟩ = some (.slice (some ⟨lb, lo, none⟩) x.d.levels.length x.lc) := by rw [HF2.out.cell 0, ← hla]; rfl
                    have HS := Lib.hid (all_succ (q := fun n => inB n 0 5) HY.out HLA.out)
                    have HN := Lib.hid (fun h => all_no (q := fun n => inB n 0 5) HY.out h)
                    have HW := Lib.hid (fun w0 => rwithin_any y 0 5 w0)
                    have HIL' := Lib.hid hil
                    generalize inB y 0 5 = iy at HS HN HW
                    clear hla hlb hil
                    cases iy with
                    | false =>
                      have HXX : Hid (ok = false) := Lib.hid (by rw [HOK.out, HNO.out (by rw [HN.out rfl]; rfl)]; rfl)
                      go_wp2_with fail
                      refine (HW.out _).mono ?_
                      rintro e w' ⟨rfl, rfl⟩
                      go_wp2
                      go_ret
                      exact ⟨ret_bool HXX.out.symm, HG.out.trans (HGR.out.trans HG2.out)⟩
                    | true =>
                      go_wp2_with fail
                      refine (HW.out _).mono ?_
                      rintro e w' ⟨rfl, rfl⟩
                      go_wp2
                      go_roundw
                      case rel => exact ⟨i + 1, HIL'.out, by go_num, HS.out, trivial⟩
                      case measure => have := HIL'.out; simp [intOf]; omega
                  · obtain rfl : i = x.d.levels.length := by omega
                    have hi1 : decide ((x.d.levels.length : Int) < (x.d.levels.length : Int)) = false := by simp
                    have hi2 : decide (x.d.levels.length < x.d.levels.length) = false := by simp
                    have hpc0 : W2.cell? ⟨wr.heap.size, 0, none⟩ = some (.slice x.la x.d.levels.length x.lc) := HF2.out.cell 0
                    have HLL : Hid ((x.d.levels.all fun n => inB n 0 5) = true) := Lib.hid (by rw [List.take_length] at HLA; exact HLA.out)
                    clear hil
                    go_upto_region 14 with fail
                    clear hpc0 hi1 hi2
                    rw [HLL.out, Bool.true_and] at HNX HNO
                    go_wp2_with fail
                    go_loopw [6] (fun iv wx => ∃ i : Nat, i ≤ x.d.ties.length ∧ iv = .int .i64 i ∧ (x.d.ties.take i).all (fun n => inB n 0 99) = true ∧ wx = W2) (fun iv _ => x.d.ties.length - (intOf iv).toNat)
                    case atStart => exact ⟨0, Nat.zero_le _, rfl, rfl, rfl⟩
                    case round => as_aux_lemma =>
                      obtain ⟨i, hi, rfl, hta, rfl⟩ := hrel
                      rename World => W2
                      have HTA := Lib.hid hta
                      clear hta
                      by_cases hil : i < x.d.ties.length
                      · have hi1 : decide ((i : Int) < (x.d.ties.length : Int)) = true := decide_eq_true (by omega)
                        have hi2 : decide (i < x.d.ties.length) = true := decide_eq_true hil
                        have hi3 : (i : Int) < (x.d.ties.length : Int) := by omega
                        have hi0 : (0 : Int) ≤ (i : Int) := by omega
                        obtain ⟨lb, lo, y, hla, hlb, hy, HY⟩ := (HIT.out W2 HG2.out).at_ hil
                        have hpc0 : W2.cell? ⟨wr.heap.size, 3, none⟩ = some (.slice (some ⟨lb, lo, none⟩) x.d.ties.length x.tc) := by rw [HF2.out.cell 3, ← hla]; rfl
                        have HS := Lib.hid (all_succ (q := fun n => inB n 0 99) HY.out HTA.out)
                        have HN := Lib.hid (fun h => all_no (q := fun n => inB n 0 99) HY.out h)
                        have HW := Lib.hid (fun w0 => rwithin_any y 0 99 w0)
                        have HIL' := Lib.hid hil
                        generalize inB y 0 99 = iy at HS HN HW
                        clear hla hlb hil
                        cases iy with
                        | false =>
                          have HXX : Hid (ok = false) := Lib.hid (by rw [HOK.out, HNO.out (HN.out rfl)]; rfl)
                          go_wp2_with fail
                          refine (HW.out _).mono ?_
                          rintro e w' ⟨rfl, rfl⟩
                          go_wp2
                          go_ret
                          exact ⟨ret_bool HXX.out.symm, HG.out.trans (HGR.out.trans HG2.out)⟩
                        | true =>
                          go_wp2_with fail
                          refine (HW.out _).mono ?_
                          rintro e w' ⟨rfl, rfl⟩
                          go_wp2
                          go_roundw
                          case rel => exact ⟨i + 1, HIL'.out, by go_num, HS.out, trivial⟩
                          case measure => have := HIL'.out; simp [intOf]; omega
                      · obtain rfl : i = x.d.ties.length := by omega
                        have hi1 : decide ((x.d.ties.length : Int) < (x.d.ties.length : Int)) = false := by simp
                        have hi2 : decide (x.d.ties.length < x.d.ties.length) = false := by simp
                        have hpc0 : W2.cell? ⟨wr.heap.size, 3, none⟩ = some (.slice x.ta x.d.ties.length x.tc) := HF2.out.cell 3
                        have HTT : Hid ((x.d.ties.all fun n => inB n 0 99) = true) := Lib.hid (by rw [List.take_length] at HTA; exact HTA.out)
                        have HNN : Hid ((c.people.take (k + 1)).all (fun x => okPerson c.languages x.d) = true) := Lib.hid (by rw [HNX.out, HTT.out])
                        have HGN : Hid (Grow W W2) := Lib.hid (HGR.out.trans HG2.out)
                        clear hil
                        go_wp2
                        go_roundw
                        case rel => exact ⟨k + 1, HLT.out, by go_num, HNN.out, HGN.out⟩
                        case measure => have := HLT.out; simp [intOf]; omega
          · obtain rfl : k = c.people.length := by omega
            have hd1 : decide ((c.people.length : Int) < (c.people.length : Int)) = false := by simp
            have hd2 : decide (c.people.length < c.people.length) = false := by simp
            have HOL : Hid (ok = c.laws.all okLaw) := Lib.hid (by
              rw [HOK.out]
              have h := HALL.out
              rw [List.take_length] at h
              rw [h, Bool.true_and])
            clear hlt
            go_upto_region 19 with fail
            clear hcc hd1 hd2
            go_wp2_with fail
            go_loopw [7] (fun iv wx => ∃ i : Nat, i ≤ c.laws.length ∧ iv = .int .i64 i ∧ (c.laws.take i).all okLaw = true ∧ wx = wr) (fun iv _ => c.laws.length - (intOf iv).toNat)
            case atStart => exact ⟨0, Nat.zero_le _, rfl, rfl, rfl⟩
            case round => as_aux_lemma =>
              obtain ⟨i, hi, rfl, hta, rfl⟩ := hrel
              rename World => wr
              have HTA := Lib.hid hta
              clear hta
              have hcc := (HGR.out.block HF.out).cell
              by_cases hil : i < c.laws.length
              · have hi1 : decide ((i : Int) < (c.laws.length : Int)) = true := decide_eq_true (by omega)
                have hi2 : decide (i < c.laws.length) = true := decide_eq_true hil
                have hi3 : (i : Int) < (c.laws.length : Int) := by omega
                have hi0 : (0 : Int) ≤ (i : Int) := by omega
                obtain ⟨lb, lo, y, hla, hlb, hy, HY⟩ := (HL.out wr (HG.out.trans HGR.out)).at_ hil
                have hpc0 : wr.cell? ⟨w.heap.size, 2, none⟩ = some (.slice (some ⟨lb, lo, none⟩) c.laws.length c.wc) := by rw [hcc 2, ← hla]; rfl
                have e0 := hy 0 (by omega); have e1 := hy 1 (by omega)
                rw [Nat.add_zero] at e0
                have HS := Lib.hid (all_succ (q := okLaw) HY.out HTA.out)
                have HN := Lib.hid (fun h => all_no (q := okLaw) HY.out h)
                have HW1 := Lib.hid (fun w0 => rwithin_any y.level 1 5 w0)
                have HW2 := Lib.hid (fun w0 => rwithin_any y.size 1 8 w0)
                have HOY : Hid (okLaw y = (inB y.level 1 5 && inB y.size 1 8)) := rfl
                have HIL' := Lib.hid hil
                generalize okLaw y = oy at HS HN HOY
                generalize inB y.level 1 5 = i1 at HW1 HOY
                generalize inB y.size 1 8 = i2 at HW2 HOY
                clear hla hlb hil hy hcc
                cases i1 with
                | false =>
                  have HXX : Hid (ok = false) := Lib.hid (by rw [HOL.out]; exact HN.out HOY.out)
                  go_wp2_with fail
                  refine (HW1.out _).mono ?_
                  rintro e w' ⟨rfl, rfl⟩
                  go_wp2
                  go_ret
                  exact ⟨ret_bool HXX.out.symm, HG.out.trans HGR.out⟩
                | true =>
                  cases i2 with
                  | false =>
                    have HXX : Hid (ok = false) := Lib.hid (by rw [HOL.out]; exact HN.out HOY.out)
                    go_wp2_with fail
                    refine (HW1.out _).mono ?_
                    rintro e w' ⟨rfl, rfl⟩
                    go_wp2_with fail
                    refine (HW2.out _).mono ?_
                    rintro e w' ⟨rfl, rfl⟩
                    go_wp2
                    go_ret
                    exact ⟨ret_bool HXX.out.symm, HG.out.trans HGR.out⟩
                  | true =>
                    have HSY : Hid ((c.laws.take (i + 1)).all okLaw = true) := Lib.hid (HS.out.trans HOY.out)
                    go_wp2_with fail
                    refine (HW1.out _).mono ?_
                    rintro e w' ⟨rfl, rfl⟩
                    go_wp2_with fail
                    refine (HW2.out _).mono ?_
                    rintro e w' ⟨rfl, rfl⟩
                    go_wp2
                    go_roundw
                    case rel => exact ⟨i + 1, HIL'.out, by go_num, HSY.out, trivial⟩
                    case measure => have := HIL'.out; simp [intOf]; omega
              · obtain rfl : i = c.laws.length := by omega
                have hi1 : decide ((c.laws.length : Int) < (c.laws.length : Int)) = false := by simp
                have hi2 : decide (c.laws.length < c.laws.length) = false := by simp
                have HXX : Hid (ok = true) := Lib.hid (by
                  rw [HOL.out]
                  have h := HTA.out
                  rwa [List.take_length] at h)
                clear hil
                go_wp2
                go_ret
                exact ⟨ret_bool HXX.out.symm, HG.out.trans HGR.out⟩
      · have hc1 : ((c.laws.length : Int) != 4) = true := by simp; omega
        have hc2 : decide ((c.laws.length : Int) = 4) = false := decide_eq_false (by omega)
        have HX : Hid (ok = false) := Lib.hid (by rw [HO.out, decide_eq_false hc]; simp)
        go_wp2_with fail
        refine (HWA.out _).mono ?_
        rintro e w' ⟨rfl, rfl⟩
        go_wp2
        go_ret
        exact ⟨ret_bool HX.out.symm, HG.out⟩
    · have hb1 : decide ((8 : Int) < (c.people.length : Int)) = true := decide_eq_true (by omega)
      have hb2 : decide (8 < c.people.length) = true := decide_eq_true (by omega)
      have HX : Hid (ok = false) := Lib.hid (by rw [HO.out, decide_eq_false hb]; simp)
      go_wp2_with fail
      refine (HWA.out _).mono ?_
      rintro e w' ⟨rfl, rfl⟩
      go_wp2
      go_ret
      exact ⟨ret_bool HX.out.symm, HG.out⟩

end Go.Proofs.Yticeekkfdkfcgaa
