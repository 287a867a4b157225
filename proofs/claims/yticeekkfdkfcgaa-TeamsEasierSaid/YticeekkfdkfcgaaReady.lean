/- Far: the laws' Far. Ready: which crews and jobs the laws examine. -/
import Derived.Test.YticeekkfdkfcgaaRefs2
namespace Go.Proofs.Yticeekkfdkfcgaa
open Go.RowKit

def wideP (p : PersonD) : Bool := decide (20 < p.levels.length) || decide (30 < p.ties.length)
def farC (c : CrewR) : Bool := decide (20 < c.people.length) || decide (20 < c.laws.length) || (c.people.any fun x => wideP x.d) || (okCrew c.d && decide (5 < c.people.length))
theorem any_from {α : Type} {p : α → Bool} {l : List α} {k : Nat} {x : α} (h : l[k]? = some x) (hp : p x = true) : l.any p = true := List.any_eq_true.2 ⟨x, List.mem_of_getElem? h, hp⟩
theorem any_take {α : Type} {p : α → Bool} {l : List α} {k : Nat} {x : α} (h : l[k]? = some x) (hk : (l.take k).any p = false) (hp : p x = false) : (l.take (k + 1)).any p = false := by
  rw [List.take_add_one, h, List.any_append, hk]
  simp [hp]

set_option maxRecDepth 100000 in
set_option maxHeartbeats 4000000 in
theorem far_any (c : CrewR) (n : Nat) (w : World) (hA : CrewAt w n c) (hn : n ≤ w.heap.size) :
    Calls Try.prog 10 #[crewV c] w fun e w' => e = .returned (.bool (farC c)) ∧ Below w.heap.size w w' := by
  have HAT := Lib.hid (fun (w0 : World) (hw : Grow w w0) => ((hA.more hn).below hw).more hw.size)
  have HIS := Lib.hid (fun (hs : Short c) (w0 : World) (hw : Grow w w0) => isCrew_any c w0.heap.size w0 (HAT.out w0 hw) (Nat.le_refl _) hs)
  have HD : Hid (farC c = (decide (20 < c.people.length) || decide (20 < c.laws.length) || (c.people.any fun x => wideP x.d) || (okCrew c.d && decide (5 < c.people.length)))) := Lib.hid rfl
  obtain ⟨r, hr⟩ : ∃ z, farC c = z := ⟨_, rfl⟩
  obtain ⟨oc, hoc⟩ : ∃ z, okCrew c.d = z := ⟨_, rfl⟩
  rw [hr, hoc] at HD
  rw [hoc] at HIS
  rw [hr]
  clear hA hn hr hoc
  go_enter Try.func10, Try.ntmps10
  go_upto_region 1 with fail
  obtain ⟨W, hW, hg, hfr, _⟩ := one_block w 25 (cellsC c)
  rw [hW]
  clear hW
  have hcc := hfr.cell
  have HG := Lib.hid hg
  have HFR := Lib.hid hfr
  clear hg hfr
  by_cases h1 : 20 < c.people.length
  · have d1 : decide ((20 : Int) < (c.people.length : Int)) = true := decide_eq_true (by omega)
    obtain rfl : r = true := by rw [HD.out, decide_eq_true h1]; simp
    go_wp2
    go_ret
    exact ⟨rfl, HG.out⟩
  · have d1 : decide ((20 : Int) < (c.people.length : Int)) = false := decide_eq_false (by omega)
    by_cases h2 : 20 < c.laws.length
    · have d2 : decide ((20 : Int) < (c.laws.length : Int)) = true := decide_eq_true (by omega)
      obtain rfl : r = true := by rw [HD.out, decide_eq_true h2]; simp
      go_wp2
      go_ret
      exact ⟨rfl, HG.out⟩
    · have d2 : decide ((20 : Int) < (c.laws.length : Int)) = false := decide_eq_false (by omega)
      have HD2 : Hid (r = ((c.people.any fun x => wideP x.d) || (oc && decide (5 < c.people.length)))) := Lib.hid (by rw [HD.out, decide_eq_false h1, decide_eq_false h2]; rfl)
      clear HD
      go_upto_region 4 with fail
      clear d1 d2
      go_loopw [3] (fun iv wr => ∃ k : Nat, k ≤ c.people.length ∧ iv = .int .i64 k ∧ Hid ((c.people.take k).any (fun x => wideP x.d) = false) ∧ wr = W) (fun v _ => c.people.length - (intOf v).toNat)
      case atStart => exact ⟨0, by omega, rfl, rfl, rfl⟩
      case round =>
        obtain ⟨k, hk, rfl, HK, rfl⟩ := hrel
        by_cases hlt : k < c.people.length
        · obtain ⟨b, off, x, hpa, hbl, hcx, hpx, HX⟩ := (HAT.out _ HG.out).1.at_ hlt
          have e0 := hcx 0 (by omega); have e3 := hcx 3 (by omega)
          rw [Nat.add_zero] at e0
          have hk0 : (0 : Int) ≤ (k : Int) := by omega
          have hk1 : (k : Int) < (c.people.length : Int) := by omega
          have hd1 : decide ((k : Int) < (c.people.length : Int)) = true := decide_eq_true (by omega)
          clear hcx hpx
          by_cases g1 : 20 < x.d.levels.length
          · have f1 : decide ((20 : Int) < (x.d.levels.length : Int)) = true := decide_eq_true (by omega)
            obtain rfl : r = true := by rw [HD2.out, any_from (p := fun x => wideP x.d) HX.out (by unfold wideP; rw [decide_eq_true g1]; rfl)]; rfl
            go_wp2
            go_ret
            exact ⟨rfl, HG.out⟩
          · have f1 : decide ((20 : Int) < (x.d.levels.length : Int)) = false := decide_eq_false (by omega)
            by_cases g2 : 30 < x.d.ties.length
            · have f2 : decide ((30 : Int) < (x.d.ties.length : Int)) = true := decide_eq_true (by omega)
              obtain rfl : r = true := by rw [HD2.out, any_from (p := fun x => wideP x.d) HX.out (by unfold wideP; rw [decide_eq_true g2, Bool.or_true])]; rfl
              go_wp2
              go_ret
              exact ⟨rfl, HG.out⟩
            · have f2 : decide ((30 : Int) < (x.d.ties.length : Int)) = false := decide_eq_false (by omega)
              have HN := Lib.hid (any_take (p := fun x => wideP x.d) HX.out HK.out (by unfold wideP; rw [decide_eq_false g1, decide_eq_false g2]; rfl))
              go_wp2
              go_roundw
              case rel => exact ⟨k + 1, by omega, by simp, HN.out, by simp⟩
              case measure => simp [intOf]; omega
        · have hd1 : decide ((k : Int) < (c.people.length : Int)) = false := decide_eq_false (by omega)
          have hke : k = c.people.length := by omega
          have HAN : Hid ((c.people.any fun x => wideP x.d) = false) := Lib.hid (by have h := HK.out; rwa [hke, List.take_length] at h)
          have HSH : Hid (Short c) := Lib.hid ⟨by omega, by omega, fun x hx => by
            have h := List.any_eq_false.1 HAN.out x hx
            unfold wideP at h
            simp at h
            omega⟩
          have HR2 : Hid (r = (oc && decide (5 < c.people.length))) := Lib.hid (by rw [HD2.out, HAN.out]; rfl)
          have HI := Lib.hid (HIS.out HSH.out _ HG.out)
          clear hke
          go_wp2_with fail
          refine HI.out.mono ?_
          rintro e w2 ⟨rfl, hb2⟩
          have HG2 : Hid (Grow w w2) := Lib.hid (HG.out.trans hb2)
          have hcc2 := (Grow.block hb2 HFR.out).cell
          clear hb2 hcc
          cases oc with
          | false =>
            obtain rfl : r = false := HR2.out
            go_wp2
            go_ret
            exact ⟨rfl, HG2.out⟩
          | true =>
            by_cases g5 : 5 < c.people.length
            · have d5 : decide ((5 : Int) < (c.people.length : Int)) = true := decide_eq_true (by omega)
              obtain rfl : r = true := by rw [HR2.out, decide_eq_true g5]; rfl
              go_wp2
              go_ret
              exact ⟨rfl, HG2.out⟩
            · have d5 : decide ((5 : Int) < (c.people.length : Int)) = false := decide_eq_false (by omega)
              obtain rfl : r = false := by rw [HR2.out, decide_eq_false g5]; rfl
              go_wp2
              go_ret
              exact ⟨rfl, HG2.out⟩

end Go.Proofs.Yticeekkfdkfcgaa

namespace Go.Proofs.Yticeekkfdkfcgaa
open Go.RowKit

def readyC (c : CrewR) (j : JobD) : Bool := !farC c && decide (crewErr c.d j = 0)
theorem far_short {c : CrewR} (h : farC c = false) : Short c := by
  unfold farC at h
  simp only [Bool.or_eq_false_iff, decide_eq_false_iff_not] at h
  obtain ⟨⟨⟨h1, h2⟩, h3⟩, _⟩ := h
  refine ⟨by omega, by omega, fun x hx => ?_⟩
  have h := List.any_eq_false.1 h3 x hx
  unfold wideP at h
  simp at h
  omega

set_option maxRecDepth 100000 in
set_option maxHeartbeats 4000000 in
theorem ready_any (c : CrewR) (j : JobD) (n : Nat) (w : World) (hA : CrewAt w n c) (hn : n ≤ w.heap.size) :
    Calls Try.prog 28 #[crewV c, jobV j] w fun e w' => e = .returned (.bool (readyC c j)) ∧ Below w.heap.size w w' := by
  have HAT := Lib.hid (fun (w0 : World) (hw : Grow w w0) => ((hA.more hn).below hw).more hw.size)
  have HFA := Lib.hid (fun (w0 : World) (hw : Grow w w0) => far_any c w0.heap.size w0 (HAT.out w0 hw) (Nat.le_refl _))
  have HC := Lib.hid (fun (hs : farC c = false) (w0 : World) (hw : Grow w w0) => rCheck_any c j w0.heap.size w0 (HAT.out w0 hw) (Nat.le_refl _) (far_short hs))
  have HD : Hid (readyC c j = (!farC c && decide (crewErr c.d j = 0))) := Lib.hid rfl
  obtain ⟨r, hr⟩ : ∃ z, readyC c j = z := ⟨_, rfl⟩
  obtain ⟨fa, hfa⟩ : ∃ z, farC c = z := ⟨_, rfl⟩
  obtain ⟨er, her⟩ : ∃ z, crewErr c.d j = z := ⟨_, rfl⟩
  rw [hr, hfa, her] at HD
  rw [hfa] at HFA HC
  rw [her] at HC
  rw [hr]
  clear hA hn hr hfa her
  go_enter Try.func28, Try.ntmps28
  go_upto_region 1 with fail
  obtain ⟨W, hW, hg, hfr, hs1, _⟩ := two_blocks w 25 27 (cellsC c) (cellsJ j)
  rw [hW]
  clear hW
  have hcc := hfr.cell
  have HFR := Lib.hid hfr
  have HS := Lib.hid hs1
  have HG := Lib.hid hg
  clear hg hfr hs1
  go_wp2_with fail
  refine (HFA.out W HG.out).mono ?_
  rintro e w1 ⟨rfl, hb1⟩
  have HG1 : Hid (Grow w w1) := Lib.hid (HG.out.trans hb1)
  have hcc1 := (Grow.block hb1 HFR.out).cell
  have hjc1 := (Grow.block hb1 HS.out).cell
  clear hb1 hcc
  cases fa with
  | true =>
    obtain rfl : r = false := HD.out
    go_wp2
    go_ret
    exact ⟨rfl, HG1.out⟩
  | false =>
    have HCC := Lib.hid (HC.out rfl)
    have HD2 : Hid (r = decide (er = 0)) := HD
    clear HC HD
    go_wp2_with fail
    refine (HCC.out w1 HG1.out).mono ?_
    rintro e w2 ⟨rfl, hb2⟩
    have HG2 : Hid (Grow w w2) := Lib.hid (HG1.out.trans hb2)
    clear hb2 hcc1 hjc1
    by_cases h0 : er = 0
    · subst h0
      obtain rfl : r = true := HD2.out
      go_wp2
      go_ret
      exact ⟨rfl, HG2.out⟩
    · have heb : (er == 0) = false := by simpa using h0
      obtain rfl : r = false := by rw [HD2.out]; exact decide_eq_false h0
      go_wp2
      go_ret
      exact ⟨rfl, HG2.out⟩

end Go.Proofs.Yticeekkfdkfcgaa

