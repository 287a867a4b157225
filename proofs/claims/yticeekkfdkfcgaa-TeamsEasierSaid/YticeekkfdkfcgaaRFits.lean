/- RFits: the specification's Fits and Kept, where its broken sets are known. -/
import Derived.Test.YticeekkfdkfcgaaRefs2
import Derived.Test.YticeekkfdkfcgaaTeams
namespace Go.Proofs.Yticeekkfdkfcgaa
open Go.RowKit

/-- the specification's broken answers f -/
def RB (c : CrewR) (j : JobD) (f : Nat → Nat) (w : World) : Prop := ∀ (t : Nat) (w0 : World), t < 1024 → Grow w w0 → Calls Try.prog 44 #[crewV c, jobV j, .int .i64 (t : Nat)] w0 fun e w' => e = .returned (.int .i64 (f t : Nat)) ∧ Below w0.heap.size w0 w'
theorem RB.more {c : CrewR} {j : JobD} {f : Nat → Nat} {w w1 : World} (h : RB c j f w) (g : Grow w w1) : RB c j f w1 := fun t w0 ht hw => h t w0 ht (g.trans hw)

set_option maxRecDepth 100000 in
set_option maxHeartbeats 4000000 in
theorem rFits_any (c : CrewR) (j : JobD) (f : Nat → Nat) (t : Nat) (w : World) (hB : RB c j f w) (ht : t < 1024) :
    Calls Try.prog 31 #[crewV c, jobV j, .int .i64 (t : Nat)] w fun e w' => e = .returned (.bool (decide (0 < t ∧ f t = 0))) ∧ Below w.heap.size w w' := by
  have HB := Lib.hid (fun w0 hw => hB t w0 ht hw)
  obtain ⟨z, hz⟩ : ∃ z, f t = z := ⟨_, rfl⟩
  rw [hz] at HB ⊢
  clear hB hz
  go_enter Try.func31, Try.ntmps31
  go_upto_region 1 with fail
  obtain ⟨W, hW, hg, hf, hs1, hsz⟩ := two_blocks w 25 27 (cellsC c) (cellsJ j)
  rw [hW]
  clear hW
  have hcc := hf.cell
  have hjc := hs1.cell
  have HG := Lib.hid hg
  clear hf hs1 hg
  by_cases h0 : t = 0
  · subst h0
    go_wp2
    go_ret
    exact ⟨rfl, HG.out⟩
  · have hd : decide ((0 : Int) < (t : Int)) = true := decide_eq_true (by omega)
    have hp : 0 < t := by omega
    go_wp2_with fail
    refine (HB.out W HG.out).mono ?_
    rintro e w1 ⟨rfl, hb1⟩
    have HG1 : Hid (Grow W w1) := hb1
    clear hb1 hcc hjc
    by_cases hz : z = 0
    · subst hz
      go_wp2
      go_ret
      refine ⟨?_, HG.out.trans HG1.out⟩
      first | rfl | simp [hp] | (rw [decide_eq_true ⟨hp, rfl⟩]; rfl)
    · have hzb : (((z : Nat) : Int) == 0) = false := by simpa using hz
      go_wp2
      go_ret
      refine ⟨?_, HG.out.trans HG1.out⟩
      first | rfl | simp [hz] | (rw [decide_eq_false (fun h => hz h.2)]; rfl)

/-- does a team below k keep all rules of a set? -/
def keptTo (f : Nat → Nat) (rules k : Nat) : Bool := (tmTo k).any fun x => f x.val &&& rules == 0
theorem kept_succ {f : Nat → Nat} {rules k : Nat} (h1 : 1 ≤ k) (h2 : k < 1024) : keptTo f rules (k + 1) = (keptTo f rules k || (f k &&& rules == 0)) := by
  unfold keptTo
  rw [tmTo_succ h1 h2, List.any_append]
  simp
theorem kept_more {f : Nat → Nat} {rules k m : Nat} (h : keptTo f rules k = true) (hk : k ≤ m) : keptTo f rules m = true := by
  unfold keptTo at h ⊢
  rw [List.any_eq_true] at h ⊢
  obtain ⟨x, hx, hb⟩ := h
  rw [tmTo_mem] at hx
  exact ⟨x, (tmTo_mem m).2 ⟨hx.1, by omega⟩, hb⟩
theorem team_in {len k : Nat} (_ : len ≤ 8) (hk : 1 ≤ k) : inB (k : Int) 0 (2 ^ len - 1) = decide (k < 2 ^ len) := by
  have hpI : ((2 : Int) ^ len) = ((2 ^ len : Nat) : Int) := (Int.natCast_pow 2 _).symm
  have hp1 : 1 ≤ 2 ^ len := Nat.one_le_two_pow
  by_cases h : k < 2 ^ len
  · rw [decide_eq_true h]
    exact inB_iff.2 ⟨by omega, by omega⟩
  · rw [decide_eq_false h]
    cases hb : inB (k : Int) 0 (2 ^ len - 1) with
    | false => rfl
    | true => have := (inB_iff.1 hb).2; omega

set_option maxRecDepth 100000 in
set_option maxHeartbeats 4000000 in
theorem rKept_any (c : CrewR) (j : JobD) (f : Nat → Nat) (rules : Nat) (w : World) (hB : RB c j f w) (hl8 : c.people.length ≤ 8) (hr : rules < 64) (hf : ∀ t, t < 1024 → f t < 64) :
    Calls Try.prog 33 #[crewV c, jobV j, .int .i64 (rules : Nat)] w fun e w' => e = .returned (.bool (keptTo f rules (2 ^ c.people.length))) ∧ Below w.heap.size w w' := by
  have HB := Lib.hid hB
  have HT := Lib.hid (fun (k : Nat) (hk : 1 ≤ k) (w0 : World) => (show Calls Try.prog 29 #[crewV c, .int .i64 (k : Nat)] w0 fun e w' => e = .returned (.bool (decide (k < 2 ^ c.people.length))) ∧ Below w0.heap.size w0 w' from by
    have h := rIsTeam_any c (k : Nat) w0 hl8
    rwa [team_in hl8 hk] at h))
  have hpl : 2 ^ c.people.length ≤ 256 := Nat.pow_le_pow_right (n := 2) (by omega) hl8
  have hp1 : 1 ≤ 2 ^ c.people.length := Nat.one_le_two_pow
  obtain ⟨m, hm⟩ : ∃ z, 2 ^ c.people.length = z := ⟨_, rfl⟩
  rw [hm] at HT hpl hp1 ⊢
  have HKM := Lib.hid (fun (k : Nat) (h : keptTo f rules k = true) (hk : k ≤ m) => kept_more h hk)
  obtain ⟨res, hres⟩ : ∃ z, keptTo f rules m = z := ⟨_, rfl⟩
  rw [hres]
  have HRES := Lib.hid hres
  clear hB hm hres
  go_enter Try.func33, Try.ntmps33
  go_upto_region 1 with fail
  obtain ⟨W, hW, hg, hfr, hs1, hsz⟩ := two_blocks w 25 27 (cellsC c) (cellsJ j)
  rw [hW]
  clear hW
  have HF := Lib.hid hfr
  have HS := Lib.hid hs1
  have HG := Lib.hid hg
  clear hfr hs1 hg
  go_upto_region 2 with fail
  go_loopw [7] (fun iv wr => ∃ k : Nat, 1 ≤ k ∧ k ≤ m ∧ iv = .int .i64 k ∧ Hid (keptTo f rules k = false) ∧ Grow W wr) (fun v _ => m - (intOf v).toNat)
  case atStart => exact ⟨1, Nat.le_refl _, hp1, rfl, by unfold keptTo; rw [tmTo_one]; rfl, Grow.refl _⟩
  case round =>
    obtain ⟨k, hk1, hk, rfl, HK, hgr⟩ := hrel
    rename World => wr
    have HGR := Lib.hid hgr
    have hcc := (Grow.block hgr HF.out).cell
    clear hgr
    have HTK := Lib.hid (fun w0 => HT.out k hk1 w0)
    by_cases hlt : k < m
    · have HTT : Hid (∀ w0, Calls Try.prog 29 #[crewV c, .int .i64 (k : Nat)] w0 fun e w' => e = .returned (.bool true) ∧ Below w0.heap.size w0 w') := Lib.hid (fun w0 => by have h := HTK.out w0; rwa [decide_eq_true hlt] at h)
      have HBK := Lib.hid (fun w0 hw => HB.out k w0 (by omega) hw)
      have hfk := hf k (by omega)
      have HKS := Lib.hid (kept_succ (f := f) (rules := rules) hk1 (show k < 1024 by omega))
      obtain ⟨z, hz⟩ : ∃ z, f k = z := ⟨_, rfl⟩
      rw [hz] at HBK hfk HKS
      clear hz HTK
      go_wp2_with fail
      refine (HTT.out _).mono ?_
      rintro e w2 ⟨rfl, hb2⟩
      have HG2 : Hid (Grow W w2) := Lib.hid (HGR.out.trans hb2)
      have hcc2 := (Grow.block (HGR.out.trans hb2) HF.out).cell
      have hjc2 := (Grow.block (HGR.out.trans hb2) HS.out).cell
      clear hb2 hcc
      go_wp2_with fail
      refine (HBK.out w2 (HG.out.trans HG2.out)).mono ?_
      rintro e w3 ⟨rfl, hb3⟩
      have HG3 : Hid (Grow W w3) := Lib.hid (HG2.out.trans hb3)
      clear hb3 hcc2 hjc2
      have ha := and_i64 z rules (by omega) (by omega)
      obtain ⟨y, hy⟩ : ∃ y, z &&& rules = y := ⟨_, rfl⟩
      rw [hy] at ha
      have HKY : Hid (keptTo f rules (k + 1) = (y == 0)) := Lib.hid (by rw [HKS.out, HK.out, hy]; rfl)
      clear hy
      by_cases h0 : y = 0
      · subst h0
        obtain rfl : res = true := by rw [← HRES.out]; exact HKM.out (k + 1) HKY.out (by omega)
        go_wp2
        go_ret
        exact ⟨rfl, HG.out.trans HG3.out⟩
      · have hyb : (((y : Nat) : Int) == 0) = false := by simpa using h0
        have HKF : Hid (keptTo f rules (k + 1) = false) := Lib.hid (by rw [HKY.out]; simpa using h0)
        go_wp2
        go_roundw
        case rel => exact ⟨k + 1, by omega, by omega, by simp, HKF, HG3.out⟩
        case measure => simp [intOf]; omega
    · have HTF : Hid (∀ w0, Calls Try.prog 29 #[crewV c, .int .i64 (k : Nat)] w0 fun e w' => e = .returned (.bool false) ∧ Below w0.heap.size w0 w') := Lib.hid (fun w0 => by have h := HTK.out w0; rwa [decide_eq_false hlt] at h)
      have hke : k = m := by omega
      obtain rfl : res = false := by rw [← HRES.out, ← hke]; exact HK.out
      clear HTK hke
      go_wp2_with fail
      refine (HTF.out _).mono ?_
      rintro e w2 ⟨rfl, hb2⟩
      have HG2 : Hid (Grow W w2) := Lib.hid (HGR.out.trans hb2)
      clear hb2 hcc
      go_wp2
      go_ret
      exact ⟨rfl, HG.out.trans HG2.out⟩

end Go.Proofs.Yticeekkfdkfcgaa
