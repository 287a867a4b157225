/- What was seen: validity, and which forms and entries agree. -/
import Derived.Test.YtfpmkolaiomabaaGreatForms
import Derived.Test.YtfpmkolaiomabaaGreatEntry
import Derived.Deep.DeepCutAuto
namespace Go.Proofs.YtfpmkolaiomabaaGreat
open Go.RowKit

structure SeenD where
  rights : Int
  lefts : Int
  faces : Int
  regions : Int
  lost : Int
  cl : Int
  ch : Int
  rl : Int
  rh : Int
  al : Int
  ah : Int
  moves : List Int
def okSeen (s : SeenD) : Bool :=
  inB s.rights 1 8589934591 && (inB s.lefts 1 8589934591 && (decide (s.cl ≤ s.ch) && (decide (s.rl ≤ s.rh) && (decide (s.al ≤ s.ah) && ((decide ((s.moves.length : Int) ≤ 6) && s.moves.all fun x => inB x 1 255) &&
    (inB s.lost 0 6 && (inB s.faces 1 255 && inB s.regions 1 255)))))))
abbrev cellsS (s : SeenD) (A : Option Addr) (cap : Nat) : Array Value := #[.int .i64 s.rights, .int .i64 s.lefts, .int .i64 s.faces, .int .i64 s.regions, .int .i64 s.lost, .int .i64 s.cl, .int .i64 s.ch, .int .i64 s.rl, .int .i64 s.rh,
  .int .i64 s.al, .int .i64 s.ah, .slice A s.moves.length cap]
abbrev seenV (s : SeenD) (A : Option Addr) (cap : Nat) : Value := .agg (cellsS s A cap)

set_option maxHeartbeats 400000 in
theorem validSeenMove_any (x : Int) (w : World) :
    Calls Tryz.prog 120 #[.int .i64 x] w fun e w' => e = .returned (.bool (inB x 1 255)) ∧ w = w' := by
  go_enter Tryz.func120, Tryz.ntmps120
  go_wp2_with (first | (go_at_call 121; refine (validSet_any _ _ _ (by omega)).mono ?_; rintro e w' ⟨rfl, rfl⟩))
  go_ret
  exact ⟨rfl, rfl⟩

set_option maxRecDepth 100000 in
set_option maxHeartbeats 4000000 in
theorem seenValid_any (s : SeenD) (A : Option Addr) (cap B : Nat) (w : World) (hA : Ints w B A s.moves) (hl : s.moves.length ≤ 1000000) (hB : B ≤ w.heap.size) :
    Calls Tryz.prog 97 #[seenV s A cap] w fun e w' => e = .returned (.bool (okSeen s)) ∧ Below w.heap.size w w' := by
  have HA := Lib.hid (hA.more hB)
  clear hA
  go_enter Tryz.func97, Tryz.ntmps97
  go_upto_region 2 with fail
  obtain ⟨W, hW, hg, hf, hsz⟩ := one_block w 100 (cellsS s A cap)
  rw [hW]
  clear hW
  have HV := Lib.hid (fun w0 (h : Grow W w0) => allOfInt_any A cap w.heap.size s.moves 6 w0 (HA.out.below (hg.trans h)) hl (hg.trans h).size 120 (fun x => inB x 1 255) (fun _ _ => by kernel_rfl) (fun x w => validSeenMove_any x w))
  have HF := Lib.hid hf
  have HG := Lib.hid hg
  have hfc := hf.cell
  clear hf hg
  go_cut [4] (fun v wx => v = .bool (inB s.rights 1 8589934591 && inB s.lefts 1 8589934591) ∧ W = wx)
  case first =>
    go_wp2_with (first | (go_at_call 121; refine (validSet_any _ _ _ (by omega)).mono ?_; rintro e w' ⟨rfl, rfl⟩))
    all_goals (go_meet; exact ⟨by simp_all [maxSet], rfl⟩)
  case rest =>
    obtain ⟨rfl, rfl⟩ := hcut
    go_upto_region 3 with fail
    go_cut [5] (fun v wx => v = .bool (decide (s.cl ≤ s.ch) && (decide (s.rl ≤ s.rh) && decide (s.al ≤ s.ah))) ∧ Grow W wx)
    case first =>
      go_wp2_with (go_at_call 107; first
        | (refine (validSpan_any _ _ _).mono ?_; rintro e w3 ⟨rfl, hb3⟩; have HB3 : Hid (Grow W w3) := Grow.trans HB2.out hb3; clear hb3; have HB4 := HB3)
        | (refine (validSpan_any _ _ _).mono ?_; rintro e w2 ⟨rfl, hb2⟩; have HB2 : Hid (Grow W w2) := Grow.trans HB1.out hb2; clear hb2; have hfc2 := (Grow.block HB2.out HF.out).cell)
        | (refine (validSpan_any _ _ _).mono ?_; rintro e w1 ⟨rfl, hb1⟩; have HB1 : Hid (Grow W w1) := hb1; clear hb1; have hfc1 := (Grow.block HB1.out HF.out).cell))
      all_goals go_meet
      all_goals refine ⟨by simp_all <;> omega, ?_⟩
      all_goals first
        | exact HB3.out
        | exact HB2.out
        | exact HB1.out
    case rest =>
      obtain ⟨rfl, hgr⟩ := hcut
      have HG4 := Lib.hid hgr
      have hfc4 := (Grow.block hgr HF.out).cell
      clear hgr
      have HT := Lib.hid hl
      generalize hmv : (decide ((s.moves.length : Int) ≤ 6) && s.moves.all fun x => inB x 1 255) = mv at HV
      go_upto_region 4 with fail
      go_cut [6] (fun v wx => v = .bool (mv && inB s.lost 0 6) ∧ Grow W wx)
      case first =>
        go_wp2_with (first
          | (go_at_call 83; refine (HV.out _ HG4.out).mono ?_; rintro e w5 ⟨rfl, hb5⟩; have HB5 : Hid (Grow W w5) := Grow.trans HG4.out hb5; clear hb5; have hfc5 := (Grow.block HB5.out HF.out).cell)
          | (go_at_call 81; refine (within_any _ _ _ _).mono ?_; rintro e w6 ⟨rfl, rfl⟩))
        all_goals go_meet
        all_goals refine ⟨by clear hmv; simp_all, ?_⟩
        all_goals exact HB5.out
      case rest =>
        obtain ⟨rfl, hgr⟩ := hcut
        have HG6 := Lib.hid hgr
        have hfc6 := (Grow.block hgr HF.out).cell
        clear hgr
        have HO : Hid (okSeen s = ((inB s.rights 1 8589934591 && inB s.lefts 1 8589934591) && ((decide (s.cl ≤ s.ch) && (decide (s.rl ≤ s.rh) && decide (s.al ≤ s.ah))) && ((mv && inB s.lost 0 6) && (inB s.faces 1 255 && inB s.regions 1 255))))) := by
          simp only [Hid, okSeen, hmv, Bool.and_assoc]
        clear hmv
        generalize (inB s.rights 1 8589934591 && inB s.lefts 1 8589934591) = b4 at HO ⊢
        generalize (decide (s.cl ≤ s.ch) && (decide (s.rl ≤ s.rh) && decide (s.al ≤ s.ah))) = b5 at HO ⊢
        generalize (mv && inB s.lost 0 6) = b6 at HO ⊢
        go_wp2_with (first
          | (go_at_call 121; refine (validSet_any _ _ _ (by omega)).mono ?_; rintro e w' ⟨rfl, rfl⟩)
          | (go_at_call 81; refine (within_any _ _ _ _).mono ?_; rintro e w6 ⟨rfl, rfl⟩))
        all_goals go_ret
        all_goals refine ⟨ret_bool ?_, ?_⟩
        all_goals first
          | exact HG.out.trans HG6.out
          | (rw [HO.out]; simp_all [maxSet]; done)
          | (rw [HO.out]; simp_all [inB, maxSet]; done)

end Go.Proofs.YtfpmkolaiomabaaGreat
