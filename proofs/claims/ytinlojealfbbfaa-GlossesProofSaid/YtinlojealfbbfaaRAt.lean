/- RAt: the specification's At, given its sorted; written by wip/tools/at02.py. -/
import Derived.Test.YtinlojealfbbfaaRHeld
namespace Go.Proofs.Ytinlojealfbbfaa
open Go.RowKit

def rinD (fm fr : Int) (x : GlossD) : Bool := decide (x.film = fm) && inB fr x.frm (x.to - 1)
def rAtD (l : List GlossD) (fm fr : Int) : List GlossD := (rheldD l).filter (rinD fm fr)
theorem rheldD_mem {l : List GlossD} {x : GlossD} (h : x ∈ rheldD l) : x ∈ l := sortU_mem (List.mem_filter.1 h).1
theorem rheldD_len (l : List GlossD) : (rheldD l).length ≤ l.length := Nat.le_trans (List.length_filter_le _ _) (sortU_len l)

set_option maxRecDepth 100000 in
set_option maxHeartbeats 8000000 in
theorem rAt_any (HSO : RSortOK) (l : List GlossD) (A : Option Addr) (cap n0 : Nat) (fm fr : Int) (w : World) (hA : GlossAt w n0 A l) (hn : n0 ≤ w.heap.size) (hl : l.length ≤ 1000) (hsm : ∀ x ∈ l, SmallG x) :
    Calls Try.prog 23 #[.slice A l.length cap, .int .i64 fm, .int .i64 fr] w fun e w' => ∃ A' c', e = .returned (.slice A' (rAtD l fm fr).length c') ∧ GlossT w' w.heap.size A' c' (rAtD l fm fr) ∧ Below w.heap.size w w' := by
  obtain ⟨j0, hj, hy0, hy1, hy2⟩ := info_parts Try.infoGloss
  have HS := Lib.hid (rheld_any HSO l A cap n0 w hA hn hl)
  have HD : Hid (rAtD l fm fr = (rheldD l).filter (rinD fm fr)) := rfl
  have hsl : (rheldD l).length ≤ 1000 := Nat.le_trans (rheldD_len l) hl
  have HSM : Hid (∀ x ∈ rheldD l, SmallG x) := Lib.hid (fun x hx => hsm x (rheldD_mem hx))
  have HQX : Hid (∀ x : GlossD, rinD fm fr x = (decide (x.film = fm) && inB fr x.frm (x.to - 1))) := Lib.hid (fun _ => rfl)
  generalize rAtD l fm fr = res at HD ⊢
  generalize rinD fm fr = q at HD HQX
  generalize rheldD l = sl at HD HS hsl HSM
  clear hA hn HSO hsm
  go_enter Try.func23, Try.ntmps23
  go_wp2_with (first | (go_at_call 48; refine HS.out.mono ?_; rintro e w1 ⟨As, cs, rfl, hT, hb1⟩))
  have HA := Lib.hid (show GlossAt w1 w1.heap.size As sl from hT.at_)
  have HB1 : Hid (Grow w w1) := hb1
  clear hT hb1 HS
  go_wp2_with fail
  go_loopw [7, 9] (fun v iv wr => ∃ (k n : Nat) (A' : Option Addr) (c' : Nat), k ≤ sl.length ∧ iv = .int .i64 k ∧ v = .slice A' n c' ∧ Hid (n = ((sl.take k).filter q).length) ∧ n ≤ k ∧ wr.ownsRow w1.heap.size 55 6 (.slice A' n c') n (((sl.take k).filter q).flatMap cellsGL) ∧ Grow w1 wr) (fun _ v _ => sl.length - (intOf v).toNat)
  case atStart => exact ⟨0, 0, none, 0, Nat.zero_le _, rfl, rfl, rfl, Nat.le_refl _, own_nilG _ _, Grow.refl _⟩
  case round =>
    obtain ⟨k, n, A', c', hk, rfl, rfl, HN, hnk, hown, hgr⟩ := hrel
    rename World => wr
    have HOW := Lib.hid hown
    have HGR := Lib.hid hgr
    clear hown hgr
    by_cases hlt : k < sl.length
    · have hld : decide ((k : Int) < (sl.length : Int)) = true := decide_eq_true (by omega)
      have hldn : decide (k < sl.length) = true := decide_eq_true hlt
      obtain ⟨b, off, x, rfl, hb, hc, HX⟩ := (HA.out.below HGR.out).at_ hlt
      have hki : (k : Int) < (sl.length : Int) := by omega
      have hk0 : (0 : Int) ≤ (k : Int) := by omega
      obtain ⟨au, st, fi, frm, till, sg⟩ := x
      have hsm := HSM.out _ (List.mem_of_getElem? HX.out)
      unfold SmallG at hsm
      dsimp only at hsm
      have HWT : Hid (IntKind.i64.wrap (till - 1) = till - 1) := Lib.hid (IntWalk.i64_in _ (by omega))
      have HE0 := Lib.hid (fun (w0 : World) (hg : Grow wr w0) => Grow.cell (v := .int .i64 au) hg (by have h := hc 0 (by omega); rw [Nat.add_zero] at h; exact h))
      have HE1 := Lib.hid (fun (w0 : World) (hg : Grow wr w0) => Grow.cell (v := .int .i64 st) hg (hc 1 (by omega)))
      have HE2 := Lib.hid (fun (w0 : World) (hg : Grow wr w0) => Grow.cell (v := .int .i64 fi) hg (hc 2 (by omega)))
      have HE3 := Lib.hid (fun (w0 : World) (hg : Grow wr w0) => Grow.cell (v := .int .i64 frm) hg (hc 3 (by omega)))
      have HE4 := Lib.hid (fun (w0 : World) (hg : Grow wr w0) => Grow.cell (v := .int .i64 till) hg (hc 4 (by omega)))
      have HE5 := Lib.hid (fun (w0 : World) (hg : Grow wr w0) => Grow.cell (v := .int .i64 sg) hg (hc 5 (by omega)))
      have HFS := Lib.hid (filter_take_succ (q := q) HX.out)
      have HC := Lib.hid (fun w0 => rwithin_any fr frm (till - 1) w0)
      have HQ0 := Lib.hid (HQX.out ⟨au, st, fi, frm, till, sg⟩)
      dsimp only at HQ0
      generalize inB fr frm (till - 1) = c at HC HQ0
      clear hc hb hsm
      by_cases h1 : fi = fm
      · have d1 : decide (fi = fm) = true := decide_eq_true h1
        have b1 : (fi == fm) = true := by simpa using h1
        have HQ : Hid (q ⟨au, st, fi, frm, till, sg⟩ = c) := Lib.hid (by rw [HQ0.out, d1]; rfl)
        clear h1 HQ0
        go_upto_region 6 with fail
        refine wp_region_lit 22 [[], [], [(0, 18), (1, 19)], [(2, 20)], [(3, 21)], [], [(4, 22), (5, 23)], [(6, 24)], [(7, 25)], [(7, 25)], [(7, 25)], [(7, 25), (9, 27), (10, 28)], [(7, 25), (11, 29)], [(7, 25), (12, 30)], [(7, 25)], [(7, 25)], [(7, 25), (14, 32), (15, 33)], [(7, 25), (16, 34)], [(7, 25), (17, 35)], [(7, 25), (18, 36)], [(7, 25), (8, 26), (13, 31), (19, 37)], [(7, 25), (20, 38)]] Grow (fun qi v w' => match qi with
            | 0 => v = .slice (some ⟨b, off, none⟩) sl.length cs
            | 1 => v = .int .i64 (k : Nat)
            | 2 => v = .pointer (some ⟨b, off + k * 6, none⟩)
            | 3 => v = .pointer (some ⟨b, off + k * 6 + 2, none⟩)
            | 4 => v = .int .i64 fi
            | 5 => v = .int .i64 fm
            | 6 => v = .bool true
            | 7 => v = .bool true
            | 8 => v = .int .i64 fr
            | 9 => v = .slice (some ⟨b, off, none⟩) sl.length cs
            | 10 => v = .int .i64 (k : Nat)
            | 11 => v = .pointer (some ⟨b, off + k * 6, none⟩)
            | 12 => v = .pointer (some ⟨b, off + k * 6 + 3, none⟩)
            | 13 => v = .int .i64 frm
            | 14 => v = .slice (some ⟨b, off, none⟩) sl.length cs
            | 15 => v = .int .i64 (k : Nat)
            | 16 => v = .pointer (some ⟨b, off + k * 6, none⟩)
            | 17 => v = .pointer (some ⟨b, off + k * 6 + 4, none⟩)
            | 18 => v = .int .i64 till
            | 19 => v = .int .i64 (till - 1)
            | 20 => v = .bool c
            | 21 => v = .bool c
            | _ => False) (by kernel_rfl) (by kernel_rfl) (fun _ _ _ => Grow.trans) Grow.refl ?_ ?_ ?_
        · intro i v y y' h k
          match i, h with
          | 0, h | 1, h | 2, h | 3, h | 4, h | 5, h | 6, h | 7, h | 8, h | 9, h | 10, h | 11, h | 12, h | 13, h | 14, h | 15, h | 16, h | 17, h | 18, h | 19, h | 20, h | 21, h => exact h
        · simp only [StepsLit, List.take_succ_cons, List.take_zero]
          refine ⟨?_, ?_, ?_, ?_, ?_, ?_, ?_, ?_, ?_, ?_, ?_, ?_, ?_, ?_, ?_, ?_, ?_, ?_, ?_, ?_, ?_, ?_, trivial⟩
          · intro w5 hR
            have hGw : Grow wr w5 := hR.of_drew
            have HGW := Lib.hid hGw
            have e2 := HE2.out w5 HGW.out
            have e3 := HE3.out w5 HGW.out
            have e4 := HE4.out w5 HGW.out
            clear hR hGw
            simp only [depV]
            try go_simp
            all_goals first
              | (with_reducible exact Grow.refl _)
              | (with_reducible exact ⟨Grow.refl _, rfl⟩)
          · intro w5 hR
            have hGw : Grow wr w5 := hR.of_drew
            have HGW := Lib.hid hGw
            have e2 := HE2.out w5 HGW.out
            have e3 := HE3.out w5 HGW.out
            have e4 := HE4.out w5 HGW.out
            clear hR hGw
            simp only [depV]
            try go_simp
            all_goals first
              | (with_reducible exact Grow.refl _)
              | (with_reducible exact ⟨Grow.refl _, rfl⟩)
          · intro w5 hR
            have hGw : Grow wr w5 := hR.of_drew
            have HGW := Lib.hid hGw
            have e2 := HE2.out w5 HGW.out
            have e3 := HE3.out w5 HGW.out
            have e4 := HE4.out w5 HGW.out
            clear hR hGw
            simp only [depV]
            rintro _ rfl
            rintro _ rfl
            try go_simp
            all_goals first
              | (with_reducible exact Grow.refl _)
              | (with_reducible exact ⟨Grow.refl _, rfl⟩)
          · intro w5 hR
            have hGw : Grow wr w5 := hR.of_drew
            have HGW := Lib.hid hGw
            have e2 := HE2.out w5 HGW.out
            have e3 := HE3.out w5 HGW.out
            have e4 := HE4.out w5 HGW.out
            clear hR hGw
            simp only [depV]
            rintro _ rfl
            try go_simp
            all_goals first
              | (with_reducible exact Grow.refl _)
              | (with_reducible exact ⟨Grow.refl _, rfl⟩)
          · intro w5 hR
            have hGw : Grow wr w5 := hR.of_drew
            have HGW := Lib.hid hGw
            have e2 := HE2.out w5 HGW.out
            have e3 := HE3.out w5 HGW.out
            have e4 := HE4.out w5 HGW.out
            clear hR hGw
            simp only [depV]
            rintro _ rfl
            try go_simp
            all_goals first
              | (with_reducible exact Grow.refl _)
              | (with_reducible exact ⟨Grow.refl _, rfl⟩)
          · intro w5 hR
            have hGw : Grow wr w5 := hR.of_drew
            have HGW := Lib.hid hGw
            have e2 := HE2.out w5 HGW.out
            have e3 := HE3.out w5 HGW.out
            have e4 := HE4.out w5 HGW.out
            clear hR hGw
            simp only [depV]
            try go_simp
            all_goals first
              | (with_reducible exact Grow.refl _)
              | (with_reducible exact ⟨Grow.refl _, rfl⟩)
          · intro w5 hR
            have hGw : Grow wr w5 := hR.of_drew
            have HGW := Lib.hid hGw
            have e2 := HE2.out w5 HGW.out
            have e3 := HE3.out w5 HGW.out
            have e4 := HE4.out w5 HGW.out
            clear hR hGw
            simp only [depV]
            rintro _ rfl
            rintro _ rfl
            try go_simp
            all_goals first
              | (with_reducible exact Grow.refl _)
              | (with_reducible exact ⟨Grow.refl _, rfl⟩)
          · intro w5 hR
            have hGw : Grow wr w5 := hR.of_drew
            have HGW := Lib.hid hGw
            have e2 := HE2.out w5 HGW.out
            have e3 := HE3.out w5 HGW.out
            have e4 := HE4.out w5 HGW.out
            clear hR hGw
            simp only [depV]
            rintro _ rfl
            try go_simp
            all_goals first
              | (with_reducible exact Grow.refl _)
              | (with_reducible exact ⟨Grow.refl _, rfl⟩)
          · intro w5 hR
            have hGw : Grow wr w5 := hR.of_drew
            have HGW := Lib.hid hGw
            have e2 := HE2.out w5 HGW.out
            have e3 := HE3.out w5 HGW.out
            have e4 := HE4.out w5 HGW.out
            clear hR hGw
            simp only [depV]
            rintro _ rfl
            try go_simp
            all_goals first
              | (with_reducible exact Grow.refl _)
              | (with_reducible exact ⟨Grow.refl _, rfl⟩)
          · intro w5 hR
            have hGw : Grow wr w5 := hR.of_drew
            have HGW := Lib.hid hGw
            have e2 := HE2.out w5 HGW.out
            have e3 := HE3.out w5 HGW.out
            have e4 := HE4.out w5 HGW.out
            clear hR hGw
            simp only [depV]
            rintro _ rfl
            try go_simp
            all_goals first
              | (with_reducible exact Grow.refl _)
              | (with_reducible exact ⟨Grow.refl _, rfl⟩)
          · intro w5 hR
            have hGw : Grow wr w5 := hR.of_drew
            have HGW := Lib.hid hGw
            have e2 := HE2.out w5 HGW.out
            have e3 := HE3.out w5 HGW.out
            have e4 := HE4.out w5 HGW.out
            clear hR hGw
            simp only [depV]
            rintro _ rfl
            try go_simp
            all_goals first
              | (with_reducible exact Grow.refl _)
              | (with_reducible exact ⟨Grow.refl _, rfl⟩)
          · intro w5 hR
            have hGw : Grow wr w5 := hR.of_drew
            have HGW := Lib.hid hGw
            have e2 := HE2.out w5 HGW.out
            have e3 := HE3.out w5 HGW.out
            have e4 := HE4.out w5 HGW.out
            clear hR hGw
            simp only [depV]
            rintro _ rfl
            rintro _ rfl
            rintro _ rfl
            try go_simp
            all_goals first
              | (with_reducible exact Grow.refl _)
              | (with_reducible exact ⟨Grow.refl _, rfl⟩)
          · intro w5 hR
            have hGw : Grow wr w5 := hR.of_drew
            have HGW := Lib.hid hGw
            have e2 := HE2.out w5 HGW.out
            have e3 := HE3.out w5 HGW.out
            have e4 := HE4.out w5 HGW.out
            clear hR hGw
            simp only [depV]
            rintro _ rfl
            rintro _ rfl
            try go_simp
            all_goals first
              | (with_reducible exact Grow.refl _)
              | (with_reducible exact ⟨Grow.refl _, rfl⟩)
          · intro w5 hR
            have hGw : Grow wr w5 := hR.of_drew
            have HGW := Lib.hid hGw
            have e2 := HE2.out w5 HGW.out
            have e3 := HE3.out w5 HGW.out
            have e4 := HE4.out w5 HGW.out
            clear hR hGw
            simp only [depV]
            rintro _ rfl
            rintro _ rfl
            try go_simp
            all_goals first
              | (with_reducible exact Grow.refl _)
              | (with_reducible exact ⟨Grow.refl _, rfl⟩)
          · intro w5 hR
            have hGw : Grow wr w5 := hR.of_drew
            have HGW := Lib.hid hGw
            have e2 := HE2.out w5 HGW.out
            have e3 := HE3.out w5 HGW.out
            have e4 := HE4.out w5 HGW.out
            clear hR hGw
            simp only [depV]
            rintro _ rfl
            try go_simp
            all_goals first
              | (with_reducible exact Grow.refl _)
              | (with_reducible exact ⟨Grow.refl _, rfl⟩)
          · intro w5 hR
            have hGw : Grow wr w5 := hR.of_drew
            have HGW := Lib.hid hGw
            have e2 := HE2.out w5 HGW.out
            have e3 := HE3.out w5 HGW.out
            have e4 := HE4.out w5 HGW.out
            clear hR hGw
            simp only [depV]
            rintro _ rfl
            try go_simp
            all_goals first
              | (with_reducible exact Grow.refl _)
              | (with_reducible exact ⟨Grow.refl _, rfl⟩)
          · intro w5 hR
            have hGw : Grow wr w5 := hR.of_drew
            have HGW := Lib.hid hGw
            have e2 := HE2.out w5 HGW.out
            have e3 := HE3.out w5 HGW.out
            have e4 := HE4.out w5 HGW.out
            clear hR hGw
            simp only [depV]
            rintro _ rfl
            rintro _ rfl
            rintro _ rfl
            try go_simp
            all_goals first
              | (with_reducible exact Grow.refl _)
              | (with_reducible exact ⟨Grow.refl _, rfl⟩)
          · intro w5 hR
            have hGw : Grow wr w5 := hR.of_drew
            have HGW := Lib.hid hGw
            have e2 := HE2.out w5 HGW.out
            have e3 := HE3.out w5 HGW.out
            have e4 := HE4.out w5 HGW.out
            clear hR hGw
            simp only [depV]
            rintro _ rfl
            rintro _ rfl
            try go_simp
            all_goals first
              | (with_reducible exact Grow.refl _)
              | (with_reducible exact ⟨Grow.refl _, rfl⟩)
          · intro w5 hR
            have hGw : Grow wr w5 := hR.of_drew
            have HGW := Lib.hid hGw
            have e2 := HE2.out w5 HGW.out
            have e3 := HE3.out w5 HGW.out
            have e4 := HE4.out w5 HGW.out
            clear hR hGw
            simp only [depV]
            rintro _ rfl
            rintro _ rfl
            try go_simp
            all_goals first
              | (with_reducible exact Grow.refl _)
              | (with_reducible exact ⟨Grow.refl _, rfl⟩)
          · intro w5 hR
            have hGw : Grow wr w5 := hR.of_drew
            have HGW := Lib.hid hGw
            have e2 := HE2.out w5 HGW.out
            have e3 := HE3.out w5 HGW.out
            have e4 := HE4.out w5 HGW.out
            clear hR hGw
            simp only [depV]
            rintro _ rfl
            rintro _ rfl
            try go_simp
            exact ⟨Grow.refl _, HWT.out⟩
          · intro w5 hR
            have hGw : Grow wr w5 := hR.of_drew
            have HGW := Lib.hid hGw
            have e2 := HE2.out w5 HGW.out
            have e3 := HE3.out w5 HGW.out
            have e4 := HE4.out w5 HGW.out
            clear hR hGw
            simp only [depV]
            rintro _ rfl
            rintro _ rfl
            rintro _ rfl
            rintro _ rfl
            try go_simp
            refine (HC.out _).mono ?_
            rintro e w6 ⟨rfl, rfl⟩
            exact ⟨Grow.refl _, rfl⟩
          · intro w5 hR
            have hGw : Grow wr w5 := hR.of_drew
            have HGW := Lib.hid hGw
            have e2 := HE2.out w5 HGW.out
            have e3 := HE3.out w5 HGW.out
            have e4 := HE4.out w5 HGW.out
            clear hR hGw
            simp only [depV]
            rintro _ rfl
            rintro _ rfl
            try go_simp
            all_goals first
              | (with_reducible exact Grow.refl _)
              | (with_reducible exact ⟨Grow.refl _, rfl⟩)
        · intro w5 hR
          have HG5 : Hid (Grow wr w5) := Lib.hid hR.of_drew
          clear hR
          simp only [finVC, List.take_succ_cons, List.take_zero, List.drop_succ_cons, List.drop_zero]
          rintro _ rfl
          rintro _ rfl
          rintro _ rfl
          rintro _ rfl
          rintro _ rfl
          rintro _ rfl
          rintro _ rfl
          rintro _ rfl
          rintro _ rfl
          rintro _ rfl
          rintro _ rfl
          rintro _ rfl
          rintro _ rfl
          rintro _ rfl
          rintro _ rfl
          rintro _ rfl
          rintro _ rfl
          rintro _ rfl
          rintro _ rfl
          rintro _ rfl
          rintro _ rfl
          rintro _ rfl
          simp only [Act.put, List.setIfInBounds_toArray, List.set_cons_succ, List.set_cons_zero]
          cases c
          · have HFN : Hid ((sl.take (k + 1)).filter q = (sl.take k).filter q) := Lib.hid (by rw [HFS.out, HQ.out]; simp)
            go_wp2
            go_roundw
            case rel => exact ⟨k + 1, n, A', c', hlt, by go_num, rfl, by rw [HFN.out]; exact HN.out, by omega, by rw [HFN.out]; exact own_grow HOW.out HG5.out, HGR.out.trans HG5.out⟩
            case measure => simp [intOf]; omega
          · have HFN : Hid ((sl.take (k + 1)).filter q = (sl.take k).filter q ++ [⟨au, st, fi, frm, till, sg⟩]) := Lib.hid (by rw [HFS.out, HQ.out]; rfl)
            have f0 := HE0.out w5 HG5.out
            have f1 := HE1.out w5 HG5.out
            have f2 := HE2.out w5 HG5.out
            have f3 := HE3.out w5 HG5.out
            have f4 := HE4.out w5 HG5.out
            have f5 := HE5.out w5 HG5.out
            have HOA := Lib.hid (own_grow HOW.out (HG5.out.trans (Grow.alloc w5 (.cells (cellsG ⟨au, st, fi, frm, till, sg⟩) 55))))
            go_wp2_with (at_builtin; go_loud (refine wpList_append_gloss rfl _ _ 25 rfl w1.heap.size 55 j0 (.agg #[.int .i64 0, .int .i64 0, .int .i64 0, .int .i64 0, .int .i64 0, .int .i64 0]) 48 Try.underlying25 hj hy0 hy1 hy2 rfl _ n (((sl.take k).filter q).flatMap cellsGL) rfl HOA.out (some ⟨w5.heap.size, 0, none⟩) 1 1 _ [⟨au, st, fi, frm, till, sg⟩] rfl rfl (news_gloss (BlockIs.new _ _ _)) ?c2 ?c3 ?c4 ?_))
            case c2 => unfold maxLen; omega
            case c3 => omega
            case c4 => have h1 := HGR.out.size; have h2 := HG5.out.size; simp; omega
            intro v' w6 hown hgr
            obtain ⟨An, cn, rfl⟩ := own_form hown
            have HOW3 : Hid (w6.ownsRow w1.heap.size 55 6 (.slice An (n + 1) cn) (n + 1) (((sl.take (k + 1)).filter q).flatMap cellsGL)) := Lib.hid (by
              rw [HFN.out, List.flatMap_append]
              exact hown)
            have HG6 : Hid (Grow w1 w6) := Lib.hid (below_grown (HGR.out.trans (HG5.out.trans (Grow.alloc _ _))) HOA.out hgr (by have h1 := HGR.out.size; have h2 := HG5.out.size; simp; omega))
            have HN3 : Hid (n + 1 = ((sl.take (k + 1)).filter q).length) := Lib.hid (by rw [HFN.out, List.length_append, ← HN.out]; rfl)
            clear hown hgr HOA
            go_wp2
            go_roundw
            case rel => exact ⟨k + 1, n + 1, An, cn, hlt, by go_num, rfl, HN3.out, by omega, HOW3.out, HG6.out⟩
            case measure => simp [intOf]; omega
      · have d1 : decide (fi = fm) = false := decide_eq_false h1
        have b1 : (fi == fm) = false := by simpa using h1
        have HFN : Hid ((sl.take (k + 1)).filter q = (sl.take k).filter q) := Lib.hid (by rw [HFS.out, HQ0.out, d1]; simp)
        clear h1 HQ0
        go_upto_region 6 with fail
        refine wp_region_lit 22 [[], [], [(0, 18), (1, 19)], [(2, 20)], [(3, 21)], [], [(4, 22), (5, 23)], [(6, 24)], [(7, 25)], [(7, 25)], [(7, 25)], [(7, 25), (9, 27), (10, 28)], [(7, 25), (11, 29)], [(7, 25), (12, 30)], [(7, 25)], [(7, 25)], [(7, 25), (14, 32), (15, 33)], [(7, 25), (16, 34)], [(7, 25), (17, 35)], [(7, 25), (18, 36)], [(7, 25), (8, 26), (13, 31), (19, 37)], [(7, 25), (20, 38)]] Grow (fun qi v w' => match qi with
            | 0 => v = .slice (some ⟨b, off, none⟩) sl.length cs
            | 1 => v = .int .i64 (k : Nat)
            | 2 => v = .pointer (some ⟨b, off + k * 6, none⟩)
            | 3 => v = .pointer (some ⟨b, off + k * 6 + 2, none⟩)
            | 4 => v = .int .i64 fi
            | 5 => v = .int .i64 fm
            | 6 => v = .bool false
            | 7 => v = .bool false
            | 8 => v = undef
            | 9 => v = undef
            | 10 => v = undef
            | 11 => v = undef
            | 12 => v = undef
            | 13 => v = undef
            | 14 => v = undef
            | 15 => v = undef
            | 16 => v = undef
            | 17 => v = undef
            | 18 => v = undef
            | 19 => v = undef
            | 20 => v = undef
            | 21 => v = .bool false
            | _ => False) (by kernel_rfl) (by kernel_rfl) (fun _ _ _ => Grow.trans) Grow.refl ?_ ?_ ?_
        · intro i v y y' h k
          match i, h with
          | 0, h | 1, h | 2, h | 3, h | 4, h | 5, h | 6, h | 7, h | 8, h | 9, h | 10, h | 11, h | 12, h | 13, h | 14, h | 15, h | 16, h | 17, h | 18, h | 19, h | 20, h | 21, h => exact h
        · simp only [StepsLit, List.take_succ_cons, List.take_zero]
          refine ⟨?_, ?_, ?_, ?_, ?_, ?_, ?_, ?_, ?_, ?_, ?_, ?_, ?_, ?_, ?_, ?_, ?_, ?_, ?_, ?_, ?_, ?_, trivial⟩
          · intro w5 hR
            have hGw : Grow wr w5 := hR.of_drew
            have HGW := Lib.hid hGw
            have e2 := HE2.out w5 HGW.out
            have e3 := HE3.out w5 HGW.out
            have e4 := HE4.out w5 HGW.out
            clear hR hGw
            simp only [depV]
            try go_simp
            all_goals first
              | (with_reducible exact Grow.refl _)
              | (with_reducible exact ⟨Grow.refl _, rfl⟩)
          · intro w5 hR
            have hGw : Grow wr w5 := hR.of_drew
            have HGW := Lib.hid hGw
            have e2 := HE2.out w5 HGW.out
            have e3 := HE3.out w5 HGW.out
            have e4 := HE4.out w5 HGW.out
            clear hR hGw
            simp only [depV]
            try go_simp
            all_goals first
              | (with_reducible exact Grow.refl _)
              | (with_reducible exact ⟨Grow.refl _, rfl⟩)
          · intro w5 hR
            have hGw : Grow wr w5 := hR.of_drew
            have HGW := Lib.hid hGw
            have e2 := HE2.out w5 HGW.out
            have e3 := HE3.out w5 HGW.out
            have e4 := HE4.out w5 HGW.out
            clear hR hGw
            simp only [depV]
            rintro _ rfl
            rintro _ rfl
            try go_simp
            all_goals first
              | (with_reducible exact Grow.refl _)
              | (with_reducible exact ⟨Grow.refl _, rfl⟩)
          · intro w5 hR
            have hGw : Grow wr w5 := hR.of_drew
            have HGW := Lib.hid hGw
            have e2 := HE2.out w5 HGW.out
            have e3 := HE3.out w5 HGW.out
            have e4 := HE4.out w5 HGW.out
            clear hR hGw
            simp only [depV]
            rintro _ rfl
            try go_simp
            all_goals first
              | (with_reducible exact Grow.refl _)
              | (with_reducible exact ⟨Grow.refl _, rfl⟩)
          · intro w5 hR
            have hGw : Grow wr w5 := hR.of_drew
            have HGW := Lib.hid hGw
            have e2 := HE2.out w5 HGW.out
            have e3 := HE3.out w5 HGW.out
            have e4 := HE4.out w5 HGW.out
            clear hR hGw
            simp only [depV]
            rintro _ rfl
            try go_simp
            all_goals first
              | (with_reducible exact Grow.refl _)
              | (with_reducible exact ⟨Grow.refl _, rfl⟩)
          · intro w5 hR
            have hGw : Grow wr w5 := hR.of_drew
            have HGW := Lib.hid hGw
            have e2 := HE2.out w5 HGW.out
            have e3 := HE3.out w5 HGW.out
            have e4 := HE4.out w5 HGW.out
            clear hR hGw
            simp only [depV]
            try go_simp
            all_goals first
              | (with_reducible exact Grow.refl _)
              | (with_reducible exact ⟨Grow.refl _, rfl⟩)
          · intro w5 hR
            have hGw : Grow wr w5 := hR.of_drew
            have HGW := Lib.hid hGw
            have e2 := HE2.out w5 HGW.out
            have e3 := HE3.out w5 HGW.out
            have e4 := HE4.out w5 HGW.out
            clear hR hGw
            simp only [depV]
            rintro _ rfl
            rintro _ rfl
            try go_simp
            all_goals first
              | (with_reducible exact Grow.refl _)
              | (with_reducible exact ⟨Grow.refl _, rfl⟩)
          · intro w5 hR
            have hGw : Grow wr w5 := hR.of_drew
            have HGW := Lib.hid hGw
            have e2 := HE2.out w5 HGW.out
            have e3 := HE3.out w5 HGW.out
            have e4 := HE4.out w5 HGW.out
            clear hR hGw
            simp only [depV]
            rintro _ rfl
            try go_simp
            all_goals first
              | (with_reducible exact Grow.refl _)
              | (with_reducible exact ⟨Grow.refl _, rfl⟩)
          · intro w5 hR
            have hGw : Grow wr w5 := hR.of_drew
            have HGW := Lib.hid hGw
            have e2 := HE2.out w5 HGW.out
            have e3 := HE3.out w5 HGW.out
            have e4 := HE4.out w5 HGW.out
            clear hR hGw
            simp only [depV]
            rintro _ rfl
            try go_simp
            all_goals first
              | (with_reducible exact Grow.refl _)
              | (with_reducible exact ⟨Grow.refl _, rfl⟩)
          · intro w5 hR
            have hGw : Grow wr w5 := hR.of_drew
            have HGW := Lib.hid hGw
            have e2 := HE2.out w5 HGW.out
            have e3 := HE3.out w5 HGW.out
            have e4 := HE4.out w5 HGW.out
            clear hR hGw
            simp only [depV]
            rintro _ rfl
            try go_simp
            all_goals first
              | (with_reducible exact Grow.refl _)
              | (with_reducible exact ⟨Grow.refl _, rfl⟩)
          · intro w5 hR
            have hGw : Grow wr w5 := hR.of_drew
            have HGW := Lib.hid hGw
            have e2 := HE2.out w5 HGW.out
            have e3 := HE3.out w5 HGW.out
            have e4 := HE4.out w5 HGW.out
            clear hR hGw
            simp only [depV]
            rintro _ rfl
            try go_simp
            all_goals first
              | (with_reducible exact Grow.refl _)
              | (with_reducible exact ⟨Grow.refl _, rfl⟩)
          · intro w5 hR
            have hGw : Grow wr w5 := hR.of_drew
            have HGW := Lib.hid hGw
            have e2 := HE2.out w5 HGW.out
            have e3 := HE3.out w5 HGW.out
            have e4 := HE4.out w5 HGW.out
            clear hR hGw
            simp only [depV]
            rintro _ rfl
            rintro _ rfl
            rintro _ rfl
            try go_simp
            all_goals first
              | (with_reducible exact Grow.refl _)
              | (with_reducible exact ⟨Grow.refl _, rfl⟩)
          · intro w5 hR
            have hGw : Grow wr w5 := hR.of_drew
            have HGW := Lib.hid hGw
            have e2 := HE2.out w5 HGW.out
            have e3 := HE3.out w5 HGW.out
            have e4 := HE4.out w5 HGW.out
            clear hR hGw
            simp only [depV]
            rintro _ rfl
            rintro _ rfl
            try go_simp
            all_goals first
              | (with_reducible exact Grow.refl _)
              | (with_reducible exact ⟨Grow.refl _, rfl⟩)
          · intro w5 hR
            have hGw : Grow wr w5 := hR.of_drew
            have HGW := Lib.hid hGw
            have e2 := HE2.out w5 HGW.out
            have e3 := HE3.out w5 HGW.out
            have e4 := HE4.out w5 HGW.out
            clear hR hGw
            simp only [depV]
            rintro _ rfl
            rintro _ rfl
            try go_simp
            all_goals first
              | (with_reducible exact Grow.refl _)
              | (with_reducible exact ⟨Grow.refl _, rfl⟩)
          · intro w5 hR
            have hGw : Grow wr w5 := hR.of_drew
            have HGW := Lib.hid hGw
            have e2 := HE2.out w5 HGW.out
            have e3 := HE3.out w5 HGW.out
            have e4 := HE4.out w5 HGW.out
            clear hR hGw
            simp only [depV]
            rintro _ rfl
            try go_simp
            all_goals first
              | (with_reducible exact Grow.refl _)
              | (with_reducible exact ⟨Grow.refl _, rfl⟩)
          · intro w5 hR
            have hGw : Grow wr w5 := hR.of_drew
            have HGW := Lib.hid hGw
            have e2 := HE2.out w5 HGW.out
            have e3 := HE3.out w5 HGW.out
            have e4 := HE4.out w5 HGW.out
            clear hR hGw
            simp only [depV]
            rintro _ rfl
            try go_simp
            all_goals first
              | (with_reducible exact Grow.refl _)
              | (with_reducible exact ⟨Grow.refl _, rfl⟩)
          · intro w5 hR
            have hGw : Grow wr w5 := hR.of_drew
            have HGW := Lib.hid hGw
            have e2 := HE2.out w5 HGW.out
            have e3 := HE3.out w5 HGW.out
            have e4 := HE4.out w5 HGW.out
            clear hR hGw
            simp only [depV]
            rintro _ rfl
            rintro _ rfl
            rintro _ rfl
            try go_simp
            all_goals first
              | (with_reducible exact Grow.refl _)
              | (with_reducible exact ⟨Grow.refl _, rfl⟩)
          · intro w5 hR
            have hGw : Grow wr w5 := hR.of_drew
            have HGW := Lib.hid hGw
            have e2 := HE2.out w5 HGW.out
            have e3 := HE3.out w5 HGW.out
            have e4 := HE4.out w5 HGW.out
            clear hR hGw
            simp only [depV]
            rintro _ rfl
            rintro _ rfl
            try go_simp
            all_goals first
              | (with_reducible exact Grow.refl _)
              | (with_reducible exact ⟨Grow.refl _, rfl⟩)
          · intro w5 hR
            have hGw : Grow wr w5 := hR.of_drew
            have HGW := Lib.hid hGw
            have e2 := HE2.out w5 HGW.out
            have e3 := HE3.out w5 HGW.out
            have e4 := HE4.out w5 HGW.out
            clear hR hGw
            simp only [depV]
            rintro _ rfl
            rintro _ rfl
            try go_simp
            all_goals first
              | (with_reducible exact Grow.refl _)
              | (with_reducible exact ⟨Grow.refl _, rfl⟩)
          · intro w5 hR
            have hGw : Grow wr w5 := hR.of_drew
            have HGW := Lib.hid hGw
            have e2 := HE2.out w5 HGW.out
            have e3 := HE3.out w5 HGW.out
            have e4 := HE4.out w5 HGW.out
            clear hR hGw
            simp only [depV]
            rintro _ rfl
            rintro _ rfl
            try go_simp
            all_goals first
              | (with_reducible exact Grow.refl _)
              | (with_reducible exact ⟨Grow.refl _, rfl⟩)
          · intro w5 hR
            have hGw : Grow wr w5 := hR.of_drew
            have HGW := Lib.hid hGw
            have e2 := HE2.out w5 HGW.out
            have e3 := HE3.out w5 HGW.out
            have e4 := HE4.out w5 HGW.out
            clear hR hGw
            simp only [depV]
            rintro _ rfl
            rintro _ rfl
            rintro _ rfl
            rintro _ rfl
            try go_simp
            all_goals first
              | (with_reducible exact Grow.refl _)
              | (with_reducible exact ⟨Grow.refl _, rfl⟩)
          · intro w5 hR
            have hGw : Grow wr w5 := hR.of_drew
            have HGW := Lib.hid hGw
            have e2 := HE2.out w5 HGW.out
            have e3 := HE3.out w5 HGW.out
            have e4 := HE4.out w5 HGW.out
            clear hR hGw
            simp only [depV]
            rintro _ rfl
            rintro _ rfl
            try go_simp
            all_goals first
              | (with_reducible exact Grow.refl _)
              | (with_reducible exact ⟨Grow.refl _, rfl⟩)
        · intro w5 hR
          have HG5 : Hid (Grow wr w5) := Lib.hid hR.of_drew
          clear hR
          simp only [finVC, List.take_succ_cons, List.take_zero, List.drop_succ_cons, List.drop_zero]
          rintro _ rfl
          rintro _ rfl
          rintro _ rfl
          rintro _ rfl
          rintro _ rfl
          rintro _ rfl
          rintro _ rfl
          rintro _ rfl
          rintro _ rfl
          rintro _ rfl
          rintro _ rfl
          rintro _ rfl
          rintro _ rfl
          rintro _ rfl
          rintro _ rfl
          rintro _ rfl
          rintro _ rfl
          rintro _ rfl
          rintro _ rfl
          rintro _ rfl
          rintro _ rfl
          rintro _ rfl
          simp only [Act.put, List.setIfInBounds_toArray, List.set_cons_succ, List.set_cons_zero]
          go_wp2
          go_roundw
          case rel => exact ⟨k + 1, n, A', c', hlt, by go_num, rfl, by rw [HFN.out]; exact HN.out, by omega, by rw [HFN.out]; exact own_grow HOW.out HG5.out, HGR.out.trans HG5.out⟩
          case measure => simp [intOf]; omega
    · obtain rfl : k = sl.length := by omega
      have hld : decide ((sl.length : Int) < (sl.length : Int)) = false := by simp
      have hldn : decide (sl.length < sl.length) = false := by simp
      have htl : sl.take sl.length = sl := List.take_length
      rw [htl] at HN HOW
      rw [← HD.out] at HN HOW
      have HO : Hid (GlossT wr w1.heap.size A' c' res) := Lib.hid (by
        unfold GlossT
        rw [← HN.out]
        exact HOW.out)
      clear hlt htl HOW
      go_wp2
      go_ret
      exact ⟨A', c', congrArg (fun z => Ending.returned (Value.slice A' z c')) HN.out, HO.out.mono HB1.out.size, HB1.out.trans HGR.out⟩

end Go.Proofs.Ytinlojealfbbfaa
