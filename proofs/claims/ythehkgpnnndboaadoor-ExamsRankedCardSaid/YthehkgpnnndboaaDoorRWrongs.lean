/- RTruth: the specification's IsTruth, Result and GradeOf. RRight: the specification's IsRight. RWrongs: the specification's Wrongs. -/
import Derived.Test.YthehkgpnnndboaaDoorResult
namespace Go.Proofs.YthehkgpnnndboaaDoor
open Go.RowKit

set_option maxRecDepth 100000 in
set_option maxHeartbeats 8000000 in
theorem rIsTruth_any (p : PaperR) (A : Option Addr) (cap : Nat) (ps : List Int) (w : World) (hA : PaperAt w w.heap.size p) (hP : Ints w w.heap.size A ps) (hs : p.items.length ≤ 1000000) (_ : ps.length ≤ 1000000) :
    Calls Tryd.prog 44 #[paperV p, .slice A ps.length cap] w fun e w' => e = .returned (.bool (fitsI p.items ps)) ∧ Below w.heap.size w w' := by
  have HPA := Lib.hid (fun (w0 : World) (hw : Grow w w0) => hA.grow hw)
  have HIN := Lib.hid (fun (w0 : World) (hw : Grow w w0) => (hP.below hw).more hw.size)
  have HNO := Lib.hid (fun (k : Nat) (x : ItemI) (y : Int) hx hy hq => fits_no (l := p.items) (ps := ps) (k := k) (x := x) (p := y) hx hy hq)
  have HAL := Lib.hid (fun hq => fits_all (l := p.items) (ps := ps) hq)
  obtain ⟨ft, hft⟩ : ∃ z, fitsI p.items ps = z := ⟨_, rfl⟩
  rw [hft] at HNO HAL ⊢
  clear hft hA hP
  go_enter Tryd.func44, Tryd.ntmps44
  go_upto_region 1 with fail
  obtain ⟨W, hW, hg, hf, hsz⟩ := one_block w 26 (cellsP p)
  rw [hW]
  clear hW
  have HF := Lib.hid hf
  have HG := Lib.hid hg
  have hcc := hf.cell
  clear hf hg
  go_wp2_with fail
  go_loopw [5] (fun iv wr => ∃ k : Nat, k ≤ ps.length ∧ k ≤ p.items.length ∧ iv = .int .i64 (k : Nat) ∧ Hid (∀ (i : Nat) x y, i < k → p.items[i]? = some x → ps[i]? = some y → 0 ≤ y ∧ y ≤ x.m) ∧ Grow W wr) (fun iv _ => ps.length - (intOf iv).toNat)
  case atStart => exact ⟨0, Nat.zero_le _, Nat.zero_le _, rfl, fun i x y hi => by omega, Grow.refl _⟩
  case round =>
    obtain ⟨k, hk, hk2, rfl, HK, hgr⟩ := hrel
    have HGR := Lib.hid hgr
    have hcc := (HGR.out.block HF.out).cell
    clear hgr
    by_cases h1 : k < ps.length
    · have hd1 : decide ((k : Int) < (ps.length : Int)) = true := decide_eq_true (by omega)
      by_cases h2 : k < p.items.length
      · have hd2 : decide ((k : Int) < (p.items.length : Int)) = true := decide_eq_true (by omega)
        obtain ⟨b, off, x, hia, hb, e0, e1, HX⟩ := item_at (HPA.out wr (HG.out.trans HGR.out)) h2
        obtain ⟨pb, po, y, rfl, hpb, hpc, HY⟩ := (HIN.out wr (HG.out.trans HGR.out)).at_ h1
        have HWI := Lib.hid (fun w0 => rwithin_any y 0 x.m w0)
        have hk0 : (0 : Int) ≤ (k : Int) := by omega
        have hk1 : (k : Int) < (p.items.length : Int) := by omega
        have hk3 : (k : Int) < (ps.length : Int) := by omega
        have hs0 : wr.cell? ⟨w.heap.size, 0, none⟩ = some (.slice (some ⟨b, off, none⟩) p.items.length p.ic) := (hcc 0).trans (by show some (Value.slice p.ia p.items.length p.ic) = _; rw [hia])
        have HIB : Hid (inB y 0 x.m = true ↔ 0 ≤ y ∧ y ≤ x.m) := Lib.hid inB_iff
        obtain ⟨ib, hib⟩ : ∃ z, inB y 0 x.m = z := ⟨_, rfl⟩
        rw [hib] at HWI HIB
        clear hcc hia hib
        go_wp2_with fail
        go_quiet (first | (go_at_call 48; exact quiet_same (HWI.out _)))
        cases ib with
        | true =>
          go_wp2_with fail
          go_roundw
          case rel => exact ⟨k + 1, by omega, by omega, by go_num, Lib.hid (fun i x' y' hi hx hy => by
            by_cases hik : i < k
            · exact HK.out i x' y' hik hx hy
            · obtain rfl : i = k := by omega
              have q1 : p.items[i]? = some x := HX.out
              have q2 : ps[i]? = some y := HY.out
              rw [q1] at hx
              rw [q2] at hy
              obtain rfl := Option.some.inj hx
              obtain rfl := Option.some.inj hy
              exact HIB.out.1 (by first | rfl | trivial)), Below.drewN_ HGR.out _⟩
          case measure => simp [intOf]; omega
        | false =>
          have HN : Hid (ft = false) := Lib.hid (HNO.out k x y HX.out HY.out (fun q => by have := HIB.out.2 q; first | exact this.elim | cases this))
          go_wp2_with fail
          go_ret
          exact ⟨ret_bool (by rw [HN.out]), HG.out.trans (Below.drewN_ HGR.out _)⟩
      · have hd2 : decide ((k : Int) < (p.items.length : Int)) = false := decide_eq_false (by omega)
        have HN : Hid (ft = decide (ps.length = p.items.length)) := Lib.hid (HAL.out (fun i x y hx hy => HK.out i x y (by have := (List.getElem?_eq_some_iff.1 hx).1; omega) hx hy))
        have hne : ((ps.length : Int) == (p.items.length : Int)) = false := by rw [beq_eq_false_iff_ne]; omega
        go_wp2_with fail
        go_ret
        exact ⟨ret_bool (by rw [HN.out, decide_eq_false (by omega)]), HG.out.trans HGR.out⟩
    · have hd1 : decide ((k : Int) < (ps.length : Int)) = false := decide_eq_false (by omega)
      have HN : Hid (ft = decide (ps.length = p.items.length)) := Lib.hid (HAL.out (fun i x y hx hy => HK.out i x y (by have := (List.getElem?_eq_some_iff.1 hy).1; omega) hx hy))
      by_cases hq : ps.length = p.items.length
      · have hne : ((ps.length : Int) == (p.items.length : Int)) = true := by rw [hq]; exact beq_self_eq_true _
        have HQ := Lib.hid hq
        clear hq
        go_wp2_with fail
        go_ret
        exact ⟨ret_bool (by rw [HN.out, decide_eq_true HQ.out]), HG.out.trans HGR.out⟩
      · have hne : ((ps.length : Int) == (p.items.length : Int)) = false := by rw [beq_eq_false_iff_ne]; omega
        go_wp2_with fail
        go_ret
        exact ⟨ret_bool (by rw [HN.out, decide_eq_false hq]), HG.out.trans HGR.out⟩

set_option maxRecDepth 100000 in
set_option maxHeartbeats 4000000 in
theorem rResult_any (p : PaperR) (G : GoodP p.d) (A : Option Addr) (cap : Nat) (ps : List Int) (hf : fitsI p.items ps = true) (w : World) (hA : PaperAt w w.heap.size p) (hP : Ints w w.heap.size A ps) :
    Calls Tryd.prog 36 #[paperV p, .slice A ps.length cap] w fun e w' => e = .returned (.int .i64 (resD p.items ps)) ∧ Below w.heap.size w w' := by
  have HPA := Lib.hid (fun (w0 : World) (hw : Grow w w0) => hA.grow hw)
  have HIN := Lib.hid (fun (w0 : World) (hw : Grow w w0) => (hP.below hw).more hw.size)
  have hi4 : p.items.length ≤ 4 := G.i4
  have hlen := fitsI_len hf
  have HB := Lib.hid (resTo_bound (l := p.items) (ps := ps) G.it hf)
  have HS := Lib.hid (fun (k : Nat) (x : ItemI) (y : Int) hx hy => resTo_succ (l := p.items) (ps := ps) (k := k) (x := x) (p := y) hx hy)
  have HIT := Lib.hid (fun (k : Nat) (x : ItemI) (hx : p.items[k]? = some x) => G.it x (List.mem_of_getElem? hx))
  have HFA := Lib.hid (fun (k : Nat) (x : ItemI) (y : Int) hx hy => fitsI_at hf (k := k) (x := x) (p := y) hx hy)
  have HAL := Lib.hid (resTo_all hlen)
  have HLN := Lib.hid hlen
  rw [← HAL.out]
  obtain ⟨rf, hrf⟩ : ∃ z, resTo p.items ps = z := ⟨_, rfl⟩
  have h0 : rf 0 = 0 := by rw [← hrf]; rfl
  rw [hrf] at HB HS ⊢
  clear hrf hA HAL hf hP hlen
  go_enter Tryd.func36, Tryd.ntmps36
  go_upto_region 1 with fail
  obtain ⟨W, hW, hg, hf, hsz⟩ := one_block w 26 (cellsP p)
  rw [hW]
  clear hW
  have HG := Lib.hid hg
  have HF := Lib.hid hf
  have hcc := hf.cell
  clear hf hg
  go_wp2_with fail
  go_loopw [5, 6] (fun sv iv wr => ∃ k : Nat, k ≤ p.items.length ∧ iv = .int .i64 (k : Nat) ∧ sv = .int .i64 (rf k) ∧ Grow W wr) (fun _ iv _ => p.items.length - (intOf iv).toNat)
  case atStart => exact ⟨0, Nat.zero_le _, rfl, by rw [h0], Grow.refl _⟩
  case round =>
    obtain ⟨k, hk, rfl, rfl, hgr⟩ := hrel
    have HGR := Lib.hid hgr
    have hcc := (HGR.out.block HF.out).cell
    clear hgr
    have hln := HLN.out
    by_cases hlt : k < p.items.length
    · have hd : decide ((k : Int) < (ps.length : Int)) = true := decide_eq_true (by omega)
      obtain ⟨b, off, x, hia, hb, e0, e1, HX'⟩ := item_at (HPA.out wr (HG.out.trans HGR.out)) hlt
      obtain ⟨pb, po, y, rfl, hpb, hpc, HY⟩ := (HIN.out wr (HG.out.trans HGR.out)).at_ (k := k) (by omega)
      have hk0 : (0 : Int) ≤ (k : Int) := by omega
      have hk1 : (k : Int) < (p.items.length : Int) := by omega
      have hk3 : (k : Int) < (ps.length : Int) := by omega
      have hs0 : wr.cell? ⟨w.heap.size, 0, none⟩ = some (.slice (some ⟨b, off, none⟩) p.items.length p.ic) := (hcc 0).trans (by show some (Value.slice p.ia p.items.length p.ic) = _; rw [hia])
      obtain ⟨hb1, hb2⟩ := HB.out k hk
      obtain ⟨⟨w1, w2⟩, m1, m2⟩ := HIT.out k x HX'.out
      obtain ⟨y1, y2⟩ := HFA.out k x y HX'.out HY.out
      have q1 : 0 ≤ y * x.w := Int.mul_nonneg y1 w1
      have q2 : y * x.w ≤ 30 * 10 := Int.mul_le_mul (by omega) w2 w1 (by omega)
      have HN := Lib.hid (HS.out k x y HX'.out HY.out)
      have hwm : IntKind.i64.wrap (y * x.w) = y * x.w := IntWalk.i64_in _ (by omega)
      have hwa : IntKind.i64.wrap (rf k + y * x.w) = rf k + y * x.w := IntWalk.i64_in _ (by omega)
      clear q1 q2 hb1 hb2 y1 y2 w1 w2 m1 m2 hcc hia hln
      go_wp2_with fail
      go_quiet (fail)
      go_wp2_with fail
      go_roundw
      case rel => exact ⟨k + 1, by omega, by go_num, by rw [HN.out], Below.drewN_ HGR.out _⟩
      case measure => simp [intOf]; omega
    · obtain rfl : k = p.items.length := by omega
      have hd : decide ((p.items.length : Int) < (ps.length : Int)) = false := decide_eq_false (by omega)
      have hd2 : decide (p.items.length < ps.length) = false := decide_eq_false (by omega)
      have HE : Hid (rf p.items.length = rf p.items.length) := rfl
      clear hln
      go_wp2_with fail
      go_ret
      exact ⟨rfl, HG.out.trans HGR.out⟩
set_option maxRecDepth 100000 in
set_option maxHeartbeats 4000000 in
theorem rGradeOf_any (p : PaperR) (r : Int) (w : World) (hA : PaperAt w w.heap.size p) (hg5 : p.grades.length ≤ 1000000) :
    Calls Tryd.prog 35 #[paperV p, .int .i64 r] w fun e w' => e = .returned (.int .i64 (gradeD p.grades r : Nat)) ∧ Below w.heap.size w w' := by
  have HPA := Lib.hid (fun (w0 : World) (hw : Grow w w0) => (hA.grow hw).grades)
  have HS := Lib.hid (fun (k : Nat) (g : Int) hg => gradeD_snoc (gs := p.grades) (k := k) (g := g) hg r)
  clear hA
  go_enter Tryd.func35, Tryd.ntmps35
  go_upto_region 1 with fail
  obtain ⟨W, hW, hg, hf, hsz⟩ := one_block w 26 (cellsP p)
  rw [hW]
  clear hW
  have HG := Lib.hid hg
  have HF := Lib.hid hf
  clear hf hg
  go_wp2_with fail
  go_loopw [5, 6] (fun sv iv wr => ∃ k : Nat, k ≤ p.grades.length ∧ iv = .int .i64 (k : Nat) ∧ sv = .int .i64 (gradeD (p.grades.take k) r : Nat) ∧ wr = W) (fun _ iv _ => p.grades.length - (intOf iv).toNat)
  case atStart => exact ⟨0, Nat.zero_le _, rfl, rfl, rfl⟩
  case round =>
    obtain ⟨k, hk, rfl, rfl, rfl⟩ := hrel
    rename World => wr
    have hcc := HF.out.cell
    have hgl := gradeD_le (p.grades.take k) r
    rw [List.length_take] at hgl
    by_cases hlt : k < p.grades.length
    · have hd : decide ((k : Int) < (p.grades.length : Int)) = true := decide_eq_true (by omega)
      obtain ⟨b, off, g, hga, hb, hc, HY⟩ := (HPA.out wr HG.out).at_ hlt
      have hk0 : (0 : Int) ≤ (k : Int) := by omega
      have hk1 : (k : Int) < (p.grades.length : Int) := by omega
      have HN := Lib.hid (HS.out k g HY.out)
      obtain ⟨gd, hgd⟩ : ∃ z, gradeD (p.grades.take k) r = z := ⟨_, rfl⟩
      rw [hgd] at HN hgl ⊢
      have hwa : IntKind.i64.wrap ((gd : Int) + 1) = (gd : Int) + 1 := IntWalk.i64_in _ (by omega)
      have hs3 : wr.cell? ⟨w.heap.size, 3, none⟩ = some (.slice (some ⟨b, off, none⟩) p.grades.length p.gc) := (hcc 3).trans (by show some (Value.slice p.ga p.grades.length p.gc) = _; rw [hga])
      clear hga hgd hcc
      by_cases hq : g ≤ r
      · have hdq : decide (g ≤ r) = true := decide_eq_true hq
        go_wp2_with fail
        go_roundw
        case rel => exact ⟨k + 1, by omega, by go_num, by rw [HN.out, if_pos hq]; rfl, by first | rfl | trivial⟩
        case measure => simp [intOf]; omega
      · have hdq : decide (g ≤ r) = false := decide_eq_false hq
        go_wp2_with fail
        go_roundw
        case rel => exact ⟨k + 1, by omega, by go_num, by rw [HN.out, if_neg hq]; rfl, by first | rfl | trivial⟩
        case measure => simp [intOf]; omega
    · obtain rfl : k = p.grades.length := by omega
      have hd : decide ((p.grades.length : Int) < (p.grades.length : Int)) = false := decide_eq_false (by omega)
      go_wp2_with fail
      go_ret
      exact ⟨by rw [List.take_length]; rfl, HG.out⟩

end Go.Proofs.YthehkgpnnndboaaDoor

namespace Go.Proofs.YthehkgpnnndboaaDoor
open Go.RowKit

set_option maxRecDepth 100000 in
set_option maxHeartbeats 16000000 in
theorem rIsRight_any (x : JudgeR) (A : Option Addr) (cap : Nat) (ps : List Int) (w : World) (hx : Ints w w.heap.size x.a x.d.marks) (hP : Ints w w.heap.size A ps)
    (hb : -3 ≤ x.d.lo ∧ x.d.lo ≤ x.d.hi ∧ x.d.hi ≤ 3) (he : 0 ≤ x.d.err ∧ x.d.err ≤ 5) (hm : ∀ m ∈ x.d.marks, -1 ≤ m ∧ m ≤ 50) (hl : x.d.marks.length = ps.length) (h4 : ps.length ≤ 4) (hp : ∀ y ∈ ps, 0 ≤ y ∧ y ≤ 30) :
    Calls Tryd.prog 42 #[judgeV x, .slice A ps.length cap] w fun e w' => e = .returned (.bool (rightJ x.d ps)) ∧ Below w.heap.size w w' := by
  obtain ⟨⟨lo, hi, err, marks⟩, ma, mc⟩ := x
  dsimp only at hx hb he hm hl
  have HMA := Lib.hid (fun (w0 : World) (hw : Grow w w0) => (hx.below hw).more hw.size)
  have HIN := Lib.hid (fun (w0 : World) (hw : Grow w w0) => (hP.below hw).more hw.size)
  have HM := Lib.hid hm
  have HPB := Lib.hid hp
  have HYES := Lib.hid (fun (b : Int) h0 h1 h2 => found_yes (j := ⟨lo, hi, err, marks⟩) (ps := ps) (b := b) h0 h1 h2)
  have HNO := Lib.hid (fun (n : Nat) h0 h1 => found_no (j := ⟨lo, hi, err, marks⟩) (ps := ps) (n := n) h0 h1)
  have HFS := Lib.hid (fun (b : Int) (k : Nat) (m y : Int) hm hy => fitsTo_succ (j := ⟨lo, hi, err, marks⟩) (ps := ps) b (k := k) (m := m) (p := y) hm hy)
  have HFA := Lib.hid (fun (b : Int) => fitsTo_all (j := ⟨lo, hi, err, marks⟩) (ps := ps) b hl)
  have HFT : Hid (∀ n, foundTo ⟨lo, hi, err, marks⟩ ps n ↔ ∀ i : Nat, i < n → fitsB ⟨lo, hi, err, marks⟩ ps (lo + i) = false) := Lib.hid (fun _ => Iff.rfl)
  obtain ⟨rj, hrj⟩ : ∃ z, rightJ ⟨lo, hi, err, marks⟩ ps = z := ⟨_, rfl⟩
  obtain ⟨ft, hft⟩ : ∃ z, fitsTo ⟨lo, hi, err, marks⟩ ps = z := ⟨_, rfl⟩
  have hf0 : ∀ b, ft b 0 = true := by rw [← hft]; exact fun _ => rfl
  have HF0 := Lib.hid hf0
  rw [hrj] at HYES HNO
  rw [hft] at HFS HFA
  dsimp only at HYES HNO
  rw [hrj]
  obtain ⟨b1, b2, b3⟩ := hb
  obtain ⟨e1, e2⟩ := he
  clear hrj hft hf0 hx hP hm hp
  go_enter Tryd.func42, Tryd.ntmps42
  go_upto_region 1 with fail
  obtain ⟨W, hW, hg, hf, hsz⟩ := one_block w 60 (cellsJ ⟨⟨lo, hi, err, marks⟩, ma, mc⟩)
  rw [hW]
  clear hW
  have HG := Lib.hid hg
  have HF := Lib.hid hf
  have hcc := hf.cell
  clear hf hg
  go_wp2_with fail
  go_loopw [5] (fun bv wr => ∃ n : Nat, lo + (n : Int) ≤ hi + 1 ∧ bv = .int .i64 (lo + (n : Int)) ∧ Hid (foundTo ⟨lo, hi, err, marks⟩ ps n) ∧ Grow W wr) (fun bv _ => (hi + 1 - intOf bv).toNat)
  case atStart => exact ⟨0, by omega, by simp, fun i hi => by omega, Grow.refl _⟩
  case round =>
    obtain ⟨n, hn, rfl, HFN, hgr⟩ := hrel
    have HGR := Lib.hid hgr
    have hcc := (HGR.out.block HF.out).cell
    clear hgr
    obtain ⟨bv, hbv⟩ : ∃ z, lo + (n : Int) = z := ⟨_, rfl⟩
    rw [hbv] at hn ⊢
    by_cases hlt : bv ≤ hi
    · have hd : decide (bv ≤ hi) = true := decide_eq_true hlt
      have hwb : IntKind.i64.wrap (bv + 1) = bv + 1 := IntWalk.i64_in _ (by omega)
      have hlo : lo ≤ bv := by omega
      go_wp2_with fail
      go_loopw [6, 7] (fun sv iv wi => ∃ k : Nat, k ≤ ps.length ∧ iv = .int .i64 (k : Nat) ∧ sv = .bool (ft bv k) ∧ Grow wr wi) (fun _ iv _ => ps.length - (intOf iv).toNat)
      case atStart => exact ⟨0, Nat.zero_le _, rfl, by rw [HF0.out], Grow.refl _⟩
      case round =>
        obtain ⟨k, hk, rfl, rfl, hgi⟩ := hrel
        rename World => wi
        have HGI : Hid (Grow W wi) := Lib.hid (HGR.out.trans hgi)
        have HGI2 := Lib.hid hgi
        have hcc := (HGI.out.block HF.out).cell
        clear hgi
        by_cases hkl : k < ps.length
        · have hdk : decide ((k : Int) < (ps.length : Int)) = true := decide_eq_true (by omega)
          obtain ⟨mb, mo, m, rfl, hmb, hmc, HMM⟩ := (HMA.out wi (HG.out.trans HGI.out)).at_ (k := k) (by omega)
          obtain ⟨pb, po, y, rfl, hpb, hpc, HY⟩ := (HIN.out wi (HG.out.trans HGI.out)).at_ (k := k) hkl
          obtain ⟨m1, m2⟩ := HM.out m (List.mem_of_getElem? HMM.out)
          obtain ⟨y1, y2⟩ := HPB.out y (List.mem_of_getElem? HY.out)
          have hk0 : (0 : Int) ≤ (k : Int) := by omega
          have hk1 : (k : Int) < (marks.length : Int) := by omega
          have hk3 : (k : Int) < (ps.length : Int) := by omega
          have HN := Lib.hid (HFS.out bv k m y HMM.out HY.out)
          have hw1 : IntKind.i64.wrap (m - y) = m - y := IntWalk.i64_in _ (by omega)
          have hw2 : IntKind.i64.wrap (m - y - bv) = m - y - bv := IntWalk.i64_in _ (by omega)
          have hwn : IntKind.i64.wrap (-err) = -err := IntWalk.i64_in _ (by omega)
          have HWI := Lib.hid (fun w0 => rwithin_any (m - y - bv) (-err) err w0)
          have HFT1 : Hid (fit1 err bv (m, y) = (decide (m = -1) || inB (m - y - bv) (-err) err)) := rfl
          rw [HFT1.out] at HN
          obtain ⟨ib, hib⟩ : ∃ z, inB (m - y - bv) (-err) err = z := ⟨_, rfl⟩
          rw [hib] at HWI HN
          obtain ⟨a, ha⟩ : ∃ z, ft bv k = z := ⟨_, rfl⟩
          rw [ha] at HN ⊢
          clear hib ha HFT1 m1 m2 y1 y2
          cases a with
          | false =>
            go_wp2_with fail
            go_quiet (fail)
            go_wp2_with fail
            go_roundw
            case rel => exact ⟨k + 1, by omega, by go_num, by rw [HN.out]; rfl, Below.drewN_ HGI2.out _⟩
            case measure => simp [intOf]; omega
          | true =>
            by_cases hmq : m = -1
            · have hdm : (m == -1) = true := by rw [hmq]; rfl
              have HN2 : Hid (ft bv (k + 1) = true) := Lib.hid (by rw [HN.out, decide_eq_true hmq]; rfl)
              clear hmq
              go_wp2_with fail
              go_quiet (fail)
              go_wp2_with fail
              go_roundw
              case rel => exact ⟨k + 1, by omega, by go_num, by rw [HN2.out], Below.drewN_ HGI2.out _⟩
              case measure => simp [intOf]; omega
            · have hdm : (m == -1) = false := by rw [beq_eq_false_iff_ne]; exact hmq
              have HN2 : Hid (ft bv (k + 1) = ib) := Lib.hid (by rw [HN.out, decide_eq_false hmq]; cases ib <;> rfl)
              go_wp2_with fail
              go_quiet (first | (go_at_call 48; exact quiet_same (HWI.out _)))
              go_wp2_with fail
              go_roundw
              case rel => exact ⟨k + 1, by omega, by go_num, by rw [HN2.out], Below.drewN_ HGI2.out _⟩
              case measure => simp [intOf]; omega
        · obtain rfl : k = ps.length := by omega
          have hdk : decide ((ps.length : Int) < (ps.length : Int)) = false := decide_eq_false (by omega)
          have HE := Lib.hid (HFA.out bv)
          obtain ⟨a, ha⟩ : ∃ z, ft bv ps.length = z := ⟨_, rfl⟩
          rw [ha] at HE ⊢
          clear ha
          cases a with
          | true =>
            have HN : Hid (rj = true) := Lib.hid (HYES.out bv hlo hlt HE.out.symm)
            go_wp2_with fail
            go_ret
            exact ⟨ret_bool (by rw [HN.out]), HG.out.trans HGI.out⟩
          | false =>
            go_wp2_with fail
            go_roundw
            case rel => exact ⟨n + 1, by omega, by rw [← hbv]; exact congrArg (Value.int .i64) (by omega), Lib.hid ((HFT.out (n + 1)).2 fun i hi => by
              by_cases hin : i < n
              · exact (HFT.out n).1 HFN.out i hin
              · obtain rfl : i = n := by omega
                rw [hbv]
                exact HE.out.symm), HGI.out⟩
            case measure => simp [intOf]; omega
    · have hd : decide (bv ≤ hi) = false := decide_eq_false hlt
      have HN : Hid (rj = false) := Lib.hid (HNO.out n (by omega) HFN.out)
      go_wp2_with fail
      go_ret
      exact ⟨ret_bool (by rw [HN.out]), HG.out.trans HGR.out⟩

end Go.Proofs.YthehkgpnnndboaaDoor

namespace Go.Proofs.YthehkgpnnndboaaDoor
open Go.RowKit

theorem fits_bound {d : PaperI} (G : GoodP d) {ps : List Int} (h : fitsI d.items ps = true) : ∀ y ∈ ps, 0 ≤ y ∧ y ≤ 30 := by
  intro y hy
  obtain ⟨k, hk, e⟩ := List.getElem_of_mem hy
  have hl := fitsI_len h
  have h1 := fitsI_at h (List.getElem?_eq_getElem (show k < d.items.length by omega)) (List.getElem?_eq_getElem hk)
  have h2 := G.it _ (List.getElem_mem (show k < d.items.length by omega))
  rw [e] at h1
  omega
set_option maxRecDepth 100000 in
set_option maxHeartbeats 8000000 in
theorem rWrongs_any (p : PaperR) (G : GoodP p.d) (A : Option Addr) (cap : Nat) (ps : List Int) (hf : fitsI p.items ps = true) (w : World) (hA : PaperAt w w.heap.size p) (hP : Ints w w.heap.size A ps) :
    Calls Tryd.prog 45 #[paperV p, .slice A ps.length cap] w fun e w' => e = .returned (.int .i64 (wrongC p.d.judges ps : Nat)) ∧ Below w.heap.size w w' := by
  have HPA := Lib.hid (fun (w0 : World) (hw : Grow w w0) => hA.grow hw)
  have HIN := Lib.hid (fun (w0 : World) (hw : Grow w w0) => (hP.below hw).more hw.size)
  have hlen := fitsI_len hf
  have h4 : p.judges.length ≤ 4 := by have := G.j4; rw [d_len] at this; exact this
  have HRI := Lib.hid (fun (k : Nat) (x : JudgeR) (hx : p.judges[k]? = some x) (w0 : World) (hw : Grow w w0) => rIsRight_any x A cap ps w0 ((hA.grow hw).marks x (List.mem_of_getElem? hx)) ((hP.below hw).more hw.size)
    (G.ju x.d (List.mem_map_of_mem (List.mem_of_getElem? hx))).1 (G.ju x.d (List.mem_map_of_mem (List.mem_of_getElem? hx))).2.1 (G.ju x.d (List.mem_map_of_mem (List.mem_of_getElem? hx))).2.2.2
    (by have h1 := (G.ju x.d (List.mem_map_of_mem (List.mem_of_getElem? hx))).2.2.1; have h2 : p.d.items.length = p.items.length := rfl; omega) (by have h3 := G.i4; have h2 : p.d.items.length = p.items.length := rfl; omega) (fits_bound G hf))
  have HS := Lib.hid (fun (k : Nat) (x : JudgeR) (hx : p.judges[k]? = some x) => wrongC_snoc (js := p.d.judges) (k := k) (j := x.d) (by show (p.judges.map JudgeR.d)[k]? = _; rw [List.getElem?_map, hx]; rfl) ps)
  obtain ⟨wc, hwc⟩ : ∃ z : Nat → Nat, (fun k => wrongC (p.d.judges.take k) ps) = z := ⟨_, rfl⟩
  have hwk : ∀ k, wrongC (p.d.judges.take k) ps = wc k := fun k => by rw [← hwc]
  have HE : Hid (wrongC p.d.judges ps = wc p.judges.length) := Lib.hid (by rw [← hwk, ← d_len, List.take_length])
  have HL : Hid (∀ k, wc k ≤ 4) := Lib.hid (fun k => by
    rw [← hwk]
    have h1 := wrongC_le (p.d.judges.take k) ps
    have h2 := G.j4
    rw [List.length_take] at h1
    omega)
  have H0 : Hid (wc 0 = 0) := Lib.hid (by rw [← hwk]; rfl)
  simp only [hwk] at HS
  rw [HE.out]
  clear hwc hwk hA hP hf hlen HE
  go_enter Tryd.func45, Tryd.ntmps45
  go_upto_region 1 with fail
  obtain ⟨W, hW, hg, hfb, hsz⟩ := one_block w 26 (cellsP p)
  rw [hW]
  clear hW
  have HG := Lib.hid hg
  have HF := Lib.hid hfb
  clear hg hfb
  go_wp2_with fail
  go_loopw [5, 6] (fun nv iv wr => ∃ k : Nat, k ≤ p.judges.length ∧ iv = .int .i64 (k : Nat) ∧ nv = .int .i64 (wc k : Nat) ∧ Grow W wr) (fun _ iv _ => p.judges.length - (intOf iv).toNat)
  case atStart => exact ⟨0, Nat.zero_le _, rfl, by rw [H0.out]; rfl, Grow.refl _⟩
  case round =>
    obtain ⟨k, hk, rfl, rfl, hgr⟩ := hrel
    rename World => wr
    have HGR := Lib.hid hgr
    have hcc := (hgr.block HF.out).cell
    clear hgr
    have hlc := HL.out k
    have hk0 : (0 : Int) ≤ (k : Int) := by omega
    by_cases hlt : k < p.judges.length
    · have hd : decide ((k : Int) < (p.judges.length : Int)) = true := decide_eq_true (by omega)
      have hk1 : (k : Int) < (p.judges.length : Int) := by omega
      obtain ⟨b, off, x, hja, hb, c0, c1, c2, c3, HX, _⟩ := judge_at (HPA.out wr (HG.out.trans HGR.out)) hlt
      have hja1 : wr.cell? ⟨w.heap.size, 1, none⟩ = some (.slice (some ⟨b, off, none⟩) p.judges.length p.jc) := (hcc 1).trans (by show some (Value.slice p.ja p.judges.length p.jc) = _; rw [hja])
      have hcc0 := hcc
      clear hcc hja hcc0
      have HR := Lib.hid (HRI.out k x HX.out wr (HG.out.trans HGR.out))
      have HN := Lib.hid (HS.out k x HX.out)
      obtain ⟨rj, hrj⟩ : ∃ z, rightJ x.d ps = z := ⟨_, rfl⟩
      rw [hrj] at HR HN
      clear hrj
      go_wp2_with fail
      refine HR.out.mono ?_
      rintro e w2 ⟨rfl, hb2⟩
      have HG2 : Hid (Grow W w2) := Lib.hid (HGR.out.trans hb2)
      clear hb2 c0 c1 c2 c3 hja1
      cases rj with
      | true =>
        have hn : wc (k + 1) = wc k := HN.out
        go_wp2_with fail
        go_roundw
        case rel => exact ⟨k + 1, by omega, by go_num, by rw [hn], HG2.out⟩
        case measure => simp [intOf]; omega
      | false =>
        have hn : wc (k + 1) = wc k + 1 := HN.out
        go_wp2_with fail
        go_roundw
        case rel => exact ⟨k + 1, by omega, by go_num, by rw [hn]; go_num, HG2.out⟩
        case measure => simp [intOf]; omega
    · obtain rfl : k = p.judges.length := by omega
      have hd : decide ((p.judges.length : Int) < (p.judges.length : Int)) = false := decide_eq_false (by omega)
      go_wp2_with fail
      go_ret
      exact ⟨rfl, HG.out.trans HGR.out⟩

end Go.Proofs.YthehkgpnnndboaaDoor

