/- Valid: whether a paper is valid, as the program says. -/
import Derived.Test.YthehkgpnnndboaaDoorAll
import Derived.Test.YthehkgpnnndboaaDoorRegion
import Derived.Deep.DeepCutAuto
import Derived.BigQuiet
import Derived.Laws.EntriesVeiled
namespace Go.Proofs.YthehkgpnnndboaaDoor
open Go.RowKit

theorem quiet_same {P : Program} {f : FuncId} {args : Array Value} {w : World} {n : Nat} {v : Value} (h : Calls P f args (w.drewN n) fun e w' => e = .returned v ∧ w.drewN n = w') :
    Calls P f args (w.drewN n) fun e w'' => e = .returned v ∧ ∃ m, w'' = w.drewN m := h.mono fun _ _ ⟨he, hk⟩ => ⟨he, n, hk.symm⟩
set_option maxHeartbeats 400000 in
theorem validMark_any (n : Int) (w : World) : Calls Tryd.prog 83 #[.int .i64 n] w fun e w' => e = .returned (.bool (okMark n)) ∧ w = w' := by
  go_enter Tryd.func83, Tryd.ntmps83
  go_wp2_with (first | (go_at_call 77; refine (within_any _ _ _ _).mono ?_; rintro e w' ⟨rfl, rfl⟩))
  go_ret
  exact ⟨rfl, rfl⟩
set_option maxHeartbeats 400000 in
theorem validLimit_any (n : Int) (w : World) : Calls Tryd.prog 87 #[.int .i64 n] w fun e w' => e = .returned (.bool (okLimit n)) ∧ w = w' := by
  go_enter Tryd.func87, Tryd.ntmps87
  go_wp2_with (first | (go_at_call 77; refine (within_any _ _ _ _).mono ?_; rintro e w' ⟨rfl, rfl⟩))
  go_ret
  exact ⟨rfl, rfl⟩
set_option maxRecDepth 100000 in
set_option maxHeartbeats 4000000 in
theorem validItem_any (x : ItemI) (w : World) : Calls Tryd.prog 85 #[itemV x] w fun e w' => e = .returned (.bool (okItem x)) ∧ Below w.heap.size w w' := by
  obtain ⟨xw, xm⟩ := x
  have H1 := Lib.hid (fun w0 => within_any xw 0 10 w0)
  have H2 := Lib.hid (fun w0 => within_any xm 0 30 w0)
  have HOK : Hid (okItem ⟨xw, xm⟩ = (inB xw 0 10 && inB xm 0 30)) := rfl
  obtain ⟨ok, hok⟩ : ∃ z, okItem ⟨xw, xm⟩ = z := ⟨_, rfl⟩
  rw [hok] at HOK ⊢
  generalize inB xw 0 10 = q1 at H1 HOK
  generalize inB xm 0 30 = q2 at H2 HOK
  clear hok
  go_enter Tryd.func85, Tryd.ntmps85
  go_upto_region 1 with fail
  obtain ⟨W, hW, hg, hf, hsz⟩ := one_block w 78 (cellsI ⟨xw, xm⟩)
  rw [hW]
  clear hW
  have hcc := hf.cell
  have HG := Lib.hid hg
  clear hf hg
  cases q1 with
  | false =>
    go_wp2_with fail
    refine (H1.out _).mono ?_
    rintro e w1 ⟨rfl, rfl⟩
    go_wp2
    go_ret
    exact ⟨ret_bool (by rw [HOK.out]; rfl), HG.out⟩
  | true =>
    go_wp2_with fail
    refine (H1.out _).mono ?_
    rintro e w1 ⟨rfl, rfl⟩
    go_wp2_with fail
    refine (H2.out _).mono ?_
    rintro e w1 ⟨rfl, rfl⟩
    go_wp2
    go_ret
    exact ⟨ret_bool (by rw [HOK.out]; rfl), HG.out⟩
set_option maxRecDepth 100000 in
set_option maxHeartbeats 4000000 in
theorem validJudge_any (p : PaperR) (pb : Nat) (x : JudgeR) (w : World) (hb : BlockIs w pb 26 (cellsP p)) (hx : Ints w w.heap.size x.a x.d.marks) (hl : x.d.marks.length ≤ 1000000) :
    Calls Tryd.prog 81 #[judgeV x, .pointer (some ⟨pb, 0, none⟩)] w fun e w' => e = .returned (.bool (okJudge p.items.length x.d)) ∧ Below w.heap.size w w' := by
  obtain ⟨⟨lo, hi, err, marks⟩, a, c⟩ := x
  dsimp only at hx hl ⊢
  have H3 := Lib.hid (fun w0 => within_any err 0 5 w0)
  have HAL := Lib.hid (fun (w0 : World) (hw : Grow w w0) => allInt_any a c w0.heap.size marks p.items.length p.items.length w0 ((hx.below hw).more hw.size) hl (Nat.le_refl _) 83 okMark (fun _ _ => by kernel_rfl) (fun x w0 => validMark_any x w0))
  have HOK : Hid (okJudge p.items.length ⟨lo, hi, err, marks⟩ = ((decide (-3 ≤ lo) && decide (lo ≤ hi) && decide (hi ≤ 3)) && inB err 0 5 && (inB marks.length p.items.length p.items.length && marks.all okMark))) := rfl
  obtain ⟨ok, hok⟩ : ∃ z, okJudge p.items.length ⟨lo, hi, err, marks⟩ = z := ⟨_, rfl⟩
  rw [hok] at HOK ⊢
  obtain ⟨bi, hbi⟩ : ∃ z, (decide (-3 ≤ lo) && decide (lo ≤ hi) && decide (hi ≤ 3)) = z := ⟨_, rfl⟩
  rw [hbi] at HOK
  have HBI := Lib.hid hbi
  generalize inB err 0 5 = q1 at H3 HOK
  generalize (inB marks.length p.items.length p.items.length && marks.all okMark) = q2 at HAL HOK
  clear hok hbi hx
  go_enter Tryd.func81, Tryd.ntmps81
  go_upto_region 1 with fail
  obtain ⟨W, hW, hg, hf, hsz⟩ := one_block w 60 (cellsJ ⟨⟨lo, hi, err, marks⟩, a, c⟩)
  rw [hW]
  clear hW
  have hcc := hf.cell
  have hcb := (hg.block hb).cell
  have HG := Lib.hid hg
  clear hf hg hb
  go_cut [4] (fun v wx => v = .bool bi ∧ W = wx)
  case first =>
    by_cases h1 : -3 ≤ lo
    · have d1 : decide (-3 ≤ lo) = true := decide_eq_true h1
      by_cases h2 : lo ≤ hi
      · have d2 : decide (lo ≤ hi) = true := decide_eq_true h2
        obtain ⟨q3, h3⟩ : ∃ z, decide (hi ≤ 3) = z := ⟨_, rfl⟩
        go_wp2_with fail
        go_meet
        exact ⟨by rw [← HBI.out, d1, d2, h3]; rfl, rfl⟩
      · have d2 : decide (lo ≤ hi) = false := decide_eq_false h2
        go_wp2_with fail
        go_meet
        exact ⟨by rw [← HBI.out, d1, d2]; rfl, rfl⟩
    · have d1 : decide (-3 ≤ lo) = false := decide_eq_false h1
      go_wp2_with fail
      go_meet
      exact ⟨by rw [← HBI.out, d1]; rfl, rfl⟩
  case rest =>
    obtain ⟨rfl, rfl⟩ := hcut
    cases bi with
    | false =>
      go_wp2_with fail
      go_ret
      exact ⟨ret_bool (by rw [HOK.out]; rfl), HG.out⟩
    | true =>
      cases q1 with
      | false =>
        go_wp2_with fail
        refine (H3.out _).mono ?_
        rintro e w1 ⟨rfl, rfl⟩
        go_wp2
        go_ret
        exact ⟨ret_bool (by rw [HOK.out]; rfl), HG.out⟩
      | true =>
        go_wp2_with fail
        refine (H3.out _).mono ?_
        rintro e w1 ⟨rfl, rfl⟩
        go_wp2_with fail
        refine (HAL.out _ HG.out).mono ?_
        rintro e w1 ⟨rfl, hb1⟩
        have HG1 : Hid (Grow w w1) := Lib.hid (HG.out.trans hb1)
        clear hb1
        go_wp2
        go_ret
        exact ⟨ret_bool (by rw [HOK.out]; rfl), HG1.out⟩

theorem asc_iff : ∀ {l : List Int}, ascL l = true ↔ ∀ (i : Nat) x y, l[i]? = some x → l[i + 1]? = some y → x < y
  | [] => ⟨fun _ i x y h _ => by simp at h, fun _ => rfl⟩
  | [a] => ⟨fun _ i x y _ h => by simp at h, fun _ => rfl⟩
  | a :: b :: l => by
    have ih := asc_iff (l := b :: l)
    unfold ascL
    rw [Bool.and_eq_true, decide_eq_true_iff, ih]
    constructor
    · rintro ⟨h1, h2⟩ i x y hx hy
      cases i with
      | zero =>
        obtain rfl : a = x := by simpa using hx
        obtain rfl : b = y := by simpa using hy
        exact h1
      | succ i => exact h2 i x y (by simpa using hx) (by simpa using hy)
    · intro h
      exact ⟨h 0 a b rfl rfl, fun i x y hx hy => h (i + 1) x y (by simpa using hx) (by simpa using hy)⟩
def ascTo (l : List Int) (k : Nat) : Prop := ∀ (i : Nat) x y, i < k → l[i]? = some x → l[i + 1]? = some y → x < y
set_option maxRecDepth 100000 in
set_option maxHeartbeats 4000000 in
theorem ascend_any (A : Option Addr) (cap : Nat) (l : List Int) (w : World) (hA : Ints w w.heap.size A l) (hl : l.length ≤ 1000000) :
    Calls Tryd.prog 88 #[.slice A l.length cap] w fun e w' => e = .returned (.bool (ascL l)) ∧ Below w.heap.size w w' := by
  have HA := Lib.hid hA
  clear hA
  go_enter Tryd.func88, Tryd.ntmps88
  go_wp2
  go_loopw [3] (fun i wr => ∃ k : Nat, k ≤ l.length ∧ i = .int .i64 ((k : Int) + 1) ∧ Hid (ascTo l k) ∧ Grow w wr) (fun i _ => l.length + 1 - (intOf i).toNat)
  case atStart => exact ⟨0, Nat.zero_le _, rfl, fun i x y hi => by omega, Grow.refl _⟩
  case round =>
    obtain ⟨k, hk, rfl, HT, hg⟩ := hrel
    have HG := Lib.hid hg
    clear hg
    by_cases hlt : k + 1 < l.length
    · have hd : decide ((k : Int) + 1 < (l.length : Int)) = true := decide_eq_true (by omega)
      obtain ⟨b, off, y, rfl, hb, hc, HY⟩ := (HA.out.below (Below.mono HG.out (Nat.le_refl _))).at_ hlt
      have hk1 : k < l.length := by omega
      have hx : l[k]? = some l[k] := List.getElem?_eq_getElem hk1
      have HX := Lib.hid hx
      obtain ⟨x, hxe⟩ : ∃ z, l[k] = z := ⟨_, rfl⟩
      rw [hxe] at HX
      clear hxe hx
      have hcx : wr.cell? ⟨b, off + k, none⟩ = some (.int .i64 x) := by
        rcases (HA.out.below HG.out) with e | ⟨b', off', e1, _, e2⟩
        · rw [e] at hk1; simp at hk1
        · injection e1 with e1
          injection e1 with e1 e3 _
          subst e1 e3
          exact e2 k x HX.out
      have hk0 : (0 : Int) ≤ (k : Int) := by omega
      have hk2 : (k : Int) < (l.length : Int) := by omega
      have hk3 : (0 : Int) ≤ (k : Int) + 1 := by omega
      have hk4 : (k : Int) + 1 < (l.length : Int) := by omega
      have hws : IntKind.i64.wrap ((k : Int) + 1 - 1) = (k : Int) := by rw [IntWalk.i64_in _ (by omega)]; omega
      have hwa : IntKind.i64.wrap ((k : Int) + 1 + 1) = (k : Int) + 1 + 1 := IntWalk.i64_in _ (by omega)
      have hn1 : ((k : Int) + 1).toNat = k + 1 := by omega
      by_cases hlq : x < y
      · have hd2 : decide (y ≤ x) = false := decide_eq_false (by omega)
        go_wp2_with fail
        go_quiet (fail)
        go_wp2
        go_roundw
        case rel => exact ⟨k + 1, by omega, by go_num, Lib.hid (fun i x' y' hi hx' hy' => by
          by_cases hik : i < k
          · exact HT.out i x' y' hik hx' hy'
          · obtain rfl : i = k := by omega
            have e1 : l[i]? = some x := HX.out
            have e2 : l[i + 1]? = some y := HY.out
            rw [e1] at hx'
            rw [e2] at hy'
            obtain rfl := Option.some.inj hx'
            obtain rfl := Option.some.inj hy'
            exact hlq), Below.drewN_ HG.out _⟩
        case measure => simp [intOf]; omega
      · have hd2 : decide (y ≤ x) = true := decide_eq_true (by omega)
        have HE : Hid (ascL l = false) := Lib.hid (by
          cases hq : ascL l with
          | false => rfl
          | true => exact absurd (asc_iff.1 hq k x y HX.out HY.out) hlq)
        go_wp2_with fail
        go_quiet (fail)
        go_wp2
        go_ret
        exact ⟨ret_bool (by rw [HE.out]), Below.drewN_ HG.out _⟩
    · have hd : decide ((k : Int) + 1 < (l.length : Int)) = false := decide_eq_false (by omega)
      have HE : Hid (ascL l = true) := Lib.hid (asc_iff.2 fun i x y hx hy => HT.out i x y (by have := (List.getElem?_eq_some_iff.1 hy).1; omega) hx hy)
      go_wp2
      go_ret
      exact ⟨ret_bool (by rw [HE.out]), HG.out⟩

set_option maxRecDepth 100000 in
set_option maxHeartbeats 4000000 in
theorem validPaper_any (p : PaperR) (w : World) (hA : PaperAt w w.heap.size p) (hs : Short p) :
    Calls Tryd.prog 66 #[paperV p] w fun e w' => e = .returned (.bool (okPaper p.d)) ∧ Below w.heap.size w w' := by
  obtain ⟨s1, s2, s3, s4⟩ := hs
  have HI := Lib.hid (fun (w0 : World) (hw : Grow w w0) => allItem_any p.ia p.ic w0.heap.size p.items 1 4 w0 (hA.grow hw).items s1 (Nat.le_refl _) 85 #[] okItem (fun _ _ => by kernel_rfl) (fun x w' _ _ => validItem_any x w'))
  have HJ := Lib.hid (fun (w0 : World) (pb : Nat) (hw : Grow w w0) (hb : BlockIs w0 pb 26 (cellsP p)) => allJudge_any p.ja p.jc w0.heap.size p.judges 0 4 w0 (hA.grow hw).judges s2 (Nat.le_refl _) 81 #[.pointer (some ⟨pb, 0, none⟩)] (fun x => okJudge p.items.length x.d) (fun _ _ => by kernel_rfl)
    (fun x w' hx hw' => validJudge_any p pb x w' (hw'.block hb) ((hA.grow (hw.trans hw')).marks x hx) (s4 x hx)))
  have HG' := Lib.hid (fun (w0 : World) (hw : Grow w w0) => allInt_any p.ga p.gc w0.heap.size p.grades 0 5 w0 (hA.grow hw).grades s3 (Nat.le_refl _) 87 okLimit (fun _ _ => by kernel_rfl) (fun x w0 => validLimit_any x w0))
  have HAS := Lib.hid (fun (w0 : World) (hw : Grow w w0) => ascend_any p.ga p.gc p.grades w0 (hA.grow hw).grades s3)
  have HWR := Lib.hid (fun w0 => within_any p.wrong 0 2 w0)
  have HOK : Hid (okPaper p.d = (((inB p.items.length 1 4 && p.items.all okItem) && (inB p.judges.length 0 4 && p.judges.all (fun x => okJudge p.items.length x.d))) && inB p.wrong 0 2 && (inB p.grades.length 0 5 && p.grades.all okLimit) && ascL p.grades)) := Lib.hid (by
    unfold okPaper PaperR.d
    simp only [List.length_map, List.all_map]
    rfl)
  obtain ⟨ok, hok⟩ : ∃ z, okPaper p.d = z := ⟨_, rfl⟩
  rw [hok] at HOK ⊢
  generalize (inB p.items.length 1 4 && p.items.all okItem) = q1 at HI HOK
  generalize (inB p.judges.length 0 4 && p.judges.all (fun x => okJudge p.items.length x.d)) = q2 at HJ HOK
  generalize inB p.wrong 0 2 = q3 at HWR HOK
  generalize (inB p.grades.length 0 5 && p.grades.all okLimit) = q4 at HG' HOK
  generalize ascL p.grades = q5 at HAS HOK
  clear hok hA
  go_enter Tryd.func66, Tryd.ntmps66
  go_upto_region 1 with fail
  obtain ⟨W, hW, hg, hf, hsz⟩ := one_block w 26 (cellsP p)
  rw [hW]
  clear hW
  have HF := Lib.hid hf
  have HG := Lib.hid hg
  have hcc := hf.cell
  clear hf hg
  go_wp2_with fail
  refine (HI.out W HG.out).mono ?_
  rintro e w1 ⟨rfl, hb1⟩
  have HG1 : Hid (Grow w w1) := Lib.hid (HG.out.trans hb1)
  have HF1 := Lib.hid ((show Grow W w1 from hb1).block HF.out)
  clear hb1 hcc HF
  have hcc := HF1.out.cell
  cases q1 with
  | false =>
    go_wp2
    go_ret
    exact ⟨ret_bool (by rw [HOK.out]; rfl), HG1.out⟩
  | true =>
    go_wp2_with fail
    refine (HJ.out w1 _ HG1.out HF1.out).mono ?_
    rintro e w2 ⟨rfl, hb2⟩
    have HG2 : Hid (Grow w w2) := Lib.hid (HG1.out.trans hb2)
    have HF2 := Lib.hid ((show Grow w1 w2 from hb2).block HF1.out)
    clear hb2 hcc HF1
    have hcc := HF2.out.cell
    cases q2 with
    | false =>
      go_wp2
      go_ret
      exact ⟨ret_bool (by rw [HOK.out]; rfl), HG2.out⟩
    | true =>
      go_wp2_with fail
      refine (HWR.out w2).mono ?_
      rintro e w3 ⟨rfl, rfl⟩
      cases q3 with
      | false =>
        go_wp2
        go_ret
        exact ⟨ret_bool (by rw [HOK.out]; rfl), HG2.out⟩
      | true =>
        go_wp2_with fail
        refine (HG'.out w2 HG2.out).mono ?_
        rintro e w3 ⟨rfl, hb3⟩
        have HG3 : Hid (Grow w w3) := Lib.hid (HG2.out.trans hb3)
        have HF3 := Lib.hid ((show Grow w2 w3 from hb3).block HF2.out)
        clear hb3 hcc HF2
        have hcc := HF3.out.cell
        cases q4 with
        | false =>
          go_wp2
          go_ret
          exact ⟨ret_bool (by rw [HOK.out]; rfl), HG3.out⟩
        | true =>
          go_wp2_with fail
          refine (HAS.out w3 HG3.out).mono ?_
          rintro e w4 ⟨rfl, hb4⟩
          have HG4 : Hid (Grow w w4) := Lib.hid (HG3.out.trans hb4)
          clear hb4
          go_wp2
          go_ret
          exact ⟨ret_bool (by rw [HOK.out]; rfl), HG4.out⟩

end Go.Proofs.YthehkgpnnndboaaDoor
