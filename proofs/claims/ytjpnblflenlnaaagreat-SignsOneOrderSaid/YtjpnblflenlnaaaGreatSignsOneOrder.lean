/- SignsOneOrder: the law's walk. -/
import Derived.Test.YtjpnblflenlnaaaGreatWorks
import Derived.Test.YtjpnblflenlnaaaGreatCmp
import Derived.Test.YtjpnblflenlnaaaGreatRMirror
import Derived.Test.YtjpnblflenlnaaaGreatPublic
import Derived.Test.YtjpnblflenlnaaaGreatIsForm
namespace Go.Proofs.YtjpnblflenlnaaaGreat
open Go.RowKit

theorem order_zero {a b : FormD} (oa : okForm a = true) (ob : okForm b = true) : cmpF (canonD a) (canonD b) = 0 ↔ (a = b ∨ mirrorD a = b) := by
  constructor
  · intro h
    have e := cmpF_eq0 h
    rcases canon_cases a with h1 | h1 <;> rcases canon_cases b with h2 | h2 <;> rw [h1, h2] at e
    · exact .inl e
    · right; rw [e, mirror_mirror ob]
    · exact .inr e
    · left; rw [← mirror_mirror oa, e, mirror_mirror ob]
  · rintro (h | h)
    · rw [h]; exact cmpF_self _
    · rw [← h, canon_mirror oa]; exact cmpF_self _

set_option maxRecDepth 100000 in
set_option maxHeartbeats 32000000 in
theorem signsOneOrder_ok (a b c : FormD) (A A' A'' : Option Addr) (cap cap' cap'' : Nat) (w : World) (hA : Ints w w.heap.size A a.moves) (hA' : Ints w w.heap.size A' b.moves) (hA'' : Ints w w.heap.size A'' c.moves)
    (oa : okForm a = true) (ob : okForm b = true) (oc : okForm c = true) :
    Calls Tryz.prog 7 #[formV a A cap, formV b A' cap', formV c A'' cap''] w fun e w' => e = .returned (.bool true) ∧ Below w.heap.size w w' := by
  have HWK := Lib.hid works_any
  have la := okForm_len oa
  have lb := okForm_len ob
  have lc := okForm_len oc
  have om := okForm_mirror oa
  have lm := okForm_len om
  have ok' := okForm_canon oa
  have lf := okForm_len ok'
  have HIA := Lib.hid (fun (w0 : World) (h : Grow w w0) => by have k := IsForm_any a A cap w.heap.size w0 (hA.below h) (by omega) h.size; rw [oa] at k; exact k)
  have HIB := Lib.hid (fun (w0 : World) (h : Grow w w0) => by have k := IsForm_any b A' cap' w.heap.size w0 (hA'.below h) (by omega) h.size; rw [ob] at k; exact k)
  have HIC := Lib.hid (fun (w0 : World) (h : Grow w w0) => by have k := IsForm_any c A'' cap'' w.heap.size w0 (hA''.below h) (by omega) h.size; rw [oc] at k; exact k)
  have HMI := Lib.hid (fun (w0 : World) (h : Grow w w0) => rMirror_any a A cap w.heap.size w0 (hA.below h) la h.size oa)
  have HCA := Lib.hid (fun (w0 : World) (h : Grow w w0) => by have k := Canon_any a A cap w.heap.size w0 (hA.below h) h.size (by omega); rw [show canonR a = (canonD a, 0) by simp [canonR, oa]] at k; dsimp only at k; exact k)
  have HCM := Lib.hid (fun (A2 : Option Addr) (c2 : Nat) (w0 : World) (h : Ints w0 w0.heap.size A2 (mirrorD a).moves) => by have k := Canon_any (mirrorD a) A2 c2 w0.heap.size w0 h (Nat.le_refl _) (by omega); rw [show canonR (mirrorD a) = (canonD a, 0) by simp [canonR, om, canon_mirror oa]] at k; dsimp only at k; exact k)
  have HCF := Lib.hid (fun (A2 : Option Addr) (c2 : Nat) (w0 : World) (h : Ints w0 w0.heap.size A2 (canonD a).moves) => by have k := Canon_any (canonD a) A2 c2 w0.heap.size w0 h (Nat.le_refl _) (by omega); rw [show canonR (canonD a) = (canonD a, 0) by simp [canonR, ok', canon_canon oa]] at k; dsimp only at k; exact k)
  have HAB := Lib.hid (fun (w0 : World) (h : Grow w w0) => by have k := Compare_any a b A A' cap cap' w.heap.size w0 (hA.below h) (hA'.below h) h.size (by omega) (by omega); rw [show compareR a b = (cmpF (canonD a) (canonD b), 0) by simp [compareR, oa, ob]] at k; dsimp only at k; exact k)
  have HBA := Lib.hid (fun (w0 : World) (h : Grow w w0) => by have k := Compare_any b a A' A cap' cap w.heap.size w0 (hA'.below h) (hA.below h) h.size (by omega) (by omega); rw [show compareR b a = (-cmpF (canonD a) (canonD b), 0) by simp [compareR, oa, ob]; exact cmp_cmpF.neg _ _] at k; dsimp only at k; exact k)
  have HBC := Lib.hid (fun (w0 : World) (h : Grow w w0) => by have k := Compare_any b c A' A'' cap' cap'' w.heap.size w0 (hA'.below h) (hA''.below h) h.size (by omega) (by omega); rw [show compareR b c = (cmpF (canonD b) (canonD c), 0) by simp [compareR, oc, ob]] at k; dsimp only at k; exact k)
  have HAC := Lib.hid (fun (w0 : World) (h : Grow w w0) => by have k := Compare_any a c A A'' cap cap'' w.heap.size w0 (hA.below h) (hA''.below h) h.size (by omega) (by omega); rw [show compareR a c = (cmpF (canonD a) (canonD c), 0) by simp [compareR, oa, oc]] at k; dsimp only at k; exact k)
  have HFG := Lib.hid (fun (A2 A3 : Option Addr) (c2 c3 : Nat) (w0 : World) (h : Ints w0 w0.heap.size A2 (canonD a).moves) (h' : Ints w0 w0.heap.size A3 (canonD a).moves) => by have k := sameForms_any (canonD a) (canonD a) A2 A3 c2 c3 w0 h h' (by omega) (by omega); rw [show decide (canonD a = canonD a) = true by simp] at k; exact k)
  have HFA := Lib.hid (fun (A2 : Option Addr) (c2 : Nat) (w0 : World) (h : Ints w0 w0.heap.size A2 (canonD a).moves) (hg : Grow w w0) => sameForms_any (canonD a) a A2 A c2 cap w0 h ((hA.below hg).more hg.size) (by omega) (by omega))
  have HFM := Lib.hid (fun (A2 A3 : Option Addr) (c2 c3 : Nat) (w0 : World) (h : Ints w0 w0.heap.size A2 (canonD a).moves) (h' : Ints w0 w0.heap.size A3 (mirrorD a).moves) => sameForms_any (canonD a) (mirrorD a) A2 A3 c2 c3 w0 h h' (by omega) (by omega))
  have HSB := Lib.hid (fun (w0 : World) (hg : Grow w w0) => sameForms_any a b A A' cap cap' w0 ((hA.below hg).more hg.size) ((hA'.below hg).more hg.size) (by omega) (by omega))
  have HMB := Lib.hid (fun (A2 : Option Addr) (c2 : Nat) (w0 : World) (h : Ints w0 w0.heap.size A2 (mirrorD a).moves) (hg : Grow w w0) => sameForms_any (mirrorD a) b A2 A' c2 cap' w0 h ((hA'.below hg).more hg.size) (by omega) (by omega))
  have HP := Lib.hid (cmpF_mem (canonD a) (canonD b))
  have HQ := Lib.hid (cmpF_mem (canonD b) (canonD c))
  have HR1 := Lib.hid (cmp_cmpF.lt_le (x := canonD a) (y := canonD b) (z := canonD c))
  have HR2 := Lib.hid (cmp_cmpF.le_lt (x := canonD a) (y := canonD b) (z := canonD c))
  have HR0 := Lib.hid (cmp_cmpF.eqv (x := canonD a) (y := canonD b) (z := canonD c))
  have HRM := Lib.hid (cmpF_mem (canonD a) (canonD c))
  have HZ := Lib.hid (order_zero oa ob)
  have HK := Lib.hid (canon_cases a)
  have d1 : decide (20 < (a.moves.length : Int)) = false := by simp; omega
  have d2 : decide (20 < (b.moves.length : Int)) = false := by simp; omega
  have d3 : decide (20 < (c.moves.length : Int)) = false := by simp; omega
  clear hA hA' hA'' oa ob oc om ok' la lb lc lm lf
  generalize cmpF (canonD a) (canonD b) = p at *
  generalize cmpF (canonD b) (canonD c) = q at *
  generalize cmpF (canonD a) (canonD c) = r at *
  generalize canonD a = ca at *
  generalize mirrorD a = m at *
  go_enter Tryz.func7, Tryz.ntmps7
  go_upto_region 1 with fail
  obtain ⟨W0, hW, hg, hf3, hf4, hf5, hsz⟩ := three_blocks w 24 24 24 (cellsF a A cap) (cellsF b A' cap') (cellsF c A'' cap'')
  rw [hW]
  clear hW
  have HG0 := Lib.hid hg
  have HB3_0 := Lib.hid hf3
  have HB4_0 := Lib.hid hf4
  have HB5_0 := Lib.hid hf5
  have hc3_0 := hf3.cell
  have hc4_0 := hf4.cell
  have hc5_0 := hf5.cell
  clear hg hf3 hf4 hf5
  go_wp2_with fail
  refine (HIA.out _ HG0.out).mono ?_
  rintro e w1 ⟨rfl, hb⟩
  have HG1 : Hid (Grow w w1) := HG0.out.trans hb
  have HB3_1 := Lib.hid (Grow.block hb HB3_0.out)
  have HB4_1 := Lib.hid (Grow.block hb HB4_0.out)
  have HB5_1 := Lib.hid (Grow.block hb HB5_0.out)
  clear HG0 HB3_0 hc3_0 HB4_0 hc4_0 HB5_0 hc5_0
  have hc3_1 := HB3_1.out.cell
  have hc4_1 := HB4_1.out.cell
  have hc5_1 := HB5_1.out.cell
  clear hb
  go_wp2_with fail
  refine (HIB.out _ HG1.out).mono ?_
  rintro e w2 ⟨rfl, hb⟩
  have HG2 : Hid (Grow w w2) := HG1.out.trans hb
  have HB3_2 := Lib.hid (Grow.block hb HB3_1.out)
  have HB4_2 := Lib.hid (Grow.block hb HB4_1.out)
  have HB5_2 := Lib.hid (Grow.block hb HB5_1.out)
  clear HG1 HB3_1 hc3_1 HB4_1 hc4_1 HB5_1 hc5_1
  have hc3_2 := HB3_2.out.cell
  have hc4_2 := HB4_2.out.cell
  have hc5_2 := HB5_2.out.cell
  clear hb
  go_wp2_with fail
  refine (HIC.out _ HG2.out).mono ?_
  rintro e w3 ⟨rfl, hb⟩
  have HG3 : Hid (Grow w w3) := HG2.out.trans hb
  have HB3_3 := Lib.hid (Grow.block hb HB3_2.out)
  have HB4_3 := Lib.hid (Grow.block hb HB4_2.out)
  have HB5_3 := Lib.hid (Grow.block hb HB5_2.out)
  clear HG2 HB3_2 hc3_2 HB4_2 hc4_2 HB5_2 hc5_2
  have hc3_3 := HB3_3.out.cell
  have hc4_3 := HB4_3.out.cell
  have hc5_3 := HB5_3.out.cell
  clear hb
  go_wp2_with fail
  refine (HMI.out _ HG3.out).mono ?_
  rintro e w4 ⟨A7, c7, rfl, hi, hb⟩
  have HG4 : Hid (Grow w w4) := HG3.out.trans hb
  have HB3_4 := Lib.hid (Grow.block hb HB3_3.out)
  have HB4_4 := Lib.hid (Grow.block hb HB4_3.out)
  have HB5_4 := Lib.hid (Grow.block hb HB5_3.out)
  clear HG3 HB3_3 hc3_3 HB4_3 hc4_3 HB5_3 hc5_3
  have hc3_4 := HB3_4.out.cell
  have hc4_4 := HB4_4.out.cell
  have hc5_4 := HB5_4.out.cell
  have HI7_4 := Lib.hid hi.ints
  clear hb hi
  obtain ⟨W5, hW, hgn, hfn, hsz5⟩ := one_block w4 24 (cellsF m A7 c7)
  have HG5 : Hid (Grow w W5) := HG4.out.trans hgn
  have HB3_5 := Lib.hid (Grow.block hgn HB3_4.out)
  have HB4_5 := Lib.hid (Grow.block hgn HB4_4.out)
  have HB5_5 := Lib.hid (Grow.block hgn HB5_4.out)
  have HI7_5 := Lib.hid ((HI7_4.out.below hgn).more (hgn).size)
  clear HG4 HB3_4 hc3_4 HB4_4 hc4_4 HB5_4 hc5_4 HI7_4
  have hc3_5 := HB3_5.out.cell
  have hc4_5 := HB4_5.out.cell
  have hc5_5 := HB5_5.out.cell
  have HB7_5 := Lib.hid hfn
  have hc7_5 := hfn.cell
  have HW := Lib.hid hW
  clear hgn hfn hW hsz5
  go_upto_region 4 with fail
  rw [HW.out]
  clear HW
  go_wp2_with fail
  refine (HCA.out _ HG5.out).mono ?_
  rintro e w6 ⟨A8, c8, rfl, hi, hb⟩
  have HG6 : Hid (Grow w w6) := HG5.out.trans hb
  have HB3_6 := Lib.hid (Grow.block hb HB3_5.out)
  have HB4_6 := Lib.hid (Grow.block hb HB4_5.out)
  have HB5_6 := Lib.hid (Grow.block hb HB5_5.out)
  have HB7_6 := Lib.hid (Grow.block hb HB7_5.out)
  have HI7_6 := Lib.hid ((HI7_5.out.below hb).more (hb).size)
  clear HG5 HB3_5 hc3_5 HB4_5 hc4_5 HB5_5 hc5_5 HB7_5 hc7_5 HI7_5
  have hc3_6 := HB3_6.out.cell
  have hc4_6 := HB4_6.out.cell
  have hc5_6 := HB5_6.out.cell
  have hc7_6 := HB7_6.out.cell
  have HI8_6 := Lib.hid hi.ints
  clear hb hi
  obtain ⟨W7, hW, hgn, hfn, hsz7⟩ := one_block w6 24 (cellsF ca A8 c8)
  have HG7 : Hid (Grow w W7) := HG6.out.trans hgn
  have HB3_7 := Lib.hid (Grow.block hgn HB3_6.out)
  have HB4_7 := Lib.hid (Grow.block hgn HB4_6.out)
  have HB5_7 := Lib.hid (Grow.block hgn HB5_6.out)
  have HB7_7 := Lib.hid (Grow.block hgn HB7_6.out)
  have HI7_7 := Lib.hid ((HI7_6.out.below hgn).more (hgn).size)
  have HI8_7 := Lib.hid ((HI8_6.out.below hgn).more (hgn).size)
  clear HG6 HB3_6 hc3_6 HB4_6 hc4_6 HB5_6 hc5_6 HB7_6 hc7_6 HI7_6 HI8_6
  have hc3_7 := HB3_7.out.cell
  have hc4_7 := HB4_7.out.cell
  have hc5_7 := HB5_7.out.cell
  have hc7_7 := HB7_7.out.cell
  have HB8_7 := Lib.hid hfn
  have hc8_7 := hfn.cell
  have HW := Lib.hid hW
  clear hgn hfn hW hsz7
  go_upto_region 5 with fail
  rw [HW.out]
  clear HW
  go_wp2_with fail
  refine (HCM.out _ _ _ HI7_7.out).mono ?_
  rintro e w8 ⟨A10, c10, rfl, hi, hb⟩
  have HG8 : Hid (Grow w w8) := HG7.out.trans hb
  have HB3_8 := Lib.hid (Grow.block hb HB3_7.out)
  have HB4_8 := Lib.hid (Grow.block hb HB4_7.out)
  have HB5_8 := Lib.hid (Grow.block hb HB5_7.out)
  have HB7_8 := Lib.hid (Grow.block hb HB7_7.out)
  have HB8_8 := Lib.hid (Grow.block hb HB8_7.out)
  have HI7_8 := Lib.hid ((HI7_7.out.below hb).more (hb).size)
  have HI8_8 := Lib.hid ((HI8_7.out.below hb).more (hb).size)
  clear HG7 HB3_7 hc3_7 HB4_7 hc4_7 HB5_7 hc5_7 HB7_7 hc7_7 HB8_7 hc8_7 HI7_7 HI8_7
  have hc3_8 := HB3_8.out.cell
  have hc4_8 := HB4_8.out.cell
  have hc5_8 := HB5_8.out.cell
  have hc7_8 := HB7_8.out.cell
  have hc8_8 := HB8_8.out.cell
  have HI10_8 := Lib.hid hi.ints
  clear hb hi
  obtain ⟨W9, hW, hgn, hfn, hsz9⟩ := one_block w8 24 (cellsF ca A10 c10)
  have HG9 : Hid (Grow w W9) := HG8.out.trans hgn
  have HB3_9 := Lib.hid (Grow.block hgn HB3_8.out)
  have HB4_9 := Lib.hid (Grow.block hgn HB4_8.out)
  have HB5_9 := Lib.hid (Grow.block hgn HB5_8.out)
  have HB7_9 := Lib.hid (Grow.block hgn HB7_8.out)
  have HB8_9 := Lib.hid (Grow.block hgn HB8_8.out)
  have HI7_9 := Lib.hid ((HI7_8.out.below hgn).more (hgn).size)
  have HI8_9 := Lib.hid ((HI8_8.out.below hgn).more (hgn).size)
  have HI10_9 := Lib.hid ((HI10_8.out.below hgn).more (hgn).size)
  clear HG8 HB3_8 hc3_8 HB4_8 hc4_8 HB5_8 hc5_8 HB7_8 hc7_8 HB8_8 hc8_8 HI7_8 HI8_8 HI10_8
  have hc3_9 := HB3_9.out.cell
  have hc4_9 := HB4_9.out.cell
  have hc5_9 := HB5_9.out.cell
  have hc7_9 := HB7_9.out.cell
  have hc8_9 := HB8_9.out.cell
  have HB10_9 := Lib.hid hfn
  have hc10_9 := hfn.cell
  have HW := Lib.hid hW
  clear hgn hfn hW hsz9
  go_upto_region 6 with fail
  rw [HW.out]
  clear HW
  go_wp2_with fail
  refine (HFG.out _ _ _ _ _ HI8_9.out HI10_9.out).mono ?_
  rintro e w10 ⟨rfl, hb⟩
  have HG10 : Hid (Grow w w10) := HG9.out.trans hb
  have HB3_10 := Lib.hid (Grow.block hb HB3_9.out)
  have HB4_10 := Lib.hid (Grow.block hb HB4_9.out)
  have HB5_10 := Lib.hid (Grow.block hb HB5_9.out)
  have HB7_10 := Lib.hid (Grow.block hb HB7_9.out)
  have HB8_10 := Lib.hid (Grow.block hb HB8_9.out)
  have HB10_10 := Lib.hid (Grow.block hb HB10_9.out)
  have HI7_10 := Lib.hid ((HI7_9.out.below hb).more (hb).size)
  have HI8_10 := Lib.hid ((HI8_9.out.below hb).more (hb).size)
  have HI10_10 := Lib.hid ((HI10_9.out.below hb).more (hb).size)
  clear HG9 HB3_9 hc3_9 HB4_9 hc4_9 HB5_9 hc5_9 HB7_9 hc7_9 HB8_9 hc8_9 HB10_9 hc10_9 HI7_9 HI8_9 HI10_9
  have hc3_10 := HB3_10.out.cell
  have hc4_10 := HB4_10.out.cell
  have hc5_10 := HB5_10.out.cell
  have hc7_10 := HB7_10.out.cell
  have hc8_10 := HB8_10.out.cell
  have hc10_10 := HB10_10.out.cell
  clear hb
  go_wp2_with fail
  refine (HFA.out _ _ _ HI8_10.out HG10.out).mono ?_
  rintro e w11 ⟨rfl, hb⟩
  have HG11 : Hid (Grow w w11) := HG10.out.trans hb
  have HB3_11 := Lib.hid (Grow.block hb HB3_10.out)
  have HB4_11 := Lib.hid (Grow.block hb HB4_10.out)
  have HB5_11 := Lib.hid (Grow.block hb HB5_10.out)
  have HB7_11 := Lib.hid (Grow.block hb HB7_10.out)
  have HB8_11 := Lib.hid (Grow.block hb HB8_10.out)
  have HB10_11 := Lib.hid (Grow.block hb HB10_10.out)
  have HI7_11 := Lib.hid ((HI7_10.out.below hb).more (hb).size)
  have HI8_11 := Lib.hid ((HI8_10.out.below hb).more (hb).size)
  have HI10_11 := Lib.hid ((HI10_10.out.below hb).more (hb).size)
  clear HG10 HB3_10 hc3_10 HB4_10 hc4_10 HB5_10 hc5_10 HB7_10 hc7_10 HB8_10 hc8_10 HB10_10 hc10_10 HI7_10 HI8_10 HI10_10
  have hc3_11 := HB3_11.out.cell
  have hc4_11 := HB4_11.out.cell
  have hc5_11 := HB5_11.out.cell
  have hc7_11 := HB7_11.out.cell
  have hc8_11 := HB8_11.out.cell
  have hc10_11 := HB10_11.out.cell
  clear hb
  by_cases hk : ca = a
  · rw [show decide (ca = a) = true by simp [hk]]
    clear hk
    go_wp2_with fail
    refine (HCF.out _ _ _ HI8_11.out).mono ?_
    rintro e w12 ⟨A12, c12, rfl, hi, hb⟩
    have HG12 : Hid (Grow w w12) := HG11.out.trans hb
    have HB3_12 := Lib.hid (Grow.block hb HB3_11.out)
    have HB4_12 := Lib.hid (Grow.block hb HB4_11.out)
    have HB5_12 := Lib.hid (Grow.block hb HB5_11.out)
    have HB7_12 := Lib.hid (Grow.block hb HB7_11.out)
    have HB8_12 := Lib.hid (Grow.block hb HB8_11.out)
    have HB10_12 := Lib.hid (Grow.block hb HB10_11.out)
    have HI7_12 := Lib.hid ((HI7_11.out.below hb).more (hb).size)
    have HI8_12 := Lib.hid ((HI8_11.out.below hb).more (hb).size)
    have HI10_12 := Lib.hid ((HI10_11.out.below hb).more (hb).size)
    clear HG11 HB3_11 hc3_11 HB4_11 hc4_11 HB5_11 hc5_11 HB7_11 hc7_11 HB8_11 hc8_11 HB10_11 hc10_11 HI7_11 HI8_11 HI10_11
    have hc3_12 := HB3_12.out.cell
    have hc4_12 := HB4_12.out.cell
    have hc5_12 := HB5_12.out.cell
    have hc7_12 := HB7_12.out.cell
    have hc8_12 := HB8_12.out.cell
    have hc10_12 := HB10_12.out.cell
    have HI12_12 := Lib.hid hi.ints
    clear hb hi
    obtain ⟨W13, hW, hgn, hfn, hsz13⟩ := one_block w12 24 (cellsF ca A12 c12)
    have HG13 : Hid (Grow w W13) := HG12.out.trans hgn
    have HB3_13 := Lib.hid (Grow.block hgn HB3_12.out)
    have HB4_13 := Lib.hid (Grow.block hgn HB4_12.out)
    have HB5_13 := Lib.hid (Grow.block hgn HB5_12.out)
    have HB7_13 := Lib.hid (Grow.block hgn HB7_12.out)
    have HB8_13 := Lib.hid (Grow.block hgn HB8_12.out)
    have HB10_13 := Lib.hid (Grow.block hgn HB10_12.out)
    have HI7_13 := Lib.hid ((HI7_12.out.below hgn).more (hgn).size)
    have HI8_13 := Lib.hid ((HI8_12.out.below hgn).more (hgn).size)
    have HI10_13 := Lib.hid ((HI10_12.out.below hgn).more (hgn).size)
    have HI12_13 := Lib.hid ((HI12_12.out.below hgn).more (hgn).size)
    clear HG12 HB3_12 hc3_12 HB4_12 hc4_12 HB5_12 hc5_12 HB7_12 hc7_12 HB8_12 hc8_12 HB10_12 hc10_12 HI7_12 HI8_12 HI10_12 HI12_12
    have hc3_13 := HB3_13.out.cell
    have hc4_13 := HB4_13.out.cell
    have hc5_13 := HB5_13.out.cell
    have hc7_13 := HB7_13.out.cell
    have hc8_13 := HB8_13.out.cell
    have hc10_13 := HB10_13.out.cell
    have HB12_13 := Lib.hid hfn
    have hc12_13 := hfn.cell
    have HW := Lib.hid hW
    clear hgn hfn hW hsz13
    go_upto_region 9 with fail
    rw [HW.out]
    clear HW
    go_wp2_with fail
    refine (HAB.out _ HG13.out).mono ?_
    rintro e w14 ⟨rfl, hb⟩
    have HG14 : Hid (Grow w w14) := HG13.out.trans hb
    have HB3_14 := Lib.hid (Grow.block hb HB3_13.out)
    have HB4_14 := Lib.hid (Grow.block hb HB4_13.out)
    have HB5_14 := Lib.hid (Grow.block hb HB5_13.out)
    have HB7_14 := Lib.hid (Grow.block hb HB7_13.out)
    have HB8_14 := Lib.hid (Grow.block hb HB8_13.out)
    have HB10_14 := Lib.hid (Grow.block hb HB10_13.out)
    have HB12_14 := Lib.hid (Grow.block hb HB12_13.out)
    have HI7_14 := Lib.hid ((HI7_13.out.below hb).more (hb).size)
    have HI8_14 := Lib.hid ((HI8_13.out.below hb).more (hb).size)
    have HI10_14 := Lib.hid ((HI10_13.out.below hb).more (hb).size)
    have HI12_14 := Lib.hid ((HI12_13.out.below hb).more (hb).size)
    clear HG13 HB3_13 hc3_13 HB4_13 hc4_13 HB5_13 hc5_13 HB7_13 hc7_13 HB8_13 hc8_13 HB10_13 hc10_13 HB12_13 hc12_13 HI7_13 HI8_13 HI10_13 HI12_13
    have hc3_14 := HB3_14.out.cell
    have hc4_14 := HB4_14.out.cell
    have hc5_14 := HB5_14.out.cell
    have hc7_14 := HB7_14.out.cell
    have hc8_14 := HB8_14.out.cell
    have hc10_14 := HB10_14.out.cell
    have hc12_14 := HB12_14.out.cell
    clear hb
    go_wp2_with fail
    refine (HBA.out _ HG14.out).mono ?_
    rintro e w15 ⟨rfl, hb⟩
    have HG15 : Hid (Grow w w15) := HG14.out.trans hb
    have HB3_15 := Lib.hid (Grow.block hb HB3_14.out)
    have HB4_15 := Lib.hid (Grow.block hb HB4_14.out)
    have HB5_15 := Lib.hid (Grow.block hb HB5_14.out)
    have HB7_15 := Lib.hid (Grow.block hb HB7_14.out)
    have HB8_15 := Lib.hid (Grow.block hb HB8_14.out)
    have HB10_15 := Lib.hid (Grow.block hb HB10_14.out)
    have HB12_15 := Lib.hid (Grow.block hb HB12_14.out)
    have HI7_15 := Lib.hid ((HI7_14.out.below hb).more (hb).size)
    have HI8_15 := Lib.hid ((HI8_14.out.below hb).more (hb).size)
    have HI10_15 := Lib.hid ((HI10_14.out.below hb).more (hb).size)
    have HI12_15 := Lib.hid ((HI12_14.out.below hb).more (hb).size)
    clear HG14 HB3_14 hc3_14 HB4_14 hc4_14 HB5_14 hc5_14 HB7_14 hc7_14 HB8_14 hc8_14 HB10_14 hc10_14 HB12_14 hc12_14 HI7_14 HI8_14 HI10_14 HI12_14
    have hc3_15 := HB3_15.out.cell
    have hc4_15 := HB4_15.out.cell
    have hc5_15 := HB5_15.out.cell
    have hc7_15 := HB7_15.out.cell
    have hc8_15 := HB8_15.out.cell
    have hc10_15 := HB10_15.out.cell
    have hc12_15 := HB12_15.out.cell
    clear hb
    go_wp2_with fail
    refine (HBC.out _ HG15.out).mono ?_
    rintro e w16 ⟨rfl, hb⟩
    have HG16 : Hid (Grow w w16) := HG15.out.trans hb
    have HB3_16 := Lib.hid (Grow.block hb HB3_15.out)
    have HB4_16 := Lib.hid (Grow.block hb HB4_15.out)
    have HB5_16 := Lib.hid (Grow.block hb HB5_15.out)
    have HB7_16 := Lib.hid (Grow.block hb HB7_15.out)
    have HB8_16 := Lib.hid (Grow.block hb HB8_15.out)
    have HB10_16 := Lib.hid (Grow.block hb HB10_15.out)
    have HB12_16 := Lib.hid (Grow.block hb HB12_15.out)
    have HI7_16 := Lib.hid ((HI7_15.out.below hb).more (hb).size)
    have HI8_16 := Lib.hid ((HI8_15.out.below hb).more (hb).size)
    have HI10_16 := Lib.hid ((HI10_15.out.below hb).more (hb).size)
    have HI12_16 := Lib.hid ((HI12_15.out.below hb).more (hb).size)
    clear HG15 HB3_15 hc3_15 HB4_15 hc4_15 HB5_15 hc5_15 HB7_15 hc7_15 HB8_15 hc8_15 HB10_15 hc10_15 HB12_15 hc12_15 HI7_15 HI8_15 HI10_15 HI12_15
    have hc3_16 := HB3_16.out.cell
    have hc4_16 := HB4_16.out.cell
    have hc5_16 := HB5_16.out.cell
    have hc7_16 := HB7_16.out.cell
    have hc8_16 := HB8_16.out.cell
    have hc10_16 := HB10_16.out.cell
    have hc12_16 := HB12_16.out.cell
    clear hb
    go_wp2_with fail
    refine (HAC.out _ HG16.out).mono ?_
    rintro e w17 ⟨rfl, hb⟩
    have HG17 : Hid (Grow w w17) := HG16.out.trans hb
    have HB3_17 := Lib.hid (Grow.block hb HB3_16.out)
    have HB4_17 := Lib.hid (Grow.block hb HB4_16.out)
    have HB5_17 := Lib.hid (Grow.block hb HB5_16.out)
    have HB7_17 := Lib.hid (Grow.block hb HB7_16.out)
    have HB8_17 := Lib.hid (Grow.block hb HB8_16.out)
    have HB10_17 := Lib.hid (Grow.block hb HB10_16.out)
    have HB12_17 := Lib.hid (Grow.block hb HB12_16.out)
    have HI7_17 := Lib.hid ((HI7_16.out.below hb).more (hb).size)
    have HI8_17 := Lib.hid ((HI8_16.out.below hb).more (hb).size)
    have HI10_17 := Lib.hid ((HI10_16.out.below hb).more (hb).size)
    have HI12_17 := Lib.hid ((HI12_16.out.below hb).more (hb).size)
    clear HG16 HB3_16 hc3_16 HB4_16 hc4_16 HB5_16 hc5_16 HB7_16 hc7_16 HB8_16 hc8_16 HB10_16 hc10_16 HB12_16 hc12_16 HI7_16 HI8_16 HI10_16 HI12_16
    have hc3_17 := HB3_17.out.cell
    have hc4_17 := HB4_17.out.cell
    have hc5_17 := HB5_17.out.cell
    have hc7_17 := HB7_17.out.cell
    have hc8_17 := HB8_17.out.cell
    have hc10_17 := HB10_17.out.cell
    have hc12_17 := HB12_17.out.cell
    clear hb
    go_wp2_with fail
    refine (HFG.out _ _ _ _ _ HI12_17.out HI8_17.out).mono ?_
    rintro e w18 ⟨rfl, hb⟩
    have HG18 : Hid (Grow w w18) := HG17.out.trans hb
    have HB3_18 := Lib.hid (Grow.block hb HB3_17.out)
    have HB4_18 := Lib.hid (Grow.block hb HB4_17.out)
    have HB5_18 := Lib.hid (Grow.block hb HB5_17.out)
    have HB7_18 := Lib.hid (Grow.block hb HB7_17.out)
    have HB8_18 := Lib.hid (Grow.block hb HB8_17.out)
    have HB10_18 := Lib.hid (Grow.block hb HB10_17.out)
    have HB12_18 := Lib.hid (Grow.block hb HB12_17.out)
    have HI7_18 := Lib.hid ((HI7_17.out.below hb).more (hb).size)
    have HI8_18 := Lib.hid ((HI8_17.out.below hb).more (hb).size)
    have HI10_18 := Lib.hid ((HI10_17.out.below hb).more (hb).size)
    have HI12_18 := Lib.hid ((HI12_17.out.below hb).more (hb).size)
    clear HG17 HB3_17 hc3_17 HB4_17 hc4_17 HB5_17 hc5_17 HB7_17 hc7_17 HB8_17 hc8_17 HB10_17 hc10_17 HB12_17 hc12_17 HI7_17 HI8_17 HI10_17 HI12_17
    have hc3_18 := HB3_18.out.cell
    have hc4_18 := HB4_18.out.cell
    have hc5_18 := HB5_18.out.cell
    have hc7_18 := HB7_18.out.cell
    have hc8_18 := HB8_18.out.cell
    have hc10_18 := HB10_18.out.cell
    have hc12_18 := HB12_18.out.cell
    clear hb
    rcases HP.out with rfl | rfl | rfl
    · rcases HQ.out with rfl | rfl | rfl
      · obtain rfl : r = -1 := by have := HR1.out (by omega) (by omega); rcases HRM.out with h | h | h <;> omega
        go_wp2_with fail
        refine (HSB.out _ HG18.out).mono ?_
        rintro e w19 ⟨rfl, hb⟩
        have HG19 : Hid (Grow w w19) := HG18.out.trans hb
        have HB3_19 := Lib.hid (Grow.block hb HB3_18.out)
        have HB4_19 := Lib.hid (Grow.block hb HB4_18.out)
        have HB5_19 := Lib.hid (Grow.block hb HB5_18.out)
        have HB7_19 := Lib.hid (Grow.block hb HB7_18.out)
        have HB8_19 := Lib.hid (Grow.block hb HB8_18.out)
        have HB10_19 := Lib.hid (Grow.block hb HB10_18.out)
        have HB12_19 := Lib.hid (Grow.block hb HB12_18.out)
        have HI7_19 := Lib.hid ((HI7_18.out.below hb).more (hb).size)
        have HI8_19 := Lib.hid ((HI8_18.out.below hb).more (hb).size)
        have HI10_19 := Lib.hid ((HI10_18.out.below hb).more (hb).size)
        have HI12_19 := Lib.hid ((HI12_18.out.below hb).more (hb).size)
        clear HG18 HB3_18 hc3_18 HB4_18 hc4_18 HB5_18 hc5_18 HB7_18 hc7_18 HB8_18 hc8_18 HB10_18 hc10_18 HB12_18 hc12_18 HI7_18 HI8_18 HI10_18 HI12_18
        have hc3_19 := HB3_19.out.cell
        have hc4_19 := HB4_19.out.cell
        have hc5_19 := HB5_19.out.cell
        have hc7_19 := HB7_19.out.cell
        have hc8_19 := HB8_19.out.cell
        have hc10_19 := HB10_19.out.cell
        have hc12_19 := HB12_19.out.cell
        clear hb
        rw [show decide (a = b) = false by simp only [decide_eq_false_iff_not]; intro h; have := HZ.out.2 (.inl h); omega]
        go_wp2_with fail
        refine (HMB.out _ _ _ HI7_19.out HG19.out).mono ?_
        rintro e w20 ⟨rfl, hb⟩
        have HG20 : Hid (Grow w w20) := HG19.out.trans hb
        have HB3_20 := Lib.hid (Grow.block hb HB3_19.out)
        have HB4_20 := Lib.hid (Grow.block hb HB4_19.out)
        have HB5_20 := Lib.hid (Grow.block hb HB5_19.out)
        have HB7_20 := Lib.hid (Grow.block hb HB7_19.out)
        have HB8_20 := Lib.hid (Grow.block hb HB8_19.out)
        have HB10_20 := Lib.hid (Grow.block hb HB10_19.out)
        have HB12_20 := Lib.hid (Grow.block hb HB12_19.out)
        have HI7_20 := Lib.hid ((HI7_19.out.below hb).more (hb).size)
        have HI8_20 := Lib.hid ((HI8_19.out.below hb).more (hb).size)
        have HI10_20 := Lib.hid ((HI10_19.out.below hb).more (hb).size)
        have HI12_20 := Lib.hid ((HI12_19.out.below hb).more (hb).size)
        clear HG19 HB3_19 hc3_19 HB4_19 hc4_19 HB5_19 hc5_19 HB7_19 hc7_19 HB8_19 hc8_19 HB10_19 hc10_19 HB12_19 hc12_19 HI7_19 HI8_19 HI10_19 HI12_19
        have hc3_20 := HB3_20.out.cell
        have hc4_20 := HB4_20.out.cell
        have hc5_20 := HB5_20.out.cell
        have hc7_20 := HB7_20.out.cell
        have hc8_20 := HB8_20.out.cell
        have hc10_20 := HB10_20.out.cell
        have hc12_20 := HB12_20.out.cell
        clear hb
        rw [show decide (m = b) = false by simp only [decide_eq_false_iff_not]; intro h; have := HZ.out.2 (.inr h); omega]
        go_wp2_with fail
        refine (HWK.out _).mono ?_
        rintro e w21 ⟨rfl, hb⟩
        have HG21 : Hid (Grow w w21) := HG20.out.trans hb
        have HB3_21 := Lib.hid (Grow.block hb HB3_20.out)
        have HB4_21 := Lib.hid (Grow.block hb HB4_20.out)
        have HB5_21 := Lib.hid (Grow.block hb HB5_20.out)
        have HB7_21 := Lib.hid (Grow.block hb HB7_20.out)
        have HB8_21 := Lib.hid (Grow.block hb HB8_20.out)
        have HB10_21 := Lib.hid (Grow.block hb HB10_20.out)
        have HB12_21 := Lib.hid (Grow.block hb HB12_20.out)
        have HI7_21 := Lib.hid ((HI7_20.out.below hb).more (hb).size)
        have HI8_21 := Lib.hid ((HI8_20.out.below hb).more (hb).size)
        have HI10_21 := Lib.hid ((HI10_20.out.below hb).more (hb).size)
        have HI12_21 := Lib.hid ((HI12_20.out.below hb).more (hb).size)
        clear HG20 HB3_20 hc3_20 HB4_20 hc4_20 HB5_20 hc5_20 HB7_20 hc7_20 HB8_20 hc8_20 HB10_20 hc10_20 HB12_20 hc12_20 HI7_20 HI8_20 HI10_20 HI12_20
        have hc3_21 := HB3_21.out.cell
        have hc4_21 := HB4_21.out.cell
        have hc5_21 := HB5_21.out.cell
        have hc7_21 := HB7_21.out.cell
        have hc8_21 := HB8_21.out.cell
        have hc10_21 := HB10_21.out.cell
        have hc12_21 := HB12_21.out.cell
        clear hb
        go_wp2
        go_ret
        exact ⟨rfl, HG21.out⟩
      · obtain rfl : r = -1 := by have := HR1.out (by omega) (by omega); rcases HRM.out with h | h | h <;> omega
        go_wp2_with fail
        refine (HSB.out _ HG18.out).mono ?_
        rintro e w19 ⟨rfl, hb⟩
        have HG19 : Hid (Grow w w19) := HG18.out.trans hb
        have HB3_19 := Lib.hid (Grow.block hb HB3_18.out)
        have HB4_19 := Lib.hid (Grow.block hb HB4_18.out)
        have HB5_19 := Lib.hid (Grow.block hb HB5_18.out)
        have HB7_19 := Lib.hid (Grow.block hb HB7_18.out)
        have HB8_19 := Lib.hid (Grow.block hb HB8_18.out)
        have HB10_19 := Lib.hid (Grow.block hb HB10_18.out)
        have HB12_19 := Lib.hid (Grow.block hb HB12_18.out)
        have HI7_19 := Lib.hid ((HI7_18.out.below hb).more (hb).size)
        have HI8_19 := Lib.hid ((HI8_18.out.below hb).more (hb).size)
        have HI10_19 := Lib.hid ((HI10_18.out.below hb).more (hb).size)
        have HI12_19 := Lib.hid ((HI12_18.out.below hb).more (hb).size)
        clear HG18 HB3_18 hc3_18 HB4_18 hc4_18 HB5_18 hc5_18 HB7_18 hc7_18 HB8_18 hc8_18 HB10_18 hc10_18 HB12_18 hc12_18 HI7_18 HI8_18 HI10_18 HI12_18
        have hc3_19 := HB3_19.out.cell
        have hc4_19 := HB4_19.out.cell
        have hc5_19 := HB5_19.out.cell
        have hc7_19 := HB7_19.out.cell
        have hc8_19 := HB8_19.out.cell
        have hc10_19 := HB10_19.out.cell
        have hc12_19 := HB12_19.out.cell
        clear hb
        rw [show decide (a = b) = false by simp only [decide_eq_false_iff_not]; intro h; have := HZ.out.2 (.inl h); omega]
        go_wp2_with fail
        refine (HMB.out _ _ _ HI7_19.out HG19.out).mono ?_
        rintro e w20 ⟨rfl, hb⟩
        have HG20 : Hid (Grow w w20) := HG19.out.trans hb
        have HB3_20 := Lib.hid (Grow.block hb HB3_19.out)
        have HB4_20 := Lib.hid (Grow.block hb HB4_19.out)
        have HB5_20 := Lib.hid (Grow.block hb HB5_19.out)
        have HB7_20 := Lib.hid (Grow.block hb HB7_19.out)
        have HB8_20 := Lib.hid (Grow.block hb HB8_19.out)
        have HB10_20 := Lib.hid (Grow.block hb HB10_19.out)
        have HB12_20 := Lib.hid (Grow.block hb HB12_19.out)
        have HI7_20 := Lib.hid ((HI7_19.out.below hb).more (hb).size)
        have HI8_20 := Lib.hid ((HI8_19.out.below hb).more (hb).size)
        have HI10_20 := Lib.hid ((HI10_19.out.below hb).more (hb).size)
        have HI12_20 := Lib.hid ((HI12_19.out.below hb).more (hb).size)
        clear HG19 HB3_19 hc3_19 HB4_19 hc4_19 HB5_19 hc5_19 HB7_19 hc7_19 HB8_19 hc8_19 HB10_19 hc10_19 HB12_19 hc12_19 HI7_19 HI8_19 HI10_19 HI12_19
        have hc3_20 := HB3_20.out.cell
        have hc4_20 := HB4_20.out.cell
        have hc5_20 := HB5_20.out.cell
        have hc7_20 := HB7_20.out.cell
        have hc8_20 := HB8_20.out.cell
        have hc10_20 := HB10_20.out.cell
        have hc12_20 := HB12_20.out.cell
        clear hb
        rw [show decide (m = b) = false by simp only [decide_eq_false_iff_not]; intro h; have := HZ.out.2 (.inr h); omega]
        go_wp2_with fail
        refine (HWK.out _).mono ?_
        rintro e w21 ⟨rfl, hb⟩
        have HG21 : Hid (Grow w w21) := HG20.out.trans hb
        have HB3_21 := Lib.hid (Grow.block hb HB3_20.out)
        have HB4_21 := Lib.hid (Grow.block hb HB4_20.out)
        have HB5_21 := Lib.hid (Grow.block hb HB5_20.out)
        have HB7_21 := Lib.hid (Grow.block hb HB7_20.out)
        have HB8_21 := Lib.hid (Grow.block hb HB8_20.out)
        have HB10_21 := Lib.hid (Grow.block hb HB10_20.out)
        have HB12_21 := Lib.hid (Grow.block hb HB12_20.out)
        have HI7_21 := Lib.hid ((HI7_20.out.below hb).more (hb).size)
        have HI8_21 := Lib.hid ((HI8_20.out.below hb).more (hb).size)
        have HI10_21 := Lib.hid ((HI10_20.out.below hb).more (hb).size)
        have HI12_21 := Lib.hid ((HI12_20.out.below hb).more (hb).size)
        clear HG20 HB3_20 hc3_20 HB4_20 hc4_20 HB5_20 hc5_20 HB7_20 hc7_20 HB8_20 hc8_20 HB10_20 hc10_20 HB12_20 hc12_20 HI7_20 HI8_20 HI10_20 HI12_20
        have hc3_21 := HB3_21.out.cell
        have hc4_21 := HB4_21.out.cell
        have hc5_21 := HB5_21.out.cell
        have hc7_21 := HB7_21.out.cell
        have hc8_21 := HB8_21.out.cell
        have hc10_21 := HB10_21.out.cell
        have hc12_21 := HB12_21.out.cell
        clear hb
        go_wp2
        go_ret
        exact ⟨rfl, HG21.out⟩
      · skip
        go_wp2_with fail
        refine (HSB.out _ HG18.out).mono ?_
        rintro e w19 ⟨rfl, hb⟩
        have HG19 : Hid (Grow w w19) := HG18.out.trans hb
        have HB3_19 := Lib.hid (Grow.block hb HB3_18.out)
        have HB4_19 := Lib.hid (Grow.block hb HB4_18.out)
        have HB5_19 := Lib.hid (Grow.block hb HB5_18.out)
        have HB7_19 := Lib.hid (Grow.block hb HB7_18.out)
        have HB8_19 := Lib.hid (Grow.block hb HB8_18.out)
        have HB10_19 := Lib.hid (Grow.block hb HB10_18.out)
        have HB12_19 := Lib.hid (Grow.block hb HB12_18.out)
        have HI7_19 := Lib.hid ((HI7_18.out.below hb).more (hb).size)
        have HI8_19 := Lib.hid ((HI8_18.out.below hb).more (hb).size)
        have HI10_19 := Lib.hid ((HI10_18.out.below hb).more (hb).size)
        have HI12_19 := Lib.hid ((HI12_18.out.below hb).more (hb).size)
        clear HG18 HB3_18 hc3_18 HB4_18 hc4_18 HB5_18 hc5_18 HB7_18 hc7_18 HB8_18 hc8_18 HB10_18 hc10_18 HB12_18 hc12_18 HI7_18 HI8_18 HI10_18 HI12_18
        have hc3_19 := HB3_19.out.cell
        have hc4_19 := HB4_19.out.cell
        have hc5_19 := HB5_19.out.cell
        have hc7_19 := HB7_19.out.cell
        have hc8_19 := HB8_19.out.cell
        have hc10_19 := HB10_19.out.cell
        have hc12_19 := HB12_19.out.cell
        clear hb
        rw [show decide (a = b) = false by simp only [decide_eq_false_iff_not]; intro h; have := HZ.out.2 (.inl h); omega]
        go_wp2_with fail
        refine (HMB.out _ _ _ HI7_19.out HG19.out).mono ?_
        rintro e w20 ⟨rfl, hb⟩
        have HG20 : Hid (Grow w w20) := HG19.out.trans hb
        have HB3_20 := Lib.hid (Grow.block hb HB3_19.out)
        have HB4_20 := Lib.hid (Grow.block hb HB4_19.out)
        have HB5_20 := Lib.hid (Grow.block hb HB5_19.out)
        have HB7_20 := Lib.hid (Grow.block hb HB7_19.out)
        have HB8_20 := Lib.hid (Grow.block hb HB8_19.out)
        have HB10_20 := Lib.hid (Grow.block hb HB10_19.out)
        have HB12_20 := Lib.hid (Grow.block hb HB12_19.out)
        have HI7_20 := Lib.hid ((HI7_19.out.below hb).more (hb).size)
        have HI8_20 := Lib.hid ((HI8_19.out.below hb).more (hb).size)
        have HI10_20 := Lib.hid ((HI10_19.out.below hb).more (hb).size)
        have HI12_20 := Lib.hid ((HI12_19.out.below hb).more (hb).size)
        clear HG19 HB3_19 hc3_19 HB4_19 hc4_19 HB5_19 hc5_19 HB7_19 hc7_19 HB8_19 hc8_19 HB10_19 hc10_19 HB12_19 hc12_19 HI7_19 HI8_19 HI10_19 HI12_19
        have hc3_20 := HB3_20.out.cell
        have hc4_20 := HB4_20.out.cell
        have hc5_20 := HB5_20.out.cell
        have hc7_20 := HB7_20.out.cell
        have hc8_20 := HB8_20.out.cell
        have hc10_20 := HB10_20.out.cell
        have hc12_20 := HB12_20.out.cell
        clear hb
        rw [show decide (m = b) = false by simp only [decide_eq_false_iff_not]; intro h; have := HZ.out.2 (.inr h); omega]
        go_wp2_with fail
        refine (HWK.out _).mono ?_
        rintro e w21 ⟨rfl, hb⟩
        have HG21 : Hid (Grow w w21) := HG20.out.trans hb
        have HB3_21 := Lib.hid (Grow.block hb HB3_20.out)
        have HB4_21 := Lib.hid (Grow.block hb HB4_20.out)
        have HB5_21 := Lib.hid (Grow.block hb HB5_20.out)
        have HB7_21 := Lib.hid (Grow.block hb HB7_20.out)
        have HB8_21 := Lib.hid (Grow.block hb HB8_20.out)
        have HB10_21 := Lib.hid (Grow.block hb HB10_20.out)
        have HB12_21 := Lib.hid (Grow.block hb HB12_20.out)
        have HI7_21 := Lib.hid ((HI7_20.out.below hb).more (hb).size)
        have HI8_21 := Lib.hid ((HI8_20.out.below hb).more (hb).size)
        have HI10_21 := Lib.hid ((HI10_20.out.below hb).more (hb).size)
        have HI12_21 := Lib.hid ((HI12_20.out.below hb).more (hb).size)
        clear HG20 HB3_20 hc3_20 HB4_20 hc4_20 HB5_20 hc5_20 HB7_20 hc7_20 HB8_20 hc8_20 HB10_20 hc10_20 HB12_20 hc12_20 HI7_20 HI8_20 HI10_20 HI12_20
        have hc3_21 := HB3_21.out.cell
        have hc4_21 := HB4_21.out.cell
        have hc5_21 := HB5_21.out.cell
        have hc7_21 := HB7_21.out.cell
        have hc8_21 := HB8_21.out.cell
        have hc10_21 := HB10_21.out.cell
        have hc12_21 := HB12_21.out.cell
        clear hb
        go_wp2
        go_ret
        exact ⟨rfl, HG21.out⟩
    · rcases HQ.out with rfl | rfl | rfl
      · obtain rfl : r = -1 := by have := HR2.out (by omega) (by omega); rcases HRM.out with h | h | h <;> omega
        by_cases hab : a = b
        · have HE := Lib.hid (show decide (a = b) = true by simpa using hab)
          clear hab
          go_wp2_with fail
          refine (HSB.out _ HG18.out).mono ?_
          rintro e w19 ⟨rfl, hb⟩
          have HG19 : Hid (Grow w w19) := HG18.out.trans hb
          have HB3_19 := Lib.hid (Grow.block hb HB3_18.out)
          have HB4_19 := Lib.hid (Grow.block hb HB4_18.out)
          have HB5_19 := Lib.hid (Grow.block hb HB5_18.out)
          have HB7_19 := Lib.hid (Grow.block hb HB7_18.out)
          have HB8_19 := Lib.hid (Grow.block hb HB8_18.out)
          have HB10_19 := Lib.hid (Grow.block hb HB10_18.out)
          have HB12_19 := Lib.hid (Grow.block hb HB12_18.out)
          have HI7_19 := Lib.hid ((HI7_18.out.below hb).more (hb).size)
          have HI8_19 := Lib.hid ((HI8_18.out.below hb).more (hb).size)
          have HI10_19 := Lib.hid ((HI10_18.out.below hb).more (hb).size)
          have HI12_19 := Lib.hid ((HI12_18.out.below hb).more (hb).size)
          clear HG18 HB3_18 hc3_18 HB4_18 hc4_18 HB5_18 hc5_18 HB7_18 hc7_18 HB8_18 hc8_18 HB10_18 hc10_18 HB12_18 hc12_18 HI7_18 HI8_18 HI10_18 HI12_18
          have hc3_19 := HB3_19.out.cell
          have hc4_19 := HB4_19.out.cell
          have hc5_19 := HB5_19.out.cell
          have hc7_19 := HB7_19.out.cell
          have hc8_19 := HB8_19.out.cell
          have hc10_19 := HB10_19.out.cell
          have hc12_19 := HB12_19.out.cell
          clear hb
          rw [HE.out]
          go_wp2_with fail
          refine (HWK.out _).mono ?_
          rintro e w20 ⟨rfl, hb⟩
          have HG20 : Hid (Grow w w20) := HG19.out.trans hb
          have HB3_20 := Lib.hid (Grow.block hb HB3_19.out)
          have HB4_20 := Lib.hid (Grow.block hb HB4_19.out)
          have HB5_20 := Lib.hid (Grow.block hb HB5_19.out)
          have HB7_20 := Lib.hid (Grow.block hb HB7_19.out)
          have HB8_20 := Lib.hid (Grow.block hb HB8_19.out)
          have HB10_20 := Lib.hid (Grow.block hb HB10_19.out)
          have HB12_20 := Lib.hid (Grow.block hb HB12_19.out)
          have HI7_20 := Lib.hid ((HI7_19.out.below hb).more (hb).size)
          have HI8_20 := Lib.hid ((HI8_19.out.below hb).more (hb).size)
          have HI10_20 := Lib.hid ((HI10_19.out.below hb).more (hb).size)
          have HI12_20 := Lib.hid ((HI12_19.out.below hb).more (hb).size)
          clear HG19 HB3_19 hc3_19 HB4_19 hc4_19 HB5_19 hc5_19 HB7_19 hc7_19 HB8_19 hc8_19 HB10_19 hc10_19 HB12_19 hc12_19 HI7_19 HI8_19 HI10_19 HI12_19
          have hc3_20 := HB3_20.out.cell
          have hc4_20 := HB4_20.out.cell
          have hc5_20 := HB5_20.out.cell
          have hc7_20 := HB7_20.out.cell
          have hc8_20 := HB8_20.out.cell
          have hc10_20 := HB10_20.out.cell
          have hc12_20 := HB12_20.out.cell
          clear hb
          go_wp2
          go_ret
          exact ⟨rfl, HG20.out⟩
        · have HE := Lib.hid (show decide (a = b) = false by simpa using hab)
          have HE2 := Lib.hid (show decide (m = b) = true by have := (HZ.out.1 rfl).resolve_left hab; simpa using this)
          clear hab
          go_wp2_with fail
          refine (HSB.out _ HG18.out).mono ?_
          rintro e w19 ⟨rfl, hb⟩
          have HG19 : Hid (Grow w w19) := HG18.out.trans hb
          have HB3_19 := Lib.hid (Grow.block hb HB3_18.out)
          have HB4_19 := Lib.hid (Grow.block hb HB4_18.out)
          have HB5_19 := Lib.hid (Grow.block hb HB5_18.out)
          have HB7_19 := Lib.hid (Grow.block hb HB7_18.out)
          have HB8_19 := Lib.hid (Grow.block hb HB8_18.out)
          have HB10_19 := Lib.hid (Grow.block hb HB10_18.out)
          have HB12_19 := Lib.hid (Grow.block hb HB12_18.out)
          have HI7_19 := Lib.hid ((HI7_18.out.below hb).more (hb).size)
          have HI8_19 := Lib.hid ((HI8_18.out.below hb).more (hb).size)
          have HI10_19 := Lib.hid ((HI10_18.out.below hb).more (hb).size)
          have HI12_19 := Lib.hid ((HI12_18.out.below hb).more (hb).size)
          clear HG18 HB3_18 hc3_18 HB4_18 hc4_18 HB5_18 hc5_18 HB7_18 hc7_18 HB8_18 hc8_18 HB10_18 hc10_18 HB12_18 hc12_18 HI7_18 HI8_18 HI10_18 HI12_18
          have hc3_19 := HB3_19.out.cell
          have hc4_19 := HB4_19.out.cell
          have hc5_19 := HB5_19.out.cell
          have hc7_19 := HB7_19.out.cell
          have hc8_19 := HB8_19.out.cell
          have hc10_19 := HB10_19.out.cell
          have hc12_19 := HB12_19.out.cell
          clear hb
          rw [HE.out]
          go_wp2_with fail
          refine (HMB.out _ _ _ HI7_19.out HG19.out).mono ?_
          rintro e w20 ⟨rfl, hb⟩
          have HG20 : Hid (Grow w w20) := HG19.out.trans hb
          have HB3_20 := Lib.hid (Grow.block hb HB3_19.out)
          have HB4_20 := Lib.hid (Grow.block hb HB4_19.out)
          have HB5_20 := Lib.hid (Grow.block hb HB5_19.out)
          have HB7_20 := Lib.hid (Grow.block hb HB7_19.out)
          have HB8_20 := Lib.hid (Grow.block hb HB8_19.out)
          have HB10_20 := Lib.hid (Grow.block hb HB10_19.out)
          have HB12_20 := Lib.hid (Grow.block hb HB12_19.out)
          have HI7_20 := Lib.hid ((HI7_19.out.below hb).more (hb).size)
          have HI8_20 := Lib.hid ((HI8_19.out.below hb).more (hb).size)
          have HI10_20 := Lib.hid ((HI10_19.out.below hb).more (hb).size)
          have HI12_20 := Lib.hid ((HI12_19.out.below hb).more (hb).size)
          clear HG19 HB3_19 hc3_19 HB4_19 hc4_19 HB5_19 hc5_19 HB7_19 hc7_19 HB8_19 hc8_19 HB10_19 hc10_19 HB12_19 hc12_19 HI7_19 HI8_19 HI10_19 HI12_19
          have hc3_20 := HB3_20.out.cell
          have hc4_20 := HB4_20.out.cell
          have hc5_20 := HB5_20.out.cell
          have hc7_20 := HB7_20.out.cell
          have hc8_20 := HB8_20.out.cell
          have hc10_20 := HB10_20.out.cell
          have hc12_20 := HB12_20.out.cell
          clear hb
          rw [HE2.out]
          go_wp2_with fail
          refine (HWK.out _).mono ?_
          rintro e w21 ⟨rfl, hb⟩
          have HG21 : Hid (Grow w w21) := HG20.out.trans hb
          have HB3_21 := Lib.hid (Grow.block hb HB3_20.out)
          have HB4_21 := Lib.hid (Grow.block hb HB4_20.out)
          have HB5_21 := Lib.hid (Grow.block hb HB5_20.out)
          have HB7_21 := Lib.hid (Grow.block hb HB7_20.out)
          have HB8_21 := Lib.hid (Grow.block hb HB8_20.out)
          have HB10_21 := Lib.hid (Grow.block hb HB10_20.out)
          have HB12_21 := Lib.hid (Grow.block hb HB12_20.out)
          have HI7_21 := Lib.hid ((HI7_20.out.below hb).more (hb).size)
          have HI8_21 := Lib.hid ((HI8_20.out.below hb).more (hb).size)
          have HI10_21 := Lib.hid ((HI10_20.out.below hb).more (hb).size)
          have HI12_21 := Lib.hid ((HI12_20.out.below hb).more (hb).size)
          clear HG20 HB3_20 hc3_20 HB4_20 hc4_20 HB5_20 hc5_20 HB7_20 hc7_20 HB8_20 hc8_20 HB10_20 hc10_20 HB12_20 hc12_20 HI7_20 HI8_20 HI10_20 HI12_20
          have hc3_21 := HB3_21.out.cell
          have hc4_21 := HB4_21.out.cell
          have hc5_21 := HB5_21.out.cell
          have hc7_21 := HB7_21.out.cell
          have hc8_21 := HB8_21.out.cell
          have hc10_21 := HB10_21.out.cell
          have hc12_21 := HB12_21.out.cell
          clear hb
          go_wp2
          go_ret
          exact ⟨rfl, HG21.out⟩
      · obtain rfl : r = 0 := HR0.out rfl rfl
        by_cases hab : a = b
        · have HE := Lib.hid (show decide (a = b) = true by simpa using hab)
          clear hab
          go_wp2_with fail
          refine (HSB.out _ HG18.out).mono ?_
          rintro e w19 ⟨rfl, hb⟩
          have HG19 : Hid (Grow w w19) := HG18.out.trans hb
          have HB3_19 := Lib.hid (Grow.block hb HB3_18.out)
          have HB4_19 := Lib.hid (Grow.block hb HB4_18.out)
          have HB5_19 := Lib.hid (Grow.block hb HB5_18.out)
          have HB7_19 := Lib.hid (Grow.block hb HB7_18.out)
          have HB8_19 := Lib.hid (Grow.block hb HB8_18.out)
          have HB10_19 := Lib.hid (Grow.block hb HB10_18.out)
          have HB12_19 := Lib.hid (Grow.block hb HB12_18.out)
          have HI7_19 := Lib.hid ((HI7_18.out.below hb).more (hb).size)
          have HI8_19 := Lib.hid ((HI8_18.out.below hb).more (hb).size)
          have HI10_19 := Lib.hid ((HI10_18.out.below hb).more (hb).size)
          have HI12_19 := Lib.hid ((HI12_18.out.below hb).more (hb).size)
          clear HG18 HB3_18 hc3_18 HB4_18 hc4_18 HB5_18 hc5_18 HB7_18 hc7_18 HB8_18 hc8_18 HB10_18 hc10_18 HB12_18 hc12_18 HI7_18 HI8_18 HI10_18 HI12_18
          have hc3_19 := HB3_19.out.cell
          have hc4_19 := HB4_19.out.cell
          have hc5_19 := HB5_19.out.cell
          have hc7_19 := HB7_19.out.cell
          have hc8_19 := HB8_19.out.cell
          have hc10_19 := HB10_19.out.cell
          have hc12_19 := HB12_19.out.cell
          clear hb
          rw [HE.out]
          go_wp2_with fail
          refine (HWK.out _).mono ?_
          rintro e w20 ⟨rfl, hb⟩
          have HG20 : Hid (Grow w w20) := HG19.out.trans hb
          have HB3_20 := Lib.hid (Grow.block hb HB3_19.out)
          have HB4_20 := Lib.hid (Grow.block hb HB4_19.out)
          have HB5_20 := Lib.hid (Grow.block hb HB5_19.out)
          have HB7_20 := Lib.hid (Grow.block hb HB7_19.out)
          have HB8_20 := Lib.hid (Grow.block hb HB8_19.out)
          have HB10_20 := Lib.hid (Grow.block hb HB10_19.out)
          have HB12_20 := Lib.hid (Grow.block hb HB12_19.out)
          have HI7_20 := Lib.hid ((HI7_19.out.below hb).more (hb).size)
          have HI8_20 := Lib.hid ((HI8_19.out.below hb).more (hb).size)
          have HI10_20 := Lib.hid ((HI10_19.out.below hb).more (hb).size)
          have HI12_20 := Lib.hid ((HI12_19.out.below hb).more (hb).size)
          clear HG19 HB3_19 hc3_19 HB4_19 hc4_19 HB5_19 hc5_19 HB7_19 hc7_19 HB8_19 hc8_19 HB10_19 hc10_19 HB12_19 hc12_19 HI7_19 HI8_19 HI10_19 HI12_19
          have hc3_20 := HB3_20.out.cell
          have hc4_20 := HB4_20.out.cell
          have hc5_20 := HB5_20.out.cell
          have hc7_20 := HB7_20.out.cell
          have hc8_20 := HB8_20.out.cell
          have hc10_20 := HB10_20.out.cell
          have hc12_20 := HB12_20.out.cell
          clear hb
          go_wp2
          go_ret
          exact ⟨rfl, HG20.out⟩
        · have HE := Lib.hid (show decide (a = b) = false by simpa using hab)
          have HE2 := Lib.hid (show decide (m = b) = true by have := (HZ.out.1 rfl).resolve_left hab; simpa using this)
          clear hab
          go_wp2_with fail
          refine (HSB.out _ HG18.out).mono ?_
          rintro e w19 ⟨rfl, hb⟩
          have HG19 : Hid (Grow w w19) := HG18.out.trans hb
          have HB3_19 := Lib.hid (Grow.block hb HB3_18.out)
          have HB4_19 := Lib.hid (Grow.block hb HB4_18.out)
          have HB5_19 := Lib.hid (Grow.block hb HB5_18.out)
          have HB7_19 := Lib.hid (Grow.block hb HB7_18.out)
          have HB8_19 := Lib.hid (Grow.block hb HB8_18.out)
          have HB10_19 := Lib.hid (Grow.block hb HB10_18.out)
          have HB12_19 := Lib.hid (Grow.block hb HB12_18.out)
          have HI7_19 := Lib.hid ((HI7_18.out.below hb).more (hb).size)
          have HI8_19 := Lib.hid ((HI8_18.out.below hb).more (hb).size)
          have HI10_19 := Lib.hid ((HI10_18.out.below hb).more (hb).size)
          have HI12_19 := Lib.hid ((HI12_18.out.below hb).more (hb).size)
          clear HG18 HB3_18 hc3_18 HB4_18 hc4_18 HB5_18 hc5_18 HB7_18 hc7_18 HB8_18 hc8_18 HB10_18 hc10_18 HB12_18 hc12_18 HI7_18 HI8_18 HI10_18 HI12_18
          have hc3_19 := HB3_19.out.cell
          have hc4_19 := HB4_19.out.cell
          have hc5_19 := HB5_19.out.cell
          have hc7_19 := HB7_19.out.cell
          have hc8_19 := HB8_19.out.cell
          have hc10_19 := HB10_19.out.cell
          have hc12_19 := HB12_19.out.cell
          clear hb
          rw [HE.out]
          go_wp2_with fail
          refine (HMB.out _ _ _ HI7_19.out HG19.out).mono ?_
          rintro e w20 ⟨rfl, hb⟩
          have HG20 : Hid (Grow w w20) := HG19.out.trans hb
          have HB3_20 := Lib.hid (Grow.block hb HB3_19.out)
          have HB4_20 := Lib.hid (Grow.block hb HB4_19.out)
          have HB5_20 := Lib.hid (Grow.block hb HB5_19.out)
          have HB7_20 := Lib.hid (Grow.block hb HB7_19.out)
          have HB8_20 := Lib.hid (Grow.block hb HB8_19.out)
          have HB10_20 := Lib.hid (Grow.block hb HB10_19.out)
          have HB12_20 := Lib.hid (Grow.block hb HB12_19.out)
          have HI7_20 := Lib.hid ((HI7_19.out.below hb).more (hb).size)
          have HI8_20 := Lib.hid ((HI8_19.out.below hb).more (hb).size)
          have HI10_20 := Lib.hid ((HI10_19.out.below hb).more (hb).size)
          have HI12_20 := Lib.hid ((HI12_19.out.below hb).more (hb).size)
          clear HG19 HB3_19 hc3_19 HB4_19 hc4_19 HB5_19 hc5_19 HB7_19 hc7_19 HB8_19 hc8_19 HB10_19 hc10_19 HB12_19 hc12_19 HI7_19 HI8_19 HI10_19 HI12_19
          have hc3_20 := HB3_20.out.cell
          have hc4_20 := HB4_20.out.cell
          have hc5_20 := HB5_20.out.cell
          have hc7_20 := HB7_20.out.cell
          have hc8_20 := HB8_20.out.cell
          have hc10_20 := HB10_20.out.cell
          have hc12_20 := HB12_20.out.cell
          clear hb
          rw [HE2.out]
          go_wp2_with fail
          refine (HWK.out _).mono ?_
          rintro e w21 ⟨rfl, hb⟩
          have HG21 : Hid (Grow w w21) := HG20.out.trans hb
          have HB3_21 := Lib.hid (Grow.block hb HB3_20.out)
          have HB4_21 := Lib.hid (Grow.block hb HB4_20.out)
          have HB5_21 := Lib.hid (Grow.block hb HB5_20.out)
          have HB7_21 := Lib.hid (Grow.block hb HB7_20.out)
          have HB8_21 := Lib.hid (Grow.block hb HB8_20.out)
          have HB10_21 := Lib.hid (Grow.block hb HB10_20.out)
          have HB12_21 := Lib.hid (Grow.block hb HB12_20.out)
          have HI7_21 := Lib.hid ((HI7_20.out.below hb).more (hb).size)
          have HI8_21 := Lib.hid ((HI8_20.out.below hb).more (hb).size)
          have HI10_21 := Lib.hid ((HI10_20.out.below hb).more (hb).size)
          have HI12_21 := Lib.hid ((HI12_20.out.below hb).more (hb).size)
          clear HG20 HB3_20 hc3_20 HB4_20 hc4_20 HB5_20 hc5_20 HB7_20 hc7_20 HB8_20 hc8_20 HB10_20 hc10_20 HB12_20 hc12_20 HI7_20 HI8_20 HI10_20 HI12_20
          have hc3_21 := HB3_21.out.cell
          have hc4_21 := HB4_21.out.cell
          have hc5_21 := HB5_21.out.cell
          have hc7_21 := HB7_21.out.cell
          have hc8_21 := HB8_21.out.cell
          have hc10_21 := HB10_21.out.cell
          have hc12_21 := HB12_21.out.cell
          clear hb
          go_wp2
          go_ret
          exact ⟨rfl, HG21.out⟩
      · skip
        by_cases hab : a = b
        · have HE := Lib.hid (show decide (a = b) = true by simpa using hab)
          clear hab
          go_wp2_with fail
          refine (HSB.out _ HG18.out).mono ?_
          rintro e w19 ⟨rfl, hb⟩
          have HG19 : Hid (Grow w w19) := HG18.out.trans hb
          have HB3_19 := Lib.hid (Grow.block hb HB3_18.out)
          have HB4_19 := Lib.hid (Grow.block hb HB4_18.out)
          have HB5_19 := Lib.hid (Grow.block hb HB5_18.out)
          have HB7_19 := Lib.hid (Grow.block hb HB7_18.out)
          have HB8_19 := Lib.hid (Grow.block hb HB8_18.out)
          have HB10_19 := Lib.hid (Grow.block hb HB10_18.out)
          have HB12_19 := Lib.hid (Grow.block hb HB12_18.out)
          have HI7_19 := Lib.hid ((HI7_18.out.below hb).more (hb).size)
          have HI8_19 := Lib.hid ((HI8_18.out.below hb).more (hb).size)
          have HI10_19 := Lib.hid ((HI10_18.out.below hb).more (hb).size)
          have HI12_19 := Lib.hid ((HI12_18.out.below hb).more (hb).size)
          clear HG18 HB3_18 hc3_18 HB4_18 hc4_18 HB5_18 hc5_18 HB7_18 hc7_18 HB8_18 hc8_18 HB10_18 hc10_18 HB12_18 hc12_18 HI7_18 HI8_18 HI10_18 HI12_18
          have hc3_19 := HB3_19.out.cell
          have hc4_19 := HB4_19.out.cell
          have hc5_19 := HB5_19.out.cell
          have hc7_19 := HB7_19.out.cell
          have hc8_19 := HB8_19.out.cell
          have hc10_19 := HB10_19.out.cell
          have hc12_19 := HB12_19.out.cell
          clear hb
          rw [HE.out]
          go_wp2_with fail
          refine (HWK.out _).mono ?_
          rintro e w20 ⟨rfl, hb⟩
          have HG20 : Hid (Grow w w20) := HG19.out.trans hb
          have HB3_20 := Lib.hid (Grow.block hb HB3_19.out)
          have HB4_20 := Lib.hid (Grow.block hb HB4_19.out)
          have HB5_20 := Lib.hid (Grow.block hb HB5_19.out)
          have HB7_20 := Lib.hid (Grow.block hb HB7_19.out)
          have HB8_20 := Lib.hid (Grow.block hb HB8_19.out)
          have HB10_20 := Lib.hid (Grow.block hb HB10_19.out)
          have HB12_20 := Lib.hid (Grow.block hb HB12_19.out)
          have HI7_20 := Lib.hid ((HI7_19.out.below hb).more (hb).size)
          have HI8_20 := Lib.hid ((HI8_19.out.below hb).more (hb).size)
          have HI10_20 := Lib.hid ((HI10_19.out.below hb).more (hb).size)
          have HI12_20 := Lib.hid ((HI12_19.out.below hb).more (hb).size)
          clear HG19 HB3_19 hc3_19 HB4_19 hc4_19 HB5_19 hc5_19 HB7_19 hc7_19 HB8_19 hc8_19 HB10_19 hc10_19 HB12_19 hc12_19 HI7_19 HI8_19 HI10_19 HI12_19
          have hc3_20 := HB3_20.out.cell
          have hc4_20 := HB4_20.out.cell
          have hc5_20 := HB5_20.out.cell
          have hc7_20 := HB7_20.out.cell
          have hc8_20 := HB8_20.out.cell
          have hc10_20 := HB10_20.out.cell
          have hc12_20 := HB12_20.out.cell
          clear hb
          go_wp2
          go_ret
          exact ⟨rfl, HG20.out⟩
        · have HE := Lib.hid (show decide (a = b) = false by simpa using hab)
          have HE2 := Lib.hid (show decide (m = b) = true by have := (HZ.out.1 rfl).resolve_left hab; simpa using this)
          clear hab
          go_wp2_with fail
          refine (HSB.out _ HG18.out).mono ?_
          rintro e w19 ⟨rfl, hb⟩
          have HG19 : Hid (Grow w w19) := HG18.out.trans hb
          have HB3_19 := Lib.hid (Grow.block hb HB3_18.out)
          have HB4_19 := Lib.hid (Grow.block hb HB4_18.out)
          have HB5_19 := Lib.hid (Grow.block hb HB5_18.out)
          have HB7_19 := Lib.hid (Grow.block hb HB7_18.out)
          have HB8_19 := Lib.hid (Grow.block hb HB8_18.out)
          have HB10_19 := Lib.hid (Grow.block hb HB10_18.out)
          have HB12_19 := Lib.hid (Grow.block hb HB12_18.out)
          have HI7_19 := Lib.hid ((HI7_18.out.below hb).more (hb).size)
          have HI8_19 := Lib.hid ((HI8_18.out.below hb).more (hb).size)
          have HI10_19 := Lib.hid ((HI10_18.out.below hb).more (hb).size)
          have HI12_19 := Lib.hid ((HI12_18.out.below hb).more (hb).size)
          clear HG18 HB3_18 hc3_18 HB4_18 hc4_18 HB5_18 hc5_18 HB7_18 hc7_18 HB8_18 hc8_18 HB10_18 hc10_18 HB12_18 hc12_18 HI7_18 HI8_18 HI10_18 HI12_18
          have hc3_19 := HB3_19.out.cell
          have hc4_19 := HB4_19.out.cell
          have hc5_19 := HB5_19.out.cell
          have hc7_19 := HB7_19.out.cell
          have hc8_19 := HB8_19.out.cell
          have hc10_19 := HB10_19.out.cell
          have hc12_19 := HB12_19.out.cell
          clear hb
          rw [HE.out]
          go_wp2_with fail
          refine (HMB.out _ _ _ HI7_19.out HG19.out).mono ?_
          rintro e w20 ⟨rfl, hb⟩
          have HG20 : Hid (Grow w w20) := HG19.out.trans hb
          have HB3_20 := Lib.hid (Grow.block hb HB3_19.out)
          have HB4_20 := Lib.hid (Grow.block hb HB4_19.out)
          have HB5_20 := Lib.hid (Grow.block hb HB5_19.out)
          have HB7_20 := Lib.hid (Grow.block hb HB7_19.out)
          have HB8_20 := Lib.hid (Grow.block hb HB8_19.out)
          have HB10_20 := Lib.hid (Grow.block hb HB10_19.out)
          have HB12_20 := Lib.hid (Grow.block hb HB12_19.out)
          have HI7_20 := Lib.hid ((HI7_19.out.below hb).more (hb).size)
          have HI8_20 := Lib.hid ((HI8_19.out.below hb).more (hb).size)
          have HI10_20 := Lib.hid ((HI10_19.out.below hb).more (hb).size)
          have HI12_20 := Lib.hid ((HI12_19.out.below hb).more (hb).size)
          clear HG19 HB3_19 hc3_19 HB4_19 hc4_19 HB5_19 hc5_19 HB7_19 hc7_19 HB8_19 hc8_19 HB10_19 hc10_19 HB12_19 hc12_19 HI7_19 HI8_19 HI10_19 HI12_19
          have hc3_20 := HB3_20.out.cell
          have hc4_20 := HB4_20.out.cell
          have hc5_20 := HB5_20.out.cell
          have hc7_20 := HB7_20.out.cell
          have hc8_20 := HB8_20.out.cell
          have hc10_20 := HB10_20.out.cell
          have hc12_20 := HB12_20.out.cell
          clear hb
          rw [HE2.out]
          go_wp2_with fail
          refine (HWK.out _).mono ?_
          rintro e w21 ⟨rfl, hb⟩
          have HG21 : Hid (Grow w w21) := HG20.out.trans hb
          have HB3_21 := Lib.hid (Grow.block hb HB3_20.out)
          have HB4_21 := Lib.hid (Grow.block hb HB4_20.out)
          have HB5_21 := Lib.hid (Grow.block hb HB5_20.out)
          have HB7_21 := Lib.hid (Grow.block hb HB7_20.out)
          have HB8_21 := Lib.hid (Grow.block hb HB8_20.out)
          have HB10_21 := Lib.hid (Grow.block hb HB10_20.out)
          have HB12_21 := Lib.hid (Grow.block hb HB12_20.out)
          have HI7_21 := Lib.hid ((HI7_20.out.below hb).more (hb).size)
          have HI8_21 := Lib.hid ((HI8_20.out.below hb).more (hb).size)
          have HI10_21 := Lib.hid ((HI10_20.out.below hb).more (hb).size)
          have HI12_21 := Lib.hid ((HI12_20.out.below hb).more (hb).size)
          clear HG20 HB3_20 hc3_20 HB4_20 hc4_20 HB5_20 hc5_20 HB7_20 hc7_20 HB8_20 hc8_20 HB10_20 hc10_20 HB12_20 hc12_20 HI7_20 HI8_20 HI10_20 HI12_20
          have hc3_21 := HB3_21.out.cell
          have hc4_21 := HB4_21.out.cell
          have hc5_21 := HB5_21.out.cell
          have hc7_21 := HB7_21.out.cell
          have hc8_21 := HB8_21.out.cell
          have hc10_21 := HB10_21.out.cell
          have hc12_21 := HB12_21.out.cell
          clear hb
          go_wp2
          go_ret
          exact ⟨rfl, HG21.out⟩
    · skip
      go_wp2_with fail
      refine (HSB.out _ HG18.out).mono ?_
      rintro e w19 ⟨rfl, hb⟩
      have HG19 : Hid (Grow w w19) := HG18.out.trans hb
      have HB3_19 := Lib.hid (Grow.block hb HB3_18.out)
      have HB4_19 := Lib.hid (Grow.block hb HB4_18.out)
      have HB5_19 := Lib.hid (Grow.block hb HB5_18.out)
      have HB7_19 := Lib.hid (Grow.block hb HB7_18.out)
      have HB8_19 := Lib.hid (Grow.block hb HB8_18.out)
      have HB10_19 := Lib.hid (Grow.block hb HB10_18.out)
      have HB12_19 := Lib.hid (Grow.block hb HB12_18.out)
      have HI7_19 := Lib.hid ((HI7_18.out.below hb).more (hb).size)
      have HI8_19 := Lib.hid ((HI8_18.out.below hb).more (hb).size)
      have HI10_19 := Lib.hid ((HI10_18.out.below hb).more (hb).size)
      have HI12_19 := Lib.hid ((HI12_18.out.below hb).more (hb).size)
      clear HG18 HB3_18 hc3_18 HB4_18 hc4_18 HB5_18 hc5_18 HB7_18 hc7_18 HB8_18 hc8_18 HB10_18 hc10_18 HB12_18 hc12_18 HI7_18 HI8_18 HI10_18 HI12_18
      have hc3_19 := HB3_19.out.cell
      have hc4_19 := HB4_19.out.cell
      have hc5_19 := HB5_19.out.cell
      have hc7_19 := HB7_19.out.cell
      have hc8_19 := HB8_19.out.cell
      have hc10_19 := HB10_19.out.cell
      have hc12_19 := HB12_19.out.cell
      clear hb
      rw [show decide (a = b) = false by simp only [decide_eq_false_iff_not]; intro h; have := HZ.out.2 (.inl h); omega]
      go_wp2_with fail
      refine (HMB.out _ _ _ HI7_19.out HG19.out).mono ?_
      rintro e w20 ⟨rfl, hb⟩
      have HG20 : Hid (Grow w w20) := HG19.out.trans hb
      have HB3_20 := Lib.hid (Grow.block hb HB3_19.out)
      have HB4_20 := Lib.hid (Grow.block hb HB4_19.out)
      have HB5_20 := Lib.hid (Grow.block hb HB5_19.out)
      have HB7_20 := Lib.hid (Grow.block hb HB7_19.out)
      have HB8_20 := Lib.hid (Grow.block hb HB8_19.out)
      have HB10_20 := Lib.hid (Grow.block hb HB10_19.out)
      have HB12_20 := Lib.hid (Grow.block hb HB12_19.out)
      have HI7_20 := Lib.hid ((HI7_19.out.below hb).more (hb).size)
      have HI8_20 := Lib.hid ((HI8_19.out.below hb).more (hb).size)
      have HI10_20 := Lib.hid ((HI10_19.out.below hb).more (hb).size)
      have HI12_20 := Lib.hid ((HI12_19.out.below hb).more (hb).size)
      clear HG19 HB3_19 hc3_19 HB4_19 hc4_19 HB5_19 hc5_19 HB7_19 hc7_19 HB8_19 hc8_19 HB10_19 hc10_19 HB12_19 hc12_19 HI7_19 HI8_19 HI10_19 HI12_19
      have hc3_20 := HB3_20.out.cell
      have hc4_20 := HB4_20.out.cell
      have hc5_20 := HB5_20.out.cell
      have hc7_20 := HB7_20.out.cell
      have hc8_20 := HB8_20.out.cell
      have hc10_20 := HB10_20.out.cell
      have hc12_20 := HB12_20.out.cell
      clear hb
      rw [show decide (m = b) = false by simp only [decide_eq_false_iff_not]; intro h; have := HZ.out.2 (.inr h); omega]
      go_wp2_with fail
      refine (HWK.out _).mono ?_
      rintro e w21 ⟨rfl, hb⟩
      have HG21 : Hid (Grow w w21) := HG20.out.trans hb
      have HB3_21 := Lib.hid (Grow.block hb HB3_20.out)
      have HB4_21 := Lib.hid (Grow.block hb HB4_20.out)
      have HB5_21 := Lib.hid (Grow.block hb HB5_20.out)
      have HB7_21 := Lib.hid (Grow.block hb HB7_20.out)
      have HB8_21 := Lib.hid (Grow.block hb HB8_20.out)
      have HB10_21 := Lib.hid (Grow.block hb HB10_20.out)
      have HB12_21 := Lib.hid (Grow.block hb HB12_20.out)
      have HI7_21 := Lib.hid ((HI7_20.out.below hb).more (hb).size)
      have HI8_21 := Lib.hid ((HI8_20.out.below hb).more (hb).size)
      have HI10_21 := Lib.hid ((HI10_20.out.below hb).more (hb).size)
      have HI12_21 := Lib.hid ((HI12_20.out.below hb).more (hb).size)
      clear HG20 HB3_20 hc3_20 HB4_20 hc4_20 HB5_20 hc5_20 HB7_20 hc7_20 HB8_20 hc8_20 HB10_20 hc10_20 HB12_20 hc12_20 HI7_20 HI8_20 HI10_20 HI12_20
      have hc3_21 := HB3_21.out.cell
      have hc4_21 := HB4_21.out.cell
      have hc5_21 := HB5_21.out.cell
      have hc7_21 := HB7_21.out.cell
      have hc8_21 := HB8_21.out.cell
      have hc10_21 := HB10_21.out.cell
      have hc12_21 := HB12_21.out.cell
      clear hb
      go_wp2
      go_ret
      exact ⟨rfl, HG21.out⟩
  · rw [show decide (ca = a) = false by simp [hk]]
    have HM := Lib.hid (HK.out.resolve_left hk)
    clear hk
    go_wp2_with fail
    refine (HFM.out _ _ _ _ _ HI8_11.out HI7_11.out).mono ?_
    rintro e w12 ⟨rfl, hb⟩
    have HG12 : Hid (Grow w w12) := HG11.out.trans hb
    have HB3_12 := Lib.hid (Grow.block hb HB3_11.out)
    have HB4_12 := Lib.hid (Grow.block hb HB4_11.out)
    have HB5_12 := Lib.hid (Grow.block hb HB5_11.out)
    have HB7_12 := Lib.hid (Grow.block hb HB7_11.out)
    have HB8_12 := Lib.hid (Grow.block hb HB8_11.out)
    have HB10_12 := Lib.hid (Grow.block hb HB10_11.out)
    have HI7_12 := Lib.hid ((HI7_11.out.below hb).more (hb).size)
    have HI8_12 := Lib.hid ((HI8_11.out.below hb).more (hb).size)
    have HI10_12 := Lib.hid ((HI10_11.out.below hb).more (hb).size)
    clear HG11 HB3_11 hc3_11 HB4_11 hc4_11 HB5_11 hc5_11 HB7_11 hc7_11 HB8_11 hc8_11 HB10_11 hc10_11 HI7_11 HI8_11 HI10_11
    have hc3_12 := HB3_12.out.cell
    have hc4_12 := HB4_12.out.cell
    have hc5_12 := HB5_12.out.cell
    have hc7_12 := HB7_12.out.cell
    have hc8_12 := HB8_12.out.cell
    have hc10_12 := HB10_12.out.cell
    clear hb
    rw [show decide (ca = m) = true by simp [HM.out]]
    go_wp2_with fail
    refine (HCF.out _ _ _ HI8_12.out).mono ?_
    rintro e w13 ⟨A12, c12, rfl, hi, hb⟩
    have HG13 : Hid (Grow w w13) := HG12.out.trans hb
    have HB3_13 := Lib.hid (Grow.block hb HB3_12.out)
    have HB4_13 := Lib.hid (Grow.block hb HB4_12.out)
    have HB5_13 := Lib.hid (Grow.block hb HB5_12.out)
    have HB7_13 := Lib.hid (Grow.block hb HB7_12.out)
    have HB8_13 := Lib.hid (Grow.block hb HB8_12.out)
    have HB10_13 := Lib.hid (Grow.block hb HB10_12.out)
    have HI7_13 := Lib.hid ((HI7_12.out.below hb).more (hb).size)
    have HI8_13 := Lib.hid ((HI8_12.out.below hb).more (hb).size)
    have HI10_13 := Lib.hid ((HI10_12.out.below hb).more (hb).size)
    clear HG12 HB3_12 hc3_12 HB4_12 hc4_12 HB5_12 hc5_12 HB7_12 hc7_12 HB8_12 hc8_12 HB10_12 hc10_12 HI7_12 HI8_12 HI10_12
    have hc3_13 := HB3_13.out.cell
    have hc4_13 := HB4_13.out.cell
    have hc5_13 := HB5_13.out.cell
    have hc7_13 := HB7_13.out.cell
    have hc8_13 := HB8_13.out.cell
    have hc10_13 := HB10_13.out.cell
    have HI12_13 := Lib.hid hi.ints
    clear hb hi
    obtain ⟨W14, hW, hgn, hfn, hsz14⟩ := one_block w13 24 (cellsF ca A12 c12)
    have HG14 : Hid (Grow w W14) := HG13.out.trans hgn
    have HB3_14 := Lib.hid (Grow.block hgn HB3_13.out)
    have HB4_14 := Lib.hid (Grow.block hgn HB4_13.out)
    have HB5_14 := Lib.hid (Grow.block hgn HB5_13.out)
    have HB7_14 := Lib.hid (Grow.block hgn HB7_13.out)
    have HB8_14 := Lib.hid (Grow.block hgn HB8_13.out)
    have HB10_14 := Lib.hid (Grow.block hgn HB10_13.out)
    have HI7_14 := Lib.hid ((HI7_13.out.below hgn).more (hgn).size)
    have HI8_14 := Lib.hid ((HI8_13.out.below hgn).more (hgn).size)
    have HI10_14 := Lib.hid ((HI10_13.out.below hgn).more (hgn).size)
    have HI12_14 := Lib.hid ((HI12_13.out.below hgn).more (hgn).size)
    clear HG13 HB3_13 hc3_13 HB4_13 hc4_13 HB5_13 hc5_13 HB7_13 hc7_13 HB8_13 hc8_13 HB10_13 hc10_13 HI7_13 HI8_13 HI10_13 HI12_13
    have hc3_14 := HB3_14.out.cell
    have hc4_14 := HB4_14.out.cell
    have hc5_14 := HB5_14.out.cell
    have hc7_14 := HB7_14.out.cell
    have hc8_14 := HB8_14.out.cell
    have hc10_14 := HB10_14.out.cell
    have HB12_14 := Lib.hid hfn
    have hc12_14 := hfn.cell
    have HW := Lib.hid hW
    clear hgn hfn hW hsz14
    go_upto_region 9 with fail
    rw [HW.out]
    clear HW
    go_wp2_with fail
    refine (HAB.out _ HG14.out).mono ?_
    rintro e w15 ⟨rfl, hb⟩
    have HG15 : Hid (Grow w w15) := HG14.out.trans hb
    have HB3_15 := Lib.hid (Grow.block hb HB3_14.out)
    have HB4_15 := Lib.hid (Grow.block hb HB4_14.out)
    have HB5_15 := Lib.hid (Grow.block hb HB5_14.out)
    have HB7_15 := Lib.hid (Grow.block hb HB7_14.out)
    have HB8_15 := Lib.hid (Grow.block hb HB8_14.out)
    have HB10_15 := Lib.hid (Grow.block hb HB10_14.out)
    have HB12_15 := Lib.hid (Grow.block hb HB12_14.out)
    have HI7_15 := Lib.hid ((HI7_14.out.below hb).more (hb).size)
    have HI8_15 := Lib.hid ((HI8_14.out.below hb).more (hb).size)
    have HI10_15 := Lib.hid ((HI10_14.out.below hb).more (hb).size)
    have HI12_15 := Lib.hid ((HI12_14.out.below hb).more (hb).size)
    clear HG14 HB3_14 hc3_14 HB4_14 hc4_14 HB5_14 hc5_14 HB7_14 hc7_14 HB8_14 hc8_14 HB10_14 hc10_14 HB12_14 hc12_14 HI7_14 HI8_14 HI10_14 HI12_14
    have hc3_15 := HB3_15.out.cell
    have hc4_15 := HB4_15.out.cell
    have hc5_15 := HB5_15.out.cell
    have hc7_15 := HB7_15.out.cell
    have hc8_15 := HB8_15.out.cell
    have hc10_15 := HB10_15.out.cell
    have hc12_15 := HB12_15.out.cell
    clear hb
    go_wp2_with fail
    refine (HBA.out _ HG15.out).mono ?_
    rintro e w16 ⟨rfl, hb⟩
    have HG16 : Hid (Grow w w16) := HG15.out.trans hb
    have HB3_16 := Lib.hid (Grow.block hb HB3_15.out)
    have HB4_16 := Lib.hid (Grow.block hb HB4_15.out)
    have HB5_16 := Lib.hid (Grow.block hb HB5_15.out)
    have HB7_16 := Lib.hid (Grow.block hb HB7_15.out)
    have HB8_16 := Lib.hid (Grow.block hb HB8_15.out)
    have HB10_16 := Lib.hid (Grow.block hb HB10_15.out)
    have HB12_16 := Lib.hid (Grow.block hb HB12_15.out)
    have HI7_16 := Lib.hid ((HI7_15.out.below hb).more (hb).size)
    have HI8_16 := Lib.hid ((HI8_15.out.below hb).more (hb).size)
    have HI10_16 := Lib.hid ((HI10_15.out.below hb).more (hb).size)
    have HI12_16 := Lib.hid ((HI12_15.out.below hb).more (hb).size)
    clear HG15 HB3_15 hc3_15 HB4_15 hc4_15 HB5_15 hc5_15 HB7_15 hc7_15 HB8_15 hc8_15 HB10_15 hc10_15 HB12_15 hc12_15 HI7_15 HI8_15 HI10_15 HI12_15
    have hc3_16 := HB3_16.out.cell
    have hc4_16 := HB4_16.out.cell
    have hc5_16 := HB5_16.out.cell
    have hc7_16 := HB7_16.out.cell
    have hc8_16 := HB8_16.out.cell
    have hc10_16 := HB10_16.out.cell
    have hc12_16 := HB12_16.out.cell
    clear hb
    go_wp2_with fail
    refine (HBC.out _ HG16.out).mono ?_
    rintro e w17 ⟨rfl, hb⟩
    have HG17 : Hid (Grow w w17) := HG16.out.trans hb
    have HB3_17 := Lib.hid (Grow.block hb HB3_16.out)
    have HB4_17 := Lib.hid (Grow.block hb HB4_16.out)
    have HB5_17 := Lib.hid (Grow.block hb HB5_16.out)
    have HB7_17 := Lib.hid (Grow.block hb HB7_16.out)
    have HB8_17 := Lib.hid (Grow.block hb HB8_16.out)
    have HB10_17 := Lib.hid (Grow.block hb HB10_16.out)
    have HB12_17 := Lib.hid (Grow.block hb HB12_16.out)
    have HI7_17 := Lib.hid ((HI7_16.out.below hb).more (hb).size)
    have HI8_17 := Lib.hid ((HI8_16.out.below hb).more (hb).size)
    have HI10_17 := Lib.hid ((HI10_16.out.below hb).more (hb).size)
    have HI12_17 := Lib.hid ((HI12_16.out.below hb).more (hb).size)
    clear HG16 HB3_16 hc3_16 HB4_16 hc4_16 HB5_16 hc5_16 HB7_16 hc7_16 HB8_16 hc8_16 HB10_16 hc10_16 HB12_16 hc12_16 HI7_16 HI8_16 HI10_16 HI12_16
    have hc3_17 := HB3_17.out.cell
    have hc4_17 := HB4_17.out.cell
    have hc5_17 := HB5_17.out.cell
    have hc7_17 := HB7_17.out.cell
    have hc8_17 := HB8_17.out.cell
    have hc10_17 := HB10_17.out.cell
    have hc12_17 := HB12_17.out.cell
    clear hb
    go_wp2_with fail
    refine (HAC.out _ HG17.out).mono ?_
    rintro e w18 ⟨rfl, hb⟩
    have HG18 : Hid (Grow w w18) := HG17.out.trans hb
    have HB3_18 := Lib.hid (Grow.block hb HB3_17.out)
    have HB4_18 := Lib.hid (Grow.block hb HB4_17.out)
    have HB5_18 := Lib.hid (Grow.block hb HB5_17.out)
    have HB7_18 := Lib.hid (Grow.block hb HB7_17.out)
    have HB8_18 := Lib.hid (Grow.block hb HB8_17.out)
    have HB10_18 := Lib.hid (Grow.block hb HB10_17.out)
    have HB12_18 := Lib.hid (Grow.block hb HB12_17.out)
    have HI7_18 := Lib.hid ((HI7_17.out.below hb).more (hb).size)
    have HI8_18 := Lib.hid ((HI8_17.out.below hb).more (hb).size)
    have HI10_18 := Lib.hid ((HI10_17.out.below hb).more (hb).size)
    have HI12_18 := Lib.hid ((HI12_17.out.below hb).more (hb).size)
    clear HG17 HB3_17 hc3_17 HB4_17 hc4_17 HB5_17 hc5_17 HB7_17 hc7_17 HB8_17 hc8_17 HB10_17 hc10_17 HB12_17 hc12_17 HI7_17 HI8_17 HI10_17 HI12_17
    have hc3_18 := HB3_18.out.cell
    have hc4_18 := HB4_18.out.cell
    have hc5_18 := HB5_18.out.cell
    have hc7_18 := HB7_18.out.cell
    have hc8_18 := HB8_18.out.cell
    have hc10_18 := HB10_18.out.cell
    have hc12_18 := HB12_18.out.cell
    clear hb
    go_wp2_with fail
    refine (HFG.out _ _ _ _ _ HI12_18.out HI8_18.out).mono ?_
    rintro e w19 ⟨rfl, hb⟩
    have HG19 : Hid (Grow w w19) := HG18.out.trans hb
    have HB3_19 := Lib.hid (Grow.block hb HB3_18.out)
    have HB4_19 := Lib.hid (Grow.block hb HB4_18.out)
    have HB5_19 := Lib.hid (Grow.block hb HB5_18.out)
    have HB7_19 := Lib.hid (Grow.block hb HB7_18.out)
    have HB8_19 := Lib.hid (Grow.block hb HB8_18.out)
    have HB10_19 := Lib.hid (Grow.block hb HB10_18.out)
    have HB12_19 := Lib.hid (Grow.block hb HB12_18.out)
    have HI7_19 := Lib.hid ((HI7_18.out.below hb).more (hb).size)
    have HI8_19 := Lib.hid ((HI8_18.out.below hb).more (hb).size)
    have HI10_19 := Lib.hid ((HI10_18.out.below hb).more (hb).size)
    have HI12_19 := Lib.hid ((HI12_18.out.below hb).more (hb).size)
    clear HG18 HB3_18 hc3_18 HB4_18 hc4_18 HB5_18 hc5_18 HB7_18 hc7_18 HB8_18 hc8_18 HB10_18 hc10_18 HB12_18 hc12_18 HI7_18 HI8_18 HI10_18 HI12_18
    have hc3_19 := HB3_19.out.cell
    have hc4_19 := HB4_19.out.cell
    have hc5_19 := HB5_19.out.cell
    have hc7_19 := HB7_19.out.cell
    have hc8_19 := HB8_19.out.cell
    have hc10_19 := HB10_19.out.cell
    have hc12_19 := HB12_19.out.cell
    clear hb
    rcases HP.out with rfl | rfl | rfl
    · rcases HQ.out with rfl | rfl | rfl
      · obtain rfl : r = -1 := by have := HR1.out (by omega) (by omega); rcases HRM.out with h | h | h <;> omega
        go_wp2_with fail
        refine (HSB.out _ HG19.out).mono ?_
        rintro e w20 ⟨rfl, hb⟩
        have HG20 : Hid (Grow w w20) := HG19.out.trans hb
        have HB3_20 := Lib.hid (Grow.block hb HB3_19.out)
        have HB4_20 := Lib.hid (Grow.block hb HB4_19.out)
        have HB5_20 := Lib.hid (Grow.block hb HB5_19.out)
        have HB7_20 := Lib.hid (Grow.block hb HB7_19.out)
        have HB8_20 := Lib.hid (Grow.block hb HB8_19.out)
        have HB10_20 := Lib.hid (Grow.block hb HB10_19.out)
        have HB12_20 := Lib.hid (Grow.block hb HB12_19.out)
        have HI7_20 := Lib.hid ((HI7_19.out.below hb).more (hb).size)
        have HI8_20 := Lib.hid ((HI8_19.out.below hb).more (hb).size)
        have HI10_20 := Lib.hid ((HI10_19.out.below hb).more (hb).size)
        have HI12_20 := Lib.hid ((HI12_19.out.below hb).more (hb).size)
        clear HG19 HB3_19 hc3_19 HB4_19 hc4_19 HB5_19 hc5_19 HB7_19 hc7_19 HB8_19 hc8_19 HB10_19 hc10_19 HB12_19 hc12_19 HI7_19 HI8_19 HI10_19 HI12_19
        have hc3_20 := HB3_20.out.cell
        have hc4_20 := HB4_20.out.cell
        have hc5_20 := HB5_20.out.cell
        have hc7_20 := HB7_20.out.cell
        have hc8_20 := HB8_20.out.cell
        have hc10_20 := HB10_20.out.cell
        have hc12_20 := HB12_20.out.cell
        clear hb
        rw [show decide (a = b) = false by simp only [decide_eq_false_iff_not]; intro h; have := HZ.out.2 (.inl h); omega]
        go_wp2_with fail
        refine (HMB.out _ _ _ HI7_20.out HG20.out).mono ?_
        rintro e w21 ⟨rfl, hb⟩
        have HG21 : Hid (Grow w w21) := HG20.out.trans hb
        have HB3_21 := Lib.hid (Grow.block hb HB3_20.out)
        have HB4_21 := Lib.hid (Grow.block hb HB4_20.out)
        have HB5_21 := Lib.hid (Grow.block hb HB5_20.out)
        have HB7_21 := Lib.hid (Grow.block hb HB7_20.out)
        have HB8_21 := Lib.hid (Grow.block hb HB8_20.out)
        have HB10_21 := Lib.hid (Grow.block hb HB10_20.out)
        have HB12_21 := Lib.hid (Grow.block hb HB12_20.out)
        have HI7_21 := Lib.hid ((HI7_20.out.below hb).more (hb).size)
        have HI8_21 := Lib.hid ((HI8_20.out.below hb).more (hb).size)
        have HI10_21 := Lib.hid ((HI10_20.out.below hb).more (hb).size)
        have HI12_21 := Lib.hid ((HI12_20.out.below hb).more (hb).size)
        clear HG20 HB3_20 hc3_20 HB4_20 hc4_20 HB5_20 hc5_20 HB7_20 hc7_20 HB8_20 hc8_20 HB10_20 hc10_20 HB12_20 hc12_20 HI7_20 HI8_20 HI10_20 HI12_20
        have hc3_21 := HB3_21.out.cell
        have hc4_21 := HB4_21.out.cell
        have hc5_21 := HB5_21.out.cell
        have hc7_21 := HB7_21.out.cell
        have hc8_21 := HB8_21.out.cell
        have hc10_21 := HB10_21.out.cell
        have hc12_21 := HB12_21.out.cell
        clear hb
        rw [show decide (m = b) = false by simp only [decide_eq_false_iff_not]; intro h; have := HZ.out.2 (.inr h); omega]
        go_wp2_with fail
        refine (HWK.out _).mono ?_
        rintro e w22 ⟨rfl, hb⟩
        have HG22 : Hid (Grow w w22) := HG21.out.trans hb
        have HB3_22 := Lib.hid (Grow.block hb HB3_21.out)
        have HB4_22 := Lib.hid (Grow.block hb HB4_21.out)
        have HB5_22 := Lib.hid (Grow.block hb HB5_21.out)
        have HB7_22 := Lib.hid (Grow.block hb HB7_21.out)
        have HB8_22 := Lib.hid (Grow.block hb HB8_21.out)
        have HB10_22 := Lib.hid (Grow.block hb HB10_21.out)
        have HB12_22 := Lib.hid (Grow.block hb HB12_21.out)
        have HI7_22 := Lib.hid ((HI7_21.out.below hb).more (hb).size)
        have HI8_22 := Lib.hid ((HI8_21.out.below hb).more (hb).size)
        have HI10_22 := Lib.hid ((HI10_21.out.below hb).more (hb).size)
        have HI12_22 := Lib.hid ((HI12_21.out.below hb).more (hb).size)
        clear HG21 HB3_21 hc3_21 HB4_21 hc4_21 HB5_21 hc5_21 HB7_21 hc7_21 HB8_21 hc8_21 HB10_21 hc10_21 HB12_21 hc12_21 HI7_21 HI8_21 HI10_21 HI12_21
        have hc3_22 := HB3_22.out.cell
        have hc4_22 := HB4_22.out.cell
        have hc5_22 := HB5_22.out.cell
        have hc7_22 := HB7_22.out.cell
        have hc8_22 := HB8_22.out.cell
        have hc10_22 := HB10_22.out.cell
        have hc12_22 := HB12_22.out.cell
        clear hb
        go_wp2
        go_ret
        exact ⟨rfl, HG22.out⟩
      · obtain rfl : r = -1 := by have := HR1.out (by omega) (by omega); rcases HRM.out with h | h | h <;> omega
        go_wp2_with fail
        refine (HSB.out _ HG19.out).mono ?_
        rintro e w20 ⟨rfl, hb⟩
        have HG20 : Hid (Grow w w20) := HG19.out.trans hb
        have HB3_20 := Lib.hid (Grow.block hb HB3_19.out)
        have HB4_20 := Lib.hid (Grow.block hb HB4_19.out)
        have HB5_20 := Lib.hid (Grow.block hb HB5_19.out)
        have HB7_20 := Lib.hid (Grow.block hb HB7_19.out)
        have HB8_20 := Lib.hid (Grow.block hb HB8_19.out)
        have HB10_20 := Lib.hid (Grow.block hb HB10_19.out)
        have HB12_20 := Lib.hid (Grow.block hb HB12_19.out)
        have HI7_20 := Lib.hid ((HI7_19.out.below hb).more (hb).size)
        have HI8_20 := Lib.hid ((HI8_19.out.below hb).more (hb).size)
        have HI10_20 := Lib.hid ((HI10_19.out.below hb).more (hb).size)
        have HI12_20 := Lib.hid ((HI12_19.out.below hb).more (hb).size)
        clear HG19 HB3_19 hc3_19 HB4_19 hc4_19 HB5_19 hc5_19 HB7_19 hc7_19 HB8_19 hc8_19 HB10_19 hc10_19 HB12_19 hc12_19 HI7_19 HI8_19 HI10_19 HI12_19
        have hc3_20 := HB3_20.out.cell
        have hc4_20 := HB4_20.out.cell
        have hc5_20 := HB5_20.out.cell
        have hc7_20 := HB7_20.out.cell
        have hc8_20 := HB8_20.out.cell
        have hc10_20 := HB10_20.out.cell
        have hc12_20 := HB12_20.out.cell
        clear hb
        rw [show decide (a = b) = false by simp only [decide_eq_false_iff_not]; intro h; have := HZ.out.2 (.inl h); omega]
        go_wp2_with fail
        refine (HMB.out _ _ _ HI7_20.out HG20.out).mono ?_
        rintro e w21 ⟨rfl, hb⟩
        have HG21 : Hid (Grow w w21) := HG20.out.trans hb
        have HB3_21 := Lib.hid (Grow.block hb HB3_20.out)
        have HB4_21 := Lib.hid (Grow.block hb HB4_20.out)
        have HB5_21 := Lib.hid (Grow.block hb HB5_20.out)
        have HB7_21 := Lib.hid (Grow.block hb HB7_20.out)
        have HB8_21 := Lib.hid (Grow.block hb HB8_20.out)
        have HB10_21 := Lib.hid (Grow.block hb HB10_20.out)
        have HB12_21 := Lib.hid (Grow.block hb HB12_20.out)
        have HI7_21 := Lib.hid ((HI7_20.out.below hb).more (hb).size)
        have HI8_21 := Lib.hid ((HI8_20.out.below hb).more (hb).size)
        have HI10_21 := Lib.hid ((HI10_20.out.below hb).more (hb).size)
        have HI12_21 := Lib.hid ((HI12_20.out.below hb).more (hb).size)
        clear HG20 HB3_20 hc3_20 HB4_20 hc4_20 HB5_20 hc5_20 HB7_20 hc7_20 HB8_20 hc8_20 HB10_20 hc10_20 HB12_20 hc12_20 HI7_20 HI8_20 HI10_20 HI12_20
        have hc3_21 := HB3_21.out.cell
        have hc4_21 := HB4_21.out.cell
        have hc5_21 := HB5_21.out.cell
        have hc7_21 := HB7_21.out.cell
        have hc8_21 := HB8_21.out.cell
        have hc10_21 := HB10_21.out.cell
        have hc12_21 := HB12_21.out.cell
        clear hb
        rw [show decide (m = b) = false by simp only [decide_eq_false_iff_not]; intro h; have := HZ.out.2 (.inr h); omega]
        go_wp2_with fail
        refine (HWK.out _).mono ?_
        rintro e w22 ⟨rfl, hb⟩
        have HG22 : Hid (Grow w w22) := HG21.out.trans hb
        have HB3_22 := Lib.hid (Grow.block hb HB3_21.out)
        have HB4_22 := Lib.hid (Grow.block hb HB4_21.out)
        have HB5_22 := Lib.hid (Grow.block hb HB5_21.out)
        have HB7_22 := Lib.hid (Grow.block hb HB7_21.out)
        have HB8_22 := Lib.hid (Grow.block hb HB8_21.out)
        have HB10_22 := Lib.hid (Grow.block hb HB10_21.out)
        have HB12_22 := Lib.hid (Grow.block hb HB12_21.out)
        have HI7_22 := Lib.hid ((HI7_21.out.below hb).more (hb).size)
        have HI8_22 := Lib.hid ((HI8_21.out.below hb).more (hb).size)
        have HI10_22 := Lib.hid ((HI10_21.out.below hb).more (hb).size)
        have HI12_22 := Lib.hid ((HI12_21.out.below hb).more (hb).size)
        clear HG21 HB3_21 hc3_21 HB4_21 hc4_21 HB5_21 hc5_21 HB7_21 hc7_21 HB8_21 hc8_21 HB10_21 hc10_21 HB12_21 hc12_21 HI7_21 HI8_21 HI10_21 HI12_21
        have hc3_22 := HB3_22.out.cell
        have hc4_22 := HB4_22.out.cell
        have hc5_22 := HB5_22.out.cell
        have hc7_22 := HB7_22.out.cell
        have hc8_22 := HB8_22.out.cell
        have hc10_22 := HB10_22.out.cell
        have hc12_22 := HB12_22.out.cell
        clear hb
        go_wp2
        go_ret
        exact ⟨rfl, HG22.out⟩
      · skip
        go_wp2_with fail
        refine (HSB.out _ HG19.out).mono ?_
        rintro e w20 ⟨rfl, hb⟩
        have HG20 : Hid (Grow w w20) := HG19.out.trans hb
        have HB3_20 := Lib.hid (Grow.block hb HB3_19.out)
        have HB4_20 := Lib.hid (Grow.block hb HB4_19.out)
        have HB5_20 := Lib.hid (Grow.block hb HB5_19.out)
        have HB7_20 := Lib.hid (Grow.block hb HB7_19.out)
        have HB8_20 := Lib.hid (Grow.block hb HB8_19.out)
        have HB10_20 := Lib.hid (Grow.block hb HB10_19.out)
        have HB12_20 := Lib.hid (Grow.block hb HB12_19.out)
        have HI7_20 := Lib.hid ((HI7_19.out.below hb).more (hb).size)
        have HI8_20 := Lib.hid ((HI8_19.out.below hb).more (hb).size)
        have HI10_20 := Lib.hid ((HI10_19.out.below hb).more (hb).size)
        have HI12_20 := Lib.hid ((HI12_19.out.below hb).more (hb).size)
        clear HG19 HB3_19 hc3_19 HB4_19 hc4_19 HB5_19 hc5_19 HB7_19 hc7_19 HB8_19 hc8_19 HB10_19 hc10_19 HB12_19 hc12_19 HI7_19 HI8_19 HI10_19 HI12_19
        have hc3_20 := HB3_20.out.cell
        have hc4_20 := HB4_20.out.cell
        have hc5_20 := HB5_20.out.cell
        have hc7_20 := HB7_20.out.cell
        have hc8_20 := HB8_20.out.cell
        have hc10_20 := HB10_20.out.cell
        have hc12_20 := HB12_20.out.cell
        clear hb
        rw [show decide (a = b) = false by simp only [decide_eq_false_iff_not]; intro h; have := HZ.out.2 (.inl h); omega]
        go_wp2_with fail
        refine (HMB.out _ _ _ HI7_20.out HG20.out).mono ?_
        rintro e w21 ⟨rfl, hb⟩
        have HG21 : Hid (Grow w w21) := HG20.out.trans hb
        have HB3_21 := Lib.hid (Grow.block hb HB3_20.out)
        have HB4_21 := Lib.hid (Grow.block hb HB4_20.out)
        have HB5_21 := Lib.hid (Grow.block hb HB5_20.out)
        have HB7_21 := Lib.hid (Grow.block hb HB7_20.out)
        have HB8_21 := Lib.hid (Grow.block hb HB8_20.out)
        have HB10_21 := Lib.hid (Grow.block hb HB10_20.out)
        have HB12_21 := Lib.hid (Grow.block hb HB12_20.out)
        have HI7_21 := Lib.hid ((HI7_20.out.below hb).more (hb).size)
        have HI8_21 := Lib.hid ((HI8_20.out.below hb).more (hb).size)
        have HI10_21 := Lib.hid ((HI10_20.out.below hb).more (hb).size)
        have HI12_21 := Lib.hid ((HI12_20.out.below hb).more (hb).size)
        clear HG20 HB3_20 hc3_20 HB4_20 hc4_20 HB5_20 hc5_20 HB7_20 hc7_20 HB8_20 hc8_20 HB10_20 hc10_20 HB12_20 hc12_20 HI7_20 HI8_20 HI10_20 HI12_20
        have hc3_21 := HB3_21.out.cell
        have hc4_21 := HB4_21.out.cell
        have hc5_21 := HB5_21.out.cell
        have hc7_21 := HB7_21.out.cell
        have hc8_21 := HB8_21.out.cell
        have hc10_21 := HB10_21.out.cell
        have hc12_21 := HB12_21.out.cell
        clear hb
        rw [show decide (m = b) = false by simp only [decide_eq_false_iff_not]; intro h; have := HZ.out.2 (.inr h); omega]
        go_wp2_with fail
        refine (HWK.out _).mono ?_
        rintro e w22 ⟨rfl, hb⟩
        have HG22 : Hid (Grow w w22) := HG21.out.trans hb
        have HB3_22 := Lib.hid (Grow.block hb HB3_21.out)
        have HB4_22 := Lib.hid (Grow.block hb HB4_21.out)
        have HB5_22 := Lib.hid (Grow.block hb HB5_21.out)
        have HB7_22 := Lib.hid (Grow.block hb HB7_21.out)
        have HB8_22 := Lib.hid (Grow.block hb HB8_21.out)
        have HB10_22 := Lib.hid (Grow.block hb HB10_21.out)
        have HB12_22 := Lib.hid (Grow.block hb HB12_21.out)
        have HI7_22 := Lib.hid ((HI7_21.out.below hb).more (hb).size)
        have HI8_22 := Lib.hid ((HI8_21.out.below hb).more (hb).size)
        have HI10_22 := Lib.hid ((HI10_21.out.below hb).more (hb).size)
        have HI12_22 := Lib.hid ((HI12_21.out.below hb).more (hb).size)
        clear HG21 HB3_21 hc3_21 HB4_21 hc4_21 HB5_21 hc5_21 HB7_21 hc7_21 HB8_21 hc8_21 HB10_21 hc10_21 HB12_21 hc12_21 HI7_21 HI8_21 HI10_21 HI12_21
        have hc3_22 := HB3_22.out.cell
        have hc4_22 := HB4_22.out.cell
        have hc5_22 := HB5_22.out.cell
        have hc7_22 := HB7_22.out.cell
        have hc8_22 := HB8_22.out.cell
        have hc10_22 := HB10_22.out.cell
        have hc12_22 := HB12_22.out.cell
        clear hb
        go_wp2
        go_ret
        exact ⟨rfl, HG22.out⟩
    · rcases HQ.out with rfl | rfl | rfl
      · obtain rfl : r = -1 := by have := HR2.out (by omega) (by omega); rcases HRM.out with h | h | h <;> omega
        by_cases hab : a = b
        · have HE := Lib.hid (show decide (a = b) = true by simpa using hab)
          clear hab
          go_wp2_with fail
          refine (HSB.out _ HG19.out).mono ?_
          rintro e w20 ⟨rfl, hb⟩
          have HG20 : Hid (Grow w w20) := HG19.out.trans hb
          have HB3_20 := Lib.hid (Grow.block hb HB3_19.out)
          have HB4_20 := Lib.hid (Grow.block hb HB4_19.out)
          have HB5_20 := Lib.hid (Grow.block hb HB5_19.out)
          have HB7_20 := Lib.hid (Grow.block hb HB7_19.out)
          have HB8_20 := Lib.hid (Grow.block hb HB8_19.out)
          have HB10_20 := Lib.hid (Grow.block hb HB10_19.out)
          have HB12_20 := Lib.hid (Grow.block hb HB12_19.out)
          have HI7_20 := Lib.hid ((HI7_19.out.below hb).more (hb).size)
          have HI8_20 := Lib.hid ((HI8_19.out.below hb).more (hb).size)
          have HI10_20 := Lib.hid ((HI10_19.out.below hb).more (hb).size)
          have HI12_20 := Lib.hid ((HI12_19.out.below hb).more (hb).size)
          clear HG19 HB3_19 hc3_19 HB4_19 hc4_19 HB5_19 hc5_19 HB7_19 hc7_19 HB8_19 hc8_19 HB10_19 hc10_19 HB12_19 hc12_19 HI7_19 HI8_19 HI10_19 HI12_19
          have hc3_20 := HB3_20.out.cell
          have hc4_20 := HB4_20.out.cell
          have hc5_20 := HB5_20.out.cell
          have hc7_20 := HB7_20.out.cell
          have hc8_20 := HB8_20.out.cell
          have hc10_20 := HB10_20.out.cell
          have hc12_20 := HB12_20.out.cell
          clear hb
          rw [HE.out]
          go_wp2_with fail
          refine (HWK.out _).mono ?_
          rintro e w21 ⟨rfl, hb⟩
          have HG21 : Hid (Grow w w21) := HG20.out.trans hb
          have HB3_21 := Lib.hid (Grow.block hb HB3_20.out)
          have HB4_21 := Lib.hid (Grow.block hb HB4_20.out)
          have HB5_21 := Lib.hid (Grow.block hb HB5_20.out)
          have HB7_21 := Lib.hid (Grow.block hb HB7_20.out)
          have HB8_21 := Lib.hid (Grow.block hb HB8_20.out)
          have HB10_21 := Lib.hid (Grow.block hb HB10_20.out)
          have HB12_21 := Lib.hid (Grow.block hb HB12_20.out)
          have HI7_21 := Lib.hid ((HI7_20.out.below hb).more (hb).size)
          have HI8_21 := Lib.hid ((HI8_20.out.below hb).more (hb).size)
          have HI10_21 := Lib.hid ((HI10_20.out.below hb).more (hb).size)
          have HI12_21 := Lib.hid ((HI12_20.out.below hb).more (hb).size)
          clear HG20 HB3_20 hc3_20 HB4_20 hc4_20 HB5_20 hc5_20 HB7_20 hc7_20 HB8_20 hc8_20 HB10_20 hc10_20 HB12_20 hc12_20 HI7_20 HI8_20 HI10_20 HI12_20
          have hc3_21 := HB3_21.out.cell
          have hc4_21 := HB4_21.out.cell
          have hc5_21 := HB5_21.out.cell
          have hc7_21 := HB7_21.out.cell
          have hc8_21 := HB8_21.out.cell
          have hc10_21 := HB10_21.out.cell
          have hc12_21 := HB12_21.out.cell
          clear hb
          go_wp2
          go_ret
          exact ⟨rfl, HG21.out⟩
        · have HE := Lib.hid (show decide (a = b) = false by simpa using hab)
          have HE2 := Lib.hid (show decide (m = b) = true by have := (HZ.out.1 rfl).resolve_left hab; simpa using this)
          clear hab
          go_wp2_with fail
          refine (HSB.out _ HG19.out).mono ?_
          rintro e w20 ⟨rfl, hb⟩
          have HG20 : Hid (Grow w w20) := HG19.out.trans hb
          have HB3_20 := Lib.hid (Grow.block hb HB3_19.out)
          have HB4_20 := Lib.hid (Grow.block hb HB4_19.out)
          have HB5_20 := Lib.hid (Grow.block hb HB5_19.out)
          have HB7_20 := Lib.hid (Grow.block hb HB7_19.out)
          have HB8_20 := Lib.hid (Grow.block hb HB8_19.out)
          have HB10_20 := Lib.hid (Grow.block hb HB10_19.out)
          have HB12_20 := Lib.hid (Grow.block hb HB12_19.out)
          have HI7_20 := Lib.hid ((HI7_19.out.below hb).more (hb).size)
          have HI8_20 := Lib.hid ((HI8_19.out.below hb).more (hb).size)
          have HI10_20 := Lib.hid ((HI10_19.out.below hb).more (hb).size)
          have HI12_20 := Lib.hid ((HI12_19.out.below hb).more (hb).size)
          clear HG19 HB3_19 hc3_19 HB4_19 hc4_19 HB5_19 hc5_19 HB7_19 hc7_19 HB8_19 hc8_19 HB10_19 hc10_19 HB12_19 hc12_19 HI7_19 HI8_19 HI10_19 HI12_19
          have hc3_20 := HB3_20.out.cell
          have hc4_20 := HB4_20.out.cell
          have hc5_20 := HB5_20.out.cell
          have hc7_20 := HB7_20.out.cell
          have hc8_20 := HB8_20.out.cell
          have hc10_20 := HB10_20.out.cell
          have hc12_20 := HB12_20.out.cell
          clear hb
          rw [HE.out]
          go_wp2_with fail
          refine (HMB.out _ _ _ HI7_20.out HG20.out).mono ?_
          rintro e w21 ⟨rfl, hb⟩
          have HG21 : Hid (Grow w w21) := HG20.out.trans hb
          have HB3_21 := Lib.hid (Grow.block hb HB3_20.out)
          have HB4_21 := Lib.hid (Grow.block hb HB4_20.out)
          have HB5_21 := Lib.hid (Grow.block hb HB5_20.out)
          have HB7_21 := Lib.hid (Grow.block hb HB7_20.out)
          have HB8_21 := Lib.hid (Grow.block hb HB8_20.out)
          have HB10_21 := Lib.hid (Grow.block hb HB10_20.out)
          have HB12_21 := Lib.hid (Grow.block hb HB12_20.out)
          have HI7_21 := Lib.hid ((HI7_20.out.below hb).more (hb).size)
          have HI8_21 := Lib.hid ((HI8_20.out.below hb).more (hb).size)
          have HI10_21 := Lib.hid ((HI10_20.out.below hb).more (hb).size)
          have HI12_21 := Lib.hid ((HI12_20.out.below hb).more (hb).size)
          clear HG20 HB3_20 hc3_20 HB4_20 hc4_20 HB5_20 hc5_20 HB7_20 hc7_20 HB8_20 hc8_20 HB10_20 hc10_20 HB12_20 hc12_20 HI7_20 HI8_20 HI10_20 HI12_20
          have hc3_21 := HB3_21.out.cell
          have hc4_21 := HB4_21.out.cell
          have hc5_21 := HB5_21.out.cell
          have hc7_21 := HB7_21.out.cell
          have hc8_21 := HB8_21.out.cell
          have hc10_21 := HB10_21.out.cell
          have hc12_21 := HB12_21.out.cell
          clear hb
          rw [HE2.out]
          go_wp2_with fail
          refine (HWK.out _).mono ?_
          rintro e w22 ⟨rfl, hb⟩
          have HG22 : Hid (Grow w w22) := HG21.out.trans hb
          have HB3_22 := Lib.hid (Grow.block hb HB3_21.out)
          have HB4_22 := Lib.hid (Grow.block hb HB4_21.out)
          have HB5_22 := Lib.hid (Grow.block hb HB5_21.out)
          have HB7_22 := Lib.hid (Grow.block hb HB7_21.out)
          have HB8_22 := Lib.hid (Grow.block hb HB8_21.out)
          have HB10_22 := Lib.hid (Grow.block hb HB10_21.out)
          have HB12_22 := Lib.hid (Grow.block hb HB12_21.out)
          have HI7_22 := Lib.hid ((HI7_21.out.below hb).more (hb).size)
          have HI8_22 := Lib.hid ((HI8_21.out.below hb).more (hb).size)
          have HI10_22 := Lib.hid ((HI10_21.out.below hb).more (hb).size)
          have HI12_22 := Lib.hid ((HI12_21.out.below hb).more (hb).size)
          clear HG21 HB3_21 hc3_21 HB4_21 hc4_21 HB5_21 hc5_21 HB7_21 hc7_21 HB8_21 hc8_21 HB10_21 hc10_21 HB12_21 hc12_21 HI7_21 HI8_21 HI10_21 HI12_21
          have hc3_22 := HB3_22.out.cell
          have hc4_22 := HB4_22.out.cell
          have hc5_22 := HB5_22.out.cell
          have hc7_22 := HB7_22.out.cell
          have hc8_22 := HB8_22.out.cell
          have hc10_22 := HB10_22.out.cell
          have hc12_22 := HB12_22.out.cell
          clear hb
          go_wp2
          go_ret
          exact ⟨rfl, HG22.out⟩
      · obtain rfl : r = 0 := HR0.out rfl rfl
        by_cases hab : a = b
        · have HE := Lib.hid (show decide (a = b) = true by simpa using hab)
          clear hab
          go_wp2_with fail
          refine (HSB.out _ HG19.out).mono ?_
          rintro e w20 ⟨rfl, hb⟩
          have HG20 : Hid (Grow w w20) := HG19.out.trans hb
          have HB3_20 := Lib.hid (Grow.block hb HB3_19.out)
          have HB4_20 := Lib.hid (Grow.block hb HB4_19.out)
          have HB5_20 := Lib.hid (Grow.block hb HB5_19.out)
          have HB7_20 := Lib.hid (Grow.block hb HB7_19.out)
          have HB8_20 := Lib.hid (Grow.block hb HB8_19.out)
          have HB10_20 := Lib.hid (Grow.block hb HB10_19.out)
          have HB12_20 := Lib.hid (Grow.block hb HB12_19.out)
          have HI7_20 := Lib.hid ((HI7_19.out.below hb).more (hb).size)
          have HI8_20 := Lib.hid ((HI8_19.out.below hb).more (hb).size)
          have HI10_20 := Lib.hid ((HI10_19.out.below hb).more (hb).size)
          have HI12_20 := Lib.hid ((HI12_19.out.below hb).more (hb).size)
          clear HG19 HB3_19 hc3_19 HB4_19 hc4_19 HB5_19 hc5_19 HB7_19 hc7_19 HB8_19 hc8_19 HB10_19 hc10_19 HB12_19 hc12_19 HI7_19 HI8_19 HI10_19 HI12_19
          have hc3_20 := HB3_20.out.cell
          have hc4_20 := HB4_20.out.cell
          have hc5_20 := HB5_20.out.cell
          have hc7_20 := HB7_20.out.cell
          have hc8_20 := HB8_20.out.cell
          have hc10_20 := HB10_20.out.cell
          have hc12_20 := HB12_20.out.cell
          clear hb
          rw [HE.out]
          go_wp2_with fail
          refine (HWK.out _).mono ?_
          rintro e w21 ⟨rfl, hb⟩
          have HG21 : Hid (Grow w w21) := HG20.out.trans hb
          have HB3_21 := Lib.hid (Grow.block hb HB3_20.out)
          have HB4_21 := Lib.hid (Grow.block hb HB4_20.out)
          have HB5_21 := Lib.hid (Grow.block hb HB5_20.out)
          have HB7_21 := Lib.hid (Grow.block hb HB7_20.out)
          have HB8_21 := Lib.hid (Grow.block hb HB8_20.out)
          have HB10_21 := Lib.hid (Grow.block hb HB10_20.out)
          have HB12_21 := Lib.hid (Grow.block hb HB12_20.out)
          have HI7_21 := Lib.hid ((HI7_20.out.below hb).more (hb).size)
          have HI8_21 := Lib.hid ((HI8_20.out.below hb).more (hb).size)
          have HI10_21 := Lib.hid ((HI10_20.out.below hb).more (hb).size)
          have HI12_21 := Lib.hid ((HI12_20.out.below hb).more (hb).size)
          clear HG20 HB3_20 hc3_20 HB4_20 hc4_20 HB5_20 hc5_20 HB7_20 hc7_20 HB8_20 hc8_20 HB10_20 hc10_20 HB12_20 hc12_20 HI7_20 HI8_20 HI10_20 HI12_20
          have hc3_21 := HB3_21.out.cell
          have hc4_21 := HB4_21.out.cell
          have hc5_21 := HB5_21.out.cell
          have hc7_21 := HB7_21.out.cell
          have hc8_21 := HB8_21.out.cell
          have hc10_21 := HB10_21.out.cell
          have hc12_21 := HB12_21.out.cell
          clear hb
          go_wp2
          go_ret
          exact ⟨rfl, HG21.out⟩
        · have HE := Lib.hid (show decide (a = b) = false by simpa using hab)
          have HE2 := Lib.hid (show decide (m = b) = true by have := (HZ.out.1 rfl).resolve_left hab; simpa using this)
          clear hab
          go_wp2_with fail
          refine (HSB.out _ HG19.out).mono ?_
          rintro e w20 ⟨rfl, hb⟩
          have HG20 : Hid (Grow w w20) := HG19.out.trans hb
          have HB3_20 := Lib.hid (Grow.block hb HB3_19.out)
          have HB4_20 := Lib.hid (Grow.block hb HB4_19.out)
          have HB5_20 := Lib.hid (Grow.block hb HB5_19.out)
          have HB7_20 := Lib.hid (Grow.block hb HB7_19.out)
          have HB8_20 := Lib.hid (Grow.block hb HB8_19.out)
          have HB10_20 := Lib.hid (Grow.block hb HB10_19.out)
          have HB12_20 := Lib.hid (Grow.block hb HB12_19.out)
          have HI7_20 := Lib.hid ((HI7_19.out.below hb).more (hb).size)
          have HI8_20 := Lib.hid ((HI8_19.out.below hb).more (hb).size)
          have HI10_20 := Lib.hid ((HI10_19.out.below hb).more (hb).size)
          have HI12_20 := Lib.hid ((HI12_19.out.below hb).more (hb).size)
          clear HG19 HB3_19 hc3_19 HB4_19 hc4_19 HB5_19 hc5_19 HB7_19 hc7_19 HB8_19 hc8_19 HB10_19 hc10_19 HB12_19 hc12_19 HI7_19 HI8_19 HI10_19 HI12_19
          have hc3_20 := HB3_20.out.cell
          have hc4_20 := HB4_20.out.cell
          have hc5_20 := HB5_20.out.cell
          have hc7_20 := HB7_20.out.cell
          have hc8_20 := HB8_20.out.cell
          have hc10_20 := HB10_20.out.cell
          have hc12_20 := HB12_20.out.cell
          clear hb
          rw [HE.out]
          go_wp2_with fail
          refine (HMB.out _ _ _ HI7_20.out HG20.out).mono ?_
          rintro e w21 ⟨rfl, hb⟩
          have HG21 : Hid (Grow w w21) := HG20.out.trans hb
          have HB3_21 := Lib.hid (Grow.block hb HB3_20.out)
          have HB4_21 := Lib.hid (Grow.block hb HB4_20.out)
          have HB5_21 := Lib.hid (Grow.block hb HB5_20.out)
          have HB7_21 := Lib.hid (Grow.block hb HB7_20.out)
          have HB8_21 := Lib.hid (Grow.block hb HB8_20.out)
          have HB10_21 := Lib.hid (Grow.block hb HB10_20.out)
          have HB12_21 := Lib.hid (Grow.block hb HB12_20.out)
          have HI7_21 := Lib.hid ((HI7_20.out.below hb).more (hb).size)
          have HI8_21 := Lib.hid ((HI8_20.out.below hb).more (hb).size)
          have HI10_21 := Lib.hid ((HI10_20.out.below hb).more (hb).size)
          have HI12_21 := Lib.hid ((HI12_20.out.below hb).more (hb).size)
          clear HG20 HB3_20 hc3_20 HB4_20 hc4_20 HB5_20 hc5_20 HB7_20 hc7_20 HB8_20 hc8_20 HB10_20 hc10_20 HB12_20 hc12_20 HI7_20 HI8_20 HI10_20 HI12_20
          have hc3_21 := HB3_21.out.cell
          have hc4_21 := HB4_21.out.cell
          have hc5_21 := HB5_21.out.cell
          have hc7_21 := HB7_21.out.cell
          have hc8_21 := HB8_21.out.cell
          have hc10_21 := HB10_21.out.cell
          have hc12_21 := HB12_21.out.cell
          clear hb
          rw [HE2.out]
          go_wp2_with fail
          refine (HWK.out _).mono ?_
          rintro e w22 ⟨rfl, hb⟩
          have HG22 : Hid (Grow w w22) := HG21.out.trans hb
          have HB3_22 := Lib.hid (Grow.block hb HB3_21.out)
          have HB4_22 := Lib.hid (Grow.block hb HB4_21.out)
          have HB5_22 := Lib.hid (Grow.block hb HB5_21.out)
          have HB7_22 := Lib.hid (Grow.block hb HB7_21.out)
          have HB8_22 := Lib.hid (Grow.block hb HB8_21.out)
          have HB10_22 := Lib.hid (Grow.block hb HB10_21.out)
          have HB12_22 := Lib.hid (Grow.block hb HB12_21.out)
          have HI7_22 := Lib.hid ((HI7_21.out.below hb).more (hb).size)
          have HI8_22 := Lib.hid ((HI8_21.out.below hb).more (hb).size)
          have HI10_22 := Lib.hid ((HI10_21.out.below hb).more (hb).size)
          have HI12_22 := Lib.hid ((HI12_21.out.below hb).more (hb).size)
          clear HG21 HB3_21 hc3_21 HB4_21 hc4_21 HB5_21 hc5_21 HB7_21 hc7_21 HB8_21 hc8_21 HB10_21 hc10_21 HB12_21 hc12_21 HI7_21 HI8_21 HI10_21 HI12_21
          have hc3_22 := HB3_22.out.cell
          have hc4_22 := HB4_22.out.cell
          have hc5_22 := HB5_22.out.cell
          have hc7_22 := HB7_22.out.cell
          have hc8_22 := HB8_22.out.cell
          have hc10_22 := HB10_22.out.cell
          have hc12_22 := HB12_22.out.cell
          clear hb
          go_wp2
          go_ret
          exact ⟨rfl, HG22.out⟩
      · skip
        by_cases hab : a = b
        · have HE := Lib.hid (show decide (a = b) = true by simpa using hab)
          clear hab
          go_wp2_with fail
          refine (HSB.out _ HG19.out).mono ?_
          rintro e w20 ⟨rfl, hb⟩
          have HG20 : Hid (Grow w w20) := HG19.out.trans hb
          have HB3_20 := Lib.hid (Grow.block hb HB3_19.out)
          have HB4_20 := Lib.hid (Grow.block hb HB4_19.out)
          have HB5_20 := Lib.hid (Grow.block hb HB5_19.out)
          have HB7_20 := Lib.hid (Grow.block hb HB7_19.out)
          have HB8_20 := Lib.hid (Grow.block hb HB8_19.out)
          have HB10_20 := Lib.hid (Grow.block hb HB10_19.out)
          have HB12_20 := Lib.hid (Grow.block hb HB12_19.out)
          have HI7_20 := Lib.hid ((HI7_19.out.below hb).more (hb).size)
          have HI8_20 := Lib.hid ((HI8_19.out.below hb).more (hb).size)
          have HI10_20 := Lib.hid ((HI10_19.out.below hb).more (hb).size)
          have HI12_20 := Lib.hid ((HI12_19.out.below hb).more (hb).size)
          clear HG19 HB3_19 hc3_19 HB4_19 hc4_19 HB5_19 hc5_19 HB7_19 hc7_19 HB8_19 hc8_19 HB10_19 hc10_19 HB12_19 hc12_19 HI7_19 HI8_19 HI10_19 HI12_19
          have hc3_20 := HB3_20.out.cell
          have hc4_20 := HB4_20.out.cell
          have hc5_20 := HB5_20.out.cell
          have hc7_20 := HB7_20.out.cell
          have hc8_20 := HB8_20.out.cell
          have hc10_20 := HB10_20.out.cell
          have hc12_20 := HB12_20.out.cell
          clear hb
          rw [HE.out]
          go_wp2_with fail
          refine (HWK.out _).mono ?_
          rintro e w21 ⟨rfl, hb⟩
          have HG21 : Hid (Grow w w21) := HG20.out.trans hb
          have HB3_21 := Lib.hid (Grow.block hb HB3_20.out)
          have HB4_21 := Lib.hid (Grow.block hb HB4_20.out)
          have HB5_21 := Lib.hid (Grow.block hb HB5_20.out)
          have HB7_21 := Lib.hid (Grow.block hb HB7_20.out)
          have HB8_21 := Lib.hid (Grow.block hb HB8_20.out)
          have HB10_21 := Lib.hid (Grow.block hb HB10_20.out)
          have HB12_21 := Lib.hid (Grow.block hb HB12_20.out)
          have HI7_21 := Lib.hid ((HI7_20.out.below hb).more (hb).size)
          have HI8_21 := Lib.hid ((HI8_20.out.below hb).more (hb).size)
          have HI10_21 := Lib.hid ((HI10_20.out.below hb).more (hb).size)
          have HI12_21 := Lib.hid ((HI12_20.out.below hb).more (hb).size)
          clear HG20 HB3_20 hc3_20 HB4_20 hc4_20 HB5_20 hc5_20 HB7_20 hc7_20 HB8_20 hc8_20 HB10_20 hc10_20 HB12_20 hc12_20 HI7_20 HI8_20 HI10_20 HI12_20
          have hc3_21 := HB3_21.out.cell
          have hc4_21 := HB4_21.out.cell
          have hc5_21 := HB5_21.out.cell
          have hc7_21 := HB7_21.out.cell
          have hc8_21 := HB8_21.out.cell
          have hc10_21 := HB10_21.out.cell
          have hc12_21 := HB12_21.out.cell
          clear hb
          go_wp2
          go_ret
          exact ⟨rfl, HG21.out⟩
        · have HE := Lib.hid (show decide (a = b) = false by simpa using hab)
          have HE2 := Lib.hid (show decide (m = b) = true by have := (HZ.out.1 rfl).resolve_left hab; simpa using this)
          clear hab
          go_wp2_with fail
          refine (HSB.out _ HG19.out).mono ?_
          rintro e w20 ⟨rfl, hb⟩
          have HG20 : Hid (Grow w w20) := HG19.out.trans hb
          have HB3_20 := Lib.hid (Grow.block hb HB3_19.out)
          have HB4_20 := Lib.hid (Grow.block hb HB4_19.out)
          have HB5_20 := Lib.hid (Grow.block hb HB5_19.out)
          have HB7_20 := Lib.hid (Grow.block hb HB7_19.out)
          have HB8_20 := Lib.hid (Grow.block hb HB8_19.out)
          have HB10_20 := Lib.hid (Grow.block hb HB10_19.out)
          have HB12_20 := Lib.hid (Grow.block hb HB12_19.out)
          have HI7_20 := Lib.hid ((HI7_19.out.below hb).more (hb).size)
          have HI8_20 := Lib.hid ((HI8_19.out.below hb).more (hb).size)
          have HI10_20 := Lib.hid ((HI10_19.out.below hb).more (hb).size)
          have HI12_20 := Lib.hid ((HI12_19.out.below hb).more (hb).size)
          clear HG19 HB3_19 hc3_19 HB4_19 hc4_19 HB5_19 hc5_19 HB7_19 hc7_19 HB8_19 hc8_19 HB10_19 hc10_19 HB12_19 hc12_19 HI7_19 HI8_19 HI10_19 HI12_19
          have hc3_20 := HB3_20.out.cell
          have hc4_20 := HB4_20.out.cell
          have hc5_20 := HB5_20.out.cell
          have hc7_20 := HB7_20.out.cell
          have hc8_20 := HB8_20.out.cell
          have hc10_20 := HB10_20.out.cell
          have hc12_20 := HB12_20.out.cell
          clear hb
          rw [HE.out]
          go_wp2_with fail
          refine (HMB.out _ _ _ HI7_20.out HG20.out).mono ?_
          rintro e w21 ⟨rfl, hb⟩
          have HG21 : Hid (Grow w w21) := HG20.out.trans hb
          have HB3_21 := Lib.hid (Grow.block hb HB3_20.out)
          have HB4_21 := Lib.hid (Grow.block hb HB4_20.out)
          have HB5_21 := Lib.hid (Grow.block hb HB5_20.out)
          have HB7_21 := Lib.hid (Grow.block hb HB7_20.out)
          have HB8_21 := Lib.hid (Grow.block hb HB8_20.out)
          have HB10_21 := Lib.hid (Grow.block hb HB10_20.out)
          have HB12_21 := Lib.hid (Grow.block hb HB12_20.out)
          have HI7_21 := Lib.hid ((HI7_20.out.below hb).more (hb).size)
          have HI8_21 := Lib.hid ((HI8_20.out.below hb).more (hb).size)
          have HI10_21 := Lib.hid ((HI10_20.out.below hb).more (hb).size)
          have HI12_21 := Lib.hid ((HI12_20.out.below hb).more (hb).size)
          clear HG20 HB3_20 hc3_20 HB4_20 hc4_20 HB5_20 hc5_20 HB7_20 hc7_20 HB8_20 hc8_20 HB10_20 hc10_20 HB12_20 hc12_20 HI7_20 HI8_20 HI10_20 HI12_20
          have hc3_21 := HB3_21.out.cell
          have hc4_21 := HB4_21.out.cell
          have hc5_21 := HB5_21.out.cell
          have hc7_21 := HB7_21.out.cell
          have hc8_21 := HB8_21.out.cell
          have hc10_21 := HB10_21.out.cell
          have hc12_21 := HB12_21.out.cell
          clear hb
          rw [HE2.out]
          go_wp2_with fail
          refine (HWK.out _).mono ?_
          rintro e w22 ⟨rfl, hb⟩
          have HG22 : Hid (Grow w w22) := HG21.out.trans hb
          have HB3_22 := Lib.hid (Grow.block hb HB3_21.out)
          have HB4_22 := Lib.hid (Grow.block hb HB4_21.out)
          have HB5_22 := Lib.hid (Grow.block hb HB5_21.out)
          have HB7_22 := Lib.hid (Grow.block hb HB7_21.out)
          have HB8_22 := Lib.hid (Grow.block hb HB8_21.out)
          have HB10_22 := Lib.hid (Grow.block hb HB10_21.out)
          have HB12_22 := Lib.hid (Grow.block hb HB12_21.out)
          have HI7_22 := Lib.hid ((HI7_21.out.below hb).more (hb).size)
          have HI8_22 := Lib.hid ((HI8_21.out.below hb).more (hb).size)
          have HI10_22 := Lib.hid ((HI10_21.out.below hb).more (hb).size)
          have HI12_22 := Lib.hid ((HI12_21.out.below hb).more (hb).size)
          clear HG21 HB3_21 hc3_21 HB4_21 hc4_21 HB5_21 hc5_21 HB7_21 hc7_21 HB8_21 hc8_21 HB10_21 hc10_21 HB12_21 hc12_21 HI7_21 HI8_21 HI10_21 HI12_21
          have hc3_22 := HB3_22.out.cell
          have hc4_22 := HB4_22.out.cell
          have hc5_22 := HB5_22.out.cell
          have hc7_22 := HB7_22.out.cell
          have hc8_22 := HB8_22.out.cell
          have hc10_22 := HB10_22.out.cell
          have hc12_22 := HB12_22.out.cell
          clear hb
          go_wp2
          go_ret
          exact ⟨rfl, HG22.out⟩
    · skip
      go_wp2_with fail
      refine (HSB.out _ HG19.out).mono ?_
      rintro e w20 ⟨rfl, hb⟩
      have HG20 : Hid (Grow w w20) := HG19.out.trans hb
      have HB3_20 := Lib.hid (Grow.block hb HB3_19.out)
      have HB4_20 := Lib.hid (Grow.block hb HB4_19.out)
      have HB5_20 := Lib.hid (Grow.block hb HB5_19.out)
      have HB7_20 := Lib.hid (Grow.block hb HB7_19.out)
      have HB8_20 := Lib.hid (Grow.block hb HB8_19.out)
      have HB10_20 := Lib.hid (Grow.block hb HB10_19.out)
      have HB12_20 := Lib.hid (Grow.block hb HB12_19.out)
      have HI7_20 := Lib.hid ((HI7_19.out.below hb).more (hb).size)
      have HI8_20 := Lib.hid ((HI8_19.out.below hb).more (hb).size)
      have HI10_20 := Lib.hid ((HI10_19.out.below hb).more (hb).size)
      have HI12_20 := Lib.hid ((HI12_19.out.below hb).more (hb).size)
      clear HG19 HB3_19 hc3_19 HB4_19 hc4_19 HB5_19 hc5_19 HB7_19 hc7_19 HB8_19 hc8_19 HB10_19 hc10_19 HB12_19 hc12_19 HI7_19 HI8_19 HI10_19 HI12_19
      have hc3_20 := HB3_20.out.cell
      have hc4_20 := HB4_20.out.cell
      have hc5_20 := HB5_20.out.cell
      have hc7_20 := HB7_20.out.cell
      have hc8_20 := HB8_20.out.cell
      have hc10_20 := HB10_20.out.cell
      have hc12_20 := HB12_20.out.cell
      clear hb
      rw [show decide (a = b) = false by simp only [decide_eq_false_iff_not]; intro h; have := HZ.out.2 (.inl h); omega]
      go_wp2_with fail
      refine (HMB.out _ _ _ HI7_20.out HG20.out).mono ?_
      rintro e w21 ⟨rfl, hb⟩
      have HG21 : Hid (Grow w w21) := HG20.out.trans hb
      have HB3_21 := Lib.hid (Grow.block hb HB3_20.out)
      have HB4_21 := Lib.hid (Grow.block hb HB4_20.out)
      have HB5_21 := Lib.hid (Grow.block hb HB5_20.out)
      have HB7_21 := Lib.hid (Grow.block hb HB7_20.out)
      have HB8_21 := Lib.hid (Grow.block hb HB8_20.out)
      have HB10_21 := Lib.hid (Grow.block hb HB10_20.out)
      have HB12_21 := Lib.hid (Grow.block hb HB12_20.out)
      have HI7_21 := Lib.hid ((HI7_20.out.below hb).more (hb).size)
      have HI8_21 := Lib.hid ((HI8_20.out.below hb).more (hb).size)
      have HI10_21 := Lib.hid ((HI10_20.out.below hb).more (hb).size)
      have HI12_21 := Lib.hid ((HI12_20.out.below hb).more (hb).size)
      clear HG20 HB3_20 hc3_20 HB4_20 hc4_20 HB5_20 hc5_20 HB7_20 hc7_20 HB8_20 hc8_20 HB10_20 hc10_20 HB12_20 hc12_20 HI7_20 HI8_20 HI10_20 HI12_20
      have hc3_21 := HB3_21.out.cell
      have hc4_21 := HB4_21.out.cell
      have hc5_21 := HB5_21.out.cell
      have hc7_21 := HB7_21.out.cell
      have hc8_21 := HB8_21.out.cell
      have hc10_21 := HB10_21.out.cell
      have hc12_21 := HB12_21.out.cell
      clear hb
      rw [show decide (m = b) = false by simp only [decide_eq_false_iff_not]; intro h; have := HZ.out.2 (.inr h); omega]
      go_wp2_with fail
      refine (HWK.out _).mono ?_
      rintro e w22 ⟨rfl, hb⟩
      have HG22 : Hid (Grow w w22) := HG21.out.trans hb
      have HB3_22 := Lib.hid (Grow.block hb HB3_21.out)
      have HB4_22 := Lib.hid (Grow.block hb HB4_21.out)
      have HB5_22 := Lib.hid (Grow.block hb HB5_21.out)
      have HB7_22 := Lib.hid (Grow.block hb HB7_21.out)
      have HB8_22 := Lib.hid (Grow.block hb HB8_21.out)
      have HB10_22 := Lib.hid (Grow.block hb HB10_21.out)
      have HB12_22 := Lib.hid (Grow.block hb HB12_21.out)
      have HI7_22 := Lib.hid ((HI7_21.out.below hb).more (hb).size)
      have HI8_22 := Lib.hid ((HI8_21.out.below hb).more (hb).size)
      have HI10_22 := Lib.hid ((HI10_21.out.below hb).more (hb).size)
      have HI12_22 := Lib.hid ((HI12_21.out.below hb).more (hb).size)
      clear HG21 HB3_21 hc3_21 HB4_21 hc4_21 HB5_21 hc5_21 HB7_21 hc7_21 HB8_21 hc8_21 HB10_21 hc10_21 HB12_21 hc12_21 HI7_21 HI8_21 HI10_21 HI12_21
      have hc3_22 := HB3_22.out.cell
      have hc4_22 := HB4_22.out.cell
      have hc5_22 := HB5_22.out.cell
      have hc7_22 := HB7_22.out.cell
      have hc8_22 := HB8_22.out.cell
      have hc10_22 := HB10_22.out.cell
      have hc12_22 := HB12_22.out.cell
      clear hb
      go_wp2
      go_ret
      exact ⟨rfl, HG22.out⟩

set_option maxRecDepth 100000 in
set_option maxHeartbeats 2000000 in
theorem signsOneOrder_out1 (a b c : FormD) (A A' A'' : Option Addr) (cap cap' cap'' : Nat) (w : World) (hA : Ints w w.heap.size A a.moves) (hA' : Ints w w.heap.size A' b.moves) (hA'' : Ints w w.heap.size A'' c.moves) (l1 : ¬a.moves.length ≤ 20) :
    Calls Tryz.prog 7 #[formV a A cap, formV b A' cap', formV c A'' cap''] w fun e w' => e = .returned (.bool true) ∧ Below w.heap.size w w' := by
  have HWK := Lib.hid works_any
  have d1 : decide (20 < (a.moves.length : Int)) = true := by simp; omega
  clear hA hA' hA''
  go_enter Tryz.func7, Tryz.ntmps7
  go_upto_region 1 with fail
  obtain ⟨W0, hW, hg, hf3, hf4, hf5, hsz⟩ := three_blocks w 24 24 24 (cellsF a A cap) (cellsF b A' cap') (cellsF c A'' cap'')
  rw [hW]
  clear hW
  have HG0 := Lib.hid hg
  have HB3_0 := Lib.hid hf3
  have HB4_0 := Lib.hid hf4
  have HB5_0 := Lib.hid hf5
  have hc3_0 := hf3.cell
  have hc4_0 := hf4.cell
  have hc5_0 := hf5.cell
  clear hg hf3 hf4 hf5
  go_wp2_with fail
  refine (HWK.out _).mono ?_
  rintro e w1 ⟨rfl, hb⟩
  have HG1 : Hid (Grow w w1) := HG0.out.trans hb
  have HB3_1 := Lib.hid (Grow.block hb HB3_0.out)
  have HB4_1 := Lib.hid (Grow.block hb HB4_0.out)
  have HB5_1 := Lib.hid (Grow.block hb HB5_0.out)
  clear HG0 HB3_0 hc3_0 HB4_0 hc4_0 HB5_0 hc5_0
  have hc3_1 := HB3_1.out.cell
  have hc4_1 := HB4_1.out.cell
  have hc5_1 := HB5_1.out.cell
  clear hb
  go_wp2
  go_ret
  exact ⟨rfl, HG1.out⟩

set_option maxRecDepth 100000 in
set_option maxHeartbeats 2000000 in
theorem signsOneOrder_out2 (a b c : FormD) (A A' A'' : Option Addr) (cap cap' cap'' : Nat) (w : World) (hA : Ints w w.heap.size A a.moves) (hA' : Ints w w.heap.size A' b.moves) (hA'' : Ints w w.heap.size A'' c.moves) (l1 : a.moves.length ≤ 20) (l2 : ¬b.moves.length ≤ 20) :
    Calls Tryz.prog 7 #[formV a A cap, formV b A' cap', formV c A'' cap''] w fun e w' => e = .returned (.bool true) ∧ Below w.heap.size w w' := by
  have HWK := Lib.hid works_any
  have d1 : decide (20 < (a.moves.length : Int)) = false := by simp; omega
  have d2 : decide (20 < (b.moves.length : Int)) = true := by simp; omega
  clear hA hA' hA''
  go_enter Tryz.func7, Tryz.ntmps7
  go_upto_region 1 with fail
  obtain ⟨W0, hW, hg, hf3, hf4, hf5, hsz⟩ := three_blocks w 24 24 24 (cellsF a A cap) (cellsF b A' cap') (cellsF c A'' cap'')
  rw [hW]
  clear hW
  have HG0 := Lib.hid hg
  have HB3_0 := Lib.hid hf3
  have HB4_0 := Lib.hid hf4
  have HB5_0 := Lib.hid hf5
  have hc3_0 := hf3.cell
  have hc4_0 := hf4.cell
  have hc5_0 := hf5.cell
  clear hg hf3 hf4 hf5
  go_wp2_with fail
  refine (HWK.out _).mono ?_
  rintro e w1 ⟨rfl, hb⟩
  have HG1 : Hid (Grow w w1) := HG0.out.trans hb
  have HB3_1 := Lib.hid (Grow.block hb HB3_0.out)
  have HB4_1 := Lib.hid (Grow.block hb HB4_0.out)
  have HB5_1 := Lib.hid (Grow.block hb HB5_0.out)
  clear HG0 HB3_0 hc3_0 HB4_0 hc4_0 HB5_0 hc5_0
  have hc3_1 := HB3_1.out.cell
  have hc4_1 := HB4_1.out.cell
  have hc5_1 := HB5_1.out.cell
  clear hb
  go_wp2
  go_ret
  exact ⟨rfl, HG1.out⟩

set_option maxRecDepth 100000 in
set_option maxHeartbeats 2000000 in
theorem signsOneOrder_out3 (a b c : FormD) (A A' A'' : Option Addr) (cap cap' cap'' : Nat) (w : World) (hA : Ints w w.heap.size A a.moves) (hA' : Ints w w.heap.size A' b.moves) (hA'' : Ints w w.heap.size A'' c.moves) (l1 : a.moves.length ≤ 20) (l2 : b.moves.length ≤ 20) (l3 : ¬c.moves.length ≤ 20) :
    Calls Tryz.prog 7 #[formV a A cap, formV b A' cap', formV c A'' cap''] w fun e w' => e = .returned (.bool true) ∧ Below w.heap.size w w' := by
  have HWK := Lib.hid works_any
  have d1 : decide (20 < (a.moves.length : Int)) = false := by simp; omega
  have d2 : decide (20 < (b.moves.length : Int)) = false := by simp; omega
  have d3 : decide (20 < (c.moves.length : Int)) = true := by simp; omega
  clear hA hA' hA''
  go_enter Tryz.func7, Tryz.ntmps7
  go_upto_region 1 with fail
  obtain ⟨W0, hW, hg, hf3, hf4, hf5, hsz⟩ := three_blocks w 24 24 24 (cellsF a A cap) (cellsF b A' cap') (cellsF c A'' cap'')
  rw [hW]
  clear hW
  have HG0 := Lib.hid hg
  have HB3_0 := Lib.hid hf3
  have HB4_0 := Lib.hid hf4
  have HB5_0 := Lib.hid hf5
  have hc3_0 := hf3.cell
  have hc4_0 := hf4.cell
  have hc5_0 := hf5.cell
  clear hg hf3 hf4 hf5
  go_wp2_with fail
  refine (HWK.out _).mono ?_
  rintro e w1 ⟨rfl, hb⟩
  have HG1 : Hid (Grow w w1) := HG0.out.trans hb
  have HB3_1 := Lib.hid (Grow.block hb HB3_0.out)
  have HB4_1 := Lib.hid (Grow.block hb HB4_0.out)
  have HB5_1 := Lib.hid (Grow.block hb HB5_0.out)
  clear HG0 HB3_0 hc3_0 HB4_0 hc4_0 HB5_0 hc5_0
  have hc3_1 := HB3_1.out.cell
  have hc4_1 := HB4_1.out.cell
  have hc5_1 := HB5_1.out.cell
  clear hb
  go_wp2
  go_ret
  exact ⟨rfl, HG1.out⟩

set_option maxRecDepth 100000 in
set_option maxHeartbeats 2000000 in
theorem signsOneOrder_out4 (a b c : FormD) (A A' A'' : Option Addr) (cap cap' cap'' : Nat) (w : World) (hA : Ints w w.heap.size A a.moves) (hA' : Ints w w.heap.size A' b.moves) (hA'' : Ints w w.heap.size A'' c.moves) (l1 : a.moves.length ≤ 20) (l2 : b.moves.length ≤ 20) (l3 : c.moves.length ≤ 20) (o1 : okForm a = false) :
    Calls Tryz.prog 7 #[formV a A cap, formV b A' cap', formV c A'' cap''] w fun e w' => e = .returned (.bool true) ∧ Below w.heap.size w w' := by
  have HWK := Lib.hid works_any
  have d1 : decide (20 < (a.moves.length : Int)) = false := by simp; omega
  have d2 : decide (20 < (b.moves.length : Int)) = false := by simp; omega
  have d3 : decide (20 < (c.moves.length : Int)) = false := by simp; omega
  have HIA := Lib.hid (fun (w0 : World) (h : Grow w w0) => by have k := IsForm_any a A cap w.heap.size w0 (hA.below h) (by omega) h.size; rw [o1] at k; exact k)
  clear hA hA' hA'' o1
  go_enter Tryz.func7, Tryz.ntmps7
  go_upto_region 1 with fail
  obtain ⟨W0, hW, hg, hf3, hf4, hf5, hsz⟩ := three_blocks w 24 24 24 (cellsF a A cap) (cellsF b A' cap') (cellsF c A'' cap'')
  rw [hW]
  clear hW
  have HG0 := Lib.hid hg
  have HB3_0 := Lib.hid hf3
  have HB4_0 := Lib.hid hf4
  have HB5_0 := Lib.hid hf5
  have hc3_0 := hf3.cell
  have hc4_0 := hf4.cell
  have hc5_0 := hf5.cell
  clear hg hf3 hf4 hf5
  go_wp2_with fail
  refine (HIA.out _ HG0.out).mono ?_
  rintro e w1 ⟨rfl, hb⟩
  have HG1 : Hid (Grow w w1) := HG0.out.trans hb
  have HB3_1 := Lib.hid (Grow.block hb HB3_0.out)
  have HB4_1 := Lib.hid (Grow.block hb HB4_0.out)
  have HB5_1 := Lib.hid (Grow.block hb HB5_0.out)
  clear HG0 HB3_0 hc3_0 HB4_0 hc4_0 HB5_0 hc5_0
  have hc3_1 := HB3_1.out.cell
  have hc4_1 := HB4_1.out.cell
  have hc5_1 := HB5_1.out.cell
  clear hb
  go_wp2_with fail
  refine (HWK.out _).mono ?_
  rintro e w2 ⟨rfl, hb⟩
  have HG2 : Hid (Grow w w2) := HG1.out.trans hb
  have HB3_2 := Lib.hid (Grow.block hb HB3_1.out)
  have HB4_2 := Lib.hid (Grow.block hb HB4_1.out)
  have HB5_2 := Lib.hid (Grow.block hb HB5_1.out)
  clear HG1 HB3_1 hc3_1 HB4_1 hc4_1 HB5_1 hc5_1
  have hc3_2 := HB3_2.out.cell
  have hc4_2 := HB4_2.out.cell
  have hc5_2 := HB5_2.out.cell
  clear hb
  go_wp2
  go_ret
  exact ⟨rfl, HG2.out⟩

set_option maxRecDepth 100000 in
set_option maxHeartbeats 2000000 in
theorem signsOneOrder_out5 (a b c : FormD) (A A' A'' : Option Addr) (cap cap' cap'' : Nat) (w : World) (hA : Ints w w.heap.size A a.moves) (hA' : Ints w w.heap.size A' b.moves) (hA'' : Ints w w.heap.size A'' c.moves) (l1 : a.moves.length ≤ 20) (l2 : b.moves.length ≤ 20) (l3 : c.moves.length ≤ 20) (o1 : okForm a = true) (o2 : okForm b = false) :
    Calls Tryz.prog 7 #[formV a A cap, formV b A' cap', formV c A'' cap''] w fun e w' => e = .returned (.bool true) ∧ Below w.heap.size w w' := by
  have HWK := Lib.hid works_any
  have d1 : decide (20 < (a.moves.length : Int)) = false := by simp; omega
  have d2 : decide (20 < (b.moves.length : Int)) = false := by simp; omega
  have d3 : decide (20 < (c.moves.length : Int)) = false := by simp; omega
  have HIA := Lib.hid (fun (w0 : World) (h : Grow w w0) => by have k := IsForm_any a A cap w.heap.size w0 (hA.below h) (by omega) h.size; rw [o1] at k; exact k)
  have HIB := Lib.hid (fun (w0 : World) (h : Grow w w0) => by have k := IsForm_any b A' cap' w.heap.size w0 (hA'.below h) (by omega) h.size; rw [o2] at k; exact k)
  clear hA hA' hA'' o1 o2
  go_enter Tryz.func7, Tryz.ntmps7
  go_upto_region 1 with fail
  obtain ⟨W0, hW, hg, hf3, hf4, hf5, hsz⟩ := three_blocks w 24 24 24 (cellsF a A cap) (cellsF b A' cap') (cellsF c A'' cap'')
  rw [hW]
  clear hW
  have HG0 := Lib.hid hg
  have HB3_0 := Lib.hid hf3
  have HB4_0 := Lib.hid hf4
  have HB5_0 := Lib.hid hf5
  have hc3_0 := hf3.cell
  have hc4_0 := hf4.cell
  have hc5_0 := hf5.cell
  clear hg hf3 hf4 hf5
  go_wp2_with fail
  refine (HIA.out _ HG0.out).mono ?_
  rintro e w1 ⟨rfl, hb⟩
  have HG1 : Hid (Grow w w1) := HG0.out.trans hb
  have HB3_1 := Lib.hid (Grow.block hb HB3_0.out)
  have HB4_1 := Lib.hid (Grow.block hb HB4_0.out)
  have HB5_1 := Lib.hid (Grow.block hb HB5_0.out)
  clear HG0 HB3_0 hc3_0 HB4_0 hc4_0 HB5_0 hc5_0
  have hc3_1 := HB3_1.out.cell
  have hc4_1 := HB4_1.out.cell
  have hc5_1 := HB5_1.out.cell
  clear hb
  go_wp2_with fail
  refine (HIB.out _ HG1.out).mono ?_
  rintro e w2 ⟨rfl, hb⟩
  have HG2 : Hid (Grow w w2) := HG1.out.trans hb
  have HB3_2 := Lib.hid (Grow.block hb HB3_1.out)
  have HB4_2 := Lib.hid (Grow.block hb HB4_1.out)
  have HB5_2 := Lib.hid (Grow.block hb HB5_1.out)
  clear HG1 HB3_1 hc3_1 HB4_1 hc4_1 HB5_1 hc5_1
  have hc3_2 := HB3_2.out.cell
  have hc4_2 := HB4_2.out.cell
  have hc5_2 := HB5_2.out.cell
  clear hb
  go_wp2_with fail
  refine (HWK.out _).mono ?_
  rintro e w3 ⟨rfl, hb⟩
  have HG3 : Hid (Grow w w3) := HG2.out.trans hb
  have HB3_3 := Lib.hid (Grow.block hb HB3_2.out)
  have HB4_3 := Lib.hid (Grow.block hb HB4_2.out)
  have HB5_3 := Lib.hid (Grow.block hb HB5_2.out)
  clear HG2 HB3_2 hc3_2 HB4_2 hc4_2 HB5_2 hc5_2
  have hc3_3 := HB3_3.out.cell
  have hc4_3 := HB4_3.out.cell
  have hc5_3 := HB5_3.out.cell
  clear hb
  go_wp2
  go_ret
  exact ⟨rfl, HG3.out⟩

set_option maxRecDepth 100000 in
set_option maxHeartbeats 2000000 in
theorem signsOneOrder_out6 (a b c : FormD) (A A' A'' : Option Addr) (cap cap' cap'' : Nat) (w : World) (hA : Ints w w.heap.size A a.moves) (hA' : Ints w w.heap.size A' b.moves) (hA'' : Ints w w.heap.size A'' c.moves) (l1 : a.moves.length ≤ 20) (l2 : b.moves.length ≤ 20) (l3 : c.moves.length ≤ 20) (o1 : okForm a = true) (o2 : okForm b = true) (o3 : okForm c = false) :
    Calls Tryz.prog 7 #[formV a A cap, formV b A' cap', formV c A'' cap''] w fun e w' => e = .returned (.bool true) ∧ Below w.heap.size w w' := by
  have HWK := Lib.hid works_any
  have d1 : decide (20 < (a.moves.length : Int)) = false := by simp; omega
  have d2 : decide (20 < (b.moves.length : Int)) = false := by simp; omega
  have d3 : decide (20 < (c.moves.length : Int)) = false := by simp; omega
  have HIA := Lib.hid (fun (w0 : World) (h : Grow w w0) => by have k := IsForm_any a A cap w.heap.size w0 (hA.below h) (by omega) h.size; rw [o1] at k; exact k)
  have HIB := Lib.hid (fun (w0 : World) (h : Grow w w0) => by have k := IsForm_any b A' cap' w.heap.size w0 (hA'.below h) (by omega) h.size; rw [o2] at k; exact k)
  have HIC := Lib.hid (fun (w0 : World) (h : Grow w w0) => by have k := IsForm_any c A'' cap'' w.heap.size w0 (hA''.below h) (by omega) h.size; rw [o3] at k; exact k)
  clear hA hA' hA'' o1 o2 o3
  go_enter Tryz.func7, Tryz.ntmps7
  go_upto_region 1 with fail
  obtain ⟨W0, hW, hg, hf3, hf4, hf5, hsz⟩ := three_blocks w 24 24 24 (cellsF a A cap) (cellsF b A' cap') (cellsF c A'' cap'')
  rw [hW]
  clear hW
  have HG0 := Lib.hid hg
  have HB3_0 := Lib.hid hf3
  have HB4_0 := Lib.hid hf4
  have HB5_0 := Lib.hid hf5
  have hc3_0 := hf3.cell
  have hc4_0 := hf4.cell
  have hc5_0 := hf5.cell
  clear hg hf3 hf4 hf5
  go_wp2_with fail
  refine (HIA.out _ HG0.out).mono ?_
  rintro e w1 ⟨rfl, hb⟩
  have HG1 : Hid (Grow w w1) := HG0.out.trans hb
  have HB3_1 := Lib.hid (Grow.block hb HB3_0.out)
  have HB4_1 := Lib.hid (Grow.block hb HB4_0.out)
  have HB5_1 := Lib.hid (Grow.block hb HB5_0.out)
  clear HG0 HB3_0 hc3_0 HB4_0 hc4_0 HB5_0 hc5_0
  have hc3_1 := HB3_1.out.cell
  have hc4_1 := HB4_1.out.cell
  have hc5_1 := HB5_1.out.cell
  clear hb
  go_wp2_with fail
  refine (HIB.out _ HG1.out).mono ?_
  rintro e w2 ⟨rfl, hb⟩
  have HG2 : Hid (Grow w w2) := HG1.out.trans hb
  have HB3_2 := Lib.hid (Grow.block hb HB3_1.out)
  have HB4_2 := Lib.hid (Grow.block hb HB4_1.out)
  have HB5_2 := Lib.hid (Grow.block hb HB5_1.out)
  clear HG1 HB3_1 hc3_1 HB4_1 hc4_1 HB5_1 hc5_1
  have hc3_2 := HB3_2.out.cell
  have hc4_2 := HB4_2.out.cell
  have hc5_2 := HB5_2.out.cell
  clear hb
  go_wp2_with fail
  refine (HIC.out _ HG2.out).mono ?_
  rintro e w3 ⟨rfl, hb⟩
  have HG3 : Hid (Grow w w3) := HG2.out.trans hb
  have HB3_3 := Lib.hid (Grow.block hb HB3_2.out)
  have HB4_3 := Lib.hid (Grow.block hb HB4_2.out)
  have HB5_3 := Lib.hid (Grow.block hb HB5_2.out)
  clear HG2 HB3_2 hc3_2 HB4_2 hc4_2 HB5_2 hc5_2
  have hc3_3 := HB3_3.out.cell
  have hc4_3 := HB4_3.out.cell
  have hc5_3 := HB5_3.out.cell
  clear hb
  go_wp2_with fail
  refine (HWK.out _).mono ?_
  rintro e w4 ⟨rfl, hb⟩
  have HG4 : Hid (Grow w w4) := HG3.out.trans hb
  have HB3_4 := Lib.hid (Grow.block hb HB3_3.out)
  have HB4_4 := Lib.hid (Grow.block hb HB4_3.out)
  have HB5_4 := Lib.hid (Grow.block hb HB5_3.out)
  clear HG3 HB3_3 hc3_3 HB4_3 hc4_3 HB5_3 hc5_3
  have hc3_4 := HB3_4.out.cell
  have hc4_4 := HB4_4.out.cell
  have hc5_4 := HB5_4.out.cell
  clear hb
  go_wp2
  go_ret
  exact ⟨rfl, HG4.out⟩

theorem signsOneOrder_any (a b c : FormD) (A A' A'' : Option Addr) (cap cap' cap'' : Nat) (w : World) (hA : Ints w w.heap.size A a.moves) (hA' : Ints w w.heap.size A' b.moves) (hA'' : Ints w w.heap.size A'' c.moves) :
    Calls Tryz.prog 7 #[formV a A cap, formV b A' cap', formV c A'' cap''] w fun e w' => e = .returned (.bool true) ∧ Below w.heap.size w w' := by
  by_cases l1 : a.moves.length ≤ 20
  case neg => exact signsOneOrder_out1 a b c A A' A'' cap cap' cap'' w hA hA' hA'' l1
  by_cases l2 : b.moves.length ≤ 20
  case neg => exact signsOneOrder_out2 a b c A A' A'' cap cap' cap'' w hA hA' hA'' l1 l2
  by_cases l3 : c.moves.length ≤ 20
  case neg => exact signsOneOrder_out3 a b c A A' A'' cap cap' cap'' w hA hA' hA'' l1 l2 l3
  cases o1 : okForm a with
  | false => exact signsOneOrder_out4 a b c A A' A'' cap cap' cap'' w hA hA' hA'' l1 l2 l3 o1
  | true =>
    cases o2 : okForm b with
    | false => exact signsOneOrder_out5 a b c A A' A'' cap cap' cap'' w hA hA' hA'' l1 l2 l3 o1 o2
    | true =>
      cases o3 : okForm c with
      | false => exact signsOneOrder_out6 a b c A A' A'' cap cap' cap'' w hA hA' hA'' l1 l2 l3 o1 o2 o3
      | true =>
        exact signsOneOrder_ok a b c A A' A'' cap cap' cap'' w hA hA' hA'' o1 o2 o3

end Go.Proofs.YtjpnblflenlnaaaGreat
