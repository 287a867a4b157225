/- RWeak: the specification's Weakest; written by wip/tools/rweak10.py. -/
import Derived.Test.YtcgnibfcjadnjaaWeak
import Derived.Test.YtcgnibfcjadnjaaRGapT
import Derived.Test.YtcgnibfcjadnjaaRGapS
import Derived.Test.YtcgnibfcjadnjaaRGapP
import Derived.Test.YtcgnibfcjadnjaaRGapM
namespace Go.Proofs.Ytcgnibfcjadnjaa
open Go.RowKit

/-- the best of the languages, where the people may be ill -/
def rTo (c : Bool) (p : Pool) (s g x : Nat) (b : GapN) (T : Nat) : GapN := if c then gT p s g x b T else b
theorem rTo_succ (p : Pool) (s g x : Nat) (b : GapN) (T : Nat) : rTo true p s g x b (T + 1) = gapMore (rTo true p s g x b T) ⟨s, x, T, miss p s (diffN g x) T⟩ := rfl
def rX (p : Pool) (s g : Nat) (b : GapN) : Nat → GapN
  | 0 => b
  | k + 1 => if subN k g then gOne p s g (rX p s g b k) k else rX p s g b k
theorem rX_succ (p : Pool) (s g : Nat) (b : GapN) (x : Nat) : rX p s g b (x + 1) = rTo (subN x g && decide (popD x ≤ p.ill)) p s g x (rX p s g b x) (2 ^ p.tn) := by
  show (if subN x g then gOne p s g (rX p s g b x) x else rX p s g b x) = _
  unfold gOne rTo
  cases subN x g with
  | false => rfl
  | true =>
    rw [Bool.true_and, if_pos rfl]
    by_cases h : popD x ≤ p.ill
    · rw [if_pos h, decide_eq_true h, if_pos rfl]
    · rw [if_neg h, decide_eq_false h, if_neg Bool.false_ne_true]
theorem rX_all (p : Pool) (s g : Nat) (b : GapN) : rX p s g b (g + 1) = gX p s g b (subsL g) := by
  have key : ∀ k, rX p s g b k = gX p s g b ((List.range k).filter fun x => subN x g) := fun k => by
    induction k with
    | zero => rfl
    | succ k ih =>
      show (if subN k g then gOne p s g (rX p s g b k) k else rX p s g b k) = _
      rw [List.range_succ, List.filter_append]
      unfold gX at ih ⊢
      rw [List.foldl_append, ← ih]
      cases h : subN k g with
      | false => simp [h]
      | true => simp [h]
  exact key (g + 1)
theorem gT_nonneg {p : Pool} {s g x : Nat} {b : GapN} (h : 0 ≤ b.missing) : ∀ T, 0 ≤ (gT p s g x b T).missing
  | 0 => h
  | T + 1 => Int.le_trans (gT_nonneg h T) (gapMore_ge _ _).1
theorem rTo_nonneg {p : Pool} {s g x : Nat} {b : GapN} (h : 0 ≤ b.missing) (c : Bool) (T : Nat) : 0 ≤ (rTo c p s g x b T).missing := by
  unfold rTo
  split
  · exact gT_nonneg h T
  · exact h
theorem rX_nonneg {p : Pool} {s g : Nat} {b : GapN} (h : 0 ≤ b.missing) : ∀ x, 0 ≤ (rX p s g b x).missing
  | 0 => h
  | x + 1 => by rw [rX_succ]; exact rTo_nonneg (rX_nonneg h x) _ _
theorem gS_nonneg (p : Pool) (gs : List Nat) : ∀ s, 0 ≤ (gS p gs s).missing
  | 0 => Int.le_refl _
  | s + 1 => by
    show 0 ≤ (gX p s (gs.getD s 0) (gS p gs s) (subsL (gs.getD s 0))).missing
    rw [← rX_all]
    exact rX_nonneg (gS_nonneg p gs s) _
/-- a pointer to a new gap -/
def GapP (lo : Nat) (v : Value) (w : World) : Prop := ∃ o, v = .pointer (some ⟨o, 0, none⟩) ∧ lo ≤ o ∧ BlockIs w o 36 zeroGap
theorem GapP.grow {lo : Nat} {v : Value} {a b : World} (h : GapP lo v a) (g : Grow a b) : GapP lo v b := by
  obtain ⟨o, e, h1, h2⟩ := h
  exact ⟨o, e, h1, g.block h2⟩
theorem rIsGap_all (h : PoolH) (p : Pool) (G : Good p) (A : Option Addr) (cap : Nat) (gs : List Nat) (s g x T : Nat) (w : World) (hA : PoolAt w w.heap.size h p.i) (hI : Ints w w.heap.size A (natsL gs)) (hs : s < p.needs.length) (hsl : s < gs.length) (hgs : gs[s]? = some g) (hg32 : g < 32) (hx : x < 32) (hT : T < 2 ^ p.tn) :
    Calls Try.prog 16 #[poolN h p, .slice A gs.length cap, .agg #[.int .i64 (s : Nat), .int .i64 (x : Nat), .int .i64 (T : Nat), .int .i64 (miss p s (diffN g x) T)]] w fun e w' => e = .returned (.bool ((subN x g && decide (popD x ≤ p.ill)) && decide (0 < miss p s (diffN g x) T))) ∧ Below w.heap.size w w' := by
  cases hc : subN x g with
  | false => exact rIsGap_s h p G A cap gs s g x T _ w hA hI hs hsl hgs hg32 hx hT hc
  | true =>
    by_cases hp : popD x ≤ p.ill
    · rw [decide_eq_true hp]
      by_cases hm : 0 < miss p s (diffN g x) T
      · rw [decide_eq_true hm]
        exact rIsGap_t h p G A cap gs s g x T _ w hA hI hs hsl hgs hg32 hx hT rfl hc hp hm
      · rw [decide_eq_false hm]
        exact rIsGap_m h p G A cap gs s g x T _ w hA hI hs hsl hgs hg32 hx hT hc hp (by omega)
    · rw [decide_eq_false hp]
      exact rIsGap_p h p G A cap gs s g x T _ w hA hI hs hsl hgs hg32 hx hT hc (by omega)
set_option maxRecDepth 100000 in
set_option maxHeartbeats 8000000 in
theorem rWeak_bad (h : PoolH) (d : PoolI) (A : Option Addr) (cap n : Nat) (w : World) (hA : PoolAt w w.heap.size h d) (hs : Short d) (hok : okPool d = false) :
    Calls Try.prog 37 #[poolV h d, .slice A n cap] w fun e w' => e = .returned (.tuple #[.agg zeroGap, .int .i64 100]) ∧ Below w.heap.size w w' := by
  have HC := Lib.hid (fun (w0 : World) (hw : Grow w w0) => rCheckWatch_bad h d A cap n w0 (hA.grow hw) hs hok)
  clear hok hA hs
  obtain ⟨fa, fc, na, nc⟩ := h
  go_enter Try.func37, Try.ntmps37
  go_upto_region 1 with fail
  obtain ⟨W, hW, hg, hf, hr, hsz⟩ := two_blocks w 25 36 (cellsP ⟨fa, fc, na, nc⟩ d) zeroGap
  rw [hW]
  clear hW
  have hcc := hf.cell
  have HG := Lib.hid hg
  have HRS := Lib.hid hr
  clear hf hg hr
  go_wp2_with fail
  refine (HC.out W HG.out).mono ?_
  rintro e w1 ⟨rfl, hb1⟩
  have HR5 := Lib.hid ((show Grow W w1 from hb1).block HRS.out)
  have hrc := HR5.out.cell
  have hrf := HR5.out.frozen
  have HS5 := Lib.hid (stores4 HR5.out (.int .i64 0) (.int .i64 0) (.int .i64 0) (.int .i64 0))
  have HX5 := Lib.hid ((HG.out.trans (show Grow W w1 from hb1)).trans' (below4 (w := w1) (B := w.heap.size) (b := w.heap.size + 1) (by omega) (.int .i64 0) (.int .i64 0) (.int .i64 0) (.int .i64 0)))
  clear hb1 hcc
  go_wp2
  refine bodyPost_ret (results_gap45 Try.results37 _ _ _ _ _ _ _ _ HS5.out rfl rfl) rfl ?_
  exact ⟨rfl, HX5.out⟩

set_option maxRecDepth 100000 in
set_option maxHeartbeats 8000000 in
theorem rWeak_not (h : PoolH) (p : Pool) (G : Good p) (hok : okPool p.i = true) (hs : Short p.i) (A : Option Addr) (cap : Nat) (ws : List Int) (w : World) (hA : PoolAt w w.heap.size h p.i) (hI : Ints w w.heap.size A ws) (hl : ws.length ≤ 1000) (hwf : Wf ws) (hq : okWatch p ws = false) :
    Calls Try.prog 37 #[poolN h p, .slice A ws.length cap] w fun e w' => e = .returned (.tuple #[.agg zeroGap, .int .i64 101]) ∧ Below w.heap.size w w' := by
  have HC := Lib.hid (fun (w0 : World) (hw : Grow w w0) => rCheckWatch_any h p G hok hs A cap ws w0 (hA.grow hw) ((hI.below hw).more hw.size) hl hwf)
  have h1 : watchErr p ws = 101 := by unfold watchErr; rw [hq]; rfl
  rw [h1] at HC
  clear hok hA hs hI hl hwf hq h1
  obtain ⟨fa, fc, na, nc⟩ := h
  go_enter Try.func37, Try.ntmps37
  go_upto_region 1 with fail
  obtain ⟨W, hW, hg, hf, hr, hsz⟩ := two_blocks w 25 36 (cellsN ⟨fa, fc, na, nc⟩ p) zeroGap
  rw [hW]
  clear hW
  have hcc := hf.cell
  have HG := Lib.hid hg
  have HRS := Lib.hid hr
  clear hf hg hr
  go_wp2_with fail
  refine (HC.out W HG.out).mono ?_
  rintro e w1 ⟨rfl, hb1⟩
  have HR5 := Lib.hid ((show Grow W w1 from hb1).block HRS.out)
  have hrc := HR5.out.cell
  have hrf := HR5.out.frozen
  have HS5 := Lib.hid (stores4 HR5.out (.int .i64 0) (.int .i64 0) (.int .i64 0) (.int .i64 0))
  have HX5 := Lib.hid ((HG.out.trans (show Grow W w1 from hb1)).trans' (below4 (w := w1) (B := w.heap.size) (b := w.heap.size + 1) (by omega) (.int .i64 0) (.int .i64 0) (.int .i64 0) (.int .i64 0)))
  clear hb1 hcc
  go_wp2
  refine bodyPost_ret (results_gap45 Try.results37 _ _ _ _ _ _ _ _ HS5.out rfl rfl) rfl ?_
  exact ⟨rfl, HX5.out⟩

set_option maxRecDepth 100000 in
set_option maxHeartbeats 16000000 in
theorem rWeak_good (h : PoolH) (p : Pool) (G : Good p) (hok : okPool p.i = true) (hsh : Short p.i) (A : Option Addr) (cap : Nat) (gs : List Nat) (w : World) (hA : PoolAt w w.heap.size h p.i) (hI : Ints w w.heap.size A (natsL gs)) (hwt : Watch p gs) :
    Calls Try.prog 37 #[poolN h p, .slice A gs.length cap] w fun e w' => e = .returned (.tuple #[.agg (cellsGap (weakD p gs)), .int .i64 (gapErr (weakD p gs))]) ∧ Below w.heap.size w w' := by
  have hl : (natsL gs).length ≤ 1000 := by rw [natsL_length]; have h1 := hwt.len; have h2 := G.n3; omega
  have HC := Lib.hid (fun (w0 : World) (hw : Grow w w0) => rCheckWatch_any h p G hok hsh A cap (natsL gs) w0 (hA.grow hw) ((hI.below hw).more hw.size) hl (watch_wf G hwt))
  have h1 : watchErr p (natsL gs) = 0 := by unfold watchErr; rw [ok_of_watch G hwt]; rfl
  simp only [natsL_length, h1] at HC
  have hn3 := G.n3
  have ht3 := G.t3
  have HLN := Lib.hid hwt.len
  have hl3 : gs.length ≤ 3 := by have := hwt.len; omega
  have HIN := Lib.hid (fun (w0 : World) (hw : Below w.heap.size w w0) => (hI.below hw).more hw.size)
  have HTO := Lib.hid (fun (w0 : World) (hw : Below w.heap.size w w0) => rTongues_any h p G w0 ((hA.below hw).more hw.size))
  have HMI := Lib.hid (fun (s g T : Nat) (hs : s < p.needs.length) (hg : g < 32) (hT : T < 1000) (w0 : World) (hw : Below w.heap.size w w0) => rMissing_any h p G s g T w0 ((hA.below hw).more hw.size) hs (by omega) (by omega))
  have HMB := Lib.hid (fun (s g T : Nat) (hs : s < p.needs.length) => miss_bounds G hs g T)
  have HG32 := Lib.hid (fun (s g : Nat) (hg : gs[s]? = some g) => hwt.g32 G hg)
  have HIA := Lib.hid (fun (s g x T : Nat) (hs : s < p.needs.length) (hsl : s < gs.length) (hgs : gs[s]? = some g) (hg32 : g < 32) (hx : x < 32) (hT : T < 2 ^ p.tn) (w0 : World) (hw : Below w.heap.size w w0) => rIsGap_all h p G A cap gs s g x T w0 ((hA.below hw).more hw.size) ((hI.below hw).more hw.size) hs hsl hgs hg32 hx hT)
  have HGI := Lib.hid (weak_is p gs)
  have HRXS := Lib.hid (fun s g b x => rX_succ p s g b x)
  have hp8 : 2 ^ p.tn ≤ 8 := Nat.pow_le_pow_right (n := 2) (by omega) ht3
  have hpI : ((2 : Int) ^ p.tn) = ((2 ^ p.tn : Nat) : Int) := (Int.natCast_pow 2 _).symm
  obtain ⟨m8, hm8⟩ : ∃ z, 2 ^ p.tn = z := ⟨_, rfl⟩
  rw [hm8] at hp8 hpI HIA HRXS
  have hwr : IntKind.i64.wrap ((2 : Int) ^ p.tn) = (m8 : Int) := by rw [hpI]; exact IntWalk.i64_in _ (by omega)
  have hcv : IntKind.u64.wrap (p.tn : Int) = (p.tn : Int) := IntWalk.u64_in _ (by omega)
  have htn64 : p.tn ≤ 64 := by omega
  have htn0 : (0 : Int) ≤ (p.tn : Int) := by omega
  clear hA hI hok hsh hwt hl h1 G hpI hm8
  obtain ⟨fa, fc, na, nc⟩ := h
  go_enter Try.func37, Try.ntmps37
  go_upto_region 1 with fail
  obtain ⟨W, hW, hg, hf, hr, hsz⟩ := two_blocks w 25 36 (cellsN ⟨fa, fc, na, nc⟩ p) zeroGap
  rw [hW]
  clear hW
  have hcc := hf.cell
  have HG := Lib.hid hg
  have HF := Lib.hid hf
  have HR := Lib.hid hr
  clear hf hg hr
  go_wp2_with fail
  refine (HC.out W HG.out).mono ?_
  rintro e w1 ⟨rfl, hb1⟩
  have HG1 : Hid (Grow W w1) := hb1
  clear hb1 hcc
  go_upto_region 5 with fail
  obtain ⟨W2, hW2, hg2, hf2, hsz2⟩ := one_block w1 36 zeroGap
  rw [hW2]
  clear hW2
  have HF2 := Lib.hid ((HG1.out.trans hg2).block HF.out)
  have HR2 := Lib.hid ((HG1.out.trans hg2).block HR.out)
  have HG3 : Hid (Grow w W2) := Lib.hid (HG.out.trans (HG1.out.trans hg2))
  have hbw : w.heap.size + 1 < w1.heap.size := by have h1 := HG1.out.size; omega
  obtain ⟨bb, hbb⟩ : ∃ z, w1.heap.size = z := ⟨_, rfl⟩
  rw [hbb] at hf2 hsz2 hbw ⊢
  have HBB : Hid (BlockIs W2 bb 36 (cellsGap (gS p gs 0))) := hf2
  clear hg2 hf2 HG HF HR HG1 hbb hsz
  go_wp2_with fail
  go_loopw [8] (fun iv wr => ∃ s : Nat, s ≤ gs.length ∧ iv = .int .i64 (s : Nat) ∧ Hid (BlockIs wr bb 36 (cellsGap (gS p gs s))) ∧ Hid (Below bb W2 wr)) (fun iv _ => gs.length - (intOf iv).toNat)
  case atStart => exact ⟨0, Nat.zero_le _, rfl, HBB, Lib.hid (Below.refl _ _)⟩
  case round => as_aux_lemma =>
    obtain ⟨s, hsl, rfl, HTS, HBS⟩ := hrel
    rename World => ws
    by_cases hlt : s < gs.length
    · have hds : decide ((s : Int) < (gs.length : Int)) = true := decide_eq_true (by omega)
      have hsn : s < p.needs.length := by have := HLN.out; omega
      have hs0 : (0 : Int) ≤ (s : Int) := by omega
      have hs1 : (s : Int) < (gs.length : Int) := by omega
      have HGS : Hid (Below w.heap.size w ws) := Lib.hid (HG3.out.trans' (HBS.out.mono (by omega)))
      obtain ⟨ab, ao, g, rfl, hab, hac0, HX⟩ := ints_nat (HIN.out ws HGS.out) hlt
      have hg32 := HG32.out s g HX.out
      have hgd : gs.getD s 0 = g := by rw [List.getD_eq_getElem?_getD, HX.out]; rfl
      have HAW := Lib.hid (fun (w0 : World) (hw : Below w.heap.size w w0) => (show w0.cell? ⟨ab, ao + s, none⟩ = some (.int .i64 (g : Nat)) by
        obtain ⟨ab', ao', g', e, _, h2, h3⟩ := ints_nat (HIN.out w0 hw) hlt
        injection e with e
        injection e with e1 e2
        subst e1 e2
        have h3 := h3.out
        rw [HX.out] at h3
        obtain rfl := Option.some.inj h3
        exact h2))
      have HSS : Hid (gS p gs (s + 1) = rX p s g (gS p gs s) (g + 1)) := Lib.hid (by
        show gX p s (gs.getD s 0) (gS p gs s) (subsL (gs.getD s 0)) = _
        rw [hgd, rX_all])
      have hb0n := gS_nonneg p gs s
      obtain ⟨b0, hb0⟩ : ∃ z, gS p gs s = z := ⟨_, rfl⟩
      rw [hb0] at HSS HTS hb0n
      clear hab hac0 hgd hb0
      go_wp2_with fail
      go_loopw [9] (fun iv wx => ∃ x : Nat, x ≤ g + 1 ∧ iv = .int .i64 (x : Nat) ∧ Hid (BlockIs wx bb 36 (cellsGap (rX p s g b0 x))) ∧ Hid (Below bb W2 wx)) (fun iv _ => g + 1 - (intOf iv).toNat)
      case atStart => exact ⟨0, Nat.zero_le _, rfl, HTS, HBS⟩
      case round => as_aux_lemma =>
        obtain ⟨x, hxg, rfl, HTX, HBX⟩ := hrel
        rename World => wx
        have HGX : Hid (Below w.heap.size w wx) := Lib.hid (HG3.out.trans' (HBX.out.mono (by omega)))
        have hac := HAW.out wx HGX.out
        by_cases hxl : x ≤ g
        · have hdx : decide ((x : Int) ≤ (g : Int)) = true := decide_eq_true (by omega)
          have hx32 : x < 32 := by omega
          have HNX := Lib.hid (HRXS.out s g b0 x)
          have hbxn : 0 ≤ (rX p s g b0 x).missing := rX_nonneg hb0n x
          obtain ⟨bx, hbx⟩ : ∃ z, rX p s g b0 x = z := ⟨_, rfl⟩
          rw [hbx] at HNX HTX hbxn
          have HNN := Lib.hid (fun c T => rTo_nonneg (p := p) (s := s) (g := g) (x := x) hbxn c T)
          have HIC := Lib.hid (fun T (hT : T < m8) w0 hw => HIA.out s g x T hsn hlt HX.out hg32 hx32 hT w0 hw)
          obtain ⟨cc, hcc'⟩ : ∃ z, (subN x g && decide (popD x ≤ p.ill)) = z := ⟨_, rfl⟩
          rw [hcc'] at HNX HIC
          have hdv32 : diffN g x < 32 := by have := sub_le (diff_sub g x); omega
          have HAN := Lib.hid (andNot_nat g x (by omega) (by omega))
          have HMD := Lib.hid (fun T (hT : T < 1000) w0 hw => HMI.out s (diffN g x) T hsn hdv32 hT w0 hw)
          have HMX := Lib.hid (fun T => HMB.out s (diffN g x) T hsn)
          have HT0 : Hid (BlockIs wx bb 36 (cellsGap (rTo cc p s g x bx 0))) := Lib.hid (by
            have e : rTo cc p s g x bx 0 = bx := by unfold rTo; split <;> rfl
            rw [e]
            exact HTX.out)
          clear hbx hcc' hbxn
          go_wp2_with fail
          clear hac hdx
          go_loopw [10] (fun iv wr => ∃ T : Nat, T ≤ m8 ∧ iv = .int .i64 (T : Nat) ∧ Hid (BlockIs wr bb 36 (cellsGap (rTo cc p s g x bx T))) ∧ Hid (Below bb W2 wr)) (fun iv _ => m8 - (intOf iv).toNat)
          case atStart => exact ⟨0, Nat.zero_le _, rfl, HT0, HBX⟩
          case round => as_aux_lemma =>
            obtain ⟨T, hTm, rfl, HTR, HBR⟩ := hrel
            rename World => wr
            have HGB : Hid (Below w.heap.size w wr) := Lib.hid (HG3.out.trans' (HBR.out.mono (by omega)))
            have hcc := (HF2.out.below HBR.out (by omega)).cell
            by_cases hlT : T < m8
            · have hdT : decide ((T : Int) < (m8 : Int)) = true := decide_eq_true (by omega)
              go_wp2_with fail
              refine (HTO.out wr HGB.out).mono ?_
              rintro e w4 ⟨rfl, hb4⟩
              have HBR4 : Hid (Below bb W2 w4) := Lib.hid (HBR.out.trans (Below.mono hb4 (by have := HTR.out.lt; omega)))
              have HTR4 := Lib.hid ((show Grow wr w4 from hb4).block HTR.out)
              clear hb4 hcc HBR HTR HGB
              have HBR := HBR4
              have HTR := HTR4
              clear HBR4 HTR4
              have HGB : Hid (Below w.heap.size w w4) := Lib.hid (HG3.out.trans' (HBR.out.mono (by omega)))
              have HZB : Hid (bb < w4.heap.size) := Lib.hid HTR.out.lt
              have HZR : Hid (bb ≤ w4.heap.size) := Lib.hid (Nat.le_of_lt HZB.out)
              have HZW : Hid (w.heap.size ≤ w4.heap.size) := Lib.hid HGB.out.size
              have HAC := Lib.hid (HAW.out w4 HGB.out)
              have HMC := Lib.hid (fun w0 hw => HMD.out T (by omega) w0 hw)
              have hmb := HMX.out T
              have HIS := Lib.hid (fun w0 hw => HIC.out T hlT w0 hw)
              obtain ⟨m, hm⟩ : ∃ z, miss p s (diffN g x) T = z := ⟨_, rfl⟩
              have HMV := Lib.hid hm
              rw [hm] at HMC hmb HIS
              obtain ⟨dv, hdv⟩ : ∃ z, diffN g x = z := ⟨_, rfl⟩
              rw [hdv] at HMC HAN
              obtain ⟨lo, hlo⟩ : ∃ z, w4.heap.size = z := ⟨_, rfl⟩
              have HLO := Lib.hid hlo
              clear hm hdv hlo
              go_upto_region 14 with fail
              clear hdT
              refine wp_region_lit 15 [[], [], [], [], [], [], [], [(5, 46), (6, 47)], [(7, 48)], [], [(8, 49), (9, 50)], [], [(3, 44), (4, 45), (10, 51), (11, 52)], [(0, 41), (1, 42), (2, 43), (12, 53)], []] Grow (fun qi v w' => match qi with
                  | 0 => v = .int .i64 (s : Nat)
                  | 1 => v = .int .i64 (x : Nat)
                  | 2 => v = .int .i64 (T : Nat)
                  | 3 => v = poolN ⟨fa, fc, na, nc⟩ p
                  | 4 => v = .int .i64 (s : Nat)
                  | 5 => v = .slice (some ⟨ab, ao, none⟩) gs.length cap
                  | 6 => v = .int .i64 (s : Nat)
                  | 7 => v = .pointer (some ⟨ab, ao + s, none⟩)
                  | 8 => v = .int .i64 (g : Nat)
                  | 9 => v = .int .i64 (x : Nat)
                  | 10 => v = .int .i64 (dv : Nat)
                  | 11 => v = .int .i64 (T : Nat)
                  | 12 => v = .int .i64 m
                  | 13 => v = .agg #[.int .i64 (s : Nat), .int .i64 (x : Nat), .int .i64 (T : Nat), .int .i64 m]
                  | 14 => GapP lo v w'
                  | _ => False) (by kernel_rfl) (by kernel_rfl) (fun _ _ _ => Grow.trans) Grow.refl ?_ ?_ ?_
              · intro i v y y' h k
                match i, h with
                | 14, h => exact h.grow k
                | 0, h | 1, h | 2, h | 3, h | 4, h | 5, h | 6, h | 7, h | 8, h | 9, h | 10, h | 11, h | 12, h | 13, h => exact h
              · simp only [StepsLit, List.take_succ_cons, List.take_zero]
                refine ⟨?_, ?_, ?_, ?_, ?_, ?_, ?_, ?_, ?_, ?_, ?_, ?_, ?_, ?_, ?_, trivial⟩
                · intro w5 hR
                  have hGw : Grow w4 w5 := hR.of_drew
                  have HGW := Lib.hid hGw
                  have hcc := ((HBR.out.trans (Below.mono HGW.out HZR.out)) |> fun k => HF2.out.below k (by omega)).cell
                  have hac := HGW.out.cell HAC.out
                  have hz5 : lo ≤ w5.heap.size := by rw [← HLO.out]; exact HGW.out.size
                  clear hR hGw
                  simp only [depV]
                  try go_simp
                  all_goals first
                    | (with_reducible exact Grow.refl _)
                    | (with_reducible exact ⟨Grow.refl _, rfl⟩)
                · intro w5 hR
                  have hGw : Grow w4 w5 := hR.of_drew
                  have HGW := Lib.hid hGw
                  have hcc := ((HBR.out.trans (Below.mono HGW.out HZR.out)) |> fun k => HF2.out.below k (by omega)).cell
                  have hac := HGW.out.cell HAC.out
                  have hz5 : lo ≤ w5.heap.size := by rw [← HLO.out]; exact HGW.out.size
                  clear hR hGw
                  simp only [depV]
                  try go_simp
                  all_goals first
                    | (with_reducible exact Grow.refl _)
                    | (with_reducible exact ⟨Grow.refl _, rfl⟩)
                · intro w5 hR
                  have hGw : Grow w4 w5 := hR.of_drew
                  have HGW := Lib.hid hGw
                  have hcc := ((HBR.out.trans (Below.mono HGW.out HZR.out)) |> fun k => HF2.out.below k (by omega)).cell
                  have hac := HGW.out.cell HAC.out
                  have hz5 : lo ≤ w5.heap.size := by rw [← HLO.out]; exact HGW.out.size
                  clear hR hGw
                  simp only [depV]
                  try go_simp
                  all_goals first
                    | (with_reducible exact Grow.refl _)
                    | (with_reducible exact ⟨Grow.refl _, rfl⟩)
                · intro w5 hR
                  have hGw : Grow w4 w5 := hR.of_drew
                  have HGW := Lib.hid hGw
                  have hcc := ((HBR.out.trans (Below.mono HGW.out HZR.out)) |> fun k => HF2.out.below k (by omega)).cell
                  have hac := HGW.out.cell HAC.out
                  have hz5 : lo ≤ w5.heap.size := by rw [← HLO.out]; exact HGW.out.size
                  clear hR hGw
                  simp only [depV]
                  try go_simp
                  all_goals first
                    | (with_reducible exact Grow.refl _)
                    | (with_reducible exact ⟨Grow.refl _, rfl⟩)
                · intro w5 hR
                  have hGw : Grow w4 w5 := hR.of_drew
                  have HGW := Lib.hid hGw
                  have hcc := ((HBR.out.trans (Below.mono HGW.out HZR.out)) |> fun k => HF2.out.below k (by omega)).cell
                  have hac := HGW.out.cell HAC.out
                  have hz5 : lo ≤ w5.heap.size := by rw [← HLO.out]; exact HGW.out.size
                  clear hR hGw
                  simp only [depV]
                  try go_simp
                  all_goals first
                    | (with_reducible exact Grow.refl _)
                    | (with_reducible exact ⟨Grow.refl _, rfl⟩)
                · intro w5 hR
                  have hGw : Grow w4 w5 := hR.of_drew
                  have HGW := Lib.hid hGw
                  have hcc := ((HBR.out.trans (Below.mono HGW.out HZR.out)) |> fun k => HF2.out.below k (by omega)).cell
                  have hac := HGW.out.cell HAC.out
                  have hz5 : lo ≤ w5.heap.size := by rw [← HLO.out]; exact HGW.out.size
                  clear hR hGw
                  simp only [depV]
                  try go_simp
                  all_goals first
                    | (with_reducible exact Grow.refl _)
                    | (with_reducible exact ⟨Grow.refl _, rfl⟩)
                · intro w5 hR
                  have hGw : Grow w4 w5 := hR.of_drew
                  have HGW := Lib.hid hGw
                  have hcc := ((HBR.out.trans (Below.mono HGW.out HZR.out)) |> fun k => HF2.out.below k (by omega)).cell
                  have hac := HGW.out.cell HAC.out
                  have hz5 : lo ≤ w5.heap.size := by rw [← HLO.out]; exact HGW.out.size
                  clear hR hGw
                  simp only [depV]
                  try go_simp
                  all_goals first
                    | (with_reducible exact Grow.refl _)
                    | (with_reducible exact ⟨Grow.refl _, rfl⟩)
                · intro w5 hR
                  have hGw : Grow w4 w5 := hR.of_drew
                  have HGW := Lib.hid hGw
                  have hcc := ((HBR.out.trans (Below.mono HGW.out HZR.out)) |> fun k => HF2.out.below k (by omega)).cell
                  have hac := HGW.out.cell HAC.out
                  have hz5 : lo ≤ w5.heap.size := by rw [← HLO.out]; exact HGW.out.size
                  clear hR hGw
                  simp only [depV]
                  rintro _ rfl
                  rintro _ rfl
                  try go_simp
                  all_goals first
                    | (with_reducible exact Grow.refl _)
                    | (with_reducible exact ⟨Grow.refl _, rfl⟩)
                · intro w5 hR
                  have hGw : Grow w4 w5 := hR.of_drew
                  have HGW := Lib.hid hGw
                  have hcc := ((HBR.out.trans (Below.mono HGW.out HZR.out)) |> fun k => HF2.out.below k (by omega)).cell
                  have hac := HGW.out.cell HAC.out
                  have hz5 : lo ≤ w5.heap.size := by rw [← HLO.out]; exact HGW.out.size
                  clear hR hGw
                  simp only [depV]
                  rintro _ rfl
                  try go_simp
                  all_goals first
                    | (with_reducible exact Grow.refl _)
                    | (with_reducible exact ⟨Grow.refl _, rfl⟩)
                · intro w5 hR
                  have hGw : Grow w4 w5 := hR.of_drew
                  have HGW := Lib.hid hGw
                  have hcc := ((HBR.out.trans (Below.mono HGW.out HZR.out)) |> fun k => HF2.out.below k (by omega)).cell
                  have hac := HGW.out.cell HAC.out
                  have hz5 : lo ≤ w5.heap.size := by rw [← HLO.out]; exact HGW.out.size
                  clear hR hGw
                  simp only [depV]
                  try go_simp
                  all_goals first
                    | (with_reducible exact Grow.refl _)
                    | (with_reducible exact ⟨Grow.refl _, rfl⟩)
                · intro w5 hR
                  have hGw : Grow w4 w5 := hR.of_drew
                  have HGW := Lib.hid hGw
                  have hcc := ((HBR.out.trans (Below.mono HGW.out HZR.out)) |> fun k => HF2.out.below k (by omega)).cell
                  have hac := HGW.out.cell HAC.out
                  have hz5 : lo ≤ w5.heap.size := by rw [← HLO.out]; exact HGW.out.size
                  clear hR hGw
                  simp only [depV]
                  rintro _ rfl
                  rintro _ rfl
                  try go_simp
                  exact ⟨Grow.refl _, HAN.out⟩
                · intro w5 hR
                  have hGw : Grow w4 w5 := hR.of_drew
                  have HGW := Lib.hid hGw
                  have hcc := ((HBR.out.trans (Below.mono HGW.out HZR.out)) |> fun k => HF2.out.below k (by omega)).cell
                  have hac := HGW.out.cell HAC.out
                  have hz5 : lo ≤ w5.heap.size := by rw [← HLO.out]; exact HGW.out.size
                  clear hR hGw
                  simp only [depV]
                  try go_simp
                  all_goals first
                    | (with_reducible exact Grow.refl _)
                    | (with_reducible exact ⟨Grow.refl _, rfl⟩)
                · intro w5 hR
                  have hGw : Grow w4 w5 := hR.of_drew
                  have HGW := Lib.hid hGw
                  have hcc := ((HBR.out.trans (Below.mono HGW.out HZR.out)) |> fun k => HF2.out.below k (by omega)).cell
                  have hac := HGW.out.cell HAC.out
                  have hz5 : lo ≤ w5.heap.size := by rw [← HLO.out]; exact HGW.out.size
                  clear hR hGw
                  simp only [depV]
                  rintro _ rfl
                  rintro _ rfl
                  rintro _ rfl
                  rintro _ rfl
                  try go_simp
                  refine (HMC.out w5 (HGB.out.trans (Below.mono HGW.out HZW.out))).mono ?_
                  rintro e w6 ⟨rfl, hb6⟩
                  exact ⟨hb6, rfl⟩
                · intro w5 hR
                  have hGw : Grow w4 w5 := hR.of_drew
                  have HGW := Lib.hid hGw
                  have hcc := ((HBR.out.trans (Below.mono HGW.out HZR.out)) |> fun k => HF2.out.below k (by omega)).cell
                  have hac := HGW.out.cell HAC.out
                  have hz5 : lo ≤ w5.heap.size := by rw [← HLO.out]; exact HGW.out.size
                  clear hR hGw
                  simp only [depV]
                  rintro _ rfl
                  rintro _ rfl
                  rintro _ rfl
                  rintro _ rfl
                  try go_simp
                  all_goals first
                    | (with_reducible exact Grow.refl _)
                    | (with_reducible exact ⟨Grow.refl _, rfl⟩)
                · intro w5 hR
                  have hGw : Grow w4 w5 := hR.of_drew
                  have HGW := Lib.hid hGw
                  have hcc := ((HBR.out.trans (Below.mono HGW.out HZR.out)) |> fun k => HF2.out.below k (by omega)).cell
                  have hac := HGW.out.cell HAC.out
                  have hz5 : lo ≤ w5.heap.size := by rw [← HLO.out]; exact HGW.out.size
                  clear hR hGw
                  simp only [depV]
                  try go_simp
                  exact ⟨Grow.alloc _ _, _, rfl, hz5, BlockIs.new _ _ _⟩
              · intro w5 hR
                have HG5 : Hid (Grow w4 w5) := Lib.hid hR.of_drew
                clear hR
                simp only [finVC, List.take_succ_cons, List.take_zero, List.drop_succ_cons, List.drop_zero]
                rintro _ rfl
                rintro _ rfl
                rintro _ rfl
                rintro _ rfl
                rintro _ rfl
                rintro _ rfl
                rintro _ rfl
                rintro _ rfl
                rintro _ rfl
                rintro _ rfl
                rintro _ rfl
                rintro _ rfl
                rintro _ rfl
                rintro _ rfl
                intro v14 hv14
                simp only [Act.put, List.setIfInBounds_toArray, List.set_cons_succ, List.set_cons_zero]
                obtain ⟨o, rfl, ho, hob⟩ := hv14
                have hoc := hob.cell
                have hof := hob.frozen
                have hlo : bb < lo := by rw [← HLO.out]; exact HZB.out
                have HO6 := Lib.hid (stores4 hob (.int .i64 (s : Nat)) (.int .i64 (x : Nat)) (.int .i64 (T : Nat)) (.int .i64 m))
                have HB6 := Lib.hid (far4 (b := o) (HG5.out.block HTR.out) (by omega) (.int .i64 (s : Nat)) (.int .i64 (x : Nat)) (.int .i64 (T : Nat)) (.int .i64 m))
                have HR6 := Lib.hid ((HBR.out.trans (Below.mono HG5.out HZR.out)).trans (below4 (w := w5) (B := bb) (b := o) (by omega) (.int .i64 (s : Nat)) (.int .i64 (x : Nat)) (.int .i64 (T : Nat)) (.int .i64 m)))
                clear hob HG5
                go_upto_region 15 with fail
                obtain ⟨w6, hw6⟩ : ∃ w6, (((w5.setCell ⟨o, 0, none⟩ (.int .i64 (s : Nat))).setCell ⟨o, 1, none⟩ (.int .i64 (x : Nat))).setCell ⟨o, 2, none⟩ (.int .i64 (T : Nat))).setCell ⟨o, 3, none⟩ (.int .i64 m) = w6 := ⟨_, rfl⟩
                rw [hw6] at HO6 HB6 HR6 ⊢
                clear hw6 hoc hof
                have HG6 : Hid (Below w.heap.size w w6) := Lib.hid (HG3.out.trans' (HR6.out.mono (by omega)))
                have HIG := Lib.hid (HIS.out w6 HG6.out)
                have hcc := (HF2.out.below HR6.out (by omega)).cell
                have hoc := HO6.out.cell
                go_wp2_with fail
                refine HIG.out.mono ?_
                rintro e w7 ⟨rfl, hb7⟩
                have HG7 : Hid (Grow w6 w7) := hb7
                have HB7 := Lib.hid (HG7.out.block HB6.out)
                have HR7 : Hid (Below bb W2 w7) := Lib.hid (HR6.out.trans (Below.mono HG7.out (by have := HB6.out.lt; omega)))
                have hoc := (HG7.out.block HO6.out).cell
                clear hb7 hcc HIG
                cases cc with
                | false =>
                  have HNX : Hid (rTo false p s g x bx (T + 1) = rTo false p s g x bx T) := rfl
                  go_wp2_with fail
                  go_roundw
                  case rel => exact ⟨T + 1, by omega, by go_num, by rw [HNX.out]; exact HB7, HR7⟩
                  case measure => simp [intOf]; omega
                | true =>
                  have HNX := Lib.hid (rTo_succ p s g x bx T)
                  rw [HMV.out] at HNX
                  have hbn : 0 ≤ (rTo true p s g x bx T).missing := HNN.out true T
                  obtain ⟨bt, hbt⟩ : ∃ z, rTo true p s g x bx T = z := ⟨_, rfl⟩
                  rw [hbt] at HB7 HNX hbn
                  have hbc := HB7.out.cell
                  clear hbt
                  by_cases hm0 : 0 < m
                  · have hd0 : decide (0 < m) = true := decide_eq_true hm0
                    by_cases hmm : bt.missing < m
                    · have hdm : decide (bt.missing < m) = true := decide_eq_true hmm
                      have HNY : Hid (rTo true p s g x bx (T + 1) = ⟨s, x, T, m⟩) := Lib.hid (by rw [HNX.out]; unfold gapMore; rw [if_pos hmm])
                      have hbf := HB7.out.frozen
                      have HB8 := Lib.hid (stores4 HB7.out (.int .i64 (s : Nat)) (.int .i64 (x : Nat)) (.int .i64 (T : Nat)) (.int .i64 m))
                      have HR8 := Lib.hid (HR7.out.trans (below4 (w := w7) (B := bb) (b := bb) (Nat.le_refl _) (.int .i64 (s : Nat)) (.int .i64 (x : Nat)) (.int .i64 (T : Nat)) (.int .i64 m)))
                      go_wp2_with fail
                      go_roundw
                      case rel => exact ⟨T + 1, by omega, by go_num, by rw [HNY.out]; exact HB8, HR8⟩
                      case measure => simp [intOf]; omega
                    · have hdm : decide (bt.missing < m) = false := decide_eq_false hmm
                      have HNY : Hid (rTo true p s g x bx (T + 1) = bt) := Lib.hid (by rw [HNX.out]; unfold gapMore; rw [if_neg hmm])
                      go_wp2_with fail
                      go_roundw
                      case rel => exact ⟨T + 1, by omega, by go_num, by rw [HNY.out]; exact HB7, HR7⟩
                      case measure => simp [intOf]; omega
                  · have hd0 : decide (0 < m) = false := decide_eq_false hm0
                    have HNY : Hid (rTo true p s g x bx (T + 1) = bt) := Lib.hid (by rw [HNX.out]; unfold gapMore; rw [if_neg (by dsimp only; omega)])
                    go_wp2_with fail
                    go_roundw
                    case rel => exact ⟨T + 1, by omega, by go_num, by rw [HNY.out]; exact HB7, HR7⟩
                    case measure => simp [intOf]; omega
            · obtain rfl : T = m8 := by omega
              have hdT : decide ((T : Int) < (T : Int)) = false := decide_eq_false (by omega)
              go_wp2_with fail
              refine (HTO.out wr HGB.out).mono ?_
              rintro e w4 ⟨rfl, hb4⟩
              have HBR4 : Hid (Below bb W2 w4) := Lib.hid (HBR.out.trans (Below.mono hb4 (by have := HTR.out.lt; omega)))
              have HTR4 : Hid (BlockIs w4 bb 36 (cellsGap (rX p s g b0 (x + 1)))) := Lib.hid (by rw [HNX.out]; exact (show Grow wr w4 from hb4).block HTR.out)
              clear hb4 hcc
              go_wp2_with fail
              go_roundw
              case rel => exact ⟨x + 1, by omega, by go_num, HTR4, HBR4⟩
              case measure => simp [intOf]; omega
        · obtain rfl : x = g + 1 := by omega
          have hdx : decide (((g + 1 : Nat) : Int) ≤ (g : Int)) = false := decide_eq_false (by omega)
          have HTN : Hid (BlockIs wx bb 36 (cellsGap (gS p gs (s + 1)))) := Lib.hid (by rw [HSS.out]; exact HTX.out)
          go_wp2_with fail
          go_roundw
          case rel => exact ⟨s + 1, by omega, by go_num, HTN, HBX⟩
          case measure => simp [intOf]; omega
    · obtain rfl : s = gs.length := by omega
      have hds : decide ((gs.length : Int) < (gs.length : Int)) = false := decide_eq_false (by omega)
      have HTW : Hid (BlockIs ws bb 36 (cellsGap (weakD p gs))) := HTS
      obtain ⟨b, hb⟩ : ∃ z, weakD p gs = z := ⟨_, rfl⟩
      rw [hb] at HTW HGI
      have HBW := Lib.hid hb
      have HNO : Hid (b.missing = 0 → b = noGap) := Lib.hid (fun h => by
        rcases HGI.out with q | ⟨q, _⟩
        · exact q
        · omega)
      have HGE : Hid (Below w.heap.size w ws) := Lib.hid (HG3.out.trans' (HBS.out.mono (by omega)))
      have HR5 := Lib.hid (HR2.out.below HBS.out (by omega))
      have hrc := HR5.out.cell
      have hrf := HR5.out.frozen
      have hbc := HTW.out.cell
      clear hb
      by_cases hm : b.missing = 0
      · have hme : (b.missing == 0) = true := by simpa using hm
        obtain rfl := HNO.out hm
        have HS5 := Lib.hid (stores4 HR5.out (.int .i64 0) (.int .i64 0) (.int .i64 0) (.int .i64 0))
        have HX5 := Lib.hid (HGE.out.trans (below4 (w := ws) (B := w.heap.size) (b := w.heap.size + 1) (by omega) (.int .i64 0) (.int .i64 0) (.int .i64 0) (.int .i64 0)))
        go_wp2
        refine bodyPost_ret (results_gap45 Try.results37 _ _ _ _ _ _ _ _ HS5.out rfl rfl) rfl ?_
        exact ⟨by rw [HBW.out]; rfl, HX5.out⟩
      · have hme : (b.missing == 0) = false := by simpa using hm
        have HE : Hid (gapErr b = 0) := Lib.hid (by unfold gapErr; rw [if_neg hm])
        have HS5 := Lib.hid (stores4 HR5.out (.int .i64 (b.slot : Nat)) (.int .i64 (b.ill : Nat)) (.int .i64 (b.tongues : Nat)) (.int .i64 b.missing))
        have HX5 := Lib.hid (HGE.out.trans (below4 (w := ws) (B := w.heap.size) (b := w.heap.size + 1) (by omega) (.int .i64 (b.slot : Nat)) (.int .i64 (b.ill : Nat)) (.int .i64 (b.tongues : Nat)) (.int .i64 b.missing)))
        go_wp2
        refine bodyPost_ret (results_gap45 Try.results37 _ _ _ _ _ _ _ _ HS5.out rfl rfl) rfl ?_
        exact ⟨by rw [HBW.out, HE.out]; rfl, HX5.out⟩

end Go.Proofs.Ytcgnibfcjadnjaa
