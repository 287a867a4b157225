/- OrderLaw: the law GlossesOrder answers true; written by wip/tools/order02.py. -/
import Derived.Test.YtinlojealfbbfaaTurned
import Derived.Deep.DeepCutAuto
namespace Go.Proofs.Ytinlojealfbbfaa
open Go.RowKit

theorem clashB_mem {a b : List GlossD} (h : ∀ x, x ∈ a → x ∈ b) (hc : ¬ Clash b) : clashB a = false := by
  cases hb : clashB a with
  | false => rfl
  | true =>
    obtain ⟨x, hx, y, hy, g⟩ := clashB_iff.1 hb
    exact absurd ⟨x, h x hx, y, h y hy, g⟩ hc
theorem err_mem {f : FilmsD} {a b : List GlossD} (h : readErr f [b] = 0) (hm : ∀ x, x ∈ a → x ∈ b) (hl : a.length ≤ 40) : readErr f [a] = 0 := by
  obtain ⟨h1, h2, _, h4⟩ := readErr_zero h
  rw [← rErr_eq]
  unfold rErrD
  have e2 : okMsgs f a = true := by
    simp only [okMsgs, Bool.and_eq_true, decide_eq_true_eq, List.all_eq_true]
    exact ⟨hl, fun x hx => h2 x (hm x hx)⟩
  rw [if_pos h1, if_pos e2, clashB_mem hm h4]
  rfl
theorem err_two {f : FilmsD} {a b c : List GlossD} (h : readErr f [c] = 0) (ha : ∀ x, x ∈ a → x ∈ c) (hb : ∀ x, x ∈ b → x ∈ c) (hla : a.length ≤ 40) (hlb : b.length ≤ 40) : readErr f [a, b] = 0 := by
  obtain ⟨h1, h2, _, h4⟩ := readErr_zero h
  have e : ∀ d : List GlossD, (∀ x, x ∈ d → x ∈ c) → d.length ≤ 40 → listErr f d = 0 := fun d hd hl => by
    refine listErr_ok ?_ (clashB_mem hd h4)
    simp only [okMsgs, Bool.and_eq_true, decide_eq_true_eq, List.all_eq_true]
    exact ⟨hl, fun x hx => h2 x (hd x hx)⟩
  unfold readErr
  have e2 : listsErr f [a, b] = 0 := listsErr_ok fun d hd => by
    simp only [List.mem_cons, List.not_mem_nil, or_false] at hd
    rcases hd with rfl | rfl
    · exact e _ ha hla
    · exact e _ hb hlb
  rw [if_pos h1, if_pos e2, clashB_mem (b := c) (fun x hx => by
    simp only [List.flatten_cons, List.flatten_nil, List.append_nil, List.mem_append] at hx
    rcases hx with hx | hx
    · exact ha x hx
    · exact hb x hx) h4]
  rfl
/-- what Merge answers for messages that are those of a list in order -/
theorem mergeApi_sorted (f : FilmsR) (a b ms all : List GlossD) (A B : Option Addr) (c d n : Nat) (w : World) (hf : Ints w n f.A f.d.frames) (hA : GlossAt w n A a) (hB : GlossAt w n B b) (hn : n ≤ w.heap.size) (hfl : f.d.frames.length ≤ 1000000)
    (h : readErr f.d [ms] = 0) (hs : SortedG ms all) (hm : ∀ x, x ∈ a ++ b ↔ x ∈ ms) (hl : a.length + b.length ≤ 40) :
    Calls Try.prog 19 #[filmsV f, .slice A a.length c, .slice B b.length d] w fun e w' => ∃ v, e = .returned (.tuple #[v, .int .i64 0]) ∧ IsRowG all v w' ∧ Below w.heap.size w w' := by
  have he := err_two h (fun x hx => (hm x).1 (List.mem_append_left _ hx)) (fun x hx => (hm x).1 (List.mem_append_right _ hx)) (show a.length ≤ 40 by omega) (show b.length ≤ 40 by omega)
  have hmg := merge_any sortG_ok f a b A B c d n w hf hA hB hn hfl (by omega) (by omega) (fun _ _ => hl)
  rw [he] at hmg
  refine hmg.mono ?_
  rintro e w' ⟨v, rfl, hv, hb⟩
  obtain ⟨A', c', all', rfl, hso, ht⟩ := hv.2 rfl
  have e : all' = all := SortedG.unique (ms := ms) ⟨hso.1, fun x => (hso.2 x).trans (hm x)⟩ hs
  subst e
  exact ⟨_, rfl, ⟨A', c', rfl, ht.at_⟩, hb⟩
def MergeT (all : List GlossD) (v : Value) (w : World) : Prop := ∃ u, v = .tuple #[u, .int .i64 0] ∧ IsRowG all u w
theorem MergeT.grow {all : List GlossD} {v : Value} {a b : World} (h : MergeT all v a) (g : Grow a b) : MergeT all v b := by
  obtain ⟨u, e, h⟩ := h
  exact ⟨u, e, h.grow g⟩
theorem SortedG.of_mem {a b all : List GlossD} (h : SortedG a all) (hm : ∀ x, x ∈ a ↔ x ∈ b) : SortedG b all := ⟨h.1, fun x => (h.2 x).trans (hm x)⟩

set_option maxRecDepth 100000 in
set_option maxHeartbeats 16000000 in
theorem glossesOrder_any (f : FilmsR) (l : List GlossD) (A : Option Addr) (cap : Nat) (x : MixD) (w : World) (hf : Ints w w.heap.size f.A f.d.frames) (hA : GlossAt w w.heap.size A l) :
    Calls Try.prog 3 #[filmsV f, .slice A l.length cap, mixV x] w fun e w' => e = .returned (.bool true) ∧ Below w.heap.size w w' := by
  have HI := Lib.hid (fun (w0 : World) (hw : Grow w w0) => (hf.below hw).more hw.size)
  have HGL := Lib.hid (fun (w0 : World) (hw : Grow w w0) => (hA.below hw).more hw.size)
  have HV := Lib.hid (fun (w0 : World) (hw : Grow w w0) => valid_any f l A cap w0.heap.size w0 (HI.out w0 hw) (HGL.out w0 hw) (Nat.le_refl _))
  have HVF := Lib.hid (fun (h : validD f.d l = true) => valid_facts h)
  obtain ⟨vd, hvd⟩ : ∃ q, validD f.d l = q := ⟨_, rfl⟩
  rw [hvd] at HV HVF
  obtain ⟨xa, xc, tw⟩ := x
  clear hvd hf hA
  go_enter Try.func3, Try.ntmps3
  go_upto_region 1 with fail
  obtain ⟨W, hW, hg, hf, hs, hsz⟩ := two_blocks w 24 27 (cellsF f) (cellsX ⟨xa, xc, tw⟩)
  rw [hW]
  clear hW
  have hcc := hf.cell
  have hsc := hs.cell
  have HF := Lib.hid hf
  have HS := Lib.hid hs
  have HG := Lib.hid hg
  clear hf hs hg
  go_wp2_with fail
  refine (HV.out W HG.out).mono ?_
  rintro e w1 ⟨rfl, hb1⟩
  have HG1 : Hid (Grow W w1) := hb1
  clear hb1 hcc hsc HV
  cases vd with
  | false =>
    go_wp2_with fail
    refine (works_any _).mono ?_
    rintro e w2 ⟨rfl, hb2⟩
    go_wp2
    go_ret
    exact ⟨rfl, HG.out.trans (HG1.out.trans hb2)⟩
  | true =>
    obtain ⟨hok, hgl, hl12, hncl, hre, hfl4⟩ := HVF.out (by first | rfl | trivial)
    have HOK := Lib.hid hok
    have HRE := Lib.hid hre
    have HGO := Lib.hid hgl
    have HNC := Lib.hid hncl
    clear HVF hok hgl hncl hre
    have hl9 : l.length ≤ 1000 := by omega
    have hf9 : f.d.frames.length ≤ 1000000 := by omega
    have hsc := (HG1.out.block HS.out).cell
    by_cases c1 : xa < 0
    · have d1 : decide (xa < 0) = true := decide_eq_true c1
      go_wp2_with fail
      refine (works_any _).mono ?_
      rintro e w2 ⟨rfl, hb2⟩
      go_wp2
      go_ret
      exact ⟨rfl, HG.out.trans (HG1.out.trans hb2)⟩
    · have d1 : decide (xa < 0) = false := decide_eq_false c1
      by_cases c2 : 1000 < xa
      · have d2 : decide (1000 < xa) = true := decide_eq_true c2
        go_wp2_with fail
        refine (works_any _).mono ?_
        rintro e w2 ⟨rfl, hb2⟩
        go_wp2
        go_ret
        exact ⟨rfl, HG.out.trans (HG1.out.trans hb2)⟩
      · have d2 : decide (1000 < xa) = false := decide_eq_false c2
        by_cases c3 : xc < 0
        · have d3 : decide (xc < 0) = true := decide_eq_true c3
          go_wp2_with fail
          refine (works_any _).mono ?_
          rintro e w2 ⟨rfl, hb2⟩
          go_wp2
          go_ret
          exact ⟨rfl, HG.out.trans (HG1.out.trans hb2)⟩
        · have d3 : decide (xc < 0) = false := decide_eq_false c3
          by_cases c4 : (l.length : Int) < xc
          · have d4 : decide ((l.length : Int) < xc) = true := decide_eq_true c4
            go_wp2_with fail
            refine (works_any _).mono ?_
            rintro e w2 ⟨rfl, hb2⟩
            go_wp2
            go_ret
            exact ⟨rfl, HG.out.trans (HG1.out.trans hb2)⟩
          · have d4 : decide ((l.length : Int) < xc) = false := decide_eq_false c4
            obtain ⟨a, rfl⟩ := Int.eq_ofNat_of_zero_le (show 0 ≤ xa by omega)
            obtain ⟨c, rfl⟩ := Int.eq_ofNat_of_zero_le (show 0 ≤ xc by omega)
            have ha9 : a ≤ 1000 := by omega
            have hcl : c ≤ l.length := by omega
            clear c1 c2 c3 c4
            go_wp2_with fail
            refine (turned_any l A cap w1.heap.size a c tw w1 (HGL.out w1 (HG.out.trans HG1.out)) (Nat.le_refl _) hl9 ha9).mono ?_
            rintro e w2 ⟨Ao, co, rfl, hto, hb2⟩
            have HTO := Lib.hid hto
            have HTM := Lib.hid (fun (x : GlossD) => turnD_mem (l := l) (a := a) (tw := tw) (x := x))
            have hlen := turnD_len l a tw
            obtain ⟨other, hother⟩ : ∃ q, turnD l a tw = q := ⟨_, rfl⟩
            rw [hother] at HTO HTM hlen ⊢
            have hln1 := hlen.1
            have hln2 := hlen.2
            have hlo9 : other.length ≤ 1000 := by omega
            have HG2 : Hid (Grow W w2) := Lib.hid (HG1.out.trans hb2)
            have HREO : Hid (readErr f.d [other] = 0) := Lib.hid (err_mem HRE.out (fun x hx => (HTM.out x).1 hx) (by omega))
            clear hto hb2 hother hlen hsc d1 d2 d3 d4
            have hcc := (HG2.out.block HF.out).cell
            have HHL := Lib.hid (fun (w0 : World) (hw : Grow w w0) => held_any sortG_ok f l A cap w0.heap.size w0 (HI.out w0 hw) (HGL.out w0 hw) (Nat.le_refl _) hf9 hl9)
            have HHO := Lib.hid (fun (w0 : World) (hw : Grow w2 w0) => held_any sortG_ok f other Ao co w0.heap.size w0 (HI.out w0 ((HG.out.trans HG2.out).trans hw)) ((HTO.out.grow hw).at_) (Nat.le_refl _) hf9 hlo9)
            rw [HRE.out] at HHL
            rw [HREO.out] at HHO
            go_wp2_with fail
            refine (HHL.out _ (HG.out.trans HG2.out)).mono ?_
            rintro e w3 ⟨v3, rfl, hv3, hb3⟩
            obtain ⟨A3, c3, all, rfl, hso, ht3⟩ := hv3.2 rfl
            have HSO := Lib.hid hso
            have HT3 := Lib.hid ht3
            have HG3 : Hid (Grow w2 w3) := hb3
            clear hv3 hso ht3 hb3 hcc HHL
            have hcc := ((HG2.out.trans HG3.out).block HF.out).cell
            go_wp2_with fail
            refine (HHO.out _ HG3.out).mono ?_
            rintro e w4 ⟨v4, rfl, hv4, hb4⟩
            obtain ⟨A4, c4, all4, rfl, hso4, ht4⟩ := hv4.2 rfl
            obtain rfl : all4 = all := SortedG.unique (ms := l) (hso4.of_mem HTM.out) HSO.out
            have HG4 : Hid (Grow w2 w4) := Lib.hid (HG3.out.trans hb4)
            have HSM := Lib.hid (lsame_any (all4.filter (holdsD all4)) (all4.filter (holdsD all4)) A3 A4 c3 c4 w4.heap.size w4.heap.size w4 ((HT3.out.grow hb4).at_) ht4.at_ (by
              refine Nat.le_trans (List.length_filter_le _ _) ?_
              have h1 : all4.Nodup := HSO.out.1.imp (fun {a b} h e => by subst e; rw [cmp_cmpG.self] at h; omega)
              have h2 := nodup_len h1 (fun x hx => (HSO.out.2 x).1 hx)
              omega))
            rw [decide_eq_true rfl] at HSM
            have hall9 : all4.length ≤ 12 := by
              have h1 : all4.Nodup := HSO.out.1.imp (fun {a b} h e => by subst e; rw [cmp_cmpG.self] at h; omega)
              have h2 := nodup_len h1 (fun x hx => (HSO.out.2 x).1 hx)
              omega
            clear hv4 hso4 ht4 hb4 hcc HHO HG3 HT3
            generalize hn4 : (all4.filter (holdsD all4)).length = n4 at HSM ⊢
            clear hn4
            go_wp2_with fail
            refine HSM.out.mono ?_
            rintro e w5 ⟨rfl, nq, rfl⟩
            have HG5 : Hid (Grow w2 (w4.drewN nq)) := Lib.hid (Below.drewN_ HG4.out nq)
            clear HSM HG4
            generalize w4.drewN nq = wl at HG5 ⊢
            go_wp2_with fail
            go_loopw [12] (fun i wr => ∃ k : Nat, k ≤ f.d.frames.length ∧ i = .int .i64 k ∧ Grow w2 wr) (fun i _ => f.d.frames.length - (intOf i).toNat)
            case atStart => exact ⟨0, Nat.zero_le _, rfl, HG5.out⟩
            case round =>
              obtain ⟨k, hk, rfl, hgr⟩ := hrel
              rename World => wr
              have HGR := Lib.hid hgr
              have hcc := ((HG2.out.trans hgr).block HF.out).cell
              clear hgr
              by_cases hlt : k < f.d.frames.length
              · have hkd : decide ((k : Int) < (f.d.frames.length : Int)) = true := decide_eq_true (by omega)
                have hkdn : decide (k < f.d.frames.length) = true := decide_eq_true hlt
                have HRA := Lib.hid (fun (w0 : World) (hw : Grow w w0) => readingsApi_any sortG_ok f l A cap k w0.heap.size w0 (HI.out w0 hw) (HGL.out w0 hw) (Nat.le_refl _) hf9 hl9)
                have HRB := Lib.hid (fun (w0 : World) (hw : Grow w2 w0) => readingsApi_any sortG_ok f other Ao co k w0.heap.size w0 (HI.out w0 ((HG.out.trans HG2.out).trans hw)) ((HTO.out.grow hw).at_) (Nat.le_refl _) hf9 hlo9)
                rw [film_zero HRE.out (by omega) (by omega)] at HRA
                rw [film_zero HREO.out (by omega) (by omega)] at HRB
                go_wp2_with fail
                refine (HRA.out _ (HG.out.trans (HG2.out.trans HGR.out))).mono ?_
                rintro e w7 ⟨v7, rfl, hrv, hb7⟩
                obtain ⟨A7, c7, all7, rfl, hso7, hrt7⟩ := hrv.2 rfl
                obtain rfl := hso7.unique HSO.out
                have HT7 := Lib.hid hrt7
                have HG7 : Hid (Grow w2 w7) := Lib.hid (HGR.out.trans hb7)
                clear hrv hso7 hrt7 hb7 hcc HRA
                have hcc := ((HG2.out.trans HG7.out).block HF.out).cell
                go_wp2_with fail
                refine (HRB.out _ HG7.out).mono ?_
                rintro e w8 ⟨v8, rfl, hrv, hb8⟩
                obtain ⟨A8, c8, all8, rfl, hso8, hrt8⟩ := hrv.2 rfl
                obtain rfl : all8 = all7 := SortedG.unique (ms := l) (hso8.of_mem HTM.out) HSO.out
                have HG8 : Hid (Grow w2 w8) := Lib.hid (HG7.out.trans hb8)
                have hfo := frameOf_at HOK.out (k := (k : Int)) (by omega) (by omega)
                have hrl := rds_len (setAt f.d.signs.toNat (all8.filter (holdsD all8)) k) (f := f.d) (film := k) (by omega)
                have HSR := Lib.hid (lsameR_any _ _ A7 A8 c7 c8 w8.heap.size w8.heap.size w8 ((HT7.out.grow hb8).at_) hrt8.at_ (by omega))
                rw [decide_eq_true rfl] at HSR
                generalize (rdsTo (setAt f.d.signs.toNat (all8.filter (holdsD all8)) k) (frameOf f.d k).toNat).length = rl at HSR ⊢
                clear hrv hso8 hrt8 hb8 hcc HRB HG7 HT7 hfo hrl
                go_wp2_with fail
                refine HSR.out.mono ?_
                rintro e w9 ⟨rfl, nq, rfl⟩
                go_wp2
                go_roundw
                case rel => exact ⟨k + 1, hlt, by go_num, Below.drewN_ HG8.out nq⟩
                case measure => simp [intOf]; omega
              · obtain rfl : k = f.d.frames.length := by omega
                have hkd : decide ((f.d.frames.length : Int) < (f.d.frames.length : Int)) = false := by simp
                have hkdn : decide (f.d.frames.length < f.d.frames.length) = false := by simp
                have HM1 := Lib.hid (fun (w0 : World) (hw : Grow w w0) => mergeApi_sorted f l [] l all4 A none cap 0 w0.heap.size w0 (HI.out w0 hw) (HGL.out w0 hw) (.inl rfl) (Nat.le_refl _) hf9 HRE.out HSO.out (fun x => by simp) (by simp; omega))
                clear hlt
                go_wp2_with fail
                refine (HM1.out _ (HG.out.trans (HG2.out.trans HGR.out))).mono ?_
                rintro e wa ⟨v9, rfl, hrow9, hb9⟩
                obtain ⟨A9, c9, rfl, hat9⟩ := hrow9
                have HAT9 := Lib.hid hat9
                have HGA : Hid (Grow w2 wa) := Lib.hid (HGR.out.trans hb9)
                have HFC := Lib.hid ((HG2.out.trans HGA.out).block HF.out)
                have HXC := Lib.hid ((HG2.out.trans HGA.out).block HS.out)
                clear hat9 hb9 hcc HM1 HGR
                obtain ⟨bx, ebx⟩ : ∃ q, w.heap.size + 1 = q := ⟨_, rfl⟩
                rw [ebx] at HXC ⊢
                clear ebx
                have hno := HTO.out.le
                have hcno : c ≤ other.length := by omega
                have HTW : Hid (GlossT wa w1.heap.size Ao co other) := Lib.hid (HTO.out.grow HGA.out)
                have HPS : Hid (∀ x, x ∈ other.take c ++ other.drop c ↔ x ∈ l) := Lib.hid (fun x => by rw [List.take_append_drop]; exact HTM.out x)
                have HSP : Hid (∀ x, x ∈ other.drop c ++ other.take c ↔ x ∈ l) := Lib.hid (fun x => by
                  rw [← HPS.out x, List.mem_append, List.mem_append]; exact Or.comm)
                have HLP : Hid ((other.take c).length = c) := Lib.hid (by rw [List.length_take]; omega)
                have HLS : Hid ((other.drop c).length = other.length - c) := Lib.hid (by rw [List.length_drop])
                have HIW := Lib.hid (fun (w0 : World) (hw : Grow wa w0) => HI.out w0 ((HG.out.trans (HG2.out.trans HGA.out)).trans hw))
                have HMM := Lib.hid (fun (A2 : Option Addr) (c1 c2 : Nat) (w0 : World) (hw : Grow wa w0) (h1 : GlossAt w0 w0.heap.size Ao (other.take c)) (h2 : GlossAt w0 w0.heap.size A2 (other.drop c)) => mergeApi_sorted f (other.take c) (other.drop c) l all4 Ao A2 c1 c2 w0.heap.size w0 (HIW.out w0 hw) h1 h2 (Nat.le_refl _) hf9 HRE.out HSO.out HPS.out (by rw [HLP.out, HLS.out]; omega))
                have HMM2 := Lib.hid (fun (A2 : Option Addr) (c1 c2 : Nat) (w0 : World) (hw : Grow wa w0) (h1 : GlossAt w0 w0.heap.size Ao (other.take c)) (h2 : GlossAt w0 w0.heap.size A2 (other.drop c)) => mergeApi_sorted f (other.drop c) (other.take c) l all4 A2 Ao c2 c1 w0.heap.size w0 (HIW.out w0 hw) h2 h1 (Nat.le_refl _) hf9 HRE.out HSO.out HSP.out (by rw [HLP.out, HLS.out]; omega))
                rw [HLP.out, HLS.out] at HMM HMM2
                have HPT := Lib.hid (fun (w0 : World) (hw : Grow wa w0) => GlossAt.take ((HTW.out.grow hw).at_) c)
                have HNL : Hid (other = [] → other.take c = [] ∧ other.drop c = []) := Lib.hid (fun e => by rw [e]; simp)
                have HDE : Hid (other.length ≤ c → other.drop c = []) := Lib.hid (fun h => List.drop_eq_nil_of_le h)
                obtain ⟨no, hno2⟩ : ∃ q, other.length = q := ⟨_, rfl⟩
                have HON : Hid (other = [] → no = 0) := Lib.hid (fun e => by rw [← hno2, e]; rfl)
                rw [hno2] at hno hcno HMM HMM2 HDE ⊢
                have HGA0 : Hid (Grow w wa) := Lib.hid (HG.out.trans (HG2.out.trans HGA.out))
                have HLA : Hid (∀ (w0 : World) (A5 : Option Addr) (c5 : Nat), Grow wa w0 → GlossAt w0 w0.heap.size A5 all4 → Calls Try.prog 16 #[.slice A9 all4.length c9, .slice A5 all4.length c5] w0 fun e w' => e = .returned (.bool true) ∧ ∃ q, w' = w0.drewN q) := Lib.hid (fun w0 A5 c5 hw h5 => by
                  have h := lsame_any all4 all4 A9 A5 c9 c5 w0.heap.size w0.heap.size w0 ((HAT9.out.below hw).more hw.size) h5 (by omega)
                  rwa [decide_eq_true rfl] at h)
                clear hno2 HPS HSP HLP HLS HIW HTM HREO HAT9 hln1 hln2 hall9 hlo9 HGA HG2 HG5
                go_upto_region 16 with fail
                obtain ⟨all, hal⟩ : ∃ q, all4 = q := ⟨_, rfl⟩
                rw [hal] at HMM HMM2 HLA ⊢
                clear hal
                rcases own_parts HTW.out with ⟨rfl, rfl, hnil⟩ | ⟨g, rfl⟩
                · obtain rfl : no = 0 := HON.out hnil
                  obtain rfl : c = 0 := by omega
                  have HMG := Lib.hid (fun (w0 : World) (hw : Grow wa w0) => HMM.out none 0 0 w0 hw (HPT.out w0 hw) (.inl (HNL.out hnil).2))
                  have HMG2 := Lib.hid (fun (w0 : World) (hw : Grow wa w0) => HMM2.out none 0 0 w0 hw (HPT.out w0 hw) (.inl (HNL.out hnil).2))
                  rw [Nat.sub_zero] at HMG HMG2
                  clear hnil
                  refine wp_region_lit 15 [[], [], [], [(2, 119)], [(1, 118), (3, 120)], [], [], [(6, 123)], [(5, 122), (7, 124)], [(0, 117), (4, 121), (8, 125)], [(9, 126)], [(10, 116)], [(10, 116)], [(11, 127)], [(12, 128)]] Grow (fun qi v w' => match qi with
                      | 0 => v = filmsV f
                      | 1 => v = .slice none 0 0
                      | 2 => v = .pointer (some ⟨bx, 1, none⟩)
                      | 3 => v = .int .i64 0
                      | 4 => v = .slice none 0 0
                      | 5 => v = .slice none 0 0
                      | 6 => v = .pointer (some ⟨bx, 1, none⟩)
                      | 7 => v = .int .i64 0
                      | 8 => v = .slice none 0 0
                      | 9 => MergeT all v w'
                      | 10 => MergeT all v w'
                      | 11 => IsRowG all v w'
                      | 12 => v = .int .i64 0
                      | 13 => IsRowG all v w'
                      | 14 => v = .int .i64 0
                      | _ => False) (by kernel_rfl) (by kernel_rfl) (fun _ _ _ => Grow.trans) Grow.refl ?_ ?_ ?_
                  · intro i v y y' h k
                    match i, h with
                    | 9, h => exact h.grow k
                    | 10, h => exact h.grow k
                    | 11, h => exact h.grow k
                    | 13, h => exact h.grow k
                    | 0, h | 1, h | 2, h | 3, h | 4, h | 5, h | 6, h | 7, h | 8, h | 12, h | 14, h => exact h
                  · simp only [StepsLit, List.take_succ_cons, List.take_zero]
                    refine ⟨?_, ?_, ?_, ?_, ?_, ?_, ?_, ?_, ?_, ?_, ?_, ?_, ?_, ?_, ?_, trivial⟩
                    · intro w5 hR
                      have hGw : Grow wa w5 := hR.of_drew
                      have HGW := Lib.hid hGw
                      have hcc := (HGW.out.block HFC.out).cell
                      have hxc := (HGW.out.block HXC.out).cell
                      clear hR hGw
                      simp only [depV]
                      try go_simp
                      all_goals first
                        | (with_reducible exact Grow.refl _)
                        | (with_reducible exact ⟨Grow.refl _, rfl⟩)
                    · intro w5 hR
                      have hGw : Grow wa w5 := hR.of_drew
                      have HGW := Lib.hid hGw
                      have hcc := (HGW.out.block HFC.out).cell
                      have hxc := (HGW.out.block HXC.out).cell
                      clear hR hGw
                      simp only [depV]
                      try go_simp
                      all_goals first
                        | (with_reducible exact Grow.refl _)
                        | (with_reducible exact ⟨Grow.refl _, rfl⟩)
                    · intro w5 hR
                      have hGw : Grow wa w5 := hR.of_drew
                      have HGW := Lib.hid hGw
                      have hcc := (HGW.out.block HFC.out).cell
                      have hxc := (HGW.out.block HXC.out).cell
                      clear hR hGw
                      simp only [depV]
                      try go_simp
                      all_goals first
                        | (with_reducible exact Grow.refl _)
                        | (with_reducible exact ⟨Grow.refl _, rfl⟩)
                    · intro w5 hR
                      have hGw : Grow wa w5 := hR.of_drew
                      have HGW := Lib.hid hGw
                      have hcc := (HGW.out.block HFC.out).cell
                      have hxc := (HGW.out.block HXC.out).cell
                      clear hR hGw
                      simp only [depV]
                      rintro _ rfl
                      try go_simp
                      all_goals first
                        | (with_reducible exact Grow.refl _)
                        | (with_reducible exact ⟨Grow.refl _, rfl⟩)
                    · intro w5 hR
                      have hGw : Grow wa w5 := hR.of_drew
                      have HGW := Lib.hid hGw
                      have hcc := (HGW.out.block HFC.out).cell
                      have hxc := (HGW.out.block HXC.out).cell
                      clear hR hGw
                      simp only [depV]
                      rintro _ rfl
                      rintro _ rfl
                      try go_simp
                      all_goals first
                        | (with_reducible exact Grow.refl _)
                        | (with_reducible exact ⟨Grow.refl _, rfl⟩)
                    · intro w5 hR
                      have hGw : Grow wa w5 := hR.of_drew
                      have HGW := Lib.hid hGw
                      have hcc := (HGW.out.block HFC.out).cell
                      have hxc := (HGW.out.block HXC.out).cell
                      clear hR hGw
                      simp only [depV]
                      try go_simp
                      all_goals first
                        | (with_reducible exact Grow.refl _)
                        | (with_reducible exact ⟨Grow.refl _, rfl⟩)
                    · intro w5 hR
                      have hGw : Grow wa w5 := hR.of_drew
                      have HGW := Lib.hid hGw
                      have hcc := (HGW.out.block HFC.out).cell
                      have hxc := (HGW.out.block HXC.out).cell
                      clear hR hGw
                      simp only [depV]
                      try go_simp
                      all_goals first
                        | (with_reducible exact Grow.refl _)
                        | (with_reducible exact ⟨Grow.refl _, rfl⟩)
                    · intro w5 hR
                      have hGw : Grow wa w5 := hR.of_drew
                      have HGW := Lib.hid hGw
                      have hcc := (HGW.out.block HFC.out).cell
                      have hxc := (HGW.out.block HXC.out).cell
                      clear hR hGw
                      simp only [depV]
                      rintro _ rfl
                      try go_simp
                      all_goals first
                        | (with_reducible exact Grow.refl _)
                        | (with_reducible exact ⟨Grow.refl _, rfl⟩)
                    · intro w5 hR
                      have hGw : Grow wa w5 := hR.of_drew
                      have HGW := Lib.hid hGw
                      have hcc := (HGW.out.block HFC.out).cell
                      have hxc := (HGW.out.block HXC.out).cell
                      clear hR hGw
                      simp only [depV]
                      rintro _ rfl
                      rintro _ rfl
                      try go_simp
                      all_goals first
                        | (with_reducible exact Grow.refl _)
                        | (with_reducible exact ⟨Grow.refl _, rfl⟩)
                    · intro w5 hR
                      have hGw : Grow wa w5 := hR.of_drew
                      have HGW := Lib.hid hGw
                      have hcc := (HGW.out.block HFC.out).cell
                      have hxc := (HGW.out.block HXC.out).cell
                      clear hR hGw
                      simp only [depV]
                      rintro _ rfl
                      rintro _ rfl
                      rintro _ rfl
                      clear hcc hxc
                      try go_simp
                      refine (HMG.out w5 HGW.out).mono ?_
                      rintro e w6 ⟨v, rfl, hrow, hb6⟩
                      exact ⟨hb6, v, rfl, hrow⟩
                    · intro w5 hR
                      have hGw : Grow wa w5 := hR.of_drew
                      have HGW := Lib.hid hGw
                      have hcc := (HGW.out.block HFC.out).cell
                      have hxc := (HGW.out.block HXC.out).cell
                      clear hR hGw
                      simp only [depV]
                      intro v9 hv9
                      obtain ⟨u9, rfl, hu9⟩ := hv9
                      try go_simp
                      first
                        | exact ⟨Grow.refl _, u9, rfl, hu9⟩
                        | exact Grow.refl _
                    · intro w5 hR
                      have hGw : Grow wa w5 := hR.of_drew
                      have HGW := Lib.hid hGw
                      have hcc := (HGW.out.block HFC.out).cell
                      have hxc := (HGW.out.block HXC.out).cell
                      clear hR hGw
                      simp only [depV]
                      intro v10 hv10
                      obtain ⟨u10, rfl, hu10⟩ := hv10
                      try go_simp
                      first
                        | exact ⟨Grow.refl _, hu10⟩
                        | exact Grow.refl _
                    · intro w5 hR
                      have hGw : Grow wa w5 := hR.of_drew
                      have HGW := Lib.hid hGw
                      have hcc := (HGW.out.block HFC.out).cell
                      have hxc := (HGW.out.block HXC.out).cell
                      clear hR hGw
                      simp only [depV]
                      intro v10 hv10
                      obtain ⟨u10, rfl, hu10⟩ := hv10
                      try go_simp
                      all_goals first
                        | (with_reducible exact Grow.refl _)
                        | (with_reducible exact ⟨Grow.refl _, rfl⟩)
                    · intro w5 hR
                      have hGw : Grow wa w5 := hR.of_drew
                      have HGW := Lib.hid hGw
                      have hcc := (HGW.out.block HFC.out).cell
                      have hxc := (HGW.out.block HXC.out).cell
                      clear hR hGw
                      simp only [depV]
                      intro v11 hv11
                      try go_simp
                      first
                        | exact ⟨Grow.refl _, hv11⟩
                        | exact Grow.refl _
                    · intro w5 hR
                      have hGw : Grow wa w5 := hR.of_drew
                      have HGW := Lib.hid hGw
                      have hcc := (HGW.out.block HFC.out).cell
                      have hxc := (HGW.out.block HXC.out).cell
                      clear hR hGw
                      simp only [depV]
                      rintro _ rfl
                      try go_simp
                      all_goals first
                        | (with_reducible exact Grow.refl _)
                        | (with_reducible exact ⟨Grow.refl _, rfl⟩)
                  · intro w5 hR
                    have HG5 : Hid (Grow wa w5) := Lib.hid hR.of_drew
                    clear hR
                    simp only [finVC, List.take_succ_cons, List.take_zero, List.drop_succ_cons, List.drop_zero]
                    rintro _ rfl
                    rintro _ rfl
                    rintro _ rfl
                    rintro _ rfl
                    rintro _ rfl
                    rintro _ rfl
                    rintro _ rfl
                    rintro _ rfl
                    rintro _ rfl
                    intro v9 hv9
                    intro v10 hv10
                    intro v11 hv11
                    rintro _ rfl
                    intro v13 hv13
                    rintro _ rfl
                    simp only [Act.put, List.setIfInBounds_toArray, List.set_cons_succ, List.set_cons_zero]
                    clear hv9 hv10 hv11
                    obtain ⟨A13, c13, rfl, h13⟩ := hv13
                    have H13 := Lib.hid h13
                    clear h13
                    go_upto_region 17 with fail
                    obtain ⟨wb, hwb⟩ : ∃ q, w5 = q := ⟨_, rfl⟩
                    subst hwb
                    have HGB : Hid (Grow wa w5) := HG5
                    replace HMG2 := Lib.hid (fun (w0 : World) (hw : Grow w5 w0) => HMG2.out w0 (HGB.out.trans hw))
                    replace HFC := Lib.hid (HGB.out.block HFC.out)
                    replace HXC := Lib.hid (HGB.out.block HXC.out)
                    clear HG5 HMG
                    obtain ⟨wb, hwb⟩ : ∃ q, w5 = q := ⟨_, rfl⟩
                    rw [hwb] at HGB HMG2 HFC HXC H13 ⊢
                    clear hwb
                    refine wp_region_lit 15 [[], [], [], [(2, 132)], [(1, 131), (3, 133)], [], [], [(6, 136)], [(5, 135), (7, 137)], [(0, 130), (4, 134), (8, 138)], [(9, 139)], [(10, 129)], [(10, 129)], [(11, 140)], [(12, 141)]] Grow (fun qi v w' => match qi with
                        | 0 => v = filmsV f
                        | 1 => v = .slice none 0 0
                        | 2 => v = .pointer (some ⟨bx, 1, none⟩)
                        | 3 => v = .int .i64 0
                        | 4 => v = .slice none 0 0
                        | 5 => v = .slice none 0 0
                        | 6 => v = .pointer (some ⟨bx, 1, none⟩)
                        | 7 => v = .int .i64 0
                        | 8 => v = .slice none 0 0
                        | 9 => MergeT all v w'
                        | 10 => MergeT all v w'
                        | 11 => IsRowG all v w'
                        | 12 => v = .int .i64 0
                        | 13 => IsRowG all v w'
                        | 14 => v = .int .i64 0
                        | _ => False) (by kernel_rfl) (by kernel_rfl) (fun _ _ _ => Grow.trans) Grow.refl ?_ ?_ ?_
                    · intro i v y y' h k
                      match i, h with
                      | 9, h => exact h.grow k
                      | 10, h => exact h.grow k
                      | 11, h => exact h.grow k
                      | 13, h => exact h.grow k
                      | 0, h | 1, h | 2, h | 3, h | 4, h | 5, h | 6, h | 7, h | 8, h | 12, h | 14, h => exact h
                    · simp only [StepsLit, List.take_succ_cons, List.take_zero]
                      refine ⟨?_, ?_, ?_, ?_, ?_, ?_, ?_, ?_, ?_, ?_, ?_, ?_, ?_, ?_, ?_, trivial⟩
                      · intro w5 hR
                        have hGw : Grow wb w5 := hR.of_drew
                        have HGW := Lib.hid hGw
                        have hcc := (HGW.out.block HFC.out).cell
                        have hxc := (HGW.out.block HXC.out).cell
                        clear hR hGw
                        simp only [depV]
                        try go_simp
                        all_goals first
                          | (with_reducible exact Grow.refl _)
                          | (with_reducible exact ⟨Grow.refl _, rfl⟩)
                      · intro w5 hR
                        have hGw : Grow wb w5 := hR.of_drew
                        have HGW := Lib.hid hGw
                        have hcc := (HGW.out.block HFC.out).cell
                        have hxc := (HGW.out.block HXC.out).cell
                        clear hR hGw
                        simp only [depV]
                        try go_simp
                        all_goals first
                          | (with_reducible exact Grow.refl _)
                          | (with_reducible exact ⟨Grow.refl _, rfl⟩)
                      · intro w5 hR
                        have hGw : Grow wb w5 := hR.of_drew
                        have HGW := Lib.hid hGw
                        have hcc := (HGW.out.block HFC.out).cell
                        have hxc := (HGW.out.block HXC.out).cell
                        clear hR hGw
                        simp only [depV]
                        try go_simp
                        all_goals first
                          | (with_reducible exact Grow.refl _)
                          | (with_reducible exact ⟨Grow.refl _, rfl⟩)
                      · intro w5 hR
                        have hGw : Grow wb w5 := hR.of_drew
                        have HGW := Lib.hid hGw
                        have hcc := (HGW.out.block HFC.out).cell
                        have hxc := (HGW.out.block HXC.out).cell
                        clear hR hGw
                        simp only [depV]
                        rintro _ rfl
                        try go_simp
                        all_goals first
                          | (with_reducible exact Grow.refl _)
                          | (with_reducible exact ⟨Grow.refl _, rfl⟩)
                      · intro w5 hR
                        have hGw : Grow wb w5 := hR.of_drew
                        have HGW := Lib.hid hGw
                        have hcc := (HGW.out.block HFC.out).cell
                        have hxc := (HGW.out.block HXC.out).cell
                        clear hR hGw
                        simp only [depV]
                        rintro _ rfl
                        rintro _ rfl
                        try go_simp
                        all_goals first
                          | (with_reducible exact Grow.refl _)
                          | (with_reducible exact ⟨Grow.refl _, rfl⟩)
                      · intro w5 hR
                        have hGw : Grow wb w5 := hR.of_drew
                        have HGW := Lib.hid hGw
                        have hcc := (HGW.out.block HFC.out).cell
                        have hxc := (HGW.out.block HXC.out).cell
                        clear hR hGw
                        simp only [depV]
                        try go_simp
                        all_goals first
                          | (with_reducible exact Grow.refl _)
                          | (with_reducible exact ⟨Grow.refl _, rfl⟩)
                      · intro w5 hR
                        have hGw : Grow wb w5 := hR.of_drew
                        have HGW := Lib.hid hGw
                        have hcc := (HGW.out.block HFC.out).cell
                        have hxc := (HGW.out.block HXC.out).cell
                        clear hR hGw
                        simp only [depV]
                        try go_simp
                        all_goals first
                          | (with_reducible exact Grow.refl _)
                          | (with_reducible exact ⟨Grow.refl _, rfl⟩)
                      · intro w5 hR
                        have hGw : Grow wb w5 := hR.of_drew
                        have HGW := Lib.hid hGw
                        have hcc := (HGW.out.block HFC.out).cell
                        have hxc := (HGW.out.block HXC.out).cell
                        clear hR hGw
                        simp only [depV]
                        rintro _ rfl
                        try go_simp
                        all_goals first
                          | (with_reducible exact Grow.refl _)
                          | (with_reducible exact ⟨Grow.refl _, rfl⟩)
                      · intro w5 hR
                        have hGw : Grow wb w5 := hR.of_drew
                        have HGW := Lib.hid hGw
                        have hcc := (HGW.out.block HFC.out).cell
                        have hxc := (HGW.out.block HXC.out).cell
                        clear hR hGw
                        simp only [depV]
                        rintro _ rfl
                        rintro _ rfl
                        try go_simp
                        all_goals first
                          | (with_reducible exact Grow.refl _)
                          | (with_reducible exact ⟨Grow.refl _, rfl⟩)
                      · intro w5 hR
                        have hGw : Grow wb w5 := hR.of_drew
                        have HGW := Lib.hid hGw
                        have hcc := (HGW.out.block HFC.out).cell
                        have hxc := (HGW.out.block HXC.out).cell
                        clear hR hGw
                        simp only [depV]
                        rintro _ rfl
                        rintro _ rfl
                        rintro _ rfl
                        clear hcc hxc
                        try go_simp
                        refine (HMG2.out w5 HGW.out).mono ?_
                        rintro e w6 ⟨v, rfl, hrow, hb6⟩
                        exact ⟨hb6, v, rfl, hrow⟩
                      · intro w5 hR
                        have hGw : Grow wb w5 := hR.of_drew
                        have HGW := Lib.hid hGw
                        have hcc := (HGW.out.block HFC.out).cell
                        have hxc := (HGW.out.block HXC.out).cell
                        clear hR hGw
                        simp only [depV]
                        intro v9 hv9
                        obtain ⟨u9, rfl, hu9⟩ := hv9
                        try go_simp
                        first
                          | exact ⟨Grow.refl _, u9, rfl, hu9⟩
                          | exact Grow.refl _
                      · intro w5 hR
                        have hGw : Grow wb w5 := hR.of_drew
                        have HGW := Lib.hid hGw
                        have hcc := (HGW.out.block HFC.out).cell
                        have hxc := (HGW.out.block HXC.out).cell
                        clear hR hGw
                        simp only [depV]
                        intro v10 hv10
                        obtain ⟨u10, rfl, hu10⟩ := hv10
                        try go_simp
                        first
                          | exact ⟨Grow.refl _, hu10⟩
                          | exact Grow.refl _
                      · intro w5 hR
                        have hGw : Grow wb w5 := hR.of_drew
                        have HGW := Lib.hid hGw
                        have hcc := (HGW.out.block HFC.out).cell
                        have hxc := (HGW.out.block HXC.out).cell
                        clear hR hGw
                        simp only [depV]
                        intro v10 hv10
                        obtain ⟨u10, rfl, hu10⟩ := hv10
                        try go_simp
                        all_goals first
                          | (with_reducible exact Grow.refl _)
                          | (with_reducible exact ⟨Grow.refl _, rfl⟩)
                      · intro w5 hR
                        have hGw : Grow wb w5 := hR.of_drew
                        have HGW := Lib.hid hGw
                        have hcc := (HGW.out.block HFC.out).cell
                        have hxc := (HGW.out.block HXC.out).cell
                        clear hR hGw
                        simp only [depV]
                        intro v11 hv11
                        try go_simp
                        first
                          | exact ⟨Grow.refl _, hv11⟩
                          | exact Grow.refl _
                      · intro w5 hR
                        have hGw : Grow wb w5 := hR.of_drew
                        have HGW := Lib.hid hGw
                        have hcc := (HGW.out.block HFC.out).cell
                        have hxc := (HGW.out.block HXC.out).cell
                        clear hR hGw
                        simp only [depV]
                        rintro _ rfl
                        try go_simp
                        all_goals first
                          | (with_reducible exact Grow.refl _)
                          | (with_reducible exact ⟨Grow.refl _, rfl⟩)
                    · intro w5 hR
                      have HG5 : Hid (Grow wb w5) := Lib.hid hR.of_drew
                      clear hR
                      simp only [finVC, List.take_succ_cons, List.take_zero, List.drop_succ_cons, List.drop_zero]
                      rintro _ rfl
                      rintro _ rfl
                      rintro _ rfl
                      rintro _ rfl
                      rintro _ rfl
                      rintro _ rfl
                      rintro _ rfl
                      rintro _ rfl
                      rintro _ rfl
                      intro v9 hv9
                      intro v10 hv10
                      intro v11 hv11
                      rintro _ rfl
                      intro v13 hv13
                      rintro _ rfl
                      simp only [Act.put, List.setIfInBounds_toArray, List.set_cons_succ, List.set_cons_zero]
                      clear hv9 hv10 hv11
                      obtain ⟨A14, c14, rfl, h14⟩ := hv13
                      have H14 := Lib.hid h14
                      have H13' := Lib.hid ((H13.out.below HG5.out).more HG5.out.size)
                      clear h14
                      go_wp2_with fail
                      refine (HLA.out _ A13 c13 (HGB.out.trans HG5.out) H13'.out).mono ?_
                      rintro e w9 ⟨rfl, nq, rfl⟩
                      go_wp2_with fail
                      refine (HLA.out _ A14 c14 (Below.drewN_ (HGB.out.trans HG5.out) nq) H14.out).mono ?_
                      rintro e w9 ⟨rfl, nq2, rfl⟩
                      go_wp2_with fail
                      refine (works_any _).mono ?_
                      rintro e w9 ⟨rfl, hb9⟩
                      go_wp2
                      go_ret
                      exact ⟨rfl, HGA0.out.trans ((show Grow wa _ from Below.drewN_ (HGB.out.trans HG5.out) _).trans hb9)⟩
                · have HSUF := Lib.hid (fun (w0 : World) (hw : Grow wa w0) => GlossAt.drop ((HTW.out.grow hw).at_) c)
                  by_cases hcp : co = c
                  · subst hcp
                    have hnc : no = co := by omega
                    subst hnc
                    have HMG := Lib.hid (fun (w0 : World) (hw : Grow wa w0) => HMM.out (some ⟨g, 0, none⟩) no 0 w0 hw (HPT.out w0 hw) (.inl (HDE.out (Nat.le_refl _))))
                    have HMG2 := Lib.hid (fun (w0 : World) (hw : Grow wa w0) => HMM2.out (some ⟨g, 0, none⟩) no 0 w0 hw (HPT.out w0 hw) (.inl (HDE.out (Nat.le_refl _))))
                    rw [Nat.sub_self] at HMG HMG2
                    refine wp_region_lit 15 [[], [], [], [(2, 119)], [(1, 118), (3, 120)], [], [], [(6, 123)], [(5, 122), (7, 124)], [(0, 117), (4, 121), (8, 125)], [(9, 126)], [(10, 116)], [(10, 116)], [(11, 127)], [(12, 128)]] Grow (fun qi v w' => match qi with
                        | 0 => v = filmsV f
                        | 1 => v = .slice (some ⟨g, 0, none⟩) no no
                        | 2 => v = .pointer (some ⟨bx, 1, none⟩)
                        | 3 => v = .int .i64 (no : Nat)
                        | 4 => v = .slice (some ⟨g, 0, none⟩) no no
                        | 5 => v = .slice (some ⟨g, 0, none⟩) no no
                        | 6 => v = .pointer (some ⟨bx, 1, none⟩)
                        | 7 => v = .int .i64 (no : Nat)
                        | 8 => v = .slice (some ⟨g, 0, none⟩) 0 0
                        | 9 => MergeT all v w'
                        | 10 => MergeT all v w'
                        | 11 => IsRowG all v w'
                        | 12 => v = .int .i64 0
                        | 13 => IsRowG all v w'
                        | 14 => v = .int .i64 0
                        | _ => False) (by kernel_rfl) (by kernel_rfl) (fun _ _ _ => Grow.trans) Grow.refl ?_ ?_ ?_
                    · intro i v y y' h k
                      match i, h with
                      | 9, h => exact h.grow k
                      | 10, h => exact h.grow k
                      | 11, h => exact h.grow k
                      | 13, h => exact h.grow k
                      | 0, h | 1, h | 2, h | 3, h | 4, h | 5, h | 6, h | 7, h | 8, h | 12, h | 14, h => exact h
                    · simp only [StepsLit, List.take_succ_cons, List.take_zero]
                      refine ⟨?_, ?_, ?_, ?_, ?_, ?_, ?_, ?_, ?_, ?_, ?_, ?_, ?_, ?_, ?_, trivial⟩
                      · intro w5 hR
                        have hGw : Grow wa w5 := hR.of_drew
                        have HGW := Lib.hid hGw
                        have hcc := (HGW.out.block HFC.out).cell
                        have hxc := (HGW.out.block HXC.out).cell
                        clear hR hGw
                        simp only [depV]
                        try go_simp
                        all_goals first
                          | (with_reducible exact Grow.refl _)
                          | (with_reducible exact ⟨Grow.refl _, rfl⟩)
                      · intro w5 hR
                        have hGw : Grow wa w5 := hR.of_drew
                        have HGW := Lib.hid hGw
                        have hcc := (HGW.out.block HFC.out).cell
                        have hxc := (HGW.out.block HXC.out).cell
                        clear hR hGw
                        simp only [depV]
                        try go_simp
                        all_goals first
                          | (with_reducible exact Grow.refl _)
                          | (with_reducible exact ⟨Grow.refl _, rfl⟩)
                      · intro w5 hR
                        have hGw : Grow wa w5 := hR.of_drew
                        have HGW := Lib.hid hGw
                        have hcc := (HGW.out.block HFC.out).cell
                        have hxc := (HGW.out.block HXC.out).cell
                        clear hR hGw
                        simp only [depV]
                        try go_simp
                        all_goals first
                          | (with_reducible exact Grow.refl _)
                          | (with_reducible exact ⟨Grow.refl _, rfl⟩)
                      · intro w5 hR
                        have hGw : Grow wa w5 := hR.of_drew
                        have HGW := Lib.hid hGw
                        have hcc := (HGW.out.block HFC.out).cell
                        have hxc := (HGW.out.block HXC.out).cell
                        clear hR hGw
                        simp only [depV]
                        rintro _ rfl
                        try go_simp
                        all_goals first
                          | (with_reducible exact Grow.refl _)
                          | (with_reducible exact ⟨Grow.refl _, rfl⟩)
                      · intro w5 hR
                        have hGw : Grow wa w5 := hR.of_drew
                        have HGW := Lib.hid hGw
                        have hcc := (HGW.out.block HFC.out).cell
                        have hxc := (HGW.out.block HXC.out).cell
                        clear hR hGw
                        simp only [depV]
                        rintro _ rfl
                        rintro _ rfl
                        try go_simp
                        all_goals first
                          | (with_reducible exact Grow.refl _)
                          | (with_reducible exact ⟨Grow.refl _, rfl⟩)
                      · intro w5 hR
                        have hGw : Grow wa w5 := hR.of_drew
                        have HGW := Lib.hid hGw
                        have hcc := (HGW.out.block HFC.out).cell
                        have hxc := (HGW.out.block HXC.out).cell
                        clear hR hGw
                        simp only [depV]
                        try go_simp
                        all_goals first
                          | (with_reducible exact Grow.refl _)
                          | (with_reducible exact ⟨Grow.refl _, rfl⟩)
                      · intro w5 hR
                        have hGw : Grow wa w5 := hR.of_drew
                        have HGW := Lib.hid hGw
                        have hcc := (HGW.out.block HFC.out).cell
                        have hxc := (HGW.out.block HXC.out).cell
                        clear hR hGw
                        simp only [depV]
                        try go_simp
                        all_goals first
                          | (with_reducible exact Grow.refl _)
                          | (with_reducible exact ⟨Grow.refl _, rfl⟩)
                      · intro w5 hR
                        have hGw : Grow wa w5 := hR.of_drew
                        have HGW := Lib.hid hGw
                        have hcc := (HGW.out.block HFC.out).cell
                        have hxc := (HGW.out.block HXC.out).cell
                        clear hR hGw
                        simp only [depV]
                        rintro _ rfl
                        try go_simp
                        all_goals first
                          | (with_reducible exact Grow.refl _)
                          | (with_reducible exact ⟨Grow.refl _, rfl⟩)
                      · intro w5 hR
                        have hGw : Grow wa w5 := hR.of_drew
                        have HGW := Lib.hid hGw
                        have hcc := (HGW.out.block HFC.out).cell
                        have hxc := (HGW.out.block HXC.out).cell
                        clear hR hGw
                        simp only [depV]
                        rintro _ rfl
                        rintro _ rfl
                        try go_simp
                        all_goals first
                          | (with_reducible exact Grow.refl _)
                          | (with_reducible exact ⟨Grow.refl _, rfl⟩)
                      · intro w5 hR
                        have hGw : Grow wa w5 := hR.of_drew
                        have HGW := Lib.hid hGw
                        have hcc := (HGW.out.block HFC.out).cell
                        have hxc := (HGW.out.block HXC.out).cell
                        clear hR hGw
                        simp only [depV]
                        rintro _ rfl
                        rintro _ rfl
                        rintro _ rfl
                        clear hcc hxc
                        try go_simp
                        refine (HMG.out w5 HGW.out).mono ?_
                        rintro e w6 ⟨v, rfl, hrow, hb6⟩
                        exact ⟨hb6, v, rfl, hrow⟩
                      · intro w5 hR
                        have hGw : Grow wa w5 := hR.of_drew
                        have HGW := Lib.hid hGw
                        have hcc := (HGW.out.block HFC.out).cell
                        have hxc := (HGW.out.block HXC.out).cell
                        clear hR hGw
                        simp only [depV]
                        intro v9 hv9
                        obtain ⟨u9, rfl, hu9⟩ := hv9
                        try go_simp
                        first
                          | exact ⟨Grow.refl _, u9, rfl, hu9⟩
                          | exact Grow.refl _
                      · intro w5 hR
                        have hGw : Grow wa w5 := hR.of_drew
                        have HGW := Lib.hid hGw
                        have hcc := (HGW.out.block HFC.out).cell
                        have hxc := (HGW.out.block HXC.out).cell
                        clear hR hGw
                        simp only [depV]
                        intro v10 hv10
                        obtain ⟨u10, rfl, hu10⟩ := hv10
                        try go_simp
                        first
                          | exact ⟨Grow.refl _, hu10⟩
                          | exact Grow.refl _
                      · intro w5 hR
                        have hGw : Grow wa w5 := hR.of_drew
                        have HGW := Lib.hid hGw
                        have hcc := (HGW.out.block HFC.out).cell
                        have hxc := (HGW.out.block HXC.out).cell
                        clear hR hGw
                        simp only [depV]
                        intro v10 hv10
                        obtain ⟨u10, rfl, hu10⟩ := hv10
                        try go_simp
                        all_goals first
                          | (with_reducible exact Grow.refl _)
                          | (with_reducible exact ⟨Grow.refl _, rfl⟩)
                      · intro w5 hR
                        have hGw : Grow wa w5 := hR.of_drew
                        have HGW := Lib.hid hGw
                        have hcc := (HGW.out.block HFC.out).cell
                        have hxc := (HGW.out.block HXC.out).cell
                        clear hR hGw
                        simp only [depV]
                        intro v11 hv11
                        try go_simp
                        first
                          | exact ⟨Grow.refl _, hv11⟩
                          | exact Grow.refl _
                      · intro w5 hR
                        have hGw : Grow wa w5 := hR.of_drew
                        have HGW := Lib.hid hGw
                        have hcc := (HGW.out.block HFC.out).cell
                        have hxc := (HGW.out.block HXC.out).cell
                        clear hR hGw
                        simp only [depV]
                        rintro _ rfl
                        try go_simp
                        all_goals first
                          | (with_reducible exact Grow.refl _)
                          | (with_reducible exact ⟨Grow.refl _, rfl⟩)
                    · intro w5 hR
                      have HG5 : Hid (Grow wa w5) := Lib.hid hR.of_drew
                      clear hR
                      simp only [finVC, List.take_succ_cons, List.take_zero, List.drop_succ_cons, List.drop_zero]
                      rintro _ rfl
                      rintro _ rfl
                      rintro _ rfl
                      rintro _ rfl
                      rintro _ rfl
                      rintro _ rfl
                      rintro _ rfl
                      rintro _ rfl
                      rintro _ rfl
                      intro v9 hv9
                      intro v10 hv10
                      intro v11 hv11
                      rintro _ rfl
                      intro v13 hv13
                      rintro _ rfl
                      simp only [Act.put, List.setIfInBounds_toArray, List.set_cons_succ, List.set_cons_zero]
                      clear hv9 hv10 hv11
                      obtain ⟨A13, c13, rfl, h13⟩ := hv13
                      have H13 := Lib.hid h13
                      clear h13
                      go_upto_region 17 with fail
                      obtain ⟨wb, hwb⟩ : ∃ q, w5 = q := ⟨_, rfl⟩
                      subst hwb
                      have HGB : Hid (Grow wa w5) := HG5
                      replace HMG2 := Lib.hid (fun (w0 : World) (hw : Grow w5 w0) => HMG2.out w0 (HGB.out.trans hw))
                      replace HFC := Lib.hid (HGB.out.block HFC.out)
                      replace HXC := Lib.hid (HGB.out.block HXC.out)
                      clear HG5 HMG
                      obtain ⟨wb, hwb⟩ : ∃ q, w5 = q := ⟨_, rfl⟩
                      rw [hwb] at HGB HMG2 HFC HXC H13 ⊢
                      clear hwb
                      refine wp_region_lit 15 [[], [], [], [(2, 132)], [(1, 131), (3, 133)], [], [], [(6, 136)], [(5, 135), (7, 137)], [(0, 130), (4, 134), (8, 138)], [(9, 139)], [(10, 129)], [(10, 129)], [(11, 140)], [(12, 141)]] Grow (fun qi v w' => match qi with
                          | 0 => v = filmsV f
                          | 1 => v = .slice (some ⟨g, 0, none⟩) no no
                          | 2 => v = .pointer (some ⟨bx, 1, none⟩)
                          | 3 => v = .int .i64 (no : Nat)
                          | 4 => v = .slice (some ⟨g, 0, none⟩) 0 0
                          | 5 => v = .slice (some ⟨g, 0, none⟩) no no
                          | 6 => v = .pointer (some ⟨bx, 1, none⟩)
                          | 7 => v = .int .i64 (no : Nat)
                          | 8 => v = .slice (some ⟨g, 0, none⟩) no no
                          | 9 => MergeT all v w'
                          | 10 => MergeT all v w'
                          | 11 => IsRowG all v w'
                          | 12 => v = .int .i64 0
                          | 13 => IsRowG all v w'
                          | 14 => v = .int .i64 0
                          | _ => False) (by kernel_rfl) (by kernel_rfl) (fun _ _ _ => Grow.trans) Grow.refl ?_ ?_ ?_
                      · intro i v y y' h k
                        match i, h with
                        | 9, h => exact h.grow k
                        | 10, h => exact h.grow k
                        | 11, h => exact h.grow k
                        | 13, h => exact h.grow k
                        | 0, h | 1, h | 2, h | 3, h | 4, h | 5, h | 6, h | 7, h | 8, h | 12, h | 14, h => exact h
                      · simp only [StepsLit, List.take_succ_cons, List.take_zero]
                        refine ⟨?_, ?_, ?_, ?_, ?_, ?_, ?_, ?_, ?_, ?_, ?_, ?_, ?_, ?_, ?_, trivial⟩
                        · intro w5 hR
                          have hGw : Grow wb w5 := hR.of_drew
                          have HGW := Lib.hid hGw
                          have hcc := (HGW.out.block HFC.out).cell
                          have hxc := (HGW.out.block HXC.out).cell
                          clear hR hGw
                          simp only [depV]
                          try go_simp
                          all_goals first
                            | (with_reducible exact Grow.refl _)
                            | (with_reducible exact ⟨Grow.refl _, rfl⟩)
                        · intro w5 hR
                          have hGw : Grow wb w5 := hR.of_drew
                          have HGW := Lib.hid hGw
                          have hcc := (HGW.out.block HFC.out).cell
                          have hxc := (HGW.out.block HXC.out).cell
                          clear hR hGw
                          simp only [depV]
                          try go_simp
                          all_goals first
                            | (with_reducible exact Grow.refl _)
                            | (with_reducible exact ⟨Grow.refl _, rfl⟩)
                        · intro w5 hR
                          have hGw : Grow wb w5 := hR.of_drew
                          have HGW := Lib.hid hGw
                          have hcc := (HGW.out.block HFC.out).cell
                          have hxc := (HGW.out.block HXC.out).cell
                          clear hR hGw
                          simp only [depV]
                          try go_simp
                          all_goals first
                            | (with_reducible exact Grow.refl _)
                            | (with_reducible exact ⟨Grow.refl _, rfl⟩)
                        · intro w5 hR
                          have hGw : Grow wb w5 := hR.of_drew
                          have HGW := Lib.hid hGw
                          have hcc := (HGW.out.block HFC.out).cell
                          have hxc := (HGW.out.block HXC.out).cell
                          clear hR hGw
                          simp only [depV]
                          rintro _ rfl
                          try go_simp
                          all_goals first
                            | (with_reducible exact Grow.refl _)
                            | (with_reducible exact ⟨Grow.refl _, rfl⟩)
                        · intro w5 hR
                          have hGw : Grow wb w5 := hR.of_drew
                          have HGW := Lib.hid hGw
                          have hcc := (HGW.out.block HFC.out).cell
                          have hxc := (HGW.out.block HXC.out).cell
                          clear hR hGw
                          simp only [depV]
                          rintro _ rfl
                          rintro _ rfl
                          try go_simp
                          all_goals first
                            | (with_reducible exact Grow.refl _)
                            | (with_reducible exact ⟨Grow.refl _, rfl⟩)
                        · intro w5 hR
                          have hGw : Grow wb w5 := hR.of_drew
                          have HGW := Lib.hid hGw
                          have hcc := (HGW.out.block HFC.out).cell
                          have hxc := (HGW.out.block HXC.out).cell
                          clear hR hGw
                          simp only [depV]
                          try go_simp
                          all_goals first
                            | (with_reducible exact Grow.refl _)
                            | (with_reducible exact ⟨Grow.refl _, rfl⟩)
                        · intro w5 hR
                          have hGw : Grow wb w5 := hR.of_drew
                          have HGW := Lib.hid hGw
                          have hcc := (HGW.out.block HFC.out).cell
                          have hxc := (HGW.out.block HXC.out).cell
                          clear hR hGw
                          simp only [depV]
                          try go_simp
                          all_goals first
                            | (with_reducible exact Grow.refl _)
                            | (with_reducible exact ⟨Grow.refl _, rfl⟩)
                        · intro w5 hR
                          have hGw : Grow wb w5 := hR.of_drew
                          have HGW := Lib.hid hGw
                          have hcc := (HGW.out.block HFC.out).cell
                          have hxc := (HGW.out.block HXC.out).cell
                          clear hR hGw
                          simp only [depV]
                          rintro _ rfl
                          try go_simp
                          all_goals first
                            | (with_reducible exact Grow.refl _)
                            | (with_reducible exact ⟨Grow.refl _, rfl⟩)
                        · intro w5 hR
                          have hGw : Grow wb w5 := hR.of_drew
                          have HGW := Lib.hid hGw
                          have hcc := (HGW.out.block HFC.out).cell
                          have hxc := (HGW.out.block HXC.out).cell
                          clear hR hGw
                          simp only [depV]
                          rintro _ rfl
                          rintro _ rfl
                          try go_simp
                          all_goals first
                            | (with_reducible exact Grow.refl _)
                            | (with_reducible exact ⟨Grow.refl _, rfl⟩)
                        · intro w5 hR
                          have hGw : Grow wb w5 := hR.of_drew
                          have HGW := Lib.hid hGw
                          have hcc := (HGW.out.block HFC.out).cell
                          have hxc := (HGW.out.block HXC.out).cell
                          clear hR hGw
                          simp only [depV]
                          rintro _ rfl
                          rintro _ rfl
                          rintro _ rfl
                          clear hcc hxc
                          try go_simp
                          refine (HMG2.out w5 HGW.out).mono ?_
                          rintro e w6 ⟨v, rfl, hrow, hb6⟩
                          exact ⟨hb6, v, rfl, hrow⟩
                        · intro w5 hR
                          have hGw : Grow wb w5 := hR.of_drew
                          have HGW := Lib.hid hGw
                          have hcc := (HGW.out.block HFC.out).cell
                          have hxc := (HGW.out.block HXC.out).cell
                          clear hR hGw
                          simp only [depV]
                          intro v9 hv9
                          obtain ⟨u9, rfl, hu9⟩ := hv9
                          try go_simp
                          first
                            | exact ⟨Grow.refl _, u9, rfl, hu9⟩
                            | exact Grow.refl _
                        · intro w5 hR
                          have hGw : Grow wb w5 := hR.of_drew
                          have HGW := Lib.hid hGw
                          have hcc := (HGW.out.block HFC.out).cell
                          have hxc := (HGW.out.block HXC.out).cell
                          clear hR hGw
                          simp only [depV]
                          intro v10 hv10
                          obtain ⟨u10, rfl, hu10⟩ := hv10
                          try go_simp
                          first
                            | exact ⟨Grow.refl _, hu10⟩
                            | exact Grow.refl _
                        · intro w5 hR
                          have hGw : Grow wb w5 := hR.of_drew
                          have HGW := Lib.hid hGw
                          have hcc := (HGW.out.block HFC.out).cell
                          have hxc := (HGW.out.block HXC.out).cell
                          clear hR hGw
                          simp only [depV]
                          intro v10 hv10
                          obtain ⟨u10, rfl, hu10⟩ := hv10
                          try go_simp
                          all_goals first
                            | (with_reducible exact Grow.refl _)
                            | (with_reducible exact ⟨Grow.refl _, rfl⟩)
                        · intro w5 hR
                          have hGw : Grow wb w5 := hR.of_drew
                          have HGW := Lib.hid hGw
                          have hcc := (HGW.out.block HFC.out).cell
                          have hxc := (HGW.out.block HXC.out).cell
                          clear hR hGw
                          simp only [depV]
                          intro v11 hv11
                          try go_simp
                          first
                            | exact ⟨Grow.refl _, hv11⟩
                            | exact Grow.refl _
                        · intro w5 hR
                          have hGw : Grow wb w5 := hR.of_drew
                          have HGW := Lib.hid hGw
                          have hcc := (HGW.out.block HFC.out).cell
                          have hxc := (HGW.out.block HXC.out).cell
                          clear hR hGw
                          simp only [depV]
                          rintro _ rfl
                          try go_simp
                          all_goals first
                            | (with_reducible exact Grow.refl _)
                            | (with_reducible exact ⟨Grow.refl _, rfl⟩)
                      · intro w5 hR
                        have HG5 : Hid (Grow wb w5) := Lib.hid hR.of_drew
                        clear hR
                        simp only [finVC, List.take_succ_cons, List.take_zero, List.drop_succ_cons, List.drop_zero]
                        rintro _ rfl
                        rintro _ rfl
                        rintro _ rfl
                        rintro _ rfl
                        rintro _ rfl
                        rintro _ rfl
                        rintro _ rfl
                        rintro _ rfl
                        rintro _ rfl
                        intro v9 hv9
                        intro v10 hv10
                        intro v11 hv11
                        rintro _ rfl
                        intro v13 hv13
                        rintro _ rfl
                        simp only [Act.put, List.setIfInBounds_toArray, List.set_cons_succ, List.set_cons_zero]
                        clear hv9 hv10 hv11
                        obtain ⟨A14, c14, rfl, h14⟩ := hv13
                        have H14 := Lib.hid h14
                        have H13' := Lib.hid ((H13.out.below HG5.out).more HG5.out.size)
                        clear h14
                        go_wp2_with fail
                        refine (HLA.out _ A13 c13 (HGB.out.trans HG5.out) H13'.out).mono ?_
                        rintro e w9 ⟨rfl, nq, rfl⟩
                        go_wp2_with fail
                        refine (HLA.out _ A14 c14 (Below.drewN_ (HGB.out.trans HG5.out) nq) H14.out).mono ?_
                        rintro e w9 ⟨rfl, nq2, rfl⟩
                        go_wp2_with fail
                        refine (works_any _).mono ?_
                        rintro e w9 ⟨rfl, hb9⟩
                        go_wp2
                        go_ret
                        exact ⟨rfl, HGA0.out.trans ((show Grow wa _ from Below.drewN_ (HGB.out.trans HG5.out) _).trans hb9)⟩
                  · have hcp2 : c < co := by omega
                    have hcp3 : c ≤ co := by omega
                    have HMG := Lib.hid (fun (w0 : World) (hw : Grow wa w0) => HMM.out (some ⟨g, c * 6, none⟩) co (co - c) w0 hw (HPT.out w0 hw) (HSUF.out w0 hw))
                    have HMG2 := Lib.hid (fun (w0 : World) (hw : Grow wa w0) => HMM2.out (some ⟨g, c * 6, none⟩) co (co - c) w0 hw (HPT.out w0 hw) (HSUF.out w0 hw))
                    refine wp_region_lit 15 [[], [], [], [(2, 119)], [(1, 118), (3, 120)], [], [], [(6, 123)], [(5, 122), (7, 124)], [(0, 117), (4, 121), (8, 125)], [(9, 126)], [(10, 116)], [(10, 116)], [(11, 127)], [(12, 128)]] Grow (fun qi v w' => match qi with
                        | 0 => v = filmsV f
                        | 1 => v = .slice (some ⟨g, 0, none⟩) no co
                        | 2 => v = .pointer (some ⟨bx, 1, none⟩)
                        | 3 => v = .int .i64 (c : Nat)
                        | 4 => v = .slice (some ⟨g, 0, none⟩) c co
                        | 5 => v = .slice (some ⟨g, 0, none⟩) no co
                        | 6 => v = .pointer (some ⟨bx, 1, none⟩)
                        | 7 => v = .int .i64 (c : Nat)
                        | 8 => v = .slice (some ⟨g, c * 6, none⟩) (no - c) (co - c)
                        | 9 => MergeT all v w'
                        | 10 => MergeT all v w'
                        | 11 => IsRowG all v w'
                        | 12 => v = .int .i64 0
                        | 13 => IsRowG all v w'
                        | 14 => v = .int .i64 0
                        | _ => False) (by kernel_rfl) (by kernel_rfl) (fun _ _ _ => Grow.trans) Grow.refl ?_ ?_ ?_
                    · intro i v y y' h k
                      match i, h with
                      | 9, h => exact h.grow k
                      | 10, h => exact h.grow k
                      | 11, h => exact h.grow k
                      | 13, h => exact h.grow k
                      | 0, h | 1, h | 2, h | 3, h | 4, h | 5, h | 6, h | 7, h | 8, h | 12, h | 14, h => exact h
                    · simp only [StepsLit, List.take_succ_cons, List.take_zero]
                      refine ⟨?_, ?_, ?_, ?_, ?_, ?_, ?_, ?_, ?_, ?_, ?_, ?_, ?_, ?_, ?_, trivial⟩
                      · intro w5 hR
                        have hGw : Grow wa w5 := hR.of_drew
                        have HGW := Lib.hid hGw
                        have hcc := (HGW.out.block HFC.out).cell
                        have hxc := (HGW.out.block HXC.out).cell
                        clear hR hGw
                        simp only [depV]
                        try go_simp
                        all_goals first
                          | (with_reducible exact Grow.refl _)
                          | (with_reducible exact ⟨Grow.refl _, rfl⟩)
                      · intro w5 hR
                        have hGw : Grow wa w5 := hR.of_drew
                        have HGW := Lib.hid hGw
                        have hcc := (HGW.out.block HFC.out).cell
                        have hxc := (HGW.out.block HXC.out).cell
                        clear hR hGw
                        simp only [depV]
                        try go_simp
                        all_goals first
                          | (with_reducible exact Grow.refl _)
                          | (with_reducible exact ⟨Grow.refl _, rfl⟩)
                      · intro w5 hR
                        have hGw : Grow wa w5 := hR.of_drew
                        have HGW := Lib.hid hGw
                        have hcc := (HGW.out.block HFC.out).cell
                        have hxc := (HGW.out.block HXC.out).cell
                        clear hR hGw
                        simp only [depV]
                        try go_simp
                        all_goals first
                          | (with_reducible exact Grow.refl _)
                          | (with_reducible exact ⟨Grow.refl _, rfl⟩)
                      · intro w5 hR
                        have hGw : Grow wa w5 := hR.of_drew
                        have HGW := Lib.hid hGw
                        have hcc := (HGW.out.block HFC.out).cell
                        have hxc := (HGW.out.block HXC.out).cell
                        clear hR hGw
                        simp only [depV]
                        rintro _ rfl
                        try go_simp
                        all_goals first
                          | (with_reducible exact Grow.refl _)
                          | (with_reducible exact ⟨Grow.refl _, rfl⟩)
                      · intro w5 hR
                        have hGw : Grow wa w5 := hR.of_drew
                        have HGW := Lib.hid hGw
                        have hcc := (HGW.out.block HFC.out).cell
                        have hxc := (HGW.out.block HXC.out).cell
                        clear hR hGw
                        simp only [depV]
                        rintro _ rfl
                        rintro _ rfl
                        try go_simp
                        all_goals first
                          | (with_reducible exact Grow.refl _)
                          | (with_reducible exact ⟨Grow.refl _, rfl⟩)
                      · intro w5 hR
                        have hGw : Grow wa w5 := hR.of_drew
                        have HGW := Lib.hid hGw
                        have hcc := (HGW.out.block HFC.out).cell
                        have hxc := (HGW.out.block HXC.out).cell
                        clear hR hGw
                        simp only [depV]
                        try go_simp
                        all_goals first
                          | (with_reducible exact Grow.refl _)
                          | (with_reducible exact ⟨Grow.refl _, rfl⟩)
                      · intro w5 hR
                        have hGw : Grow wa w5 := hR.of_drew
                        have HGW := Lib.hid hGw
                        have hcc := (HGW.out.block HFC.out).cell
                        have hxc := (HGW.out.block HXC.out).cell
                        clear hR hGw
                        simp only [depV]
                        try go_simp
                        all_goals first
                          | (with_reducible exact Grow.refl _)
                          | (with_reducible exact ⟨Grow.refl _, rfl⟩)
                      · intro w5 hR
                        have hGw : Grow wa w5 := hR.of_drew
                        have HGW := Lib.hid hGw
                        have hcc := (HGW.out.block HFC.out).cell
                        have hxc := (HGW.out.block HXC.out).cell
                        clear hR hGw
                        simp only [depV]
                        rintro _ rfl
                        try go_simp
                        all_goals first
                          | (with_reducible exact Grow.refl _)
                          | (with_reducible exact ⟨Grow.refl _, rfl⟩)
                      · intro w5 hR
                        have hGw : Grow wa w5 := hR.of_drew
                        have HGW := Lib.hid hGw
                        have hcc := (HGW.out.block HFC.out).cell
                        have hxc := (HGW.out.block HXC.out).cell
                        clear hR hGw
                        simp only [depV]
                        rintro _ rfl
                        rintro _ rfl
                        try go_simp
                        all_goals first
                          | (with_reducible exact Grow.refl _)
                          | (with_reducible exact ⟨Grow.refl _, rfl⟩)
                      · intro w5 hR
                        have hGw : Grow wa w5 := hR.of_drew
                        have HGW := Lib.hid hGw
                        have hcc := (HGW.out.block HFC.out).cell
                        have hxc := (HGW.out.block HXC.out).cell
                        clear hR hGw
                        simp only [depV]
                        rintro _ rfl
                        rintro _ rfl
                        rintro _ rfl
                        clear hcc hxc
                        try go_simp
                        refine (HMG.out w5 HGW.out).mono ?_
                        rintro e w6 ⟨v, rfl, hrow, hb6⟩
                        exact ⟨hb6, v, rfl, hrow⟩
                      · intro w5 hR
                        have hGw : Grow wa w5 := hR.of_drew
                        have HGW := Lib.hid hGw
                        have hcc := (HGW.out.block HFC.out).cell
                        have hxc := (HGW.out.block HXC.out).cell
                        clear hR hGw
                        simp only [depV]
                        intro v9 hv9
                        obtain ⟨u9, rfl, hu9⟩ := hv9
                        try go_simp
                        first
                          | exact ⟨Grow.refl _, u9, rfl, hu9⟩
                          | exact Grow.refl _
                      · intro w5 hR
                        have hGw : Grow wa w5 := hR.of_drew
                        have HGW := Lib.hid hGw
                        have hcc := (HGW.out.block HFC.out).cell
                        have hxc := (HGW.out.block HXC.out).cell
                        clear hR hGw
                        simp only [depV]
                        intro v10 hv10
                        obtain ⟨u10, rfl, hu10⟩ := hv10
                        try go_simp
                        first
                          | exact ⟨Grow.refl _, hu10⟩
                          | exact Grow.refl _
                      · intro w5 hR
                        have hGw : Grow wa w5 := hR.of_drew
                        have HGW := Lib.hid hGw
                        have hcc := (HGW.out.block HFC.out).cell
                        have hxc := (HGW.out.block HXC.out).cell
                        clear hR hGw
                        simp only [depV]
                        intro v10 hv10
                        obtain ⟨u10, rfl, hu10⟩ := hv10
                        try go_simp
                        all_goals first
                          | (with_reducible exact Grow.refl _)
                          | (with_reducible exact ⟨Grow.refl _, rfl⟩)
                      · intro w5 hR
                        have hGw : Grow wa w5 := hR.of_drew
                        have HGW := Lib.hid hGw
                        have hcc := (HGW.out.block HFC.out).cell
                        have hxc := (HGW.out.block HXC.out).cell
                        clear hR hGw
                        simp only [depV]
                        intro v11 hv11
                        try go_simp
                        first
                          | exact ⟨Grow.refl _, hv11⟩
                          | exact Grow.refl _
                      · intro w5 hR
                        have hGw : Grow wa w5 := hR.of_drew
                        have HGW := Lib.hid hGw
                        have hcc := (HGW.out.block HFC.out).cell
                        have hxc := (HGW.out.block HXC.out).cell
                        clear hR hGw
                        simp only [depV]
                        rintro _ rfl
                        try go_simp
                        all_goals first
                          | (with_reducible exact Grow.refl _)
                          | (with_reducible exact ⟨Grow.refl _, rfl⟩)
                    · intro w5 hR
                      have HG5 : Hid (Grow wa w5) := Lib.hid hR.of_drew
                      clear hR
                      simp only [finVC, List.take_succ_cons, List.take_zero, List.drop_succ_cons, List.drop_zero]
                      rintro _ rfl
                      rintro _ rfl
                      rintro _ rfl
                      rintro _ rfl
                      rintro _ rfl
                      rintro _ rfl
                      rintro _ rfl
                      rintro _ rfl
                      rintro _ rfl
                      intro v9 hv9
                      intro v10 hv10
                      intro v11 hv11
                      rintro _ rfl
                      intro v13 hv13
                      rintro _ rfl
                      simp only [Act.put, List.setIfInBounds_toArray, List.set_cons_succ, List.set_cons_zero]
                      clear hv9 hv10 hv11
                      obtain ⟨A13, c13, rfl, h13⟩ := hv13
                      have H13 := Lib.hid h13
                      clear h13
                      go_upto_region 17 with fail
                      obtain ⟨wb, hwb⟩ : ∃ q, w5 = q := ⟨_, rfl⟩
                      subst hwb
                      have HGB : Hid (Grow wa w5) := HG5
                      replace HMG2 := Lib.hid (fun (w0 : World) (hw : Grow w5 w0) => HMG2.out w0 (HGB.out.trans hw))
                      replace HFC := Lib.hid (HGB.out.block HFC.out)
                      replace HXC := Lib.hid (HGB.out.block HXC.out)
                      clear HG5 HMG
                      obtain ⟨wb, hwb⟩ : ∃ q, w5 = q := ⟨_, rfl⟩
                      rw [hwb] at HGB HMG2 HFC HXC H13 ⊢
                      clear hwb
                      refine wp_region_lit 15 [[], [], [], [(2, 132)], [(1, 131), (3, 133)], [], [], [(6, 136)], [(5, 135), (7, 137)], [(0, 130), (4, 134), (8, 138)], [(9, 139)], [(10, 129)], [(10, 129)], [(11, 140)], [(12, 141)]] Grow (fun qi v w' => match qi with
                          | 0 => v = filmsV f
                          | 1 => v = .slice (some ⟨g, 0, none⟩) no co
                          | 2 => v = .pointer (some ⟨bx, 1, none⟩)
                          | 3 => v = .int .i64 (c : Nat)
                          | 4 => v = .slice (some ⟨g, c * 6, none⟩) (no - c) (co - c)
                          | 5 => v = .slice (some ⟨g, 0, none⟩) no co
                          | 6 => v = .pointer (some ⟨bx, 1, none⟩)
                          | 7 => v = .int .i64 (c : Nat)
                          | 8 => v = .slice (some ⟨g, 0, none⟩) c co
                          | 9 => MergeT all v w'
                          | 10 => MergeT all v w'
                          | 11 => IsRowG all v w'
                          | 12 => v = .int .i64 0
                          | 13 => IsRowG all v w'
                          | 14 => v = .int .i64 0
                          | _ => False) (by kernel_rfl) (by kernel_rfl) (fun _ _ _ => Grow.trans) Grow.refl ?_ ?_ ?_
                      · intro i v y y' h k
                        match i, h with
                        | 9, h => exact h.grow k
                        | 10, h => exact h.grow k
                        | 11, h => exact h.grow k
                        | 13, h => exact h.grow k
                        | 0, h | 1, h | 2, h | 3, h | 4, h | 5, h | 6, h | 7, h | 8, h | 12, h | 14, h => exact h
                      · simp only [StepsLit, List.take_succ_cons, List.take_zero]
                        refine ⟨?_, ?_, ?_, ?_, ?_, ?_, ?_, ?_, ?_, ?_, ?_, ?_, ?_, ?_, ?_, trivial⟩
                        · intro w5 hR
                          have hGw : Grow wb w5 := hR.of_drew
                          have HGW := Lib.hid hGw
                          have hcc := (HGW.out.block HFC.out).cell
                          have hxc := (HGW.out.block HXC.out).cell
                          clear hR hGw
                          simp only [depV]
                          try go_simp
                          all_goals first
                            | (with_reducible exact Grow.refl _)
                            | (with_reducible exact ⟨Grow.refl _, rfl⟩)
                        · intro w5 hR
                          have hGw : Grow wb w5 := hR.of_drew
                          have HGW := Lib.hid hGw
                          have hcc := (HGW.out.block HFC.out).cell
                          have hxc := (HGW.out.block HXC.out).cell
                          clear hR hGw
                          simp only [depV]
                          try go_simp
                          all_goals first
                            | (with_reducible exact Grow.refl _)
                            | (with_reducible exact ⟨Grow.refl _, rfl⟩)
                        · intro w5 hR
                          have hGw : Grow wb w5 := hR.of_drew
                          have HGW := Lib.hid hGw
                          have hcc := (HGW.out.block HFC.out).cell
                          have hxc := (HGW.out.block HXC.out).cell
                          clear hR hGw
                          simp only [depV]
                          try go_simp
                          all_goals first
                            | (with_reducible exact Grow.refl _)
                            | (with_reducible exact ⟨Grow.refl _, rfl⟩)
                        · intro w5 hR
                          have hGw : Grow wb w5 := hR.of_drew
                          have HGW := Lib.hid hGw
                          have hcc := (HGW.out.block HFC.out).cell
                          have hxc := (HGW.out.block HXC.out).cell
                          clear hR hGw
                          simp only [depV]
                          rintro _ rfl
                          try go_simp
                          all_goals first
                            | (with_reducible exact Grow.refl _)
                            | (with_reducible exact ⟨Grow.refl _, rfl⟩)
                        · intro w5 hR
                          have hGw : Grow wb w5 := hR.of_drew
                          have HGW := Lib.hid hGw
                          have hcc := (HGW.out.block HFC.out).cell
                          have hxc := (HGW.out.block HXC.out).cell
                          clear hR hGw
                          simp only [depV]
                          rintro _ rfl
                          rintro _ rfl
                          try go_simp
                          all_goals first
                            | (with_reducible exact Grow.refl _)
                            | (with_reducible exact ⟨Grow.refl _, rfl⟩)
                        · intro w5 hR
                          have hGw : Grow wb w5 := hR.of_drew
                          have HGW := Lib.hid hGw
                          have hcc := (HGW.out.block HFC.out).cell
                          have hxc := (HGW.out.block HXC.out).cell
                          clear hR hGw
                          simp only [depV]
                          try go_simp
                          all_goals first
                            | (with_reducible exact Grow.refl _)
                            | (with_reducible exact ⟨Grow.refl _, rfl⟩)
                        · intro w5 hR
                          have hGw : Grow wb w5 := hR.of_drew
                          have HGW := Lib.hid hGw
                          have hcc := (HGW.out.block HFC.out).cell
                          have hxc := (HGW.out.block HXC.out).cell
                          clear hR hGw
                          simp only [depV]
                          try go_simp
                          all_goals first
                            | (with_reducible exact Grow.refl _)
                            | (with_reducible exact ⟨Grow.refl _, rfl⟩)
                        · intro w5 hR
                          have hGw : Grow wb w5 := hR.of_drew
                          have HGW := Lib.hid hGw
                          have hcc := (HGW.out.block HFC.out).cell
                          have hxc := (HGW.out.block HXC.out).cell
                          clear hR hGw
                          simp only [depV]
                          rintro _ rfl
                          try go_simp
                          all_goals first
                            | (with_reducible exact Grow.refl _)
                            | (with_reducible exact ⟨Grow.refl _, rfl⟩)
                        · intro w5 hR
                          have hGw : Grow wb w5 := hR.of_drew
                          have HGW := Lib.hid hGw
                          have hcc := (HGW.out.block HFC.out).cell
                          have hxc := (HGW.out.block HXC.out).cell
                          clear hR hGw
                          simp only [depV]
                          rintro _ rfl
                          rintro _ rfl
                          try go_simp
                          all_goals first
                            | (with_reducible exact Grow.refl _)
                            | (with_reducible exact ⟨Grow.refl _, rfl⟩)
                        · intro w5 hR
                          have hGw : Grow wb w5 := hR.of_drew
                          have HGW := Lib.hid hGw
                          have hcc := (HGW.out.block HFC.out).cell
                          have hxc := (HGW.out.block HXC.out).cell
                          clear hR hGw
                          simp only [depV]
                          rintro _ rfl
                          rintro _ rfl
                          rintro _ rfl
                          clear hcc hxc
                          try go_simp
                          refine (HMG2.out w5 HGW.out).mono ?_
                          rintro e w6 ⟨v, rfl, hrow, hb6⟩
                          exact ⟨hb6, v, rfl, hrow⟩
                        · intro w5 hR
                          have hGw : Grow wb w5 := hR.of_drew
                          have HGW := Lib.hid hGw
                          have hcc := (HGW.out.block HFC.out).cell
                          have hxc := (HGW.out.block HXC.out).cell
                          clear hR hGw
                          simp only [depV]
                          intro v9 hv9
                          obtain ⟨u9, rfl, hu9⟩ := hv9
                          try go_simp
                          first
                            | exact ⟨Grow.refl _, u9, rfl, hu9⟩
                            | exact Grow.refl _
                        · intro w5 hR
                          have hGw : Grow wb w5 := hR.of_drew
                          have HGW := Lib.hid hGw
                          have hcc := (HGW.out.block HFC.out).cell
                          have hxc := (HGW.out.block HXC.out).cell
                          clear hR hGw
                          simp only [depV]
                          intro v10 hv10
                          obtain ⟨u10, rfl, hu10⟩ := hv10
                          try go_simp
                          first
                            | exact ⟨Grow.refl _, hu10⟩
                            | exact Grow.refl _
                        · intro w5 hR
                          have hGw : Grow wb w5 := hR.of_drew
                          have HGW := Lib.hid hGw
                          have hcc := (HGW.out.block HFC.out).cell
                          have hxc := (HGW.out.block HXC.out).cell
                          clear hR hGw
                          simp only [depV]
                          intro v10 hv10
                          obtain ⟨u10, rfl, hu10⟩ := hv10
                          try go_simp
                          all_goals first
                            | (with_reducible exact Grow.refl _)
                            | (with_reducible exact ⟨Grow.refl _, rfl⟩)
                        · intro w5 hR
                          have hGw : Grow wb w5 := hR.of_drew
                          have HGW := Lib.hid hGw
                          have hcc := (HGW.out.block HFC.out).cell
                          have hxc := (HGW.out.block HXC.out).cell
                          clear hR hGw
                          simp only [depV]
                          intro v11 hv11
                          try go_simp
                          first
                            | exact ⟨Grow.refl _, hv11⟩
                            | exact Grow.refl _
                        · intro w5 hR
                          have hGw : Grow wb w5 := hR.of_drew
                          have HGW := Lib.hid hGw
                          have hcc := (HGW.out.block HFC.out).cell
                          have hxc := (HGW.out.block HXC.out).cell
                          clear hR hGw
                          simp only [depV]
                          rintro _ rfl
                          try go_simp
                          all_goals first
                            | (with_reducible exact Grow.refl _)
                            | (with_reducible exact ⟨Grow.refl _, rfl⟩)
                      · intro w5 hR
                        have HG5 : Hid (Grow wb w5) := Lib.hid hR.of_drew
                        clear hR
                        simp only [finVC, List.take_succ_cons, List.take_zero, List.drop_succ_cons, List.drop_zero]
                        rintro _ rfl
                        rintro _ rfl
                        rintro _ rfl
                        rintro _ rfl
                        rintro _ rfl
                        rintro _ rfl
                        rintro _ rfl
                        rintro _ rfl
                        rintro _ rfl
                        intro v9 hv9
                        intro v10 hv10
                        intro v11 hv11
                        rintro _ rfl
                        intro v13 hv13
                        rintro _ rfl
                        simp only [Act.put, List.setIfInBounds_toArray, List.set_cons_succ, List.set_cons_zero]
                        clear hv9 hv10 hv11
                        obtain ⟨A14, c14, rfl, h14⟩ := hv13
                        have H14 := Lib.hid h14
                        have H13' := Lib.hid ((H13.out.below HG5.out).more HG5.out.size)
                        clear h14
                        go_wp2_with fail
                        refine (HLA.out _ A13 c13 (HGB.out.trans HG5.out) H13'.out).mono ?_
                        rintro e w9 ⟨rfl, nq, rfl⟩
                        go_wp2_with fail
                        refine (HLA.out _ A14 c14 (Below.drewN_ (HGB.out.trans HG5.out) nq) H14.out).mono ?_
                        rintro e w9 ⟨rfl, nq2, rfl⟩
                        go_wp2_with fail
                        refine (works_any _).mono ?_
                        rintro e w9 ⟨rfl, hb9⟩
                        go_wp2
                        go_ret
                        exact ⟨rfl, HGA0.out.trans ((show Grow wa _ from Below.drewN_ (HGB.out.trans HG5.out) _).trans hb9)⟩

end Go.Proofs.Ytinlojealfbbfaa
