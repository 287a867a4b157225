/- Alone: TurnsAlone: the law's walk. -/
import Derived.Test.YthlihchndmbkaaaLongApi
namespace Go.Proofs.Ythlihchndmbkaaa
open Go.RowKit

set_option maxRecDepth 100000 in
set_option maxHeartbeats 16000000 in
theorem turnsAlone_any (t : TaskR) (most : Int) (w : World) (ht : TaskAt w w.heap.size t) :
    Calls Try.prog 8 #[taskV t, .int .i64 most] w fun e w' => e = .returned (.bool true) ∧ Below w.heap.size w w' := by
  have HWK := Lib.hid works_any
  have HVA := Lib.hid (fun (w0 : World) (hw : Grow w w0) => valid_any t w.heap.size w0 (ht.below hw) hw.size)
  by_cases hP : validD t.d = true ∧ 0 ≤ most
  · obtain ⟨hv, hm⟩ := hP
    obtain ⟨hk, hp6⟩ := validD_iff.1 hv
    rw [hv] at HVA
    have hparts := okTask_parts hk
    have hmd : decide (most < 0) = false := decide_eq_false (by omega)
    have HLO := Lib.hid (fun (w0 : World) (hw : Grow w w0) => longApi_any t most w.heap.size w0 (ht.below hw) hw.size hk hm)
    have HCO := Lib.hid (fun (w0 : World) (hw : Grow w w0) => rCopy_any t w.heap.size w0 (ht.below hw) hw.size (by omega) (by omega))
    have HIF := Lib.hid (fun (h k n : Nat) (hh : h < t.d.hands.length) (hl : LongIs t.d h most k) (h1 : n ≤ limA t.d) (h2 : n ≤ k + 1) => longIs_iff hk hh hl h1 h2)
    have HMI := Lib.hid (fun (h n : Nat) (hh : h < t.d.hands.length) (h1 : 1 ≤ n) (hn : n ≤ t.d.parts.length) => alone_mist hk hh h1 hn)
    have HMK := Lib.hid (fun (n : Nat) (h : n ≤ 10) (w0 : World) => make_full_int n w0 h)
    have HLA : Hid (limA t.d = min t.d.limit.toNat t.d.parts.length) := rfl
    have HLP : Hid (limA t.d ≤ t.d.parts.length ∧ t.d.parts.length ≤ 6) := ⟨Nat.min_le_right _ _, hp6⟩
    have hlim := hparts.2.2.2.2.1
    have hn1 := hparts.1.1
    have hn3 := hparts.1.2
    clear ht hv hk hp6 hparts hm
    go_enter Try.func8, Try.ntmps8
    go_upto_region 1 with fail
    obtain ⟨W, hW, hg, hf, hsz⟩ := one_block w 25 (cellsT t)
    rw [hW]
    clear hW
    have htc := hf.cell
    have HF := Lib.hid hf
    have HG := Lib.hid hg
    clear hf hg
    go_wp2_with fail
    refine (HVA.out _ HG.out).mono ?_
    rintro e w2 ⟨rfl, hb2⟩
    have HG2 : Hid (Grow W w2) := hb2
    clear htc hb2
    have htc := (HG2.out.block HF.out).cell
    go_wp2_with fail
    refine (HLO.out _ (HG.out.trans HG2.out)).mono ?_
    rintro e w3 ⟨Ak, ks, rfl, ⟨hkl, hall⟩, hF, hb3⟩
    have HG3 : Hid (Grow W w3) := HG2.out.trans hb3
    have HALL := Lib.hid hall
    have HKL := Lib.hid hkl
    have HKI : Hid (Ints w3 w3.heap.size Ak (natsL ks)) := Lib.hid hF.ints
    clear htc hb3 hall hkl hF
    have htc := (HG3.out.block HF.out).cell
    obtain ⟨ln, hln⟩ : ∃ q, t.d.hands.length = q := ⟨_, rfl⟩
    have HLN := Lib.hid hln
    have htc0 : w3.cell? ⟨w.heap.size, 0, none⟩ = some (.slice t.A ln t.ca) := by rw [← hln]; exact htc 0
    rw [hln] at hn1 hn3 HKL ⊢
    clear htc hln
    have heq : ((ln : Int) == (ln : Int)) = true := by simp
    have hne : ((ln : Int) != (ln : Int)) = false := by simp
    have hnd : (!decide ((ln : Int) = (ln : Int))) = false := by simp
    go_wp2_with fail
    go_loopw [7] (fun iv wr => ∃ h : Nat, iv = .int .i64 h ∧ h ≤ ln ∧ Grow w3 wr) (fun i _ => ln - (intOf i).toNat)
    case atStart => exact ⟨0, rfl, Nat.zero_le _, Grow.refl _⟩
    case round => as_aux_lemma =>
      obtain ⟨h, rfl, hh, hgr⟩ := hrel
      rename World => wr
      have HGR := Lib.hid hgr
      clear hgr htc0
      have htc := ((HG3.out.trans HGR.out).block HF.out).cell
      by_cases hlt : h < ln
      · have hld : decide ((h : Int) < (ln : Int)) = true := decide_eq_true (by omega)
        have hldn : decide (h < ln) = true := decide_eq_true hlt
        have hhi : (h : Int) < (ln : Int) := by omega
        have hh0 : (0 : Int) ≤ (h : Int) := by omega
        obtain ⟨k, hk⟩ : ∃ k, ks[h]? = some k := ⟨_, List.getElem?_eq_getElem (by rw [HKL.out]; exact hlt)⟩
        have HLI := Lib.hid (HALL.out h k hk)
        have hkn : (natsL ks)[h]? = some (k : Int) := by simp [hk]
        obtain ⟨bk, ok, rfl, hbk, hck⟩ : ∃ b off, Ak = some ⟨b, off, none⟩ ∧ b < w3.heap.size ∧ w3.cell? ⟨b, off + h, none⟩ = some (.int .i64 k) := by
          rcases HKI.out with e | ⟨b, off, e1, e2, e3⟩
          · rw [e] at hkn; simp at hkn
          · exact ⟨b, off, e1, e2, e3 h k hkn⟩
        have HCK := Lib.hid (fun (w0 : World) (hw : Grow w3 w0) => (hw.cell hck))
        have hckr := HCK.out wr HGR.out
        have HLTH := Lib.hid hlt
        have hkle : k ≤ limA t.d := HLI.out.1
        have hk6 : k ≤ 6 := by have := HLP.out; omega
        clear hk hkn hck hbk
        go_upto_region 9 with fail
        go_cut [8] (fun v wx => v = .int .i64 (limA t.d : Nat) ∧ wr = wx)
        case first =>
          go_wp2
          all_goals
            go_meet
            refine ⟨?_, rfl⟩
            congr 1
            rw [HLA.out]
            omega
        case rest =>
          obtain ⟨rfl, rfl⟩ := hcut
          have hk0 : decide ((k : Int) < 0) = false := decide_eq_false (by omega)
          have hk1 : decide ((limA t.d : Int) < (k : Int)) = false := decide_eq_false (by omega)
          have hk2 : decide (limA t.d < k) = false := decide_eq_false (by omega)
          clear htc
          go_upto_region 13 with fail
          go_loopw [9] (fun nv wn => ∃ n : Nat, nv = .int .i64 n ∧ 1 ≤ n ∧ n ≤ limA t.d + 1 ∧ Grow wr wn) (fun i _ => limA t.d + 2 - (intOf i).toNat)
          case atStart => exact ⟨1, rfl, Nat.le_refl _, by omega, Grow.refl _⟩
          case round => as_aux_lemma =>
            obtain ⟨n, rfl, hn1', hnl, hgn⟩ := hrel
            rename World => wn
            have HGN : Hid (Grow w3 wn) := Lib.hid (HGR.out.trans hgn)
            have HGNR := Lib.hid hgn
            clear hckr hgn
            have hckn := HCK.out wn HGN.out
            have htc := ((HG3.out.trans HGN.out).block HF.out).cell
            by_cases hin : n ≤ limA t.d ∧ n ≤ k + 1
            · have hd1 : decide ((n : Int) ≤ (limA t.d : Int)) = true := decide_eq_true (by omega)
              have hd1n : decide (n ≤ limA t.d) = true := decide_eq_true hin.1
              have hd2 : decide ((n : Int) ≤ (k : Int) + 1) = true := decide_eq_true (by omega)
              have hd2n : decide (n ≤ k + 1) = true := decide_eq_true hin.2
              have HIN := Lib.hid hin
              have hnp : n ≤ t.d.parts.length := by have := HLP.out; omega
              have hn6 : n ≤ 6 := by have := HLP.out; omega
              clear hin
              go_wp2_with fail
              refine (HCO.out _ (HG.out.trans (HG3.out.trans HGN.out))).mono ?_
              rintro e w5 ⟨A5, ca5, B5, cb5, lo5, rfl, hT5, _, hI5, hb5⟩
              have HG5 : Hid (Grow wn w5) := hb5
              have HT5 := Lib.hid hT5
              have HI5 := Lib.hid hI5
              have hcb : t.d.parts.length ≤ cb5 := hI5.2
              clear htc hb5 hT5 hI5
              go_upto_region 16 with fail
              obtain ⟨W6, hW6, hg6, hu6, hsz6⟩ := one_block w5 25 (cellsT ⟨t.d, A5, ca5, B5, cb5⟩)
              rw [hW6]
              clear hW6
              obtain ⟨bu, ebu⟩ : ∃ q, w5.heap.size = q := ⟨_, rfl⟩
              have hTA5 : TaskAt w5 bu ⟨t.d, A5, ca5, B5, cb5⟩ := by rw [← ebu]; exact ⟨HT5.out.at_, HI5.out.1.ints⟩
              have HTA := Lib.hid hTA5
              have HBU6 : Hid (Below bu w5 W6) := Lib.hid (by rw [← ebu]; exact hg6)
              have HWU : Hid (wn.heap.size ≤ bu) := Lib.hid (by rw [← ebu]; exact HG5.out.size)
              rw [ebu] at hu6 hsz6 ⊢
              have HU6 := Lib.hid hu6
              have huc := hu6.cell
              have huf := hu6.frozen
              have hncb : (n : Int) ≤ (cb5 : Int) := by omega
              have hnn0 : (0 : Int) ≤ (n : Int) := by omega
              clear hg6 hu6 hTA5 HT5 HI5
              go_upto_region 17 with fail
              obtain ⟨w7, hw7⟩ : ∃ q, W6.setCell ⟨bu, 1, none⟩ (.slice B5 n cb5) = q := ⟨_, rfl⟩
              rw [hw7]
              have HU7 : Hid (BlockIs w7 bu 25 #[.slice A5 t.d.hands.length ca5, .slice B5 n cb5, .int .i64 t.d.limit, .int .i64 t.d.rest, .int .i64 t.d.swap]) := Lib.hid (by rw [← hw7]; exact HU6.out.near 1 _)
              have HB7 : Hid (Below bu w5 w7) := Lib.hid (by rw [← hw7]; exact HBU6.out.setCell (p := ⟨bu, 1, none⟩) (Nat.le_refl _) _)
              clear hw7 huc huf HU6 HBU6 hsz6 hckn
              have hmk := HMK.out n (by omega) w7
              go_upto_region 18 with fail
              obtain ⟨w8, hw8⟩ : ∃ q, w7.alloc (.cells (madeCells #[.int .i64 0] n) 3) = q := ⟨_, rfl⟩
              obtain ⟨bq, ebq⟩ : ∃ q, w7.heap.size = q := ⟨_, rfl⟩
              rw [hw8, ebq]
              have HR8 : Hid (RowAt w8 bq n (List.replicate 0 (h : Int))) := Lib.hid (by
                rw [← hw8, ← ebq]
                exact ⟨_, BlockIs.new _ _ _, size_madeCells _ _, fun i x hi => by simp at hi⟩)
              have HU8 : Hid (BlockIs w8 bu 25 #[.slice A5 t.d.hands.length ca5, .slice B5 n cb5, .int .i64 t.d.limit, .int .i64 t.d.rest, .int .i64 t.d.swap]) := Lib.hid (by rw [← hw8]; exact (Grow.alloc _ _).block HU7.out)
              have hubq : bu < bq := by rw [← ebq]; exact HU7.out.lt
              have HB8 : Hid (Below bu w5 w8) := Lib.hid (by rw [← hw8]; exact HB7.out.trans (Below.mono (Grow.alloc _ _) (by omega)))
              clear hw8 hmk ebq HU7 HB7
              go_wp2_with fail
              go_loopw [12] (fun iv wi => ∃ i : Nat, iv = .int .i64 i ∧ i ≤ n ∧ RowAt wi bq n (List.replicate i (h : Int)) ∧ Below bq w8 wi) (fun i _ => n - (intOf i).toNat)
              case atStart => exact ⟨0, rfl, Nat.zero_le _, HR8.out, Below.refl _ _⟩
              case round => as_aux_lemma =>
                obtain ⟨i, rfl, hi, hri, hbi⟩ := hrel
                rename World => wi
                have HRI := Lib.hid hri
                have HBI := Lib.hid hbi
                clear hri hbi
                by_cases hit : i < n
                · have hid : decide ((i : Int) < (n : Int)) = true := decide_eq_true (by omega)
                  have hidn : decide (i < n) = true := decide_eq_true hit
                  have hii : (i : Int) < (n : Int) := by omega
                  have hi0 : (0 : Int) ≤ (i : Int) := by omega
                  obtain ⟨⟨vf, hvf⟩, hff⟩ := HRI.out.spot hit
                  have hput := HRI.out.put (by rw [List.length_replicate]; exact hit) (h : Int)
                  rw [List.length_replicate, ← List.replicate_succ'] at hput
                  have HPUT := Lib.hid hput
                  have HB9 := Lib.hid (HBI.out.setCell (p := ⟨bq, i, none⟩) (Nat.le_refl _) (.int .i64 (h : Int)))
                  clear hput
                  go_wp2
                  go_roundw
                  case rel => exact ⟨i + 1, by go_num, hit, HPUT.out, HB9.out⟩
                  case measure => simp [intOf]; omega
                · obtain rfl : i = n := by omega
                  have hid : decide ((i : Int) < (i : Int)) = false := by simp
                  have HB9 : Hid (Below bu w5 wi) := Lib.hid (HB8.out.trans (Below.mono HBI.out (Nat.le_of_lt hubq)))
                  have hu9 := HU8.out.below HBI.out hubq
                  have huc := hu9.cell
                  have hlen : (t.d.parts.take i).length = i := by rw [List.length_take]; omega
                  have hta : TaskAt wi wi.heap.size ⟨cutT t.d i, A5, ca5, B5, cb5⟩ := by
                    have h := (HTA.out.below HB9.out).more (n' := wi.heap.size) (Nat.le_of_lt hu9.lt)
                    exact ⟨h.1, h.2.take i⟩
                  have hm := mistakes_any ⟨cutT t.d i, A5, ca5, B5, cb5⟩ (List.replicate i (h : Int)) (some ⟨bq, 0, none⟩) i _ wi hta (HRI.out.ints HRI.out.lt) (Nat.le_refl _)
                  have e1 : taskV ⟨cutT t.d i, A5, ca5, B5, cb5⟩ = .agg #[.slice A5 t.d.hands.length ca5, .slice B5 i cb5, .int .i64 t.d.limit, .int .i64 t.d.rest, .int .i64 t.d.swap] := by
                    show Value.agg #[.slice A5 t.d.hands.length ca5, .slice B5 (t.d.parts.take i).length cb5, .int .i64 t.d.limit, .int .i64 t.d.rest, .int .i64 t.d.swap] = _
                    rw [hlen]
                  obtain ⟨bm, hbm⟩ := HMI.out h i (by rw [HLN.out]; exact HLTH.out) hn1' hnp
                  rw [e1, List.length_replicate] at hm
                  dsimp only at hm
                  rw [hbm] at hm
                  have HMM := Lib.hid hm
                  have hiff := HIF.out h k i (by rw [HLN.out]; exact HLTH.out) HLI.out HIN.out.1 HIN.out.2
                  generalize misA t.d h i = mv at HMM hiff
                  have HIFF := Lib.hid hiff
                  clear hu9 hlen hta hm e1 hbm hiff HU8 HR8 HRI
                  go_wp2_with fail
                  refine HMM.out.mono ?_
                  rintro e wa ⟨rfl, hba⟩
                  have hga : Grow wn wa := (Below.trans (HG5.out) (Below.mono HB9.out HWU.out)).trans (Below.mono hba (Nat.le_trans HWU.out (by have := HB9.out.size; omega)))
                  have HGA := Lib.hid hga
                  have hckn := HCK.out wa (HGN.out.trans hga)
                  clear hba huc hga
                  by_cases hnk : i ≤ k
                  · have q1 : decide (mv ≤ most) = true := decide_eq_true (HIFF.out.2 hnk)
                    have q2 : decide ((i : Int) ≤ (k : Int)) = true := decide_eq_true (by omega)
                    have q3 : decide (i ≤ k) = true := decide_eq_true hnk
                    clear hnk
                    go_wp2
                    go_roundw
                    case rel => exact ⟨i + 1, by go_num, by omega, by have := HIN.out.1; omega, HGNR.out.trans HGA.out⟩
                    case measure => simp [intOf]; have := HIN.out.1; omega
                  · have q1 : decide (mv ≤ most) = false := decide_eq_false (fun g => hnk (HIFF.out.1 g))
                    have q2 : decide ((i : Int) ≤ (k : Int)) = false := decide_eq_false (by omega)
                    have q3 : decide (i ≤ k) = false := decide_eq_false hnk
                    clear hnk
                    go_wp2
                    go_roundw
                    case rel => exact ⟨i + 1, by go_num, by omega, by have := HIN.out.1; omega, HGNR.out.trans HGA.out⟩
                    case measure => simp [intOf]; have := HIN.out.1; omega
            · by_cases h1 : n ≤ limA t.d
              · have hd1 : decide ((n : Int) ≤ (limA t.d : Int)) = true := decide_eq_true (by omega)
                have hd1n : decide (n ≤ limA t.d) = true := decide_eq_true h1
                have hd2 : decide ((n : Int) ≤ (k : Int) + 1) = false := decide_eq_false (by omega)
                have hd2n : decide (n ≤ k + 1) = false := decide_eq_false (by omega)
                clear hin h1
                go_wp2
                go_roundw
                case rel => exact ⟨h + 1, by go_num, by omega, HGN.out⟩
                case measure => simp [intOf]; omega
              · have hd1 : decide ((n : Int) ≤ (limA t.d : Int)) = false := decide_eq_false (by omega)
                have hd1n : decide (n ≤ limA t.d) = false := decide_eq_false h1
                clear hin h1
                go_wp2
                go_roundw
                case rel => exact ⟨h + 1, by go_num, by omega, HGN.out⟩
                case measure => simp [intOf]; omega
      · obtain rfl : h = ln := by omega
        have hld : decide ((h : Int) < (h : Int)) = false := by simp
        go_wp2_with fail
        refine (HWK.out _).mono ?_
        rintro e w6 ⟨rfl, hb6⟩
        have HG6 : Hid (Grow w3 w6) := HGR.out.trans hb6
        clear hb6
        go_wp2
        go_ret
        exact ⟨rfl, HG.out.trans (HG3.out.trans HG6.out)⟩
  · have HNO := Lib.hid hP
    clear hP
    cases hv : validD t.d
    · rw [hv] at HVA
      clear HNO hv ht
      go_enter Try.func8, Try.ntmps8
      go_upto_region 1 with fail
      obtain ⟨W, hW, hg, hf, hsz⟩ := one_block w 25 (cellsT t)
      rw [hW]
      clear hW
      have hcc := hf.cell
      have HG := Lib.hid hg
      clear hf hg
      go_wp2_with fail
      refine (HVA.out _ HG.out).mono ?_
      rintro e w2 ⟨rfl, hb2⟩
      have HG2 : Hid (Grow w w2) := HG.out.trans hb2
      clear hcc hb2
      go_wp2_with fail
      refine (HWK.out _).mono ?_
      rintro e w6 ⟨rfl, hb6⟩
      have HG6 : Hid (Grow w w6) := HG2.out.trans hb6
      clear hb6
      go_wp2
      go_ret
      exact ⟨rfl, HG6.out⟩
    · have hmd : decide (most < 0) = true := decide_eq_true (by have : ¬ 0 ≤ most := fun h => HNO.out ⟨hv, h⟩; omega)
      rw [hv] at HVA
      clear HNO hv ht
      go_enter Try.func8, Try.ntmps8
      go_upto_region 1 with fail
      obtain ⟨W, hW, hg, hf, hsz⟩ := one_block w 25 (cellsT t)
      rw [hW]
      clear hW
      have hcc := hf.cell
      have HG := Lib.hid hg
      clear hf hg
      go_wp2_with fail
      refine (HVA.out _ HG.out).mono ?_
      rintro e w2 ⟨rfl, hb2⟩
      have HG2 : Hid (Grow w w2) := HG.out.trans hb2
      clear hcc hb2
      go_wp2_with fail
      refine (HWK.out _).mono ?_
      rintro e w6 ⟨rfl, hb6⟩
      have HG6 : Hid (Grow w w6) := HG2.out.trans hb6
      clear hb6
      go_wp2
      go_ret
      exact ⟨rfl, HG6.out⟩

end Go.Proofs.Ythlihchndmbkaaa
