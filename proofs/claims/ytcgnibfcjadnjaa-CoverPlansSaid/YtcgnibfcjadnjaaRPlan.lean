/- RPlan: the specification's Plan; written by wip/tools/rplan10.py. -/
import Derived.Test.YtcgnibfcjadnjaaEvery
namespace Go.Proofs.Ytcgnibfcjadnjaa
open Go.RowKit

theorem every_watch {p : Pool} (G : Good p) {l : List Nat} (h : l ∈ everyD p p.needs.length 0 fun _ => p.most) : Watch p l := by
  have hf := (every_mem G p.needs.length 0 _ (Nat.zero_add _) l).1 h
  rw [fits_iff] at hf
  obtain ⟨h1, h2, h3⟩ := hf
  exact ⟨by omega, fun s g hg => by have := h2 s g hg; rw [Nat.zero_add] at this; exact this.1, fun i _ => h3 i⟩
theorem plan_trip {p : Pool} (G : Good p) : (everyD p p.needs.length 0 (fun _ => p.most) = [] → planD p = none) ∧ ∀ e0 rest, everyD p p.needs.length 0 (fun _ => p.most) = e0 :: rest → planD p = some (costL p (leastTo (costL p) rest e0), leastTo (costL p) rest e0) := by
  rw [plan_same G]
  unfold planS
  constructor
  · intro h; rw [h]; rfl
  · intro e0 rest h; rw [h]; rfl
theorem eL_nil (p : Pool) (f : Nat → Nat) : eL p p.needs.length 0 f [] = everyD p p.needs.length 0 f := by
  unfold eL
  simp

theorem rows_covers {w : World} {base c : Nat} {A : Option Addr} {us : List Value} {p : Pool} (h : w.ownsRow base 26 1 (.slice A p.needs.length c) p.needs.length us) (he : ∀ i, i < p.needs.length → ∃ u, us[i]? = some u ∧ ElemI w 0 (natsL (coversD p i)) u) : Rows w w.heap.size A (coversA p) := by
  have h' := h
  rcases h.2 with ⟨e, e2⟩ | ⟨g, c2, cur, hv, hg, hh, h2, h3, h4, h5⟩
  · exact .inl (by unfold coversA; rw [e2]; rfl)
  · injection hv with e1 e2 e3
    subst e1 e3
    have hB : BlockIs w g 26 cur := hh
    refine .inr ⟨g, 0, rfl, hB.lt, fun i xs hi => ?_⟩
    have hlt : i < p.needs.length := by
      have := (List.getElem?_eq_some_iff.1 hi).1
      unfold coversA at this
      simpa using this
    have hx : natsL (coversD p i) = xs := by
      unfold coversA at hi
      rw [List.getElem?_map, List.getElem?_range hlt] at hi
      exact Option.some.inj hi
    subst hx
    obtain ⟨u, hu, a, cc, rfl, hh⟩ := he i hlt
    refine ⟨a, cc, ?_, hh.ints⟩
    have hc := World.ownsRow.cells (g := g) h' rfl i _ hu
    rwa [show (⟨g, 0, none⟩ : Addr).add i = ⟨g, 0 + i, none⟩ by (simp [Addr.add]; try omega)] at hc

set_option maxRecDepth 100000 in
set_option maxHeartbeats 16000000 in
theorem rPlan_good (h : PoolH) (p : Pool) (G : Good p) (hok : okPool p.i = true) (hs : Short p.i) (w : World) (hA : PoolAt w w.heap.size h p.i) :
    Calls Try.prog 42 #[poolN h p] w fun e w' => ∃ A cap, e = .returned (.tuple #[.slice A (tripL (planD p)).length cap, .int .i64 (tripC (planD p) : Nat), .int .i64 (planErr (planD p))]) ∧ Ints w' w'.heap.size A (natsL (tripL (planD p))) ∧ Below w.heap.size w w' := by
  obtain ⟨i0, hi, hz0, hz1, hz2⟩ := info_parts Try.infoRowI
  have hn3 := G.n3
  have hf5 := G.f5
  have hf1 := G.f1
  have hmo := G.most
  have HCK := Lib.hid (fun (w0 : World) (hw : Grow w w0) => rCheck_any h p.i w0 (hA.grow hw) hs)
  rw [show poolErr p.i = 0 by unfold poolErr; rw [hok]; rfl, pool_i] at HCK
  have HCV := Lib.hid (fun (s : Nat) (hs : s < p.needs.length) (w0 : World) (hw : Below w.heap.size w w0) => rCovers_any h p G s hs w0 ((hA.below hw).more hw.size))
  have HEV := Lib.hid (fun (B : Option Addr) (cb : Nat) (A2 : Option Addr) (c2 : Nat) (w0 : World) (hw : Below w.heap.size w w0) (hB : Rows w0 w0.heap.size B (coversA p)) (h2 : Ints w0 w0.heap.size A2 (leftL p fun _ => p.most)) => rEvery_any h p G B cb p.needs.length 0 (Nat.zero_add _) (fun _ => p.most) (fun _ => by omega) [] rfl none A2 0 c2 w0 ((hA.below hw).more hw.size) hB (.inl rfl) h2)
  rw [eL_nil] at HEV
  have HWT := Lib.hid (fun (l : List Nat) (hl : l ∈ everyD p p.needs.length 0 fun _ => p.most) => every_watch G hl)
  have HCO := Lib.hid (fun (l : List Nat) (hl : l ∈ everyD p p.needs.length 0 fun _ => p.most) (A : Option Addr) (cap : Nat) (w0 : World) (hw : Below w.heap.size w w0) (hI : Ints w0 w0.heap.size A (natsL l)) => (show Calls Try.prog 30 #[poolN h p, .slice A p.needs.length cap] w0 fun e w' => e = .returned (.int .i64 (costL p l : Nat)) ∧ Below w0.heap.size w0 w' by
    have h1 := rCost_any h p G A cap l w0 ((hA.below hw).more hw.size) hI (every_watch G hl)
    rwa [(every_watch G hl).len] at h1))
  have hel := every_len G p.needs.length 0 (fun _ => p.most)
  have hel2 : (everyD p p.needs.length 0 fun _ => p.most).length ≤ 32768 := Nat.le_trans hel (by have : 32 ^ p.needs.length ≤ 32 ^ 3 := Nat.pow_le_pow_right (by omega) hn3; omega)
  have HPT := Lib.hid (plan_trip G)
  have hmk := make_full_int p.folk.length
  have hmk : ∀ w0, (Instr.makeSlice 26 (.int .i64 (p.folk.length : Int)) (.int .i64 (p.folk.length : Int))).run Try.prog w0 = .ok (.slice (some ⟨w0.heap.size, 0, none⟩) p.folk.length p.folk.length) (w0.alloc (.cells (intCells (List.replicate p.folk.length 0)) 3)) := fun w0 => hmk w0 (by omega)
  obtain ⟨PO, hPO⟩ : ∃ z : Ending → World → Prop, (fun e w' => ∃ A cap, e = Ending.returned (.tuple #[.slice A (tripL (planD p)).length cap, .int .i64 (tripC (planD p) : Nat), .int .i64 (planErr (planD p))]) ∧ Ints w' w'.heap.size A (natsL (tripL (planD p))) ∧ Below w.heap.size w w') = z := ⟨_, rfl⟩
  have HPO : Hid (∀ w' A cap, Ints w' w'.heap.size A (natsL (tripL (planD p))) → Below w.heap.size w w' → PO (Ending.returned (.tuple #[.slice A (tripL (planD p)).length cap, .int .i64 (tripC (planD p) : Nat), .int .i64 (planErr (planD p))])) w') := Lib.hid (fun w' A cap h1 h2 => by rw [← hPO]; exact ⟨A, cap, rfl, h1, h2⟩)
  rw [hPO]
  obtain ⟨E, hE⟩ : ∃ z, (everyD p p.needs.length 0 fun _ => p.most) = z := ⟨_, rfl⟩
  rw [hE] at HEV HWT HCO HPT hel2
  clear hok hA hs hPO hE hel G
  obtain ⟨fa, fc, na, nc⟩ := h
  go_enter Try.func42, Try.ntmps42
  go_upto_region 1 with fail
  obtain ⟨W, hW, hg, hf, hsz⟩ := one_block w 25 (cellsN ⟨fa, fc, na, nc⟩ p)
  rw [hW]
  clear hW
  have hcc := hf.cell
  have HG := Lib.hid hg
  have HF := Lib.hid hf
  clear hf hg
  go_wp2_with fail
  refine (HCK.out W HG.out).mono ?_
  rintro e w1 ⟨rfl, hb1⟩
  have HG1 : Hid (Grow W w1) := hb1
  have hcc := (HG1.out.block HF.out).cell
  clear hb1
  go_upto_region 4 with fail
  obtain ⟨W3, hW3, hg3, hf3, hsz3⟩ := one_block w1 3 (intCells (List.replicate p.folk.length 0))
  rw [hW3]
  clear hW3 hmk
  have HT3 := Lib.hid hf3
  have HG3 : Hid (Grow w W3) := Lib.hid (HG.out.trans (HG1.out.trans hg3))
  have HF3 := Lib.hid ((HG1.out.trans hg3).block HF.out)
  have hwtb : w.heap.size < w1.heap.size := by have h1 := HG1.out.size; omega
  have HC3 : Hid (∀ i, i < p.folk.length → (intCells (List.replicate p.folk.length 0))[i]? = some (.int .i64 ((if i < 0 then p.most else 0 : Nat) : Int))) := Lib.hid (fun i hi => by rw [if_neg (by omega)]; simp [intCells, hi])
  clear hg3 hf3 hcc HG1
  obtain ⟨tb, htb⟩ : ∃ z, w1.heap.size = z := ⟨_, rfl⟩
  rw [htb] at HT3 hwtb hsz3 ⊢
  clear htb
  go_upto_region 5 with fail
  go_loopw [6] (fun iv wr => ∃ (k : Nat) (cs : Array Value), k ≤ p.folk.length ∧ iv = .int .i64 (k : Nat) ∧ Hid (BlockIs wr tb 3 cs) ∧ Hid (∀ i, i < p.folk.length → cs[i]? = some (.int .i64 ((if i < k then p.most else 0 : Nat) : Int))) ∧ Hid (Below tb W3 wr)) (fun iv _ => p.folk.length - (intOf iv).toNat)
  case atStart => exact ⟨0, _, Nat.zero_le _, rfl, HT3, HC3, Lib.hid (Below.refl _ _)⟩
  case round => as_aux_lemma =>
    obtain ⟨k, cs, hk, rfl, HTB, HCS, HBR⟩ := hrel
    rename World => wr
    have hcc := (HF3.out.below HBR.out (by omega)).cell
    by_cases hlt : k < p.folk.length
    · have hd : decide ((k : Int) < (p.folk.length : Int)) = true := decide_eq_true (by omega)
      have hk0 : (0 : Int) ≤ (k : Int) := by omega
      have hk1 : (k : Int) < (p.folk.length : Int) := by omega
      have htc : wr.cell? ⟨tb, k, none⟩ = some (.int .i64 ((if k < k then p.most else 0 : Nat) : Int)) := by rw [HTB.out.cell]; exact HCS.out k hlt
      have htf := HTB.out.frozen k
      have HTN := Lib.hid (HTB.out.near k (.int .i64 (p.most : Nat)))
      have HBN : Hid (Below tb W3 (wr.setCell ⟨tb, k, none⟩ (.int .i64 (p.most : Nat)))) := Lib.hid (HBR.out.setCell (p := ⟨tb, k, none⟩) (by simp) _)
      have HCN : Hid (∀ i, i < p.folk.length → (cs.setIfInBounds k (.int .i64 (p.most : Nat)))[i]? = some (.int .i64 ((if i < k + 1 then p.most else 0 : Nat) : Int))) := Lib.hid (fun i hi => by
        have hsz : i < cs.size := (Array.getElem?_eq_some_iff.1 (HCS.out i hi)).1
        by_cases hik : k = i
        · subst hik
          rw [Array.getElem?_setIfInBounds_self_of_lt hsz, if_pos (by omega)]
        · rw [Array.getElem?_setIfInBounds_ne hik, HCS.out i hi]
          by_cases h1 : i < k
          · rw [if_pos h1, if_pos (by omega)]
          · rw [if_neg h1, if_neg (by omega)])
      go_wp2_with fail
      go_roundw
      case rel => exact ⟨k + 1, _, by omega, by go_num, HTN, HCN, HBN⟩
      case measure => simp [intOf]; omega
    · obtain rfl : k = p.folk.length := by omega
      have hd : decide ((p.folk.length : Int) < (p.folk.length : Int)) = false := decide_eq_false (by omega)
      have HLI : Hid (Ints wr wr.heap.size (some ⟨tb, 0, none⟩) (leftL p fun _ => p.most)) := Lib.hid (.inr ⟨tb, 0, rfl, HTB.out.lt, fun i x hi => by
        rw [Nat.zero_add, HTB.out.cell]
        unfold leftL at hi
        rw [List.getElem?_map] at hi
        by_cases h1 : i < p.folk.length
        · rw [List.getElem?_range h1] at hi
          obtain rfl : ((p.most : Nat) : Int) = x := by simpa using hi
          rw [HCS.out i h1, if_pos h1]
        · rw [List.getElem?_eq_none (by simp; omega)] at hi
          cases hi⟩)
      have HWR : Hid (Below w.heap.size w wr) := Lib.hid (HG3.out.trans' (HBR.out.mono (by omega)))
      have HFR := Lib.hid (HF3.out.below HBR.out (by omega))
      clear HTB HCS HBR HT3 HC3 HG3 HF3
      go_upto_region 10 with fail
      clear hcc hd
      go_loopw [7, 8] (fun ov iv ws => ∃ (s : Nat) (A : Option Addr) (cap : Nat) (us : List Value), s ≤ p.needs.length ∧ iv = .int .i64 (s : Nat) ∧ ov = .slice A s cap ∧ Hid (ws.ownsRow wr.heap.size 26 1 (.slice A s cap) s us) ∧ Hid (∀ i, i < s → ∃ u, us[i]? = some u ∧ ElemI ws 0 (natsL (coversD p i)) u) ∧ Hid (Grow wr ws)) (fun _ iv _ => p.needs.length - (intOf iv).toNat)
      case atStart => exact ⟨0, none, 0, [], Nat.zero_le _, rfl, rfl, Lib.hid ⟨rfl, .inl ⟨rfl, rfl⟩⟩, Lib.hid (fun i hi => by omega), Lib.hid (Grow.refl _)⟩
      case round => as_aux_lemma =>
        obtain ⟨s, A, cap, us, hs, rfl, rfl, HOW, HEU, HGS⟩ := hrel
        rename World => ws
        have hcc := (HGS.out.block HFR.out).cell
        have HWS : Hid (Below w.heap.size w ws) := Lib.hid (HWR.out.trans (Below.mono HGS.out HWR.out.size))
        by_cases hlt : s < p.needs.length
        · have hd : decide ((s : Int) < (p.needs.length : Int)) = true := decide_eq_true (by omega)
          go_wp2_with fail
          refine (HCV.out s hlt ws HWS.out).mono ?_
          rintro e w4 ⟨ca, cc, rfl, hct, hcb⟩
          have HG4 : Hid (Grow ws w4) := hcb
          have HEL : Hid (ElemI w4 0 (natsL (coversD p s)) (.slice ca (coversD p s).length cc)) := Lib.hid ⟨ca, cc, by rw [natsL_length], hct.mono (Nat.zero_le _)⟩
          have HOA : Hid ((w4.alloc (.cells #[.slice ca (coversD p s).length cc] 26)).ownsRow wr.heap.size 26 1 (.slice A s cap) s us) := Lib.hid (own_grow HOW.out (HG4.out.trans (Grow.alloc _ _)))
          have hz4 : wr.heap.size ≤ w4.heap.size := by have h1 := HGS.out.size; have h2 := HG4.out.size; omega
          clear hct hcb hcc
          go_wp2_with (at_builtin; go_loud (refine wpList_append_own _ rfl _ _ 23 rfl wr.heap.size 26 i0 (.slice none 0 0) 1 24 Try.underlying23 hi hz0 hz1 hz2 rfl (by omega) _ s us rfl ?d0 ⟨w4.heap.size, 0, none⟩ 1 1 [.slice ca (coversD p s).length cc] rfl rfl ?d1 ?d2 ?d3 ?d4 ?d5 ?_))
          case d0 => exact HOA.out
          case d1 => exact news_one (BlockIs.new _ _ _)
          case d2 => simp [Value.oneCell']
          case d3 => unfold maxLen; omega
          case d4 => omega
          case d5 => simp; omega
          intro v' w6 hown hgr _
          obtain ⟨A6, c6, rfl⟩ := own_form hown
          have hkp : ∀ b cs, BlockIs (w4.alloc (.cells #[.slice ca (coversD p s).length cc] 26)) b 3 cs → BlockIs w6 b 3 cs := fun b cs hq => hq.grown hgr (own_block_ne HOA.out hq (by decide))
          have HO6 := Lib.hid hown
          have HG6 : Hid (Grow wr w6) := Lib.hid (below_grown ((HGS.out.trans HG4.out).trans (Grow.alloc _ _)) HOA.out hgr (by simp; omega))
          have HE6 : Hid (∀ i, i < s + 1 → ∃ u, (us ++ [.slice ca (coversD p s).length cc])[i]? = some u ∧ ElemI w6 0 (natsL (coversD p i)) u) := Lib.hid (fun i hi => by
            have hul : us.length = s := by have := HOW.out.1; omega
            by_cases h1 : i < s
            · obtain ⟨u, e1, e2⟩ := HEU.out i h1
              exact ⟨u, by rw [List.getElem?_append_left (by omega)]; exact e1, (e2.grow (HG4.out.trans (Grow.alloc _ _))).keepT hkp⟩
            · obtain rfl : i = s := by omega
              exact ⟨_, by rw [← hul, List.getElem?_concat_length], (HEL.out.grow (Grow.alloc _ _)).keepT hkp⟩)
          clear hown hgr hkp HOA
          go_wp2_with fail
          go_roundw
          case rel => exact ⟨s + 1, A6, c6, _, by omega, by go_num, rfl, HO6, HE6, HG6⟩
          case measure => simp [intOf]; omega
        · obtain rfl : s = p.needs.length := by omega
          have hd : decide ((p.needs.length : Int) < (p.needs.length : Int)) = false := decide_eq_false (by omega)
          have HRB : Hid (Rows ws ws.heap.size A (coversA p)) := Lib.hid (rows_covers HOW.out HEU.out)
          have HLS := Lib.hid ((HLI.out.below HGS.out).more HGS.out.size)
          have HEC := Lib.hid (HEV.out A cap (some ⟨tb, 0, none⟩) p.folk.length ws HWS.out HRB.out HLS.out)
          have HFS := Lib.hid (HGS.out.block HFR.out)
          clear HOW HEU
          go_wp2_with fail
          refine HEC.out.mono ?_
          rintro e w4 ⟨v, rfl, ⟨A4, ec, rfl, hr4⟩, hb4⟩
          have HWR4 : Hid (Below w.heap.size w w4) := Lib.hid (HWS.out.trans (Below.mono hb4 HWS.out.size))
          have HF4 := Lib.hid ((show Grow ws w4 from hb4).block HFS.out)
          have HR4 := Lib.hid hr4
          clear hb4 hr4 hcc
          cases E with
          | nil =>
            have HPN := Lib.hid (HPT.out.1 rfl)
            rw [HPN.out] at HPO
            go_wp2
            exact bodyPost_ret (results_three Try.results42 _ _ _ _ _ rfl rfl rfl) rfl (HPO.out _ none 0 (.inl rfl) HWR4.out)
          | cons e0 rest =>
            have HPS := Lib.hid (HPT.out.2 e0 rest rfl)
            rw [HPS.out] at HPO
            have HPO2 : Hid (∀ w' A cap, Ints w' w'.heap.size A (natsL (leastTo (costL p) rest e0)) → Below w.heap.size w w' → PO (Ending.returned (.tuple #[.slice A (leastTo (costL p) rest e0).length cap, .int .i64 (costL p (leastTo (costL p) rest e0) : Nat), .int .i64 0])) w') := HPO
            clear HPO HPT HPS
            have HEND : Hid (leastTo (costL p) ((e0 :: rest).take (e0 :: rest).length) e0 = leastTo (costL p) rest e0) := Lib.hid (by
              rw [List.take_length]
              show leastTo (costL p) rest (if costL p e0 < costL p e0 then e0 else e0) = _
              rw [if_neg (Nat.lt_irrefl _)])
            rw [← HEND.out] at HPO2
            have HLM := Lib.hid (fun i => (show leastTo (costL p) ((e0 :: rest).take i) e0 ∈ e0 :: rest by
              rcases leastTo_mem (costL p) ((e0 :: rest).take i) e0 with h | h
              · rw [h]; simp
              · exact List.mem_of_mem_take h))
            have hz : (((e0 :: rest).length : Int) == 0) = false := by simp; omega
            have hz0' : (0 : Int) < ((e0 :: rest).length : Int) := by simp
            have hE0 : (e0 :: rest)[0]? = some e0 := rfl
            obtain ⟨E, hE⟩ : ∃ z, e0 :: rest = z := ⟨_, rfl⟩
            rw [hE] at HR4 HWT HCO hel2 HPO2 HLM hz hz0' hE0 ⊢
            clear HEND hE
            rcases HR4.out with ⟨_, q⟩ | ⟨eb, ecs, rfl, heb, hec⟩
            · exfalso
              have := lt_of_at hE0
              rw [q] at this
              simp at this
            have HRX := Lib.hid (fun (w0 : World) (hw : Grow w4 w0) (i : Nat) (x : List Nat) (hx : E[i]? = some x) => (show ∃ xa xc, w0.cell? ⟨eb, i, none⟩ = some (.slice xa p.needs.length xc) ∧ IntT w0 0 xa (natsL x) by
              obtain ⟨u, h1, a, c, rfl, h3⟩ := hec i x hx
              refine ⟨a, c, ?_, h3.grow hw⟩
              rw [(hw.block heb).cell, h1, natsL_length, (HWT.out x (List.mem_of_getElem? hx)).len]))
            obtain ⟨xa0, xc0, hc0, hi0⟩ := HRX.out w4 (Grow.refl _) 0 e0 hE0
            have HI0 : Hid (IntT w4 0 xa0 (natsL (leastTo (costL p) (E.take 0) e0))) := Lib.hid (by rw [List.take_zero]; exact hi0)
            clear heb hec hE0 hi0 HR4
            go_upto_region 18 with fail
            clear hz hz0' hc0
            go_loopw [2, 10] (fun mv iv wr2 => ∃ (i : Nat) (ma : Option Addr) (mc : Nat), i ≤ E.length ∧ iv = .int .i64 (i : Nat) ∧ mv = .slice ma p.needs.length mc ∧ Hid (IntT wr2 0 ma (natsL (leastTo (costL p) (E.take i) e0))) ∧ Hid (Grow w4 wr2)) (fun _ iv _ => E.length - (intOf iv).toNat)
            case atStart => exact ⟨0, xa0, xc0, Nat.zero_le _, rfl, rfl, HI0, Lib.hid (Grow.refl _)⟩
            case round => as_aux_lemma =>
              obtain ⟨i, ma, mc, hi2, rfl, rfl, HMT, HG4R⟩ := hrel
              rename World => wr2
              have HFR := Lib.hid (HG4R.out.block HF4.out)
              have HWR : Hid (Below w.heap.size w wr2) := Lib.hid (HWR4.out.trans (Below.mono HG4R.out HWR4.out.size))
              have hmm := HLM.out i
              by_cases hlt : i < E.length
              · have hd : decide ((i : Int) < (E.length : Int)) = true := decide_eq_true (by omega)
                have hi0 : (0 : Int) ≤ (i : Int) := by omega
                have hi1 : (i : Int) < (E.length : Int) := by omega
                obtain ⟨x, hx⟩ : ∃ x, E[i]? = some x := ⟨_, List.getElem?_eq_getElem hlt⟩
                obtain ⟨xa, xc, hxc, hxt⟩ := HRX.out wr2 HG4R.out i x hx
                have HXC := Lib.hid hxc
                have HXT := Lib.hid hxt
                have HXI := Lib.hid hxt.ints
                have HCX := Lib.hid (HCO.out x (List.mem_of_getElem? hx))
                have HST : Hid (leastTo (costL p) (E.take (i + 1)) e0 = if costL p x < costL p (leastTo (costL p) (E.take i) e0) then x else leastTo (costL p) (E.take i) e0) := Lib.hid (by rw [take_snoc hx, leastTo_snoc])
                obtain ⟨m, hm⟩ : ∃ z, leastTo (costL p) (E.take i) e0 = z := ⟨_, rfl⟩
                rw [hm] at HST HMT hmm
                have HMI := Lib.hid HMT.out.ints
                have HCM := Lib.hid (HCO.out m hmm)
                obtain ⟨ci, hci⟩ : ∃ z, costL p x = z := ⟨_, rfl⟩
                obtain ⟨cm, hcm⟩ : ∃ z, costL p m = z := ⟨_, rfl⟩
                rw [hci] at HCX HST
                rw [hcm] at HCM HST
                obtain ⟨c, hc⟩ : ∃ z, decide (ci < cm) = z := ⟨_, rfl⟩
                have HC := Lib.hid hc
                clear hxc hxt hx hm hci hcm hc hmm
                go_upto_region 20 with fail
                clear hd
                refine wp_region_lit 10 [[], [], [], [(1, 59), (2, 60)], [(3, 61)], [(0, 58), (4, 62)], [], [], [(6, 64), (7, 65)], [(5, 63), (8, 66)]] Grow (fun qi v w' => match qi with
                    | 0 => v = poolN ⟨fa, fc, na, nc⟩ p
                    | 1 => v = .slice (some ⟨eb, 0, none⟩) E.length ec
                    | 2 => v = .int .i64 (i : Nat)
                    | 3 => v = .pointer (some ⟨eb, i, none⟩)
                    | 4 => v = .slice xa p.needs.length xc
                    | 5 => v = .int .i64 (ci : Nat)
                    | 6 => v = poolN ⟨fa, fc, na, nc⟩ p
                    | 7 => v = .slice ma p.needs.length mc
                    | 8 => v = .int .i64 (cm : Nat)
                    | 9 => v = .bool c
                    | _ => False) (by kernel_rfl) (by kernel_rfl) (fun _ _ _ => Grow.trans) Grow.refl ?_ ?_ ?_
                · intro i v y y' h k
                  match i, h with
                  | 0, h | 1, h | 2, h | 3, h | 4, h | 5, h | 6, h | 7, h | 8, h | 9, h => exact h
                · simp only [StepsLit, List.take_succ_cons, List.take_zero]
                  refine ⟨?_, ?_, ?_, ?_, ?_, ?_, ?_, ?_, ?_, ?_, trivial⟩
                  · intro w5 hR
                    have hGw : Grow wr2 w5 := hR.of_drew
                    have HGW := Lib.hid hGw
                    have hcc := (HGW.out.block HFR.out).cell
                    have hxc : w5.cell? ⟨eb, i, none⟩ = some (.slice xa p.needs.length xc) := HGW.out.cell HXC.out
                    clear hR hGw
                    simp only [depV]
                    try go_simp
                    all_goals first
                      | (with_reducible exact Grow.refl _)
                      | (with_reducible exact ⟨Grow.refl _, rfl⟩)
                  · intro w5 hR
                    have hGw : Grow wr2 w5 := hR.of_drew
                    have HGW := Lib.hid hGw
                    have hcc := (HGW.out.block HFR.out).cell
                    have hxc : w5.cell? ⟨eb, i, none⟩ = some (.slice xa p.needs.length xc) := HGW.out.cell HXC.out
                    clear hR hGw
                    simp only [depV]
                    try go_simp
                    all_goals first
                      | (with_reducible exact Grow.refl _)
                      | (with_reducible exact ⟨Grow.refl _, rfl⟩)
                  · intro w5 hR
                    have hGw : Grow wr2 w5 := hR.of_drew
                    have HGW := Lib.hid hGw
                    have hcc := (HGW.out.block HFR.out).cell
                    have hxc : w5.cell? ⟨eb, i, none⟩ = some (.slice xa p.needs.length xc) := HGW.out.cell HXC.out
                    clear hR hGw
                    simp only [depV]
                    try go_simp
                    all_goals first
                      | (with_reducible exact Grow.refl _)
                      | (with_reducible exact ⟨Grow.refl _, rfl⟩)
                  · intro w5 hR
                    have hGw : Grow wr2 w5 := hR.of_drew
                    have HGW := Lib.hid hGw
                    have hcc := (HGW.out.block HFR.out).cell
                    have hxc : w5.cell? ⟨eb, i, none⟩ = some (.slice xa p.needs.length xc) := HGW.out.cell HXC.out
                    clear hR hGw
                    simp only [depV]
                    rintro _ rfl
                    rintro _ rfl
                    try go_simp
                    all_goals first
                      | (with_reducible exact Grow.refl _)
                      | (with_reducible exact ⟨Grow.refl _, rfl⟩)
                  · intro w5 hR
                    have hGw : Grow wr2 w5 := hR.of_drew
                    have HGW := Lib.hid hGw
                    have hcc := (HGW.out.block HFR.out).cell
                    have hxc : w5.cell? ⟨eb, i, none⟩ = some (.slice xa p.needs.length xc) := HGW.out.cell HXC.out
                    clear hR hGw
                    simp only [depV]
                    rintro _ rfl
                    try go_simp
                    all_goals first
                      | (with_reducible exact Grow.refl _)
                      | (with_reducible exact ⟨Grow.refl _, rfl⟩)
                  · intro w5 hR
                    have hGw : Grow wr2 w5 := hR.of_drew
                    have HGW := Lib.hid hGw
                    have hcc := (HGW.out.block HFR.out).cell
                    have hxc : w5.cell? ⟨eb, i, none⟩ = some (.slice xa p.needs.length xc) := HGW.out.cell HXC.out
                    clear hR hGw
                    simp only [depV]
                    rintro _ rfl
                    rintro _ rfl
                    try go_simp
                    refine (HCX.out xa xc w5 (HWR.out.trans (Below.mono HGW.out HWR.out.size)) ((HXI.out.below HGW.out).more HGW.out.size)).mono ?_
                    rintro e w6 ⟨rfl, hb6⟩
                    exact ⟨hb6, rfl⟩
                  · intro w5 hR
                    have hGw : Grow wr2 w5 := hR.of_drew
                    have HGW := Lib.hid hGw
                    have hcc := (HGW.out.block HFR.out).cell
                    have hxc : w5.cell? ⟨eb, i, none⟩ = some (.slice xa p.needs.length xc) := HGW.out.cell HXC.out
                    clear hR hGw
                    simp only [depV]
                    try go_simp
                    all_goals first
                      | (with_reducible exact Grow.refl _)
                      | (with_reducible exact ⟨Grow.refl _, rfl⟩)
                  · intro w5 hR
                    have hGw : Grow wr2 w5 := hR.of_drew
                    have HGW := Lib.hid hGw
                    have hcc := (HGW.out.block HFR.out).cell
                    have hxc : w5.cell? ⟨eb, i, none⟩ = some (.slice xa p.needs.length xc) := HGW.out.cell HXC.out
                    clear hR hGw
                    simp only [depV]
                    try go_simp
                    all_goals first
                      | (with_reducible exact Grow.refl _)
                      | (with_reducible exact ⟨Grow.refl _, rfl⟩)
                  · intro w5 hR
                    have hGw : Grow wr2 w5 := hR.of_drew
                    have HGW := Lib.hid hGw
                    have hcc := (HGW.out.block HFR.out).cell
                    have hxc : w5.cell? ⟨eb, i, none⟩ = some (.slice xa p.needs.length xc) := HGW.out.cell HXC.out
                    clear hR hGw
                    simp only [depV]
                    rintro _ rfl
                    rintro _ rfl
                    try go_simp
                    refine (HCM.out ma mc w5 (HWR.out.trans (Below.mono HGW.out HWR.out.size)) ((HMI.out.below HGW.out).more HGW.out.size)).mono ?_
                    rintro e w6 ⟨rfl, hb6⟩
                    exact ⟨hb6, rfl⟩
                  · intro w5 hR
                    have hGw : Grow wr2 w5 := hR.of_drew
                    have HGW := Lib.hid hGw
                    have hcc := (HGW.out.block HFR.out).cell
                    have hxc : w5.cell? ⟨eb, i, none⟩ = some (.slice xa p.needs.length xc) := HGW.out.cell HXC.out
                    clear hR hGw
                    simp only [depV]
                    rintro _ rfl
                    rintro _ rfl
                    try go_simp
                    first
                      | (with_reducible exact Grow.refl _)
                      | exact ⟨Grow.refl _, by rw [HC.out]⟩
                · intro w5 hR
                  have HG5 : Hid (Grow wr2 w5) := Lib.hid hR.of_drew
                  clear hR
                  simp only [finVC, List.take_succ_cons, List.take_zero, List.drop_succ_cons, List.drop_zero]
                  rintro _ rfl
                  rintro _ rfl
                  rintro _ rfl
                  rintro _ rfl
                  rintro _ rfl
                  rintro _ rfl
                  rintro _ rfl
                  rintro _ rfl
                  rintro _ rfl
                  rintro _ rfl
                  simp only [Act.put, List.setIfInBounds_toArray, List.set_cons_succ, List.set_cons_zero]
                  have HGX : Hid (Grow w4 w5) := Lib.hid (HG4R.out.trans HG5.out)
                  have hxc : w5.cell? ⟨eb, i, none⟩ = some (.slice xa p.needs.length xc) := HG5.out.cell HXC.out
                  cases c with
                  | true =>
                    have HEQ : Hid (leastTo (costL p) (E.take (i + 1)) e0 = x) := Lib.hid (by rw [HST.out, if_pos (of_decide_eq_true HC.out)])
                    go_wp2_with fail
                    go_roundw
                    case rel => exact ⟨i + 1, xa, xc, by omega, by go_num, rfl, by rw [HEQ.out]; exact Lib.hid ((HXT.out.grow HG5.out)), HGX⟩
                    case measure => simp [intOf]; omega
                  | false =>
                    have HEQ : Hid (leastTo (costL p) (E.take (i + 1)) e0 = m) := Lib.hid (by rw [HST.out, if_neg (of_decide_eq_false HC.out)])
                    go_wp2_with fail
                    go_roundw
                    case rel => exact ⟨i + 1, ma, mc, by omega, by go_num, rfl, by rw [HEQ.out]; exact Lib.hid ((HMT.out.grow HG5.out)), HGX⟩
                    case measure => simp [intOf]; omega
              · obtain rfl : i = E.length := by omega
                have hd : decide ((E.length : Int) < (E.length : Int)) = false := decide_eq_false (by omega)
                have hcc := HFR.out.cell
                have HML := Lib.hid ((HWT.out _ hmm).len)
                obtain ⟨m, hm⟩ : ∃ z, leastTo (costL p) (E.take E.length) e0 = z := ⟨_, rfl⟩
                rw [hm] at HMT hmm HPO2 HML
                rw [HML.out] at HPO2
                have HCM := Lib.hid (HCO.out m hmm ma mc wr2 HWR.out HMT.out.ints)
                clear hm hmm
                go_wp2_with fail
                refine HCM.out.mono ?_
                rintro e w5 ⟨rfl, hb5⟩
                have HB5 : Hid (Below w.heap.size w w5) := Lib.hid (HWR.out.trans (Below.mono hb5 HWR.out.size))
                have HI5 : Hid (Ints w5 w5.heap.size ma (natsL m)) := Lib.hid (HMT.out.grow hb5).ints
                clear hb5 hcc
                go_wp2
                exact bodyPost_ret (results_three Try.results42 _ _ _ _ _ rfl rfl rfl) rfl (HPO2.out _ _ _ HI5.out HB5.out)

end Go.Proofs.Ytcgnibfcjadnjaa
