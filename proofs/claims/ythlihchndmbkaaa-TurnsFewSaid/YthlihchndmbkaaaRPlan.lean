/- RPlan: the specification's plan and Plan. -/
import Derived.Test.YthlihchndmbkaaaEveryR
import Derived.Test.YthlihchndmbkaaaRefW
import Derived.Test.YthlihchndmbkaaaPlan
namespace Go.Proofs.Ythlihchndmbkaaa
open Go.RowKit

def BestV (v u : Value) (w : World) : BestD → Prop
  | none => v = .slice none 0 0 ∧ u = .int .i64 0
  | some (xs, m) => ∃ b c, v = .slice (some ⟨b, 0, none⟩) xs.length c ∧ u = .int .i64 m ∧ IntsT w 0 (some ⟨b, 0, none⟩) xs
theorem BestV.grow {v u : Value} {w w' : World} {best : BestD} (h : BestV v u w best) (g : Grow w w') : BestV v u w' best := by
  match best, h with
  | none, h => exact h
  | some (xs, m), ⟨b, c, h1, h2, h3⟩ => exact ⟨b, c, h1, h2, h3.grow g⟩
/-- what the specification's Plan answers -/
def PlanApiR (t : TaskD) (v m : Value) (er : Int) (w : World) : Prop :=
  if okTask t = true then match planD t with
    | none => v = .slice none 0 0 ∧ m = .int .i64 0 ∧ er = 3
    | some (xs, k) => ∃ b c, v = .slice (some ⟨b, 0, none⟩) xs.length c ∧ IntsT w 0 (some ⟨b, 0, none⟩) xs ∧ m = .int .i64 k ∧ er = 0
  else v = .slice none 0 0 ∧ m = .int .i64 0 ∧ er = 40
def isB : BestD → Bool
  | none => false
  | some _ => true
theorem IntsT.addr {w : World} {lo : Nat} {A : Option Addr} {xs : List Int} (h : IntsT w lo A xs) (hx : 0 < xs.length) : ∃ b, A = some ⟨b, 0, none⟩ := by
  rcases h with rfl | ⟨b, _, e, _⟩
  · simp at hx
  · exact ⟨b, e⟩

set_option maxRecDepth 100000 in
set_option maxHeartbeats 16000000 in
theorem rplan_any (t : TaskR) (n : Nat) (w : World) (ht : TaskAt w n t) (hn : n ≤ w.heap.size) (hk : okTask t.d = true) :
    Calls Try.prog 56 #[taskV t] w fun e w' => ∃ v u, e = .returned (.tuple #[v, u, .bool (isB (planD t.d))]) ∧ BestV v u w' (planD t.d) ∧ Below w.heap.size w w' := by
  have HEV := Lib.hid (fun (w0 : World) (hw : Grow w w0) => every_any t hk t.d.parts.length [] none 0 w0 (by simp) (by simp) (((ht.more hn).below hw).more hw.size) (.inl rfl))
  have hpl := plan_every hk
  obtain ⟨L, hL⟩ : ∃ q, everyD t.d t.d.parts.length [] = q := ⟨_, rfl⟩
  have hfit := everyD_fit (okTask_parts hk).2.2.2.2.1.1 (n := t.d.parts.length) (t := t.d)
  have hcnt := Nat.le_trans (everyD_count (okTask_parts hk).1.2 t.d.parts.length []) (count_bound (okTask_parts hk).2.2.1.2)
  rw [hL] at HEV hpl hfit hcnt
  have HPL : Hid (planD t.d = pickTo t.d L L.length) := Lib.hid (by rw [hpl]; unfold pickTo; rw [List.take_length])
  have HFIT := Lib.hid hfit
  have HWO := Lib.hid (fun (ys : List Nat) (hy : ys ∈ L) (A : Option Addr) (c : Nat) (w0 : World) (hw : Grow w w0) (hi : IntsT w0 0 A (natsL ys)) => rWorst_any t ys A c w0.heap.size w0 (((ht.more hn).below hw).more hw.size) hi.ints (Nat.le_refl _) hk (hfit ys hy).1 (Nat.le_of_eq (hfit ys hy).2))
  have HP1 : Hid (0 < t.d.parts.length) := Lib.hid (okTask_parts hk).2.2.1.1
  clear ht hn hL hpl hfit hk
  generalize planD t.d = pd at HPL ⊢
  go_enter Try.func56, Try.ntmps56
  go_upto_region 1 with fail
  obtain ⟨W, hW, hg, hf, hsz⟩ := one_block w 25 (cellsT t)
  rw [hW]
  clear hW
  have hcc := hf.cell
  have HG := Lib.hid hg
  have HF := Lib.hid hf
  clear hg hf
  go_wp2_with fail
  refine (HEV.out _ HG.out).mono ?_
  rintro e w2 ⟨AR, cR, R, rfl, hR, hRx, hb2⟩
  have HG2 : Hid (Grow W w2) := hb2
  have HRR := Lib.hid hR
  have HRX := Lib.hid hRx
  obtain ⟨q, hq⟩ : ∃ q, R.length = q := ⟨_, rfl⟩
  have HQ := Lib.hid hq
  have HQL : Hid (q = L.length) := Lib.hid (by have h := congrArg List.length hRx; simp only [List.length_map] at h; omega)
  have hq9 : q ≤ 59049 := by have h1 := HQL.out; omega
  rw [hq]
  clear hcc hb2 hR hRx hq
  go_upto_region 4 with fail
  go_wp2_with fail
  go_loopw [6, 7, 8] (fun v6 v7 v8 wr => ∃ j : Nat, v8 = .int .i64 j ∧ j ≤ q ∧ BestV v6 v7 wr (pickTo t.d L j) ∧ Grow w2 wr) (fun _ _ v _ => q - (intOf v).toNat)
  case atStart => exact ⟨0, rfl, Nat.zero_le _, ⟨rfl, rfl⟩, Grow.refl _⟩
  case round => as_aux_lemma =>
    obtain ⟨j, rfl, hiq, hbest, hgr⟩ := hrel
    rename World => wr
    have HBE := Lib.hid hbest
    have HGR := Lib.hid hgr
    clear hbest hgr
    by_cases hit : j < q
    · have hi1 : decide ((j : Int) < (q : Int)) = true := decide_eq_true (by omega)
      have hi2 : decide (j < q) = true := decide_eq_true hit
      have hii : (j : Int) < (q : Int) := by omega
      have hi0 : (0 : Int) ≤ (j : Int) := by omega
      have HIT := Lib.hid hit
      obtain ⟨ys, hys⟩ : ∃ ys, L[j]? = some ys := ⟨_, List.getElem?_eq_getElem (by have := HQL.out; omega)⟩
      have HYS := Lib.hid hys
      obtain ⟨r, hr⟩ : ∃ r, R[j]? = some r := ⟨_, List.getElem?_eq_getElem (by have := HQ.out; omega)⟩
      have hrx : r.xs = natsL ys := by
        have h := congrArg (fun l => l[j]?) HRX.out
        simp only [List.getElem?_map, hr, hys, Option.map_some] at h
        exact Option.some.inj h
      have hyl : ys.length = t.d.parts.length := (HFIT.out ys (List.mem_of_getElem? hys)).2
      have hrt := (HRR.out.grow HGR.out).2 r (List.mem_of_getElem? hr)
      rw [hrx] at hrt
      obtain ⟨bA, hbA⟩ := hrt.addr (by rw [List.length_map, hyl]; exact HP1.out)
      rw [hbA] at hrt
      have HRT := Lib.hid hrt
      obtain ⟨bR, oR, r', hAe, hbR, hrc, _, HR'⟩ := (HRR.out.grow HGR.out).at_.at_ (k := j) (by rw [HQ.out]; exact hit)
      obtain rfl : r' = r := Option.some.inj (HR'.out.symm.trans hr)
      rw [hbA, hrx, show (natsL ys).length = ys.length from List.length_map ..] at hrc
      subst hAe
      have HRC := Lib.hid (fun (w0 : World) (hw : Grow wr w0) => hw.cell hrc)
      have HYL : Hid (0 < ys.length) := Lib.hid (by rw [hyl]; exact HP1.out)
      obtain ⟨rc, hrcc⟩ : ∃ q, r'.c = q := ⟨_, rfl⟩
      rw [hrcc] at HRC
      obtain ⟨mi, hmi⟩ : ∃ q, misOf t.d ys = q := ⟨_, rfl⟩
      have HMI := Lib.hid hmi
      have hWo := HWO.out ys (List.mem_of_getElem? hys)
      rw [show (afterD true t.d ys).mis = mi from hmi] at hWo
      have HWO2 := Lib.hid hWo
      have HPS := Lib.hid (pickTo_succ (t := t.d) hys)
      have hrc := HRC.out wr (Grow.refl _)
      clear hys hr hrx hyl hrt hbA hbR HR' hrcc hmi hWo hit
      go_upto_region 7 with fail
      clear hrc
      refine wp_region_lit 7 [[], [], [], [(1, 19), (2, 20)], [(3, 21)], [(0, 18), (4, 22)], [(5, 23)]] Grow (fun i v w' => match i with
          | 0 => v = taskV t
          | 1 => v = .slice (some ⟨bR, oR, none⟩) q cR
          | 2 => v = .int .i64 (j : Nat)
          | 3 => v = .pointer (some ⟨bR, oR + j, none⟩)
          | 4 => v = .slice (some ⟨bA, 0, none⟩) ys.length rc
          | 5 => v = .int .i64 mi
          | 6 => v = .int .i64 mi
          | _ => False) (by kernel_rfl) (by kernel_rfl) (fun _ _ _ => Grow.trans) Grow.refl ?_ ?_ ?_
      · intro i v y y' h k
        match i, h with
        | 0, h | 1, h | 2, h | 3, h | 4, h | 5, h | 6, h => exact h
      · simp only [StepsLit, List.take_succ_cons, List.take_zero]
        refine ⟨?_, ?_, ?_, ?_, ?_, ?_, ?_, trivial⟩
        · intro w5 hR
          have hGw : Grow wr w5 := hR.of_drew
          have HGW := Lib.hid hGw
          have hrc := HRC.out w5 hGw
          have hcc := ((HG2.out.trans (HGR.out.trans hGw)).block HF.out).cell
          clear hR hGw
          simp only [depV]
          try go_simp
          first
            | (with_reducible exact Grow.refl _)
            | (with_reducible exact ⟨Grow.refl _, rfl⟩)
        · intro w5 hR
          have hGw : Grow wr w5 := hR.of_drew
          have HGW := Lib.hid hGw
          have hrc := HRC.out w5 hGw
          have hcc := ((HG2.out.trans (HGR.out.trans hGw)).block HF.out).cell
          clear hR hGw
          simp only [depV]
          try go_simp
          first
            | (with_reducible exact Grow.refl _)
            | (with_reducible exact ⟨Grow.refl _, rfl⟩)
        · intro w5 hR
          have hGw : Grow wr w5 := hR.of_drew
          have HGW := Lib.hid hGw
          have hrc := HRC.out w5 hGw
          have hcc := ((HG2.out.trans (HGR.out.trans hGw)).block HF.out).cell
          clear hR hGw
          simp only [depV]
          try go_simp
          first
            | (with_reducible exact Grow.refl _)
            | (with_reducible exact ⟨Grow.refl _, rfl⟩)
        · intro w5 hR
          have hGw : Grow wr w5 := hR.of_drew
          have HGW := Lib.hid hGw
          have hrc := HRC.out w5 hGw
          have hcc := ((HG2.out.trans (HGR.out.trans hGw)).block HF.out).cell
          clear hR hGw
          simp only [depV]
          rintro _ rfl
          rintro _ rfl
          try go_simp
          first
            | (with_reducible exact Grow.refl _)
            | (with_reducible exact ⟨Grow.refl _, rfl⟩)
        · intro w5 hR
          have hGw : Grow wr w5 := hR.of_drew
          have HGW := Lib.hid hGw
          have hrc := HRC.out w5 hGw
          have hcc := ((HG2.out.trans (HGR.out.trans hGw)).block HF.out).cell
          clear hR hGw
          simp only [depV]
          rintro _ rfl
          try go_simp
          first
            | (with_reducible exact Grow.refl _)
            | (with_reducible exact ⟨Grow.refl _, rfl⟩)
        · intro w5 hR
          have hGw : Grow wr w5 := hR.of_drew
          have HGW := Lib.hid hGw
          have hrc := HRC.out w5 hGw
          have hcc := ((HG2.out.trans (HGR.out.trans hGw)).block HF.out).cell
          clear hR hGw
          simp only [depV]
          rintro _ rfl
          rintro _ rfl
          try go_simp
          refine (HWO2.out (some ⟨bA, 0, none⟩) rc w5 (HG.out.trans (HG2.out.trans (HGR.out.trans HGW.out))) (HRT.out.grow HGW.out)).mono ?_
          rintro e w6 ⟨rfl, hb6⟩
          exact ⟨hb6, rfl⟩
        · intro w5 hR
          have hGw : Grow wr w5 := hR.of_drew
          have HGW := Lib.hid hGw
          have hrc := HRC.out w5 hGw
          have hcc := ((HG2.out.trans (HGR.out.trans hGw)).block HF.out).cell
          clear hR hGw
          simp only [depV]
          rintro _ rfl
          try go_simp
          first
            | (with_reducible exact Grow.refl _)
            | (with_reducible exact ⟨Grow.refl _, rfl⟩)
      · intro w5 hR
        have HG5 : Hid (Grow wr w5) := Lib.hid hR.of_drew
        clear hR
        simp only [finVC, List.take_succ_cons, List.take_zero, List.drop_succ_cons, List.drop_zero]
        rintro _ rfl
        rintro _ rfl
        rintro _ rfl
        rintro _ rfl
        rintro _ rfl
        rintro _ rfl
        rintro _ rfl
        simp only [Act.put, List.setIfInBounds_toArray, List.set_cons_succ, List.set_cons_zero]
        have hrc := HRC.out w5 HG5.out
        cases hpk : pickTo t.d L j with
        | none =>
          have hbv := HBE.out
          rw [hpk] at hbv
          obtain ⟨rfl, rfl⟩ := hbv
          have hnil := none_eql_nil
          rw [hpk] at HPS
          clear hpk
          go_wp2
          go_roundw
          case rel => exact ⟨j + 1, by go_num, HIT.out, by rw [HPS.out]; exact ⟨bA, rc, by rw [List.length_map], by rw [HMI.out], HRT.out.grow HG5.out⟩, HGR.out.trans HG5.out⟩
          case measure => have := HIT.out; simp [intOf]; omega
        | some p =>
          obtain ⟨xs0, m0⟩ := p
          have hbv := HBE.out
          rw [hpk] at hbv
          obtain ⟨bX, cX, rfl, rfl, hX⟩ := hbv
          have HX := Lib.hid hX
          have hnil := some_eql_nil
          rw [hpk] at HPS
          clear hpk hX
          by_cases hlt : mi < m0
          · have hd : decide (mi < m0) = true := decide_eq_true hlt
            have HPN : Hid (pickD t.d (some (xs0, m0)) ys = some (natsL ys, mi)) := Lib.hid (by
              show (if m0 ≤ misOf t.d ys then _ else _) = _
              rw [HMI.out, if_neg (by omega)])
            clear hlt
            go_wp2
            go_roundw
            case rel => exact ⟨j + 1, by go_num, HIT.out, by rw [HPS.out]; exact (by rw [HPN.out]; exact ⟨bA, rc, by rw [List.length_map], rfl, HRT.out.grow HG5.out⟩), HGR.out.trans HG5.out⟩
            case measure => have := HIT.out; simp [intOf]; omega
          · have hd : decide (mi < m0) = false := decide_eq_false hlt
            have HPN : Hid (pickD t.d (some (xs0, m0)) ys = some (xs0, m0)) := Lib.hid (by
              show (if m0 ≤ misOf t.d ys then _ else _) = _
              rw [HMI.out, if_pos (by omega)])
            clear hlt
            go_wp2
            go_roundw
            case rel => exact ⟨j + 1, by go_num, HIT.out, by rw [HPS.out]; exact (by rw [HPN.out]; exact ⟨bX, cX, rfl, rfl, HX.out.grow HG5.out⟩), HGR.out.trans HG5.out⟩
            case measure => have := HIT.out; simp [intOf]; omega
    · obtain rfl : j = q := by omega
      have hi1 : decide ((j : Int) < (j : Int)) = false := by simp
      have hi2 : decide (j < j) = false := by simp
      have HPD : Hid (pickTo t.d L j = pd) := Lib.hid (by rw [HPL.out, HQL.out])
      cases hpd : pd with
      | none =>
        have hbv := HBE.out
        rw [HPD.out, hpd] at hbv
        obtain ⟨rfl, rfl⟩ := hbv
        have hz : j = 0 := by
          by_cases h0 : j = 0
          · exact h0
          · have h3 : (L.take j).length = j := by rw [List.length_take]; have := HQL.out; omega
            have := pick_some (t := t.d) (L.take j) none (.inr (List.ne_nil_of_length_pos (by omega)))
            have h2 : pickTo t.d L j = none := by rw [HPD.out, hpd]
            unfold pickTo at h2
            rw [h2] at this
            cases this
        subst hz
        have HPE := Lib.hid hpd
        clear hpd
        go_wp2
        exact bodyPost_ret (results_three234 Try.results56 _ _ _ _ _ rfl rfl rfl) rfl ⟨.slice none 0 0, .int .i64 0, by rw [HPE.out]; rfl, by rw [HPE.out]; exact ⟨rfl, rfl⟩, HG.out.trans (HG2.out.trans HGR.out)⟩
      | some p =>
        obtain ⟨xs, m⟩ := p
        have hbv := HBE.out
        rw [HPD.out, hpd] at hbv
        obtain ⟨bX, cX, rfl, rfl, hX⟩ := hbv
        have HX := Lib.hid hX
        have hz : 0 < j := by
          by_cases h0 : j = 0
          · subst h0
            have h2 := HPD.out
            rw [hpd] at h2
            cases h2
          · omega
        have hd : decide ((0 : Int) < (j : Int)) = true := decide_eq_true (by omega)
        have hd' : decide (0 < j) = true := decide_eq_true hz
        have HPE := Lib.hid hpd
        clear hpd hX
        go_wp2
        exact bodyPost_ret (results_three234 Try.results56 _ _ _ _ _ rfl rfl rfl) rfl ⟨.slice (some ⟨bX, 0, none⟩) xs.length cX, .int .i64 m, by rw [HPE.out]; rfl, by rw [HPE.out]; exact ⟨bX, cX, rfl, rfl, HX.out⟩, HG.out.trans (HG2.out.trans HGR.out)⟩

set_option maxRecDepth 100000 in
set_option maxHeartbeats 8000000 in
theorem rPlanApi_any (t : TaskR) (n : Nat) (w : World) (ht : TaskAt w n t) (hn : n ≤ w.heap.size) :
    Calls Try.prog 36 #[taskV t] w fun e w' => ∃ v m er, e = .returned (.tuple #[v, m, .int .i64 er]) ∧ PlanApiR t.d v m er w' ∧ Below w.heap.size w w' := by
  have HC := Lib.hid (fun (w0 : World) (hw : Grow w w0) => rCheck_any t w.heap.size w0 ((ht.more hn).below hw) hw.size)
  unfold PlanApiR
  cases hk : okTask t.d with
  | false =>
    rw [hk] at HC
    simp only [if_false, Bool.false_eq_true] at HC ⊢
    clear ht hn hk
    go_enter Try.func36, Try.ntmps36
    go_upto_region 1 with fail
    obtain ⟨W, hW, hg, hf, hsz⟩ := one_block w 25 (cellsT t)
    rw [hW]
    clear hW
    have hcc := hf.cell
    have HG := Lib.hid hg
    clear hg hf
    go_wp2_with fail
    refine (HC.out _ HG.out).mono ?_
    rintro e w2 ⟨rfl, hb2⟩
    have HG2 : Hid (Grow W w2) := hb2
    clear hcc hb2
    go_wp2
    exact bodyPost_ret (results_three234 Try.results36 _ _ _ _ _ rfl rfl rfl) rfl ⟨_, _, _, rfl, ⟨rfl, rfl, rfl⟩, HG.out.trans HG2.out⟩
  | true =>
    have HP := Lib.hid (fun (w0 : World) (hw : Grow w w0) => rplan_any t w.heap.size w0 ((ht.more hn).below hw) hw.size hk)
    rw [hk] at HC
    simp only [if_true] at HC ⊢
    clear ht hn hk
    generalize planD t.d = pd at HP ⊢
    cases pd with
    | none =>
      go_enter Try.func36, Try.ntmps36
      go_upto_region 1 with fail
      obtain ⟨W, hW, hg, hf, hsz⟩ := one_block w 25 (cellsT t)
      rw [hW]
      clear hW
      have hcc := hf.cell
      have HG := Lib.hid hg
      have HF := Lib.hid hf
      clear hg hf
      go_wp2_with fail
      refine (HC.out _ HG.out).mono ?_
      rintro e w2 ⟨rfl, hb2⟩
      have HG2 : Hid (Grow W w2) := hb2
      clear hcc hb2
      have hcc := (HG2.out.block HF.out).cell
      go_wp2_with fail
      refine (HP.out _ (HG.out.trans HG2.out)).mono ?_
      rintro e w3 ⟨v, u, rfl, hbv, hb3⟩
      have HG3 : Hid (Grow W w3) := HG2.out.trans hb3
      clear hcc hb3
      obtain ⟨rfl, rfl⟩ := hbv
      dsimp only [isB]
      go_wp2
      exact bodyPost_ret (results_three234 Try.results36 _ _ _ _ _ rfl rfl rfl) rfl ⟨_, _, _, rfl, ⟨rfl, rfl, rfl⟩, HG.out.trans HG3.out⟩
    | some p =>
      obtain ⟨xs, k⟩ := p
      go_enter Try.func36, Try.ntmps36
      go_upto_region 1 with fail
      obtain ⟨W, hW, hg, hf, hsz⟩ := one_block w 25 (cellsT t)
      rw [hW]
      clear hW
      have hcc := hf.cell
      have HG := Lib.hid hg
      have HF := Lib.hid hf
      clear hg hf
      go_wp2_with fail
      refine (HC.out _ HG.out).mono ?_
      rintro e w2 ⟨rfl, hb2⟩
      have HG2 : Hid (Grow W w2) := hb2
      clear hcc hb2
      have hcc := (HG2.out.block HF.out).cell
      go_wp2_with fail
      refine (HP.out _ (HG.out.trans HG2.out)).mono ?_
      rintro e w3 ⟨v, u, rfl, hbv, hb3⟩
      have HG3 : Hid (Grow W w3) := HG2.out.trans hb3
      clear hcc hb3
      obtain ⟨bX, cX, rfl, rfl, hX⟩ := hbv
      have HX := Lib.hid hX
      clear hX
      dsimp only [isB]
      go_wp2
      exact bodyPost_ret (results_three234 Try.results36 _ _ _ _ _ rfl rfl rfl) rfl ⟨_, _, _, rfl, ⟨bX, cX, rfl, HX.out, rfl, rfl⟩, HG.out.trans HG3.out⟩

end Go.Proofs.Ythlihchndmbkaaa
