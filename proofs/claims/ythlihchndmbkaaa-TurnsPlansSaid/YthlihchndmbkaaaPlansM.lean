/- RLong: the specification's Longest. PlansM: what both Plans, both Hands and both Longests answer, in one form. Plans: TurnsPlans' walk. -/
import Derived.Test.YthlihchndmbkaaaHandsApi
import Derived.Test.YthlihchndmbkaaaRefW
import Derived.Test.YthlihchndmbkaaaRHands
import Derived.Test.YthlihchndmbkaaaFar
import Derived.Test.YthlihchndmbkaaaPlan
namespace Go.Proofs.Ythlihchndmbkaaa
open Go.RowKit

theorem longIs_one {t : TaskD} (ht : okTask t = true) {hand : Nat} (hh : hand < t.hands.length) {most : Int} {a b : Nat} (h : LongIs t hand most a) (k : LongIs t hand most b) : a = b := by
  have hl : limA t ≤ t.parts.length := Nat.min_le_right _ _
  obtain ⟨h1, h2, h3⟩ := h
  obtain ⟨k1, k2, k3⟩ := k
  rcases Nat.lt_trichotomy a b with g | g | g
  · rcases h3 with e | e
    · omega
    · have := misA_mono ht hh (n := a + 1) (m := b) (by omega) (by omega)
      omega
  · exact g
  · rcases k3 with e | e
    · omega
    · have := misA_mono ht hh (n := b + 1) (m := a) (by omega) (by omega)
      omega
theorem long_snoc {t : TaskD} {most : Int} {ks : List Nat} {k : Nat} (h : ∀ (i j : Nat), ks[i]? = some j → LongIs t i most j) (hk : LongIs t ks.length most k) : ∀ (i j : Nat), (ks ++ [k])[i]? = some j → LongIs t i most j := by
  intro i j hij
  by_cases e : i < ks.length
  · rw [List.getElem?_append_left e] at hij
    exact h i j hij
  · rw [List.getElem?_append_right (by omega)] at hij
    by_cases e2 : i = ks.length
    · subst e2
      simp at hij
      subst hij
      exact hk
    · rw [List.getElem?_eq_none (by simp; omega)] at hij
      cases hij
theorem long_all {t : TaskD} (ht : okTask t = true) {most : Int} {ks js : List Nat} (h1 : ks.length = t.hands.length) (h2 : js.length = t.hands.length) (h : ∀ (i j : Nat), ks[i]? = some j → LongIs t i most j) (k : ∀ (i j : Nat), js[i]? = some j → LongIs t i most j) : ks = js := by
  refine List.ext_getElem (by omega) fun i a b => ?_
  exact longIs_one ht (by omega) (h i _ (List.getElem?_eq_getElem a)) (k i _ (List.getElem?_eq_getElem b))

set_option maxRecDepth 100000 in
set_option maxHeartbeats 16000000 in
theorem rLong_ok (t : TaskR) (most : Int) (n : Nat) (w : World) (ht : TaskAt w n t) (hn : n ≤ w.heap.size) (hk : okTask t.d = true) (hm : 0 ≤ most) :
    Calls Try.prog 38 #[taskV t, .int .i64 most] w fun e w' => ∃ (A : Option Addr) (c : Nat) (ks : List Nat), e = .returned (.tuple #[.slice A ks.length c, .int .i64 0]) ∧ (ks.length = t.d.hands.length ∧ ∀ (i k : Nat), ks[i]? = some k → LongIs t.d i most k) ∧ IntsT w' 0 A (natsL ks) ∧ Below w.heap.size w w' := by
  obtain ⟨i0, hi, hz0, hz1, hz2⟩ := info_parts Try.infoInt
  have HC := Lib.hid (fun (w0 : World) (hw : Grow w w0) => rCheck_any t w.heap.size w0 ((ht.more hn).below hw) hw.size)
  rw [if_pos hk] at HC
  have hp := okTask_parts hk
  have hn1 := hp.1.1
  have hn3 := hp.1.2
  have hlim := hp.2.2.2.2.1
  have hpl := hp.2.2.1
  have HM0 : Hid (∀ h, misA t.d h 0 ≤ most) := Lib.hid (fun h => by rw [misA_zero]; exact hm)
  have HLA : Hid (limA t.d = min t.d.limit.toNat t.d.parts.length) := rfl
  have hmd : decide (most < 0) = false := decide_eq_false (by omega)
  have HWO := Lib.hid (fun (h : Nat) (hh : h < t.d.hands.length) (k : Nat) (hkp : k < t.d.parts.length) (A : Option Addr) (c : Nat) (w0 : World) (hw : Grow w w0) (hi : Ints w0 w0.heap.size A (natsL (List.replicate (k + 1) h))) => by
    have q := rWorst_any t (List.replicate (k + 1) h) A c w0.heap.size w0 (((ht.more hn).below hw).more hw.size) hi (Nat.le_refl _) hk (fun x hx => by rw [(List.mem_replicate.1 hx).2]; exact hh) (by rw [List.length_replicate]; omega)
    rw [List.length_replicate] at q
    exact q)
  clear ht hn hk hm hp
  obtain ⟨nn, hnn⟩ : ∃ q, t.d.hands.length = q := ⟨_, rfl⟩
  have HNN := Lib.hid hnn
  rw [hnn] at hn3 hn1 HWO ⊢
  clear hnn
  go_enter Try.func38, Try.ntmps38
  go_upto_region 1 with fail
  obtain ⟨W, hW, hg, hf, hsz⟩ := one_block w 25 (cellsT t)
  rw [hW]
  clear hW
  have hcc := hf.cell
  have HG := Lib.hid hg
  have HF := Lib.hid hf
  clear hg hf
  go_wp2_with fail
  refine (HC.out _ HG.out).mono ?_
  rintro e w2 ⟨rfl, hb2⟩
  have HG2 : Hid (Grow W w2) := hb2
  clear hcc hb2
  go_wp2_with fail
  go_loopw [6, 7] (fun v hv wr => ∃ (h : Nat) (A : Option Addr) (cap : Nat) (ks : List Nat), h ≤ nn ∧ hv = .int .i64 h ∧ v = .slice A h cap ∧ ks.length = h ∧ (∀ (i k : Nat), ks[i]? = some k → LongIs t.d i most k) ∧ wr.ownsRow W.heap.size 3 1 (.slice A h cap) h ((natsL ks).map (Value.int .i64)) ∧ Grow W wr) (fun _ v _ => nn - (intOf v).toNat)
  case atStart => exact ⟨0, none, 0, [], by omega, rfl, rfl, rfl, by simp, own_nil _ _ _, HG2.out⟩
  case round =>
    obtain ⟨h, A, cap, ks, hhn, rfl, rfl, hkl, hall, hown, hgr⟩ := hrel
    rename World => wr
    have HOW := Lib.hid hown
    have HGR := Lib.hid hgr
    have HKL := Lib.hid hkl
    have HALL := Lib.hid hall
    clear hown hgr hkl hall
    have htc0 : wr.cell? ⟨w.heap.size, 0, none⟩ = some (.slice t.A nn t.ca) := by rw [← HNN.out]; exact (HGR.out.block HF.out).cell 0
    by_cases hlt : h < nn
    · have hld : decide ((h : Int) < (nn : Int)) = true := decide_eq_true (by omega)
      have hldn : decide (h < nn) = true := decide_eq_true hlt
      go_wp2_with fail
      clear htc0
      go_loopw [8, 9] (fun kv v wx => ∃ (k : Nat) (A : Option Addr) (c : Nat), k ≤ limA t.d ∧ kv = .int .i64 k ∧ v = .slice A k c ∧ misA t.d h k ≤ most ∧ wx.ownsRow wr.heap.size 3 1 (.slice A k c) k ((natsL (List.replicate k h)).map (Value.int .i64)) ∧ Grow wr wx) (fun v _ _ => limA t.d - (intOf v).toNat)
      case atStart => exact ⟨0, none, 0, Nat.zero_le _, rfl, rfl, HM0.out h, own_nil _ _ _, Grow.refl _⟩
      case round =>
        obtain ⟨k, Ak, ck, hkm, rfl, rfl, hmk, howk, hgk⟩ := hrel
        rename World => wx
        have HOK := Lib.hid howk
        have HGK := Lib.hid hgk
        have HMK := Lib.hid hmk
        have hlen : limA t.d ≤ t.d.parts.length := by rw [HLA.out]; exact Nat.min_le_right _ _
        have htc := ((HGR.out.trans hgk).block HF.out).cell
        clear howk hgk hmk
        go_upto_region 11 with fail
        go_cut [29] (fun v wz => v = .bool (decide (k < limA t.d)) ∧ wx = wz)
        case first =>
          go_wp2
          all_goals
            go_meet
            refine ⟨?_, rfl⟩
            congr 1
            rw [decide_eq_decide, HLA.out]
            omega
        case rest =>
          obtain ⟨rfl, rfl⟩ := hcut
          clear htc
          by_cases hkl : k < limA t.d
          · have hkd : decide (k < limA t.d) = true := decide_eq_true hkl
            have hkp : k < t.d.parts.length := by omega
            rw [hkd]
            have HOA := Lib.hid (own_grow HOK.out (Grow.alloc wx (.cells #[.int .i64 (h : Nat)] 3)))
            go_wp2_with (at_builtin; go_loud (refine wpList_append_own _ rfl _ _ 23 rfl wr.heap.size 3 i0 (.int .i64 0) 1 8 Try.underlying23 hi hz0 hz1 hz2 rfl (by omega) _ k ((natsL (List.replicate k h)).map (Value.int .i64)) rfl ?d0 ⟨wx.heap.size, 0, none⟩ 1 1 [.int .i64 (h : Nat)] rfl rfl ?d1 ?d2 ?d3 ?d4 ?d5 ?_))
            case d0 => exact HOA.out
            case d1 => exact news_one (BlockIs.new _ _ _)
            case d2 => simp [Value.oneCell']
            case d3 => unfold maxLen; omega
            case d4 => omega
            case d5 => have := HGK.out.size; simp; omega
            intro v' wq hown hgr _
            obtain ⟨Aw, cw, rfl⟩ := own_form hown
            have HOW3 : Hid (wq.ownsRow wr.heap.size 3 1 (.slice Aw (k + 1) cw) (k + 1) ((natsL (List.replicate (k + 1) h)).map (Value.int .i64))) := Lib.hid (by
              rw [List.replicate_succ', ← natsL_snoc, List.map_append]
              simpa using hown)
            have HGQ : Hid (Grow wr wq) := Lib.hid (below_grown (HGK.out.trans (Grow.alloc _ _)) HOA.out hgr (by have := HGK.out.size; simp; omega))
            clear hown hgr HOA
            have htc := ((HGR.out.trans HGQ.out).block HF.out).cell
            have hwo := HWO.out h hlt k hkp Aw cw wq (HG.out.trans (HGR.out.trans HGQ.out)) (own_ints HOW3.out).1
            rw [show (afterD true t.d (List.replicate (k + 1) h)).mis = misA t.d h (k + 1) from rfl] at hwo
            obtain ⟨nm, hnm⟩ : ∃ q, misA t.d h (k + 1) = q := ⟨_, rfl⟩
            have HNM := Lib.hid hnm
            rw [hnm] at hwo
            have HW5 := Lib.hid hwo
            clear hnm hwo
            go_wp2_with fail
            refine HW5.out.mono ?_
            rintro e w6 ⟨rfl, hb6⟩
            have HG6 : Hid (Grow wr w6) := Lib.hid (HGQ.out.trans hb6)
            have HOW6 := Lib.hid (own_grow HOW3.out hb6)
            clear htc hb6 HW5
            by_cases hmo : most < nm
            · have hmd2 : decide (most < nm) = true := decide_eq_true hmo
              have HMO : Hid (most < misA t.d h (k + 1)) := Lib.hid (by rw [HNM.out]; exact hmo)
              clear hmo
              have HLI : Hid (LongIs t.d h most k) := Lib.hid (⟨by omega, HMK.out, .inr HMO.out⟩)
              have HGWX : Hid (Grow wr w6) := Lib.hid (HG6.out)
              have HOA := Lib.hid (own_grow (own_grow HOW.out HGWX.out) (Grow.alloc w6 (.cells #[.int .i64 (k : Nat)] 3)))
              go_wp2_with (at_builtin; go_loud (refine wpList_append_own _ rfl _ _ 23 rfl W.heap.size 3 i0 (.int .i64 0) 1 8 Try.underlying23 hi hz0 hz1 hz2 rfl (by omega) _ h ((natsL ks).map (Value.int .i64)) rfl ?d0 ⟨w6.heap.size, 0, none⟩ 1 1 [.int .i64 (k : Nat)] rfl rfl ?d1 ?d2 ?d3 ?d4 ?d5 ?_))
              case d0 => exact HOA.out
              case d1 => exact news_one (BlockIs.new _ _ _)
              case d2 => simp [Value.oneCell']
              case d3 => unfold maxLen; omega
              case d4 => omega
              case d5 => have h1 := HGR.out.size; have h2 := HGWX.out.size; simp; omega
              intro v' wq hown hgr _
              obtain ⟨Aw, cw, rfl⟩ := own_form hown
              have HO2 : Hid (wq.ownsRow W.heap.size 3 1 (.slice Aw (h + 1) cw) (h + 1) ((natsL (ks ++ [k])).map (Value.int .i64))) := Lib.hid (by
                rw [← natsL_snoc, List.map_append]
                simpa using hown)
              have HG2Q : Hid (Grow W wq) := Lib.hid (below_grown (HGR.out.trans (HGWX.out.trans (Grow.alloc _ _))) HOA.out hgr (by have h1 := HGR.out.size; have h2 := HGWX.out.size; simp; omega))
              clear hown hgr HOA
              go_wp2
              go_roundw
              case rel => exact ⟨h + 1, Aw, cw, ks ++ [k], by omega, by go_num, rfl, by rw [List.length_append, HKL.out]; rfl, long_snoc HALL.out (by rw [HKL.out]; exact HLI.out), HO2.out, HG2Q.out⟩
              case measure => simp [intOf]; omega
            · have hmd2 : decide (most < nm) = false := decide_eq_false hmo
              have HMO : Hid (misA t.d h (k + 1) ≤ most) := Lib.hid (by rw [HNM.out]; omega)
              clear hmo
              go_wp2
              go_roundw
              case rel => exact ⟨k + 1, Aw, cw, hkl, by go_num, rfl, HMO.out, HOW6.out, HG6.out⟩
              case measure => simp [intOf]; omega
          · have hkd : decide (k < limA t.d) = false := decide_eq_false hkl
            rw [hkd]
            have HLI : Hid (LongIs t.d h most k) := Lib.hid (⟨hkm, HMK.out, .inl (by omega)⟩)
            have HGWX : Hid (Grow wr wx) := Lib.hid (HGK.out)
            have HOA := Lib.hid (own_grow (own_grow HOW.out HGWX.out) (Grow.alloc wx (.cells #[.int .i64 (k : Nat)] 3)))
            go_wp2_with (at_builtin; go_loud (refine wpList_append_own _ rfl _ _ 23 rfl W.heap.size 3 i0 (.int .i64 0) 1 8 Try.underlying23 hi hz0 hz1 hz2 rfl (by omega) _ h ((natsL ks).map (Value.int .i64)) rfl ?d0 ⟨wx.heap.size, 0, none⟩ 1 1 [.int .i64 (k : Nat)] rfl rfl ?d1 ?d2 ?d3 ?d4 ?d5 ?_))
            case d0 => exact HOA.out
            case d1 => exact news_one (BlockIs.new _ _ _)
            case d2 => simp [Value.oneCell']
            case d3 => unfold maxLen; omega
            case d4 => omega
            case d5 => have h1 := HGR.out.size; have h2 := HGWX.out.size; simp; omega
            intro v' wq hown hgr _
            obtain ⟨Aw, cw, rfl⟩ := own_form hown
            have HO2 : Hid (wq.ownsRow W.heap.size 3 1 (.slice Aw (h + 1) cw) (h + 1) ((natsL (ks ++ [k])).map (Value.int .i64))) := Lib.hid (by
              rw [← natsL_snoc, List.map_append]
              simpa using hown)
            have HG2Q : Hid (Grow W wq) := Lib.hid (below_grown (HGR.out.trans (HGWX.out.trans (Grow.alloc _ _))) HOA.out hgr (by have h1 := HGR.out.size; have h2 := HGWX.out.size; simp; omega))
            clear hown hgr HOA
            go_wp2
            go_roundw
            case rel => exact ⟨h + 1, Aw, cw, ks ++ [k], by omega, by go_num, rfl, by rw [List.length_append, HKL.out]; rfl, long_snoc HALL.out (by rw [HKL.out]; exact HLI.out), HO2.out, HG2Q.out⟩
            case measure => simp [intOf]; omega
    · obtain rfl : h = nn := by omega
      have hld : decide ((h : Int) < (h : Int)) = false := by simp
      have hldn : decide (h < h) = false := by simp
      have HIN := Lib.hid (own_intsT' (lo := 0) HOW.out (by rw [List.length_map]; exact HKL.out.symm) (by omega) (Nat.zero_le _))
      clear hlt
      go_wp2
      exact bodyPost_ret (results_pair45 Try.results38 _ _ _ _ rfl rfl) rfl ⟨A, cap, ks, congrArg (fun q => Ending.returned (Value.tuple #[.slice A q cap, .int .i64 0])) HKL.out.symm, ⟨HKL.out, HALL.out⟩, HIN.out, HG.out.trans HGR.out⟩

set_option maxRecDepth 100000 in
set_option maxHeartbeats 16000000 in
theorem rLong_bad (t : TaskR) (most : Int) (n : Nat) (w : World) (ht : TaskAt w n t) (hn : n ≤ w.heap.size) (hb : mostErr t.d most ≠ 0) :
    Calls Try.prog 38 #[taskV t, .int .i64 most] w fun e w' => e = .returned (.tuple #[.slice none 0 0, .int .i64 (mostErr t.d most)]) ∧ Below w.heap.size w w' := by
  rcases mostErr_cases t.d most with ⟨h1, h2, h3⟩ | ⟨h1, h3⟩ | ⟨h1, h2, h3⟩
  · rw [h3]
    have HC := Lib.hid (fun (w0 : World) (hw : Grow w w0) => rCheck_any t w.heap.size w0 ((ht.more hn).below hw) hw.size)
    rw [if_pos h1] at HC
    have hmd : decide (most < 0) = true := decide_eq_true h2
    clear ht hn h1 h2 h3 hb
    go_enter Try.func38, Try.ntmps38
    go_upto_region 1 with fail
    obtain ⟨W, hW, hg, hf, hsz⟩ := one_block w 25 (cellsT t)
    rw [hW]
    clear hW
    have hcc := hf.cell
    have HG := Lib.hid hg
    have HF := Lib.hid hf
    clear hg hf
    go_wp2_with fail
    refine (HC.out _ HG.out).mono ?_
    rintro e w2 ⟨rfl, hb2⟩
    have HG2 : Hid (Grow W w2) := hb2
    clear hcc hb2
    go_wp2
    exact bodyPost_ret (results_pair45 Try.results38 _ _ _ _ rfl rfl) rfl ⟨rfl, HG.out.trans HG2.out⟩
  · rw [h3]
    have HC := Lib.hid (fun (w0 : World) (hw : Grow w w0) => rCheck_any t w.heap.size w0 ((ht.more hn).below hw) hw.size)
    rw [if_neg h1] at HC
    clear ht hn h1 h3 hb
    go_enter Try.func38, Try.ntmps38
    go_upto_region 1 with fail
    obtain ⟨W, hW, hg, hf, hsz⟩ := one_block w 25 (cellsT t)
    rw [hW]
    clear hW
    have hcc := hf.cell
    have HG := Lib.hid hg
    have HF := Lib.hid hf
    clear hg hf
    go_wp2_with fail
    refine (HC.out _ HG.out).mono ?_
    rintro e w2 ⟨rfl, hb2⟩
    have HG2 : Hid (Grow W w2) := hb2
    clear hcc hb2
    go_wp2
    exact bodyPost_ret (results_pair45 Try.results38 _ _ _ _ rfl rfl) rfl ⟨rfl, HG.out.trans HG2.out⟩
  · exact absurd h3 hb

end Go.Proofs.Ythlihchndmbkaaa

namespace Go.Proofs.Ythlihchndmbkaaa
open Go.RowKit

/-- a row of integers, as an answer -/
def RowA (w : World) (v : Value) (xs : List Int) : Prop := ∃ A c, v = .slice A xs.length c ∧ Ints w w.heap.size A xs
theorem RowA.nil (w : World) : RowA w (.slice none 0 0) [] := ⟨none, 0, rfl, .inl rfl⟩
theorem RowA.ofT {w : World} {A : Option Addr} {c n : Nat} {xs : List Int} (h : IntsT w 0 A xs) (hn : n = xs.length) : RowA w (.slice A n c) xs := by
  subst hn
  exact ⟨A, c, rfl, h.ints⟩
def planAns (t : TaskD) : List Int × Int × Int := if okTask t = true then match planD t with
    | none => ([], 0, 3)
    | some (xs, k) => (xs, k, 0)
  else ([], 0, 40)
theorem planS_any (t : TaskR) (n : Nat) (w : World) (ht : TaskAt w n t) (hn : n ≤ w.heap.size) :
    Calls Try.prog 13 #[taskV t] w fun e w' => ∃ v, e = .returned (.tuple #[v, .int .i64 (planAns t.d).2.1, .int .i64 (planAns t.d).2.2]) ∧ RowA w' v (planAns t.d).1 ∧ Below w.heap.size w w' := by
  refine (planApi_any t n w ht hn).mono ?_
  rintro e w' ⟨v, m, er, rfl, h, hb⟩
  unfold PlanApiV at h
  unfold planAns
  by_cases hk : okTask t.d = true
  · rw [if_pos hk] at h ⊢
    cases hp : planD t.d with
    | none =>
      rw [hp] at h
      obtain ⟨rfl, rfl, rfl⟩ := h
      exact ⟨_, rfl, RowA.nil _, hb⟩
    | some p =>
      obtain ⟨xs, k⟩ := p
      rw [hp] at h
      obtain ⟨b, off, cap, rfl, hi, rfl, rfl⟩ := h
      exact ⟨_, rfl, ⟨_, cap, rfl, hi.1.ints⟩, hb⟩
  · rw [if_neg hk] at h ⊢
    obtain ⟨rfl, rfl, rfl⟩ := h
    exact ⟨_, rfl, RowA.nil _, hb⟩
theorem planR_any (t : TaskR) (n : Nat) (w : World) (ht : TaskAt w n t) (hn : n ≤ w.heap.size) :
    Calls Try.prog 36 #[taskV t] w fun e w' => ∃ v, e = .returned (.tuple #[v, .int .i64 (planAns t.d).2.1, .int .i64 (planAns t.d).2.2]) ∧ RowA w' v (planAns t.d).1 ∧ Below w.heap.size w w' := by
  refine (rPlanApi_any t n w ht hn).mono ?_
  rintro e w' ⟨v, m, er, rfl, h, hb⟩
  unfold PlanApiR at h
  unfold planAns
  by_cases hk : okTask t.d = true
  · rw [if_pos hk] at h ⊢
    cases hp : planD t.d with
    | none =>
      rw [hp] at h
      obtain ⟨rfl, rfl, rfl⟩ := h
      exact ⟨_, rfl, RowA.nil _, hb⟩
    | some p =>
      obtain ⟨xs, k⟩ := p
      rw [hp] at h
      obtain ⟨b, cap, rfl, hi, rfl, rfl⟩ := h
      exact ⟨_, rfl, ⟨_, cap, rfl, hi.ints⟩, hb⟩
  · rw [if_neg hk] at h ⊢
    obtain ⟨rfl, rfl, rfl⟩ := h
    exact ⟨_, rfl, RowA.nil _, hb⟩
def handsAns (t : TaskD) (most : Int) : List Int × Int := if mostErr t most = 0 then match fewD t most with
    | none => ([], 3)
    | some (l, _) => (natsL l, 0)
  else ([], mostErr t most)
theorem handsAns_of {t : TaskD} {most : Int} {v : Value} {er : Int} {w : World} (h : HandsV t most v er w) : RowA w v (handsAns t most).1 ∧ er = (handsAns t most).2 := by
  unfold HandsV at h
  unfold handsAns
  by_cases hk : mostErr t most = 0
  · rw [if_pos hk] at h ⊢
    obtain ⟨h1, h2⟩ := h
    cases hp : fewD t most with
    | none =>
      rw [hp] at h1 h2
      obtain rfl : v = .slice none 0 0 := h1
      exact ⟨RowA.nil _, h2⟩
    | some p =>
      obtain ⟨l, m⟩ := p
      rw [hp] at h1 h2
      obtain ⟨b, c, rfl, hi⟩ := h1
      exact ⟨RowA.ofT hi (by rw [List.length_map]), h2⟩
  · rw [if_neg hk] at h ⊢
    obtain ⟨rfl, h2⟩ := h
    exact ⟨RowA.nil _, h2⟩
theorem handsS_any (t : TaskR) (most : Int) (n : Nat) (w : World) (ht : TaskAt w n t) (hn : n ≤ w.heap.size) :
    Calls Try.prog 26 #[taskV t, .int .i64 most] w fun e w' => ∃ v, e = .returned (.tuple #[v, .int .i64 (handsAns t.d most).2]) ∧ RowA w' v (handsAns t.d most).1 ∧ Below w.heap.size w w' := by
  refine (handsApi_any t most n w ht hn).mono ?_
  rintro e w' ⟨v, er, rfl, h, hb⟩
  obtain ⟨h1, rfl⟩ := handsAns_of h
  exact ⟨v, rfl, h1, hb⟩
theorem handsR_any (t : TaskR) (most : Int) (n : Nat) (w : World) (ht : TaskAt w n t) (hn : n ≤ w.heap.size) :
    Calls Try.prog 37 #[taskV t, .int .i64 most] w fun e w' => ∃ v, e = .returned (.tuple #[v, .int .i64 (handsAns t.d most).2]) ∧ RowA w' v (handsAns t.d most).1 ∧ Below w.heap.size w w' := by
  refine (rHands_any t most n w ht hn).mono ?_
  rintro e w' ⟨v, er, rfl, h, hb⟩
  obtain ⟨h1, rfl⟩ := handsAns_of h
  exact ⟨v, rfl, h1, hb⟩
/-- what both Longests answer -/
def LongA (t : TaskD) (most : Int) (ks : List Nat) : Prop := if mostErr t most = 0 then ks.length = t.hands.length ∧ ∀ (i k : Nat), ks[i]? = some k → LongIs t i most k else ks = []
theorem LongA.one {t : TaskD} {most : Int} {ks js : List Nat} (h : LongA t most ks) (k : LongA t most js) : ks = js := by
  unfold LongA at h k
  by_cases hk : mostErr t most = 0
  · rw [if_pos hk] at h k
    exact long_all (mostErr_zero hk).1 h.1 k.1 h.2 k.2
  · rw [if_neg hk] at h k
    rw [h, k]
theorem LongA.len {t : TaskD} {most : Int} {ks : List Nat} (h : LongA t most ks) : ks.length ≤ 3 := by
  unfold LongA at h
  by_cases hk : mostErr t most = 0
  · rw [if_pos hk] at h
    have := (okTask_parts (mostErr_zero hk).1).1.2
    omega
  · rw [if_neg hk] at h
    rw [h]
    exact Nat.zero_le _
def LongZ (t : TaskD) (most : Int) (zs : List Int) : Prop := ∃ ks, zs = natsL ks ∧ LongA t most ks
theorem LongZ.one {t : TaskD} {most : Int} {xs ys : List Int} (h : LongZ t most xs) (k : LongZ t most ys) : xs = ys := by
  obtain ⟨ks, rfl, h⟩ := h
  obtain ⟨js, rfl, k⟩ := k
  rw [h.one k]
theorem LongZ.len {t : TaskD} {most : Int} {xs : List Int} (h : LongZ t most xs) : xs.length ≤ 1000000 := by
  obtain ⟨ks, rfl, h⟩ := h
  rw [List.length_map]
  exact Nat.le_trans h.len (by omega)
theorem longS_any (t : TaskR) (most : Int) (n : Nat) (w : World) (ht : TaskAt w n t) (hn : n ≤ w.heap.size) :
    Calls Try.prog 28 #[taskV t, .int .i64 most] w fun e w' => ∃ v zs, e = .returned (.tuple #[v, .int .i64 (mostErr t.d most)]) ∧ LongZ t.d most zs ∧ RowA w' v zs ∧ Below w.heap.size w w' := by
  unfold LongZ LongA
  by_cases hk : mostErr t.d most = 0
  · obtain ⟨h1, h2⟩ := mostErr_zero hk
    rw [hk]
    refine (longApi_any t most n w ht hn h1 h2).mono ?_
    rintro e w' ⟨A, ks, rfl, h3, h4, hb⟩
    exact ⟨_, natsL ks, rfl, ⟨ks, rfl, by rw [if_pos rfl]; exact h3⟩, ⟨A, t.d.hands.length, by rw [List.length_map, h3.1], h4.ints⟩, hb⟩
  · refine (longApi_bad t most n w ht hn hk).mono ?_
    rintro e w' ⟨rfl, hb⟩
    exact ⟨_, [], rfl, ⟨[], rfl, by rw [if_neg hk]⟩, RowA.nil _, hb⟩
theorem longR_any (t : TaskR) (most : Int) (n : Nat) (w : World) (ht : TaskAt w n t) (hn : n ≤ w.heap.size) :
    Calls Try.prog 38 #[taskV t, .int .i64 most] w fun e w' => ∃ v zs, e = .returned (.tuple #[v, .int .i64 (mostErr t.d most)]) ∧ LongZ t.d most zs ∧ RowA w' v zs ∧ Below w.heap.size w w' := by
  unfold LongZ LongA
  by_cases hk : mostErr t.d most = 0
  · obtain ⟨h1, h2⟩ := mostErr_zero hk
    rw [hk]
    refine (rLong_ok t most n w ht hn h1 h2).mono ?_
    rintro e w' ⟨A, c, ks, rfl, h3, h4, hb⟩
    exact ⟨_, natsL ks, rfl, ⟨ks, rfl, by rw [if_pos rfl]; exact h3⟩, RowA.ofT h4 (by rw [List.length_map]), hb⟩
  · refine (rLong_bad t most n w ht hn hk).mono ?_
    rintro e w' ⟨rfl, hb⟩
    exact ⟨_, [], rfl, ⟨[], rfl, by rw [if_neg hk]⟩, RowA.nil _, hb⟩
theorem cand_some' {t : TaskD} {most : Int} {s : Nat} {b : List Nat × Int} (h : candD t most s = some b) : ∃ xs, planD (withT t (elemsD s)) = some (xs, b.2) ∧ b.2 ≤ most ∧ b.1 = elemsD s := by
  unfold candD at h
  cases hp : planD (withT t (elemsD s)) with
  | none => rw [hp] at h; cases h
  | some p =>
    obtain ⟨xs, k⟩ := p
    rw [hp] at h
    dsimp only at h
    by_cases hk : k ≤ most
    · rw [if_pos hk] at h
      obtain rfl := Option.some.inj h
      exact ⟨xs, rfl, hk, rfl⟩
    · rw [if_neg hk] at h
      cases h
theorem planAns_len (t : TaskD) : (planAns t).1.length ≤ 1000000 := by
  unfold planAns
  by_cases hk : okTask t = true
  · rw [if_pos hk]
    cases hp : planD t with
    | none => exact Nat.zero_le _
    | some p =>
      obtain ⟨xs, k⟩ := p
      obtain ⟨ms, h1, _, h3, _⟩ := planD_some hk hp
      show xs.length ≤ _
      rw [h1, List.length_map, h3]
      exact Nat.le_trans (okTask_parts hk).2.2.1.2 (by omega)
  · rw [if_neg hk]
    exact Nat.zero_le _
theorem handsAns_len (t : TaskD) (most : Int) : (handsAns t most).1.length ≤ 1000000 := by
  unfold handsAns
  by_cases hk : mostErr t most = 0
  · rw [if_pos hk]
    have h := few_is (t := t) (most := most) (2 ^ t.hands.length - 1)
    unfold fewD
    rcases h with ⟨h1, _⟩ | ⟨b, s, h1, _, _, h4, _⟩
    · rw [h1]; exact Nat.zero_le _
    · rw [h1]
      obtain ⟨xs, _, _, h7⟩ := cand_some' h4
      show (natsL b.1).length ≤ _
      rw [h7, List.length_map]
      exact Nat.le_trans (elems_len s) (by omega)
  · rw [if_neg hk]
    exact Nat.zero_le _

end Go.Proofs.Ythlihchndmbkaaa

namespace Go.Proofs.Ythlihchndmbkaaa
open Go.RowKit

set_option maxRecDepth 100000 in
set_option maxHeartbeats 16000000 in
theorem plans_off (t : TaskR) (most : Int) (w : World) (ht : TaskAt w w.heap.size t) (hf : farD t.d = true) :
    Calls Try.prog 10 #[taskV t, .int .i64 most] w fun e w' => e = .returned (.bool true) ∧ Below w.heap.size w w' := by
  have HWK := Lib.hid works_any
  have HFA := Lib.hid (fun (w0 : World) (hw : Grow w w0) => far_any t w.heap.size w0 (ht.below hw) hw.size)
  rw [hf] at HFA
  clear ht hf
  go_enter Try.func10, Try.ntmps10
  go_upto_region 1 with fail
  obtain ⟨W, hW, hg, hf, hsz⟩ := one_block w 25 (cellsT t)
  rw [hW]
  clear hW
  have hcc := hf.cell
  have HG := Lib.hid hg
  have HF := Lib.hid hf
  clear hf hg
  go_wp2_with fail
  refine (HFA.out _ HG.out).mono ?_
  rintro e w2 ⟨rfl, hb2⟩
  have HG2 : Hid (Grow W w2) := hb2
  clear hcc hb2
  go_wp2_with fail
  refine (HWK.out _).mono ?_
  rintro e w9 ⟨rfl, hb9⟩
  have HG9 : Hid (Grow W w9) := HG2.out.trans hb9
  clear hb9
  go_wp2
  go_ret
  exact ⟨rfl, HG.out.trans HG9.out⟩

set_option maxRecDepth 100000 in
set_option maxHeartbeats 16000000 in
theorem plans_on (t : TaskR) (most : Int) (w : World) (ht : TaskAt w w.heap.size t) (hf : farD t.d = false) :
    Calls Try.prog 10 #[taskV t, .int .i64 most] w fun e w' => e = .returned (.bool true) ∧ Below w.heap.size w w' := by
  have HWK := Lib.hid works_any
  have HFA := Lib.hid (fun (w0 : World) (hw : Grow w w0) => far_any t w.heap.size w0 (ht.below hw) hw.size)
  rw [hf] at HFA
  have hfar : t.d.hands.length ≤ 20 ∧ t.d.parts.length ≤ 20 := by
    unfold farD at hf
    simp only [Bool.or_eq_false_iff, decide_eq_false_iff_not] at hf
    omega
  have HCO := Lib.hid (fun (w0 : World) (hw : Grow w w0) => rCopy_any t w.heap.size w0 (ht.below hw) hw.size hfar.1 hfar.2)
  have HPS := Lib.hid (fun (A B : Option Addr) (ca cb : Nat) (w0 : World) (h : TaskAt w0 w0.heap.size ⟨t.d, A, ca, B, cb⟩) => planS_any ⟨t.d, A, ca, B, cb⟩ w0.heap.size w0 h (Nat.le_refl _))
  have HPR := Lib.hid (fun (w0 : World) (hw : Grow w w0) => planR_any t w.heap.size w0 (ht.below hw) hw.size)
  have HHS := Lib.hid (fun (A B : Option Addr) (ca cb : Nat) (w0 : World) (h : TaskAt w0 w0.heap.size ⟨t.d, A, ca, B, cb⟩) => handsS_any ⟨t.d, A, ca, B, cb⟩ most w0.heap.size w0 h (Nat.le_refl _))
  have HHR := Lib.hid (fun (w0 : World) (hw : Grow w w0) => handsR_any t most w.heap.size w0 (ht.below hw) hw.size)
  have HLS := Lib.hid (fun (A B : Option Addr) (ca cb : Nat) (w0 : World) (h : TaskAt w0 w0.heap.size ⟨t.d, A, ca, B, cb⟩) => longS_any ⟨t.d, A, ca, B, cb⟩ most w0.heap.size w0 h (Nat.le_refl _))
  have HLR := Lib.hid (fun (w0 : World) (hw : Grow w w0) => longR_any t most w.heap.size w0 (ht.below hw) hw.size)
  have HN1 := Lib.hid (planAns_len t.d)
  have HN2 := Lib.hid (handsAns_len t.d most)
  dsimp only at HPS HHS HLS
  obtain ⟨⟨xs, pm, pe⟩, hpa⟩ : ∃ q, planAns t.d = q := ⟨_, rfl⟩
  rw [hpa] at HPR HN1
  simp only [hpa] at HPS
  obtain ⟨⟨ys, he⟩, hha⟩ : ∃ q, handsAns t.d most = q := ⟨_, rfl⟩
  rw [hha] at HHR HN2
  simp only [hha] at HHS
  obtain ⟨me, hme⟩ : ∃ q, mostErr t.d most = q := ⟨_, rfl⟩
  rw [hme] at HLR
  simp only [hme] at HLS
  dsimp only at HPS HPR HHS HHR HN1 HN2
  have hmn : (pm != pm) = false := by simp
  have hpn : (pe != pe) = false := by simp
  have hhn : (he != he) = false := by simp
  have hmm : (me == me) = true := by simp
  have HSI := Lib.hid (fun (A A' : Option Addr) (c c' B B' : Nat) (ys : List Int) (w0 : World) (h : Ints w0 B A ys) (h' : Ints w0 B' A' ys) (hy : ys.length ≤ 1000000) => sameInts_any A A' c c' B B' ys ys w0 h h' hy hy)
  simp only [decide_true] at HSI
  clear ht hf hpa hha hme hfar
  go_enter Try.func10, Try.ntmps10
  go_upto_region 1 with fail
  obtain ⟨W, hW, hg, hf, hsz⟩ := one_block w 25 (cellsT t)
  rw [hW]
  clear hW
  have hcc := hf.cell
  have HG := Lib.hid hg
  have HF := Lib.hid hf
  clear hf hg
  go_wp2_with fail
  refine (HFA.out _ HG.out).mono ?_
  rintro e w2 ⟨rfl, hb2⟩
  have HG2 : Hid (Grow W w2) := hb2
  clear hcc hb2
  have hcc := (HG2.out.block HF.out).cell
  go_wp2_with fail
  refine (HCO.out _ (HG.out.trans HG2.out)).mono ?_
  rintro e w3 ⟨A3, ca3, B3, cb3, lo3, rfl, hT3, ⟨hq3, hlo3⟩, hI3, hb3⟩
  have HG3 : Hid (Grow W w3) := HG2.out.trans hb3
  have HU3 : Hid (TaskAt w3 w3.heap.size ⟨t.d, A3, ca3, B3, cb3⟩) := Lib.hid ⟨hT3.at_, hI3.1.ints⟩
  clear hcc hb3 hT3 hI3 hq3 hlo3
  go_upto_region 4 with fail
  obtain ⟨W5, hW5, hg5, hu5, hsz5⟩ := one_block w3 25 (cellsT ⟨t.d, A3, ca3, B3, cb3⟩)
  rw [hW5]
  clear hW5
  obtain ⟨bu, ebu⟩ : ∃ q, w3.heap.size = q := ⟨_, rfl⟩
  rw [ebu] at hu5 hsz5 ⊢
  have HB5 := Lib.hid hu5
  have HG5 : Hid (Grow W W5) := Lib.hid (HG3.out.trans hg5)
  have HUW := Lib.hid (fun (w0 : World) (hw : Grow W5 w0) => (HU3.out.below (hg5.trans hw)).more (hg5.trans hw).size)
  clear hg5 hu5 ebu
  have hbc := HB5.out.cell
  go_wp2_with fail
  refine (HPS.out _ _ _ _ _ (HUW.out _ (Grow.refl _))).mono ?_
  rintro e w6 ⟨v6, rfl, ⟨A6, c6, rfl, hr6⟩, hb6⟩
  have HG6 : Hid (Grow W5 w6) := hb6
  have HR6 := Lib.hid (fun (w0 : World) (hw : Grow w6 w0) => (hr6.below hw).more hw.size)
  clear hbc hb6 hr6
  have hcc := ((HG5.out.trans HG6.out).block HF.out).cell
  go_wp2_with fail
  refine (HPR.out _ (HG.out.trans (HG5.out.trans HG6.out))).mono ?_
  rintro e w7 ⟨v7, rfl, ⟨A7, c7, rfl, hr7⟩, hb7⟩
  have HG67 : Hid (Grow w6 w7) := hb7
  have HG7 : Hid (Grow W5 w7) := HG6.out.trans hb7
  have HR7 := Lib.hid (fun (w0 : World) (hw : Grow w7 w0) => (hr7.below hw).more hw.size)
  clear hcc hb7 hr7
  have hbc := (HG7.out.block HB5.out).cell
  go_wp2_with fail
  refine (HHS.out _ _ _ _ _ (HUW.out _ HG7.out)).mono ?_
  rintro e w8 ⟨v8, rfl, ⟨A8, c8, rfl, hr8⟩, hb8⟩
  have HG78 : Hid (Grow w7 w8) := hb8
  have HG8 : Hid (Grow W5 w8) := HG7.out.trans hb8
  have HR8 := Lib.hid (fun (w0 : World) (hw : Grow w8 w0) => (hr8.below hw).more hw.size)
  clear hbc hb8 hr8
  have hcc := ((HG5.out.trans HG8.out).block HF.out).cell
  go_wp2_with fail
  refine (HHR.out _ (HG.out.trans (HG5.out.trans HG8.out))).mono ?_
  rintro e w9 ⟨v9, rfl, ⟨A9, c9, rfl, hr9⟩, hb9⟩
  have HG89 : Hid (Grow w8 w9) := hb9
  have HG9 : Hid (Grow W5 w9) := HG8.out.trans hb9
  have HR9 := Lib.hid (fun (w0 : World) (hw : Grow w9 w0) => (hr9.below hw).more hw.size)
  clear hcc hb9 hr9
  go_wp2_with fail
  refine (HSI.out _ _ _ _ _ _ _ _ (HR6.out w9 (HG67.out.trans (HG78.out.trans HG89.out))) (HR7.out w9 (HG78.out.trans HG89.out)) HN1.out).mono ?_
  rintro e wa ⟨rfl, qa, rfl⟩
  have HGA : Hid (Grow w9 (w9.drewN qa)) := Lib.hid (Below.drewN_ (Grow.refl _) _)
  go_wp2_with fail
  refine (HSI.out _ _ _ _ _ _ _ _ (HR8.out _ (HG89.out.trans HGA.out)) (HR9.out _ HGA.out) HN2.out).mono ?_
  rintro e wb ⟨rfl, qb, rfl⟩
  obtain ⟨wb, hwb⟩ : ∃ q, (w9.drewN qa).drewN qb = q := ⟨_, rfl⟩
  have HGB : Hid (Grow W5 wb) := Lib.hid (by rw [← hwb]; exact HG9.out.trans (HGA.out.trans (Below.drewN_ (Grow.refl _) _)))
  rw [hwb]
  clear hwb HGA
  have hbc := (HGB.out.block HB5.out).cell
  go_wp2_with fail
  refine (HLS.out _ _ _ _ _ (HUW.out _ HGB.out)).mono ?_
  rintro e wc ⟨vc, ks, rfl, hlk, ⟨Ac, cc, rfl, hrc⟩, hbc2⟩
  have HGC : Hid (Grow W5 wc) := HGB.out.trans hbc2
  have HRC := Lib.hid (fun (w0 : World) (hw : Grow wc w0) => (hrc.below hw).more hw.size)
  clear hbc hbc2 hrc
  have hcc := ((HG5.out.trans HGC.out).block HF.out).cell
  go_wp2_with fail
  refine (HLR.out _ (HG.out.trans (HG5.out.trans HGC.out))).mono ?_
  rintro e wd ⟨vd, js, rfl, hlj, ⟨Ad, cd, rfl, hrd⟩, hbd⟩
  obtain rfl := hlk.one hlj
  have HKL : Hid (ks.length ≤ 1000000) := Lib.hid hlk.len
  have HGCD : Hid (Grow wc wd) := hbd
  have HGD : Hid (Grow W5 wd) := HGC.out.trans hbd
  have HRD := Lib.hid hrd
  clear hcc hbd hrd hlk hlj
  go_wp2_with fail
  refine (HSI.out _ _ _ _ _ _ _ _ (HRC.out wd HGCD.out) HRD.out HKL.out).mono ?_
  rintro e wf ⟨rfl, qf, rfl⟩
  have HGF : Hid (Grow W5 (wd.drewN qf)) := Lib.hid (HGD.out.trans (Below.drewN_ (Grow.refl _) _))
  go_wp2_with fail
  refine (HWK.out _).mono ?_
  rintro e wg ⟨rfl, hbg⟩
  have HGG : Hid (Grow W5 wg) := HGF.out.trans hbg
  clear hbg
  go_wp2
  go_ret
  exact ⟨rfl, HG.out.trans (HG5.out.trans HGG.out)⟩

theorem turnsPlans_any (t : TaskR) (most : Int) (w : World) (ht : TaskAt w w.heap.size t) :
    Calls Try.prog 10 #[taskV t, .int .i64 most] w fun e w' => e = .returned (.bool true) ∧ Below w.heap.size w w' := by
  cases hf : farD t.d with
  | true => exact plans_off t most w ht hf
  | false => exact plans_on t most w ht hf

end Go.Proofs.Ythlihchndmbkaaa

