/- RVital: the specification's Vital, where its broken sets are known. -/
import Derived.Test.YticeekkfdkfcgaaRWhy
import Derived.Test.YticeekkfdkfcgaaRMay
namespace Go.Proofs.Yticeekkfdkfcgaa
open Go.RowKit

/-- what the teams below k that fit have in common -/
def comTo (f : Fin 1024 → Nat) (s : Nat) (k : Nat) : Nat := ((tmTo k).filter (fitF f)).foldl (fun s x => s &&& x.val) s
theorem comTo_in {f : Fin 1024 → Nat} {s k : Nat} (h1 : 1 ≤ k) (h2 : k < 1024) (h : f ⟨k, h2⟩ = 0) : comTo f s (k + 1) = comTo f s k &&& k := by
  unfold comTo
  rw [tmTo_succ h1 h2, filt_yes h, List.foldl_append]
  rfl
theorem comTo_out {f : Fin 1024 → Nat} {s k : Nat} (h1 : 1 ≤ k) (h2 : k < 1024) (h : f ⟨k, h2⟩ ≠ 0) : comTo f s (k + 1) = comTo f s k := by
  unfold comTo
  rw [tmTo_succ h1 h2, filt_no h]
theorem comTo_le (f : Fin 1024 → Nat) (s k : Nat) : comTo f s k ≤ s := by
  unfold comTo
  induction (tmTo k).filter (fitF f) generalizing s with
  | nil => exact Nat.le_refl _
  | cons x l ih => exact Nat.le_trans (ih _) Nat.and_le_left
/-- the elements of a set below k -/
def onesTo (s k : Nat) : List Nat := (List.range k).filter fun i => hasN s i
theorem ones_in {s k : Nat} (h : hasN s k = true) : onesTo s (k + 1) = onesTo s k ++ [k] := by
  unfold onesTo
  rw [List.range_succ, List.filter_append]
  simp [h]
theorem ones_out {s k : Nat} (h : hasN s k = false) : onesTo s (k + 1) = onesTo s k := by
  unfold onesTo
  rw [List.range_succ, List.filter_append]
  simp [h]
theorem ones_len (s k : Nat) : (onesTo s k).length ≤ k := by
  unfold onesTo
  exact Nat.le_trans (List.length_filter_le _ _) (by simp)
/-- the error and the result of Vital -/
def vitE (c : CrewR) (j : JobD) (f : Nat → Nat) : Int := if crewErr c.d j ≠ 0 then crewErr c.d j else if (teamD (fun x => f x.val) (feeF c) c.people.length).1 = 0 then 3 else 0
def vitL (c : CrewR) (j : JobD) (f : Nat → Nat) : List Nat := if vitE c j f ≠ 0 then [] else onesTo (comTo (fun x => f x.val) (2 ^ c.people.length - 1) (2 ^ c.people.length)) c.people.length

set_option maxRecDepth 100000 in
set_option maxHeartbeats 16000000 in
/-- the specification's Vital -/
theorem rVital_any (c : CrewR) (j : JobD) (f : Nat → Nat) (n : Nat) (w : World) (hA : CrewAt w n c) (hn : n ≤ w.heap.size) (hs : Short c) (hRB : crewErr c.d j = 0 → RB c j f w) (hfe : crewErr c.d j = 0 → c.people.length ≤ 8 ∧ ∀ x ∈ c.people, 0 ≤ x.d.fee ∧ x.d.fee ≤ 1000) :
    Calls Try.prog 27 #[crewV c, jobV j] w fun e w' => ∃ A cap, e = .returned (.tuple #[.slice A (vitL c j f).length cap, .int .i64 (vitE c j f)]) ∧ Ints w' w'.heap.size A (natsL (vitL c j f)) ∧ Below w.heap.size w w' := by
  obtain ⟨i0, hi, hz0, hz1, hz2⟩ := info_parts Try.infoInt
  have HT : Hid (∀ w0, Grow w w0 → Calls Try.prog 23 #[crewV c, jobV j] w0 fun e w' => ∃ (t : Nat) (q : Int), e = .returned (.tuple #[.int .i64 t, .int .i64 q, .int .i64 (vitE c j f)]) ∧ Below w0.heap.size w0 w') := Lib.hid (fun w0 hw => by
    refine (rTeam_any c j f w0.heap.size w0 (((hA.more hn).below hw).more hw.size) (Nat.le_refl _) hs (fun h => (hRB h).more hw) hfe).mono ?_
    rintro e w' ⟨t, q, er, he, h1, h2, hb⟩
    refine ⟨t, q, ?_, hb⟩
    rw [he]
    have : er = vitE c j f := by
      unfold vitE
      by_cases h0 : crewErr c.d j = 0
      · rw [if_neg (by simp [h0])]
        obtain ⟨a1, a2, a3⟩ := h2 h0
        rw [← a1]
        by_cases ht : t = 0
        · rw [if_pos ht]; exact (a2 ht).2
        · rw [if_neg ht]; exact (a3 ht).2
      · rw [if_pos h0]; exact (h1 h0).2.2
    rw [this])
  have HOK : Hid (vitE c j f = 0 → c.people.length ≤ 8 ∧ RB c j f w) := Lib.hid (fun h => by
    by_cases h0 : crewErr c.d j = 0
    · exact ⟨(hfe h0).1, hRB h0⟩
    · rw [vitE, if_pos h0] at h; exact absurd h h0)
  have HML : Hid (vitL c j f = if vitE c j f ≠ 0 then [] else onesTo (comTo (fun x => f x.val) (2 ^ c.people.length - 1) (2 ^ c.people.length)) c.people.length) := Lib.hid rfl
  obtain ⟨ml, hml⟩ : ∃ z, vitL c j f = z := ⟨_, rfl⟩
  obtain ⟨er, her⟩ : ∃ z, vitE c j f = z := ⟨_, rfl⟩
  rw [hml, her] at HML
  rw [her] at HT HOK
  rw [hml, her]
  clear hA hn her hml hRB hfe
  go_enter Try.func27, Try.ntmps27
  go_upto_region 1 with fail
  obtain ⟨W, hW, hg, hf, hs1, hsz⟩ := two_blocks w 25 27 (cellsC c) (cellsJ j)
  rw [hW]
  clear hW
  have hcc := hf.cell
  have hjc := hs1.cell
  have HF := Lib.hid hf
  have HS := Lib.hid hs1
  have HG := Lib.hid hg
  clear hf hs1 hg
  go_wp2_with fail
  refine (HT.out W HG.out).mono ?_
  rintro e w1 ⟨t0, q0, rfl, hb1⟩
  have HG1 : Hid (Grow W w1) := hb1
  clear hb1 hcc hjc HT
  by_cases h0 : er = 0
  · subst h0
    obtain ⟨hl8, hRB⟩ := HOK.out rfl
    have HM1 : Hid (ml = onesTo (comTo (fun x => f x.val) (2 ^ c.people.length - 1) (2 ^ c.people.length)) c.people.length) := HML
    have HFI := Lib.hid (fun (k : Nat) (hk : k < 1024) (w0 : World) (hw : Grow w w0) => rFits_any c j f k w0 (hRB.more hw) hk)
    have HT := Lib.hid (fun (k : Nat) (hk : 1 ≤ k) (w0 : World) => (show Calls Try.prog 29 #[crewV c, .int .i64 (k : Nat)] w0 fun e w' => e = .returned (.bool (decide (k < 2 ^ c.people.length))) ∧ Below w0.heap.size w0 w' from by
      have h := rIsTeam_any c (k : Nat) w0 hl8
      rwa [team_in hl8 hk] at h))
    have hl0 : (0 : Int) ≤ (c.people.length : Int) := by omega
    have hl64 : c.people.length ≤ 64 := by omega
    have hcv : IntKind.u64.wrap (c.people.length : Int) = (c.people.length : Int) := IntWalk.u64_in _ (by omega)
    have hpl : 2 ^ c.people.length ≤ 256 := Nat.pow_le_pow_right (n := 2) (by omega) hl8
    have hp1 : 1 ≤ 2 ^ c.people.length := Nat.one_le_two_pow
    have hpI : ((2 : Int) ^ c.people.length) = ((2 ^ c.people.length : Nat) : Int) := (Int.natCast_pow 2 _).symm
    obtain ⟨m, hm⟩ : ∃ z, 2 ^ c.people.length = z := ⟨_, rfl⟩
    rw [hm] at HT hpl hp1 HM1 hpI
    have hwr : IntKind.i64.wrap ((2 : Int) ^ c.people.length) = (m : Int) := by rw [hpI]; exact IntWalk.i64_in _ (by omega)
    have hwr2 : IntKind.i64.wrap ((m : Int) - 1) = ((m - 1 : Nat) : Int) := by
      rw [IntWalk.i64_in _ (by omega)]
      omega
    have hcc := (HG1.out.block HF.out).cell
    clear hm hRB HOK hpI
    go_upto_region 6 with fail
    clear hcc hwr hwr2 hcv hl64
    go_loopw [9, 10] (fun sv iv wr => ∃ k : Nat, 1 ≤ k ∧ k ≤ m ∧ iv = .int .i64 k ∧ sv = .int .i64 (comTo (fun x => f x.val) (m - 1) k : Nat) ∧ Grow W wr) (fun _ v _ => m - (intOf v).toNat)
    case atStart => exact ⟨1, Nat.le_refl _, hp1, rfl, by unfold comTo; rw [tmTo_one]; rfl, HG1.out⟩
    case round =>
      obtain ⟨k, hk1, hk, rfl, rfl, hgr⟩ := hrel
      rename World => wr
      have HGR := Lib.hid hgr
      have hcc := (Grow.block hgr HF.out).cell
      clear hgr
      have HTK := Lib.hid (fun w0 => HT.out k hk1 w0)
      have hsl := comTo_le (fun x => f x.val) (m - 1) k
      by_cases hlt : k < m
      · have HTT : Hid (∀ w0, Calls Try.prog 29 #[crewV c, .int .i64 (k : Nat)] w0 fun e w' => e = .returned (.bool true) ∧ Below w0.heap.size w0 w') := Lib.hid (fun w0 => by have h := HTK.out w0; rwa [decide_eq_true hlt] at h)
        have hk4 : k < 1024 := by omega
        have HFK := Lib.hid (fun w0 hw => HFI.out k hk4 w0 hw)
        have hkp : 0 < k := by omega
        have HIN := Lib.hid (fun (h : f k = 0) => comTo_in (f := fun x => f x.val) (s := m - 1) hk1 hk4 h)
        have HOUT := Lib.hid (fun (h : f k ≠ 0) => comTo_out (f := fun x => f x.val) (s := m - 1) hk1 hk4 h)
        obtain ⟨z, hz⟩ : ∃ z, f k = z := ⟨_, rfl⟩
        obtain ⟨s, hs'⟩ : ∃ z, comTo (fun x => f x.val) (m - 1) k = z := ⟨_, rfl⟩
        rw [hz] at HFK HIN HOUT
        rw [hs'] at HIN HOUT hsl ⊢
        clear hz hs' HTK
        go_wp2_with fail
        refine (HTT.out _).mono ?_
        rintro e w2 ⟨rfl, hb2⟩
        have HG2 : Hid (Grow W w2) := Lib.hid (HGR.out.trans hb2)
        have hcc2 := (Grow.block (HGR.out.trans hb2) HF.out).cell
        have hjc2 := (Grow.block (HGR.out.trans hb2) HS.out).cell
        clear hb2 hcc
        by_cases h0 : z = 0
        · have HN := Lib.hid (HIN.out h0)
          have HFT : Hid (∀ w0, Grow w w0 → Calls Try.prog 31 #[crewV c, jobV j, .int .i64 (k : Nat)] w0 fun e w' => e = .returned (.bool true) ∧ Below w0.heap.size w0 w') := Lib.hid (fun w0 hw => by have h := HFK.out w0 hw; rwa [decide_eq_true ⟨hkp, h0⟩] at h)
          have ha := and_i64 s k (by omega) (by omega)
          clear HFK HIN HOUT h0
          go_wp2_with fail
          refine (HFT.out w2 (HG.out.trans HG2.out)).mono ?_
          rintro e w3 ⟨rfl, hb3⟩
          have HG3 : Hid (Grow W w3) := Lib.hid (HG2.out.trans hb3)
          clear hb3 hcc2 hjc2
          go_wp2
          go_roundw
          case rel => exact ⟨k + 1, by omega, by omega, by simp, by rw [HN.out], HG3.out⟩
          case measure => simp [intOf]; omega
        · have HN := Lib.hid (HOUT.out h0)
          have HFT : Hid (∀ w0, Grow w w0 → Calls Try.prog 31 #[crewV c, jobV j, .int .i64 (k : Nat)] w0 fun e w' => e = .returned (.bool false) ∧ Below w0.heap.size w0 w') := Lib.hid (fun w0 hw => by have h := HFK.out w0 hw; rwa [decide_eq_false (fun h => h0 h.2)] at h)
          clear HFK HIN HOUT h0
          go_wp2_with fail
          refine (HFT.out w2 (HG.out.trans HG2.out)).mono ?_
          rintro e w3 ⟨rfl, hb3⟩
          have HG3 : Hid (Grow W w3) := Lib.hid (HG2.out.trans hb3)
          clear hb3 hcc2 hjc2
          go_wp2
          go_roundw
          case rel => exact ⟨k + 1, by omega, by omega, by simp, by rw [HN.out], HG3.out⟩
          case measure => simp [intOf]; omega
      · have HTF : Hid (∀ w0, Calls Try.prog 29 #[crewV c, .int .i64 (k : Nat)] w0 fun e w' => e = .returned (.bool false) ∧ Below w0.heap.size w0 w') := Lib.hid (fun w0 => by have h := HTK.out w0; rwa [decide_eq_false hlt] at h)
        have hke : k = m := by omega
        rw [← hke] at HM1
        obtain ⟨s, hs'⟩ : ∃ z, comTo (fun x => f x.val) (m - 1) k = z := ⟨_, rfl⟩
        have HM2 : Hid (ml = onesTo s c.people.length) := Lib.hid (by
          rw [HM1.out, ← hs', hke])
        rw [hs'] at hsl ⊢
        clear HTK hke hs' HM1
        go_wp2_with fail
        refine (HTF.out _).mono ?_
        rintro e w2 ⟨rfl, hb2⟩
        have HG2 : Hid (Grow W w2) := Lib.hid (HGR.out.trans hb2)
        clear hb2 hcc
        go_upto_region 12 with fail
        go_loopw [11, 12] (fun v iv wr => ∃ (k : Nat) (A : Option Addr) (cap n : Nat), k ≤ c.people.length ∧ iv = .int .i64 k ∧ v = .slice A n cap ∧ Hid (n = (onesTo s k).length) ∧ n ≤ 8 ∧ wr.ownsRow w2.heap.size 3 1 (.slice A n cap) n ((natsL (onesTo s k)).map (Value.int .i64)) ∧ Grow w2 wr) (fun _ v _ => c.people.length - (intOf v).toNat)
        case atStart => exact ⟨0, none, 0, 0, by omega, rfl, rfl, rfl, by omega, nil_own _ _ _, Grow.refl _⟩
        case round =>
          obtain ⟨k, A, cap, n, hk, rfl, rfl, HN, hn8, hown, hgr⟩ := hrel
          rename World => wv
          have HOW := Lib.hid hown
          have HGV := Lib.hid hgr
          have hcc := (Grow.block (HG2.out.trans hgr) HF.out).cell
          clear hown hgr
          by_cases hlt : k < c.people.length
          · have hd : decide ((k : Int) < (c.people.length : Int)) = true := decide_eq_true (by omega)
            have HH := Lib.hid (fun w0 => rHas_any s k w0 (by omega) (by omega))
            have HIN := Lib.hid (fun (h : hasN s k = true) => ones_in h)
            have HOUT := Lib.hid (fun (h : hasN s k = false) => ones_out h)
            obtain ⟨b, hb⟩ : ∃ z, hasN s k = z := ⟨_, rfl⟩
            rw [hb] at HH HIN HOUT
            clear hb
            cases b with
            | true =>
              have HI := Lib.hid (HIN.out rfl)
              have HOW2 := Lib.hid (own_grow HOW.out (Grow.alloc wv (.cells #[.int .i64 k] 3)))
              clear HIN HOUT
              go_wp2_with fail
              refine (HH.out _).mono ?_
              rintro e w3 ⟨rfl, rfl⟩
              go_wp2_with (at_builtin; go_loud (refine wpList_append_own _ rfl _ _ 33 rfl w2.heap.size 3 i0 (.int .i64 0) 1 8 Try.underlying33 hi hz0 hz1 hz2 rfl (by omega) _ n ((natsL (onesTo s k)).map (Value.int .i64)) rfl ?d0 ⟨wv.heap.size, 0, none⟩ 1 1 [.int .i64 k] rfl rfl ?d1 ?d2 ?d3 ?d4 ?d5 ?_))
              case d0 => exact HOW2.out
              case d1 => exact news_one (BlockIs.new _ _ _)
              case d2 => simp [Value.oneCell']
              case d3 => unfold maxLen; omega
              case d4 => omega
              case d5 => have := HGV.out.size; simp; omega
              intro v' w4 hown hgr _
              obtain ⟨Aw, cw, rfl⟩ := own_form hown
              have HOW3 : Hid (w4.ownsRow w2.heap.size 3 1 (.slice Aw (n + 1) cw) (n + 1) ((natsL (onesTo s (k + 1))).map (Value.int .i64))) := Lib.hid (by
                rw [HI.out, natsL_snoc, List.map_append]
                simpa using hown)
              have HG4 : Hid (Grow w2 w4) := Lib.hid (below_grown (HGV.out.trans (Grow.alloc _ _)) HOW2.out hgr (by have := HGV.out.size; simp; omega))
              have HN3 : Hid (n + 1 = (onesTo s (k + 1)).length) := Lib.hid (by rw [HI.out, List.length_append, ← HN.out]; rfl)
              have hn4 : n + 1 ≤ 8 := by have h1 := HN3.out; have h2 := ones_len s (k + 1); omega
              clear hown hgr HOW2 hcc
              go_wp2
              go_roundw
              case rel => exact ⟨k + 1, Aw, cw, n + 1, by omega, by go_num, rfl, HN3.out, hn4, HOW3.out, HG4.out⟩
              case measure => simp [intOf]; omega
            | false =>
              have HI := Lib.hid (HOUT.out rfl)
              clear HIN HOUT
              go_wp2_with fail
              refine (HH.out _).mono ?_
              rintro e w3 ⟨rfl, rfl⟩
              go_wp2
              go_roundw
              case rel => exact ⟨k + 1, A, cap, n, by omega, by go_num, rfl, by rw [HI.out]; exact HN.out, hn8, by rw [HI.out]; exact HOW.out, HGV.out⟩
              case measure => simp [intOf]; omega
          · have hq : decide ((k : Int) < (c.people.length : Int)) = false := decide_eq_false (by omega)
            have hke : k = c.people.length := by omega
            have HE : Hid (n = ml.length ∧ natsL (onesTo s k) = natsL ml) := Lib.hid (by rw [HM2.out, HN.out, hke]; exact ⟨rfl, rfl⟩)
            clear hke
            go_wp2
            all_goals (refine bodyPost_ret (results_pair45 Try.results27 _ _ _ _ rfl rfl) rfl ?_; refine ⟨A, cap, ?_, ?_, HG.out.trans (HG2.out.trans HGV.out)⟩)
            · rw [← HE.out.1]; rfl
            · rw [← HE.out.2]; exact (own_ints HOW.out).1
  · have HMN : Hid (ml = []) := Lib.hid (HML.out.trans (if_pos h0))
    have hne : (er != 0) = true := by simpa using h0
    go_wp2
    all_goals (refine bodyPost_ret (results_pair45 Try.results27 _ _ _ _ rfl rfl) rfl ?_; refine ⟨none, 0, ?_, ?_, HG.out.trans HG1.out⟩)
    · rw [HMN.out]; rfl
    · rw [HMN.out]; exact .inl rfl

end Go.Proofs.Yticeekkfdkfcgaa
