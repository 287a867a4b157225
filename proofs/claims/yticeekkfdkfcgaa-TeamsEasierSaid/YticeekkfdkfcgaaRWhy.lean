/- RTeam: the specification's Team, where its broken sets are known. RWhy: the specification's Why, where its broken sets are known. -/
import Derived.Test.YticeekkfdkfcgaaRFits
import Derived.Test.YticeekkfdkfcgaaRefs2
import Derived.Test.YticeekkfdkfcgaaTeamApi
import Derived.Test.YticeekkfdkfcgaaCount
namespace Go.Proofs.Yticeekkfdkfcgaa
open Go.RowKit

theorem results_three456 {fn : Func} (h : fn.results = #[.tmp 4, .tmp 5, .tmp 6]) (t : Array Value) (W : World) (u1 u2 u3 : Value) (h1 : t.getD 4 undef = u1) (h2 : t.getD 5 undef = u2) (h3 : t.getD 6 undef = u3) :
    (results fn t).run Try.prog W = .ok (.tuple #[u1, u2, u3]) W := by
  simp only [results, h]
  simp at h1 h2 h3
  simp [go_sem, h1, h2, h3]
/-- the cheapest team below k that fits -/
def bestTo (f : Fin 1024 → Nat) (g : Fin 1024 → Int) (k : Nat) : Nat × Int := ((tmTo k).filter (fitF f)).foldl (pickT g) (0, 0)
theorem bestTo_in {f : Fin 1024 → Nat} {g : Fin 1024 → Int} {k : Nat} (h1 : 1 ≤ k) (h2 : k < 1024) (h : f ⟨k, h2⟩ = 0) : bestTo f g (k + 1) = pickT g (bestTo f g k) ⟨k, h2⟩ := by
  unfold bestTo
  rw [tmTo_succ h1 h2, filt_yes h, pickT_snoc]
theorem bestTo_out {f : Fin 1024 → Nat} {g : Fin 1024 → Int} {k : Nat} (h1 : 1 ≤ k) (h2 : k < 1024) (h : f ⟨k, h2⟩ ≠ 0) : bestTo f g (k + 1) = bestTo f g k := by
  unfold bestTo
  rw [tmTo_succ h1 h2, filt_no h]

set_option maxRecDepth 100000 in
set_option maxHeartbeats 16000000 in
/-- the specification's Team -/
theorem rTeam_any (c : CrewR) (j : JobD) (f : Nat → Nat) (n : Nat) (w : World) (hA : CrewAt w n c) (hn : n ≤ w.heap.size) (hs : Short c) (hRB : crewErr c.d j = 0 → RB c j f w) (hfe : crewErr c.d j = 0 → c.people.length ≤ 8 ∧ ∀ x ∈ c.people, 0 ≤ x.d.fee ∧ x.d.fee ≤ 1000) :
    Calls Try.prog 23 #[crewV c, jobV j] w fun e w' => ∃ (t : Nat) (q er : Int), e = .returned (.tuple #[.int .i64 t, .int .i64 q, .int .i64 er]) ∧ (crewErr c.d j ≠ 0 → t = 0 ∧ q = 0 ∧ er = crewErr c.d j) ∧ (crewErr c.d j = 0 → t = (teamD (fun x => f x.val) (feeF c) c.people.length).1 ∧ (t = 0 → q = 0 ∧ er = 3) ∧ (t ≠ 0 → q = (teamD (fun x => f x.val) (feeF c) c.people.length).2 ∧ er = 0)) ∧ Below w.heap.size w w' := by
  have HAT := Lib.hid (fun (w0 : World) (hw : Grow w w0) => ((hA.more hn).below hw).more hw.size)
  have HC := Lib.hid (fun (w0 : World) (hw : Grow w w0) => rCheck_any c j w0.heap.size w0 (HAT.out w0 hw) (Nat.le_refl _) hs)
  have HRB := Lib.hid hRB
  have HFE := Lib.hid hfe
  obtain ⟨er, her⟩ : ∃ z, crewErr c.d j = z := ⟨_, rfl⟩
  rw [her] at HC HRB HFE ⊢
  obtain ⟨PO, hPO⟩ : ∃ z : Ending → World → Prop, (fun e w' => ∃ (t' : Nat) (f' e' : Int), e = Ending.returned (.tuple #[.int .i64 t', .int .i64 f', .int .i64 e']) ∧ (er ≠ 0 → t' = 0 ∧ f' = 0 ∧ e' = er) ∧ (er = 0 → t' = (teamD (fun x => f x.val) (feeF c) c.people.length).1 ∧ (t' = 0 → f' = 0 ∧ e' = 3) ∧ (t' ≠ 0 → f' = (teamD (fun x => f x.val) (feeF c) c.people.length).2 ∧ e' = 0)) ∧ Below w.heap.size w w') = z := ⟨_, rfl⟩
  have HPO2 : Hid (∀ (t : Nat) (q e1 : Int) (w' : World), (er ≠ 0 → t = 0 ∧ q = 0 ∧ e1 = er) → (er = 0 → t = (teamD (fun x => f x.val) (feeF c) c.people.length).1 ∧ (t = 0 → q = 0 ∧ e1 = 3) ∧ (t ≠ 0 → q = (teamD (fun x => f x.val) (feeF c) c.people.length).2 ∧ e1 = 0)) → Below w.heap.size w w' → PO (Ending.returned (Value.tuple #[.int .i64 t, .int .i64 q, .int .i64 e1])) w') := Lib.hid fun t q e1 w' h1 h2 h3 => by rw [← hPO]; exact ⟨t, q, e1, rfl, h1, h2, h3⟩
  rw [hPO]
  clear hA hn her hPO hRB hfe
  go_enter Try.func23, Try.ntmps23
  go_upto_region 1 with fail
  obtain ⟨W, hW, hg, hf, hs1, hsz⟩ := two_blocks w 25 27 (cellsC c) (cellsJ j)
  rw [hW]
  clear hW
  have hcc := hf.cell
  have hjc := hs1.cell
  have HF := Lib.hid hf
  have HS := Lib.hid hs1
  have HG := Lib.hid hg
  clear hf hs1 hg
  go_wp2_with fail
  refine (HC.out W HG.out).mono ?_
  rintro e w1 ⟨rfl, hb1⟩
  have HG1 : Hid (Grow W w1) := hb1
  clear hb1 hcc hjc HC
  by_cases h0 : er = 0
  · subst h0
    have hRB := HRB.out rfl
    obtain ⟨hl8, hfe⟩ := HFE.out rfl
    have HFI := Lib.hid (fun (k : Nat) (hk : k < 1024) (w0 : World) (hw : Grow w w0) => rFits_any c j f k w0 (hRB.more hw) hk)
    have HFEE := Lib.hid (fun (k : Nat) (hk : k < 1024) (w0 : World) (hw : Grow w w0) => rFee_any c k w0 (HAT.out w0 hw).1 hl8 hk hfe)
    have HT := Lib.hid (fun (k : Nat) (hk : 1 ≤ k) (w0 : World) => (show Calls Try.prog 29 #[crewV c, .int .i64 (k : Nat)] w0 fun e w' => e = .returned (.bool (decide (k < 2 ^ c.people.length))) ∧ Below w0.heap.size w0 w' from by
      have h := rIsTeam_any c (k : Nat) w0 hl8
      rwa [team_in hl8 hk] at h))
    have hpl : 2 ^ c.people.length ≤ 256 := Nat.pow_le_pow_right (n := 2) (by omega) hl8
    have hp1 : 1 ≤ 2 ^ c.people.length := Nat.one_le_two_pow
    have HTD : Hid (teamD (fun x => f x.val) (feeF c) c.people.length = bestTo (fun x => f x.val) (feeF c) (2 ^ c.people.length)) := Lib.hid rfl
    obtain ⟨m, hm⟩ : ∃ z, 2 ^ c.people.length = z := ⟨_, rfl⟩
    rw [hm] at HT hpl hp1 HTD
    rw [HTD.out] at HPO2
    clear hm hRB hl8 hfe HRB HFE HAT HTD
    go_upto_region 5 with fail
    go_loopw [4, 5, 8] (fun tv fv iv wr => ∃ (k : Nat) (t : Nat) (q : Int), 1 ≤ k ∧ k ≤ m ∧ iv = .int .i64 k ∧ tv = .int .i64 (t : Nat) ∧ fv = .int .i64 q ∧ Hid (bestTo (fun x => f x.val) (feeF c) k = (t, q)) ∧ Grow W wr) (fun _ _ v _ => m - (intOf v).toNat)
    case atStart => exact ⟨1, 0, 0, Nat.le_refl _, hp1, rfl, rfl, rfl, by unfold bestTo; rw [tmTo_one]; rfl, HG1.out⟩
    case round =>
      obtain ⟨k, t, q, hk1, hk, rfl, rfl, rfl, HK, hgr⟩ := hrel
      rename World => wr
      have HGR := Lib.hid hgr
      have hcc := (Grow.block hgr HF.out).cell
      clear hgr
      have HTK := Lib.hid (fun w0 => HT.out k hk1 w0)
      by_cases hlt : k < m
      · have HTT : Hid (∀ w0, Calls Try.prog 29 #[crewV c, .int .i64 (k : Nat)] w0 fun e w' => e = .returned (.bool true) ∧ Below w0.heap.size w0 w') := Lib.hid (fun w0 => by have h := HTK.out w0; rwa [decide_eq_true hlt] at h)
        have hk4 : k < 1024 := by omega
        have HFK := Lib.hid (fun w0 hw => HFI.out k hk4 w0 hw)
        have HGK := Lib.hid (fun w0 hw => HFEE.out k hk4 w0 hw)
        have HIN : Hid (f k = 0 → bestTo (fun x => f x.val) (feeF c) (k + 1) = if t = 0 ∨ feeL (membersL c.people k) < q then (k, feeL (membersL c.people k)) else (t, q)) := Lib.hid (fun h => by rw [bestTo_in (f := fun x => f x.val) hk1 hk4 h, HK.out]; rfl)
        have HOUT : Hid (f k ≠ 0 → bestTo (fun x => f x.val) (feeF c) (k + 1) = (t, q)) := Lib.hid (fun h => by rw [bestTo_out (f := fun x => f x.val) hk1 hk4 h, HK.out])
        obtain ⟨z, hz⟩ : ∃ z, f k = z := ⟨_, rfl⟩
        obtain ⟨g, hg⟩ : ∃ z, feeL (membersL c.people k) = z := ⟨_, rfl⟩
        rw [hz] at HFK HIN HOUT
        rw [hg] at HGK HIN
        clear hz hg HTK
        have hkp : 0 < k := by omega
        go_wp2_with fail
        refine (HTT.out _).mono ?_
        rintro e w2 ⟨rfl, hb2⟩
        have HG2 : Hid (Grow W w2) := Lib.hid (HGR.out.trans hb2)
        have hcc2 := (Grow.block (HGR.out.trans hb2) HF.out).cell
        have hjc2 := (Grow.block (HGR.out.trans hb2) HS.out).cell
        clear hb2 hcc
        by_cases h0 : z = 0
        · subst h0
          have HIN1 := Lib.hid (HIN.out rfl)
          have HFT : Hid (∀ w0, Grow w w0 → Calls Try.prog 31 #[crewV c, jobV j, .int .i64 (k : Nat)] w0 fun e w' => e = .returned (.bool true) ∧ Below w0.heap.size w0 w') := Lib.hid (fun w0 hw => by have h := HFK.out w0 hw; rwa [decide_eq_true ⟨hkp, rfl⟩] at h)
          clear HFK HIN HOUT
          go_wp2_with fail
          refine (HFT.out w2 (HG.out.trans HG2.out)).mono ?_
          rintro e w3 ⟨rfl, hb3⟩
          have HG3 : Hid (Grow W w3) := Lib.hid (HG2.out.trans hb3)
          have hcc3 := (Grow.block (HG2.out.trans hb3) HF.out).cell
          clear hb3 hcc2 hjc2
          by_cases ht : t = 0
          · subst ht
            have HN := Lib.hid (HIN1.out.trans (if_pos (.inl rfl)))
            go_wp2_with fail
            refine (HGK.out w3 (HG.out.trans HG3.out)).mono ?_
            rintro e w4 ⟨rfl, hb4⟩
            have HG4 : Hid (Grow W w4) := Lib.hid (HG3.out.trans hb4)
            clear hb4 hcc3
            go_wp2
            go_roundw
            case rel => exact ⟨k + 1, k, g, by omega, by omega, by simp, by simp, by simp, HN.out, HG4.out⟩
            case measure => simp [intOf]; omega
          · have htb : (((t : Nat) : Int) == 0) = false := by simpa using ht
            go_wp2_with fail
            refine (HGK.out w3 (HG.out.trans HG3.out)).mono ?_
            rintro e w4 ⟨rfl, hb4⟩
            have HG4 : Hid (Grow W w4) := Lib.hid (HG3.out.trans hb4)
            have hcc4 := (Grow.block (HG3.out.trans hb4) HF.out).cell
            clear hb4 hcc3
            by_cases hq : g < q
            · have hd : decide (g < q) = true := decide_eq_true hq
              have HN := Lib.hid (HIN1.out.trans (if_pos (.inr hq)))
              go_wp2_with fail
              refine (HGK.out w4 (HG.out.trans HG4.out)).mono ?_
              rintro e w5 ⟨rfl, hb5⟩
              have HG5 : Hid (Grow W w5) := Lib.hid (HG4.out.trans hb5)
              clear hb5 hcc4
              go_wp2
              go_roundw
              case rel => exact ⟨k + 1, k, g, by omega, by omega, by simp, by simp, by simp, HN.out, HG5.out⟩
              case measure => simp [intOf]; omega
            · have hd : decide (g < q) = false := decide_eq_false hq
              have HN := Lib.hid (HIN1.out.trans (if_neg (by rintro (h | h); exact ht h; exact hq h)))
              clear hcc4
              go_wp2
              go_roundw
              case rel => exact ⟨k + 1, t, q, by omega, by omega, by simp, by simp, by simp, HN.out, HG4.out⟩
              case measure => simp [intOf]; omega
        · have HFT : Hid (∀ w0, Grow w w0 → Calls Try.prog 31 #[crewV c, jobV j, .int .i64 (k : Nat)] w0 fun e w' => e = .returned (.bool false) ∧ Below w0.heap.size w0 w') := Lib.hid (fun w0 hw => by have h := HFK.out w0 hw; rwa [decide_eq_false (fun h => h0 h.2)] at h)
          have HN := Lib.hid (HOUT.out h0)
          clear HFK
          go_wp2_with fail
          refine (HFT.out w2 (HG.out.trans HG2.out)).mono ?_
          rintro e w3 ⟨rfl, hb3⟩
          have HG3 : Hid (Grow W w3) := Lib.hid (HG2.out.trans hb3)
          clear hb3 hcc2 hjc2
          go_wp2
          go_roundw
          case rel => exact ⟨k + 1, t, q, by omega, by omega, by simp, by simp, by simp, HN.out, HG3.out⟩
          case measure => simp [intOf]; omega
      · have HTF : Hid (∀ w0, Calls Try.prog 29 #[crewV c, .int .i64 (k : Nat)] w0 fun e w' => e = .returned (.bool false) ∧ Below w0.heap.size w0 w') := Lib.hid (fun w0 => by have h := HTK.out w0; rwa [decide_eq_false hlt] at h)
        have hke : k = m := by omega
        have HKM : Hid (bestTo (fun x => f x.val) (feeF c) m = (t, q)) := Lib.hid (by rw [← hke]; exact HK.out)
        clear HTK hke
        go_wp2_with fail
        refine (HTF.out _).mono ?_
        rintro e w2 ⟨rfl, hb2⟩
        have HG2 : Hid (Grow W w2) := Lib.hid (HGR.out.trans hb2)
        clear hb2 hcc
        by_cases ht : t = 0
        · subst ht
          go_wp2
          exact bodyPost_ret (results_three456 Try.results23 _ _ _ _ _ rfl rfl rfl) rfl (HPO2.out 0 0 3 _ (fun h => absurd rfl h) (fun _ => ⟨by rw [HKM.out], fun _ => ⟨rfl, rfl⟩, fun h => absurd rfl h⟩) (HG.out.trans HG2.out))
        · have htb : (((t : Nat) : Int) == 0) = false := by simpa using ht
          go_wp2
          exact bodyPost_ret (results_three456 Try.results23 _ _ _ _ _ rfl rfl rfl) rfl (HPO2.out t q 0 _ (fun h => absurd rfl h) (fun _ => ⟨by rw [HKM.out], fun h => absurd h ht, fun _ => ⟨by rw [HKM.out], rfl⟩⟩) (HG.out.trans HG2.out))
  · have hne : (er != 0) = true := by simpa using h0
    go_wp2
    all_goals exact bodyPost_ret (results_three456 Try.results23 _ _ _ _ _ rfl rfl rfl) rfl (HPO2.out 0 0 er _ (fun _ => ⟨rfl, rfl, rfl⟩) (fun h => absurd h h0) (HG.out.trans HG1.out))

end Go.Proofs.Yticeekkfdkfcgaa

namespace Go.Proofs.Yticeekkfdkfcgaa
open Go.RowKit

/-- the first one of the smallest sets below k that p does not hold of -/
def whyTo (p : Nat → Bool) : Nat → Option Nat
  | 0 => none
  | k + 1 => if p k = true then whyTo p k else match whyTo p k with
    | none => some k
    | some b => if popD k < popD b then some k else some b
theorem whyTo_yes {p : Nat → Bool} {k : Nat} (h : p k = true) : whyTo p (k + 1) = whyTo p k := by rw [whyTo, if_pos h]
theorem whyTo_first {p : Nat → Bool} {k : Nat} (h : p k = false) (h0 : whyTo p k = none) : whyTo p (k + 1) = some k := by rw [whyTo, if_neg (by rw [h]; decide), h0]
theorem whyTo_less {p : Nat → Bool} {k b : Nat} (h : p k = false) (h0 : whyTo p k = some b) (hb : popD k < popD b) : whyTo p (k + 1) = some k := by rw [whyTo, if_neg (by rw [h]; decide), h0]; exact if_pos hb
theorem whyTo_more {p : Nat → Bool} {k b : Nat} (h : p k = false) (h0 : whyTo p k = some b) (hb : ¬ popD k < popD b) : whyTo p (k + 1) = some b := by rw [whyTo, if_neg (by rw [h]; decide), h0]; exact if_neg hb
theorem whyTo_lt {p : Nat → Bool} : ∀ k b, whyTo p k = some b → b < k
  | 0, _, h => by cases h
  | k + 1, b, h => by
    cases hp : p k with
    | true => rw [whyTo_yes hp] at h; have := whyTo_lt k b h; omega
    | false =>
      cases h0 : whyTo p k with
      | none => rw [whyTo_first hp h0] at h; cases h; omega
      | some b0 =>
        have := whyTo_lt k b0 h0
        by_cases hb : popD k < popD b0
        · rw [whyTo_less hp h0 hb] at h; cases h; omega
        · rw [whyTo_more hp h0 hb] at h; cases h; omega

set_option maxRecDepth 100000 in
set_option maxHeartbeats 16000000 in
/-- the specification's Why -/
theorem rWhy_any (c : CrewR) (j : JobD) (f : Nat → Nat) (n : Nat) (w : World) (hA : CrewAt w n c) (hn : n ≤ w.heap.size) (hs : Short c) (hRB : crewErr c.d j = 0 → RB c j f w) (hl : crewErr c.d j = 0 → c.people.length ≤ 8) (hf : ∀ t, t < 1024 → f t < 64) :
    Calls Try.prog 25 #[crewV c, jobV j] w fun e w' => ∃ (y : Nat) (er : Int), e = .returned (.tuple #[.int .i64 y, .int .i64 er]) ∧ (crewErr c.d j ≠ 0 → y = 0 ∧ er = crewErr c.d j) ∧ (crewErr c.d j = 0 → (whyTo (fun r => keptTo f r (2 ^ c.people.length)) 64 = none → y = 0 ∧ er = 3) ∧ ∀ b, whyTo (fun r => keptTo f r (2 ^ c.people.length)) 64 = some b → y = b ∧ er = 0) ∧ Below w.heap.size w w' := by
  have HAT := Lib.hid (fun (w0 : World) (hw : Grow w w0) => ((hA.more hn).below hw).more hw.size)
  have HC := Lib.hid (fun (w0 : World) (hw : Grow w w0) => rCheck_any c j w0.heap.size w0 (HAT.out w0 hw) (Nat.le_refl _) hs)
  have HKE : Hid (crewErr c.d j = 0 → ∀ (r : Nat) (w0 : World), r < 64 → Grow w w0 → Calls Try.prog 33 #[crewV c, jobV j, .int .i64 (r : Nat)] w0 fun e w' => e = .returned (.bool (keptTo f r (2 ^ c.people.length))) ∧ Below w0.heap.size w0 w') := Lib.hid (fun h r w0 hr hw => rKept_any c j f r w0 ((hRB h).more hw) (hl h) hr hf)
  have HSZ := Lib.hid (fun (s : Nat) (h : s < 1024) (w0 : World) => rsize_any s w0 h)
  obtain ⟨er, her⟩ : ∃ z, crewErr c.d j = z := ⟨_, rfl⟩
  obtain ⟨p, hp⟩ : ∃ z : Nat → Bool, (fun r => keptTo f r (2 ^ c.people.length)) = z := ⟨_, rfl⟩
  have HKP : Hid (er = 0 → ∀ (r : Nat) (w0 : World), r < 64 → Grow w w0 → Calls Try.prog 33 #[crewV c, jobV j, .int .i64 (r : Nat)] w0 fun e w' => e = .returned (.bool (p r)) ∧ Below w0.heap.size w0 w') := Lib.hid (by rw [← her, ← hp]; exact HKE.out)
  rw [hp]
  rw [her] at HC ⊢
  obtain ⟨PO, hPO⟩ : ∃ z : Ending → World → Prop, (fun e w' => ∃ (y : Nat) (e1 : Int), e = Ending.returned (.tuple #[.int .i64 y, .int .i64 e1]) ∧ (er ≠ 0 → y = 0 ∧ e1 = er) ∧ (er = 0 → (whyTo p 64 = none → y = 0 ∧ e1 = 3) ∧ ∀ b, whyTo p 64 = some b → y = b ∧ e1 = 0) ∧ Below w.heap.size w w') = z := ⟨_, rfl⟩
  have HPO : Hid (∀ (y : Nat) (e1 : Int) (w' : World), (er ≠ 0 → y = 0 ∧ e1 = er) → (er = 0 → (whyTo p 64 = none → y = 0 ∧ e1 = 3) ∧ ∀ b, whyTo p 64 = some b → y = b ∧ e1 = 0) → Below w.heap.size w w' → PO (Ending.returned (Value.tuple #[.int .i64 y, .int .i64 e1])) w') := Lib.hid fun y e1 w' h1 h2 h3 => by rw [← hPO]; exact ⟨y, e1, rfl, h1, h2, h3⟩
  rw [hPO]
  clear hA hn her hp hPO hRB hl hf HKE HAT
  go_enter Try.func25, Try.ntmps25
  go_upto_region 1 with fail
  obtain ⟨W, hW, hg, hfr, hs1, hsz⟩ := two_blocks w 25 27 (cellsC c) (cellsJ j)
  rw [hW]
  clear hW
  have hcc := hfr.cell
  have hjc := hs1.cell
  have HF := Lib.hid hfr
  have HS := Lib.hid hs1
  have HG := Lib.hid hg
  clear hfr hs1 hg
  go_wp2_with fail
  refine (HC.out W HG.out).mono ?_
  rintro e w1 ⟨rfl, hb1⟩
  have HG1 : Hid (Grow W w1) := hb1
  clear hb1 hcc hjc HC
  by_cases h0 : er = 0
  · subst h0
    have HKQ := Lib.hid (HKP.out rfl)
    have HP3 : Hid (whyTo p 64 = none → ∀ w', Below w.heap.size w w' → PO (.returned (.tuple #[.int .i64 0, .int .i64 3])) w') := Lib.hid (fun h w' hb => HPO.out 0 3 w' (fun h => absurd rfl h) (fun _ => ⟨fun _ => ⟨rfl, rfl⟩, fun b hb' => by rw [h] at hb'; cases hb'⟩) hb)
    have HP0 : Hid (∀ (y : Nat), whyTo p 64 = some y → ∀ w', Below w.heap.size w w' → PO (.returned (.tuple #[.int .i64 (y : Nat), .int .i64 0])) w') := Lib.hid (fun y h w' hb => HPO.out y 0 w' (fun h => absurd rfl h) (fun _ => ⟨fun h' => (by rw [h] at h'; cases h'), fun b hb' => by rw [h] at hb'; exact ⟨Option.some.inj hb', rfl⟩⟩) hb)
    clear HKP HPO
    go_upto_region 6 with fail
    go_loopw [7, 8] (fun bv iv wr => ∃ (k : Nat) (b : Int) (best : Option Nat), k ≤ 64 ∧ iv = .int .i64 k ∧ bv = .int .i64 b ∧ Hid (whyTo p k = best ∧ (best = none → b = -1) ∧ ∀ y, best = some y → b = (y : Int)) ∧ Grow W wr) (fun _ v _ => 64 - (intOf v).toNat)
    case atStart => exact ⟨0, -1, none, by omega, rfl, rfl, ⟨rfl, fun _ => rfl, fun y h => (by cases h)⟩, HG1.out⟩
    case round =>
      obtain ⟨k, b, best, hk, rfl, rfl, HK, hgr⟩ := hrel
      rename World => wr
      have HGR := Lib.hid hgr
      have hcc := (Grow.block hgr HF.out).cell
      have hjc := (Grow.block hgr HS.out).cell
      clear hgr
      by_cases hlt : k < 64
      · have hd : decide ((k : Int) < 64) = true := decide_eq_true (by omega)
        have HKK := Lib.hid (fun w0 hw => HKQ.out k w0 hlt hw)
        obtain ⟨pk, hpk⟩ : ∃ z, p k = z := ⟨_, rfl⟩
        rw [hpk] at HKK
        have HPK := Lib.hid hpk
        clear hpk
        go_wp2_with fail
        refine (HKK.out wr (HG.out.trans HGR.out)).mono ?_
        rintro e w2 ⟨rfl, hb2⟩
        have HG2 : Hid (Grow W w2) := Lib.hid (HGR.out.trans hb2)
        clear hb2 hcc hjc
        cases pk with
        | true =>
          have HN := Lib.hid ((whyTo_yes HPK.out).trans HK.out.1)
          go_wp2
          go_roundw
          case rel => exact ⟨k + 1, b, best, by omega, by simp, rfl, ⟨HN.out, HK.out.2⟩, HG2.out⟩
          case measure => simp [intOf]; omega
        | false =>
          cases best with
          | none =>
            obtain rfl : b = -1 := HK.out.2.1 rfl
            have HN := Lib.hid (whyTo_first HPK.out HK.out.1)
            go_wp2
            go_roundw
            case rel => exact ⟨k + 1, k, some k, by omega, by simp, by simp, ⟨HN.out, fun h => (by cases h), fun y h => by rw [Option.some.inj h]⟩, HG2.out⟩
            case measure => simp [intOf]; omega
          | some y =>
            obtain rfl : b = (y : Int) := HK.out.2.2 y rfl
            have hy := whyTo_lt k y HK.out.1
            have hy0 : ¬ ((y : Int) < 0) := by omega
            have hyd : decide ((y : Int) < 0) = false := decide_eq_false hy0
            have S1 := Lib.hid (fun w0 => HSZ.out k (by omega) w0)
            have S2 := Lib.hid (fun w0 => HSZ.out y (by omega) w0)
            have HLE := Lib.hid (whyTo_less (b := y) HPK.out HK.out.1)
            have HMO := Lib.hid (whyTo_more (b := y) HPK.out HK.out.1)
            obtain ⟨pk, hpk⟩ : ∃ z, popD k = z := ⟨_, rfl⟩
            obtain ⟨py, hpy⟩ : ∃ z, popD y = z := ⟨_, rfl⟩
            rw [hpk] at S1 HLE HMO
            rw [hpy] at S2 HLE HMO
            clear hpk hpy
            go_wp2_with fail
            refine (S1.out _).mono ?_
            rintro e w3 ⟨rfl, rfl⟩
            go_wp2_with fail
            refine (S2.out _).mono ?_
            rintro e w4 ⟨rfl, rfl⟩
            by_cases hq : pk < py
            · have hdq : decide ((pk : Int) < (py : Int)) = true := decide_eq_true (by omega)
              have HN := Lib.hid (HLE.out hq)
              go_wp2
              go_roundw
              case rel => exact ⟨k + 1, k, some k, by omega, by simp, by simp, ⟨HN.out, fun h => (by cases h), fun y h => by rw [Option.some.inj h]⟩, HG2.out⟩
              case measure => simp [intOf]; omega
            · have hdq : decide ((pk : Int) < (py : Int)) = false := decide_eq_false (by omega)
              have HN := Lib.hid (HMO.out hq)
              go_wp2
              go_roundw
              case rel => exact ⟨k + 1, y, some y, by omega, by simp, by simp, ⟨HN.out, fun h => (by cases h), fun y h => by rw [Option.some.inj h]⟩, HG2.out⟩
              case measure => simp [intOf]; omega
      · have hd : decide ((k : Int) < 64) = false := decide_eq_false (by omega)
        have hke : k = 64 := by omega
        have HK6 : Hid (whyTo p 64 = best) := Lib.hid (by rw [← hke]; exact HK.out.1)
        clear hke
        cases best with
        | none =>
          obtain rfl : b = -1 := HK.out.2.1 rfl
          go_wp2
          exact HP3.out HK6.out _ (HG.out.trans HGR.out)
        | some y =>
          obtain rfl : b = (y : Int) := HK.out.2.2 y rfl
          have hyd : decide ((y : Int) < 0) = false := decide_eq_false (by omega)
          go_wp2
          exact HP0.out y HK6.out _ (HG.out.trans HGR.out)
  · have hne : (er != 0) = true := by simpa using h0
    go_wp2
    all_goals (exact HPO.out 0 er _ (fun _ => ⟨rfl, rfl⟩) (fun h => absurd h h0) (HG.out.trans HG1.out))

end Go.Proofs.Yticeekkfdkfcgaa

