/- RApi: the specification's Held and Merge. -/
import Derived.Test.YtinlojealfbbfaaCopies
import Derived.Test.YtinlojealfbbfaaFrame
namespace Go.Proofs.Ytinlojealfbbfaa
open Go.RowKit

theorem rheldD_api {f : FilmsD} {l : List GlossD} (h : readErr f [l] = 0) : SortedG l (sortU l) ∧ rheldD l = (sortU l).filter (holdsD (sortU l)) := by
  obtain ⟨_, h2, _, h4⟩ := readErr_zero h
  have hs := sortU_sorted h4
  exact ⟨hs, rheld_eq h4 hs (fun x hx => okGloss_span (h2 x hx))⟩

set_option maxRecDepth 100000 in
set_option maxHeartbeats 4000000 in
theorem rHeldApi_any (f : FilmsR) (l : List GlossD) (A : Option Addr) (c n : Nat) (w : World) (hf : Ints w n f.A f.d.frames) (hA : GlossAt w n A l) (hn : n ≤ w.heap.size) (hfl : f.d.frames.length ≤ 1000000) (hl : l.length ≤ 1000) :
    Calls Try.prog 36 #[filmsV f, .slice A l.length c] w fun e w' => ∃ v, e = .returned (.tuple #[v, .int .i64 (readErr f.d [l])]) ∧ HeldV l w.heap.size v (readErr f.d [l]) w' ∧ Below w.heap.size w w' := by
  have HC := Lib.hid (fun (w0 : World) (hw : Grow w w0) => rCheck_any f l A c w0.heap.size w0 (((hf.more hn).below hw).more hw.size) (((hA.more hn).below hw).more hw.size) (Nat.le_refl _) hfl hl)
  have HH := Lib.hid (fun (w0 : World) (hw : Grow w w0) => rheld_any rsort_ok l A c w0.heap.size w0 (((hA.more hn).below hw).more hw.size) (Nat.le_refl _) hl)
  have HRH := Lib.hid (fun (h : readErr f.d [l] = 0) => rheldD_api h)
  obtain ⟨er, her⟩ : ∃ q, readErr f.d [l] = q := ⟨_, rfl⟩
  rw [her] at HC HRH ⊢
  clear her hf hA
  go_enter Try.func36, Try.ntmps36
  go_upto_region 1 with fail
  obtain ⟨W, hW, hg, hf, hsz⟩ := one_block w 24 (cellsF f)
  rw [hW]
  clear hW
  have hcc := hf.cell
  have HG := Lib.hid hg
  clear hf hg
  go_wp2_with fail
  refine (HC.out W HG.out).mono ?_
  rintro e w1 ⟨rfl, hb1⟩
  have HG1 : Hid (Grow w w1) := Lib.hid (HG.out.trans hb1)
  clear hb1 hcc
  by_cases h0 : er = 0
  · subst h0
    obtain ⟨hso, hrh⟩ := HRH.out rfl
    have HHC := Lib.hid (HH.out w1 HG1.out)
    rw [hrh] at HHC
    have HSO := Lib.hid hso
    have hz1 := HG1.out.size
    clear hrh hso HH HRH
    go_wp2_with fail
    refine HHC.out.mono ?_
    rintro e w2 ⟨A', c', rfl, ht, hb2⟩
    have HT := Lib.hid (ht.mono hz1)
    have HG2 : Hid (Grow w w2) := Lib.hid (HG1.out.trans hb2)
    clear ht hb2
    go_wp2
    exact bodyPost_ret (results_pair45 Try.results36 _ _ _ _ rfl rfl) rfl ⟨_, rfl, ⟨fun h => absurd rfl h, fun _ => ⟨A', c', sortU l, rfl, HSO.out, HT.out⟩⟩, HG2.out⟩
  · have hne : decide (er = 0) = false := decide_eq_false h0
    have hnec : (er != 0) = true := by simpa using h0
    have HNE := Lib.hid h0
    clear h0
    go_wp2
    exact bodyPost_ret (results_pair45 Try.results36 _ _ _ _ rfl rfl) rfl ⟨.slice none 0 0, rfl, ⟨fun _ => rfl, fun h => absurd h HNE.out⟩, HG1.out⟩

theorem readErr_two (f : FilmsD) (a b : List GlossD) : readErr f [a, b] = if readErr f [a] = 0 then (if readErr f [b] = 0 then (if clashB (a ++ b) = true then 22 else 0) else readErr f [b]) else readErr f [a] := by
  rw [← rErr_eq f a, ← rErr_eq f b]
  have e : ([a, b] : List (List GlossD)).flatten = a ++ b := by simp
  unfold readErr
  rw [e]
  by_cases h1 : okFilms f = true
  · have ea : rErrD f a = listErr f a := by unfold rErrD listErr; rw [if_pos h1]
    have eb : rErrD f b = listErr f b := by unfold rErrD listErr; rw [if_pos h1]
    rw [if_pos h1, ea, eb]
    unfold listsErr listsErr listsErr
    by_cases h2 : listErr f a = 0
    · rw [if_pos h2, if_pos h2]
      by_cases h3 : listErr f b = 0
      · rw [if_pos h3, if_pos h3]; rfl
      · rw [if_neg h3, if_neg h3]
    · rw [if_neg h2, if_neg h2, if_neg h2]
  · have ea : rErrD f a = 20 := by unfold rErrD; rw [if_neg h1]
    rw [if_neg h1, ea]
    rfl
theorem readErr_len {f : FilmsD} {a : List GlossD} (h : readErr f [a] = 0) : okMsgs f a = true ∧ a.length ≤ 40 := by
  obtain ⟨_, h2, h3, _⟩ := readErr_zero h
  refine ⟨?_, h3⟩
  simp only [okMsgs, Bool.and_eq_true, decide_eq_true_eq, List.all_eq_true]
  exact ⟨h3, h2⟩

set_option maxRecDepth 100000 in
set_option maxHeartbeats 8000000 in
theorem rMergeApi_any (f : FilmsR) (a b : List GlossD) (A B : Option Addr) (c d n : Nat) (w : World) (hf : Ints w n f.A f.d.frames) (hA : GlossAt w n A a) (hB : GlossAt w n B b) (hn : n ≤ w.heap.size) (hfl : f.d.frames.length ≤ 1000000) (ha : a.length ≤ 1000) (hb : b.length ≤ 1000) (h40 : okMsgs f.d a = true → okMsgs f.d b = true → a.length + b.length ≤ 40) :
    Calls Try.prog 35 #[filmsV f, .slice A a.length c, .slice B b.length d] w fun e w' => ∃ v, e = .returned (.tuple #[v, .int .i64 (readErr f.d [a, b])]) ∧ MergeV (a ++ b) w.heap.size v (readErr f.d [a, b]) w' ∧ Below w.heap.size w w' := by
  obtain ⟨j0, hj, hy0, hy1, hy2⟩ := info_parts Try.infoGloss
  have HCA := Lib.hid (fun (w0 : World) (hw : Grow w w0) => rCheck_any f a A c w0.heap.size w0 (((hf.more hn).below hw).more hw.size) (((hA.more hn).below hw).more hw.size) (Nat.le_refl _) hfl ha)
  have HCB := Lib.hid (fun (w0 : World) (hw : Grow w w0) => rCheck_any f b B d w0.heap.size w0 (((hf.more hn).below hw).more hw.size) (((hB.more hn).below hw).more hw.size) (Nat.le_refl _) hfl hb)
  have HGA := Lib.hid (fun (w0 : World) (hw : Grow w w0) => ((hA.more hn).below hw).more hw.size)
  have HGB := Lib.hid (fun (w0 : World) (hw : Grow w w0) => ((hB.more hn).below hw).more hw.size)
  have HER := Lib.hid (readErr_two f.d a b)
  have H40 := Lib.hid (fun (h1 : readErr f.d [a] = 0) (h2 : readErr f.d [b] = 0) => h40 (readErr_len h1).1 (readErr_len h2).1)
  obtain ⟨ea, hea⟩ : ∃ q, readErr f.d [a] = q := ⟨_, rfl⟩
  obtain ⟨eb, heb⟩ : ∃ q, readErr f.d [b] = q := ⟨_, rfl⟩
  obtain ⟨er, her⟩ : ∃ q, readErr f.d [a, b] = q := ⟨_, rfl⟩
  rw [hea] at HCA HER H40
  rw [heb] at HCB HER H40
  rw [her] at HER ⊢
  clear hea heb her hf hA hB h40
  go_enter Try.func35, Try.ntmps35
  go_upto_region 1 with fail
  obtain ⟨W, hW, hg, hf, hsz⟩ := one_block w 24 (cellsF f)
  rw [hW]
  clear hW
  have hcc := hf.cell
  have HF := Lib.hid hf
  have HG := Lib.hid hg
  clear hf hg
  go_wp2_with fail
  refine (HCA.out W HG.out).mono ?_
  rintro e w1 ⟨rfl, hb1⟩
  have HG1 : Hid (Grow w w1) := Lib.hid (HG.out.trans hb1)
  have hcc := (Grow.block hb1 HF.out).cell
  clear hb1
  by_cases h0 : ea = 0
  · subst h0
    go_wp2_with fail
    refine (HCB.out w1 HG1.out).mono ?_
    rintro e w2 ⟨rfl, hb2⟩
    have HG2 : Hid (Grow w w2) := Lib.hid (HG1.out.trans hb2)
    clear hb2 hcc
    by_cases h1 : eb = 0
    · subst h1
      have hab := H40.out (by first | rfl | trivial) (by first | rfl | trivial)
      have HER2 : Hid (er = if clashB (a ++ b) = true then 22 else 0) := Lib.hid (by rw [HER.out]; rfl)
      have hz2 := HG2.out.size
      clear HER H40 HCA HCB
      go_wp2_with (at_builtin; go_loud (refine wpList_append_gloss rfl _ _ 25 rfl w2.heap.size 55 j0 (.agg #[.int .i64 0, .int .i64 0, .int .i64 0, .int .i64 0, .int .i64 0, .int .i64 0]) 48 Try.underlying25 hj hy0 hy1 hy2 rfl _ 0 [] rfl ?c0 A a.length c (w2.heap.size + 1) a rfl rfl ?c1 ?c2 ?c3 ?c4 ?_))
      case c0 => exact own_empty _ _ rfl
      case c1 => have h := HGA.out _ (HG2.out.trans (Grow.alloc w2 (.cells #[] 55))); rw [World.size_alloc] at h; exact h
      case c2 => unfold maxLen; omega
      case c3 => omega
      case c4 => simp
      intro v' w3 hown hgr
      obtain ⟨A3, c3, rfl⟩ := own_form hown
      have hT3 : GlossT w3 w2.heap.size A3 c3 a := by simpa [GlossT] using hown
      have hb3 : Grow w2 w3 := (((Below.refl _ w2).alloc (Nat.le_refl _) _)).grown hgr (by simp) (fun k hk => by simp [Value.ownBlock] at hk; omega)
      have HT3 := Lib.hid hT3
      have HG3 := Lib.hid hb3
      have hz3 := hb3.size
      clear hown hgr hT3 hb3
      go_wp2_with (at_builtin; refine wpList_append_gloss rfl _ _ 25 rfl w2.heap.size 55 j0 (.agg #[.int .i64 0, .int .i64 0, .int .i64 0, .int .i64 0, .int .i64 0, .int .i64 0]) 48 Try.underlying25 hj hy0 hy1 hy2 rfl _ a.length (a.flatMap cellsGL) rfl HT3.out B b.length d w3.heap.size b rfl rfl ?c1 ?c2 ?c3 hz3 ?_)
      case c1 => exact HGB.out _ (HG2.out.trans HG3.out)
      case c2 => unfold maxLen; omega
      case c3 => omega
      intro v' w4 hown hgr
      obtain ⟨A4, c4, rfl⟩ := own_form hown
      have HLN : Hid (a.length + b.length = (a ++ b).length) := Lib.hid (by simp)
      have HT4 : Hid (GlossT w4 w2.heap.size A4 c4 (a ++ b)) := Lib.hid (by
        unfold GlossT
        rw [← HLN.out, List.flatMap_append]
        exact hown)
      have HG4 : Hid (Grow w2 w4) := Lib.hid (below_grown HG3.out HT3.out hgr hz3)
      rw [HLN.out] at hab ⊢
      clear hown hgr HT3 HG3 HLN hz3
      obtain ⟨ab, hab2⟩ : ∃ q, a ++ b = q := ⟨_, rfl⟩
      have HAB := Lib.hid hab2
      rw [hab2] at hab HT4 HER2 ⊢
      clear hab2
      have HAT := Lib.hid (show GlossAt w4 w4.heap.size A4 ab from HT4.out.at_)
      go_wp2_with fail
      go_loopw [11, 12] (fun nv iv wr => ∃ i m q : Nat, i ≤ ab.length ∧ iv = .int .i64 i ∧ nv = .int .i64 m ∧ m ≤ i ∧ wr = w4.drewN q) (fun _ v _ => ab.length - (intOf v).toNat)
      case atStart => exact ⟨0, 0, 0, Nat.zero_le _, rfl, rfl, Nat.le_refl _, rfl⟩
      case round =>
        obtain ⟨i, m, q, hi, rfl, rfl, hmi, rfl⟩ := hrel
        by_cases hlt : i < ab.length
        · have hld : decide ((i : Int) < (ab.length : Int)) = true := decide_eq_true (by omega)
          have hldn : decide (i < ab.length) = true := decide_eq_true hlt
          obtain ⟨bb, off, x, rfl, hbb, hc, HX⟩ := HAT.out.at_ hlt
          have hii : (i : Int) < (ab.length : Int) := by omega
          have hi0 : (0 : Int) ≤ (i : Int) := by omega
          have e0 := hc 0 (by omega); have e1 := hc 1 (by omega); have e2 := hc 2 (by omega); have e3 := hc 3 (by omega); have e4 := hc 4 (by omega); have e5 := hc 5 (by omega)
          rw [Nat.add_zero] at e0
          clear hc hbb
          go_wp2_with fail
          go_loopw [13, 14] (fun fv kv wx => ∃ (k q2 : Nat) (fb : Bool), k ≤ i ∧ kv = .int .i64 k ∧ fv = .bool fb ∧ wx = w4.drewN q2) (fun _ v _ => i - (intOf v).toNat)
          case atStart => exact ⟨0, q, true, Nat.zero_le _, rfl, rfl, rfl⟩
          case round =>
            obtain ⟨k, q2, fb, hk, rfl, rfl, rfl⟩ := hrel
            by_cases hki : k < i
            · have hkd : decide ((k : Int) < (i : Int)) = true := decide_eq_true (by omega)
              have hkdn : decide (k < i) = true := decide_eq_true hki
              obtain ⟨b', off', y, e, hb', hc', HYY⟩ := HAT.out.at_ (show k < ab.length by omega)
              obtain ⟨rfl, rfl⟩ : bb = b' ∧ off = off' := by injection e with e; injection e with e1 e2; exact ⟨e1, e2⟩
              have hkl : (k : Int) < (ab.length : Int) := by omega
              have hk0 : (0 : Int) ≤ (k : Int) := by omega
              have y0 := hc' 0 (by omega); have y1 := hc' 1 (by omega); have y2 := hc' 2 (by omega); have y3 := hc' 3 (by omega); have y4 := hc' 4 (by omega); have y5 := hc' 5 (by omega)
              rw [Nat.add_zero] at y0
              have heq : ∀ w0 : World, (Op.equalIn 10000 55 (glossV y) (glossV x)).run Try.prog w0 = .ok (decide (y = x)) w0 := fun w0 => run_eqG y x w0
              generalize decide (y = x) = xy at heq
              clear e hc' hb'
              cases fb with
              | true =>
                go_wp2
                go_quiet (fail)
                go_wp2
                go_roundw
                case rel => exact ⟨k + 1, _, _, hki, by go_num, rfl, by first | rfl | exact drewN_two _ _ _⟩
                case measure => simp [intOf]; omega
              | false =>
                go_wp2
                go_quiet (fail)
                go_wp2
                go_roundw
                case rel => exact ⟨k + 1, _, _, hki, by go_num, rfl, by first | rfl | exact drewN_two _ _ _⟩
                case measure => simp [intOf]; omega
            · obtain rfl : k = i := by omega
              have hkd : decide ((k : Int) < (k : Int)) = false := by simp
              have hkdn : decide (k < k) = false := by simp
              cases fb with
              | true =>
                go_wp2
                go_roundw
                case rel => exact ⟨k + 1, m + 1, q2, hlt, by go_num, by go_num, by omega, rfl⟩
                case measure => simp [intOf]; omega
              | false =>
                go_wp2
                go_roundw
                case rel => exact ⟨k + 1, m, q2, hlt, by go_num, rfl, by omega, rfl⟩
                case measure => simp [intOf]; omega
        · obtain rfl : i = ab.length := by omega
          have hld : decide ((ab.length : Int) < (ab.length : Int)) = false := by simp
          have hldn : decide (ab.length < ab.length) = false := by simp
          have h40 : decide ((40 : Int) < (m : Int)) = false := decide_eq_false (by omega)
          have hab9 : ab.length ≤ 1000 := by omega
          obtain ⟨w5, hw5⟩ : ∃ z, w4.drewN q = z := ⟨_, rfl⟩
          have HG5 : Hid (Grow w4 w5) := Lib.hid (by rw [← hw5]; exact Below.drewN_ (Grow.refl w4) q)
          rw [hw5]
          have HCL := Lib.hid (fun (w0 : World) (hw : Grow w4 w0) => rclash_any ab A4 c4 w0.heap.size w0 ((HAT.out.below hw).more hw.size) hab9)
          have HSR := Lib.hid (fun (w0 : World) (hw : Grow w4 w0) => rsort_ok ab A4 c4 w0.heap.size w0 ((HAT.out.below hw).more hw.size) (Nat.le_refl _) hab9)
          have HNC := Lib.hid (fun (h : clashB ab = false) => sortU_sorted (ms := ab) (fun hc => by rw [clashB_iff.2 hc] at h; cases h))
          generalize clashB ab = cl at HER2 HCL HNC
          clear hlt hw5 hab
          go_wp2_with fail
          refine (HCL.out w5 HG5.out).mono ?_
          rintro e w6 ⟨rfl, nq, rfl⟩
          have HG6 : Hid (Grow w4 (w5.drewN nq)) := Lib.hid (Below.drewN_ HG5.out nq)
          cases cl with
          | true =>
            have HE : Hid (er = 22) := Lib.hid (by rw [HER2.out]; rfl)
            go_wp2
            exact bodyPost_ret (results_pair67 Try.results35 _ _ _ _ rfl rfl) rfl ⟨.slice none 0 0, congrArg (fun q => Ending.returned (Value.tuple #[.slice none 0 0, .int .i64 q])) HE.out.symm, ⟨fun _ => rfl, fun h => absurd (HE.out.symm.trans h) (by decide)⟩, HG2.out.trans (HG4.out.trans HG6.out)⟩
          | false =>
            have HE : Hid (er = 0) := Lib.hid (by rw [HER2.out]; rfl)
            have HSO := Lib.hid (HNC.out rfl)
            go_wp2_with fail
            refine (HSR.out _ HG6.out).mono ?_
            rintro e w7 ⟨A7, c7, rfl, ht7, hb7⟩
            have HT7 := Lib.hid (ht7.mono (HG2.out.trans (HG4.out.trans HG6.out)).size)
            have HG7 : Hid (Grow w w7) := Lib.hid ((HG2.out.trans (HG4.out.trans HG6.out)).trans hb7)
            clear ht7 hb7
            go_wp2
            exact bodyPost_ret (results_pair67 Try.results35 _ _ _ _ rfl rfl) rfl ⟨_, congrArg (fun q => Ending.returned (Value.tuple #[.slice A7 (sortU ab).length c7, .int .i64 q])) HE.out.symm, ⟨fun h => absurd HE.out h, fun _ => ⟨A7, c7, sortU ab, rfl, by rw [HAB.out]; exact HSO.out, HT7.out⟩⟩, HG7.out⟩
    · have hne : decide (eb = 0) = false := decide_eq_false h1
      have hnec : (eb != 0) = true := by simpa using h1
      have HE : Hid (er = eb) := Lib.hid (by rw [HER.out]; simp [h1])
      have HNE := Lib.hid h1
      clear h1
      go_wp2
      exact bodyPost_ret (results_pair67 Try.results35 _ _ _ _ rfl rfl) rfl ⟨.slice none 0 0, congrArg (fun q => Ending.returned (Value.tuple #[.slice none 0 0, .int .i64 q])) HE.out.symm, ⟨fun _ => rfl, fun h => absurd (HE.out.symm.trans h) HNE.out⟩, HG2.out⟩
  · have hne : decide (ea = 0) = false := decide_eq_false h0
    have hnec : (ea != 0) = true := by simpa using h0
    have HE : Hid (er = ea) := Lib.hid (by rw [HER.out, if_neg h0])
    have HNE := Lib.hid h0
    clear h0
    go_wp2
    exact bodyPost_ret (results_pair67 Try.results35 _ _ _ _ rfl rfl) rfl ⟨.slice none 0 0, congrArg (fun q => Ending.returned (Value.tuple #[.slice none 0 0, .int .i64 q])) HE.out.symm, ⟨fun _ => rfl, fun h => absurd (HE.out.symm.trans h) HNE.out⟩, HG1.out⟩

end Go.Proofs.Ytinlojealfbbfaa
