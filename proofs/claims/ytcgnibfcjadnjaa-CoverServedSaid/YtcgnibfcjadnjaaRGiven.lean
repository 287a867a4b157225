/- RGiven: the specification's Given: where it answers true, there are enough for all languages (the easy half of Hall's theorem); written by wip/tools/rgiven10.py. -/
import Derived.Test.YtcgnibfcjadnjaaRReady
namespace Go.Proofs.Ytcgnibfcjadnjaa
open Go.RowKit

/-- to how many of the first people the language t is given -/
def gotTo (xs : List Int) (t : Nat) : Nat → Nat
  | 0 => 0
  | k + 1 => if xs[k]? = some (t : Int) then gotTo xs t k + 1 else gotTo xs t k
/-- is a language below k of T given to the person i? -/
def gotB (xs : List Int) (T k i : Nat) : Bool := match xs[i]? with
  | some x => decide (0 ≤ x) && decide (x < k) && hasN T x.toNat
  | none => false
def inTo (xs : List Int) (T k : Nat) : Nat → Nat
  | 0 => 0
  | n + 1 => if gotB xs T k n then inTo xs T k n + 1 else inTo xs T k n
theorem gotB_succ (xs : List Int) (T k i : Nat) : gotB xs T (k + 1) i = (gotB xs T k i || (hasN T k && decide (xs[i]? = some (k : Int)))) := by
  unfold gotB
  cases h : xs[i]? with
  | none => simp
  | some x =>
    dsimp only
    by_cases hk : x = (k : Int)
    · subst hk
      have h1 : decide (((k : Nat) : Int) < (k : Int)) = false := decide_eq_false (by omega)
      have h2 : decide (((k : Nat) : Int) < ((k + 1 : Nat) : Int)) = true := decide_eq_true (by omega)
      rw [h1, h2]
      simp
    · have h2 : decide (x < ((k + 1 : Nat) : Int)) = decide (x < (k : Int)) := by
        by_cases h3 : x < (k : Int)
        · rw [decide_eq_true h3, decide_eq_true (by omega)]
        · rw [decide_eq_false h3, decide_eq_false (by omega)]
      rw [h2]
      have h4 : decide (some x = some (k : Int)) = false := decide_eq_false (by intro e; exact hk (Option.some.inj e))
      rw [h4, Bool.and_false, Bool.or_false]
theorem gotB_not (xs : List Int) (T k i : Nat) (h : xs[i]? = some (k : Int)) : gotB xs T k i = false := by
  unfold gotB
  rw [h]
  dsimp only
  rw [decide_eq_false (show ¬ ((k : Nat) : Int) < (k : Int) by omega)]
  simp
theorem inTo_succ (xs : List Int) (T k : Nat) : ∀ n, inTo xs T (k + 1) n = inTo xs T k n + if hasN T k then gotTo xs k n else 0
  | 0 => by unfold inTo gotTo; split <;> rfl
  | n + 1 => by
    have ih := inTo_succ xs T k n
    unfold inTo gotTo
    rw [gotB_succ]
    by_cases hx : xs[n]? = some (k : Int)
    · rw [gotB_not xs T k n hx, if_pos hx, Bool.false_or, decide_eq_true hx, Bool.and_true]
      cases hT : hasN T k with
      | true => rw [hT] at ih; simp at ih ⊢; omega
      | false => rw [hT] at ih; simp at ih ⊢; omega
    · rw [if_neg hx, decide_eq_false hx, Bool.and_false, Bool.or_false]
      cases gotB xs T k n with
      | true => simp; omega
      | false => simp; omega
theorem inTo_zero (xs : List Int) (T : Nat) : ∀ n, inTo xs T 0 n = 0
  | 0 => rfl
  | n + 1 => by
    unfold inTo
    rw [if_neg, inTo_zero xs T n]
    unfold gotB
    cases xs[n]? with
    | none => simp
    | some x =>
      simp only [Bool.and_eq_true, decide_eq_true_eq]
      omega
/-- the language that is given to the person i is one of theirs, and they are in the set -/
def OkG (p : Pool) (g : Nat) (xs : List Int) (i : Nat) : Prop := ∀ t : Nat, xs[i]? = some (t : Int) → t < p.tn ∧ hasN g i = true ∧ hasN (p.folk.getD i nof).t t = true
theorem inTo_le (p : Pool) (g T : Nat) (xs : List Int) (k : Nat) : ∀ n, (∀ i, i < n → OkG p g xs i) → inTo xs T k n ≤ cntTo p.folk g T n
  | 0, _ => Nat.le_refl _
  | n + 1, h => by
    have ih := inTo_le p g T xs k n fun i hi => h i (by omega)
    unfold inTo cntTo
    cases hb : gotB xs T k n with
    | false => simp; split <;> omega
    | true =>
      have ha : ableB p.folk g T n = true := by
        unfold gotB at hb
        cases hx : xs[n]? with
        | none => rw [hx] at hb; cases hb
        | some x =>
          rw [hx] at hb
          dsimp only at hb
          simp only [Bool.and_eq_true, decide_eq_true_eq] at hb
          obtain ⟨⟨h0, _⟩, h2⟩ := hb
          have hxt : xs[n]? = some ((x.toNat : Nat) : Int) := by rw [hx, Int.toNat_of_nonneg h0]
          obtain ⟨_, h4, h5⟩ := h n (by omega) x.toNat hxt
          unfold ableB
          rw [h4, Bool.true_and]
          refine decide_eq_true fun e => ?_
          have h6 := has_and (p.folk.getD n nof).t T x.toNat
          rw [e, has_zero, h5, h2] at h6
          cases h6
      rw [ha]
      simp
      omega
theorem neededTo_in {row : List Nat} {xs : List Int} {n tn : Nat} (T : Nat) (h : ∀ t, t < tn → row.getD t 0 ≤ gotTo xs t n) : ∀ k, k ≤ tn → neededTo row T k ≤ inTo xs T k n
  | 0, _ => by unfold neededTo; omega
  | k + 1, hk => by
    have ih := neededTo_in T h k (by omega)
    have h1 := h k (by omega)
    unfold neededTo
    rw [inTo_succ]
    cases hasN T k with
    | true => rw [if_pos rfl, if_pos rfl]; omega
    | false => rw [if_neg Bool.false_ne_true, if_neg Bool.false_ne_true]; omega
theorem enough_of_got {p : Pool} (G : Good p) {s g : Nat} (hs : s < p.needs.length) {xs : List Int} (h1 : ∀ i, i < p.folk.length → OkG p g xs i) (h2 : ∀ t, t < p.tn → (p.row s).getD t 0 ≤ gotTo xs t p.folk.length) : Enough p s g 0 := by
  intro T _ _
  have a := neededTo_in (xs := xs) (n := p.folk.length) T h2 p.tn (Nat.le_refl _)
  have b := inTo_le p g T xs p.tn p.folk.length h1
  rw [needed_tn G hs]
  unfold cnt
  omega
theorem ready_of_enough {p : Pool} (G : Good p) {s g : Nat} (hs : s < p.needs.length) (hg : g < 32) (h : Enough p s g 0) : 0 ≤ readyD p s g :=
  (ready_iff (k := 0) G hs hg).2 ⟨Nat.zero_le _, (stands_iff G hg).2 h⟩
/-- what has been counted of the first k people -/
structure GotI (p : Pool) (g : Nat) (xs : List Int) (k : Nat) (L : List Nat) : Prop where
  len : L.length = p.tn
  ok : ∀ i, i < k → OkG p g xs i
  got : ∀ t, t < p.tn → L[t]? = some (gotTo xs t k)
theorem GotI.start (p : Pool) (g : Nat) (xs : List Int) : GotI p g xs 0 (List.replicate p.tn 0) := ⟨by simp, fun i hi => by omega, fun t ht => by simp [ht, gotTo]⟩
theorem GotI.skip {p : Pool} {g k : Nat} {xs : List Int} {L : List Nat} (h : GotI p g xs k L) (hx : xs[k]? = some (-1)) : GotI p g xs (k + 1) L := by
  have hne : ∀ t : Nat, ¬ xs[k]? = some (t : Int) := fun t e => by rw [hx] at e; have := Option.some.inj e; omega
  refine ⟨h.len, fun i hi => ?_, fun t ht => ?_⟩
  · by_cases h1 : i < k
    · exact h.ok i h1
    · obtain rfl : i = k := by omega
      exact fun t e => absurd e (hne t)
  · rw [h.got t ht]
    show _ = some (if xs[k]? = some (t : Int) then gotTo xs t k + 1 else gotTo xs t k)
    rw [if_neg (hne t)]
theorem GotI.take {p : Pool} {g k t : Nat} {xs : List Int} {L : List Nat} (h : GotI p g xs k L) (hx : xs[k]? = some (t : Int)) (ht : t < p.tn) (hg : hasN g k = true) (hf : hasN (p.folk.getD k nof).t t = true) : GotI p g xs (k + 1) (L.set t (gotTo xs t k + 1)) := by
  refine ⟨by rw [List.length_set]; exact h.len, fun i hi => ?_, fun u hu => ?_⟩
  · by_cases h1 : i < k
    · exact h.ok i h1
    · obtain rfl : i = k := by omega
      intro u e
      rw [hx] at e
      have : t = u := by have := Option.some.inj e; omega
      subst this
      exact ⟨ht, hg, hf⟩
  · show _ = some (if xs[k]? = some (u : Int) then gotTo xs u k + 1 else gotTo xs u k)
    by_cases h1 : t = u
    · subst h1
      rw [if_pos hx, List.getElem?_set_self (by rw [h.len]; exact ht)]
    · rw [List.getElem?_set_ne h1, h.got u hu, if_neg (fun e => h1 (by rw [hx] at e; have := Option.some.inj e; omega))]
theorem gotTo_le (xs : List Int) (t : Nat) : ∀ k, gotTo xs t k ≤ k
  | 0 => Nat.le_refl _
  | k + 1 => by
    have := gotTo_le xs t k
    unfold gotTo
    split <;> omega

set_option maxRecDepth 100000 in
set_option maxHeartbeats 16000000 in
theorem rGiven_any (h : PoolH) (p : Pool) (G : Good p) (s g : Nat) (hs : s < p.needs.length) (hg : g < 32) (A : Option Addr) (cap : Nat) (xs : List Int) (w : World) (hA : PoolAt w w.heap.size h p.i) (hI : Ints w w.heap.size A xs) (hl : xs.length ≤ 20) :
    Calls Try.prog 22 #[poolN h p, .int .i64 (s : Nat), .int .i64 (g : Nat), .slice A xs.length cap] w fun e w' => ∃ b, e = .returned (.bool b) ∧ (b = true → Enough p s g 0) ∧ Below w.heap.size w w' := by
  have HT := Lib.hid (fun (w0 : World) (hw : Grow w w0) => rTongues_any h p G w0 (hA.grow hw))
  have HFK := Lib.hid (fun (w0 : World) (hw : Grow w w0) => (hA.grow hw).1)
  have HRW := Lib.hid (fun (w0 : World) (hw : Grow w w0) => row_at (hA.grow hw).2 hs)
  have HIN := Lib.hid (fun (w0 : World) (hw : Grow w w0) => (hI.below hw).more hw.size)
  have HEN := Lib.hid (fun (h1 : ∀ i, i < p.folk.length → OkG p g xs i) h2 => enough_of_got G hs h1 h2)
  have ht1 := G.t1
  have ht3 := G.t3
  have hf5 := G.f5
  have HRL := Lib.hid (row_tn G hs)
  have HR8 := Lib.hid (row_ok G hs).2
  have HF1024 := Lib.hid (fun (k : Nat) (x : FolkN) (hx : p.folk[k]? = some x) => show x.t < 1048576 by
    have h1 := (G.folk x (List.mem_of_getElem? hx)).1
    have h2 : (2 : Nat) ^ p.tn ≤ 2 ^ 3 := Nat.pow_le_pow_right (by omega) ht3
    omega)
  have hs0 : (0 : Int) ≤ (s : Int) := by omega
  have hs1 : (s : Int) < (p.needs.length : Int) := by omega
  have hmk := make_full_int p.tn
  have hmk : ∀ w0, (Instr.makeSlice 26 (.int .i64 (p.tn : Int)) (.int .i64 (p.tn : Int))).run Try.prog w0 = .ok (.slice (some ⟨w0.heap.size, 0, none⟩) p.tn p.tn) (w0.alloc (.cells (intCells (List.replicate p.tn 0)) 3)) := fun w0 => hmk w0 (by omega)
  obtain ⟨PO, hPO⟩ : ∃ z : Ending → World → Prop, (fun e w' => ∃ b, e = Ending.returned (.bool b) ∧ (b = true → Enough p s g 0) ∧ Below w.heap.size w w') = z := ⟨_, rfl⟩
  have HP0 : Hid (∀ w', Below w.heap.size w w' → PO (Ending.returned (.bool false)) w') := Lib.hid (fun w' h1 => by rw [← hPO]; exact ⟨false, rfl, fun h => (by cases h), h1⟩)
  have HP1 : Hid (∀ w', Enough p s g 0 → Below w.heap.size w w' → PO (Ending.returned (.bool true)) w') := Lib.hid (fun w' h0 h1 => by rw [← hPO]; exact ⟨true, rfl, fun _ => h0, h1⟩)
  rw [hPO]
  clear hA hI G hPO
  obtain ⟨fa, fc, na, nc⟩ := h
  go_enter Try.func22, Try.ntmps22
  go_upto_region 1 with fail
  obtain ⟨W, hW, hgr, hf, hsz⟩ := one_block w 25 (cellsN ⟨fa, fc, na, nc⟩ p)
  rw [hW]
  clear hW
  have hcc := hf.cell
  have HF := Lib.hid hf
  have HG := Lib.hid hgr
  clear hf hgr
  by_cases hlen : xs.length = p.folk.length
  · have hq : ((xs.length : Int) != (p.folk.length : Int)) = false := by simp [hlen]
    have HLN := Lib.hid hlen
    have hlx : xs.length ≤ 5 := by omega
    clear hlen
    go_upto_region 3 with fail
    clear hq
    go_wp2_with fail
    refine (HT.out W HG.out).mono ?_
    rintro e w1 ⟨rfl, hb1⟩
    have HG1 : Hid (Grow w w1) := Lib.hid (HG.out.trans hb1)
    have HF1 := Lib.hid ((show Grow W w1 from hb1).block HF.out)
    clear hb1 hcc
    go_upto_region 4 with fail
    obtain ⟨W3, hW3, hg3, hf3, hsz3⟩ := one_block w1 3 (intCells (natsL (List.replicate p.tn 0)))
    rw [show List.replicate p.tn (0 : Int) = natsL (List.replicate p.tn 0) by simp [natsL], hW3]
    clear hW3 hmk
    have HT3 := Lib.hid hf3
    have HG3 : Hid (Grow w W3) := Lib.hid (HG1.out.trans hg3)
    have HF3 := Lib.hid (hg3.block HF1.out)
    have hwtb : w.heap.size < w1.heap.size := HF1.out.lt
    clear hg3 hf3 HF HF1 HG HG1 hsz
    obtain ⟨tb, htb⟩ : ∃ z, w1.heap.size = z := ⟨_, rfl⟩
    rw [htb] at HT3 hwtb hsz3 ⊢
    clear htb
    go_wp2_with fail
    go_loopw [10] (fun iv wr => ∃ (k : Nat) (L : List Nat), k ≤ xs.length ∧ iv = .int .i64 (k : Nat) ∧ Hid (GotI p g xs k L) ∧ Hid (BlockIs wr tb 3 (intCells (natsL L))) ∧ Hid (BlockIs wr w.heap.size 25 (cellsN ⟨fa, fc, na, nc⟩ p)) ∧ Hid (Grow w wr)) (fun iv _ => xs.length - (intOf iv).toNat)
    case atStart => exact ⟨0, _, Nat.zero_le _, rfl, Lib.hid (GotI.start p g xs), HT3, HF3, HG3⟩
    case round => as_aux_lemma =>
      obtain ⟨k, L, hk, rfl, HGI, HTB, HBX, HGR⟩ := hrel
      rename World => wr
      by_cases hlt : k < xs.length
      · have hd : decide ((k : Int) < (xs.length : Int)) = true := decide_eq_true (by omega)
        have hk0 : (0 : Int) ≤ (k : Int) := by omega
        have hk1 : (k : Int) < (xs.length : Int) := by omega
        obtain ⟨ab, ao, x, rfl, hab, hac0, HX⟩ := (HIN.out wr HGR.out).at_ hlt
        have HAC := Lib.hid hac0
        have hac := hac0
        clear hac0
        by_cases hx1 : x = -1
        · subst hx1
          have HGN := Lib.hid (HGI.out.skip HX.out)
          go_wp2_with fail
          go_roundw
          case rel => exact ⟨k + 1, L, by omega, by go_num, HGN, HTB, HBX, HGR⟩
          case measure => simp [intOf]; omega
        · have hxe : (x == -1) = false := by simpa using hx1
          have hkf : k < p.folk.length := by rw [← HLN.out]; exact hlt
          have HHS := Lib.hid (fun w0 => rHas_any g k w0 (by omega) (by omega))
          have hk2 : (k : Int) < (p.folk.length : Int) := by omega
          cases hh : hasN g k with
          | false =>
            rw [hh] at HHS
            clear hh
            go_upto_region 8 with fail
            clear hd hxe hac
            refine wp_region_lit 29 [[], [], [(0, 32), (1, 33)], [(2, 34)], [(3, 35)], [(4, 36)], [(4, 36)], [(4, 36), (5, 37), (6, 38)], [(4, 36), (7, 39)], [(4, 36)], [(4, 36), (9, 41)], [(4, 36), (10, 42)], [(4, 36), (8, 40), (11, 43)], [(4, 36), (12, 44)], [(4, 36), (13, 45)], [(14, 46)], [(15, 47)], [(15, 47), (16, 48)], [(15, 47)], [(15, 47), (17, 49), (18, 50)], [(15, 47), (19, 51)], [(15, 47), (20, 52)], [(15, 47)], [(15, 47)], [(15, 47), (22, 54), (23, 55)], [(15, 47), (24, 56)], [(15, 47), (21, 53), (25, 57)], [(15, 47), (26, 58)], [(15, 47), (27, 59)]] Grow (fun qi v w' => match qi with
                | 0 => v = .int .i64 (g : Nat)
                | 1 => v = .int .i64 (k : Nat)
                | 2 => v = .bool false
                | 3 => v = .bool true
                | 4 => v = .bool true
                | 5 => v = undef
                | 6 => v = undef
                | 7 => v = undef
                | 8 => v = undef
                | 9 => v = undef
                | 10 => v = undef
                | 11 => v = undef
                | 12 => v = undef
                | 13 => v = undef
                | 14 => v = .bool true
                | 15 => v = .bool true
                | 16 => v = undef
                | 17 => v = undef
                | 18 => v = undef
                | 19 => v = undef
                | 20 => v = undef
                | 21 => v = undef
                | 22 => v = undef
                | 23 => v = undef
                | 24 => v = undef
                | 25 => v = undef
                | 26 => v = undef
                | 27 => v = undef
                | 28 => v = .bool true
                | _ => False) (by kernel_rfl) (by kernel_rfl) (fun _ _ _ => Grow.trans) Grow.refl ?_ ?_ ?_
            · intro i v y y' h k
              match i, h with
              | 0, h | 1, h | 2, h | 3, h | 4, h | 5, h | 6, h | 7, h | 8, h | 9, h | 10, h | 11, h | 12, h | 13, h | 14, h | 15, h | 16, h | 17, h | 18, h | 19, h | 20, h | 21, h | 22, h | 23, h | 24, h | 25, h | 26, h | 27, h | 28, h => exact h
            · simp only [StepsLit, List.take_succ_cons, List.take_zero]
              refine ⟨?_, ?_, ?_, ?_, ?_, ?_, ?_, ?_, ?_, ?_, ?_, ?_, ?_, ?_, ?_, ?_, ?_, ?_, ?_, ?_, ?_, ?_, ?_, ?_, ?_, ?_, ?_, ?_, ?_, trivial⟩
              · intro w5 hR
                have hGw : Grow wr w5 := hR.of_drew
                have HGW := Lib.hid hGw
                have hcc := (HGW.out.block HBX.out).cell
                have hac := HGW.out.cell HAC.out
                clear hR hGw
                simp only [depV]
                try go_simp
                all_goals first
                  | (with_reducible exact Grow.refl _)
                  | (with_reducible exact ⟨Grow.refl _, rfl⟩)
              · intro w5 hR
                have hGw : Grow wr w5 := hR.of_drew
                have HGW := Lib.hid hGw
                have hcc := (HGW.out.block HBX.out).cell
                have hac := HGW.out.cell HAC.out
                clear hR hGw
                simp only [depV]
                try go_simp
                all_goals first
                  | (with_reducible exact Grow.refl _)
                  | (with_reducible exact ⟨Grow.refl _, rfl⟩)
              · intro w5 hR
                have hGw : Grow wr w5 := hR.of_drew
                have HGW := Lib.hid hGw
                have hcc := (HGW.out.block HBX.out).cell
                have hac := HGW.out.cell HAC.out
                clear hR hGw
                simp only [depV]
                rintro _ rfl
                rintro _ rfl
                try go_simp
                refine (HHS.out _).mono ?_
                rintro e w6 ⟨rfl, rfl⟩
                exact ⟨Grow.refl _, rfl⟩
              · intro w5 hR
                have hGw : Grow wr w5 := hR.of_drew
                have HGW := Lib.hid hGw
                have hcc := (HGW.out.block HBX.out).cell
                have hac := HGW.out.cell HAC.out
                clear hR hGw
                simp only [depV]
                rintro _ rfl
                try go_simp
                all_goals first
                  | (with_reducible exact Grow.refl _)
                  | (with_reducible exact ⟨Grow.refl _, rfl⟩)
              · intro w5 hR
                have hGw : Grow wr w5 := hR.of_drew
                have HGW := Lib.hid hGw
                have hcc := (HGW.out.block HBX.out).cell
                have hac := HGW.out.cell HAC.out
                clear hR hGw
                simp only [depV]
                rintro _ rfl
                try go_simp
                all_goals first
                  | (with_reducible exact Grow.refl _)
                  | (with_reducible exact ⟨Grow.refl _, rfl⟩)
              · intro w5 hR
                have hGw : Grow wr w5 := hR.of_drew
                have HGW := Lib.hid hGw
                have hcc := (HGW.out.block HBX.out).cell
                have hac := HGW.out.cell HAC.out
                clear hR hGw
                simp only [depV]
                rintro _ rfl
                try go_simp
                all_goals first
                  | (with_reducible exact Grow.refl _)
                  | (with_reducible exact ⟨Grow.refl _, rfl⟩)
              · intro w5 hR
                have hGw : Grow wr w5 := hR.of_drew
                have HGW := Lib.hid hGw
                have hcc := (HGW.out.block HBX.out).cell
                have hac := HGW.out.cell HAC.out
                clear hR hGw
                simp only [depV]
                rintro _ rfl
                try go_simp
                all_goals first
                  | (with_reducible exact Grow.refl _)
                  | (with_reducible exact ⟨Grow.refl _, rfl⟩)
              · intro w5 hR
                have hGw : Grow wr w5 := hR.of_drew
                have HGW := Lib.hid hGw
                have hcc := (HGW.out.block HBX.out).cell
                have hac := HGW.out.cell HAC.out
                clear hR hGw
                simp only [depV]
                rintro _ rfl
                rintro _ rfl
                rintro _ rfl
                try go_simp
                all_goals first
                  | (with_reducible exact Grow.refl _)
                  | (with_reducible exact ⟨Grow.refl _, rfl⟩)
              · intro w5 hR
                have hGw : Grow wr w5 := hR.of_drew
                have HGW := Lib.hid hGw
                have hcc := (HGW.out.block HBX.out).cell
                have hac := HGW.out.cell HAC.out
                clear hR hGw
                simp only [depV]
                rintro _ rfl
                rintro _ rfl
                try go_simp
                all_goals first
                  | (with_reducible exact Grow.refl _)
                  | (with_reducible exact ⟨Grow.refl _, rfl⟩)
              · intro w5 hR
                have hGw : Grow wr w5 := hR.of_drew
                have HGW := Lib.hid hGw
                have hcc := (HGW.out.block HBX.out).cell
                have hac := HGW.out.cell HAC.out
                clear hR hGw
                simp only [depV]
                rintro _ rfl
                try go_simp
                all_goals first
                  | (with_reducible exact Grow.refl _)
                  | (with_reducible exact ⟨Grow.refl _, rfl⟩)
              · intro w5 hR
                have hGw : Grow wr w5 := hR.of_drew
                have HGW := Lib.hid hGw
                have hcc := (HGW.out.block HBX.out).cell
                have hac := HGW.out.cell HAC.out
                clear hR hGw
                simp only [depV]
                rintro _ rfl
                rintro _ rfl
                try go_simp
                all_goals first
                  | (with_reducible exact Grow.refl _)
                  | (with_reducible exact ⟨Grow.refl _, rfl⟩)
              · intro w5 hR
                have hGw : Grow wr w5 := hR.of_drew
                have HGW := Lib.hid hGw
                have hcc := (HGW.out.block HBX.out).cell
                have hac := HGW.out.cell HAC.out
                clear hR hGw
                simp only [depV]
                rintro _ rfl
                rintro _ rfl
                try go_simp
                all_goals first
                  | (with_reducible exact Grow.refl _)
                  | (with_reducible exact ⟨Grow.refl _, rfl⟩)
              · intro w5 hR
                have hGw : Grow wr w5 := hR.of_drew
                have HGW := Lib.hid hGw
                have hcc := (HGW.out.block HBX.out).cell
                have hac := HGW.out.cell HAC.out
                clear hR hGw
                simp only [depV]
                rintro _ rfl
                rintro _ rfl
                rintro _ rfl
                try go_simp
                all_goals first
                  | (with_reducible exact Grow.refl _)
                  | (with_reducible exact ⟨Grow.refl _, rfl⟩)
              · intro w5 hR
                have hGw : Grow wr w5 := hR.of_drew
                have HGW := Lib.hid hGw
                have hcc := (HGW.out.block HBX.out).cell
                have hac := HGW.out.cell HAC.out
                clear hR hGw
                simp only [depV]
                rintro _ rfl
                rintro _ rfl
                try go_simp
                all_goals first
                  | (with_reducible exact Grow.refl _)
                  | (with_reducible exact ⟨Grow.refl _, rfl⟩)
              · intro w5 hR
                have hGw : Grow wr w5 := hR.of_drew
                have HGW := Lib.hid hGw
                have hcc := (HGW.out.block HBX.out).cell
                have hac := HGW.out.cell HAC.out
                clear hR hGw
                simp only [depV]
                rintro _ rfl
                rintro _ rfl
                try go_simp
                all_goals first
                  | (with_reducible exact Grow.refl _)
                  | (with_reducible exact ⟨Grow.refl _, rfl⟩)
              · intro w5 hR
                have hGw : Grow wr w5 := hR.of_drew
                have HGW := Lib.hid hGw
                have hcc := (HGW.out.block HBX.out).cell
                have hac := HGW.out.cell HAC.out
                clear hR hGw
                simp only [depV]
                rintro _ rfl
                try go_simp
                all_goals first
                  | (with_reducible exact Grow.refl _)
                  | (with_reducible exact ⟨Grow.refl _, rfl⟩)
              · intro w5 hR
                have hGw : Grow wr w5 := hR.of_drew
                have HGW := Lib.hid hGw
                have hcc := (HGW.out.block HBX.out).cell
                have hac := HGW.out.cell HAC.out
                clear hR hGw
                simp only [depV]
                rintro _ rfl
                try go_simp
                all_goals first
                  | (with_reducible exact Grow.refl _)
                  | (with_reducible exact ⟨Grow.refl _, rfl⟩)
              · intro w5 hR
                have hGw : Grow wr w5 := hR.of_drew
                have HGW := Lib.hid hGw
                have hcc := (HGW.out.block HBX.out).cell
                have hac := HGW.out.cell HAC.out
                clear hR hGw
                simp only [depV]
                rintro _ rfl
                rintro _ rfl
                try go_simp
                all_goals first
                  | (with_reducible exact Grow.refl _)
                  | (with_reducible exact ⟨Grow.refl _, rfl⟩)
              · intro w5 hR
                have hGw : Grow wr w5 := hR.of_drew
                have HGW := Lib.hid hGw
                have hcc := (HGW.out.block HBX.out).cell
                have hac := HGW.out.cell HAC.out
                clear hR hGw
                simp only [depV]
                rintro _ rfl
                try go_simp
                all_goals first
                  | (with_reducible exact Grow.refl _)
                  | (with_reducible exact ⟨Grow.refl _, rfl⟩)
              · intro w5 hR
                have hGw : Grow wr w5 := hR.of_drew
                have HGW := Lib.hid hGw
                have hcc := (HGW.out.block HBX.out).cell
                have hac := HGW.out.cell HAC.out
                clear hR hGw
                simp only [depV]
                rintro _ rfl
                rintro _ rfl
                rintro _ rfl
                try go_simp
                all_goals first
                  | (with_reducible exact Grow.refl _)
                  | (with_reducible exact ⟨Grow.refl _, rfl⟩)
              · intro w5 hR
                have hGw : Grow wr w5 := hR.of_drew
                have HGW := Lib.hid hGw
                have hcc := (HGW.out.block HBX.out).cell
                have hac := HGW.out.cell HAC.out
                clear hR hGw
                simp only [depV]
                rintro _ rfl
                rintro _ rfl
                try go_simp
                all_goals first
                  | (with_reducible exact Grow.refl _)
                  | (with_reducible exact ⟨Grow.refl _, rfl⟩)
              · intro w5 hR
                have hGw : Grow wr w5 := hR.of_drew
                have HGW := Lib.hid hGw
                have hcc := (HGW.out.block HBX.out).cell
                have hac := HGW.out.cell HAC.out
                clear hR hGw
                simp only [depV]
                rintro _ rfl
                rintro _ rfl
                try go_simp
                all_goals first
                  | (with_reducible exact Grow.refl _)
                  | (with_reducible exact ⟨Grow.refl _, rfl⟩)
              · intro w5 hR
                have hGw : Grow wr w5 := hR.of_drew
                have HGW := Lib.hid hGw
                have hcc := (HGW.out.block HBX.out).cell
                have hac := HGW.out.cell HAC.out
                clear hR hGw
                simp only [depV]
                rintro _ rfl
                try go_simp
                all_goals first
                  | (with_reducible exact Grow.refl _)
                  | (with_reducible exact ⟨Grow.refl _, rfl⟩)
              · intro w5 hR
                have hGw : Grow wr w5 := hR.of_drew
                have HGW := Lib.hid hGw
                have hcc := (HGW.out.block HBX.out).cell
                have hac := HGW.out.cell HAC.out
                clear hR hGw
                simp only [depV]
                rintro _ rfl
                try go_simp
                all_goals first
                  | (with_reducible exact Grow.refl _)
                  | (with_reducible exact ⟨Grow.refl _, rfl⟩)
              · intro w5 hR
                have hGw : Grow wr w5 := hR.of_drew
                have HGW := Lib.hid hGw
                have hcc := (HGW.out.block HBX.out).cell
                have hac := HGW.out.cell HAC.out
                clear hR hGw
                simp only [depV]
                rintro _ rfl
                rintro _ rfl
                rintro _ rfl
                try go_simp
                all_goals first
                  | (with_reducible exact Grow.refl _)
                  | (with_reducible exact ⟨Grow.refl _, rfl⟩)
              · intro w5 hR
                have hGw : Grow wr w5 := hR.of_drew
                have HGW := Lib.hid hGw
                have hcc := (HGW.out.block HBX.out).cell
                have hac := HGW.out.cell HAC.out
                clear hR hGw
                simp only [depV]
                rintro _ rfl
                rintro _ rfl
                try go_simp
                all_goals first
                  | (with_reducible exact Grow.refl _)
                  | (with_reducible exact ⟨Grow.refl _, rfl⟩)
              · intro w5 hR
                have hGw : Grow wr w5 := hR.of_drew
                have HGW := Lib.hid hGw
                have hcc := (HGW.out.block HBX.out).cell
                have hac := HGW.out.cell HAC.out
                clear hR hGw
                simp only [depV]
                rintro _ rfl
                rintro _ rfl
                rintro _ rfl
                try go_simp
                all_goals first
                  | (with_reducible exact Grow.refl _)
                  | (with_reducible exact ⟨Grow.refl _, rfl⟩)
              · intro w5 hR
                have hGw : Grow wr w5 := hR.of_drew
                have HGW := Lib.hid hGw
                have hcc := (HGW.out.block HBX.out).cell
                have hac := HGW.out.cell HAC.out
                clear hR hGw
                simp only [depV]
                rintro _ rfl
                rintro _ rfl
                try go_simp
                all_goals first
                  | (with_reducible exact Grow.refl _)
                  | (with_reducible exact ⟨Grow.refl _, rfl⟩)
              · intro w5 hR
                have hGw : Grow wr w5 := hR.of_drew
                have HGW := Lib.hid hGw
                have hcc := (HGW.out.block HBX.out).cell
                have hac := HGW.out.cell HAC.out
                clear hR hGw
                simp only [depV]
                rintro _ rfl
                rintro _ rfl
                try go_simp
                all_goals first
                  | (with_reducible exact Grow.refl _)
                  | (with_reducible exact ⟨Grow.refl _, rfl⟩)
            · intro w5 hR
              have HG5 : Hid (Grow wr w5) := Lib.hid hR.of_drew
              clear hR
              simp only [finVC, List.take_succ_cons, List.take_zero, List.drop_succ_cons, List.drop_zero]
              rintro _ rfl
              rintro _ rfl
              rintro _ rfl
              rintro _ rfl
              rintro _ rfl
              rintro _ rfl
              rintro _ rfl
              rintro _ rfl
              rintro _ rfl
              rintro _ rfl
              rintro _ rfl
              rintro _ rfl
              rintro _ rfl
              rintro _ rfl
              rintro _ rfl
              rintro _ rfl
              rintro _ rfl
              rintro _ rfl
              rintro _ rfl
              rintro _ rfl
              rintro _ rfl
              rintro _ rfl
              rintro _ rfl
              rintro _ rfl
              rintro _ rfl
              rintro _ rfl
              rintro _ rfl
              rintro _ rfl
              rintro _ rfl
              simp only [Act.put, List.setIfInBounds_toArray, List.set_cons_succ, List.set_cons_zero]
              go_wp2
              first
                | exact HP0.out _ (HGR.out.trans HG5.out)
                | (go_ret; exact HP0.out _ (HGR.out.trans HG5.out))
          | true =>
            rw [hh] at HHS
            have HHG := Lib.hid hh
            have HTO := HT
            have HWI := Lib.hid (fun w0 => rwithin_any x 0 ((p.tn : Int) - 1) w0)
            clear hh
            cases hw : inB x 0 ((p.tn : Int) - 1) with
            | false =>
              rw [hw] at HWI
              clear hw
              go_upto_region 8 with fail
              clear hd hxe hac
              refine wp_region_lit 29 [[], [], [(0, 32), (1, 33)], [(2, 34)], [(3, 35)], [(4, 36)], [(4, 36)], [(4, 36), (5, 37), (6, 38)], [(4, 36), (7, 39)], [(4, 36)], [(4, 36), (9, 41)], [(4, 36), (10, 42)], [(4, 36), (8, 40), (11, 43)], [(4, 36), (12, 44)], [(4, 36), (13, 45)], [(14, 46)], [(15, 47)], [(15, 47), (16, 48)], [(15, 47)], [(15, 47), (17, 49), (18, 50)], [(15, 47), (19, 51)], [(15, 47), (20, 52)], [(15, 47)], [(15, 47)], [(15, 47), (22, 54), (23, 55)], [(15, 47), (24, 56)], [(15, 47), (21, 53), (25, 57)], [(15, 47), (26, 58)], [(15, 47), (27, 59)]] Grow (fun qi v w' => match qi with
                  | 0 => v = .int .i64 (g : Nat)
                  | 1 => v = .int .i64 (k : Nat)
                  | 2 => v = .bool true
                  | 3 => v = .bool false
                  | 4 => v = .bool false
                  | 5 => v = .slice (some ⟨ab, ao, none⟩) xs.length cap
                  | 6 => v = .int .i64 (k : Nat)
                  | 7 => v = .pointer (some ⟨ab, ao + k, none⟩)
                  | 8 => v = .int .i64 x
                  | 9 => v = poolN ⟨fa, fc, na, nc⟩ p
                  | 10 => v = .int .i64 (p.tn : Nat)
                  | 11 => v = .int .i64 ((p.tn : Int) - 1)
                  | 12 => v = .bool false
                  | 13 => v = .bool true
                  | 14 => v = .bool true
                  | 15 => v = .bool true
                  | 16 => v = undef
                  | 17 => v = undef
                  | 18 => v = undef
                  | 19 => v = undef
                  | 20 => v = undef
                  | 21 => v = undef
                  | 22 => v = undef
                  | 23 => v = undef
                  | 24 => v = undef
                  | 25 => v = undef
                  | 26 => v = undef
                  | 27 => v = undef
                  | 28 => v = .bool true
                  | _ => False) (by kernel_rfl) (by kernel_rfl) (fun _ _ _ => Grow.trans) Grow.refl ?_ ?_ ?_
              · intro i v y y' h k
                match i, h with
                | 0, h | 1, h | 2, h | 3, h | 4, h | 5, h | 6, h | 7, h | 8, h | 9, h | 10, h | 11, h | 12, h | 13, h | 14, h | 15, h | 16, h | 17, h | 18, h | 19, h | 20, h | 21, h | 22, h | 23, h | 24, h | 25, h | 26, h | 27, h | 28, h => exact h
              · simp only [StepsLit, List.take_succ_cons, List.take_zero]
                refine ⟨?_, ?_, ?_, ?_, ?_, ?_, ?_, ?_, ?_, ?_, ?_, ?_, ?_, ?_, ?_, ?_, ?_, ?_, ?_, ?_, ?_, ?_, ?_, ?_, ?_, ?_, ?_, ?_, ?_, trivial⟩
                · intro w5 hR
                  have hGw : Grow wr w5 := hR.of_drew
                  have HGW := Lib.hid hGw
                  have hcc := (HGW.out.block HBX.out).cell
                  have hac := HGW.out.cell HAC.out
                  clear hR hGw
                  simp only [depV]
                  try go_simp
                  all_goals first
                    | (with_reducible exact Grow.refl _)
                    | (with_reducible exact ⟨Grow.refl _, rfl⟩)
                · intro w5 hR
                  have hGw : Grow wr w5 := hR.of_drew
                  have HGW := Lib.hid hGw
                  have hcc := (HGW.out.block HBX.out).cell
                  have hac := HGW.out.cell HAC.out
                  clear hR hGw
                  simp only [depV]
                  try go_simp
                  all_goals first
                    | (with_reducible exact Grow.refl _)
                    | (with_reducible exact ⟨Grow.refl _, rfl⟩)
                · intro w5 hR
                  have hGw : Grow wr w5 := hR.of_drew
                  have HGW := Lib.hid hGw
                  have hcc := (HGW.out.block HBX.out).cell
                  have hac := HGW.out.cell HAC.out
                  clear hR hGw
                  simp only [depV]
                  rintro _ rfl
                  rintro _ rfl
                  try go_simp
                  refine (HHS.out _).mono ?_
                  rintro e w6 ⟨rfl, rfl⟩
                  exact ⟨Grow.refl _, rfl⟩
                · intro w5 hR
                  have hGw : Grow wr w5 := hR.of_drew
                  have HGW := Lib.hid hGw
                  have hcc := (HGW.out.block HBX.out).cell
                  have hac := HGW.out.cell HAC.out
                  clear hR hGw
                  simp only [depV]
                  rintro _ rfl
                  try go_simp
                  all_goals first
                    | (with_reducible exact Grow.refl _)
                    | (with_reducible exact ⟨Grow.refl _, rfl⟩)
                · intro w5 hR
                  have hGw : Grow wr w5 := hR.of_drew
                  have HGW := Lib.hid hGw
                  have hcc := (HGW.out.block HBX.out).cell
                  have hac := HGW.out.cell HAC.out
                  clear hR hGw
                  simp only [depV]
                  rintro _ rfl
                  try go_simp
                  all_goals first
                    | (with_reducible exact Grow.refl _)
                    | (with_reducible exact ⟨Grow.refl _, rfl⟩)
                · intro w5 hR
                  have hGw : Grow wr w5 := hR.of_drew
                  have HGW := Lib.hid hGw
                  have hcc := (HGW.out.block HBX.out).cell
                  have hac := HGW.out.cell HAC.out
                  clear hR hGw
                  simp only [depV]
                  rintro _ rfl
                  try go_simp
                  all_goals first
                    | (with_reducible exact Grow.refl _)
                    | (with_reducible exact ⟨Grow.refl _, rfl⟩)
                · intro w5 hR
                  have hGw : Grow wr w5 := hR.of_drew
                  have HGW := Lib.hid hGw
                  have hcc := (HGW.out.block HBX.out).cell
                  have hac := HGW.out.cell HAC.out
                  clear hR hGw
                  simp only [depV]
                  rintro _ rfl
                  try go_simp
                  all_goals first
                    | (with_reducible exact Grow.refl _)
                    | (with_reducible exact ⟨Grow.refl _, rfl⟩)
                · intro w5 hR
                  have hGw : Grow wr w5 := hR.of_drew
                  have HGW := Lib.hid hGw
                  have hcc := (HGW.out.block HBX.out).cell
                  have hac := HGW.out.cell HAC.out
                  clear hR hGw
                  simp only [depV]
                  rintro _ rfl
                  rintro _ rfl
                  rintro _ rfl
                  try go_simp
                  all_goals first
                    | (with_reducible exact Grow.refl _)
                    | (with_reducible exact ⟨Grow.refl _, rfl⟩)
                · intro w5 hR
                  have hGw : Grow wr w5 := hR.of_drew
                  have HGW := Lib.hid hGw
                  have hcc := (HGW.out.block HBX.out).cell
                  have hac := HGW.out.cell HAC.out
                  clear hR hGw
                  simp only [depV]
                  rintro _ rfl
                  rintro _ rfl
                  try go_simp
                  all_goals first
                    | (with_reducible exact Grow.refl _)
                    | (with_reducible exact ⟨Grow.refl _, rfl⟩)
                · intro w5 hR
                  have hGw : Grow wr w5 := hR.of_drew
                  have HGW := Lib.hid hGw
                  have hcc := (HGW.out.block HBX.out).cell
                  have hac := HGW.out.cell HAC.out
                  clear hR hGw
                  simp only [depV]
                  rintro _ rfl
                  try go_simp
                  all_goals first
                    | (with_reducible exact Grow.refl _)
                    | (with_reducible exact ⟨Grow.refl _, rfl⟩)
                · intro w5 hR
                  have hGw : Grow wr w5 := hR.of_drew
                  have HGW := Lib.hid hGw
                  have hcc := (HGW.out.block HBX.out).cell
                  have hac := HGW.out.cell HAC.out
                  clear hR hGw
                  simp only [depV]
                  rintro _ rfl
                  rintro _ rfl
                  try go_simp
                  refine (HTO.out w5 (HGR.out.trans HGW.out)).mono ?_
                  rintro e w6 ⟨rfl, hb6⟩
                  exact ⟨hb6, rfl⟩
                · intro w5 hR
                  have hGw : Grow wr w5 := hR.of_drew
                  have HGW := Lib.hid hGw
                  have hcc := (HGW.out.block HBX.out).cell
                  have hac := HGW.out.cell HAC.out
                  clear hR hGw
                  simp only [depV]
                  rintro _ rfl
                  rintro _ rfl
                  try go_simp
                  exact ⟨Grow.refl _, IntWalk.i64_in _ (by omega)⟩
                · intro w5 hR
                  have hGw : Grow wr w5 := hR.of_drew
                  have HGW := Lib.hid hGw
                  have hcc := (HGW.out.block HBX.out).cell
                  have hac := HGW.out.cell HAC.out
                  clear hR hGw
                  simp only [depV]
                  rintro _ rfl
                  rintro _ rfl
                  rintro _ rfl
                  try go_simp
                  refine (HWI.out _).mono ?_
                  rintro e w6 ⟨rfl, rfl⟩
                  exact ⟨Grow.refl _, rfl⟩
                · intro w5 hR
                  have hGw : Grow wr w5 := hR.of_drew
                  have HGW := Lib.hid hGw
                  have hcc := (HGW.out.block HBX.out).cell
                  have hac := HGW.out.cell HAC.out
                  clear hR hGw
                  simp only [depV]
                  rintro _ rfl
                  rintro _ rfl
                  try go_simp
                  all_goals first
                    | (with_reducible exact Grow.refl _)
                    | (with_reducible exact ⟨Grow.refl _, rfl⟩)
                · intro w5 hR
                  have hGw : Grow wr w5 := hR.of_drew
                  have HGW := Lib.hid hGw
                  have hcc := (HGW.out.block HBX.out).cell
                  have hac := HGW.out.cell HAC.out
                  clear hR hGw
                  simp only [depV]
                  rintro _ rfl
                  rintro _ rfl
                  try go_simp
                  all_goals first
                    | (with_reducible exact Grow.refl _)
                    | (with_reducible exact ⟨Grow.refl _, rfl⟩)
                · intro w5 hR
                  have hGw : Grow wr w5 := hR.of_drew
                  have HGW := Lib.hid hGw
                  have hcc := (HGW.out.block HBX.out).cell
                  have hac := HGW.out.cell HAC.out
                  clear hR hGw
                  simp only [depV]
                  rintro _ rfl
                  try go_simp
                  all_goals first
                    | (with_reducible exact Grow.refl _)
                    | (with_reducible exact ⟨Grow.refl _, rfl⟩)
                · intro w5 hR
                  have hGw : Grow wr w5 := hR.of_drew
                  have HGW := Lib.hid hGw
                  have hcc := (HGW.out.block HBX.out).cell
                  have hac := HGW.out.cell HAC.out
                  clear hR hGw
                  simp only [depV]
                  rintro _ rfl
                  try go_simp
                  all_goals first
                    | (with_reducible exact Grow.refl _)
                    | (with_reducible exact ⟨Grow.refl _, rfl⟩)
                · intro w5 hR
                  have hGw : Grow wr w5 := hR.of_drew
                  have HGW := Lib.hid hGw
                  have hcc := (HGW.out.block HBX.out).cell
                  have hac := HGW.out.cell HAC.out
                  clear hR hGw
                  simp only [depV]
                  rintro _ rfl
                  rintro _ rfl
                  try go_simp
                  all_goals first
                    | (with_reducible exact Grow.refl _)
                    | (with_reducible exact ⟨Grow.refl _, rfl⟩)
                · intro w5 hR
                  have hGw : Grow wr w5 := hR.of_drew
                  have HGW := Lib.hid hGw
                  have hcc := (HGW.out.block HBX.out).cell
                  have hac := HGW.out.cell HAC.out
                  clear hR hGw
                  simp only [depV]
                  rintro _ rfl
                  try go_simp
                  all_goals first
                    | (with_reducible exact Grow.refl _)
                    | (with_reducible exact ⟨Grow.refl _, rfl⟩)
                · intro w5 hR
                  have hGw : Grow wr w5 := hR.of_drew
                  have HGW := Lib.hid hGw
                  have hcc := (HGW.out.block HBX.out).cell
                  have hac := HGW.out.cell HAC.out
                  clear hR hGw
                  simp only [depV]
                  rintro _ rfl
                  rintro _ rfl
                  rintro _ rfl
                  try go_simp
                  all_goals first
                    | (with_reducible exact Grow.refl _)
                    | (with_reducible exact ⟨Grow.refl _, rfl⟩)
                · intro w5 hR
                  have hGw : Grow wr w5 := hR.of_drew
                  have HGW := Lib.hid hGw
                  have hcc := (HGW.out.block HBX.out).cell
                  have hac := HGW.out.cell HAC.out
                  clear hR hGw
                  simp only [depV]
                  rintro _ rfl
                  rintro _ rfl
                  try go_simp
                  all_goals first
                    | (with_reducible exact Grow.refl _)
                    | (with_reducible exact ⟨Grow.refl _, rfl⟩)
                · intro w5 hR
                  have hGw : Grow wr w5 := hR.of_drew
                  have HGW := Lib.hid hGw
                  have hcc := (HGW.out.block HBX.out).cell
                  have hac := HGW.out.cell HAC.out
                  clear hR hGw
                  simp only [depV]
                  rintro _ rfl
                  rintro _ rfl
                  try go_simp
                  all_goals first
                    | (with_reducible exact Grow.refl _)
                    | (with_reducible exact ⟨Grow.refl _, rfl⟩)
                · intro w5 hR
                  have hGw : Grow wr w5 := hR.of_drew
                  have HGW := Lib.hid hGw
                  have hcc := (HGW.out.block HBX.out).cell
                  have hac := HGW.out.cell HAC.out
                  clear hR hGw
                  simp only [depV]
                  rintro _ rfl
                  try go_simp
                  all_goals first
                    | (with_reducible exact Grow.refl _)
                    | (with_reducible exact ⟨Grow.refl _, rfl⟩)
                · intro w5 hR
                  have hGw : Grow wr w5 := hR.of_drew
                  have HGW := Lib.hid hGw
                  have hcc := (HGW.out.block HBX.out).cell
                  have hac := HGW.out.cell HAC.out
                  clear hR hGw
                  simp only [depV]
                  rintro _ rfl
                  try go_simp
                  all_goals first
                    | (with_reducible exact Grow.refl _)
                    | (with_reducible exact ⟨Grow.refl _, rfl⟩)
                · intro w5 hR
                  have hGw : Grow wr w5 := hR.of_drew
                  have HGW := Lib.hid hGw
                  have hcc := (HGW.out.block HBX.out).cell
                  have hac := HGW.out.cell HAC.out
                  clear hR hGw
                  simp only [depV]
                  rintro _ rfl
                  rintro _ rfl
                  rintro _ rfl
                  try go_simp
                  all_goals first
                    | (with_reducible exact Grow.refl _)
                    | (with_reducible exact ⟨Grow.refl _, rfl⟩)
                · intro w5 hR
                  have hGw : Grow wr w5 := hR.of_drew
                  have HGW := Lib.hid hGw
                  have hcc := (HGW.out.block HBX.out).cell
                  have hac := HGW.out.cell HAC.out
                  clear hR hGw
                  simp only [depV]
                  rintro _ rfl
                  rintro _ rfl
                  try go_simp
                  all_goals first
                    | (with_reducible exact Grow.refl _)
                    | (with_reducible exact ⟨Grow.refl _, rfl⟩)
                · intro w5 hR
                  have hGw : Grow wr w5 := hR.of_drew
                  have HGW := Lib.hid hGw
                  have hcc := (HGW.out.block HBX.out).cell
                  have hac := HGW.out.cell HAC.out
                  clear hR hGw
                  simp only [depV]
                  rintro _ rfl
                  rintro _ rfl
                  rintro _ rfl
                  try go_simp
                  all_goals first
                    | (with_reducible exact Grow.refl _)
                    | (with_reducible exact ⟨Grow.refl _, rfl⟩)
                · intro w5 hR
                  have hGw : Grow wr w5 := hR.of_drew
                  have HGW := Lib.hid hGw
                  have hcc := (HGW.out.block HBX.out).cell
                  have hac := HGW.out.cell HAC.out
                  clear hR hGw
                  simp only [depV]
                  rintro _ rfl
                  rintro _ rfl
                  try go_simp
                  all_goals first
                    | (with_reducible exact Grow.refl _)
                    | (with_reducible exact ⟨Grow.refl _, rfl⟩)
                · intro w5 hR
                  have hGw : Grow wr w5 := hR.of_drew
                  have HGW := Lib.hid hGw
                  have hcc := (HGW.out.block HBX.out).cell
                  have hac := HGW.out.cell HAC.out
                  clear hR hGw
                  simp only [depV]
                  rintro _ rfl
                  rintro _ rfl
                  try go_simp
                  all_goals first
                    | (with_reducible exact Grow.refl _)
                    | (with_reducible exact ⟨Grow.refl _, rfl⟩)
              · intro w5 hR
                have HG5 : Hid (Grow wr w5) := Lib.hid hR.of_drew
                clear hR
                simp only [finVC, List.take_succ_cons, List.take_zero, List.drop_succ_cons, List.drop_zero]
                rintro _ rfl
                rintro _ rfl
                rintro _ rfl
                rintro _ rfl
                rintro _ rfl
                rintro _ rfl
                rintro _ rfl
                rintro _ rfl
                rintro _ rfl
                rintro _ rfl
                rintro _ rfl
                rintro _ rfl
                rintro _ rfl
                rintro _ rfl
                rintro _ rfl
                rintro _ rfl
                rintro _ rfl
                rintro _ rfl
                rintro _ rfl
                rintro _ rfl
                rintro _ rfl
                rintro _ rfl
                rintro _ rfl
                rintro _ rfl
                rintro _ rfl
                rintro _ rfl
                rintro _ rfl
                rintro _ rfl
                rintro _ rfl
                simp only [Act.put, List.setIfInBounds_toArray, List.set_cons_succ, List.set_cons_zero]
                go_wp2
                first
                  | exact HP0.out _ (HGR.out.trans HG5.out)
                  | (go_ret; exact HP0.out _ (HGR.out.trans HG5.out))
            | true =>
              rw [hw] at HWI
              rw [inB_iff] at hw
              obtain ⟨t, rfl⟩ : ∃ t : Nat, x = (t : Int) := ⟨x.toNat, by omega⟩
              have htt : t < p.tn := by omega
              obtain ⟨fb, fo, y, hfa, hfb, hft, _, _, HY⟩ := folk_at (HFK.out wr HGR.out) hkf
              obtain rfl : fa = _ := hfa
              have HFC := Lib.hid hft
              have hgy : p.folk.getD k nof = y := by rw [List.getD_eq_getElem?_getD, HY.out]; rfl
              have hyt := HF1024.out k y HY.out
              have HH2 := Lib.hid (fun w0 => rHas_any y.t t w0 hyt (by omega))
              have HGN0 := Lib.hid (fun (hc : hasN y.t t = true) => HGI.out.take HX.out htt HHG.out (by rw [hgy]; exact hc))
              obtain ⟨ft, hft2⟩ : ∃ z, y.t = z := ⟨_, rfl⟩
              rw [hft2] at HFC HH2 HGN0
              obtain ⟨c3, hc3⟩ : ∃ z, hasN ft t = z := ⟨_, rfl⟩
              rw [hc3] at HH2 HGN0
              have HMV : Hid ((intCells (natsL L))[t]? = some (.int .i64 (gotTo xs t k : Nat))) := Lib.hid (by
                have h := HGI.out.got t htt
                simp [intCells, natsL, h])
              have hvl := gotTo_le xs t k
              obtain ⟨mv, hmv⟩ : ∃ z, gotTo xs t k = z := ⟨_, rfl⟩
              rw [hmv] at HMV HGN0 hvl
              have HMX : Hid ((intCells (natsL L)).setIfInBounds t (.int .i64 ((mv : Int) + 1)) = intCells (natsL (L.set t (mv + 1)))) := Lib.hid (by
                rw [intCells_set, show ((mv : Int) + 1) = ((mv + 1 : Nat) : Int) by omega, natsL_set])
              have HGN : Hid (c3 = true → GotI p g xs (k + 1) (L.set t (mv + 1))) := Lib.hid (fun hq => HGN0.out hq)
              have ht0 : (0 : Int) ≤ (t : Int) := by omega
              have ht1' : (t : Int) < (p.tn : Int) := by omega
              clear hft hw hgy hyt hft2 hc3 hmv HGN0
              go_upto_region 8 with fail
              clear hd hxe hac
              refine wp_region_lit 29 [[], [], [(0, 32), (1, 33)], [(2, 34)], [(3, 35)], [(4, 36)], [(4, 36)], [(4, 36), (5, 37), (6, 38)], [(4, 36), (7, 39)], [(4, 36)], [(4, 36), (9, 41)], [(4, 36), (10, 42)], [(4, 36), (8, 40), (11, 43)], [(4, 36), (12, 44)], [(4, 36), (13, 45)], [(14, 46)], [(15, 47)], [(15, 47), (16, 48)], [(15, 47)], [(15, 47), (17, 49), (18, 50)], [(15, 47), (19, 51)], [(15, 47), (20, 52)], [(15, 47)], [(15, 47)], [(15, 47), (22, 54), (23, 55)], [(15, 47), (24, 56)], [(15, 47), (21, 53), (25, 57)], [(15, 47), (26, 58)], [(15, 47), (27, 59)]] Grow (fun qi v w' => match qi with
                  | 0 => v = .int .i64 (g : Nat)
                  | 1 => v = .int .i64 (k : Nat)
                  | 2 => v = .bool true
                  | 3 => v = .bool false
                  | 4 => v = .bool false
                  | 5 => v = .slice (some ⟨ab, ao, none⟩) xs.length cap
                  | 6 => v = .int .i64 (k : Nat)
                  | 7 => v = .pointer (some ⟨ab, ao + k, none⟩)
                  | 8 => v = .int .i64 (t : Nat)
                  | 9 => v = poolN ⟨some ⟨fb, fo, none⟩, fc, na, nc⟩ p
                  | 10 => v = .int .i64 (p.tn : Nat)
                  | 11 => v = .int .i64 ((p.tn : Int) - 1)
                  | 12 => v = .bool true
                  | 13 => v = .bool false
                  | 14 => v = .bool false
                  | 15 => v = .bool false
                  | 16 => v = .pointer (some ⟨w.heap.size, 0, none⟩)
                  | 17 => v = .slice (some ⟨fb, fo, none⟩) p.folk.length fc
                  | 18 => v = .int .i64 (k : Nat)
                  | 19 => v = .pointer (some ⟨fb, fo + k * 3, none⟩)
                  | 20 => v = .pointer (some ⟨fb, fo + k * 3, none⟩)
                  | 21 => v = .int .i64 (ft : Nat)
                  | 22 => v = .slice (some ⟨ab, ao, none⟩) xs.length cap
                  | 23 => v = .int .i64 (k : Nat)
                  | 24 => v = .pointer (some ⟨ab, ao + k, none⟩)
                  | 25 => v = .int .i64 (t : Nat)
                  | 26 => v = .bool c3
                  | 27 => v = .bool (!c3)
                  | 28 => v = .bool (!c3)
                  | _ => False) (by kernel_rfl) (by kernel_rfl) (fun _ _ _ => Grow.trans) Grow.refl ?_ ?_ ?_
              · intro i v y y' h k
                match i, h with
                | 0, h | 1, h | 2, h | 3, h | 4, h | 5, h | 6, h | 7, h | 8, h | 9, h | 10, h | 11, h | 12, h | 13, h | 14, h | 15, h | 16, h | 17, h | 18, h | 19, h | 20, h | 21, h | 22, h | 23, h | 24, h | 25, h | 26, h | 27, h | 28, h => exact h
              · simp only [StepsLit, List.take_succ_cons, List.take_zero]
                refine ⟨?_, ?_, ?_, ?_, ?_, ?_, ?_, ?_, ?_, ?_, ?_, ?_, ?_, ?_, ?_, ?_, ?_, ?_, ?_, ?_, ?_, ?_, ?_, ?_, ?_, ?_, ?_, ?_, ?_, trivial⟩
                · intro w5 hR
                  have hGw : Grow wr w5 := hR.of_drew
                  have HGW := Lib.hid hGw
                  have hcc := (HGW.out.block HBX.out).cell
                  have hac := HGW.out.cell HAC.out
                  have hfc := HGW.out.cell HFC.out
                  clear hR hGw
                  simp only [depV]
                  try go_simp
                  all_goals first
                    | (with_reducible exact Grow.refl _)
                    | (with_reducible exact ⟨Grow.refl _, rfl⟩)
                · intro w5 hR
                  have hGw : Grow wr w5 := hR.of_drew
                  have HGW := Lib.hid hGw
                  have hcc := (HGW.out.block HBX.out).cell
                  have hac := HGW.out.cell HAC.out
                  have hfc := HGW.out.cell HFC.out
                  clear hR hGw
                  simp only [depV]
                  try go_simp
                  all_goals first
                    | (with_reducible exact Grow.refl _)
                    | (with_reducible exact ⟨Grow.refl _, rfl⟩)
                · intro w5 hR
                  have hGw : Grow wr w5 := hR.of_drew
                  have HGW := Lib.hid hGw
                  have hcc := (HGW.out.block HBX.out).cell
                  have hac := HGW.out.cell HAC.out
                  have hfc := HGW.out.cell HFC.out
                  clear hR hGw
                  simp only [depV]
                  rintro _ rfl
                  rintro _ rfl
                  try go_simp
                  refine (HHS.out _).mono ?_
                  rintro e w6 ⟨rfl, rfl⟩
                  exact ⟨Grow.refl _, rfl⟩
                · intro w5 hR
                  have hGw : Grow wr w5 := hR.of_drew
                  have HGW := Lib.hid hGw
                  have hcc := (HGW.out.block HBX.out).cell
                  have hac := HGW.out.cell HAC.out
                  have hfc := HGW.out.cell HFC.out
                  clear hR hGw
                  simp only [depV]
                  rintro _ rfl
                  try go_simp
                  all_goals first
                    | (with_reducible exact Grow.refl _)
                    | (with_reducible exact ⟨Grow.refl _, rfl⟩)
                · intro w5 hR
                  have hGw : Grow wr w5 := hR.of_drew
                  have HGW := Lib.hid hGw
                  have hcc := (HGW.out.block HBX.out).cell
                  have hac := HGW.out.cell HAC.out
                  have hfc := HGW.out.cell HFC.out
                  clear hR hGw
                  simp only [depV]
                  rintro _ rfl
                  try go_simp
                  all_goals first
                    | (with_reducible exact Grow.refl _)
                    | (with_reducible exact ⟨Grow.refl _, rfl⟩)
                · intro w5 hR
                  have hGw : Grow wr w5 := hR.of_drew
                  have HGW := Lib.hid hGw
                  have hcc := (HGW.out.block HBX.out).cell
                  have hac := HGW.out.cell HAC.out
                  have hfc := HGW.out.cell HFC.out
                  clear hR hGw
                  simp only [depV]
                  rintro _ rfl
                  try go_simp
                  all_goals first
                    | (with_reducible exact Grow.refl _)
                    | (with_reducible exact ⟨Grow.refl _, rfl⟩)
                · intro w5 hR
                  have hGw : Grow wr w5 := hR.of_drew
                  have HGW := Lib.hid hGw
                  have hcc := (HGW.out.block HBX.out).cell
                  have hac := HGW.out.cell HAC.out
                  have hfc := HGW.out.cell HFC.out
                  clear hR hGw
                  simp only [depV]
                  rintro _ rfl
                  try go_simp
                  all_goals first
                    | (with_reducible exact Grow.refl _)
                    | (with_reducible exact ⟨Grow.refl _, rfl⟩)
                · intro w5 hR
                  have hGw : Grow wr w5 := hR.of_drew
                  have HGW := Lib.hid hGw
                  have hcc := (HGW.out.block HBX.out).cell
                  have hac := HGW.out.cell HAC.out
                  have hfc := HGW.out.cell HFC.out
                  clear hR hGw
                  simp only [depV]
                  rintro _ rfl
                  rintro _ rfl
                  rintro _ rfl
                  try go_simp
                  all_goals first
                    | (with_reducible exact Grow.refl _)
                    | (with_reducible exact ⟨Grow.refl _, rfl⟩)
                · intro w5 hR
                  have hGw : Grow wr w5 := hR.of_drew
                  have HGW := Lib.hid hGw
                  have hcc := (HGW.out.block HBX.out).cell
                  have hac := HGW.out.cell HAC.out
                  have hfc := HGW.out.cell HFC.out
                  clear hR hGw
                  simp only [depV]
                  rintro _ rfl
                  rintro _ rfl
                  try go_simp
                  all_goals first
                    | (with_reducible exact Grow.refl _)
                    | (with_reducible exact ⟨Grow.refl _, rfl⟩)
                · intro w5 hR
                  have hGw : Grow wr w5 := hR.of_drew
                  have HGW := Lib.hid hGw
                  have hcc := (HGW.out.block HBX.out).cell
                  have hac := HGW.out.cell HAC.out
                  have hfc := HGW.out.cell HFC.out
                  clear hR hGw
                  simp only [depV]
                  rintro _ rfl
                  try go_simp
                  all_goals first
                    | (with_reducible exact Grow.refl _)
                    | (with_reducible exact ⟨Grow.refl _, rfl⟩)
                · intro w5 hR
                  have hGw : Grow wr w5 := hR.of_drew
                  have HGW := Lib.hid hGw
                  have hcc := (HGW.out.block HBX.out).cell
                  have hac := HGW.out.cell HAC.out
                  have hfc := HGW.out.cell HFC.out
                  clear hR hGw
                  simp only [depV]
                  rintro _ rfl
                  rintro _ rfl
                  try go_simp
                  refine (HTO.out w5 (HGR.out.trans HGW.out)).mono ?_
                  rintro e w6 ⟨rfl, hb6⟩
                  exact ⟨hb6, rfl⟩
                · intro w5 hR
                  have hGw : Grow wr w5 := hR.of_drew
                  have HGW := Lib.hid hGw
                  have hcc := (HGW.out.block HBX.out).cell
                  have hac := HGW.out.cell HAC.out
                  have hfc := HGW.out.cell HFC.out
                  clear hR hGw
                  simp only [depV]
                  rintro _ rfl
                  rintro _ rfl
                  try go_simp
                  exact ⟨Grow.refl _, IntWalk.i64_in _ (by omega)⟩
                · intro w5 hR
                  have hGw : Grow wr w5 := hR.of_drew
                  have HGW := Lib.hid hGw
                  have hcc := (HGW.out.block HBX.out).cell
                  have hac := HGW.out.cell HAC.out
                  have hfc := HGW.out.cell HFC.out
                  clear hR hGw
                  simp only [depV]
                  rintro _ rfl
                  rintro _ rfl
                  rintro _ rfl
                  try go_simp
                  refine (HWI.out _).mono ?_
                  rintro e w6 ⟨rfl, rfl⟩
                  exact ⟨Grow.refl _, rfl⟩
                · intro w5 hR
                  have hGw : Grow wr w5 := hR.of_drew
                  have HGW := Lib.hid hGw
                  have hcc := (HGW.out.block HBX.out).cell
                  have hac := HGW.out.cell HAC.out
                  have hfc := HGW.out.cell HFC.out
                  clear hR hGw
                  simp only [depV]
                  rintro _ rfl
                  rintro _ rfl
                  try go_simp
                  all_goals first
                    | (with_reducible exact Grow.refl _)
                    | (with_reducible exact ⟨Grow.refl _, rfl⟩)
                · intro w5 hR
                  have hGw : Grow wr w5 := hR.of_drew
                  have HGW := Lib.hid hGw
                  have hcc := (HGW.out.block HBX.out).cell
                  have hac := HGW.out.cell HAC.out
                  have hfc := HGW.out.cell HFC.out
                  clear hR hGw
                  simp only [depV]
                  rintro _ rfl
                  rintro _ rfl
                  try go_simp
                  all_goals first
                    | (with_reducible exact Grow.refl _)
                    | (with_reducible exact ⟨Grow.refl _, rfl⟩)
                · intro w5 hR
                  have hGw : Grow wr w5 := hR.of_drew
                  have HGW := Lib.hid hGw
                  have hcc := (HGW.out.block HBX.out).cell
                  have hac := HGW.out.cell HAC.out
                  have hfc := HGW.out.cell HFC.out
                  clear hR hGw
                  simp only [depV]
                  rintro _ rfl
                  try go_simp
                  all_goals first
                    | (with_reducible exact Grow.refl _)
                    | (with_reducible exact ⟨Grow.refl _, rfl⟩)
                · intro w5 hR
                  have hGw : Grow wr w5 := hR.of_drew
                  have HGW := Lib.hid hGw
                  have hcc := (HGW.out.block HBX.out).cell
                  have hac := HGW.out.cell HAC.out
                  have hfc := HGW.out.cell HFC.out
                  clear hR hGw
                  simp only [depV]
                  rintro _ rfl
                  try go_simp
                  all_goals first
                    | (with_reducible exact Grow.refl _)
                    | (with_reducible exact ⟨Grow.refl _, rfl⟩)
                · intro w5 hR
                  have hGw : Grow wr w5 := hR.of_drew
                  have HGW := Lib.hid hGw
                  have hcc := (HGW.out.block HBX.out).cell
                  have hac := HGW.out.cell HAC.out
                  have hfc := HGW.out.cell HFC.out
                  clear hR hGw
                  simp only [depV]
                  rintro _ rfl
                  rintro _ rfl
                  try go_simp
                  all_goals first
                    | (with_reducible exact Grow.refl _)
                    | (with_reducible exact ⟨Grow.refl _, rfl⟩)
                · intro w5 hR
                  have hGw : Grow wr w5 := hR.of_drew
                  have HGW := Lib.hid hGw
                  have hcc := (HGW.out.block HBX.out).cell
                  have hac := HGW.out.cell HAC.out
                  have hfc := HGW.out.cell HFC.out
                  clear hR hGw
                  simp only [depV]
                  rintro _ rfl
                  try go_simp
                  all_goals first
                    | (with_reducible exact Grow.refl _)
                    | (with_reducible exact ⟨Grow.refl _, rfl⟩)
                · intro w5 hR
                  have hGw : Grow wr w5 := hR.of_drew
                  have HGW := Lib.hid hGw
                  have hcc := (HGW.out.block HBX.out).cell
                  have hac := HGW.out.cell HAC.out
                  have hfc := HGW.out.cell HFC.out
                  clear hR hGw
                  simp only [depV]
                  rintro _ rfl
                  rintro _ rfl
                  rintro _ rfl
                  try go_simp
                  all_goals first
                    | (with_reducible exact Grow.refl _)
                    | (with_reducible exact ⟨Grow.refl _, rfl⟩)
                · intro w5 hR
                  have hGw : Grow wr w5 := hR.of_drew
                  have HGW := Lib.hid hGw
                  have hcc := (HGW.out.block HBX.out).cell
                  have hac := HGW.out.cell HAC.out
                  have hfc := HGW.out.cell HFC.out
                  clear hR hGw
                  simp only [depV]
                  rintro _ rfl
                  rintro _ rfl
                  try go_simp
                  all_goals first
                    | (with_reducible exact Grow.refl _)
                    | (with_reducible exact ⟨Grow.refl _, rfl⟩)
                · intro w5 hR
                  have hGw : Grow wr w5 := hR.of_drew
                  have HGW := Lib.hid hGw
                  have hcc := (HGW.out.block HBX.out).cell
                  have hac := HGW.out.cell HAC.out
                  have hfc := HGW.out.cell HFC.out
                  clear hR hGw
                  simp only [depV]
                  rintro _ rfl
                  rintro _ rfl
                  try go_simp
                  all_goals first
                    | (with_reducible exact Grow.refl _)
                    | (with_reducible exact ⟨Grow.refl _, rfl⟩)
                · intro w5 hR
                  have hGw : Grow wr w5 := hR.of_drew
                  have HGW := Lib.hid hGw
                  have hcc := (HGW.out.block HBX.out).cell
                  have hac := HGW.out.cell HAC.out
                  have hfc := HGW.out.cell HFC.out
                  clear hR hGw
                  simp only [depV]
                  rintro _ rfl
                  try go_simp
                  all_goals first
                    | (with_reducible exact Grow.refl _)
                    | (with_reducible exact ⟨Grow.refl _, rfl⟩)
                · intro w5 hR
                  have hGw : Grow wr w5 := hR.of_drew
                  have HGW := Lib.hid hGw
                  have hcc := (HGW.out.block HBX.out).cell
                  have hac := HGW.out.cell HAC.out
                  have hfc := HGW.out.cell HFC.out
                  clear hR hGw
                  simp only [depV]
                  rintro _ rfl
                  try go_simp
                  all_goals first
                    | (with_reducible exact Grow.refl _)
                    | (with_reducible exact ⟨Grow.refl _, rfl⟩)
                · intro w5 hR
                  have hGw : Grow wr w5 := hR.of_drew
                  have HGW := Lib.hid hGw
                  have hcc := (HGW.out.block HBX.out).cell
                  have hac := HGW.out.cell HAC.out
                  have hfc := HGW.out.cell HFC.out
                  clear hR hGw
                  simp only [depV]
                  rintro _ rfl
                  rintro _ rfl
                  rintro _ rfl
                  try go_simp
                  all_goals first
                    | (with_reducible exact Grow.refl _)
                    | (with_reducible exact ⟨Grow.refl _, rfl⟩)
                · intro w5 hR
                  have hGw : Grow wr w5 := hR.of_drew
                  have HGW := Lib.hid hGw
                  have hcc := (HGW.out.block HBX.out).cell
                  have hac := HGW.out.cell HAC.out
                  have hfc := HGW.out.cell HFC.out
                  clear hR hGw
                  simp only [depV]
                  rintro _ rfl
                  rintro _ rfl
                  try go_simp
                  all_goals first
                    | (with_reducible exact Grow.refl _)
                    | (with_reducible exact ⟨Grow.refl _, rfl⟩)
                · intro w5 hR
                  have hGw : Grow wr w5 := hR.of_drew
                  have HGW := Lib.hid hGw
                  have hcc := (HGW.out.block HBX.out).cell
                  have hac := HGW.out.cell HAC.out
                  have hfc := HGW.out.cell HFC.out
                  clear hR hGw
                  simp only [depV]
                  rintro _ rfl
                  rintro _ rfl
                  rintro _ rfl
                  try go_simp
                  refine (HH2.out _).mono ?_
                  rintro e w6 ⟨rfl, rfl⟩
                  exact ⟨Grow.refl _, rfl⟩
                · intro w5 hR
                  have hGw : Grow wr w5 := hR.of_drew
                  have HGW := Lib.hid hGw
                  have hcc := (HGW.out.block HBX.out).cell
                  have hac := HGW.out.cell HAC.out
                  have hfc := HGW.out.cell HFC.out
                  clear hR hGw
                  simp only [depV]
                  rintro _ rfl
                  rintro _ rfl
                  try go_simp
                  all_goals first
                    | (with_reducible exact Grow.refl _)
                    | (with_reducible exact ⟨Grow.refl _, rfl⟩)
                · intro w5 hR
                  have hGw : Grow wr w5 := hR.of_drew
                  have HGW := Lib.hid hGw
                  have hcc := (HGW.out.block HBX.out).cell
                  have hac := HGW.out.cell HAC.out
                  have hfc := HGW.out.cell HFC.out
                  clear hR hGw
                  simp only [depV]
                  rintro _ rfl
                  rintro _ rfl
                  try go_simp
                  all_goals first
                    | (with_reducible exact Grow.refl _)
                    | (with_reducible exact ⟨Grow.refl _, rfl⟩)
              · intro w5 hR
                have HG5 : Hid (Grow wr w5) := Lib.hid hR.of_drew
                clear hR
                simp only [finVC, List.take_succ_cons, List.take_zero, List.drop_succ_cons, List.drop_zero]
                rintro _ rfl
                rintro _ rfl
                rintro _ rfl
                rintro _ rfl
                rintro _ rfl
                rintro _ rfl
                rintro _ rfl
                rintro _ rfl
                rintro _ rfl
                rintro _ rfl
                rintro _ rfl
                rintro _ rfl
                rintro _ rfl
                rintro _ rfl
                rintro _ rfl
                rintro _ rfl
                rintro _ rfl
                rintro _ rfl
                rintro _ rfl
                rintro _ rfl
                rintro _ rfl
                rintro _ rfl
                rintro _ rfl
                rintro _ rfl
                rintro _ rfl
                rintro _ rfl
                rintro _ rfl
                rintro _ rfl
                rintro _ rfl
                simp only [Act.put, List.setIfInBounds_toArray, List.set_cons_succ, List.set_cons_zero]
                cases c3 with
                | false =>
                  go_wp2
                  first
                    | exact HP0.out _ (HGR.out.trans HG5.out)
                    | (go_ret; exact HP0.out _ (HGR.out.trans HG5.out))
                | true =>
                  have HT5 := Lib.hid (HG5.out.block HTB.out)
                  have hcell : w5.cell? ⟨tb, t, none⟩ = some (.int .i64 (mv : Nat)) := by
                    rw [HT5.out.cell]
                    exact HMV.out
                  have hfr := HT5.out.frozen t
                  have hac := HG5.out.cell HAC.out
                  have HTN : Hid (BlockIs (w5.setCell ⟨tb, t, none⟩ (.int .i64 ((mv : Int) + 1))) tb 3 (intCells (natsL (L.set t (mv + 1))))) := Lib.hid (by
                    have h := HT5.out.near t (.int .i64 ((mv : Int) + 1))
                    rw [HMX.out] at h
                    exact h)
                  have HBN : Hid (BlockIs (w5.setCell ⟨tb, t, none⟩ (.int .i64 ((mv : Int) + 1))) w.heap.size 25 (cellsN ⟨some ⟨fb, fo, none⟩, fc, na, nc⟩ p)) := Lib.hid ((HG5.out.block HBX.out).far (p := ⟨tb, t, none⟩) (by simp; omega) _)
                  have HGX := Lib.hid ((HGR.out.trans HG5.out).setCell (p := ⟨tb, t, none⟩) (by simp; omega) (.int .i64 ((mv : Int) + 1)))
                  have HGY := Lib.hid (HGN.out (by first | rfl | trivial))
                  go_wp2_with fail
                  go_roundw
                  case rel => exact ⟨k + 1, _, by omega, by go_num, HGY, HTN, HBN, HGX⟩
                  case measure => simp [intOf]; omega
      · obtain rfl : k = xs.length := by omega
        have hd : decide ((xs.length : Int) < (xs.length : Int)) = false := decide_eq_false (by omega)
        have HLL := Lib.hid HGI.out.len
        go_wp2_with fail
        go_loopw [11] (fun iv wi => ∃ t : Nat, t ≤ p.tn ∧ iv = .int .i64 (t : Nat) ∧ Hid (∀ u, u < t → (p.row s).getD u 0 ≤ gotTo xs u xs.length) ∧ Grow wr wi) (fun iv _ => p.tn - (intOf iv).toNat)
        case atStart => exact ⟨0, Nat.zero_le _, rfl, Lib.hid (fun u hu => by omega), Grow.refl _⟩
        case round => as_aux_lemma =>
          obtain ⟨t, ht, rfl, HLE, hgi⟩ := hrel
          rename World => wi
          have HGT : Hid (Grow wr wi) := hgi
          clear hgi
          by_cases hlt2 : t < p.tn
          · have hd2 : decide ((t : Int) < (p.tn : Int)) = true := decide_eq_true (by omega)
            have ht0 : (0 : Int) ≤ (t : Int) := by omega
            have ht1' : (t : Int) < (p.tn : Int) := by omega
            have HMV : Hid ((intCells (natsL L))[t]? = some (.int .i64 (gotTo xs t xs.length : Nat))) := Lib.hid (by
              have h := HGI.out.got t hlt2
              simp [intCells, natsL, h])
            have hvl := gotTo_le xs t xs.length
            obtain ⟨nb, no, ra, rc, hna, hnb, hrc, hri⟩ := HRW.out wi (HGR.out.trans HGT.out)
            obtain rfl : na = _ := hna
            rw [HRL.out] at hrc
            have HRC := Lib.hid hrc
            obtain ⟨rb, ro, y, rfl, hrb, hry, HY⟩ := ints_nat hri (by rw [HRL.out]; exact hlt2)
            have HRY := Lib.hid hry
            have hy8 : y ≤ 8 := HR8.out y (List.mem_of_getElem? HY.out)
            have hgy : (p.row s).getD t 0 = y := by rw [List.getD_eq_getElem?_getD, HY.out]; rfl
            have HLN2 : Hid (¬ (gotTo xs t xs.length < y) → ∀ u, u < t + 1 → (p.row s).getD u 0 ≤ gotTo xs u xs.length) := Lib.hid (fun hn u hu => by
              by_cases h1 : u < t
              · exact HLE.out u h1
              · obtain rfl : u = t := by omega
                rw [hgy]
                omega)
            obtain ⟨mv, hmv⟩ : ∃ z, gotTo xs t xs.length = z := ⟨_, rfl⟩
            rw [hmv] at HMV HLN2 hvl
            obtain ⟨c, hc⟩ : ∃ z, decide (mv < y) = z := ⟨_, rfl⟩
            have HC := Lib.hid hc
            clear hrc hri hry hgy hmv hc
            go_upto_region 14 with fail
            clear hd2
            refine wp_region_lit 13 [[], [], [(0, 76), (1, 77)], [(2, 78)], [], [(4, 80)], [], [(5, 81), (6, 82)], [(7, 83)], [], [(8, 84), (9, 85)], [(10, 86)], [(3, 79), (11, 87)]] Grow (fun qi v w' => match qi with
                | 0 => v = .slice (some ⟨tb, 0, none⟩) p.tn p.tn
                | 1 => v = .int .i64 (t : Nat)
                | 2 => v = .pointer (some ⟨tb, t, none⟩)
                | 3 => v = .int .i64 (mv : Nat)
                | 4 => v = .pointer (some ⟨w.heap.size, 1, none⟩)
                | 5 => v = .slice (some ⟨nb, no, none⟩) p.needs.length nc
                | 6 => v = .int .i64 (s : Nat)
                | 7 => v = .pointer (some ⟨nb, no + s, none⟩)
                | 8 => v = .slice (some ⟨rb, ro, none⟩) p.tn rc
                | 9 => v = .int .i64 (t : Nat)
                | 10 => v = .pointer (some ⟨rb, ro + t, none⟩)
                | 11 => v = .int .i64 (y : Nat)
                | 12 => v = .bool c
                | _ => False) (by kernel_rfl) (by kernel_rfl) (fun _ _ _ => Grow.trans) Grow.refl ?_ ?_ ?_
            · intro i v y y' h k
              match i, h with
              | 0, h | 1, h | 2, h | 3, h | 4, h | 5, h | 6, h | 7, h | 8, h | 9, h | 10, h | 11, h | 12, h => exact h
            · simp only [StepsLit, List.take_succ_cons, List.take_zero]
              refine ⟨?_, ?_, ?_, ?_, ?_, ?_, ?_, ?_, ?_, ?_, ?_, ?_, ?_, trivial⟩
              · intro w5 hR
                have hGw : Grow wi w5 := hR.of_drew
                have HGW := Lib.hid hGw
                have hcc := ((HGT.out.trans HGW.out).block HBX.out).cell
                have hmc : w5.cell? ⟨tb, t, none⟩ = some (.int .i64 (mv : Nat)) := by rw [((HGT.out.trans HGW.out).block HTB.out).cell]; exact HMV.out
                have hnc := HGW.out.cell HRC.out
                have hyc := HGW.out.cell HRY.out
                clear hR hGw
                simp only [depV]
                try go_simp
                all_goals first
                  | (with_reducible exact Grow.refl _)
                  | (with_reducible exact ⟨Grow.refl _, rfl⟩)
              · intro w5 hR
                have hGw : Grow wi w5 := hR.of_drew
                have HGW := Lib.hid hGw
                have hcc := ((HGT.out.trans HGW.out).block HBX.out).cell
                have hmc : w5.cell? ⟨tb, t, none⟩ = some (.int .i64 (mv : Nat)) := by rw [((HGT.out.trans HGW.out).block HTB.out).cell]; exact HMV.out
                have hnc := HGW.out.cell HRC.out
                have hyc := HGW.out.cell HRY.out
                clear hR hGw
                simp only [depV]
                try go_simp
                all_goals first
                  | (with_reducible exact Grow.refl _)
                  | (with_reducible exact ⟨Grow.refl _, rfl⟩)
              · intro w5 hR
                have hGw : Grow wi w5 := hR.of_drew
                have HGW := Lib.hid hGw
                have hcc := ((HGT.out.trans HGW.out).block HBX.out).cell
                have hmc : w5.cell? ⟨tb, t, none⟩ = some (.int .i64 (mv : Nat)) := by rw [((HGT.out.trans HGW.out).block HTB.out).cell]; exact HMV.out
                have hnc := HGW.out.cell HRC.out
                have hyc := HGW.out.cell HRY.out
                clear hR hGw
                simp only [depV]
                rintro _ rfl
                rintro _ rfl
                try go_simp
                all_goals first
                  | (with_reducible exact Grow.refl _)
                  | (with_reducible exact ⟨Grow.refl _, rfl⟩)
              · intro w5 hR
                have hGw : Grow wi w5 := hR.of_drew
                have HGW := Lib.hid hGw
                have hcc := ((HGT.out.trans HGW.out).block HBX.out).cell
                have hmc : w5.cell? ⟨tb, t, none⟩ = some (.int .i64 (mv : Nat)) := by rw [((HGT.out.trans HGW.out).block HTB.out).cell]; exact HMV.out
                have hnc := HGW.out.cell HRC.out
                have hyc := HGW.out.cell HRY.out
                clear hR hGw
                simp only [depV]
                rintro _ rfl
                try go_simp
                all_goals first
                  | (with_reducible exact Grow.refl _)
                  | (with_reducible exact ⟨Grow.refl _, rfl⟩)
              · intro w5 hR
                have hGw : Grow wi w5 := hR.of_drew
                have HGW := Lib.hid hGw
                have hcc := ((HGT.out.trans HGW.out).block HBX.out).cell
                have hmc : w5.cell? ⟨tb, t, none⟩ = some (.int .i64 (mv : Nat)) := by rw [((HGT.out.trans HGW.out).block HTB.out).cell]; exact HMV.out
                have hnc := HGW.out.cell HRC.out
                have hyc := HGW.out.cell HRY.out
                clear hR hGw
                simp only [depV]
                try go_simp
                all_goals first
                  | (with_reducible exact Grow.refl _)
                  | (with_reducible exact ⟨Grow.refl _, rfl⟩)
              · intro w5 hR
                have hGw : Grow wi w5 := hR.of_drew
                have HGW := Lib.hid hGw
                have hcc := ((HGT.out.trans HGW.out).block HBX.out).cell
                have hmc : w5.cell? ⟨tb, t, none⟩ = some (.int .i64 (mv : Nat)) := by rw [((HGT.out.trans HGW.out).block HTB.out).cell]; exact HMV.out
                have hnc := HGW.out.cell HRC.out
                have hyc := HGW.out.cell HRY.out
                clear hR hGw
                simp only [depV]
                rintro _ rfl
                try go_simp
                all_goals first
                  | (with_reducible exact Grow.refl _)
                  | (with_reducible exact ⟨Grow.refl _, rfl⟩)
              · intro w5 hR
                have hGw : Grow wi w5 := hR.of_drew
                have HGW := Lib.hid hGw
                have hcc := ((HGT.out.trans HGW.out).block HBX.out).cell
                have hmc : w5.cell? ⟨tb, t, none⟩ = some (.int .i64 (mv : Nat)) := by rw [((HGT.out.trans HGW.out).block HTB.out).cell]; exact HMV.out
                have hnc := HGW.out.cell HRC.out
                have hyc := HGW.out.cell HRY.out
                clear hR hGw
                simp only [depV]
                try go_simp
                all_goals first
                  | (with_reducible exact Grow.refl _)
                  | (with_reducible exact ⟨Grow.refl _, rfl⟩)
              · intro w5 hR
                have hGw : Grow wi w5 := hR.of_drew
                have HGW := Lib.hid hGw
                have hcc := ((HGT.out.trans HGW.out).block HBX.out).cell
                have hmc : w5.cell? ⟨tb, t, none⟩ = some (.int .i64 (mv : Nat)) := by rw [((HGT.out.trans HGW.out).block HTB.out).cell]; exact HMV.out
                have hnc := HGW.out.cell HRC.out
                have hyc := HGW.out.cell HRY.out
                clear hR hGw
                simp only [depV]
                rintro _ rfl
                rintro _ rfl
                try go_simp
                all_goals first
                  | (with_reducible exact Grow.refl _)
                  | (with_reducible exact ⟨Grow.refl _, rfl⟩)
              · intro w5 hR
                have hGw : Grow wi w5 := hR.of_drew
                have HGW := Lib.hid hGw
                have hcc := ((HGT.out.trans HGW.out).block HBX.out).cell
                have hmc : w5.cell? ⟨tb, t, none⟩ = some (.int .i64 (mv : Nat)) := by rw [((HGT.out.trans HGW.out).block HTB.out).cell]; exact HMV.out
                have hnc := HGW.out.cell HRC.out
                have hyc := HGW.out.cell HRY.out
                clear hR hGw
                simp only [depV]
                rintro _ rfl
                try go_simp
                all_goals first
                  | (with_reducible exact Grow.refl _)
                  | (with_reducible exact ⟨Grow.refl _, rfl⟩)
              · intro w5 hR
                have hGw : Grow wi w5 := hR.of_drew
                have HGW := Lib.hid hGw
                have hcc := ((HGT.out.trans HGW.out).block HBX.out).cell
                have hmc : w5.cell? ⟨tb, t, none⟩ = some (.int .i64 (mv : Nat)) := by rw [((HGT.out.trans HGW.out).block HTB.out).cell]; exact HMV.out
                have hnc := HGW.out.cell HRC.out
                have hyc := HGW.out.cell HRY.out
                clear hR hGw
                simp only [depV]
                try go_simp
                all_goals first
                  | (with_reducible exact Grow.refl _)
                  | (with_reducible exact ⟨Grow.refl _, rfl⟩)
              · intro w5 hR
                have hGw : Grow wi w5 := hR.of_drew
                have HGW := Lib.hid hGw
                have hcc := ((HGT.out.trans HGW.out).block HBX.out).cell
                have hmc : w5.cell? ⟨tb, t, none⟩ = some (.int .i64 (mv : Nat)) := by rw [((HGT.out.trans HGW.out).block HTB.out).cell]; exact HMV.out
                have hnc := HGW.out.cell HRC.out
                have hyc := HGW.out.cell HRY.out
                clear hR hGw
                simp only [depV]
                rintro _ rfl
                rintro _ rfl
                try go_simp
                all_goals first
                  | (with_reducible exact Grow.refl _)
                  | (with_reducible exact ⟨Grow.refl _, rfl⟩)
              · intro w5 hR
                have hGw : Grow wi w5 := hR.of_drew
                have HGW := Lib.hid hGw
                have hcc := ((HGT.out.trans HGW.out).block HBX.out).cell
                have hmc : w5.cell? ⟨tb, t, none⟩ = some (.int .i64 (mv : Nat)) := by rw [((HGT.out.trans HGW.out).block HTB.out).cell]; exact HMV.out
                have hnc := HGW.out.cell HRC.out
                have hyc := HGW.out.cell HRY.out
                clear hR hGw
                simp only [depV]
                rintro _ rfl
                try go_simp
                all_goals first
                  | (with_reducible exact Grow.refl _)
                  | (with_reducible exact ⟨Grow.refl _, rfl⟩)
              · intro w5 hR
                have hGw : Grow wi w5 := hR.of_drew
                have HGW := Lib.hid hGw
                have hcc := ((HGT.out.trans HGW.out).block HBX.out).cell
                have hmc : w5.cell? ⟨tb, t, none⟩ = some (.int .i64 (mv : Nat)) := by rw [((HGT.out.trans HGW.out).block HTB.out).cell]; exact HMV.out
                have hnc := HGW.out.cell HRC.out
                have hyc := HGW.out.cell HRY.out
                clear hR hGw
                simp only [depV]
                rintro _ rfl
                rintro _ rfl
                try go_simp
                exact ⟨Grow.refl _, by rw [HC.out]⟩
            · intro w5 hR
              have HG5 : Hid (Grow wi w5) := Lib.hid hR.of_drew
              clear hR
              simp only [finVC, List.take_succ_cons, List.take_zero, List.drop_succ_cons, List.drop_zero]
              rintro _ rfl
              rintro _ rfl
              rintro _ rfl
              rintro _ rfl
              rintro _ rfl
              rintro _ rfl
              rintro _ rfl
              rintro _ rfl
              rintro _ rfl
              rintro _ rfl
              rintro _ rfl
              rintro _ rfl
              rintro _ rfl
              simp only [Act.put, List.setIfInBounds_toArray, List.set_cons_succ, List.set_cons_zero]
              cases c with
              | true =>
                go_wp2
                first
                  | exact HP0.out _ ((HGR.out.trans HGT.out).trans HG5.out)
                  | (go_ret; exact HP0.out _ ((HGR.out.trans HGT.out).trans HG5.out))
              | false =>
                have HLX := Lib.hid (HLN2.out (of_decide_eq_false HC.out))
                go_wp2_with fail
                go_roundw
                case rel => exact ⟨t + 1, by omega, by go_num, HLX, HGT.out.trans HG5.out⟩
                case measure => simp [intOf]; omega
          · obtain rfl : t = p.tn := by omega
            have hd2 : decide ((p.tn : Int) < (p.tn : Int)) = false := decide_eq_false (by omega)
            have HEE : Hid (Enough p s g 0) := Lib.hid (HEN.out (by rw [← HLN.out]; exact HGI.out.ok) (by rw [← HLN.out]; exact HLE.out))
            go_wp2_with fail
            first
              | exact HP1.out _ HEE.out (HGR.out.trans HGT.out)
              | (go_ret; exact HP1.out _ HEE.out (HGR.out.trans HGT.out))
  · have hq : ((xs.length : Int) != (p.folk.length : Int)) = true := by simp; omega
    go_wp2
    first
      | exact HP0.out _ HG.out
      | (go_ret; exact HP0.out _ HG.out)

end Go.Proofs.Ytcgnibfcjadnjaa
