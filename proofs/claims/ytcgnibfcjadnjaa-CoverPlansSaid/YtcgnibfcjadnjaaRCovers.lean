/- RCovers: the specification's covers, and its Slot; written by wip/tools/rcovers10.py. -/
import Derived.Test.YtcgnibfcjadnjaaRCopy
import Derived.Test.YtcgnibfcjadnjaaRReady
import Derived.Test.YtcgnibfcjadnjaaCheapM
namespace Go.Proofs.Ytcgnibfcjadnjaa
open Go.RowKit

/-- the first k sets that cover a slot -/
def coversTo (p : Pool) (s k : Nat) : List Nat := (List.range k).filter fun g => canB p s g && standsD p s g p.ill
theorem coversTo_succ (p : Pool) (s k : Nat) : coversTo p s (k + 1) = if canB p s k && standsD p s k p.ill then coversTo p s k ++ [k] else coversTo p s k := by
  unfold coversTo
  rw [List.range_succ, List.filter_append]
  cases h : (canB p s k && standsD p s k p.ill) with
  | false => simp [h]
  | true => simp [h]
theorem coversTo_len (p : Pool) (s k : Nat) : (coversTo p s k).length ≤ k := by
  have := List.length_filter_le (fun g => canB p s g && standsD p s g p.ill) (List.range k)
  rwa [List.length_range] at this

set_option maxRecDepth 100000 in
set_option maxHeartbeats 8000000 in
theorem rCovers_any (h : PoolH) (p : Pool) (G : Good p) (s : Nat) (hs : s < p.needs.length) (w : World) (hA : PoolAt w w.heap.size h p.i) :
    Calls Try.prog 64 #[poolN h p, .int .i64 (s : Nat)] w fun e w' => ∃ A cap, e = .returned (.slice A (coversD p s).length cap) ∧ IntT w' w.heap.size A (natsL (coversD p s)) ∧ Below w.heap.size w w' := by
  obtain ⟨i0, hi, hz0, hz1, hz2⟩ := info_parts Try.infoInt
  have HCB := Lib.hid (fun (g : Nat) (hg : g < 32) (w0 : World) (hw : Grow w w0) => (show Calls Try.prog 28 #[poolN h p, .int .i64 (s : Nat), .int .i64 (g : Nat)] w0 fun e w' => e = .returned (.bool (canB p s g)) ∧ Below w0.heap.size w0 w' from by
    have h1 := rCanBe_any h p G s (g : Int) w0 (hA.grow hw) (by have := G.n3; omega)
    rwa [canB_sub G s g (by omega)] at h1))
  have HCV := Lib.hid (fun (g : Nat) (hg : g < 32) (w0 : World) (hw : Grow w w0) => (show Calls Try.prog 24 #[poolN h p, .int .i64 (s : Nat), .int .i64 (g : Nat)] w0 fun e w' => e = .returned (.bool (standsD p s g p.ill)) ∧ Below w0.heap.size w0 w' from by
    rw [covered_stands G hs hg]
    exact rCovered_any h p G s g w0 (hA.grow hw) hs hg))
  have hf5 := G.f5
  have hp32 : 2 ^ p.folk.length ≤ 32 := Nat.pow_le_pow_right (n := 2) (by omega) hf5
  have hpI : ((2 : Int) ^ p.folk.length) = ((2 ^ p.folk.length : Nat) : Int) := (Int.natCast_pow 2 _).symm
  have HSU := Lib.hid (fun k => coversTo_succ p s k)
  have HLE := Lib.hid (fun k => coversTo_len p s k)
  have HEN : Hid (coversTo p s (2 ^ p.folk.length) = coversD p s) := Lib.hid rfl
  obtain ⟨m, hm⟩ : ∃ z, 2 ^ p.folk.length = z := ⟨_, rfl⟩
  rw [hm] at hp32 hpI HEN
  have hwr : IntKind.i64.wrap ((2 : Int) ^ p.folk.length) = (m : Int) := by rw [hpI]; exact IntWalk.i64_in _ (by omega)
  have hcv : IntKind.u64.wrap (p.folk.length : Int) = (p.folk.length : Int) := IntWalk.u64_in _ (by omega)
  have hl64 : p.folk.length ≤ 64 := by omega
  have hl0 : (0 : Int) ≤ (p.folk.length : Int) := by omega
  obtain ⟨PO, hPO⟩ : ∃ z : Ending → World → Prop, (fun e w' => ∃ A cap, e = Ending.returned (.slice A (coversD p s).length cap) ∧ IntT w' w.heap.size A (natsL (coversD p s)) ∧ Below w.heap.size w w') = z := ⟨_, rfl⟩
  have HPO : Hid (∀ w' A cap, IntT w' w.heap.size A (natsL (coversD p s)) → Below w.heap.size w w' → PO (Ending.returned (.slice A (coversD p s).length cap)) w') := Lib.hid (fun w' A cap h1 h2 => by rw [← hPO]; exact ⟨A, cap, rfl, h1, h2⟩)
  rw [hPO]
  rw [← HEN.out] at HPO
  clear hA G hpI hm hPO HEN
  obtain ⟨fa, fc, na, nc⟩ := h
  go_enter Try.func64, Try.ntmps64
  go_upto_region 1 with fail
  obtain ⟨W, hW, hg, hf, hsz⟩ := one_block w 25 (cellsN ⟨fa, fc, na, nc⟩ p)
  rw [hW]
  clear hW
  have HG := Lib.hid hg
  have HF := Lib.hid hf
  clear hf hg
  go_wp2_with fail
  go_loopw [5, 6] (fun ov iv wr => ∃ (k : Nat) (A : Option Addr) (cap : Nat), k ≤ m ∧ iv = .int .i64 (k : Nat) ∧ ov = .slice A (coversTo p s k).length cap ∧ Hid (wr.ownsRow W.heap.size 3 1 (.slice A (coversTo p s k).length cap) (coversTo p s k).length ((natsL (coversTo p s k)).map (Value.int .i64))) ∧ Hid (Grow W wr)) (fun _ iv _ => m - (intOf iv).toNat)
  case atStart => exact ⟨0, none, 0, Nat.zero_le _, rfl, rfl, Lib.hid ⟨rfl, .inl ⟨rfl, rfl⟩⟩, Lib.hid (Grow.refl _)⟩
  case round => as_aux_lemma =>
    obtain ⟨k, A, cap, hk, rfl, rfl, HOW, HGR⟩ := hrel
    rename World => wr
    have hcc := (HGR.out.block HF.out).cell
    by_cases hlt : k < m
    · have hd : decide ((k : Int) < (m : Int)) = true := decide_eq_true (by omega)
      have HC1 := Lib.hid (HCB.out k (by omega) wr (HG.out.trans HGR.out))
      have HC2 := Lib.hid (fun w0 hw => HCV.out k (by omega) w0 hw)
      have HS := Lib.hid (HSU.out k)
      have hle := HLE.out k
      have hle2 := HLE.out (k + 1)
      obtain ⟨c1, hc1⟩ : ∃ z, canB p s k = z := ⟨_, rfl⟩
      obtain ⟨c2, hc2⟩ : ∃ z, standsD p s k p.ill = z := ⟨_, rfl⟩
      rw [hc1] at HC1 HS
      rw [hc2] at HC2 HS
      obtain ⟨L, hL⟩ : ∃ z, coversTo p s k = z := ⟨_, rfl⟩
      obtain ⟨L2, hL2⟩ : ∃ z, coversTo p s (k + 1) = z := ⟨_, rfl⟩
      have HL2 := Lib.hid hL2
      rw [hL] at HOW HS hle ⊢
      rw [hL2] at HS hle2
      clear hc1 hc2 hL hL2
      go_wp2_with fail
      refine HC1.out.mono ?_
      rintro e w2 ⟨rfl, hb2⟩
      have HG2 : Hid (Grow wr w2) := hb2
      have hcc := ((HGR.out.trans HG2.out).block HF.out).cell
      clear hb2
      cases c1 with
      | false =>
        have HE : Hid (L2 = L) := Lib.hid (by rw [HS.out]; rfl)
        have HOW2 := Lib.hid (own_grow HOW.out HG2.out)
        go_wp2_with fail
        go_roundw
        case rel => exact ⟨k + 1, A, cap, by omega, by go_num, by rw [HL2.out, HE.out], by rw [HL2.out, HE.out]; exact HOW2, Lib.hid (HGR.out.trans HG2.out)⟩
        case measure => simp [intOf]; omega
      | true =>
        go_wp2_with fail
        refine (HC2.out w2 (HG.out.trans (HGR.out.trans HG2.out))).mono ?_
        rintro e w3 ⟨rfl, hb3⟩
        have HG3 : Hid (Grow wr w3) := Lib.hid (HG2.out.trans hb3)
        have HOW2 := Lib.hid (own_grow HOW.out HG3.out)
        clear hb3 hcc
        cases c2 with
        | false =>
          have HE : Hid (L2 = L) := Lib.hid (by rw [HS.out]; rfl)
          go_wp2_with fail
          go_roundw
          case rel => exact ⟨k + 1, A, cap, by omega, by go_num, by rw [HL2.out, HE.out], by rw [HL2.out, HE.out]; exact HOW2, Lib.hid (HGR.out.trans HG3.out)⟩
          case measure => simp [intOf]; omega
        | true =>
          have HE : Hid (L2 = L ++ [k]) := Lib.hid (by rw [HS.out]; rfl)
          obtain ⟨n, hn⟩ : ∃ z, L.length = z := ⟨_, rfl⟩
          have HN2 : Hid (L2.length = n + 1) := Lib.hid (by rw [HE.out, List.length_append, hn]; rfl)
          have HNN := Lib.hid hn
          obtain ⟨xs, hxs⟩ : ∃ z, (natsL L).map (Value.int .i64) = z := ⟨_, rfl⟩
          have HX2 : Hid ((natsL L2).map (Value.int .i64) = xs ++ [.int .i64 (k : Nat)]) := Lib.hid (by rw [HE.out, ← hxs]; simp [natsL])
          rw [hn, hxs] at HOW2
          rw [hn] at hle ⊢
          have HOA : Hid ((w3.alloc (.cells #[.int .i64 (k : Nat)] 3)).ownsRow W.heap.size 3 1 (.slice A n cap) n xs) := Lib.hid (own_grow HOW2.out (Grow.alloc _ _))
          clear hn hxs
          have hm32 : n ≤ 32 := by omega
          go_wp2_with (at_builtin; go_loud (refine wpList_append_own _ rfl _ _ 26 rfl W.heap.size 3 i0 (.int .i64 0) 1 8 Try.underlying26 hi hz0 hz1 hz2 rfl (by omega) _ n xs rfl ?d0 ⟨w3.heap.size, 0, none⟩ 1 1 [.int .i64 (k : Nat)] rfl rfl ?d1 ?d2 ?d3 ?d4 ?d5 ?_))
          case d0 => exact HOA.out
          case d1 => exact news_one (BlockIs.new _ _ _)
          case d2 => simp [Value.oneCell']
          case d3 => unfold maxLen; omega
          case d4 => omega
          case d5 => have h1 := HGR.out.size; have h2 := HG3.out.size; simp; omega
          intro v' wq hown hgr _
          obtain ⟨Aw, cw, rfl⟩ := own_form hown
          have HO3 : Hid (wq.ownsRow W.heap.size 3 1 (.slice Aw L2.length cw) L2.length ((natsL L2).map (Value.int .i64))) := Lib.hid (by rw [HN2.out, HX2.out]; exact hown)
          have HGQ : Hid (Grow W wq) := Lib.hid (below_grown ((HGR.out.trans HG3.out).trans (Grow.alloc _ _)) HOA.out hgr (by have h1 := HGR.out.size; have h2 := HG3.out.size; simp; omega))
          clear hown hgr HOA
          go_wp2_with fail
          go_roundw
          case rel => exact ⟨k + 1, Aw, cw, by omega, by go_num, by rw [HL2.out, HN2.out], by rw [HL2.out]; exact HO3, HGQ⟩
          case measure => simp [intOf]; omega
    · obtain rfl : k = m := by omega
      have hd : decide ((k : Int) < (k : Int)) = false := decide_eq_false (by omega)
      have HIT : Hid (IntT wr w.heap.size A (natsL (coversTo p s k))) := Lib.hid ((own_intT HOW.out (by rw [natsL_length])).mono (by have := HG.out.size; omega))
      go_wp2_with fail
      first
        | exact HPO.out _ _ _ HIT.out (HG.out.trans HGR.out)
        | (go_ret; exact HPO.out _ _ _ HIT.out (HG.out.trans HGR.out))

end Go.Proofs.Ytcgnibfcjadnjaa
