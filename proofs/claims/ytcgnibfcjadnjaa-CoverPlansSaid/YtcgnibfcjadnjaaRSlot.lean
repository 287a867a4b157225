/- RSlot: the specification's Slot; both sides' Slot of what is not valid; written by wip/tools/rslot10.py. -/
import Derived.Test.YtcgnibfcjadnjaaRCovers
namespace Go.Proofs.Ytcgnibfcjadnjaa
open Go.RowKit

theorem key_iff {p : Pool} {x m : Nat} (hx : popD x ≤ 5) (hm : popD m ≤ 5) : keyD p x < keyD p m ↔ costD p x < costD p m ∨ (costD p x = costD p m ∧ popD x < popD m) := by
  unfold keyD
  omega
theorem slot_covers {p : Pool} (G : Good p) {s : Nat} (hs : s < p.needs.length) : slotG p s = (match minL (keyD p) (coversD p s) with | none => 0 | some g => g) ∧ slotC p s = (match minL (keyD p) (coversD p s) with | none => 0 | some g => costD p g) ∧ slotE p s = (match minL (keyD p) (coversD p s) with | none => 3 | some _ => 0) := by
  unfold slotG slotC slotE
  rw [slot_same G hs]
  exact ⟨rfl, rfl, rfl⟩

set_option maxRecDepth 100000 in
set_option maxHeartbeats 8000000 in
theorem rSlot_good (h : PoolH) (p : Pool) (G : Good p) (hok : okPool p.i = true) (hs : Short p.i) (s : Nat) (w : World) (hA : PoolAt w w.heap.size h p.i) (hsn : s < p.needs.length) :
    Calls Try.prog 41 #[poolN h p, .int .i64 (s : Nat)] w fun e w' => e = .returned (.tuple #[.int .i64 (slotG p s : Nat), .int .i64 (slotC p s : Nat), .int .i64 (slotE p s)]) ∧ Below w.heap.size w w' := by
  have hn3 := G.n3
  have hf5 := G.f5
  have HCK := Lib.hid (fun (w0 : World) (hw : Grow w w0) => rCheck_any h p.i w0 (hA.grow hw) hs)
  rw [show poolErr p.i = 0 by unfold poolErr; rw [hok]; rfl, pool_i] at HCK
  have HIS := Lib.hid (fun (w0 : World) => rIsSlot_any h p G (s : Int) w0)
  rw [show inB (s : Int) 0 ((p.needs.length : Int) - 1) = true from inB_iff.2 ⟨by omega, by omega⟩] at HIS
  have HCV := Lib.hid (fun (w0 : World) (hw : Grow w w0) => rCovers_any h p G s hsn w0 (hA.grow hw))
  have HPY := Lib.hid (fun (g : Nat) (hg : g < 32) (w0 : World) (hw : Grow w w0) => rPay_any h p G g w0 (hA.grow hw) (by omega))
  have HC32 := Lib.hid (fun x (hx : x ∈ coversD p s) => sub_32 (able_32 G s) ((covers_mem G hsn).1 hx).1)
  have hcl : (coversD p s).length ≤ 32 := by
    have h1 := coversTo_len p s (2 ^ p.folk.length)
    have h2 : 2 ^ p.folk.length ≤ 2 ^ 5 := Nat.pow_le_pow_right (by omega) hf5
    have h3 : coversTo p s (2 ^ p.folk.length) = coversD p s := rfl
    rw [h3] at h1
    omega
  obtain ⟨PO, hPO⟩ : ∃ z : Ending → World → Prop, (fun e w' => e = Ending.returned (.tuple #[.int .i64 (slotG p s : Nat), .int .i64 (slotC p s : Nat), .int .i64 (slotE p s)]) ∧ Below w.heap.size w w') = z := ⟨_, rfl⟩
  have HPO : Hid (∀ w', Below w.heap.size w w' → PO (Ending.returned (.tuple #[.int .i64 (slotG p s : Nat), .int .i64 (slotC p s : Nat), .int .i64 (slotE p s)])) w') := Lib.hid (fun w' h1 => by rw [← hPO]; exact ⟨rfl, h1⟩)
  obtain ⟨sc1, sc2, sc3⟩ := slot_covers G hsn
  rw [sc1, sc2, sc3] at HPO
  rw [hPO]
  clear hok hA hs hPO sc1 sc2 sc3 G
  obtain ⟨L, hL⟩ : ∃ z, coversD p s = z := ⟨_, rfl⟩
  rw [hL] at HCV HC32 HPO hcl
  clear hL
  obtain ⟨fa, fc, na, nc⟩ := h
  go_enter Try.func41, Try.ntmps41
  go_upto_region 1 with fail
  obtain ⟨W, hW, hg, hf, hsz⟩ := one_block w 25 (cellsN ⟨fa, fc, na, nc⟩ p)
  rw [hW]
  clear hW
  have hcc := hf.cell
  have HG := Lib.hid hg
  have HF := Lib.hid hf
  clear hf hg
  go_wp2_with fail
  refine (HCK.out W HG.out).mono ?_
  rintro e w1 ⟨rfl, hb1⟩
  have HG1 : Hid (Grow W w1) := hb1
  have hcc := (HG1.out.block HF.out).cell
  clear hb1
  go_wp2_with fail
  refine (HIS.out w1).mono ?_
  rintro e w2 ⟨rfl, hb2⟩
  have HG2 : Hid (Grow W w2) := Lib.hid (HG1.out.trans hb2)
  have hcc := (HG2.out.block HF.out).cell
  clear hb2
  go_wp2_with fail
  refine (HCV.out w2 (HG.out.trans HG2.out)).mono ?_
  rintro e w4 ⟨A, cap, rfl, ht4, hb4⟩
  have HG4 : Hid (Grow w w4) := Lib.hid ((HG.out.trans HG2.out).trans hb4)
  have HI4 := Lib.hid ht4.ints
  have HF4 := Lib.hid ((HG2.out.trans hb4).block HF.out)
  clear ht4 hb4 hcc HG1 HG2 HG HF
  cases L with
  | nil =>
    go_wp2
    exact bodyPost_ret (results_456 Try.results41 _ _ _ _ _ rfl rfl rfl) rfl (HPO.out _ HG4.out)
  | cons l0 rest =>
    simp only [List.length_cons]
    have hl1 : (((rest.length : Int) + 1) == 0) = false := by simp; omega
    have h00 : (0 : Int) < ((rest.length : Int) + 1) := by omega
    have hrl : rest.length ≤ 31 := by simp at hcl; omega
    obtain ⟨ab, ao, l0', rfl, hab, hac, HX0⟩ := ints_nat HI4.out (k := 0) (by simp)
    obtain rfl : l0' = l0 := by have h := HX0.out; simpa using h.symm
    rw [Nat.add_zero] at hac
    have HIN := Lib.hid (fun (w0 : World) (hw : Grow w4 w0) (i x : Nat) (hx : (l0' :: rest)[i]? = some x) => (show w0.cell? ⟨ab, ao + i, none⟩ = some (.int .i64 (x : Nat)) by
      obtain ⟨_, _, x', e, _, h2, h3⟩ := ints_nat ((HI4.out.below hw).more hw.size) (lt_of_at hx)
      injection e with e
      injection e with e1 e2
      subst e1 e2
      rw [hx] at h3
      obtain rfl := Option.some.inj h3
      exact h2))
    have HLM := Lib.hid (fun i => (show leastTo (keyD p) ((l0' :: rest).take i) l0' ∈ l0' :: rest by
      rcases leastTo_mem (keyD p) ((l0' :: rest).take i) l0' with h | h
      · rw [h]; simp
      · exact List.mem_of_mem_take h))
    have HEND : Hid (leastTo (keyD p) ((l0' :: rest).take (rest.length + 1)) l0' = leastTo (keyD p) rest l0') := Lib.hid (by
      rw [List.take_of_length_le (by simp)]
      show leastTo (keyD p) rest (if keyD p l0' < keyD p l0' then l0' else l0') = _
      rw [if_neg (Nat.lt_irrefl _)])
    simp only [minL] at HPO
    rw [← HEND.out] at HPO
    rename Nat => l0
    clear hcl HX0
    go_upto_region 10 with fail
    clear hac h00 hl1
    go_loopw [8, 9] (fun mv iv wr => ∃ i : Nat, i ≤ rest.length + 1 ∧ iv = .int .i64 (i : Nat) ∧ mv = .int .i64 (leastTo (keyD p) ((l0 :: rest).take i) l0 : Nat) ∧ Hid (Grow w4 wr)) (fun _ iv _ => rest.length + 1 - (intOf iv).toNat)
    case atStart => exact ⟨0, Nat.zero_le _, rfl, rfl, Lib.hid (Grow.refl _)⟩
    case round => as_aux_lemma =>
      obtain ⟨i, hi, rfl, rfl, HG4R⟩ := hrel
      rename World => wr
      have HGR : Hid (Grow w wr) := Lib.hid (HG4.out.trans HG4R.out)
      have HFR := Lib.hid (HG4R.out.block HF4.out)
      have hmm := HLM.out i
      have hm32 := HC32.out _ hmm
      by_cases hlt : i < rest.length + 1
      · have hd : decide ((i : Int) < ((rest.length : Int) + 1)) = true := decide_eq_true (by omega)
        have hi0 : (0 : Int) ≤ (i : Int) := by omega
        have hi1 : (i : Int) < ((rest.length : Int) + 1) := by omega
        obtain ⟨x, hx⟩ : ∃ x, (l0 :: rest)[i]? = some x := ⟨_, List.getElem?_eq_getElem (by simpa using hlt)⟩
        have HXC := Lib.hid (HIN.out wr HG4R.out i x hx)
        have hx32 := HC32.out x (List.mem_of_getElem? hx)
        have HST : Hid (leastTo (keyD p) ((l0 :: rest).take (i + 1)) l0 = if keyD p x < keyD p (leastTo (keyD p) ((l0 :: rest).take i) l0) then x else leastTo (keyD p) ((l0 :: rest).take i) l0) := Lib.hid (by rw [take_snoc hx, leastTo_snoc])
        obtain ⟨m, hm⟩ : ∃ z, leastTo (keyD p) ((l0 :: rest).take i) l0 = z := ⟨_, rfl⟩
        rw [hm] at HST hm32 ⊢
        have HKY := Lib.hid (key_iff (p := p) (pop_le5 x hx32) (pop_le5 m hm32))
        have HPX := Lib.hid (HPY.out x hx32)
        have HPM := Lib.hid (HPY.out m hm32)
        have HSX := Lib.hid (fun w0 => rSize_any x w0 (by omega))
        have HSM := Lib.hid (fun w0 => rSize_any m w0 (by omega))
        obtain ⟨cx, hcx⟩ : ∃ z, costD p x = z := ⟨_, rfl⟩
        obtain ⟨cm, hcm⟩ : ∃ z, costD p m = z := ⟨_, rfl⟩
        obtain ⟨px, hpx⟩ : ∃ z, popD x = z := ⟨_, rfl⟩
        obtain ⟨pm, hpm⟩ : ∃ z, popD m = z := ⟨_, rfl⟩
        rw [hcx] at HPX HKY
        rw [hcm] at HPM HKY
        rw [hpx] at HSX HKY
        rw [hpm] at HSM HKY
        clear hx hm hcx hcm hpx hpm hmm
        go_upto_region 12 with fail
        clear hd
        refine wp_region_lit 9 [[], [], [], [(1, 35), (2, 36)], [(3, 37)], [(0, 34), (4, 38)], [], [], [(6, 40), (7, 41)]] Grow (fun qi v w' => match qi with
            | 0 => v = poolN ⟨fa, fc, na, nc⟩ p
            | 1 => v = .slice (some ⟨ab, ao, none⟩) (rest.length + 1) cap
            | 2 => v = .int .i64 (i : Nat)
            | 3 => v = .pointer (some ⟨ab, ao + i, none⟩)
            | 4 => v = .int .i64 (x : Nat)
            | 5 => v = .int .i64 (cx : Nat)
            | 6 => v = poolN ⟨fa, fc, na, nc⟩ p
            | 7 => v = .int .i64 (m : Nat)
            | 8 => v = .int .i64 (cm : Nat)
            | _ => False) (by kernel_rfl) (by kernel_rfl) (fun _ _ _ => Grow.trans) Grow.refl ?_ ?_ ?_
        · intro i v y y' h k
          match i, h with
          | 0, h | 1, h | 2, h | 3, h | 4, h | 5, h | 6, h | 7, h | 8, h => exact h
        · simp only [StepsLit, List.take_succ_cons, List.take_zero]
          refine ⟨?_, ?_, ?_, ?_, ?_, ?_, ?_, ?_, ?_, trivial⟩
          · intro w5 hR
            have hGw : Grow wr w5 := hR.of_drew
            have HGW := Lib.hid hGw
            have hcc := (HGW.out.block HFR.out).cell
            have hxc := HGW.out.cell HXC.out
            clear hR hGw
            simp only [depV]
            try go_simp
            all_goals first
              | (with_reducible exact Grow.refl _)
              | (with_reducible exact ⟨Grow.refl _, rfl⟩)
          · intro w5 hR
            have hGw : Grow wr w5 := hR.of_drew
            have HGW := Lib.hid hGw
            have hcc := (HGW.out.block HFR.out).cell
            have hxc := HGW.out.cell HXC.out
            clear hR hGw
            simp only [depV]
            try go_simp
            all_goals first
              | (with_reducible exact Grow.refl _)
              | (with_reducible exact ⟨Grow.refl _, rfl⟩)
          · intro w5 hR
            have hGw : Grow wr w5 := hR.of_drew
            have HGW := Lib.hid hGw
            have hcc := (HGW.out.block HFR.out).cell
            have hxc := HGW.out.cell HXC.out
            clear hR hGw
            simp only [depV]
            try go_simp
            all_goals first
              | (with_reducible exact Grow.refl _)
              | (with_reducible exact ⟨Grow.refl _, rfl⟩)
          · intro w5 hR
            have hGw : Grow wr w5 := hR.of_drew
            have HGW := Lib.hid hGw
            have hcc := (HGW.out.block HFR.out).cell
            have hxc := HGW.out.cell HXC.out
            clear hR hGw
            simp only [depV]
            rintro _ rfl
            rintro _ rfl
            try go_simp
            all_goals first
              | (with_reducible exact Grow.refl _)
              | (with_reducible exact ⟨Grow.refl _, rfl⟩)
          · intro w5 hR
            have hGw : Grow wr w5 := hR.of_drew
            have HGW := Lib.hid hGw
            have hcc := (HGW.out.block HFR.out).cell
            have hxc := HGW.out.cell HXC.out
            clear hR hGw
            simp only [depV]
            rintro _ rfl
            try go_simp
            all_goals first
              | (with_reducible exact Grow.refl _)
              | (with_reducible exact ⟨Grow.refl _, rfl⟩)
          · intro w5 hR
            have hGw : Grow wr w5 := hR.of_drew
            have HGW := Lib.hid hGw
            have hcc := (HGW.out.block HFR.out).cell
            have hxc := HGW.out.cell HXC.out
            clear hR hGw
            simp only [depV]
            rintro _ rfl
            rintro _ rfl
            try go_simp
            refine (HPX.out w5 (HGR.out.trans HGW.out)).mono ?_
            rintro e w6 ⟨rfl, hb6⟩
            exact ⟨hb6, rfl⟩
          · intro w5 hR
            have hGw : Grow wr w5 := hR.of_drew
            have HGW := Lib.hid hGw
            have hcc := (HGW.out.block HFR.out).cell
            have hxc := HGW.out.cell HXC.out
            clear hR hGw
            simp only [depV]
            try go_simp
            all_goals first
              | (with_reducible exact Grow.refl _)
              | (with_reducible exact ⟨Grow.refl _, rfl⟩)
          · intro w5 hR
            have hGw : Grow wr w5 := hR.of_drew
            have HGW := Lib.hid hGw
            have hcc := (HGW.out.block HFR.out).cell
            have hxc := HGW.out.cell HXC.out
            clear hR hGw
            simp only [depV]
            try go_simp
            all_goals first
              | (with_reducible exact Grow.refl _)
              | (with_reducible exact ⟨Grow.refl _, rfl⟩)
          · intro w5 hR
            have hGw : Grow wr w5 := hR.of_drew
            have HGW := Lib.hid hGw
            have hcc := (HGW.out.block HFR.out).cell
            have hxc := HGW.out.cell HXC.out
            clear hR hGw
            simp only [depV]
            rintro _ rfl
            rintro _ rfl
            try go_simp
            refine (HPM.out w5 (HGR.out.trans HGW.out)).mono ?_
            rintro e w6 ⟨rfl, hb6⟩
            exact ⟨hb6, rfl⟩
        · intro w5 hR
          have HG5 : Hid (Grow wr w5) := Lib.hid hR.of_drew
          clear hR
          simp only [finVC, List.take_succ_cons, List.take_zero, List.drop_succ_cons, List.drop_zero]
          rintro _ rfl
          rintro _ rfl
          rintro _ rfl
          rintro _ rfl
          rintro _ rfl
          rintro _ rfl
          rintro _ rfl
          rintro _ rfl
          rintro _ rfl
          simp only [Act.put, List.setIfInBounds_toArray, List.set_cons_succ, List.set_cons_zero]
          have HGX : Hid (Grow w4 w5) := Lib.hid (HG4R.out.trans HG5.out)
          have hxc := HG5.out.cell HXC.out
          by_cases h1 : cx < cm
          · have hd1 : decide (cx < cm) = true := decide_eq_true h1
            have HEQ : Hid (leastTo (keyD p) ((l0 :: rest).take (i + 1)) l0 = x) := Lib.hid (by rw [HST.out, if_pos (HKY.out.2 (.inl h1))])
            go_wp2_with fail
            go_roundw
            case rel => exact ⟨i + 1, by omega, by go_num, by rw [HEQ.out], HGX⟩
            case measure => simp [intOf]; omega
          · have hd1 : decide (cx < cm) = false := decide_eq_false h1
            by_cases h2 : cx = cm
            · have hd2 : ((cx : Int) == (cm : Int)) = true := by simp [h2]
              go_wp2_with fail
              refine (HSX.out _).mono ?_
              rintro e w6 ⟨rfl, rfl⟩
              go_wp2_with fail
              refine (HSM.out _).mono ?_
              rintro e w6 ⟨rfl, rfl⟩
              by_cases h3 : px < pm
              · have hd3 : decide (px < pm) = true := decide_eq_true h3
                have HEQ : Hid (leastTo (keyD p) ((l0 :: rest).take (i + 1)) l0 = x) := Lib.hid (by rw [HST.out, if_pos (HKY.out.2 (.inr ⟨h2, h3⟩))])
                go_wp2_with fail
                go_roundw
                case rel => exact ⟨i + 1, by omega, by go_num, by rw [HEQ.out], HGX⟩
                case measure => simp [intOf]; omega
              · have hd3 : decide (px < pm) = false := decide_eq_false h3
                have HEQ : Hid (leastTo (keyD p) ((l0 :: rest).take (i + 1)) l0 = m) := Lib.hid (by rw [HST.out, if_neg (fun q => by rcases HKY.out.1 q with q | ⟨_, q⟩ <;> omega)])
                go_wp2_with fail
                go_roundw
                case rel => exact ⟨i + 1, by omega, by go_num, by rw [HEQ.out], HGX⟩
                case measure => simp [intOf]; omega
            · have hd2 : ((cx : Int) == (cm : Int)) = false := by simp; omega
              have HEQ : Hid (leastTo (keyD p) ((l0 :: rest).take (i + 1)) l0 = m) := Lib.hid (by rw [HST.out, if_neg (fun q => by rcases HKY.out.1 q with q | ⟨q, _⟩ <;> omega)])
              go_wp2_with fail
              go_roundw
              case rel => exact ⟨i + 1, by omega, by go_num, by rw [HEQ.out], HGX⟩
              case measure => simp [intOf]; omega
      · obtain rfl : i = rest.length + 1 := by omega
        have hd : decide (((rest.length + 1 : Nat) : Int) < ((rest.length : Int) + 1)) = false := decide_eq_false (by omega)
        have HPM := Lib.hid (HPY.out _ hm32)
        have hcc := HFR.out.cell
        obtain ⟨m, hm⟩ : ∃ z, leastTo (keyD p) ((l0 :: rest).take (rest.length + 1)) l0 = z := ⟨_, rfl⟩
        rw [hm] at HPM HPO ⊢
        clear hm hmm hm32
        go_wp2_with fail
        refine (HPM.out wr HGR.out).mono ?_
        rintro e w5 ⟨rfl, hb5⟩
        have HG5 : Hid (Grow w w5) := Lib.hid (HGR.out.trans hb5)
        clear hb5 hcc
        go_wp2
        exact bodyPost_ret (results_456 Try.results41 _ _ _ _ _ rfl rfl rfl) rfl (HPO.out _ HG5.out)

end Go.Proofs.Ytcgnibfcjadnjaa
