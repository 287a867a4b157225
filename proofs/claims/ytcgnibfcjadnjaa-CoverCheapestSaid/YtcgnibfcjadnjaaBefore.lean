/- Before: which of two rows of sets is lower at the first place at which they differ; written by wip/tools/before10.py. -/
import Derived.Test.YtcgnibfcjadnjaaCheapM
namespace Go.Proofs.Ytcgnibfcjadnjaa
open Go.RowKit

set_option maxRecDepth 100000 in
set_option maxHeartbeats 4000000 in
theorem before_any (A B : Option Addr) (ca cb : Nat) (gs l : List Nat) (w : World) (hA : Ints w w.heap.size A (natsL gs)) (hB : Ints w w.heap.size B (natsL l)) (hl : gs.length ≤ l.length) (hk : l.length ≤ 1000) :
    Calls Try.prog 31 #[.slice A gs.length ca, .slice B l.length cb] w fun e w' => ∃ b, e = .returned (.bool b) ∧ (b = true → lexL gs l) ∧ Below w.heap.size w w' := by
  have HA := Lib.hid (fun (w0 : World) (hw : Grow w w0) => (hA.below hw).more hw.size)
  have HB := Lib.hid (fun (w0 : World) (hw : Grow w w0) => (hB.below hw).more hw.size)
  obtain ⟨PO, hPO⟩ : ∃ z : Ending → World → Prop, (fun e w' => ∃ b, e = Ending.returned (.bool b) ∧ (b = true → lexL gs l) ∧ Below w.heap.size w w') = z := ⟨_, rfl⟩
  have HPO : Hid (∀ w' b, (b = true → lexL gs l) → Below w.heap.size w w' → PO (Ending.returned (.bool b)) w') := Lib.hid (fun w' b h1 h2 => by rw [← hPO]; exact ⟨b, rfl, h1, h2⟩)
  rw [hPO]
  clear hA hB hPO
  go_enter Try.func31, Try.ntmps31
  go_upto_region 2 with fail
  go_loopw [5] (fun iv wr => ∃ k : Nat, k ≤ gs.length ∧ iv = .int .i64 (k : Nat) ∧ Hid (gs.take k = l.take k) ∧ Grow w wr) (fun iv _ => gs.length - (intOf iv).toNat)
  case atStart => exact ⟨0, Nat.zero_le _, rfl, Lib.hid rfl, Grow.refl _⟩
  case round =>
    obtain ⟨k, hkl, rfl, HTK, hg⟩ := hrel
    rename World => wr
    have HG : Hid (Grow w wr) := hg
    clear hg
    by_cases hlt : k < gs.length
    · have hd : decide ((k : Int) < (gs.length : Int)) = true := decide_eq_true (by omega)
      have hk0 : (0 : Int) ≤ (k : Int) := by omega
      have hk1 : (k : Int) < (gs.length : Int) := by omega
      have hk2 : (k : Int) < (l.length : Int) := by omega
      obtain ⟨ab, ao, x, rfl, _, hxc, HX⟩ := ints_nat (HA.out wr HG.out) hlt
      obtain ⟨bb, bo, y, rfl, _, hyc, HY⟩ := ints_nat (HB.out wr HG.out) (k := k) (by omega)
      have HXC := Lib.hid hxc
      have HYC := Lib.hid hyc
      obtain ⟨c, hc⟩ : ∃ z, ((x : Int) != (y : Int)) = z := ⟨_, rfl⟩
      have HC := Lib.hid hc
      obtain ⟨c2, hc2⟩ : ∃ z, decide (x < y) = z := ⟨_, rfl⟩
      have HC2 := Lib.hid hc2
      have HLX : Hid (c2 = true → lexL gs l) := Lib.hid (fun h => lex_at HTK.out HX.out HY.out (by rw [← hc2] at h; exact of_decide_eq_true h))
      have HEQ : Hid (((x : Int) != (y : Int)) = false → gs.take (k + 1) = l.take (k + 1)) := Lib.hid (fun h => by
        have e : x = y := by have e2 : (x : Int) = (y : Int) := (by simpa using h); omega
        rw [take_snoc HX.out, take_snoc HY.out, HTK.out, e])
      clear hxc hyc hc hc2
      go_upto_region 4 with fail
      clear hd
      refine wp_region_lit 9 [[], [], [(0, 12), (1, 13)], [(2, 14)], [], [], [(4, 16), (5, 17)], [(6, 18)], [(3, 15), (7, 19)]] Grow (fun qi v w' => match qi with
          | 0 => v = .slice (some ⟨ab, ao, none⟩) gs.length ca
          | 1 => v = .int .i64 (k : Nat)
          | 2 => v = .pointer (some ⟨ab, ao + k, none⟩)
          | 3 => v = .int .i64 (x : Nat)
          | 4 => v = .slice (some ⟨bb, bo, none⟩) l.length cb
          | 5 => v = .int .i64 (k : Nat)
          | 6 => v = .pointer (some ⟨bb, bo + k, none⟩)
          | 7 => v = .int .i64 (y : Nat)
          | 8 => v = .bool c
          | _ => False) (by kernel_rfl) (by kernel_rfl) (fun _ _ _ => Grow.trans) Grow.refl ?_ ?_ ?_
      · intro i v y y' h k
        match i, h with
        | 0, h | 1, h | 2, h | 3, h | 4, h | 5, h | 6, h | 7, h | 8, h => exact h
      · simp only [StepsLit, List.take_succ_cons, List.take_zero]
        refine ⟨?_, ?_, ?_, ?_, ?_, ?_, ?_, ?_, ?_, trivial⟩
        · intro w5 hR
          have hGw : Grow wr w5 := hR.of_drew
          have HGW := Lib.hid hGw
          have hxc := HGW.out.cell HXC.out
          have hyc := HGW.out.cell HYC.out
          clear hR hGw
          simp only [depV]
          try go_simp
          all_goals first
            | (with_reducible exact Grow.refl _)
            | (with_reducible exact ⟨Grow.refl _, rfl⟩)
        · intro w5 hR
          have hGw : Grow wr w5 := hR.of_drew
          have HGW := Lib.hid hGw
          have hxc := HGW.out.cell HXC.out
          have hyc := HGW.out.cell HYC.out
          clear hR hGw
          simp only [depV]
          try go_simp
          all_goals first
            | (with_reducible exact Grow.refl _)
            | (with_reducible exact ⟨Grow.refl _, rfl⟩)
        · intro w5 hR
          have hGw : Grow wr w5 := hR.of_drew
          have HGW := Lib.hid hGw
          have hxc := HGW.out.cell HXC.out
          have hyc := HGW.out.cell HYC.out
          clear hR hGw
          simp only [depV]
          rintro _ rfl
          rintro _ rfl
          try go_simp
          all_goals first
            | (with_reducible exact Grow.refl _)
            | (with_reducible exact ⟨Grow.refl _, rfl⟩)
        · intro w5 hR
          have hGw : Grow wr w5 := hR.of_drew
          have HGW := Lib.hid hGw
          have hxc := HGW.out.cell HXC.out
          have hyc := HGW.out.cell HYC.out
          clear hR hGw
          simp only [depV]
          rintro _ rfl
          try go_simp
          all_goals first
            | (with_reducible exact Grow.refl _)
            | (with_reducible exact ⟨Grow.refl _, rfl⟩)
        · intro w5 hR
          have hGw : Grow wr w5 := hR.of_drew
          have HGW := Lib.hid hGw
          have hxc := HGW.out.cell HXC.out
          have hyc := HGW.out.cell HYC.out
          clear hR hGw
          simp only [depV]
          try go_simp
          all_goals first
            | (with_reducible exact Grow.refl _)
            | (with_reducible exact ⟨Grow.refl _, rfl⟩)
        · intro w5 hR
          have hGw : Grow wr w5 := hR.of_drew
          have HGW := Lib.hid hGw
          have hxc := HGW.out.cell HXC.out
          have hyc := HGW.out.cell HYC.out
          clear hR hGw
          simp only [depV]
          try go_simp
          all_goals first
            | (with_reducible exact Grow.refl _)
            | (with_reducible exact ⟨Grow.refl _, rfl⟩)
        · intro w5 hR
          have hGw : Grow wr w5 := hR.of_drew
          have HGW := Lib.hid hGw
          have hxc := HGW.out.cell HXC.out
          have hyc := HGW.out.cell HYC.out
          clear hR hGw
          simp only [depV]
          rintro _ rfl
          rintro _ rfl
          try go_simp
          all_goals first
            | (with_reducible exact Grow.refl _)
            | (with_reducible exact ⟨Grow.refl _, rfl⟩)
        · intro w5 hR
          have hGw : Grow wr w5 := hR.of_drew
          have HGW := Lib.hid hGw
          have hxc := HGW.out.cell HXC.out
          have hyc := HGW.out.cell HYC.out
          clear hR hGw
          simp only [depV]
          rintro _ rfl
          try go_simp
          all_goals first
            | (with_reducible exact Grow.refl _)
            | (with_reducible exact ⟨Grow.refl _, rfl⟩)
        · intro w5 hR
          have hGw : Grow wr w5 := hR.of_drew
          have HGW := Lib.hid hGw
          have hxc := HGW.out.cell HXC.out
          have hyc := HGW.out.cell HYC.out
          clear hR hGw
          simp only [depV]
          rintro _ rfl
          rintro _ rfl
          try go_simp
          exact ⟨Grow.refl _, by rw [← HC.out]⟩
      · intro w5 hR
        have HG5 : Hid (Grow wr w5) := Lib.hid hR.of_drew
        clear hR
        simp only [finVC, List.take_succ_cons, List.take_zero, List.drop_succ_cons, List.drop_zero]
        rintro _ rfl
        rintro _ rfl
        rintro _ rfl
        rintro _ rfl
        rintro _ rfl
        rintro _ rfl
        rintro _ rfl
        rintro _ rfl
        rintro _ rfl
        simp only [Act.put, List.setIfInBounds_toArray, List.set_cons_succ, List.set_cons_zero]
        cases c with
        | false =>
          have HNX : Hid (gs.take (k + 1) = l.take (k + 1)) := Lib.hid (HEQ.out HC.out)
          go_wp2_with fail
          go_roundw
          case rel => exact ⟨k + 1, by omega, by go_num, HNX, HG.out.trans HG5.out⟩
          case measure => simp [intOf]; omega
        | true =>
          have HX5 := Lib.hid (HG5.out.cell HXC.out)
          have HY5 := Lib.hid (HG5.out.cell HYC.out)
          rename World => w6
          have HG6 : Hid (Grow wr w6) := HG5
          clear HG5
          go_upto_region 5 with fail
          refine wp_region_lit 9 [[], [], [(0, 21), (1, 22)], [(2, 23)], [], [], [(4, 25), (5, 26)], [(6, 27)], [(3, 24), (7, 28)]] Grow (fun qi v w' => match qi with
              | 0 => v = .slice (some ⟨ab, ao, none⟩) gs.length ca
              | 1 => v = .int .i64 (k : Nat)
              | 2 => v = .pointer (some ⟨ab, ao + k, none⟩)
              | 3 => v = .int .i64 (x : Nat)
              | 4 => v = .slice (some ⟨bb, bo, none⟩) l.length cb
              | 5 => v = .int .i64 (k : Nat)
              | 6 => v = .pointer (some ⟨bb, bo + k, none⟩)
              | 7 => v = .int .i64 (y : Nat)
              | 8 => v = .bool c2
              | _ => False) (by kernel_rfl) (by kernel_rfl) (fun _ _ _ => Grow.trans) Grow.refl ?_ ?_ ?_
          · intro i v y y' h k
            match i, h with
            | 0, h | 1, h | 2, h | 3, h | 4, h | 5, h | 6, h | 7, h | 8, h => exact h
          · simp only [StepsLit, List.take_succ_cons, List.take_zero]
            refine ⟨?_, ?_, ?_, ?_, ?_, ?_, ?_, ?_, ?_, trivial⟩
            · intro w5 hR
              have hGw : Grow w6 w5 := hR.of_drew
              have HGW := Lib.hid hGw
              have hxc := HGW.out.cell HX5.out
              have hyc := HGW.out.cell HY5.out
              clear hR hGw
              simp only [depV]
              try go_simp
              all_goals first
                | (with_reducible exact Grow.refl _)
                | (with_reducible exact ⟨Grow.refl _, rfl⟩)
            · intro w5 hR
              have hGw : Grow w6 w5 := hR.of_drew
              have HGW := Lib.hid hGw
              have hxc := HGW.out.cell HX5.out
              have hyc := HGW.out.cell HY5.out
              clear hR hGw
              simp only [depV]
              try go_simp
              all_goals first
                | (with_reducible exact Grow.refl _)
                | (with_reducible exact ⟨Grow.refl _, rfl⟩)
            · intro w5 hR
              have hGw : Grow w6 w5 := hR.of_drew
              have HGW := Lib.hid hGw
              have hxc := HGW.out.cell HX5.out
              have hyc := HGW.out.cell HY5.out
              clear hR hGw
              simp only [depV]
              rintro _ rfl
              rintro _ rfl
              try go_simp
              all_goals first
                | (with_reducible exact Grow.refl _)
                | (with_reducible exact ⟨Grow.refl _, rfl⟩)
            · intro w5 hR
              have hGw : Grow w6 w5 := hR.of_drew
              have HGW := Lib.hid hGw
              have hxc := HGW.out.cell HX5.out
              have hyc := HGW.out.cell HY5.out
              clear hR hGw
              simp only [depV]
              rintro _ rfl
              try go_simp
              all_goals first
                | (with_reducible exact Grow.refl _)
                | (with_reducible exact ⟨Grow.refl _, rfl⟩)
            · intro w5 hR
              have hGw : Grow w6 w5 := hR.of_drew
              have HGW := Lib.hid hGw
              have hxc := HGW.out.cell HX5.out
              have hyc := HGW.out.cell HY5.out
              clear hR hGw
              simp only [depV]
              try go_simp
              all_goals first
                | (with_reducible exact Grow.refl _)
                | (with_reducible exact ⟨Grow.refl _, rfl⟩)
            · intro w5 hR
              have hGw : Grow w6 w5 := hR.of_drew
              have HGW := Lib.hid hGw
              have hxc := HGW.out.cell HX5.out
              have hyc := HGW.out.cell HY5.out
              clear hR hGw
              simp only [depV]
              try go_simp
              all_goals first
                | (with_reducible exact Grow.refl _)
                | (with_reducible exact ⟨Grow.refl _, rfl⟩)
            · intro w5 hR
              have hGw : Grow w6 w5 := hR.of_drew
              have HGW := Lib.hid hGw
              have hxc := HGW.out.cell HX5.out
              have hyc := HGW.out.cell HY5.out
              clear hR hGw
              simp only [depV]
              rintro _ rfl
              rintro _ rfl
              try go_simp
              all_goals first
                | (with_reducible exact Grow.refl _)
                | (with_reducible exact ⟨Grow.refl _, rfl⟩)
            · intro w5 hR
              have hGw : Grow w6 w5 := hR.of_drew
              have HGW := Lib.hid hGw
              have hxc := HGW.out.cell HX5.out
              have hyc := HGW.out.cell HY5.out
              clear hR hGw
              simp only [depV]
              rintro _ rfl
              try go_simp
              all_goals first
                | (with_reducible exact Grow.refl _)
                | (with_reducible exact ⟨Grow.refl _, rfl⟩)
            · intro w5 hR
              have hGw : Grow w6 w5 := hR.of_drew
              have HGW := Lib.hid hGw
              have hxc := HGW.out.cell HX5.out
              have hyc := HGW.out.cell HY5.out
              clear hR hGw
              simp only [depV]
              rintro _ rfl
              rintro _ rfl
              try go_simp
              exact ⟨Grow.refl _, by rw [← HC2.out]⟩
          · intro w5 hR
            have HG5 : Hid (Grow w6 w5) := Lib.hid hR.of_drew
            clear hR
            simp only [finVC, List.take_succ_cons, List.take_zero, List.drop_succ_cons, List.drop_zero]
            rintro _ rfl
            rintro _ rfl
            rintro _ rfl
            rintro _ rfl
            rintro _ rfl
            rintro _ rfl
            rintro _ rfl
            rintro _ rfl
            rintro _ rfl
            simp only [Act.put, List.setIfInBounds_toArray, List.set_cons_succ, List.set_cons_zero]
            go_wp2
            first
              | exact HPO.out _ _ HLX.out ((HG.out.trans HG6.out).trans HG5.out)
              | (go_ret; exact HPO.out _ _ HLX.out ((HG.out.trans HG6.out).trans HG5.out))
    · obtain rfl : k = gs.length := by omega
      have hd : decide ((gs.length : Int) < (gs.length : Int)) = false := decide_eq_false (by omega)
      go_wp2_with fail
      first
        | exact HPO.out _ false (fun h => (by cases h)) HG.out
        | (go_ret; exact HPO.out _ false (fun h => (by cases h)) HG.out)

end Go.Proofs.Ytcgnibfcjadnjaa
