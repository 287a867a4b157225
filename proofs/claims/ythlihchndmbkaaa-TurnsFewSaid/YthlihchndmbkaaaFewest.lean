/- Fewest: turns.task.fewest. -/
import Derived.Test.YthlihchndmbkaaaChoice
import Derived.Test.YthlihchndmbkaaaWith
import Derived.Test.YthlihchndmbkaaaElems
import Derived.Test.YthlihchndmbkaaaRPlan
namespace Go.Proofs.Ythlihchndmbkaaa
open Go.RowKit

def FewV (w : World) (bb : Nat) : Option (List Nat × Int) → Prop
  | none => BlockIs w bb 100 #[.slice none 0 0, .int .i64 0]
  | some (l, m) => ∃ b c, BlockIs w bb 100 #[.slice (some ⟨b, 0, none⟩) l.length c, .int .i64 m] ∧ IntsT w (bb + 1) (some ⟨b, 0, none⟩) (natsL l) ∧ l.length ≤ 3
theorem FewV.grow {w w' : World} {bb : Nat} {o : Option (List Nat × Int)} (h : FewV w bb o) (g : Grow w w') : FewV w' bb o := by
  match o, h with
  | none, h => exact g.block h
  | some (l, m), ⟨b, c, h1, h2, h3⟩ => exact ⟨b, c, g.block h1, h2.grow g, h3⟩
/-- what fewest answers -/
def FewR (w : World) (v : Value) : Option (List Nat × Int) → Prop
  | none => v = .slice none 0 0
  | some (l, _) => ∃ b c, v = .slice (some ⟨b, 0, none⟩) l.length c ∧ IntsT w 0 (some ⟨b, 0, none⟩) (natsL l)
theorem IntsT.apart {w : World} {lo : Nat} {A : Option Addr} {xs : List Int} (h : IntsT w lo A xs) {b : Nat} {t : TypeId} {cs : Array Value} (hb : BlockIs w b t cs) (ht : t ≠ 3) (j : Nat) (v : Value) : IntsT (w.setCell ⟨b, j, none⟩ v) lo A xs := by
  rcases h with h | ⟨g, cs', e, h1, h2, h3⟩
  · exact .inl h
  · refine .inr ⟨g, cs', e, h1, h2.far (p := ⟨b, j, none⟩) (fun q => ?_) v, h3⟩
    have q' : g = b := q
    subst q'
    have := hb.symm.trans h2
    simp at this
    exact ht this.2
theorem pow_cases {nn : Nat} (h1 : 1 ≤ nn) (h3 : nn ≤ 3) : 2 ^ nn ≤ 8 := Nat.pow_le_pow_right (n := 2) (by omega) h3

set_option maxRecDepth 100000 in
set_option maxHeartbeats 16000000 in
theorem fewest_any (t : TaskR) (most : Int) (n : Nat) (w : World) (ht : TaskAt w n t) (hn : n ≤ w.heap.size) (hk : okTask t.d = true) :
    Calls Try.prog 51 #[taskV t, .int .i64 most] w fun e w' => ∃ v, e = .returned v ∧ FewR w' v (fewD t.d most) ∧ Below w.heap.size w w' := by
  have HT := Lib.hid (ht.more hn)
  have hn1 := (okTask_parts hk).1.1
  have hn3 := (okTask_parts hk).1.2
  have HOK := Lib.hid hk
  have HFD : Hid (fewD t.d most = fewTo t.d most (2 ^ t.d.hands.length - 1)) := rfl
  generalize fewD t.d most = fd at HFD ⊢
  clear ht hn hk
  obtain ⟨nn, hnn⟩ : ∃ q, t.d.hands.length = q := ⟨_, rfl⟩
  have HNN := Lib.hid hnn
  rw [hnn] at hn3 hn1 HFD
  clear hnn
  have hp8 := pow_cases hn1 hn3
  obtain ⟨pw, hpw⟩ : ∃ q, 2 ^ nn = q := ⟨_, rfl⟩
  have HPW := Lib.hid hpw
  rw [hpw] at hp8 HFD
  have hpw1 : 1 ≤ pw := by rw [← hpw]; exact Nat.pow_pos (by omega)
  have HWR : Hid (wrap64 ((2 : Int) ^ nn) = (pw : Int)) := Lib.hid (by
    rw [← hpw]
    have h3 : nn = 1 ∨ nn = 2 ∨ nn = 3 := by omega
    rcases h3 with rfl | rfl | rfl <;> decide +kernel)
  clear hpw
  go_enter Try.func51, Try.ntmps51
  go_upto_region 2 with fail
  obtain ⟨W, hW, hg, hf, hb0, hsz⟩ := two_blocks w 67 100 (cellsT t) #[.slice none 0 0, .int .i64 0]
  rw [hW]
  clear hW
  obtain ⟨bb, ebb⟩ : ∃ q, w.heap.size + 1 = q := ⟨_, rfl⟩
  rw [ebb] at hb0 hsz ⊢
  have hwb : w.heap.size < bb := by omega
  have HG := Lib.hid hg
  have HF := Lib.hid hf
  have HB0 := Lib.hid hb0
  have HFB : Hid (∀ w0, Below bb W w0 → BlockIs w0 w.heap.size 67 (cellsT t)) := Lib.hid (fun w0 hw => hf.below hw hwb)
  have HGB : Hid (∀ w0, Below bb W w0 → Grow w w0) := Lib.hid (fun w0 hw => hg.trans' (Below.mono hw (by omega)))
  clear hg hf hb0 ebb
  go_wp2_with fail
  go_loopw [6] (fun sv wr => ∃ s : Nat, sv = .int .i64 ((s + 1 : Nat) : Int) ∧ s + 1 ≤ pw ∧ FewV wr bb (fewTo t.d most s) ∧ Below bb W wr) (fun v _ => pw - (intOf v).toNat)
  case atStart => exact ⟨0, rfl, hpw1, HB0.out, Below.refl _ _⟩
  case round =>
    obtain ⟨s, rfl, hs, hfew, hbel⟩ := hrel
    rename World => wr
    have HFE := Lib.hid hfew
    have HBE := Lib.hid hbel
    clear hfew hbel
    have htb := (HFB.out wr HBE.out).cell
    have htc0 : wr.cell? ⟨w.heap.size, 0, none⟩ = some (.slice t.A nn t.ca) := by rw [← HNN.out]; exact (HFB.out wr HBE.out).cell 0
    clear htb
    obtain ⟨s1, hs1⟩ : ∃ q, s + 1 = q := ⟨_, rfl⟩
    have HS1 := Lib.hid hs1
    rw [hs1] at hs ⊢
    clear hs1
    by_cases hlt : s1 < pw
    · have hd1 : decide ((s1 : Int) < wrap64 ((2 : Int) ^ nn)) = true := decide_eq_true (by rw [HWR.out]; omega)
      have HLT := Lib.hid hlt
      have hs8 : s1 < 8 := by omega
      have hzz : bb < wr.heap.size := Nat.lt_of_lt_of_le hsz HBE.out.size
      have hel3 := elems_len s1
      have helh : ∀ k ∈ elemsD s1, k < t.d.hands.length := fun k hkk => by
        rw [HNN.out]
        exact elems_hand hn3 (by rw [HPW.out]; exact hlt) hkk
      have hne := elems_ne (s := s1) (by have := HS1.out; omega) hs8
      have HCA : Hid (candD t.d most s1 = match planD (withT t.d (elemsD s1)) with | some (_, m) => if m ≤ most then some (elemsD s1, m) else none | none => none) := rfl
      have HFS : Hid (fewTo t.d most s1 = takeD (fewTo t.d most s) (candD t.d most s1)) := Lib.hid (by rw [← HS1.out]; rfl)
      have hwok := with_ok HOK.out helh hne hel3
      have HON := Lib.hid (fun (A : Option Addr) (c : Nat) (w0 : World) (hw : Grow w w0) (hi : Ints w0 w0.heap.size A (natsL (elemsD s1))) => only_any t (elemsD s1) A c w0.heap.size w0 ((HT.out.below hw).more hw.size) hi (Nat.le_refl _) HOK.out helh hel3)
      have HPL := Lib.hid (fun (A : Option Addr) (ca : Nat) (w0 : World) (hu : TaskAt w0 w0.heap.size ⟨withT t.d (elemsD s1), A, ca, t.B, t.cb⟩) => plan_any ⟨withT t.d (elemsD s1), A, ca, t.B, t.cb⟩ w0.heap.size w0 hu (Nat.le_refl _) hwok)
      have HEL := Lib.hid (fun w0 => elements_any s1 w0 hs8)
      have HPA : Hid (∀ (w0 : World), Grow w w0 → Ints w0 w0.heap.size t.B t.d.parts) := Lib.hid (fun w0 hw => (HT.out.2.below hw).more hw.size)
      clear hwok helh hlt
      obtain ⟨el, hel⟩ : ∃ q, elemsD s1 = q := ⟨_, rfl⟩
      rw [hel] at HCA HON HPL HEL hel3 hne
      clear hel
      have hep : 0 < el.length := List.length_pos_iff.2 hne
      obtain ⟨en, hen⟩ : ∃ q, el.length = q := ⟨_, rfl⟩
      have HEN := Lib.hid hen
      rw [hen] at HON HEL hel3 hep
      clear hen hne
      go_wp2_with fail
      refine (HEL.out _).mono ?_
      rintro e w5 ⟨Ae, ce, rfl, hown, hb5⟩
      have HG5 : Hid (Grow wr w5) := hb5
      have HIE := Lib.hid (own_intsT' (lo := bb + 1) hown (by rw [List.length_map]; exact HEN.out.symm) hep (by omega))
      obtain ⟨be, hbe⟩ := IntsT.addr HIE.out (by rw [List.length_map, HEN.out]; exact hep)
      subst hbe
      clear hown hb5
      go_upto_region 6 with fail
      obtain ⟨W6, hW6, hg6, hx6, hsz6⟩ := one_block w5 100 #[.slice (some ⟨be, 0, none⟩) en ce, .int .i64 0]
      rw [hW6]
      clear hW6
      obtain ⟨bx, ebx⟩ : ∃ q, w5.heap.size = q := ⟨_, rfl⟩
      rw [ebx] at hx6 hsz6 ⊢
      have HG6 : Hid (Grow wr W6) := Lib.hid (HG5.out.trans hg6)
      have HIE6 := Lib.hid (HIE.out.grow hg6)
      have HX6 := Lib.hid hx6
      have HXZ : Hid (wr.heap.size ≤ bx) := Lib.hid (by rw [← ebx]; exact HG5.out.size)
      clear hg6 hx6 ebx HIE htc0
      have htb := (HG6.out.block (HFB.out wr HBE.out)).cell
      have hxc := HX6.out.cell
      go_wp2_with fail
      refine (HON.out _ _ _ (HGB.out _ (HBE.out.trans (Below.mono HG6.out (by omega)))) HIE6.out.ints).mono ?_
      rintro e w7 ⟨Ah, ch, rfl, hh7, hb7⟩
      have HG7 : Hid (Grow W6 w7) := hb7
      have HU7 : Hid (TaskAt w7 w7.heap.size ⟨withT t.d el, Ah, ch, t.B, t.cb⟩) := Lib.hid ⟨hh7.at_, HPA.out w7 (HGB.out _ (HBE.out.trans (Below.mono (HG6.out.trans hb7) (by omega))))⟩
      clear htb hxc hh7 hb7
      go_wp2_with fail
      refine (HPL.out _ _ _ HU7.out).mono ?_
      rintro e w8 ⟨v8, m8, rfl, hpv, hb8⟩
      have HG8 : Hid (Grow W6 w8) := HG7.out.trans hb8
      have hx8 := HG8.out.block HX6.out
      have HX8 := Lib.hid hx8
      have HIE8 := Lib.hid (HIE6.out.grow HG8.out)
      clear hb8 HU7 HG7
      unfold PlanV at hpv
      try dsimp only at hpv
      cases hpd : planD (withT t.d el) with
      | none =>
        rw [hpd] at hpv
        obtain ⟨rfl, u, rfl⟩ := hpv
        have HCN : Hid (fewTo t.d most s1 = fewTo t.d most s) := Lib.hid (by rw [HFS.out, HCA.out, hpd]; rfl)
        have hnil := none_eql_nil
        have hxc := hx8.cell
        have hxf := hx8.frozen
        clear hpd hx8
        go_wp2
        go_roundw
        case rel => exact ⟨s1, by go_num, HLT.out, by rw [HCN.out]; exact HFE.out.grow ((HG6.out.trans HG8.out).setC (p := ⟨bx, 1, none⟩) HXZ.out _), HBE.out.trans (Below.mono ((HG6.out.trans HG8.out).setC (p := ⟨bx, 1, none⟩) HXZ.out _) (by omega))⟩
        case measure => have := HLT.out; have := HS1.out; simp [intOf]; omega
      | some p =>
        obtain ⟨xs, k⟩ := p
        rw [hpd] at hpv
        obtain ⟨bp, op, cp, rfl, _, rfl⟩ := hpv
        have hnil := some_eql_nil
        have HPD := Lib.hid hpd
        have hxc := hx8.cell
        have hxf := hx8.frozen
        clear hpd
        go_upto_region 8 with fail
        obtain ⟨W8, hW8⟩ : ∃ q, w8.setCell ⟨bx, 1, none⟩ (.int .i64 k) = q := ⟨_, rfl⟩
        have HGW8 : Hid (Grow wr W8) := Lib.hid (by rw [← hW8]; exact (HG6.out.trans HG8.out).setC (p := ⟨bx, 1, none⟩) HXZ.out _)
        have HXW8 : Hid (BlockIs W8 bx 100 #[.slice (some ⟨be, 0, none⟩) en ce, .int .i64 k]) := Lib.hid (by rw [← hW8]; exact hx8.near 1 _)
        have HIW8 : Hid (IntsT W8 (bb + 1) (some ⟨be, 0, none⟩) (natsL el)) := Lib.hid (by rw [← hW8]; exact HIE8.out.apart hx8 (by decide) 1 _)
        rw [hW8]
        clear hW8 hxc hxf hx8 HIE8 HX8 HG8 HX6 HIE6 HG6 HG5 HPL HON HEL
        have hxc := HXW8.out.cell
        by_cases hkm : k ≤ most
        · have hd3 : decide (most < k) = false := decide_eq_false (by omega)
          have HCN : Hid (fewTo t.d most s1 = takeD (fewTo t.d most s) (some (el, k))) := Lib.hid (by
            rw [HFS.out, HCA.out, HPD.out]
            dsimp only
            rw [if_pos hkm])
          clear hkm
          cases hfb : fewTo t.d most s with
          | none =>
            have hfv := HFE.out
            rw [hfb] at hfv
            have hb8 := HGW8.out.block hfv
            have HB8 := Lib.hid hb8
            have hbc := hb8.cell
            have hbf := hb8.frozen
            have hnil2 := none_eql_nil
            have HCM : Hid (fewTo t.d most s1 = some (el, k)) := Lib.hid (by rw [HCN.out, hfb]; rfl)
            clear hfb hfv hb8
            go_wp2
            go_roundw
            case rel =>
              refine ⟨s1, by go_num, HLT.out, ?_, ((HBE.out.trans (Below.mono HGW8.out (by omega))).setCell (p := ⟨bb, 0, none⟩) (Nat.le_refl _) _).setCell (p := ⟨bb, 1, none⟩) (Nat.le_refl _) _⟩
              rw [HCM.out]
              refine ⟨be, ce, ?_, (HIW8.out.far (p := ⟨bb, 0, none⟩) (by show bb < bb + 1; omega) _).far (p := ⟨bb, 1, none⟩) (by show bb < bb + 1; omega) _, by rw [HEN.out]; exact hel3⟩
              rw [HEN.out]
              exact (HB8.out.near 0 _).near 1 _
            case measure => have := HLT.out; have := HS1.out; simp [intOf]; omega
          | some p0 =>
            obtain ⟨l0, m0⟩ := p0
            have hfv := HFE.out
            rw [hfb] at hfv
            obtain ⟨b0, c0, hB0, hI0, hl0⟩ := hfv
            have hb8 := HGW8.out.block hB0
            have HB8 := Lib.hid hb8
            have hbc := hb8.cell
            have HI8 := Lib.hid (hI0.grow HGW8.out)
            have HCB := Lib.hid (fun (w0 : World) (hw : Grow W8 w0) => choice_any el l0 k m0 (some ⟨be, 0, none⟩) (some ⟨b0, 0, none⟩) ce c0 w0.heap.size w0 (HIW8.out.grow hw).ints (HI8.out.grow hw).ints (Nat.le_refl _) (by have := HEN.out; omega) hl0)
            obtain ⟨ln0, hln0⟩ : ∃ q, l0.length = q := ⟨_, rfl⟩
            have HLN0 := Lib.hid hln0
            rw [HEN.out, hln0] at HCB
            rw [hln0] at hbc
            clear hb8 hB0 hI0 hl0 hln0
            go_wp2_with fail
            refine (HCB.out _ (Grow.refl _)).mono ?_
            rintro e w9 ⟨rfl, hb9⟩
            have HG9 : Hid (Grow W8 w9) := hb9
            clear hbc hb9
            have hxc := (HG9.out.block HXW8.out).cell
            have hb9 := HG9.out.block HB8.out
            have HB9 := Lib.hid hb9
            have hbc := hb9.cell
            have hbf := hb9.frozen
            have HIW9 := Lib.hid (HIW8.out.grow HG9.out)
            cases hbt : betterD (el, k) (l0, m0) with
            | true =>
              have HCM : Hid (fewTo t.d most s1 = some (el, k)) := Lib.hid (by rw [HCN.out, hfb]; show (if betterD (el, k) (l0, m0) = true then _ else _) = _; rw [if_pos hbt])
              clear hfb hbt hb9
              go_wp2
              go_roundw
              case rel =>
                refine ⟨s1, by go_num, HLT.out, ?_, ((HBE.out.trans (Below.mono (HGW8.out.trans HG9.out) (by omega))).setCell (p := ⟨bb, 0, none⟩) (Nat.le_refl _) _).setCell (p := ⟨bb, 1, none⟩) (Nat.le_refl _) _⟩
                rw [HCM.out]
                refine ⟨be, ce, ?_, (HIW9.out.far (p := ⟨bb, 0, none⟩) (by show bb < bb + 1; omega) _).far (p := ⟨bb, 1, none⟩) (by show bb < bb + 1; omega) _, by rw [HEN.out]; exact hel3⟩
                rw [HEN.out]
                exact (HB9.out.near 0 _).near 1 _
              case measure => have := HLT.out; have := HS1.out; simp [intOf]; omega
            | false =>
              have HCM : Hid (fewTo t.d most s1 = some (l0, m0)) := Lib.hid (by rw [HCN.out, hfb]; show (if betterD (el, k) (l0, m0) = true then _ else _) = _; rw [if_neg (by rw [hbt]; decide)])
              have HFN : Hid (FewV w9 bb (some (l0, m0))) := Lib.hid (by have h := HFE.out; rw [hfb] at h; exact h.grow (HGW8.out.trans HG9.out))
              clear hfb hbt hb9
              go_wp2
              go_roundw
              case rel => exact ⟨s1, by go_num, HLT.out, by rw [HCM.out]; exact HFN.out, HBE.out.trans (Below.mono (HGW8.out.trans HG9.out) (by omega))⟩
              case measure => have := HLT.out; have := HS1.out; simp [intOf]; omega
        · have hd3 : decide (most < k) = true := decide_eq_true (by omega)
          have HCN : Hid (fewTo t.d most s1 = fewTo t.d most s) := Lib.hid (by
            rw [HFS.out, HCA.out, HPD.out]
            dsimp only
            rw [if_neg hkm]
            rfl)
          clear hkm
          go_wp2
          go_roundw
          case rel => exact ⟨s1, by go_num, HLT.out, by rw [HCN.out]; exact HFE.out.grow HGW8.out, HBE.out.trans (Below.mono HGW8.out (by omega))⟩
          case measure => have := HLT.out; have := HS1.out; simp [intOf]; omega
    · have he : s1 = pw := by omega
      have hd1 : decide ((s1 : Int) < wrap64 ((2 : Int) ^ nn)) = false := decide_eq_false (by rw [HWR.out]; omega)
      have HSF : Hid (fewTo t.d most s = fd) := Lib.hid (by rw [HFD.out, ← he, ← HS1.out]; rfl)
      clear hlt he
      cases hfb : fewTo t.d most s with
      | none =>
        have hfv := HFE.out
        rw [hfb] at hfv
        have hbc := BlockIs.cell hfv
        have HSE : Hid (fd = none) := Lib.hid (by rw [← HSF.out, hfb])
        clear hfb hfv
        go_wp2
        go_ret
        exact ⟨_, rfl, by rw [HSE.out]; rfl, HGB.out _ HBE.out⟩
      | some p0 =>
        obtain ⟨l0, m0⟩ := p0
        have hfv := HFE.out
        rw [hfb] at hfv
        obtain ⟨b0, c0, hB0, hI0, hl0⟩ := hfv
        have hbc := hB0.cell
        have HI0 := Lib.hid hI0
        have HSE : Hid (fd = some (l0, m0)) := Lib.hid (by rw [← HSF.out, hfb])
        clear hfb hB0 hI0
        go_wp2
        go_ret
        exact ⟨_, rfl, by rw [HSE.out]; exact ⟨b0, c0, rfl, HI0.out.mono (Nat.zero_le _)⟩, HGB.out _ HBE.out⟩

end Go.Proofs.Ythlihchndmbkaaa
