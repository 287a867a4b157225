/- MadeOff: SignsMade where there is nothing to find. -/
import Derived.Test.YtfpmkolaiomabaaGreatClash
import Derived.Test.YtfpmkolaiomabaaGreatRSeen
import Derived.Test.YtfpmkolaiomabaaGreatWorks
import Derived.Test.YtfpmkolaiomabaaGreatMade
import Derived.Test.YtfpmkolaiomabaaGreatSigner
namespace Go.Proofs.YtfpmkolaiomabaaGreat
open Go.RowKit

set_option maxRecDepth 100000 in
set_option maxHeartbeats 16000000 in
theorem signsMade_off (A A' : Option Addr) (cap cap' : Nat) (l : List EntryR) (s : SeenD) (x : SignerD) (y : EntryR) (w : World) (hA : EntsO w w.heap.size A l) (hl : l.length ≤ 9223372036854775807) (hA' : Ints w w.heap.size A' s.moves)
    (hr : readyD (l.map (·.d)) = true) (hs : okSeen s = true) (hx0 : 0 ≤ x.entry) (hx1 : x.entry < l.length) (hy : l[x.entry.toNat]? = some y) (hq0 : 0 ≤ x.missed)
    (hQ : ¬((0 ≤ x.region ∧ x.region ≤ 7) ∧ hasD y.d.regions x.region = true ∧ y.d.low ≤ x.age ∧ x.age ≤ y.d.high)) :
    Calls Tryz.prog 11 #[.slice A l.length cap, seenV s A' cap', signerV x] w fun e w' => e = .returned (.bool true) ∧ Below w.heap.size w w' := by
  have HWK := Lib.hid works_any
  obtain ⟨hl12, hent, -, hbe, hlong⟩ := ready_ok hr
  have hE : Ents w w.heap.size A l := (hA.short hlong).1
  have hyl : y ∈ l := List.mem_of_getElem? hy
  have hoky : okEntry y.d = true := hent y.d (List.mem_map.2 ⟨y, hyl, rfl⟩)
  have hml : s.moves.length ≤ 6 := (SeenIn.of_ok hs).len
  rw [List.length_map] at hl12
  have HRD := Lib.hid (fun (w0 : World) (h : Grow w w0) => by have k := ready_any A cap w.heap.size l w0 (hA.below h) hl h.size; rw [hr] at k; exact k)
  have HSN := Lib.hid (fun (w0 : World) (h : Grow w w0) => by have k := rIsSeen_any s A' cap' w.heap.size w0 (hA'.below h) (by omega) h.size; rw [hs] at k; exact k)
  have HFI := Lib.hid (fun (t : SeenD) (A2 : Option Addr) (cap2 : Nat) (w0 : World) (h : Grow w w0) (hi : Ints w0 w0.heap.size A2 t.moves) (hlt : t.moves.length ≤ 1000000) => Find_any A A2 cap cap2 w0.heap.size l t w0 ((hE.below h).more h.size) (by omega) hi hlt (Nat.le_refl _))
  have HBE := Lib.hid hbe
  have HIS := Lib.hid hA'
  obtain ⟨b, off, hAe, hb, hcx⟩ : ∃ b off, A = some ⟨b, off, none⟩ ∧ b < w.heap.size ∧ ∀ j, j < 11 → w.cell? ⟨b, off + x.entry.toNat * 11 + j, none⟩ = (cellsE y)[j]? := by
    rcases hE.1 with e | ⟨b, off, e, hb, hc⟩
    · rw [e] at hy; cases hy
    · exact ⟨b, off, e, hb, hc _ _ hy⟩
  have hmy : Ints w w.heap.size y.A y.d.form.moves := (hE.2 y hyl).1
  subst hAe
  have HCX := Lib.hid (fun (w0 : World) (h : Grow w w0) (j : Nat) (hj : j < 11) => (Below.cell (p := ⟨b, off + x.entry.toNat * 11 + j, none⟩) h hb).trans (hcx j hj))
  have hfoy := okEntry_okForm hoky
  have HMI := Lib.hid (fun (w0 : World) (h : Grow w w0) => rMirror_any y.d.form y.A y.cap w.heap.size w0 (hmy.below h) (okForm_len hfoy) h.size hfoy)
  have HMY := Lib.hid hmy
  have d1 : decide (20 < (s.moves.length : Int)) = false := by simp; omega
  have hxn : (x.entry.toNat : Int) = x.entry := by omega
  have e1 : decide (x.entry < 0) = false := by simp; omega
  have e2 : decide ((l.length : Int) ≤ x.entry) = false := by simp; omega
  have e3 : decide (x.missed < 0) = false := by simp; omega
  have hyr : 1 ≤ y.d.regions ∧ y.d.regions ≤ 255 := by
    have ho := hoky
    simp only [okEntry, Bool.and_eq_true, inB_iff] at ho
    exact ho.2.2.1
  clear hA hA' hE hent hbe hlong hr hcx hmy hy
  go_enter Tryz.func11, Tryz.ntmps11
  go_upto_region 1 with fail
  obtain ⟨W, hW, hg, hS, hX, hsz⟩ := two_blocks w 50 72 (cellsS s A' cap') (cellsX x)
  rw [hW]
  clear hW
  have HG := Lib.hid hg
  have HS := Lib.hid hS
  have HX := Lib.hid hX
  clear hg hS hX
  go_wp2_with fail
  refine (HRD.out _ HG.out).mono ?_
  rintro e w2 ⟨rfl, hb2⟩
  have HG2 : Hid (Grow w w2) := HG.out.trans hb2
  have HS2 := Lib.hid (Grow.block hb2 HS.out)
  have HX2 := Lib.hid (Grow.block hb2 HX.out)
  have hsc := HS2.out.cell
  clear hb2
  go_wp2_with fail
  refine (HSN.out _ HG2.out).mono ?_
  rintro e w3 ⟨rfl, hb3⟩
  have HG3 : Hid (Grow w w3) := HG2.out.trans hb3
  have HS3 := Lib.hid (Grow.block hb3 HS2.out)
  have HX3 := Lib.hid (Grow.block hb3 HX2.out)
  clear hsc
  have hxc := HX3.out.cell
  have hx0' : w3.cell? ⟨b, off + x.entry.toNat * 11, none⟩ = some (.int .i64 y.d.id) := HCX.out w3 HG3.out 0 (by omega)
  have hx1' : w3.cell? ⟨b, off + x.entry.toNat * 11 + 1, none⟩ = some (.int .i64 y.d.sign) := HCX.out w3 HG3.out 1 (by omega)
  have hx2' : w3.cell? ⟨b, off + x.entry.toNat * 11 + 2, none⟩ = some (.int .i64 y.d.regions) := HCX.out w3 HG3.out 2 (by omega)
  have hx3' : w3.cell? ⟨b, off + x.entry.toNat * 11 + 3, none⟩ = some (.int .i64 y.d.form.right) := HCX.out w3 HG3.out 3 (by omega)
  have hx4' : w3.cell? ⟨b, off + x.entry.toNat * 11 + 4, none⟩ = some (.int .i64 y.d.form.left) := HCX.out w3 HG3.out 4 (by omega)
  have hx5' : w3.cell? ⟨b, off + x.entry.toNat * 11 + 5, none⟩ = some (.int .i64 y.d.form.column) := HCX.out w3 HG3.out 5 (by omega)
  have hx6' : w3.cell? ⟨b, off + x.entry.toNat * 11 + 6, none⟩ = some (.int .i64 y.d.form.row) := HCX.out w3 HG3.out 6 (by omega)
  have hx7' : w3.cell? ⟨b, off + x.entry.toNat * 11 + 7, none⟩ = some (.int .i64 y.d.form.face) := HCX.out w3 HG3.out 7 (by omega)
  have hx8' : w3.cell? ⟨b, off + x.entry.toNat * 11 + 8, none⟩ = some (.slice y.A y.d.form.moves.length y.cap) := HCX.out w3 HG3.out 8 (by omega)
  have hx9' : w3.cell? ⟨b, off + x.entry.toNat * 11 + 9, none⟩ = some (.int .i64 y.d.low) := HCX.out w3 HG3.out 9 (by omega)
  have hx10' : w3.cell? ⟨b, off + x.entry.toNat * 11 + 10, none⟩ = some (.int .i64 y.d.high) := HCX.out w3 HG3.out 10 (by omega)
  clear hb3
  go_upto_region 4 with fail
  obtain ⟨W4, hW4, hg4, hY4, hsz4⟩ := one_block w3 62 (cellsE y)
  rw [hW4]
  clear hW4
  have HG4 : Hid (Grow w W4) := HG3.out.trans hg4
  have HS4 := Lib.hid (hg4.block HS3.out)
  have HX4 := Lib.hid (hg4.block HX3.out)
  have HY4 := Lib.hid hY4
  clear hx0' hx1' hx2' hx3' hx4' hx5' hx6' hx7' hx8' hx9' hx10' hxc
  have hxc := HX4.out.cell
  have hyc := HY4.out.cell
  clear hg4 hY4
  have hcase : x.region < 0 ∨ (0 ≤ x.region ∧ 7 < x.region) ∨ (0 ≤ x.region ∧ x.region ≤ 7 ∧ (hasD y.d.regions x.region = false ∨ hasD y.d.regions x.region = true ∧ (x.age < y.d.low ∨ y.d.low ≤ x.age ∧ y.d.high < x.age))) := by
    by_cases g1 : x.region < 0
    · exact .inl g1
    · by_cases g2 : 7 < x.region
      · exact .inr (.inl ⟨by omega, g2⟩)
      · refine .inr (.inr ⟨by omega, by omega, ?_⟩)
        cases g3 : hasD y.d.regions x.region with
        | false => exact .inl rfl
        | true =>
          refine .inr ⟨rfl, ?_⟩
          by_cases g4 : x.age < y.d.low
          · exact .inl g4
          · exact .inr ⟨by omega, by
              by_cases g5 : y.d.high < x.age
              · exact g5
              · exact absurd ⟨⟨by omega, by omega⟩, g3, by omega, by omega⟩ hQ⟩
  have hbv : bits .and .i64 (y.d.regions / 2 ^ x.region.toNat) 1 = y.d.regions / 2 ^ x.region.toNat % 2 := by
    have h1 := shr_bounds (s := y.d.regions) (k := x.region.toNat) (by omega) (by omega)
    exact and_one h1.1 h1.2
  have hhd : hasD y.d.regions x.region = decide (y.d.regions / 2 ^ x.region.toNat % 2 = 1) := rfl
  have h01 : y.d.regions / 2 ^ x.region.toNat % 2 = 0 ∨ y.d.regions / 2 ^ x.region.toNat % 2 = 1 := by omega
  clear hQ hs hoky hyl hfoy
  rcases hcase with g | ⟨g0, g⟩ | ⟨g0, g7, g | ⟨g, g1 | ⟨g1, g2⟩⟩⟩
  · have e4 : decide (x.region < 0) = true := by simp; omega
    clear hbv hhd h01
    go_wp2_with fail
    refine (HWK.out _).mono ?_
    rintro e w13 ⟨rfl, hb13⟩
    have HG13 : Hid (Grow w w13) := HG4.out.trans hb13
    clear hb13
    go_wp2
    go_ret
    exact ⟨rfl, HG13.out⟩
  · have e4 : decide (x.region < 0) = false := by simp; omega
    have e5 : decide (7 < x.region) = true := by simp; omega
    clear hbv hhd h01
    go_wp2_with fail
    refine (HWK.out _).mono ?_
    rintro e w13 ⟨rfl, hb13⟩
    have HG13 : Hid (Grow w w13) := HG4.out.trans hb13
    clear hb13
    go_wp2
    go_ret
    exact ⟨rfl, HG13.out⟩
  · have e4 : decide (x.region < 0) = false := by simp; omega
    have e5 : decide (7 < x.region) = false := by simp; omega
    have hbit : bits .and .i64 (y.d.regions / 2 ^ x.region.toNat) 1 = 0 := by
      rw [hbv]
      rw [hhd] at g
      simp at g
      omega
    clear hbv hhd h01 g
    go_wp2_with fail
    refine (HWK.out _).mono ?_
    rintro e w13 ⟨rfl, hb13⟩
    have HG13 : Hid (Grow w w13) := HG4.out.trans hb13
    clear hb13
    go_wp2
    go_ret
    exact ⟨rfl, HG13.out⟩
  · have e4 : decide (x.region < 0) = false := by simp; omega
    have e5 : decide (7 < x.region) = false := by simp; omega
    have e6 : decide (x.age < y.d.low) = true := by simp; omega
    have hbit : bits .and .i64 (y.d.regions / 2 ^ x.region.toNat) 1 = 1 := by
      rw [hbv]
      rw [hhd] at g
      simpa using g
    clear hbv hhd h01 g
    go_wp2_with fail
    refine (HWK.out _).mono ?_
    rintro e w13 ⟨rfl, hb13⟩
    have HG13 : Hid (Grow w w13) := HG4.out.trans hb13
    clear hb13
    go_wp2
    go_ret
    exact ⟨rfl, HG13.out⟩
  · have e4 : decide (x.region < 0) = false := by simp; omega
    have e5 : decide (7 < x.region) = false := by simp; omega
    have e6 : decide (x.age < y.d.low) = false := by simp; omega
    have e7 : decide (y.d.high < x.age) = true := by simp; omega
    have hbit : bits .and .i64 (y.d.regions / 2 ^ x.region.toNat) 1 = 1 := by
      rw [hbv]
      rw [hhd] at g
      simpa using g
    clear hbv hhd h01 g
    go_wp2_with fail
    refine (HWK.out _).mono ?_
    rintro e w13 ⟨rfl, hb13⟩
    have HG13 : Hid (Grow w w13) := HG4.out.trans hb13
    clear hb13
    go_wp2
    go_ret
    exact ⟨rfl, HG13.out⟩

set_option maxRecDepth 100000 in
set_option maxHeartbeats 16000000 in
theorem signsMade_out (A A' : Option Addr) (cap cap' : Nat) (l : List EntryR) (s : SeenD) (x : SignerD) (w : World) (hA : EntsO w w.heap.size A l) (hl : l.length ≤ 9223372036854775807) (hA' : Ints w w.heap.size A' s.moves)
    (hP : ¬(readyD (l.map (·.d)) = true ∧ s.moves.length ≤ 20 ∧ okSeen s = true ∧ 0 ≤ x.entry ∧ x.entry < l.length ∧ 0 ≤ x.missed)) :
    Calls Tryz.prog 11 #[.slice A l.length cap, seenV s A' cap', signerV x] w fun e w' => e = .returned (.bool true) ∧ Below w.heap.size w w' := by
  have HWK := Lib.hid works_any
  have HRD := Lib.hid (fun (w0 : World) (h : Grow w w0) => ready_any A cap w.heap.size l w0 (hA.below h) hl h.size)
  have HSN := Lib.hid (fun (w0 : World) (h : Grow w w0) (hm : s.moves.length ≤ 20) => rIsSeen_any s A' cap' w.heap.size w0 (hA'.below h) (by omega) h.size)
  have HP := Lib.hid hP
  clear hA hA' hP
  go_enter Tryz.func11, Tryz.ntmps11
  go_upto_region 1 with fail
  obtain ⟨W, hW, hg, hS, hX, hsz⟩ := two_blocks w 50 72 (cellsS s A' cap') (cellsX x)
  rw [hW]
  clear hW
  have HG := Lib.hid hg
  have HS := Lib.hid hS
  have HX := Lib.hid hX
  clear hg hS hX
  go_wp2_with fail
  refine (HRD.out _ HG.out).mono ?_
  rintro e w2 ⟨rfl, hb2⟩
  have HG2 : Hid (Grow w w2) := HG.out.trans hb2
  have HX2 := Lib.hid (Grow.block hb2 HX.out)
  have hsc := (Grow.block hb2 HS.out).cell
  clear hb2
  generalize readyD (l.map (·.d)) = rd at HP ⊢
  cases rd with
  | false =>
    go_wp2_with fail
    refine (HWK.out _).mono ?_
    rintro e w13 ⟨rfl, hb13⟩
    have HG13 : Hid (Grow w w13) := HG2.out.trans hb13
    clear hb13
    go_wp2
    go_ret
    exact ⟨rfl, HG13.out⟩
  | true =>
    by_cases hm : s.moves.length ≤ 20
    · have d1 : decide (20 < (s.moves.length : Int)) = false := by simp; omega
      have HSN2 := Lib.hid (HSN.out w2 HG2.out hm)
      generalize okSeen s = os at HSN2 HP
      clear HSN
      go_wp2_with fail
      refine HSN2.out.mono ?_
      rintro e w3 ⟨rfl, hb3⟩
      have HG3 : Hid (Grow w w3) := HG2.out.trans hb3
      have hxc := (Grow.block hb3 HX2.out).cell
      clear hb3 hsc
      cases os with
      | false =>
        go_wp2_with fail
        refine (HWK.out _).mono ?_
        rintro e w13 ⟨rfl, hb13⟩
        have HG13 : Hid (Grow w w13) := HG3.out.trans hb13
        clear hb13
        go_wp2
        go_ret
        exact ⟨rfl, HG13.out⟩
      | true =>
        have hcase : x.entry < 0 ∨ (0 ≤ x.entry ∧ (l.length : Int) ≤ x.entry) ∨ (0 ≤ x.entry ∧ x.entry < l.length ∧ x.missed < 0) := by
          by_cases g1 : x.entry < 0
          · exact .inl g1
          · by_cases g2 : (l.length : Int) ≤ x.entry
            · exact .inr (.inl ⟨by omega, g2⟩)
            · refine .inr (.inr ⟨by omega, by omega, ?_⟩)
              by_cases g3 : x.missed < 0
              · exact g3
              · exact absurd ⟨by trivial, hm, by trivial, by omega, by omega, by omega⟩ HP.out
        clear HP
        rcases hcase with g | ⟨g0, g⟩ | ⟨g0, g1, g⟩
        · have e1 : decide (x.entry < 0) = true := by simp; omega
          go_wp2_with fail
          refine (HWK.out _).mono ?_
          rintro e w13 ⟨rfl, hb13⟩
          have HG13 : Hid (Grow w w13) := HG3.out.trans hb13
          clear hb13
          go_wp2
          go_ret
          exact ⟨rfl, HG13.out⟩
        · have e1 : decide (x.entry < 0) = false := by simp; omega
          have e2 : decide ((l.length : Int) ≤ x.entry) = true := by simp; omega
          go_wp2_with fail
          refine (HWK.out _).mono ?_
          rintro e w13 ⟨rfl, hb13⟩
          have HG13 : Hid (Grow w w13) := HG3.out.trans hb13
          clear hb13
          go_wp2
          go_ret
          exact ⟨rfl, HG13.out⟩
        · have e1 : decide (x.entry < 0) = false := by simp; omega
          have e2 : decide ((l.length : Int) ≤ x.entry) = false := by simp; omega
          have e3 : decide (x.missed < 0) = true := by simp; omega
          go_wp2_with fail
          refine (HWK.out _).mono ?_
          rintro e w13 ⟨rfl, hb13⟩
          have HG13 : Hid (Grow w w13) := HG3.out.trans hb13
          clear hb13
          go_wp2
          go_ret
          exact ⟨rfl, HG13.out⟩
    · have d1 : decide (20 < (s.moves.length : Int)) = true := by simp; omega
      clear HP
      go_wp2_with fail
      refine (HWK.out _).mono ?_
      rintro e w13 ⟨rfl, hb13⟩
      have HG13 : Hid (Grow w w13) := HG2.out.trans hb13
      clear hb13
      go_wp2
      go_ret
      exact ⟨rfl, HG13.out⟩

end Go.Proofs.YtfpmkolaiomabaaGreat
