/- SignsMade: the law's walk. -/
import Derived.Test.YtfpmkolaiomabaaGreatClash
import Derived.Test.YtfpmkolaiomabaaGreatRSeen
import Derived.Test.YtfpmkolaiomabaaGreatWorks
import Derived.Test.YtfpmkolaiomabaaGreatMade
import Derived.Test.YtfpmkolaiomabaaGreatSigner
namespace Go.Proofs.YtfpmkolaiomabaaGreat
open Go.RowKit

set_option maxRecDepth 100000 in
set_option maxHeartbeats 16000000 in
theorem signsMade_ready (A A' : Option Addr) (cap cap' : Nat) (l : List EntryR) (s : SeenD) (x : SignerD) (y : EntryR) (w : World) (hA : EntsO w w.heap.size A l) (hl : l.length ≤ 9223372036854775807) (hA' : Ints w w.heap.size A' s.moves)
    (hr : readyD (l.map (·.d)) = true) (hs : okSeen s = true) (hx0 : 0 ≤ x.entry) (hx1 : x.entry < l.length) (hy : l[x.entry.toNat]? = some y) (hq0 : 0 ≤ x.missed) (hq1 : x.missed ≤ 9223372036854775807) (hreg : 0 ≤ x.region ∧ x.region ≤ 7) (hyreg : hasD y.d.regions x.region = true)
    (hage : y.d.low ≤ x.age ∧ x.age ≤ y.d.high) :
    Calls Tryz.prog 11 #[.slice A l.length cap, seenV s A' cap', signerV x] w fun e w' => e = .returned (.bool true) ∧ Below w.heap.size w w' := by
  have HWK := Lib.hid works_any
  obtain ⟨hl12, hent, -, hbe, hlong⟩ := ready_ok hr
  have hE : Ents w w.heap.size A l := (hA.short hlong).1
  have hyl : y ∈ l := List.mem_of_getElem? hy
  have hoky : okEntry y.d = true := hent y.d (List.mem_map.2 ⟨y, hyl, rfl⟩)
  have hml : s.moves.length ≤ 6 := (SeenIn.of_ok hs).len
  rw [List.length_map] at hl12
  have HRD := Lib.hid (fun (w0 : World) (h : Grow w w0) => by have k := ready_any A cap w.heap.size l w0 (hA.below h) hl h.size; rw [hr] at k; exact k)
  have HSN := Lib.hid (fun (w0 : World) (h : Grow w w0) => by have k := rIsSeen_any s A' cap' w.heap.size w0 (hA'.below h) (by omega) h.size; rw [hs] at k; exact k)
  have HFI := Lib.hid (fun (t : SeenD) (A2 : Option Addr) (cap2 : Nat) (w0 : World) (h : Grow w w0) (hi : Ints w0 w0.heap.size A2 t.moves) (hlt : t.moves.length ≤ 1000000) => Find_any A A2 cap cap2 w0.heap.size l t w0 ((hE.below h).more h.size) (by omega) hi hlt (Nat.le_refl _))
  have HBE := Lib.hid hbe
  have HIS := Lib.hid hA'
  obtain ⟨b, off, hAe, hb, hcx⟩ : ∃ b off, A = some ⟨b, off, none⟩ ∧ b < w.heap.size ∧ ∀ j, j < 11 → w.cell? ⟨b, off + x.entry.toNat * 11 + j, none⟩ = (cellsE y)[j]? := by
    rcases hE.1 with e | ⟨b, off, e, hb, hc⟩
    · rw [e] at hy; cases hy
    · exact ⟨b, off, e, hb, hc _ _ hy⟩
  have hmy : Ints w w.heap.size y.A y.d.form.moves := (hE.2 y hyl).1
  subst hAe
  have HCX := Lib.hid (fun (w0 : World) (h : Grow w w0) (j : Nat) (hj : j < 11) => (Below.cell (p := ⟨b, off + x.entry.toNat * 11 + j, none⟩) h hb).trans (hcx j hj))
  have hfoy := okEntry_okForm hoky
  have HMI := Lib.hid (fun (w0 : World) (h : Grow w w0) => rMirror_any y.d.form y.A y.cap w.heap.size w0 (hmy.below h) (okForm_len hfoy) h.size hfoy)
  have HMY := Lib.hid hmy
  have d1 : decide (20 < (s.moves.length : Int)) = false := by simp; omega
  have hxn : (x.entry.toNat : Int) = x.entry := by omega
  have e1 : decide (x.entry < 0) = false := by simp; omega
  have e2 : decide ((l.length : Int) ≤ x.entry) = false := by simp; omega
  have e3 : decide (x.missed < 0) = false := by simp; omega
  have e4 : decide (x.region < 0) = false := by simp; omega
  have e5 : decide (7 < x.region) = false := by simp; omega
  have e6 : decide (x.age < y.d.low) = false := by simp; omega
  have e7 : decide (y.d.high < x.age) = false := by simp; omega
  have hyr : 1 ≤ y.d.regions ∧ y.d.regions ≤ 255 := by
    have ho := hoky
    simp only [okEntry, Bool.and_eq_true, inB_iff] at ho
    exact ho.2.2.1
  have hbit : bits .and .i64 (y.d.regions / 2 ^ x.region.toNat) 1 = 1 := by
    have h1 := shr_bounds (s := y.d.regions) (k := x.region.toNat) (by omega) (by omega)
    rw [and_one h1.1 h1.2]
    simpa [hasD] using hyreg
  obtain ⟨hreg0, hreg7⟩ := hreg
  obtain ⟨hage0, hage1⟩ := hage
  clear hA hA' hE hent hbe hlong hr hcx hmy hy
  go_enter Tryz.func11, Tryz.ntmps11
  go_upto_region 1 with fail
  obtain ⟨W, hW, hg, hS, hX, hsz⟩ := two_blocks w 50 72 (cellsS s A' cap') (cellsX x)
  rw [hW]
  clear hW
  have HG := Lib.hid hg
  have HS := Lib.hid hS
  have HX := Lib.hid hX
  clear hg hS hX
  go_wp2_with fail
  refine (HRD.out _ HG.out).mono ?_
  rintro e w2 ⟨rfl, hb2⟩
  have HG2 : Hid (Grow w w2) := HG.out.trans hb2
  have HS2 := Lib.hid (Grow.block hb2 HS.out)
  have HX2 := Lib.hid (Grow.block hb2 HX.out)
  have hsc := HS2.out.cell
  clear hb2
  go_wp2_with fail
  refine (HSN.out _ HG2.out).mono ?_
  rintro e w3 ⟨rfl, hb3⟩
  have HG3 : Hid (Grow w w3) := HG2.out.trans hb3
  have HS3 := Lib.hid (Grow.block hb3 HS2.out)
  have HX3 := Lib.hid (Grow.block hb3 HX2.out)
  clear hsc
  have hxc := HX3.out.cell
  have hx0' : w3.cell? ⟨b, off + x.entry.toNat * 11, none⟩ = some (.int .i64 y.d.id) := HCX.out w3 HG3.out 0 (by omega)
  have hx1' : w3.cell? ⟨b, off + x.entry.toNat * 11 + 1, none⟩ = some (.int .i64 y.d.sign) := HCX.out w3 HG3.out 1 (by omega)
  have hx2' : w3.cell? ⟨b, off + x.entry.toNat * 11 + 2, none⟩ = some (.int .i64 y.d.regions) := HCX.out w3 HG3.out 2 (by omega)
  have hx3' : w3.cell? ⟨b, off + x.entry.toNat * 11 + 3, none⟩ = some (.int .i64 y.d.form.right) := HCX.out w3 HG3.out 3 (by omega)
  have hx4' : w3.cell? ⟨b, off + x.entry.toNat * 11 + 4, none⟩ = some (.int .i64 y.d.form.left) := HCX.out w3 HG3.out 4 (by omega)
  have hx5' : w3.cell? ⟨b, off + x.entry.toNat * 11 + 5, none⟩ = some (.int .i64 y.d.form.column) := HCX.out w3 HG3.out 5 (by omega)
  have hx6' : w3.cell? ⟨b, off + x.entry.toNat * 11 + 6, none⟩ = some (.int .i64 y.d.form.row) := HCX.out w3 HG3.out 6 (by omega)
  have hx7' : w3.cell? ⟨b, off + x.entry.toNat * 11 + 7, none⟩ = some (.int .i64 y.d.form.face) := HCX.out w3 HG3.out 7 (by omega)
  have hx8' : w3.cell? ⟨b, off + x.entry.toNat * 11 + 8, none⟩ = some (.slice y.A y.d.form.moves.length y.cap) := HCX.out w3 HG3.out 8 (by omega)
  have hx9' : w3.cell? ⟨b, off + x.entry.toNat * 11 + 9, none⟩ = some (.int .i64 y.d.low) := HCX.out w3 HG3.out 9 (by omega)
  have hx10' : w3.cell? ⟨b, off + x.entry.toNat * 11 + 10, none⟩ = some (.int .i64 y.d.high) := HCX.out w3 HG3.out 10 (by omega)
  clear hb3
  go_upto_region 4 with fail
  obtain ⟨W4, hW4, hg4, hY4, hsz4⟩ := one_block w3 62 (cellsE y)
  rw [hW4]
  clear hW4
  have HG4 : Hid (Grow w W4) := HG3.out.trans hg4
  have HS4 := Lib.hid (hg4.block HS3.out)
  have HX4 := Lib.hid (hg4.block HX3.out)
  have HY4 := Lib.hid hY4
  clear hx0' hx1' hx2' hx3' hx4' hx5' hx6' hx7' hx8' hx9' hx10' hxc
  have hxc := HX4.out.cell
  have hyc := HY4.out.cell
  clear hg4 hY4
  go_upto_region 6 with fail
  go_upto_region 7 with fail
  obtain ⟨W6, hW6, hg6, hF6, hsz6⟩ := one_block W4 24 (cellsF y.d.form y.A y.cap)
  rw [hW6]
  clear hW6
  have HG6 : Hid (Grow w W6) := HG4.out.trans hg6
  have HS6 := Lib.hid (hg6.block HS4.out)
  have HX6 := Lib.hid (hg6.block HX4.out)
  have HY6 := Lib.hid (hg6.block HY4.out)
  have HF6 := Lib.hid hF6
  clear hxc hyc hg6 hF6
  have hxc := HX6.out.cell
  cases hoth : x.other with
  | false =>
    go_upto_region 9 with fail
    obtain ⟨f, hfe⟩ : ∃ f, f = y.d.form := ⟨_, rfl⟩
    obtain ⟨Af, hAfe⟩ : ∃ Af, Af = y.A := ⟨_, rfl⟩
    obtain ⟨W8, hW8⟩ : ∃ W8, W6 = W8 := ⟨_, rfl⟩
    have hS8 := HS6.out
    have hX8 := HX6.out
    have hY8 := HY6.out
    have hF8 : BlockIs W6 W4.heap.size 24 (cellsF f Af y.cap) := by rw [hfe, hAfe]; exact HF6.out
    have hI8 : Ints W6 W6.heap.size Af f.moves := by rw [hfe, hAfe]; exact (HMY.out.below HG6.out).more HG6.out.size
    have hG8 := HG6.out
    have hfo : okForm f = true := by rw [hfe]; exact hfoy
    have hfy : f = y.d.form ∨ f = mirrorD y.d.form := .inl hfe
    generalize hcf : y.cap = capf at hF8
    rw [hW8] at hS8 hX8 hY8 hF8 hI8 hG8 ⊢
    clear hfe hAfe hcf hW8 hxc hfoy hoth HS6 HX6 HY6 HF6 HG6 HMI
    have HS8 := Lib.hid hS8
    have HX8 := Lib.hid hX8
    have HY8 := Lib.hid hY8
    have HF8 := Lib.hid hF8
    have HI8 := Lib.hid hI8
    have HG8 := Lib.hid hG8
    have hsc := hS8.cell
    have hxc := hX8.cell
    have hfc := hF8.cell
    have hbfs : W4.heap.size < W8.heap.size := hF8.lt
    have hbys : w3.heap.size < W8.heap.size := hY8.lt
    have hbxs : w.heap.size + 1 < W8.heap.size := hX8.lt
    clear hS8 hX8 hY8 hF8 hI8 hG8
    have hmade := made_ok (age := x.age) (q := x.missed) hs hfo ⟨hreg0, hreg7⟩
    have HSM : Hid (okSeen (madeD s f x.region x.age x.missed) = true) := hmade.1
    have HFND := Lib.hid (fun (r : List Int) (h : FoundD (madeD s f x.region x.age x.missed) (l.map (·.d)) r) => made_found (age := x.age) (q := x.missed) hs (List.mem_map.2 ⟨y, hyl, rfl⟩) hoky hfy ⟨hreg0, hreg7⟩ hyreg ⟨hage0, hage1⟩ h)
    have HFAC := Lib.hid (fun (k : Nat) (hk : k ≤ f.moves.length) => made_facts (q := x.missed) (okSeen_mem hs) (okForm_mem hfo) k hk)
    obtain ⟨fr, fl, _, _, _, ff, _⟩ := okForm_iff.1 hfo
    obtain ⟨fr1, fr2⟩ := fr
    obtain ⟨fl1, fl2⟩ := fl
    obtain ⟨ff1, ff2⟩ := ff
    obtain ⟨sr, sl, _, _, _, _, _, _, sf, sg⟩ := okSeen_iff.1 hs
    have hlenf := okForm_len hfo
    have HFM := Lib.hid (okForm_mem hfo)
    have HSM2 := Lib.hid (okSeen_mem hs)
    have hp1 := pow_32 (i := (f.right + 1).toNat) (by omega)
    have hp2 := pow_32 (i := (f.left + 1).toNat) (by omega)
    have hp3 := pow_32 (i := f.face.toNat) (by omega)
    have hp4 := pow_32 (i := x.region.toNat) (by omega)
    have ho1 := bits_or (a := s.rights) (b := 2 ^ (f.right + 1).toNat) (by omega) (by omega) (by omega) (by omega)
    have ho2 := bits_or (a := s.lefts) (b := 2 ^ (f.left + 1).toNat) (by omega) (by omega) (by omega) (by omega)
    have ho3 := bits_or (a := s.faces) (b := 2 ^ f.face.toNat) (by omega) (by omega) (by omega) (by omega)
    have ho4 := bits_or (a := s.regions) (b := 2 ^ x.region.toNat) (by omega) (by omega) (by omega) (by omega)
    have hw1 : IntKind.i64.wrap (2 ^ (f.right + 1).toNat) = 2 ^ (f.right + 1).toNat := IntWalk.i64_in _ (by omega)
    have hw2 : IntKind.i64.wrap (2 ^ (f.left + 1).toNat) = 2 ^ (f.left + 1).toNat := IntWalk.i64_in _ (by omega)
    have hw3 : IntKind.i64.wrap (2 ^ f.face.toNat) = 2 ^ f.face.toNat := IntWalk.i64_in _ (by omega)
    have hw4 : IntKind.i64.wrap (2 ^ x.region.toNat) = 2 ^ x.region.toNat := IntWalk.i64_in _ (by omega)
    have HTD : Hid (madeD s f x.region x.age x.missed = ⟨orI s.rights (2 ^ (f.right + 1).toNat), orI s.lefts (2 ^ (f.left + 1).toNat), orI s.faces (2 ^ f.face.toNat), orI s.regions (2 ^ x.region.toNat), (madeTo s.moves x.missed f.moves f.moves.length).1, min s.cl f.column, max s.ch f.column, min s.rl f.row, max s.rh f.row, min s.al x.age, max s.ah x.age, (madeTo s.moves x.missed f.moves f.moves.length).2⟩) := rfl
    generalize orI s.rights (2 ^ (f.right + 1).toNat) = t0 at ho1 HTD
    generalize orI s.lefts (2 ^ (f.left + 1).toNat) = t1 at ho2 HTD
    generalize orI s.faces (2 ^ f.face.toNat) = t2 at ho3 HTD
    generalize orI s.regions (2 ^ x.region.toNat) = t3 at ho4 HTD
    clear hmade hp1 hp2 hp3 hp4 sr sl sf sg hs hoky hyreg hyl hfo hfy
    go_upto_region 10 with fail
    clear ho1 ho2 ho3 ho4 hw1 hw2 hw3 hw4
    obtain ⟨W9, hW9, hg9, hT9, hsz9⟩ := one_block W8 50 #[.int .i64 t0, .int .i64 t1, .int .i64 t2, .int .i64 t3, .int .i64 0, .int .i64 0, .int .i64 0, .int .i64 0, .int .i64 0, .int .i64 0, .int .i64 0, .slice none 0 0]
    rw [hW9]
    clear hW9
    obtain ⟨bt, hbt⟩ : ∃ b, W8.heap.size = b := ⟨_, rfl⟩
    have hbe9 : Below bt W8 W9 := by rw [← hbt]; exact hg9
    rw [hbt] at hT9 hsz9 hbfs hbys hbxs ⊢
    have HI9 := Lib.hid (show Ints W8 bt Af f.moves by rw [← hbt]; exact HI8.out)
    have HGW := Lib.hid (show w.heap.size ≤ bt by omega)
    clear hbt hg9 hsc hxc hfc
    have HB9 := Lib.hid hbe9
    have hsc := (HS8.out.below HB9.out (by omega)).cell
    have hxc := (HX8.out.below HB9.out (by omega)).cell
    have hfc := (HF8.out.below HB9.out (by omega)).cell
    have htf := hT9.frozen
    have htc := hT9.cell
    go_upto_region 11 with (go_at_call 46; refine (spanL_any _ _ _).mono ?_; rintro e w' ⟨rfl, rfl⟩)
    obtain ⟨W10, hW10, hT10, hbe10, hsz10⟩ : ∃ W', ((W9.setCell ⟨bt, 5, none⟩ (.int .i64 (min s.cl f.column))).setCell ⟨bt, 6, none⟩ (.int .i64 (max s.ch f.column))).alloc (.cells #[.int .i64 (min s.cl f.column), .int .i64 (max s.ch f.column)] 48) = W' ∧ BlockIs W' bt 50 #[.int .i64 t0, .int .i64 t1, .int .i64 t2, .int .i64 t3, .int .i64 0, .int .i64 (min s.cl f.column), .int .i64 (max s.ch f.column), .int .i64 0, .int .i64 0, .int .i64 0, .int .i64 0, .slice none 0 0] ∧ Below bt W9 W' ∧ bt < W'.heap.size :=
      ⟨_, rfl, ((hT9.near 5 _).near 6 _).old _, (((Below.refl _ _).setCell (p := ⟨bt, 5, none⟩) (Nat.le_refl _) _).setCell (p := ⟨bt, 6, none⟩) (Nat.le_refl _) _).alloc (by simp [World.setCell]; omega) _, by simp [World.setCell]; omega⟩
    rw [hW10]
    have HB10 : Hid (Below bt W8 W10) := HB9.out.trans hbe10
    clear hW10 hsc hxc hfc htf htc hT9 hbe10
    have hsc := (HS8.out.below HB10.out (by omega)).cell
    have hxc := (HX8.out.below HB10.out (by omega)).cell
    have hfc := (HF8.out.below HB10.out (by omega)).cell
    have htf := hT10.frozen
    have htc := hT10.cell
    go_upto_region 12 with (go_at_call 46; refine (spanL_any _ _ _).mono ?_; rintro e w' ⟨rfl, rfl⟩)
    obtain ⟨W11, hW11, hT11, hbe11, hsz11⟩ : ∃ W', ((W10.setCell ⟨bt, 7, none⟩ (.int .i64 (min s.rl f.row))).setCell ⟨bt, 8, none⟩ (.int .i64 (max s.rh f.row))).alloc (.cells #[.int .i64 (min s.rl f.row), .int .i64 (max s.rh f.row)] 48) = W' ∧ BlockIs W' bt 50 #[.int .i64 t0, .int .i64 t1, .int .i64 t2, .int .i64 t3, .int .i64 0, .int .i64 (min s.cl f.column), .int .i64 (max s.ch f.column), .int .i64 (min s.rl f.row), .int .i64 (max s.rh f.row), .int .i64 0, .int .i64 0, .slice none 0 0] ∧ Below bt W10 W' ∧ bt < W'.heap.size :=
      ⟨_, rfl, ((hT10.near 7 _).near 8 _).old _, (((Below.refl _ _).setCell (p := ⟨bt, 7, none⟩) (Nat.le_refl _) _).setCell (p := ⟨bt, 8, none⟩) (Nat.le_refl _) _).alloc (by simp [World.setCell]; omega) _, by simp [World.setCell]; omega⟩
    rw [hW11]
    have HB11 : Hid (Below bt W8 W11) := HB10.out.trans hbe11
    clear hW11 hsc hxc hfc htf htc hT10 hbe11
    have hsc := (HS8.out.below HB11.out (by omega)).cell
    have hxc := (HX8.out.below HB11.out (by omega)).cell
    have hfc := (HF8.out.below HB11.out (by omega)).cell
    have htf := hT11.frozen
    have htc := hT11.cell
    go_upto_region 13 with (go_at_call 46; refine (spanL_any _ _ _).mono ?_; rintro e w' ⟨rfl, rfl⟩)
    obtain ⟨W12, hW12, hT12, hbe12, hsz12⟩ : ∃ W', ((W11.setCell ⟨bt, 9, none⟩ (.int .i64 (min s.al x.age))).setCell ⟨bt, 10, none⟩ (.int .i64 (max s.ah x.age))).alloc (.cells #[.int .i64 (min s.al x.age), .int .i64 (max s.ah x.age)] 48) = W' ∧ BlockIs W' bt 50 #[.int .i64 t0, .int .i64 t1, .int .i64 t2, .int .i64 t3, .int .i64 0, .int .i64 (min s.cl f.column), .int .i64 (max s.ch f.column), .int .i64 (min s.rl f.row), .int .i64 (max s.rh f.row), .int .i64 (min s.al x.age), .int .i64 (max s.ah x.age), .slice none 0 0] ∧ Below bt W11 W' ∧ bt < W'.heap.size :=
      ⟨_, rfl, ((hT11.near 9 _).near 10 _).old _, (((Below.refl _ _).setCell (p := ⟨bt, 9, none⟩) (Nat.le_refl _) _).setCell (p := ⟨bt, 10, none⟩) (Nat.le_refl _) _).alloc (by simp [World.setCell]; omega) _, by simp [World.setCell]; omega⟩
    rw [hW12]
    have HB12 : Hid (Below bt W8 W12) := HB11.out.trans hbe12
    clear hW12 hsc hxc hfc htf htc hT11 hbe12
    clear hbe9
    obtain ⟨i0, hi, hz0, hz1, hz2⟩ := info_parts Tryz.infoInt
    have hfc := (HF8.out.below HB12.out (by omega)).cell
    go_wp2_with fail
    clear hfc
    go_loopw [10] (fun i wr => ∃ (k : Nat) (A9 : Option Addr) (cap9 : Nat), k ≤ f.moves.length ∧ i = .int .i64 k ∧ Below bt W12 wr ∧ W12.heap.size ≤ wr.heap.size ∧
        BlockIs wr bt 50 #[.int .i64 t0, .int .i64 t1, .int .i64 t2, .int .i64 t3, .int .i64 (madeTo s.moves x.missed f.moves k).1, .int .i64 (min s.cl f.column), .int .i64 (max s.ch f.column), .int .i64 (min s.rl f.row), .int .i64 (max s.rh f.row), .int .i64 (min s.al x.age), .int .i64 (max s.ah x.age), .slice A9 (madeTo s.moves x.missed f.moves k).2.length cap9] ∧
        wr.ownsRow W12.heap.size 3 1 (.slice A9 (madeTo s.moves x.missed f.moves k).2.length cap9) (madeTo s.moves x.missed f.moves k).2.length ((madeTo s.moves x.missed f.moves k).2.map (Value.int .i64))) (fun i _ => f.moves.length - (intOf i).toNat)
    case atStart => exact ⟨0, none, 0, Nat.zero_le _, rfl, Below.refl _ _, Nat.le_refl _, hT12, by simp [World.ownsRow, madeTo]⟩
    case round =>
      obtain ⟨k, A9, cap9, hk, rfl, hbw, hz, hTb, hown⟩ := hrel
      rename World => wr
      obtain ⟨q1, q2, q3, q4⟩ := HFAC.out k hk
      cases hst : madeTo s.moves x.missed f.moves k with
      | mk lo ts =>
        rw [hst] at hTb hown q1 q2 q3 q4
        dsimp only at hTb hown q1 q2 q3 q4
        have HST := Lib.hid hst
        have HB : Hid (Below bt W8 wr) := HB12.out.trans hbw
        have hsc := (HS8.out.below HB.out (by omega)).cell
        have hxc := (HX8.out.below HB.out (by omega)).cell
        have hfc := (HF8.out.below HB.out (by omega)).cell
        have HBW := Lib.hid hbw
        have HT := Lib.hid hTb
        have HOWN := Lib.hid hown
        have hll : ts.length ≤ k := by omega
        have ag := own_ne hown hsz12
        clear hst hbw q1 q4
        by_cases hlt : k < f.moves.length
        · obtain ⟨b2, off2, m, hAe, hb2, hc2, HM⟩ := (HI9.out.below HB.out).at_ hlt
          obtain ⟨hm0, hm7⟩ := HFM.out m (List.mem_of_getElem? HM.out)
          have hpm := pow_255 hm0 hm7
          have hwm : IntKind.i64.wrap (2 ^ m.toNat) = 2 ^ m.toNat := IntWalk.i64_in _ (by omega)
          have htf := hTb.frozen
          have htc := hTb.cell
          have hltk : (k : Int) < f.moves.length := by omega
          clear hTb hown
          have hxb : 0 ≤ x.missed / 2 ^ k ∧ x.missed / 2 ^ k < 9223372036854775808 := by
            have hp : (0 : Int) < 2 ^ k := Int.pow_pos (by omega)
            refine ⟨Int.ediv_nonneg hq0 (by omega), ?_⟩
            have := Int.ediv_le_self (2 ^ k : Int) hq0
            omega
          have hbm := and_one hxb.1 hxb.2
          have hhd : hasD x.missed k = decide (x.missed / 2 ^ k % 2 = 1) := rfl
          have h01 : x.missed / 2 ^ k % 2 = 0 ∨ x.missed / 2 ^ k % 2 = 1 := by omega
          clear hxb
          subst hAe
          rcases h01 with h0 | h0
          · rw [h0] at hbm hhd
            have HN : Hid (madeTo s.moves x.missed f.moves (k + 1) = (lo, ts ++ [setOf s.moves ts.length m])) := by
              rw [Hid, madeTo_succ HM.out, HST.out, stepMade, if_neg (by rw [hhd]; decide)]
            clear h0 hhd
            by_cases hn : ts.length < s.moves.length
            · obtain ⟨b3, off3, sx, rfl, hb3, hc3, HSX⟩ := (((HIS.out.below HG8.out).more HGW.out).below HB.out).at_ hn
              obtain ⟨hs0, hs7⟩ := HSM2.out sx (List.mem_of_getElem? HSX.out)
              have hor := bits_or (a := 2 ^ m.toNat) (b := sx) (by omega) (by omega) (by omega) (by omega)
              have hse : setOf s.moves ts.length m = orI (2 ^ m.toNat) sx := by
                unfold setOf
                rw [if_pos hn, List.getD_eq_getElem?_getD, HSX.out]
                rfl
              rw [hse] at HN
              clear hse
              generalize orI (2 ^ m.toNat) sx = sv at hor HN
              have hn2 : (ts.length : Int) < s.moves.length := by omega
              go_wp2_with (at_builtin; refine wpList_append_own _ rfl _ _ 22 rfl W12.heap.size 3 i0 (.int .i64 0) 1 8 Tryz.underlying22 hi hz0 hz1 hz2 rfl (by decide) _ _ _ rfl (HOWN.out.alloc _) ⟨wr.heap.size, 0, none⟩ 1 1 [.int .i64 sv] rfl rfl ?c1 ?c2 ?c3 ?c4 ?c5 ?_)
              case c1 => exact cell_one_new _ _ _
              case c2 => simp [Value.oneCell']
              case c3 => unfold maxLen; omega
              case c4 => omega
              case c5 => simp; omega
              intro v' w13 hown3 hgrow _
              obtain ⟨A2, cap2, rfl⟩ := own_form hown3
              have hT3 := (HT.out.old (.cells #[.int .i64 sv] 3)).grown hgrow (Ne.symm ag)
              have HT3 := Lib.hid hT3
              have HOWN3 := Lib.hid hown3
              have HGR := Lib.hid hgrow
              clear htf htc
              have htf := hT3.frozen
              have htc := hT3.cell
              clear hT3 hown3 hgrow
              go_wp2
              go_roundw
              case rel =>
                refine ⟨k + 1, A2, cap2, by omega, by go_num, ?_, ?_, ?_, ?_⟩
                · exact ((HBW.out.alloc (by omega) _).grown HGR.out (by simp; omega) (fun q hq => by have := own_ge HOWN.out q hq; omega)).setCell (p := ⟨bt, 11, none⟩) (Nat.le_refl _) _
                · have := HGR.out.size
                  simp [World.setCell] at this ⊢
                  omega
                · rw [HN.out]
                  have := HT3.out.near 11 (.slice A2 (ts.length + 1) cap2)
                  simpa using this
                · rw [HN.out]
                  have := ownsRow_setCell_below HOWN3.out (a := ⟨bt, 11, none⟩) hsz12 (.slice A2 (ts.length + 1) cap2)
                  simpa using this
              case measure => simp [intOf]; omega
            · have hse : setOf s.moves ts.length m = 2 ^ m.toNat := by unfold setOf; rw [if_neg hn]
              rw [hse] at HN
              clear hse
              obtain ⟨sv, hsv⟩ : ∃ sv, (2 : Int) ^ m.toNat = sv := ⟨_, rfl⟩
              rw [hsv] at HN hwm hpm
              go_wp2_with (at_builtin; refine wpList_append_own _ rfl _ _ 22 rfl W12.heap.size 3 i0 (.int .i64 0) 1 8 Tryz.underlying22 hi hz0 hz1 hz2 rfl (by decide) _ _ _ rfl (HOWN.out.alloc _) ⟨wr.heap.size, 0, none⟩ 1 1 [.int .i64 sv] rfl rfl ?c1 ?c2 ?c3 ?c4 ?c5 ?_)
              case c1 => exact cell_one_new _ _ _
              case c2 => simp [Value.oneCell']
              case c3 => unfold maxLen; omega
              case c4 => omega
              case c5 => simp; omega
              intro v' w13 hown3 hgrow _
              obtain ⟨A2, cap2, rfl⟩ := own_form hown3
              have hT3 := (HT.out.old (.cells #[.int .i64 sv] 3)).grown hgrow (Ne.symm ag)
              have HT3 := Lib.hid hT3
              have HOWN3 := Lib.hid hown3
              have HGR := Lib.hid hgrow
              clear htf htc
              have htf := hT3.frozen
              have htc := hT3.cell
              clear hT3 hown3 hgrow
              go_wp2
              go_roundw
              case rel =>
                refine ⟨k + 1, A2, cap2, by omega, by go_num, ?_, ?_, ?_, ?_⟩
                · exact ((HBW.out.alloc (by omega) _).grown HGR.out (by simp; omega) (fun q hq => by have := own_ge HOWN.out q hq; omega)).setCell (p := ⟨bt, 11, none⟩) (Nat.le_refl _) _
                · have := HGR.out.size
                  simp [World.setCell] at this ⊢
                  omega
                · rw [HN.out]
                  have := HT3.out.near 11 (.slice A2 (ts.length + 1) cap2)
                  simpa using this
                · rw [HN.out]
                  have := ownsRow_setCell_below HOWN3.out (a := ⟨bt, 11, none⟩) hsz12 (.slice A2 (ts.length + 1) cap2)
                  simpa using this
              case measure => simp [intOf]; omega
          · rw [h0] at hbm hhd
            have HN : Hid (madeTo s.moves x.missed f.moves (k + 1) = (lo + 1, ts)) := by
              rw [Hid, madeTo_succ HM.out, HST.out, stepMade, if_pos (by rw [hhd]; rfl)]
            clear h0 hhd hwm
            go_wp2
            go_roundw
            case rel =>
              refine ⟨k + 1, A9, cap9, by omega, by go_num, HBW.out.setCell (p := ⟨bt, 4, none⟩) (Nat.le_refl _) _, by simpa [World.setCell] using hz, ?_, ?_⟩
              · rw [HN.out]; exact HT.out.near 4 _
              · rw [HN.out]; exact ownsRow_setCell_below HOWN.out (a := ⟨bt, 4, none⟩) hsz12 _
            case measure => simp [intOf]; omega
        · obtain rfl : k = f.moves.length := by omega
          have htc := hTb.cell
          have HIT := Lib.hid (own_ints hown).1
          have HGF : Hid (Grow w wr) := HG8.out.trans' (Below.mono HB.out HGW.out)
          obtain ⟨tt, htt⟩ : ∃ t : SeenD, t = ⟨t0, t1, t2, t3, lo, (min s.cl f.column), (max s.ch f.column), (min s.rl f.row), (max s.rh f.row), (min s.al x.age), (max s.ah x.age), ts⟩ := ⟨_, rfl⟩
          have hv : seenV tt A9 cap9 = .agg #[.int .i64 t0, .int .i64 t1, .int .i64 t2, .int .i64 t3, .int .i64 lo, .int .i64 (min s.cl f.column), .int .i64 (max s.ch f.column), .int .i64 (min s.rl f.row), .int .i64 (max s.rh f.row), .int .i64 (min s.al x.age), .int .i64 (max s.ah x.age), .slice A9 ts.length cap9] := by rw [htt]
          have hfd := HFI.out tt A9 cap9 wr HGF.out (by rw [htt]; exact HIT.out) (by rw [htt]; dsimp only; omega)
          rw [hv] at hfd
          have HFD := Lib.hid hfd
          rw [HST.out] at HTD
          rw [HTD.out, ← htt] at HSM HFND
          have HFE : Hid (findErr (l.map (·.d)) tt = 0) := by
            rw [Hid, findErr, if_pos HBE.out, if_pos HSM.out]
          clear htt hv
          have HYB := Lib.hid (HY8.out.below HB.out (by omega))
          clear hTb hown hfd hsc hxc
          go_wp2_with fail
          refine HFD.out.mono ?_
          rintro e w14 ⟨hb14, A14, cap14, r, rfl, hi14, -, ho14⟩
          rw [HFE.out]
          have hfd14 := ho14 HFE.out
          have hmem := HFND.out r hfd14
          have hrl : r.length ≤ 12 := Nat.le_trans (found_few hfd14) hl12
          have hdec : decide (y.d.sign ∈ r) = true := decide_eq_true hmem
          have hin := in_any A14 cap14 w14.heap.size r y.d.sign w14 hi14.ints (by omega)
          rw [hdec] at hin
          have HIN := Lib.hid hin
          clear hin hdec hfd14
          have HG14 : Hid (Grow w w14) := HGF.out.trans hb14
          have hyc := (Grow.block hb14 HYB.out).cell
          clear hfc htc hb14 hi14 ho14 hmem
          go_wp2_with fail
          refine HIN.out.mono ?_
          rintro e w15 ⟨rfl, rfl⟩
          clear hyc
          go_wp2_with fail
          refine (HWK.out _).mono ?_
          rintro e w16 ⟨rfl, hb16⟩
          have HG16 : Hid (Grow w w16) := HG14.out.trans hb16
          clear hb16
          go_wp2
          go_ret
          exact ⟨rfl, HG16.out⟩
  | true =>
    obtain ⟨f, hfe⟩ : ∃ f, f = mirrorD y.d.form := ⟨_, rfl⟩
    have hfo : okForm f = true := by rw [hfe]; exact okForm_mirror hfoy
    have hfy : f = y.d.form ∨ f = mirrorD y.d.form := .inr hfe
    have HML := Lib.hid (HMI.out W6 HG6.out)
    rw [← hfe] at HML
    clear hfe HMI
    have hfc6 := HF6.out.cell
    have hff6 := HF6.out.frozen
    go_wp2_with fail
    refine HML.out.mono ?_
    rintro e w8 ⟨Af, capf, rfl, hI8, hb8⟩
    have HB8 := Lib.hid (show Grow W6 w8 from hb8)
    have hF7 := Grow.block hb8 HF6.out
    have HF7 := Lib.hid hF7
    have HI7 := Lib.hid hI8
    clear hfc6 hff6 hxc
    have hfc7 := hF7.cell
    have hff7 := hF7.frozen
    clear hF7 hI8 hb8
    go_upto_region 9 with fail
    obtain ⟨W8, hW8, hF8, hI8, hS8, hX8, hY8, hG8⟩ : ∃ W8, ((((((w8.setCell ⟨W4.heap.size, 0, none⟩ (.int .i64 f.right)).setCell ⟨W4.heap.size, 1, none⟩ (.int .i64 f.left)).setCell ⟨W4.heap.size, 2, none⟩ (.int .i64 f.column)).setCell ⟨W4.heap.size, 3, none⟩ (.int .i64 f.row)).setCell ⟨W4.heap.size, 4, none⟩ (.int .i64 f.face)).setCell ⟨W4.heap.size, 5, none⟩ (.slice Af f.moves.length capf)) = W8 ∧ BlockIs W8 W4.heap.size 24 (cellsF f Af capf) ∧ Ints W8 W8.heap.size Af f.moves ∧ BlockIs W8 w.heap.size 50 (cellsS s A' cap') ∧ BlockIs W8 (w.heap.size + 1) 72 (cellsX x) ∧ BlockIs W8 w3.heap.size 62 (cellsE y) ∧ Grow w W8 := by
      have l1 : w.heap.size < w3.heap.size := by have := HX3.out.lt; omega
      have l2 : w.heap.size + 1 < w3.heap.size := HX3.out.lt
      have l3 : w3.heap.size < W4.heap.size := hsz4
      have hfar : ∀ {b' : Nat} {t : TypeId} {cs : Array Value}, BlockIs W6 b' t cs → b' ≠ W4.heap.size → BlockIs ((((((w8.setCell ⟨W4.heap.size, 0, none⟩ (.int .i64 f.right)).setCell ⟨W4.heap.size, 1, none⟩ (.int .i64 f.left)).setCell ⟨W4.heap.size, 2, none⟩ (.int .i64 f.column)).setCell ⟨W4.heap.size, 3, none⟩ (.int .i64 f.row)).setCell ⟨W4.heap.size, 4, none⟩ (.int .i64 f.face)).setCell ⟨W4.heap.size, 5, none⟩ (.slice Af f.moves.length capf)) b' t cs := fun h hne =>
        ((((((HB8.out.block h).far (p := ⟨W4.heap.size, 0, none⟩) hne _).far (p := ⟨W4.heap.size, 1, none⟩) hne _).far (p := ⟨W4.heap.size, 2, none⟩) hne _).far (p := ⟨W4.heap.size, 3, none⟩) hne _).far (p := ⟨W4.heap.size, 4, none⟩) hne _).far (p := ⟨W4.heap.size, 5, none⟩) hne _
      refine ⟨_, rfl, six_stores HF7.out _ _ _ _ _ _, (six_ints HI7.out hsz6 _ _ _ _ _ _).ints, hfar HS6.out (by omega), hfar HX6.out (by omega), hfar HY6.out (by omega), ?_⟩
      exact (HG6.out.trans HB8.out).trans' (six_below (by have := HG3.out.size; omega) _ _ _ _ _ _)
    rw [hW8]
    clear hW8 hfc7 hff7 hfoy hoth HS6 HX6 HY6 HF6 HG6 HB8 HF7 HI7 HML
    have HS8 := Lib.hid hS8
    have HX8 := Lib.hid hX8
    have HY8 := Lib.hid hY8
    have HF8 := Lib.hid hF8
    have HI8 := Lib.hid hI8
    have HG8 := Lib.hid hG8
    have hsc := hS8.cell
    have hxc := hX8.cell
    have hfc := hF8.cell
    have hbfs : W4.heap.size < W8.heap.size := hF8.lt
    have hbys : w3.heap.size < W8.heap.size := hY8.lt
    have hbxs : w.heap.size + 1 < W8.heap.size := hX8.lt
    clear hS8 hX8 hY8 hF8 hI8 hG8
    have hmade := made_ok (age := x.age) (q := x.missed) hs hfo ⟨hreg0, hreg7⟩
    have HSM : Hid (okSeen (madeD s f x.region x.age x.missed) = true) := hmade.1
    have HFND := Lib.hid (fun (r : List Int) (h : FoundD (madeD s f x.region x.age x.missed) (l.map (·.d)) r) => made_found (age := x.age) (q := x.missed) hs (List.mem_map.2 ⟨y, hyl, rfl⟩) hoky hfy ⟨hreg0, hreg7⟩ hyreg ⟨hage0, hage1⟩ h)
    have HFAC := Lib.hid (fun (k : Nat) (hk : k ≤ f.moves.length) => made_facts (q := x.missed) (okSeen_mem hs) (okForm_mem hfo) k hk)
    obtain ⟨fr, fl, _, _, _, ff, _⟩ := okForm_iff.1 hfo
    obtain ⟨fr1, fr2⟩ := fr
    obtain ⟨fl1, fl2⟩ := fl
    obtain ⟨ff1, ff2⟩ := ff
    obtain ⟨sr, sl, _, _, _, _, _, _, sf, sg⟩ := okSeen_iff.1 hs
    have hlenf := okForm_len hfo
    have HFM := Lib.hid (okForm_mem hfo)
    have HSM2 := Lib.hid (okSeen_mem hs)
    have hp1 := pow_32 (i := (f.right + 1).toNat) (by omega)
    have hp2 := pow_32 (i := (f.left + 1).toNat) (by omega)
    have hp3 := pow_32 (i := f.face.toNat) (by omega)
    have hp4 := pow_32 (i := x.region.toNat) (by omega)
    have ho1 := bits_or (a := s.rights) (b := 2 ^ (f.right + 1).toNat) (by omega) (by omega) (by omega) (by omega)
    have ho2 := bits_or (a := s.lefts) (b := 2 ^ (f.left + 1).toNat) (by omega) (by omega) (by omega) (by omega)
    have ho3 := bits_or (a := s.faces) (b := 2 ^ f.face.toNat) (by omega) (by omega) (by omega) (by omega)
    have ho4 := bits_or (a := s.regions) (b := 2 ^ x.region.toNat) (by omega) (by omega) (by omega) (by omega)
    have hw1 : IntKind.i64.wrap (2 ^ (f.right + 1).toNat) = 2 ^ (f.right + 1).toNat := IntWalk.i64_in _ (by omega)
    have hw2 : IntKind.i64.wrap (2 ^ (f.left + 1).toNat) = 2 ^ (f.left + 1).toNat := IntWalk.i64_in _ (by omega)
    have hw3 : IntKind.i64.wrap (2 ^ f.face.toNat) = 2 ^ f.face.toNat := IntWalk.i64_in _ (by omega)
    have hw4 : IntKind.i64.wrap (2 ^ x.region.toNat) = 2 ^ x.region.toNat := IntWalk.i64_in _ (by omega)
    have HTD : Hid (madeD s f x.region x.age x.missed = ⟨orI s.rights (2 ^ (f.right + 1).toNat), orI s.lefts (2 ^ (f.left + 1).toNat), orI s.faces (2 ^ f.face.toNat), orI s.regions (2 ^ x.region.toNat), (madeTo s.moves x.missed f.moves f.moves.length).1, min s.cl f.column, max s.ch f.column, min s.rl f.row, max s.rh f.row, min s.al x.age, max s.ah x.age, (madeTo s.moves x.missed f.moves f.moves.length).2⟩) := rfl
    generalize orI s.rights (2 ^ (f.right + 1).toNat) = t0 at ho1 HTD
    generalize orI s.lefts (2 ^ (f.left + 1).toNat) = t1 at ho2 HTD
    generalize orI s.faces (2 ^ f.face.toNat) = t2 at ho3 HTD
    generalize orI s.regions (2 ^ x.region.toNat) = t3 at ho4 HTD
    clear hmade hp1 hp2 hp3 hp4 sr sl sf sg hs hoky hyreg hyl hfo hfy
    go_upto_region 10 with fail
    clear ho1 ho2 ho3 ho4 hw1 hw2 hw3 hw4
    obtain ⟨W9, hW9, hg9, hT9, hsz9⟩ := one_block W8 50 #[.int .i64 t0, .int .i64 t1, .int .i64 t2, .int .i64 t3, .int .i64 0, .int .i64 0, .int .i64 0, .int .i64 0, .int .i64 0, .int .i64 0, .int .i64 0, .slice none 0 0]
    rw [hW9]
    clear hW9
    obtain ⟨bt, hbt⟩ : ∃ b, W8.heap.size = b := ⟨_, rfl⟩
    have hbe9 : Below bt W8 W9 := by rw [← hbt]; exact hg9
    rw [hbt] at hT9 hsz9 hbfs hbys hbxs ⊢
    have HI9 := Lib.hid (show Ints W8 bt Af f.moves by rw [← hbt]; exact HI8.out)
    have HGW := Lib.hid (show w.heap.size ≤ bt by omega)
    clear hbt hg9 hsc hxc hfc
    have HB9 := Lib.hid hbe9
    have hsc := (HS8.out.below HB9.out (by omega)).cell
    have hxc := (HX8.out.below HB9.out (by omega)).cell
    have hfc := (HF8.out.below HB9.out (by omega)).cell
    have htf := hT9.frozen
    have htc := hT9.cell
    go_upto_region 11 with (go_at_call 46; refine (spanL_any _ _ _).mono ?_; rintro e w' ⟨rfl, rfl⟩)
    obtain ⟨W10, hW10, hT10, hbe10, hsz10⟩ : ∃ W', ((W9.setCell ⟨bt, 5, none⟩ (.int .i64 (min s.cl f.column))).setCell ⟨bt, 6, none⟩ (.int .i64 (max s.ch f.column))).alloc (.cells #[.int .i64 (min s.cl f.column), .int .i64 (max s.ch f.column)] 48) = W' ∧ BlockIs W' bt 50 #[.int .i64 t0, .int .i64 t1, .int .i64 t2, .int .i64 t3, .int .i64 0, .int .i64 (min s.cl f.column), .int .i64 (max s.ch f.column), .int .i64 0, .int .i64 0, .int .i64 0, .int .i64 0, .slice none 0 0] ∧ Below bt W9 W' ∧ bt < W'.heap.size :=
      ⟨_, rfl, ((hT9.near 5 _).near 6 _).old _, (((Below.refl _ _).setCell (p := ⟨bt, 5, none⟩) (Nat.le_refl _) _).setCell (p := ⟨bt, 6, none⟩) (Nat.le_refl _) _).alloc (by simp [World.setCell]; omega) _, by simp [World.setCell]; omega⟩
    rw [hW10]
    have HB10 : Hid (Below bt W8 W10) := HB9.out.trans hbe10
    clear hW10 hsc hxc hfc htf htc hT9 hbe10
    have hsc := (HS8.out.below HB10.out (by omega)).cell
    have hxc := (HX8.out.below HB10.out (by omega)).cell
    have hfc := (HF8.out.below HB10.out (by omega)).cell
    have htf := hT10.frozen
    have htc := hT10.cell
    go_upto_region 12 with (go_at_call 46; refine (spanL_any _ _ _).mono ?_; rintro e w' ⟨rfl, rfl⟩)
    obtain ⟨W11, hW11, hT11, hbe11, hsz11⟩ : ∃ W', ((W10.setCell ⟨bt, 7, none⟩ (.int .i64 (min s.rl f.row))).setCell ⟨bt, 8, none⟩ (.int .i64 (max s.rh f.row))).alloc (.cells #[.int .i64 (min s.rl f.row), .int .i64 (max s.rh f.row)] 48) = W' ∧ BlockIs W' bt 50 #[.int .i64 t0, .int .i64 t1, .int .i64 t2, .int .i64 t3, .int .i64 0, .int .i64 (min s.cl f.column), .int .i64 (max s.ch f.column), .int .i64 (min s.rl f.row), .int .i64 (max s.rh f.row), .int .i64 0, .int .i64 0, .slice none 0 0] ∧ Below bt W10 W' ∧ bt < W'.heap.size :=
      ⟨_, rfl, ((hT10.near 7 _).near 8 _).old _, (((Below.refl _ _).setCell (p := ⟨bt, 7, none⟩) (Nat.le_refl _) _).setCell (p := ⟨bt, 8, none⟩) (Nat.le_refl _) _).alloc (by simp [World.setCell]; omega) _, by simp [World.setCell]; omega⟩
    rw [hW11]
    have HB11 : Hid (Below bt W8 W11) := HB10.out.trans hbe11
    clear hW11 hsc hxc hfc htf htc hT10 hbe11
    have hsc := (HS8.out.below HB11.out (by omega)).cell
    have hxc := (HX8.out.below HB11.out (by omega)).cell
    have hfc := (HF8.out.below HB11.out (by omega)).cell
    have htf := hT11.frozen
    have htc := hT11.cell
    go_upto_region 13 with (go_at_call 46; refine (spanL_any _ _ _).mono ?_; rintro e w' ⟨rfl, rfl⟩)
    obtain ⟨W12, hW12, hT12, hbe12, hsz12⟩ : ∃ W', ((W11.setCell ⟨bt, 9, none⟩ (.int .i64 (min s.al x.age))).setCell ⟨bt, 10, none⟩ (.int .i64 (max s.ah x.age))).alloc (.cells #[.int .i64 (min s.al x.age), .int .i64 (max s.ah x.age)] 48) = W' ∧ BlockIs W' bt 50 #[.int .i64 t0, .int .i64 t1, .int .i64 t2, .int .i64 t3, .int .i64 0, .int .i64 (min s.cl f.column), .int .i64 (max s.ch f.column), .int .i64 (min s.rl f.row), .int .i64 (max s.rh f.row), .int .i64 (min s.al x.age), .int .i64 (max s.ah x.age), .slice none 0 0] ∧ Below bt W11 W' ∧ bt < W'.heap.size :=
      ⟨_, rfl, ((hT11.near 9 _).near 10 _).old _, (((Below.refl _ _).setCell (p := ⟨bt, 9, none⟩) (Nat.le_refl _) _).setCell (p := ⟨bt, 10, none⟩) (Nat.le_refl _) _).alloc (by simp [World.setCell]; omega) _, by simp [World.setCell]; omega⟩
    rw [hW12]
    have HB12 : Hid (Below bt W8 W12) := HB11.out.trans hbe12
    clear hW12 hsc hxc hfc htf htc hT11 hbe12
    clear hbe9
    obtain ⟨i0, hi, hz0, hz1, hz2⟩ := info_parts Tryz.infoInt
    have hfc := (HF8.out.below HB12.out (by omega)).cell
    go_wp2_with fail
    clear hfc
    go_loopw [10] (fun i wr => ∃ (k : Nat) (A9 : Option Addr) (cap9 : Nat), k ≤ f.moves.length ∧ i = .int .i64 k ∧ Below bt W12 wr ∧ W12.heap.size ≤ wr.heap.size ∧
        BlockIs wr bt 50 #[.int .i64 t0, .int .i64 t1, .int .i64 t2, .int .i64 t3, .int .i64 (madeTo s.moves x.missed f.moves k).1, .int .i64 (min s.cl f.column), .int .i64 (max s.ch f.column), .int .i64 (min s.rl f.row), .int .i64 (max s.rh f.row), .int .i64 (min s.al x.age), .int .i64 (max s.ah x.age), .slice A9 (madeTo s.moves x.missed f.moves k).2.length cap9] ∧
        wr.ownsRow W12.heap.size 3 1 (.slice A9 (madeTo s.moves x.missed f.moves k).2.length cap9) (madeTo s.moves x.missed f.moves k).2.length ((madeTo s.moves x.missed f.moves k).2.map (Value.int .i64))) (fun i _ => f.moves.length - (intOf i).toNat)
    case atStart => exact ⟨0, none, 0, Nat.zero_le _, rfl, Below.refl _ _, Nat.le_refl _, hT12, by simp [World.ownsRow, madeTo]⟩
    case round =>
      obtain ⟨k, A9, cap9, hk, rfl, hbw, hz, hTb, hown⟩ := hrel
      rename World => wr
      obtain ⟨q1, q2, q3, q4⟩ := HFAC.out k hk
      cases hst : madeTo s.moves x.missed f.moves k with
      | mk lo ts =>
        rw [hst] at hTb hown q1 q2 q3 q4
        dsimp only at hTb hown q1 q2 q3 q4
        have HST := Lib.hid hst
        have HB : Hid (Below bt W8 wr) := HB12.out.trans hbw
        have hsc := (HS8.out.below HB.out (by omega)).cell
        have hxc := (HX8.out.below HB.out (by omega)).cell
        have hfc := (HF8.out.below HB.out (by omega)).cell
        have HBW := Lib.hid hbw
        have HT := Lib.hid hTb
        have HOWN := Lib.hid hown
        have hll : ts.length ≤ k := by omega
        have ag := own_ne hown hsz12
        clear hst hbw q1 q4
        by_cases hlt : k < f.moves.length
        · obtain ⟨b2, off2, m, hAe, hb2, hc2, HM⟩ := (HI9.out.below HB.out).at_ hlt
          obtain ⟨hm0, hm7⟩ := HFM.out m (List.mem_of_getElem? HM.out)
          have hpm := pow_255 hm0 hm7
          have hwm : IntKind.i64.wrap (2 ^ m.toNat) = 2 ^ m.toNat := IntWalk.i64_in _ (by omega)
          have htf := hTb.frozen
          have htc := hTb.cell
          have hltk : (k : Int) < f.moves.length := by omega
          clear hTb hown
          have hxb : 0 ≤ x.missed / 2 ^ k ∧ x.missed / 2 ^ k < 9223372036854775808 := by
            have hp : (0 : Int) < 2 ^ k := Int.pow_pos (by omega)
            refine ⟨Int.ediv_nonneg hq0 (by omega), ?_⟩
            have := Int.ediv_le_self (2 ^ k : Int) hq0
            omega
          have hbm := and_one hxb.1 hxb.2
          have hhd : hasD x.missed k = decide (x.missed / 2 ^ k % 2 = 1) := rfl
          have h01 : x.missed / 2 ^ k % 2 = 0 ∨ x.missed / 2 ^ k % 2 = 1 := by omega
          clear hxb
          subst hAe
          rcases h01 with h0 | h0
          · rw [h0] at hbm hhd
            have HN : Hid (madeTo s.moves x.missed f.moves (k + 1) = (lo, ts ++ [setOf s.moves ts.length m])) := by
              rw [Hid, madeTo_succ HM.out, HST.out, stepMade, if_neg (by rw [hhd]; decide)]
            clear h0 hhd
            by_cases hn : ts.length < s.moves.length
            · obtain ⟨b3, off3, sx, rfl, hb3, hc3, HSX⟩ := (((HIS.out.below HG8.out).more HGW.out).below HB.out).at_ hn
              obtain ⟨hs0, hs7⟩ := HSM2.out sx (List.mem_of_getElem? HSX.out)
              have hor := bits_or (a := 2 ^ m.toNat) (b := sx) (by omega) (by omega) (by omega) (by omega)
              have hse : setOf s.moves ts.length m = orI (2 ^ m.toNat) sx := by
                unfold setOf
                rw [if_pos hn, List.getD_eq_getElem?_getD, HSX.out]
                rfl
              rw [hse] at HN
              clear hse
              generalize orI (2 ^ m.toNat) sx = sv at hor HN
              have hn2 : (ts.length : Int) < s.moves.length := by omega
              go_wp2_with (at_builtin; refine wpList_append_own _ rfl _ _ 22 rfl W12.heap.size 3 i0 (.int .i64 0) 1 8 Tryz.underlying22 hi hz0 hz1 hz2 rfl (by decide) _ _ _ rfl (HOWN.out.alloc _) ⟨wr.heap.size, 0, none⟩ 1 1 [.int .i64 sv] rfl rfl ?c1 ?c2 ?c3 ?c4 ?c5 ?_)
              case c1 => exact cell_one_new _ _ _
              case c2 => simp [Value.oneCell']
              case c3 => unfold maxLen; omega
              case c4 => omega
              case c5 => simp; omega
              intro v' w13 hown3 hgrow _
              obtain ⟨A2, cap2, rfl⟩ := own_form hown3
              have hT3 := (HT.out.old (.cells #[.int .i64 sv] 3)).grown hgrow (Ne.symm ag)
              have HT3 := Lib.hid hT3
              have HOWN3 := Lib.hid hown3
              have HGR := Lib.hid hgrow
              clear htf htc
              have htf := hT3.frozen
              have htc := hT3.cell
              clear hT3 hown3 hgrow
              go_wp2
              go_roundw
              case rel =>
                refine ⟨k + 1, A2, cap2, by omega, by go_num, ?_, ?_, ?_, ?_⟩
                · exact ((HBW.out.alloc (by omega) _).grown HGR.out (by simp; omega) (fun q hq => by have := own_ge HOWN.out q hq; omega)).setCell (p := ⟨bt, 11, none⟩) (Nat.le_refl _) _
                · have := HGR.out.size
                  simp [World.setCell] at this ⊢
                  omega
                · rw [HN.out]
                  have := HT3.out.near 11 (.slice A2 (ts.length + 1) cap2)
                  simpa using this
                · rw [HN.out]
                  have := ownsRow_setCell_below HOWN3.out (a := ⟨bt, 11, none⟩) hsz12 (.slice A2 (ts.length + 1) cap2)
                  simpa using this
              case measure => simp [intOf]; omega
            · have hse : setOf s.moves ts.length m = 2 ^ m.toNat := by unfold setOf; rw [if_neg hn]
              rw [hse] at HN
              clear hse
              obtain ⟨sv, hsv⟩ : ∃ sv, (2 : Int) ^ m.toNat = sv := ⟨_, rfl⟩
              rw [hsv] at HN hwm hpm
              go_wp2_with (at_builtin; refine wpList_append_own _ rfl _ _ 22 rfl W12.heap.size 3 i0 (.int .i64 0) 1 8 Tryz.underlying22 hi hz0 hz1 hz2 rfl (by decide) _ _ _ rfl (HOWN.out.alloc _) ⟨wr.heap.size, 0, none⟩ 1 1 [.int .i64 sv] rfl rfl ?c1 ?c2 ?c3 ?c4 ?c5 ?_)
              case c1 => exact cell_one_new _ _ _
              case c2 => simp [Value.oneCell']
              case c3 => unfold maxLen; omega
              case c4 => omega
              case c5 => simp; omega
              intro v' w13 hown3 hgrow _
              obtain ⟨A2, cap2, rfl⟩ := own_form hown3
              have hT3 := (HT.out.old (.cells #[.int .i64 sv] 3)).grown hgrow (Ne.symm ag)
              have HT3 := Lib.hid hT3
              have HOWN3 := Lib.hid hown3
              have HGR := Lib.hid hgrow
              clear htf htc
              have htf := hT3.frozen
              have htc := hT3.cell
              clear hT3 hown3 hgrow
              go_wp2
              go_roundw
              case rel =>
                refine ⟨k + 1, A2, cap2, by omega, by go_num, ?_, ?_, ?_, ?_⟩
                · exact ((HBW.out.alloc (by omega) _).grown HGR.out (by simp; omega) (fun q hq => by have := own_ge HOWN.out q hq; omega)).setCell (p := ⟨bt, 11, none⟩) (Nat.le_refl _) _
                · have := HGR.out.size
                  simp [World.setCell] at this ⊢
                  omega
                · rw [HN.out]
                  have := HT3.out.near 11 (.slice A2 (ts.length + 1) cap2)
                  simpa using this
                · rw [HN.out]
                  have := ownsRow_setCell_below HOWN3.out (a := ⟨bt, 11, none⟩) hsz12 (.slice A2 (ts.length + 1) cap2)
                  simpa using this
              case measure => simp [intOf]; omega
          · rw [h0] at hbm hhd
            have HN : Hid (madeTo s.moves x.missed f.moves (k + 1) = (lo + 1, ts)) := by
              rw [Hid, madeTo_succ HM.out, HST.out, stepMade, if_pos (by rw [hhd]; rfl)]
            clear h0 hhd hwm
            go_wp2
            go_roundw
            case rel =>
              refine ⟨k + 1, A9, cap9, by omega, by go_num, HBW.out.setCell (p := ⟨bt, 4, none⟩) (Nat.le_refl _) _, by simpa [World.setCell] using hz, ?_, ?_⟩
              · rw [HN.out]; exact HT.out.near 4 _
              · rw [HN.out]; exact ownsRow_setCell_below HOWN.out (a := ⟨bt, 4, none⟩) hsz12 _
            case measure => simp [intOf]; omega
        · obtain rfl : k = f.moves.length := by omega
          have htc := hTb.cell
          have HIT := Lib.hid (own_ints hown).1
          have HGF : Hid (Grow w wr) := HG8.out.trans' (Below.mono HB.out HGW.out)
          obtain ⟨tt, htt⟩ : ∃ t : SeenD, t = ⟨t0, t1, t2, t3, lo, (min s.cl f.column), (max s.ch f.column), (min s.rl f.row), (max s.rh f.row), (min s.al x.age), (max s.ah x.age), ts⟩ := ⟨_, rfl⟩
          have hv : seenV tt A9 cap9 = .agg #[.int .i64 t0, .int .i64 t1, .int .i64 t2, .int .i64 t3, .int .i64 lo, .int .i64 (min s.cl f.column), .int .i64 (max s.ch f.column), .int .i64 (min s.rl f.row), .int .i64 (max s.rh f.row), .int .i64 (min s.al x.age), .int .i64 (max s.ah x.age), .slice A9 ts.length cap9] := by rw [htt]
          have hfd := HFI.out tt A9 cap9 wr HGF.out (by rw [htt]; exact HIT.out) (by rw [htt]; dsimp only; omega)
          rw [hv] at hfd
          have HFD := Lib.hid hfd
          rw [HST.out] at HTD
          rw [HTD.out, ← htt] at HSM HFND
          have HFE : Hid (findErr (l.map (·.d)) tt = 0) := by
            rw [Hid, findErr, if_pos HBE.out, if_pos HSM.out]
          clear htt hv
          have HYB := Lib.hid (HY8.out.below HB.out (by omega))
          clear hTb hown hfd hsc hxc
          go_wp2_with fail
          refine HFD.out.mono ?_
          rintro e w14 ⟨hb14, A14, cap14, r, rfl, hi14, -, ho14⟩
          rw [HFE.out]
          have hfd14 := ho14 HFE.out
          have hmem := HFND.out r hfd14
          have hrl : r.length ≤ 12 := Nat.le_trans (found_few hfd14) hl12
          have hdec : decide (y.d.sign ∈ r) = true := decide_eq_true hmem
          have hin := in_any A14 cap14 w14.heap.size r y.d.sign w14 hi14.ints (by omega)
          rw [hdec] at hin
          have HIN := Lib.hid hin
          clear hin hdec hfd14
          have HG14 : Hid (Grow w w14) := HGF.out.trans hb14
          have hyc := (Grow.block hb14 HYB.out).cell
          clear hfc htc hb14 hi14 ho14 hmem
          go_wp2_with fail
          refine HIN.out.mono ?_
          rintro e w15 ⟨rfl, rfl⟩
          clear hyc
          go_wp2_with fail
          refine (HWK.out _).mono ?_
          rintro e w16 ⟨rfl, hb16⟩
          have HG16 : Hid (Grow w w16) := HG14.out.trans hb16
          clear hb16
          go_wp2
          go_ret
          exact ⟨rfl, HG16.out⟩

end Go.Proofs.YtfpmkolaiomabaaGreat
