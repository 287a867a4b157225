/- SignsTwins: the law's walk. -/
import Derived.Test.YtfpmkolaiomabaaGreatClash
import Derived.Test.YtfpmkolaiomabaaGreatWorks
import Derived.Test.YtfpmkolaiomabaaGreatShown
import Derived.Test.YtfpmkolaiomabaaGreatSigner
import Derived.Test.YtfpmkolaiomabaaGreatRSeen
namespace Go.Proofs.YtfpmkolaiomabaaGreat
open Go.RowKit

theorem own_pairs {w : World} {lo n cap : Nat} {A : Option Addr} {ps : List (Int × Int)} (h : w.ownsRow lo 76 2 (.slice A n cap) n (ps.flatMap encP)) {k : Nat} (hk : k < ps.length) :
    ∃ b p q, A = some ⟨b, 0, none⟩ ∧ b < w.heap.size ∧ Hid (ps[k]? = some (p, q)) ∧ w.cell? ⟨b, k * 2, none⟩ = some (.int .i64 p) ∧ w.cell? ⟨b, k * 2 + 1, none⟩ = some (.int .i64 q) := by
  have hl : n = ps.length := by
    have := h.1
    rw [flat_length (k := 2) (fun _ => rfl)] at this
    omega
  rcases h.2 with ⟨h0, h2⟩ | ⟨g, c, cur, hv, hg, hh, h2, h3, h4, h5⟩
  · omega
  · injection hv with e1 e2 e3
    subst e1 e3
    have hi : ps[k]? = some ps[k] := List.getElem?_eq_getElem hk
    generalize ps[k] = x at hi
    obtain ⟨p, q⟩ := x
    have key : ∀ j (hj : j < 2), w.cell? ⟨g, k * 2 + j, none⟩ = (encP (p, q))[j]? := fun j hj => by
      have hf := flat_get (enc := encP) (k := 2) (fun _ => rfl) ps k j hj
      rw [hi, Option.bind_some] at hf
      have hjl : j < (encP (p, q)).length := hj
      have hc := h.cells (g := g) rfl (k * 2 + j) ((encP (p, q))[j]) (by rw [hf]; exact List.getElem?_eq_getElem hjl)
      rw [show (⟨g, 0, none⟩ : Addr).add (k * 2 + j) = ⟨g, k * 2 + j, none⟩ by (simp [Addr.add]; omega)] at hc
      rw [hc, ← List.getElem?_eq_getElem hjl]
    exact ⟨g, p, q, rfl, (Array.getElem?_eq_some_iff.1 hh).1, hi, key 0 (by omega), key 1 (by omega)⟩
theorem twinTo_zero (ps : List (Int × Int)) (n o : Int) : twinTo ps n o 0 = decide (n = o) := by simp [twinTo]
/-- v points to a new sight -/
def NewT (lo : Nat) (v : Value) (w : World) : Prop := ∃ b, v = .pointer (some ⟨b, 0, none⟩) ∧ lo ≤ b ∧ BlockIs w b 50 #[.int .i64 0, .int .i64 0, .int .i64 0, .int .i64 0, .int .i64 0, .int .i64 0, .int .i64 0, .int .i64 0, .int .i64 0, .int .i64 0, .int .i64 0, .slice none 0 0]
theorem NewT.grow {lo : Nat} {v : Value} {w w' : World} (h : NewT lo v w) (g : Grow w w') : NewT lo v w' := by
  obtain ⟨b, h1, h2, h3⟩ := h
  exact ⟨b, h1, h2, g.block h3⟩
/-- v is a slice of one integer of its own -/
def NewI (m : Int) (v : Value) (w : World) : Prop := ∃ b, v = .slice (some ⟨b, 0, none⟩) 1 1 ∧ BlockIs w b 3 #[.int .i64 m]
theorem NewI.grow {m : Int} {v : Value} {w w' : World} (h : NewI m v w) (g : Grow w w') : NewI m v w' := by
  obtain ⟨b, h1, h2⟩ := h
  exact ⟨b, h1, g.block h2⟩

set_option maxRecDepth 100000 in
set_option maxHeartbeats 16000000 in
theorem signsTwins_off (A : Option Addr) (cap : Nat) (l : List EntryR) (x : SignerD) (y : EntryR) (w : World) (hA : EntsO w w.heap.size A l) (hl : l.length ≤ 9223372036854775807)
    (hr : readyD (l.map (·.d)) = true) (hx0 : 0 ≤ x.entry) (hx1 : x.entry < l.length) (hy : l[x.entry.toNat]? = some y)
    (hQ : ¬((0 ≤ x.region ∧ x.region ≤ 7) ∧ hasD y.d.regions x.region = true ∧ y.d.low ≤ x.age ∧ x.age ≤ y.d.high)) :
    Calls Tryz.prog 13 #[.slice A l.length cap, signerV x] w fun e w' => e = .returned (.bool true) ∧ Below w.heap.size w w' := by
  have HWK := Lib.hid works_any
  obtain ⟨hl12, hent, -, hbe, hlong⟩ := ready_ok hr
  have hE : Ents w w.heap.size A l := (hA.short hlong).1
  have hyl : y ∈ l := List.mem_of_getElem? hy
  have hoky : okEntry y.d = true := hent y.d (List.mem_map.2 ⟨y, hyl, rfl⟩)
  rw [List.length_map] at hl12
  have HRD := Lib.hid (fun (w0 : World) (h : Grow w w0) => by have k := ready_any A cap w.heap.size l w0 (hA.below h) hl h.size; rw [hr] at k; exact k)
  obtain ⟨b, off, hAe, hb, hcx⟩ : ∃ b off, A = some ⟨b, off, none⟩ ∧ b < w.heap.size ∧ ∀ j, j < 11 → w.cell? ⟨b, off + x.entry.toNat * 11 + j, none⟩ = (cellsE y)[j]? := by
    rcases hE.1 with e | ⟨b, off, e, hb, hc⟩
    · rw [e] at hy; cases hy
    · exact ⟨b, off, e, hb, hc _ _ hy⟩
  have hmy : Ints w w.heap.size y.A y.d.form.moves := (hE.2 y hyl).1
  have HEN := Lib.hid hE
  subst hAe
  have HCX := Lib.hid (fun (w0 : World) (h : Grow w w0) (j : Nat) (hj : j < 11) => (Below.cell (p := ⟨b, off + x.entry.toNat * 11 + j, none⟩) h hb).trans (hcx j hj))
  have hfoy := okEntry_okForm hoky
  have HMY := Lib.hid hmy
  have hxn : (x.entry.toNat : Int) = x.entry := by omega
  have e1 : decide (x.entry < 0) = false := decide_eq_false (by omega)
  have e2 : decide ((l.length : Int) ≤ x.entry) = false := decide_eq_false (by omega)
  have hyr : 1 ≤ y.d.regions ∧ y.d.regions ≤ 255 := entry_regions hoky
  clear hA hE hent hbe hlong hr hcx hmy hy HEN HMY
  go_enter Tryz.func13, Tryz.ntmps13
  go_upto_region 1 with fail
  obtain ⟨W, hW, hg, hX, hsz⟩ := one_block w 72 (cellsX x)
  rw [hW]
  clear hW
  have HG := Lib.hid hg
  have HX := Lib.hid hX
  clear hg hX
  go_wp2_with fail
  refine (HRD.out _ HG.out).mono ?_
  rintro e w3 ⟨rfl, hb2⟩
  have HG3 : Hid (Grow w w3) := HG.out.trans hb2
  have HX3 := Lib.hid (Grow.block hb2 HX.out)
  have hxc := HX3.out.cell
  clear hb2
  have hx0' : w3.cell? ⟨b, off + x.entry.toNat * 11, none⟩ = some (.int .i64 y.d.id) := HCX.out w3 HG3.out 0 (by omega)
  have hx1' : w3.cell? ⟨b, off + x.entry.toNat * 11 + 1, none⟩ = some (.int .i64 y.d.sign) := HCX.out w3 HG3.out 1 (by omega)
  have hx2' : w3.cell? ⟨b, off + x.entry.toNat * 11 + 2, none⟩ = some (.int .i64 y.d.regions) := HCX.out w3 HG3.out 2 (by omega)
  have hx3' : w3.cell? ⟨b, off + x.entry.toNat * 11 + 3, none⟩ = some (.int .i64 y.d.form.right) := HCX.out w3 HG3.out 3 (by omega)
  have hx4' : w3.cell? ⟨b, off + x.entry.toNat * 11 + 4, none⟩ = some (.int .i64 y.d.form.left) := HCX.out w3 HG3.out 4 (by omega)
  have hx5' : w3.cell? ⟨b, off + x.entry.toNat * 11 + 5, none⟩ = some (.int .i64 y.d.form.column) := HCX.out w3 HG3.out 5 (by omega)
  have hx6' : w3.cell? ⟨b, off + x.entry.toNat * 11 + 6, none⟩ = some (.int .i64 y.d.form.row) := HCX.out w3 HG3.out 6 (by omega)
  have hx7' : w3.cell? ⟨b, off + x.entry.toNat * 11 + 7, none⟩ = some (.int .i64 y.d.form.face) := HCX.out w3 HG3.out 7 (by omega)
  have hx8' : w3.cell? ⟨b, off + x.entry.toNat * 11 + 8, none⟩ = some (.slice y.A y.d.form.moves.length y.cap) := HCX.out w3 HG3.out 8 (by omega)
  have hx9' : w3.cell? ⟨b, off + x.entry.toNat * 11 + 9, none⟩ = some (.int .i64 y.d.low) := HCX.out w3 HG3.out 9 (by omega)
  have hx10' : w3.cell? ⟨b, off + x.entry.toNat * 11 + 10, none⟩ = some (.int .i64 y.d.high) := HCX.out w3 HG3.out 10 (by omega)
  go_upto_region 4 with fail
  obtain ⟨W4, hW4, hg4, hY4, hsz4⟩ := one_block w3 62 (cellsE y)
  rw [hW4]
  clear hW4
  have HG4 : Hid (Grow w W4) := HG3.out.trans hg4
  have HX4 := Lib.hid (hg4.block HX3.out)
  have HY4 := Lib.hid hY4
  clear hx0' hx1' hx2' hx3' hx4' hx5' hx6' hx7' hx8' hx9' hx10' hxc
  have hxc := HX4.out.cell
  have hyc := HY4.out.cell
  clear hg4 hY4
  have hcase : x.region < 0 ∨ (0 ≤ x.region ∧ 7 < x.region) ∨ (0 ≤ x.region ∧ x.region ≤ 7 ∧ (hasD y.d.regions x.region = false ∨ hasD y.d.regions x.region = true ∧ (x.age < y.d.low ∨ y.d.low ≤ x.age ∧ y.d.high < x.age))) := by
    by_cases g1 : x.region < 0
    · exact .inl g1
    · by_cases g2 : 7 < x.region
      · exact .inr (.inl ⟨by omega, g2⟩)
      · refine .inr (.inr ⟨by omega, by omega, ?_⟩)
        cases g3 : hasD y.d.regions x.region with
        | false => exact .inl rfl
        | true =>
          refine .inr ⟨rfl, ?_⟩
          by_cases g4 : x.age < y.d.low
          · exact .inl g4
          · exact .inr ⟨by omega, by
              by_cases g5 : y.d.high < x.age
              · exact g5
              · exact absurd ⟨⟨by omega, by omega⟩, g3, by omega, by omega⟩ hQ⟩
  have hbv : bits .and .i64 (y.d.regions / 2 ^ x.region.toNat) 1 = y.d.regions / 2 ^ x.region.toNat % 2 := by
    have h1 := shr_bounds (s := y.d.regions) (k := x.region.toNat) (by omega) (by omega)
    exact and_one h1.1 h1.2
  have hhd : hasD y.d.regions x.region = decide (y.d.regions / 2 ^ x.region.toNat % 2 = 1) := rfl
  have h01 : y.d.regions / 2 ^ x.region.toNat % 2 = 0 ∨ y.d.regions / 2 ^ x.region.toNat % 2 = 1 := by omega
  clear hQ hoky hyl hfoy
  rcases hcase with g | ⟨g0, g⟩ | ⟨g0, g7, g | ⟨g, g1 | ⟨g1, g2⟩⟩⟩
  · have e4 : decide (x.region < 0) = true := decide_eq_true g
    clear hbv hhd h01
    go_wp2_with fail
    refine (HWK.out _).mono ?_
    rintro e w13 ⟨rfl, hb13⟩
    have HG13 : Hid (Grow w w13) := HG4.out.trans hb13
    clear hb13
    go_wp2
    go_ret
    exact ⟨rfl, HG13.out⟩
  · have e4 : decide (x.region < 0) = false := decide_eq_false (by omega)
    have e5 : decide (7 < x.region) = true := decide_eq_true g
    clear hbv hhd h01
    go_wp2_with fail
    refine (HWK.out _).mono ?_
    rintro e w13 ⟨rfl, hb13⟩
    have HG13 : Hid (Grow w w13) := HG4.out.trans hb13
    clear hb13
    go_wp2
    go_ret
    exact ⟨rfl, HG13.out⟩
  · have e4 : decide (x.region < 0) = false := decide_eq_false (by omega)
    have e5 : decide (7 < x.region) = false := decide_eq_false (by omega)
    have hbit : bits .and .i64 (y.d.regions / 2 ^ x.region.toNat) 1 = 0 := by
      rw [hbv]
      rw [hhd] at g
      simp at g
      omega
    clear hbv hhd h01 g
    go_wp2_with fail
    refine (HWK.out _).mono ?_
    rintro e w13 ⟨rfl, hb13⟩
    have HG13 : Hid (Grow w w13) := HG4.out.trans hb13
    clear hb13
    go_wp2
    go_ret
    exact ⟨rfl, HG13.out⟩
  · have e4 : decide (x.region < 0) = false := decide_eq_false (by omega)
    have e5 : decide (7 < x.region) = false := decide_eq_false (by omega)
    have e6 : decide (x.age < y.d.low) = true := decide_eq_true g1
    have hbit : bits .and .i64 (y.d.regions / 2 ^ x.region.toNat) 1 = 1 := by
      rw [hbv]
      rw [hhd] at g
      simpa using g
    clear hbv hhd h01 g
    go_wp2_with fail
    refine (HWK.out _).mono ?_
    rintro e w13 ⟨rfl, hb13⟩
    have HG13 : Hid (Grow w w13) := HG4.out.trans hb13
    clear hb13
    go_wp2
    go_ret
    exact ⟨rfl, HG13.out⟩
  · have e4 : decide (x.region < 0) = false := decide_eq_false (by omega)
    have e5 : decide (7 < x.region) = false := decide_eq_false (by omega)
    have e6 : decide (x.age < y.d.low) = false := decide_eq_false (by omega)
    have e7 : decide (y.d.high < x.age) = true := decide_eq_true g2
    have hbit : bits .and .i64 (y.d.regions / 2 ^ x.region.toNat) 1 = 1 := by
      rw [hbv]
      rw [hhd] at g
      simpa using g
    clear hbv hhd h01 g
    go_wp2_with fail
    refine (HWK.out _).mono ?_
    rintro e w13 ⟨rfl, hb13⟩
    have HG13 : Hid (Grow w w13) := HG4.out.trans hb13
    clear hb13
    go_wp2
    go_ret
    exact ⟨rfl, HG13.out⟩

set_option maxRecDepth 100000 in
set_option maxHeartbeats 16000000 in
theorem signsTwins_out (A : Option Addr) (cap : Nat) (l : List EntryR) (x : SignerD) (w : World) (hA : EntsO w w.heap.size A l) (hl : l.length ≤ 9223372036854775807)
    (hP : ¬(readyD (l.map (·.d)) = true ∧ 0 ≤ x.entry ∧ x.entry < l.length)) :
    Calls Tryz.prog 13 #[.slice A l.length cap, signerV x] w fun e w' => e = .returned (.bool true) ∧ Below w.heap.size w w' := by
  have HWK := Lib.hid works_any
  have HRD := Lib.hid (fun (w0 : World) (h : Grow w w0) => ready_any A cap w.heap.size l w0 (hA.below h) hl h.size)
  have HP := Lib.hid hP
  clear hA hP
  go_enter Tryz.func13, Tryz.ntmps13
  go_upto_region 1 with fail
  obtain ⟨W, hW, hg, hX, hsz⟩ := one_block w 72 (cellsX x)
  rw [hW]
  clear hW
  have HG := Lib.hid hg
  have HX := Lib.hid hX
  clear hg hX
  go_wp2_with fail
  refine (HRD.out _ HG.out).mono ?_
  rintro e w3 ⟨rfl, hb2⟩
  have HG3 : Hid (Grow w w3) := HG.out.trans hb2
  have HX3 := Lib.hid (Grow.block hb2 HX.out)
  have hxc := HX3.out.cell
  clear hb2
  generalize readyD (l.map (·.d)) = rd at HP ⊢
  cases rd with
  | false =>
    go_wp2_with fail
    refine (HWK.out _).mono ?_
    rintro e w13 ⟨rfl, hb13⟩
    have HG13 : Hid (Grow w w13) := HG3.out.trans hb13
    clear hb13
    go_wp2
    go_ret
    exact ⟨rfl, HG13.out⟩
  | true =>
    by_cases h0 : x.entry < 0
    · have e1 : decide (x.entry < 0) = true := decide_eq_true h0
      go_wp2_with fail
      refine (HWK.out _).mono ?_
      rintro e w13 ⟨rfl, hb13⟩
      have HG13 : Hid (Grow w w13) := HG3.out.trans hb13
      clear hb13
      go_wp2
      go_ret
      exact ⟨rfl, HG13.out⟩
    · have e1 : decide (x.entry < 0) = false := decide_eq_false h0
      have e2 : decide ((l.length : Int) ≤ x.entry) = true := decide_eq_true (by
        by_cases h : (l.length : Int) ≤ x.entry
        · exact h
        · exact absurd ⟨rfl, by omega, by omega⟩ HP.out)
      go_wp2_with fail
      refine (HWK.out _).mono ?_
      rintro e w13 ⟨rfl, hb13⟩
      have HG13 : Hid (Grow w w13) := HG3.out.trans hb13
      clear hb13
      go_wp2
      go_ret
      exact ⟨rfl, HG13.out⟩

set_option maxRecDepth 100000 in
set_option maxHeartbeats 32000000 in
theorem signsTwins_ready (A : Option Addr) (cap : Nat) (l : List EntryR) (x : SignerD) (y : EntryR) (w : World) (hA : EntsO w w.heap.size A l) (hl : l.length ≤ 9223372036854775807)
    (hr : readyD (l.map (·.d)) = true) (hx0 : 0 ≤ x.entry) (hx1 : x.entry < l.length) (hy : l[x.entry.toNat]? = some y) (hreg : 0 ≤ x.region ∧ x.region ≤ 7) (hyreg : hasD y.d.regions x.region = true)
    (hage : y.d.low ≤ x.age ∧ x.age ≤ y.d.high) :
    Calls Tryz.prog 13 #[.slice A l.length cap, signerV x] w fun e w' => e = .returned (.bool true) ∧ Below w.heap.size w w' := by
  have HWK := Lib.hid works_any
  obtain ⟨hl12, hent, -, hbe, hlong⟩ := ready_ok hr
  have hE : Ents w w.heap.size A l := (hA.short hlong).1
  have hyl : y ∈ l := List.mem_of_getElem? hy
  have hoky : okEntry y.d = true := hent y.d (List.mem_map.2 ⟨y, hyl, rfl⟩)
  rw [List.length_map] at hl12
  have HRD := Lib.hid (fun (w0 : World) (h : Grow w w0) => by have k := ready_any A cap w.heap.size l w0 (hA.below h) hl h.size; rw [hr] at k; exact k)
  obtain ⟨b, off, hAe, hb, hcx⟩ : ∃ b off, A = some ⟨b, off, none⟩ ∧ b < w.heap.size ∧ ∀ j, j < 11 → w.cell? ⟨b, off + x.entry.toNat * 11 + j, none⟩ = (cellsE y)[j]? := by
    rcases hE.1 with e | ⟨b, off, e, hb, hc⟩
    · rw [e] at hy; cases hy
    · exact ⟨b, off, e, hb, hc _ _ hy⟩
  have hmy : Ints w w.heap.size y.A y.d.form.moves := (hE.2 y hyl).1
  have HEN := Lib.hid hE
  subst hAe
  have HCX := Lib.hid (fun (w0 : World) (h : Grow w w0) (j : Nat) (hj : j < 11) => (Below.cell (p := ⟨b, off + x.entry.toNat * 11 + j, none⟩) h hb).trans (hcx j hj))
  have hfoy := okEntry_okForm hoky
  have HMY := Lib.hid hmy
  have hxn : (x.entry.toNat : Int) = x.entry := by omega
  have e1 : decide (x.entry < 0) = false := decide_eq_false (by omega)
  have e2 : decide ((l.length : Int) ≤ x.entry) = false := decide_eq_false (by omega)
  have hyr : 1 ≤ y.d.regions ∧ y.d.regions ≤ 255 := entry_regions hoky
  have HFI := Lib.hid (fun (t : SeenD) (A2 : Option Addr) (cap2 : Nat) (w0 : World) (h : Grow w w0) (hi : Ints w0 w0.heap.size A2 t.moves) (hlt : t.moves.length ≤ 1000000) => Find_any (some ⟨b, off, none⟩) A2 cap cap2 w0.heap.size l t w0 ((hE.below h).more h.size) (by omega) hi hlt (Nat.le_refl _))
  have HTW := Lib.hid (fun (w0 : World) (h : Grow w w0) => Twins_any (some ⟨b, off, none⟩) cap w.heap.size l w0 (hE.below h) (by omega) h.size)
  have HCMP := Lib.hid (fun (u v : EntryR) (hu : u ∈ l) (hv : v ∈ l) (w0 : World) (h : Grow w w0) => Compare_any u.d.form v.d.form u.A v.A u.cap v.cap w.heap.size w0 ((hE.2 u hu).1.below h) ((hE.2 v hv).1.below h) h.size (hE.2 u hu).2 (hE.2 v hv).2)
  have HCR := Lib.hid (fun (u v : EntryR) (hu : u ∈ l) (hv : v ∈ l) => show compareR u.d.form v.d.form = (cmpF (canonD u.d.form) (canonD v.d.form), 0) by
    unfold compareR
    rw [if_pos ⟨okEntry_okForm (hent u.d (List.mem_map.2 ⟨u, hu, rfl⟩)), okEntry_okForm (hent v.d (List.mem_map.2 ⟨v, hv, rfl⟩))⟩])
  have HAGE := Lib.hid (fun (u : EntryR) (hu : u ∈ l) => okEntry_ages (hent u.d (List.mem_map.2 ⟨u, hu, rfl⟩)))
  have HBE := Lib.hid hbe
  have hydl : y.d ∈ l.map (·.d) := List.mem_map.2 ⟨y, hyl, rfl⟩
  have HSO : Hid (okSeen (showD y.d.form x.region x.age) = true) := show_ok hfoy hreg
  have HSF := Lib.hid (fun (r : List Int) (h : FoundD (showD y.d.form x.region x.age) (l.map (·.d)) r) => show_found hydl hoky hreg hyreg hage h)
  have HT1 := Lib.hid (fun (r : List Int) (ps : List (Int × Int)) (h : FoundD (showD y.d.form x.region x.age) (l.map (·.d)) r) (k : TwinsD (l.map (·.d)) ps) (n : Int) (hn : n ∈ r) => twinTo_all (twins_first hent hydl hreg hyreg hage h k hn))
  have HT2 := Lib.hid (fun (ps : List (Int × Int)) (k : TwinsD (l.map (·.d)) ps) (p : Int × Int) (hp : p ∈ ps) => twins_second hent k hp)
  have e4 : decide (x.region < 0) = false := decide_eq_false (by omega)
  have e5 : decide (7 < x.region) = false := decide_eq_false (by omega)
  have e6 : decide (x.age < y.d.low) = false := decide_eq_false (by omega)
  have e7 : decide (y.d.high < x.age) = false := decide_eq_false (by omega)
  have hbit : bits .and .i64 (y.d.regions / 2 ^ x.region.toNat) 1 = 1 := by
    have h1 := shr_bounds (s := y.d.regions) (k := x.region.toNat) (by omega) (by omega)
    rw [and_one h1.1 h1.2]
    simpa [hasD] using hyreg
  obtain ⟨hreg0, hreg7⟩ := hreg
  obtain ⟨hage0, hage1⟩ := hage
  have hml : y.d.form.moves.length ≤ 6 := okForm_len hfoy
  have HFM := Lib.hid (okForm_mem hfoy)
  obtain ⟨⟨fr1, fr2⟩, ⟨fl1, fl2⟩, _, _, _, ⟨ff1, ff2⟩, _⟩ := okForm_iff.1 hfoy
  clear hA hE hent hbe hlong hr hcx hmy hy hydl hoky hyreg
  go_enter Tryz.func13, Tryz.ntmps13
  go_upto_region 1 with fail
  obtain ⟨W, hW, hg, hX, hsz⟩ := one_block w 72 (cellsX x)
  rw [hW]
  clear hW
  have HG := Lib.hid hg
  have HX := Lib.hid hX
  clear hg hX
  go_wp2_with fail
  refine (HRD.out _ HG.out).mono ?_
  rintro e w3 ⟨rfl, hb2⟩
  have HG3 : Hid (Grow w w3) := HG.out.trans hb2
  have HX3 := Lib.hid (Grow.block hb2 HX.out)
  have hxc := HX3.out.cell
  clear hb2
  have hx0' : w3.cell? ⟨b, off + x.entry.toNat * 11, none⟩ = some (.int .i64 y.d.id) := HCX.out w3 HG3.out 0 (by omega)
  have hx1' : w3.cell? ⟨b, off + x.entry.toNat * 11 + 1, none⟩ = some (.int .i64 y.d.sign) := HCX.out w3 HG3.out 1 (by omega)
  have hx2' : w3.cell? ⟨b, off + x.entry.toNat * 11 + 2, none⟩ = some (.int .i64 y.d.regions) := HCX.out w3 HG3.out 2 (by omega)
  have hx3' : w3.cell? ⟨b, off + x.entry.toNat * 11 + 3, none⟩ = some (.int .i64 y.d.form.right) := HCX.out w3 HG3.out 3 (by omega)
  have hx4' : w3.cell? ⟨b, off + x.entry.toNat * 11 + 4, none⟩ = some (.int .i64 y.d.form.left) := HCX.out w3 HG3.out 4 (by omega)
  have hx5' : w3.cell? ⟨b, off + x.entry.toNat * 11 + 5, none⟩ = some (.int .i64 y.d.form.column) := HCX.out w3 HG3.out 5 (by omega)
  have hx6' : w3.cell? ⟨b, off + x.entry.toNat * 11 + 6, none⟩ = some (.int .i64 y.d.form.row) := HCX.out w3 HG3.out 6 (by omega)
  have hx7' : w3.cell? ⟨b, off + x.entry.toNat * 11 + 7, none⟩ = some (.int .i64 y.d.form.face) := HCX.out w3 HG3.out 7 (by omega)
  have hx8' : w3.cell? ⟨b, off + x.entry.toNat * 11 + 8, none⟩ = some (.slice y.A y.d.form.moves.length y.cap) := HCX.out w3 HG3.out 8 (by omega)
  have hx9' : w3.cell? ⟨b, off + x.entry.toNat * 11 + 9, none⟩ = some (.int .i64 y.d.low) := HCX.out w3 HG3.out 9 (by omega)
  have hx10' : w3.cell? ⟨b, off + x.entry.toNat * 11 + 10, none⟩ = some (.int .i64 y.d.high) := HCX.out w3 HG3.out 10 (by omega)
  go_upto_region 4 with fail
  obtain ⟨W4, hW4, hg4, hY4, hsz4⟩ := one_block w3 62 (cellsE y)
  rw [hW4]
  clear hW4
  have HG4 : Hid (Grow w W4) := HG3.out.trans hg4
  have HX4 := Lib.hid (hg4.block HX3.out)
  have HY4 := Lib.hid hY4
  clear hx0' hx1' hx2' hx3' hx4' hx5' hx6' hx7' hx8' hx9' hx10' hxc
  have hxc := HX4.out.cell
  have hyc := HY4.out.cell
  clear hg4 hY4
  have hp1 := pow_32 (i := (y.d.form.right + 1).toNat) (by omega)
  have hp2 := pow_32 (i := (y.d.form.left + 1).toNat) (by omega)
  have hp3 := pow_32 (i := y.d.form.face.toNat) (by omega)
  have hp4 := pow_32 (i := x.region.toNat) (by omega)
  have hw1 : IntKind.i64.wrap (2 ^ (y.d.form.right + 1).toNat) = (2 ^ (y.d.form.right + 1).toNat) := IntWalk.i64_in _ (by omega)
  have hw2 : IntKind.i64.wrap (2 ^ (y.d.form.left + 1).toNat) = (2 ^ (y.d.form.left + 1).toNat) := IntWalk.i64_in _ (by omega)
  have hw3 : IntKind.i64.wrap (2 ^ y.d.form.face.toNat) = (2 ^ y.d.form.face.toNat) := IntWalk.i64_in _ (by omega)
  have hw4 : IntKind.i64.wrap (2 ^ x.region.toNat) = (2 ^ x.region.toNat) := IntWalk.i64_in _ (by omega)
  have hu1 : IntKind.u64.wrap (y.d.form.right + 1) = y.d.form.right + 1 := IntWalk.u64_in _ (by omega)
  have hu2 : IntKind.u64.wrap (y.d.form.left + 1) = y.d.form.left + 1 := IntWalk.u64_in _ (by omega)
  have hu3 : IntKind.u64.wrap y.d.form.face = y.d.form.face := IntWalk.u64_in _ (by omega)
  have hu4 : IntKind.u64.wrap x.region = x.region := IntWalk.u64_in _ (by omega)
  have hw5 : IntKind.i64.wrap (y.d.form.right + 1) = y.d.form.right + 1 := IntWalk.i64_in _ (by omega)
  have hw6 : IntKind.i64.wrap (y.d.form.left + 1) = y.d.form.left + 1 := IntWalk.i64_in _ (by omega)
  obtain ⟨tt, htt⟩ : ∃ t : SeenD, t = showD y.d.form x.region x.age := ⟨_, rfl⟩
  rw [← htt] at HSO HSF HT1
  have HTT := Lib.hid htt
  clear htt hp1 hp2 hp3 hp4
  go_upto_region 7 with fail
  obtain ⟨W6, hW6, hg6, hF6, hsz6⟩ := one_block W4 24 (cellsF y.d.form y.A y.cap)
  rw [hW6]
  clear hW6
  have HG6 : Hid (Grow w W6) := HG4.out.trans hg6
  have HX6 := Lib.hid (hg6.block HX4.out)
  have HY6 := Lib.hid (hg6.block HY4.out)
  have HF6 := Lib.hid hF6
  clear hg6 hF6 hxc hyc e1 e2 e4 e5 e6 e7 hbit
  refine wp_region_lit 35 [[], [(0, 80)], [(1, 81)], [(2, 82)], [(3, 83)], [], [(5, 85)], [(6, 86)], [(7, 87)], [(8, 88)], [], [(10, 90)], [(11, 91)], [(12, 92)], [], [(14, 94)], [(15, 95)], [(16, 96)], [], [(18, 98)], [], [(20, 100)], [(19, 99), (21, 101)], [], [(23, 103)], [], [(25, 105)], [(24, 104), (26, 106)], [], [(28, 108)], [], [(30, 110)], [(29, 109), (31, 111)], [(4, 84), (9, 89), (13, 93), (17, 97), (22, 102), (27, 107), (32, 112)], []] Grow (fun i v w' => match i with
    | 0 => v = .pointer (some ⟨W4.heap.size, 0, none⟩)
    | 1 => v = .int .i64 y.d.form.right
    | 2 => v = .int .i64 (y.d.form.right + 1)
    | 3 => v = .int .u64 (y.d.form.right + 1)
    | 4 => v = .int .i64 (2 ^ (y.d.form.right + 1).toNat)
    | 5 => v = .pointer (some ⟨W4.heap.size, 1, none⟩)
    | 6 => v = .int .i64 y.d.form.left
    | 7 => v = .int .i64 (y.d.form.left + 1)
    | 8 => v = .int .u64 (y.d.form.left + 1)
    | 9 => v = .int .i64 (2 ^ (y.d.form.left + 1).toNat)
    | 10 => v = .pointer (some ⟨W4.heap.size, 4, none⟩)
    | 11 => v = .int .i64 y.d.form.face
    | 12 => v = .int .u64 y.d.form.face
    | 13 => v = .int .i64 (2 ^ y.d.form.face.toNat)
    | 14 => v = .pointer (some ⟨w.heap.size, 1, none⟩)
    | 15 => v = .int .i64 x.region
    | 16 => v = .int .u64 x.region
    | 17 => v = .int .i64 (2 ^ x.region.toNat)
    | 18 => v = .pointer (some ⟨W4.heap.size, 2, none⟩)
    | 19 => v = .int .i64 y.d.form.column
    | 20 => v = .pointer (some ⟨W4.heap.size, 2, none⟩)
    | 21 => v = .int .i64 y.d.form.column
    | 22 => v = .agg #[.int .i64 y.d.form.column, .int .i64 y.d.form.column]
    | 23 => v = .pointer (some ⟨W4.heap.size, 3, none⟩)
    | 24 => v = .int .i64 y.d.form.row
    | 25 => v = .pointer (some ⟨W4.heap.size, 3, none⟩)
    | 26 => v = .int .i64 y.d.form.row
    | 27 => v = .agg #[.int .i64 y.d.form.row, .int .i64 y.d.form.row]
    | 28 => v = .pointer (some ⟨w.heap.size, 2, none⟩)
    | 29 => v = .int .i64 x.age
    | 30 => v = .pointer (some ⟨w.heap.size, 2, none⟩)
    | 31 => v = .int .i64 x.age
    | 32 => v = .agg #[.int .i64 x.age, .int .i64 x.age]
    | 33 => v = .agg #[.int .i64 (2 ^ (y.d.form.right + 1).toNat), .int .i64 (2 ^ (y.d.form.left + 1).toNat), .int .i64 (2 ^ y.d.form.face.toNat), .int .i64 (2 ^ x.region.toNat), .int .i64 0, .int .i64 y.d.form.column, .int .i64 y.d.form.column, .int .i64 y.d.form.row, .int .i64 y.d.form.row, .int .i64 x.age, .int .i64 x.age, .slice none 0 0]
    | 34 => NewT W6.heap.size v w'
    | _ => False) (by kernel_rfl) (by kernel_rfl) (fun _ _ _ => Grow.trans) Grow.refl ?_ ?_ ?_
  · intro i v y y' h k
    match i, h with
    | 0, h | 1, h | 2, h | 3, h | 4, h | 5, h | 6, h | 7, h | 8, h | 9, h | 10, h | 11, h | 12, h | 13, h | 14, h | 15, h | 16, h | 17, h | 18, h | 19, h | 20, h | 21, h | 22, h | 23, h | 24, h | 25, h | 26, h | 27, h | 28, h | 29, h | 30, h | 31, h | 32, h | 33, h => exact h
    | 34, h => exact NewT.grow h k
  · simp only [StepsLit, List.take_succ_cons, List.take_zero]
    refine ⟨?_, ?_, ?_, ?_, ?_, ?_, ?_, ?_, ?_, ?_, ?_, ?_, ?_, ?_, ?_, ?_, ?_, ?_, ?_, ?_, ?_, ?_, ?_, ?_, ?_, ?_, ?_, ?_, ?_, ?_, ?_, ?_, ?_, ?_, ?_, trivial⟩
    all_goals
      intro w7 hR
      have HG7 := Lib.hid hR.of_drew
      have hxc := (HG7.out.block HX6.out).cell
      have hfc := (HG7.out.block HF6.out).cell
      clear hR
      simp only [depV, Region.wanted, cond_true]
      repeat (rintro _ rfl)
      try go_simp
    all_goals first
      | (with_reducible exact Grow.refl _)
      | (refine (spanL_any _ _ _).mono ?_; rintro e w' ⟨rfl, rfl⟩; exact ⟨Grow.alloc _ _, rfl⟩)
      | exact ⟨Grow.alloc _ _, ⟨_, rfl, HG7.out.size, BlockIs.new _ _ _⟩⟩
      | skip
  · intro w7 hR
    have HG7 := Lib.hid hR.of_drew
    clear hR
    simp only [finVC, List.take_succ_cons, List.take_zero, List.drop_succ_cons, List.drop_zero]
    rintro _ rfl _ rfl _ rfl _ rfl _ rfl _ rfl _ rfl _ rfl _ rfl _ rfl _ rfl _ rfl _ rfl _ rfl _ rfl _ rfl _ rfl _ rfl _ rfl _ rfl _ rfl _ rfl _ rfl _ rfl _ rfl _ rfl _ rfl _ rfl _ rfl _ rfl _ rfl _ rfl _ rfl _ rfl _ ⟨bt, rfl, hbt, hbT⟩
    simp only [Act.put, List.setIfInBounds_toArray, List.set_cons_succ, List.set_cons_zero]
    clear hw1 hw2 hw3 hw4 hw5 hw6 hu1 hu2 hu3 hu4
    have htf := hbT.frozen
    have htc := hbT.cell
    have HG7w : Hid (Grow w w7) := HG6.out.trans HG7.out
    have HX7 := Lib.hid (HG7.out.block HX6.out)
    have HY7 := Lib.hid (HG7.out.block HY6.out)
    have HF7 := Lib.hid (HG7.out.block HF6.out)
    go_upto_region 8 with fail
    obtain ⟨W8, hW8, hT8, HB8', hsz8⟩ : ∃ W', ((((((((((((w7.setCell ⟨bt, 0, none⟩ (.int .i64 (2 ^ (y.d.form.right + 1).toNat))).setCell ⟨bt, 1, none⟩ (.int .i64 (2 ^ (y.d.form.left + 1).toNat))).setCell ⟨bt, 2, none⟩ (.int .i64 (2 ^ y.d.form.face.toNat))).setCell ⟨bt, 3, none⟩ (.int .i64 (2 ^ x.region.toNat))).setCell ⟨bt, 4, none⟩ (.int .i64 0)).setCell ⟨bt, 5, none⟩ (.int .i64 y.d.form.column)).setCell ⟨bt, 6, none⟩ (.int .i64 y.d.form.column)).setCell ⟨bt, 7, none⟩ (.int .i64 y.d.form.row)).setCell ⟨bt, 8, none⟩ (.int .i64 y.d.form.row)).setCell ⟨bt, 9, none⟩ (.int .i64 x.age)).setCell ⟨bt, 10, none⟩ (.int .i64 x.age)).setCell ⟨bt, 11, none⟩ (.slice none 0 0)) = W' ∧ BlockIs W' bt 50 #[.int .i64 (2 ^ (y.d.form.right + 1).toNat), .int .i64 (2 ^ (y.d.form.left + 1).toNat), .int .i64 (2 ^ y.d.form.face.toNat), .int .i64 (2 ^ x.region.toNat), .int .i64 0, .int .i64 y.d.form.column, .int .i64 y.d.form.column, .int .i64 y.d.form.row, .int .i64 y.d.form.row, .int .i64 x.age, .int .i64 x.age, .slice none 0 0] ∧ Below bt w7 W' ∧ bt < W'.heap.size :=
      ⟨_, rfl, twelve_stores hbT (.int .i64 (2 ^ (y.d.form.right + 1).toNat)) (.int .i64 (2 ^ (y.d.form.left + 1).toNat)) (.int .i64 (2 ^ y.d.form.face.toNat)) (.int .i64 (2 ^ x.region.toNat)) (.int .i64 0) (.int .i64 y.d.form.column) (.int .i64 y.d.form.column) (.int .i64 y.d.form.row) (.int .i64 y.d.form.row) (.int .i64 x.age) (.int .i64 x.age) (.slice none 0 0), (((((((((((((Below.refl _ _).setCell (p := ⟨bt, 0, none⟩) (Nat.le_refl _) _).setCell (p := ⟨bt, 1, none⟩) (Nat.le_refl _) _).setCell (p := ⟨bt, 2, none⟩) (Nat.le_refl _) _).setCell (p := ⟨bt, 3, none⟩) (Nat.le_refl _) _).setCell (p := ⟨bt, 4, none⟩) (Nat.le_refl _) _).setCell (p := ⟨bt, 5, none⟩) (Nat.le_refl _) _).setCell (p := ⟨bt, 6, none⟩) (Nat.le_refl _) _).setCell (p := ⟨bt, 7, none⟩) (Nat.le_refl _) _).setCell (p := ⟨bt, 8, none⟩) (Nat.le_refl _) _).setCell (p := ⟨bt, 9, none⟩) (Nat.le_refl _) _).setCell (p := ⟨bt, 10, none⟩) (Nat.le_refl _) _).setCell (p := ⟨bt, 11, none⟩) (Nat.le_refl _) _), by simp [World.setCell]; exact hbT.lt⟩
    rw [hW8]
    clear hW8 htf htc hbT
    have hbx : w.heap.size < bt := by have := HX6.out.lt; omega
    have hby : w3.heap.size < bt := by have := HY6.out.lt; omega
    have hbf : W4.heap.size < bt := by have := HF6.out.lt; omega
    have HB8 := Lib.hid HB8'
    have HGW := Lib.hid (show w.heap.size ≤ bt by omega)
    have HI8 := Lib.hid (show Ints W8 bt y.A y.d.form.moves from (HMY.out.below (HG7w.out.trans' (HB8'.mono HGW.out))).more HGW.out)
    clear HB8' hbt
    obtain ⟨i0, hi, hz0, hz1, hz2⟩ := info_parts Tryz.infoInt
    go_wp2_with fail
    obtain ⟨ms, hms⟩ : ∃ ms : List Int, (y.d.form.moves.map fun m => 2 ^ m.toNat) = ms := ⟨_, rfl⟩
    have hmsl : ms.length = y.d.form.moves.length := by rw [← hms, List.length_map]
    have HMS := Lib.hid hms
    go_loopw [8] (fun i wr => ∃ (k : Nat) (A9 : Option Addr) (cap9 : Nat), k ≤ y.d.form.moves.length ∧ i = .int .i64 k ∧ Below bt W8 wr ∧ W8.heap.size ≤ wr.heap.size ∧ BlockIs wr bt 50 #[.int .i64 (2 ^ (y.d.form.right + 1).toNat), .int .i64 (2 ^ (y.d.form.left + 1).toNat), .int .i64 (2 ^ y.d.form.face.toNat), .int .i64 (2 ^ x.region.toNat), .int .i64 0, .int .i64 y.d.form.column, .int .i64 y.d.form.column, .int .i64 y.d.form.row, .int .i64 y.d.form.row, .int .i64 x.age, .int .i64 x.age, .slice A9 k cap9] ∧
      wr.ownsRow W8.heap.size 3 1 (.slice A9 k cap9) k ((ms.take k).map (Value.int .i64))) (fun i _ => y.d.form.moves.length - (intOf i).toNat)
    case atStart => exact ⟨0, none, 0, Nat.zero_le _, rfl, Below.refl _ _, Nat.le_refl _, hT8, by simp [World.ownsRow]⟩
    case round => as_aux_lemma =>
      obtain ⟨k, A9, cap9, hk, rfl, hbw, hz, hTb, hown⟩ := hrel
      rename World => wr
      have HBW := Lib.hid hbw
      have HT := Lib.hid hTb
      have HOWN := Lib.hid hown
      have hfc := (HF7.out.below (HB8.out.trans hbw) hbf).cell
      have htc := hTb.cell
      have ag := own_ne hown hsz8
      clear hbw hTb hown
      by_cases hlt : k < y.d.form.moves.length
      · obtain ⟨b2, off2, m, hAe, hb2, hc2, HM⟩ := (HI8.out.below HBW.out).at_ hlt
        obtain ⟨hm0, hm7⟩ := HFM.out m (List.mem_of_getElem? HM.out)
        have hpm := pow_255 hm0 hm7
        have hwm : IntKind.i64.wrap (2 ^ m.toNat) = 2 ^ m.toNat := IntWalk.i64_in _ (by omega)
        have hum : IntKind.u64.wrap m = m := IntWalk.u64_in _ (by omega)
        have HSM : Hid (ms[k]? = some (2 ^ m.toNat)) := by rw [Hid, ← HMS.out, List.getElem?_map, HM.out]; rfl
        have hltk : (k : Int) < y.d.form.moves.length := by omega
        have HC2 := Lib.hid hc2
        have HAE := Lib.hid hAe
        clear hc2 hAe
        go_upto_region 11 with fail
        have HFR := Lib.hid (HF7.out.below (HB8.out.trans HBW.out) hbf)
        clear hfc htc
        rw [HAE.out] at HFR
        refine wp_region_lit 10 [[], [(0, 121)], [], [(2, 123)], [], [(3, 124), (4, 125)], [(5, 126)], [(6, 127)], [(7, 128)], [(8, 129)]] Grow (fun i v w' => match i with
          | 0 => v = .pointer (some ⟨bt, 11, none⟩)
          | 1 => v = .slice A9 k cap9
          | 2 => v = .pointer (some ⟨W4.heap.size, 5, none⟩)
          | 3 => v = .slice (some ⟨b2, off2, none⟩) y.d.form.moves.length y.cap
          | 4 => v = .int .i64 k
          | 5 => v = .pointer (some ⟨b2, off2 + k, none⟩)
          | 6 => v = .int .i64 m
          | 7 => v = .int .u64 m
          | 8 => v = .int .i64 (2 ^ m.toNat)
          | 9 => NewI (2 ^ m.toNat) v w'
          | _ => False) (by kernel_rfl) (by kernel_rfl) (fun _ _ _ => Grow.trans) Grow.refl ?_ ?_ ?_
        · intro i v y y' h k
          match i, h with
          | 0, h | 1, h | 2, h | 3, h | 4, h | 5, h | 6, h | 7, h | 8, h => exact h
          | 9, h => exact NewI.grow h k
        · simp only [StepsLit, List.take_succ_cons, List.take_zero]
          refine ⟨?_, ?_, ?_, ?_, ?_, ?_, ?_, ?_, ?_, ?_, trivial⟩
          all_goals
            intro w9 hR
            have HG9 := Lib.hid hR.of_drew
            have htc := (HG9.out.block HT.out).cell
            have hfc := (HG9.out.block HFR.out).cell
            have hc2 : w9.cell? ⟨b2, off2 + k, none⟩ = some (.int .i64 m) := HG9.out.cell HC2.out
            clear hR
            simp only [depV, Region.wanted, cond_true]
            repeat (rintro _ rfl)
            try go_simp
          all_goals first
            | (with_reducible exact Grow.refl _)
            | exact ⟨Grow.alloc _ _, ⟨_, rfl, BlockIs.new _ _ _⟩⟩
            | skip
        · intro w9 hR
          have HG9 := Lib.hid hR.of_drew
          clear hR
          simp only [finVC, List.take_succ_cons, List.take_zero, List.drop_succ_cons, List.drop_zero]
          rintro _ rfl _ rfl _ rfl _ rfl _ rfl _ rfl _ rfl _ rfl _ rfl _ ⟨bn, rfl, hbn⟩
          simp only [Act.put, List.setIfInBounds_toArray, List.set_cons_succ, List.set_cons_zero]
          have hown9 := own_grow HOWN.out HG9.out
          have HOWN9 := Lib.hid hown9
          have HBN := Lib.hid hbn
          have HT9 := Lib.hid (HG9.out.block HT.out)
          have hz9 := HG9.out.size
          clear hown9 hbn hwm hum
          go_wp2_with (at_builtin; refine wpList_append_own _ rfl _ _ 22 rfl W8.heap.size 3 i0 (.int .i64 0) 1 8 Tryz.underlying22 hi hz0 hz1 hz2 rfl (by decide) _ _ _ rfl HOWN9.out ⟨bn, 0, none⟩ 1 1 [.int .i64 (2 ^ m.toNat)] rfl rfl ?c1 ?c2 ?c3 ?c4 ?c5 ?_)
          case c1 => exact news_one HBN.out
          case c2 => simp [Value.oneCell']
          case c3 => unfold maxLen; omega
          case c4 => omega
          case c5 => omega
          intro v' w13 hown3 hgrow _
          obtain ⟨A2, cap2, rfl⟩ := own_form hown3
          have hT3 := HT9.out.grown hgrow (Ne.symm ag)
          have HT3 := Lib.hid hT3
          have HOWN3 := Lib.hid hown3
          have HGR := Lib.hid hgrow
          have htf := hT3.frozen
          have htc := hT3.cell
          clear hT3 hown3 hgrow
          go_wp2
          go_roundw
          case rel =>
            refine ⟨k + 1, A2, cap2, by omega, by go_num, ?_, ?_, ?_, ?_⟩
            · exact ((HBW.out.trans (HG9.out.mono (by omega))).grown HGR.out (by omega) (fun q hq => by have := own_ge HOWN.out q hq; omega)).setCell (p := ⟨bt, 11, none⟩) (Nat.le_refl _) _
            · have := HGR.out.size
              simp [World.setCell] at this ⊢
              omega
            · have := HT3.out.near 11 (.slice A2 (k + 1) cap2)
              simpa using this
            · rw [take_snoc HSM.out]
              have := ownsRow_setCell_below HOWN3.out (a := ⟨bt, 11, none⟩) hsz8 (.slice A2 (k + 1) cap2)
              simpa using this
          case measure => simp [intOf]; omega
      · obtain rfl : k = y.d.form.moves.length := by omega
        have htc0 := HT.out
        have hcs : cellsS tt A9 cap9 = #[.int .i64 (2 ^ (y.d.form.right + 1).toNat), .int .i64 (2 ^ (y.d.form.left + 1).toNat), .int .i64 (2 ^ y.d.form.face.toNat), .int .i64 (2 ^ x.region.toNat), .int .i64 0, .int .i64 y.d.form.column, .int .i64 y.d.form.column, .int .i64 y.d.form.row, .int .i64 y.d.form.row, .int .i64 x.age, .int .i64 x.age, .slice A9 y.d.form.moves.length cap9] := by
          rw [HTT.out]
          unfold showD
          rw [← hmsl, ← HMS.out]
        rw [← hcs] at htc0
        have HTB := Lib.hid htc0
        have HGF : Hid (Grow w wr) := HG7w.out.trans' ((HB8.out.trans HBW.out).mono HGW.out)
        have HIT : Hid (Ints wr wr.heap.size A9 tt.moves) := by
          have h1 := (own_ints HOWN.out).1
          rw [Hid, HTT.out]
          unfold showD
          dsimp only
          rw [HMS.out]
          rwa [← hmsl, List.take_length] at h1
        have HTL : Hid (tt.moves.length ≤ 1000000) := by rw [Hid, HTT.out]; unfold showD; dsimp only; rw [HMS.out]; omega
        have HFE : Hid (findErr (l.map (·.d)) tt = 0) := by rw [Hid, findErr, if_pos HBE.out, if_pos HSO.out]
        have HYB := Lib.hid (HY7.out.below (HB8.out.trans HBW.out) hby)
        clear hcs htc0 htc ag
        have htc := HTB.out.cell
        go_wp2_with fail
        refine (HFI.out tt A9 cap9 wr HGF.out HIT.out HTL.out).mono ?_
        rintro e w14 ⟨hb14, A14, cap14, r, rfl, hi14, -, ho14⟩
        rw [HFE.out]
        have HFD := Lib.hid (ho14 HFE.out)
        have hrl : r.length ≤ 12 := Nat.le_trans (found_few HFD.out) hl12
        have HI14 := Lib.hid hi14.ints
        have HG14 : Hid (Grow w w14) := HGF.out.trans hb14
        have HY14 := Lib.hid (Grow.block hb14 HYB.out)
        clear htc hfc hb14 hi14 ho14
        go_wp2_with fail
        refine (HTW.out w14 HG14.out).mono ?_
        rintro e w15 ⟨hb15, A15, cap15, ps, rfl, hown15, -, ho15⟩
        rw [HBE.out]
        have HTD := Lib.hid (ho15 HBE.out)
        have HOWP := Lib.hid hown15
        have HG15 : Hid (Grow w w15) := HG14.out.trans hb15
        have HY15 := Lib.hid (Grow.block hb15 HY14.out)
        have HI15 := Lib.hid ((HI14.out.below hb15).more hb15.size)
        have hpl : ps.length ≤ 9223372036854775807 := by
          have h1 := hown15.2
          rcases h1 with ⟨_, h2⟩ | ⟨g, c, cur, hv, hg, hh, h2, h3, h4, h5⟩
          · omega
          · unfold maxLen at h3
            injection hv with _ _ e3
            omega
        clear hb15 hown15 ho15
        have hin := in_any A14 cap14 w15.heap.size r y.d.sign w15 HI15.out (by omega)
        rw [decide_eq_true (HSF.out r HFD.out)] at hin
        have HIN := Lib.hid hin
        have hyc := HY15.out.cell
        clear hin
        go_wp2_with fail
        refine HIN.out.mono ?_
        rintro e w16 ⟨rfl, rfl⟩
        clear hyc
        go_wp2_with fail
        go_loopw [13] (fun i wr => ∃ k : Nat, k ≤ r.length ∧ i = .int .i64 k ∧ Grow w15 wr) (fun i _ => r.length - (intOf i).toNat)
        case atStart => exact ⟨0, Nat.zero_le _, rfl, Grow.refl _⟩
        case round => as_aux_lemma =>
          obtain ⟨k, hk, rfl, hgr⟩ := hrel
          rename World => wa
          have HGA := Lib.hid hgr
          clear hgr
          by_cases hlt2 : k < r.length
          · obtain ⟨b2, off2, fk, rfl, hb2, hc2, HK⟩ := (HI15.out.below HGA.out).at_ hlt2
            have hl1 : (k : Int) < r.length := by omega
            have hyc := (HGA.out.block HY15.out).cell
            have HALL : Hid (twinTo ps fk y.d.sign ps.length = true) := HT1.out r ps HFD.out HTD.out fk (List.mem_of_getElem? HK.out)
            have HC2 := Lib.hid hc2
            go_upto_region 19 with fail
            go_quiet (fail)
            obtain ⟨d0, hd0⟩ : ∃ d0, (fk == y.d.sign) = d0 := ⟨_, rfl⟩
            have HZ0 : Hid (twinTo ps fk y.d.sign 0 = d0) := by rw [Hid, twinTo_zero, ← hd0]; rfl
            rw [hd0]
            clear hyc hc2 hd0
            go_wp2_with fail
            go_loopw [14, 15] (fun v i wr => ∃ m : Nat, m ≤ ps.length ∧ v = .bool (twinTo ps fk y.d.sign m) ∧ i = .int .i64 m ∧ Grow wa wr) (fun _ i _ => ps.length - (intOf i).toNat)
            case atStart => exact ⟨0, Nat.zero_le _, by rw [HZ0.out], rfl, Below.drewN_ (Grow.refl _) _⟩
            case round => as_aux_lemma =>
              obtain ⟨m, hm, rfl, rfl, hgr⟩ := hrel
              rename World => wb
              have HGB := Lib.hid hgr
              clear hgr
              by_cases hlt3 : m < ps.length
              · obtain ⟨b3, p1, p2, rfl, hb3, HP, hq0, hq1⟩ := own_pairs (own_grow HOWP.out (HGA.out.trans HGB.out)) hlt3
                have hl2 : (m : Int) < ps.length := by omega
                have hc2 : wb.cell? ⟨b2, off2 + k, none⟩ = some (.int .i64 fk) := HGB.out.cell HC2.out
                have hyc := (HGB.out.block (HGA.out.block HY15.out)).cell
                have HS : Hid (twinTo ps fk y.d.sign (m + 1) = (twinTo ps fk y.d.sign m || decide (p1 = min fk y.d.sign ∧ p2 = max fk y.d.sign))) := twinTo_succ HP.out
                generalize hqq : decide (p1 = min fk y.d.sign ∧ p2 = max fk y.d.sign) = qq at HS
                generalize twinTo ps fk y.d.sign m = is at HS
                have heqP := run_eqP
                go_upto_region 23 with fail
                cases is with
                | true =>
                  go_quiet (fail)
                  have HQQ := Lib.hid hqq
                  clear hqq hyc hc2 hq0 hq1 heqP
                  go_wp2
                  go_roundw
                  case rel => exact ⟨m + 1, by omega, by rw [HS.out]; rfl, by go_num, Below.drewN_ HGB.out _⟩
                  case measure => simp [intOf]; omega
                | false =>
                  go_quiet (fail)
                  have HQQ := Lib.hid hqq
                  clear hqq hyc hc2 hq0 hq1 heqP
                  go_wp2
                  go_roundw
                  case rel => exact ⟨m + 1, by omega, by rw [HS.out]; rfl, by go_num, Below.drewN_ HGB.out _⟩
                  case measure => simp [intOf]; omega
              · obtain rfl : m = ps.length := by omega
                rw [HALL.out]
                go_wp2_with fail
                go_roundw
                case rel => exact ⟨k + 1, by omega, by go_num, HGA.out.trans HGB.out⟩
                case measure => simp [intOf]; omega
          · obtain rfl : k = r.length := by omega
            go_wp2_with fail
            go_loopw [16] (fun i wr => ∃ k : Nat, k ≤ ps.length ∧ i = .int .i64 k ∧ Grow w15 wr) (fun i _ => ps.length - (intOf i).toNat)
            case atStart => exact ⟨0, Nat.zero_le _, rfl, HGA.out⟩
            case round => as_aux_lemma =>
              obtain ⟨k, hk, rfl, hgr⟩ := hrel
              rename World => wc
              have HGC := Lib.hid hgr
              clear hgr
              by_cases hlt4 : k < ps.length
              · obtain ⟨b3, p1, p2, rfl, hb3, HP, hq0, hq1⟩ := own_pairs (own_grow HOWP.out HGC.out) hlt4
                have hl2 : (k : Int) < ps.length := by omega
                obtain ⟨hplt, hex⟩ := HT2.out ps HTD.out (p1, p2) (List.mem_of_getElem? HP.out)
                have HEX : Hid (allTo (p1, p2) l l.length = true) := allTo_all hex
                have HPLT : Hid (p1 < p2) := hplt
                have HQ0 := Lib.hid hq0
                have HQ1 := Lib.hid hq1
                clear hplt hex hq0 hq1
                go_wp2_with fail
                go_loopw [17, 18] (fun v i wr => ∃ m : Nat, m ≤ l.length ∧ v = .bool (allTo (p1, p2) l m) ∧ i = .int .i64 m ∧ Grow wc wr) (fun _ i _ => l.length - (intOf i).toNat)
                case atStart => exact ⟨0, Nat.zero_le _, rfl, rfl, Grow.refl _⟩
                case round => as_aux_lemma =>
                  obtain ⟨m, hm, rfl, rfl, hgr⟩ := hrel
                  rename World => wd
                  have HGD := Lib.hid hgr
                  clear hgr
                  by_cases hlt5 : m < l.length
                  · obtain ⟨b5, off5, u, hA5, hb5, hcu, hmu, HU⟩ := (HEN.out.below ((HG15.out.trans HGC.out).trans HGD.out)).at_ hlt5
                    injection hA5 with hA5
                    injection hA5 with e1 e2
                    subst e1; subst e2
                    have HCU := Lib.hid hcu
                    have hbd : b < wd.heap.size := by have := ((HG15.out.trans HGC.out).trans HGD.out).size; omega
                    have hul : u ∈ l := List.mem_of_getElem? HU.out
                    have HS5 : Hid (allTo (p1, p2) l (m + 1) = (allTo (p1, p2) l m || rowTo (p1, p2) u.d l l.length)) := allTo_succ HU.out
                    have hl5 : (m : Int) < l.length := by omega
                    obtain ⟨is0, his0⟩ : ∃ is0, allTo (p1, p2) l m = is0 := ⟨_, rfl⟩
                    rw [his0] at HS5 ⊢
                    have hrz : (is0 || rowTo (p1, p2) u.d l 0) = is0 := by simp [rowTo]
                    have HRZ := Lib.hid hrz
                    clear hcu hmu his0 hrz hb5
                    go_wp2_with fail
                    go_loopw [17, 19] (fun v i wr => ∃ n : Nat, n ≤ l.length ∧ v = .bool (is0 || rowTo (p1, p2) u.d l n) ∧ i = .int .i64 n ∧ Grow wd wr) (fun _ i _ => l.length - (intOf i).toNat)
                    case atStart => exact ⟨0, Nat.zero_le _, by rw [HRZ.out], rfl, Grow.refl _⟩
                    case round => as_aux_lemma =>
                      obtain ⟨n, hn, rfl, rfl, hgr⟩ := hrel
                      rename World => we
                      have HGE := Lib.hid hgr
                      clear hgr
                      by_cases hlt6 : n < l.length
                      · obtain ⟨b6, off6, v, hA6, hb6, hcv, hmv, HV⟩ := (HEN.out.below (((HG15.out.trans HGC.out).trans HGD.out).trans HGE.out)).at_ hlt6
                        injection hA6 with hA6
                        injection hA6 with e1 e2
                        subst e1; subst e2
                        have HCV := Lib.hid hcv
                        have hbe : b < we.heap.size := by have := HGE.out.size; omega
                        have hvl : v ∈ l := List.mem_of_getElem? HV.out
                        have hl6 : (n : Int) < l.length := by omega
                        have HS6 : Hid ((is0 || rowTo (p1, p2) u.d l (n + 1)) = ((is0 || rowTo (p1, p2) u.d l n) || pairD (p1, p2) u.d v.d)) := by rw [Hid, rowTo_succ HV.out, Bool.or_assoc]
                        have HCM := Lib.hid (fun (w0 : World) (h : Grow we w0) => HCMP.out u v hul hvl w0 ((((HG15.out.trans HGC.out).trans HGD.out).trans HGE.out).trans h))
                        rw [HCR.out u v hul hvl] at HCM
                        have agu := HAGE.out u hul
                        have agv := HAGE.out v hvl
                        have hpd : pairD (p1, p2) u.d v.d = ((cmpF (canonD u.d.form) (canonD v.d.form) == 0) && (decide (p1 = u.d.sign ∧ p2 = v.d.sign) && ((bits .and .i64 u.d.regions v.d.regions != 0) && decide (max u.d.low v.d.low ≤ min u.d.high v.d.high)))) := rfl
                        obtain ⟨is, his⟩ : ∃ is, (is0 || rowTo (p1, p2) u.d l n) = is := ⟨_, rfl⟩
                        rw [his] at HS6 ⊢
                        generalize cmpF (canonD u.d.form) (canonD v.d.form) = cv at HCM hpd
                        generalize hgg : bits .and .i64 u.d.regions v.d.regions = gg at hpd
                        have HGG := Lib.hid hgg
                        generalize hpe : pairD (p1, p2) u.d v.d = pd at HS6 hpd
                        have HPD := Lib.hid hpd
                        clear hcv hmv his hb6 hpe hpd hgg
                        go_upto_region 36 with fail
                        refine wp_region_lit 16 [[], [], [(0, 220), (1, 221)], [(2, 222)], [(3, 223)], [], [], [(5, 225), (6, 226)], [(7, 227)], [(8, 228)], [(4, 224), (9, 229)], [(10, 230)], [(11, 219)], [(11, 219)], [(12, 231)], [(13, 232)]] Grow (fun i z w' => match i with
                          | 0 => z = .slice (some ⟨b, off, none⟩) l.length cap
                          | 1 => z = .int .i64 m
                          | 2 => z = .pointer (some ⟨b, off + m * 11, none⟩)
                          | 3 => z = .pointer (some ⟨b, off + m * 11 + 3, none⟩)
                          | 4 => z = formV u.d.form u.A u.cap
                          | 5 => z = .slice (some ⟨b, off, none⟩) l.length cap
                          | 6 => z = .int .i64 n
                          | 7 => z = .pointer (some ⟨b, off + n * 11, none⟩)
                          | 8 => z = .pointer (some ⟨b, off + n * 11 + 3, none⟩)
                          | 9 => z = formV v.d.form v.A v.cap
                          | 10 => z = .tuple #[.int .i64 cv, .int .i64 0]
                          | 11 => z = .tuple #[.int .i64 cv, .int .i64 0]
                          | 12 => z = .int .i64 cv
                          | 13 => z = .int .i64 0
                          | 14 => z = .int .i64 cv
                          | 15 => z = .int .i64 0
                          | _ => False) (by kernel_rfl) (by kernel_rfl) (fun _ _ _ => Grow.trans) Grow.refl ?_ ?_ ?_
                        · intro i z y y' h k
                          match i, h with
                          | 0, h | 1, h | 2, h | 3, h | 4, h | 5, h | 6, h | 7, h | 8, h | 9, h | 10, h | 11, h | 12, h | 13, h | 14, h | 15, h => exact h
                        · simp only [StepsLit, List.take_succ_cons, List.take_zero]
                          refine ⟨?_, ?_, ?_, ?_, ?_, ?_, ?_, ?_, ?_, ?_, ?_, ?_, ?_, ?_, ?_, ?_, trivial⟩
                          all_goals
                            intro wf hR
                            have HGF2 := Lib.hid hR.of_drew
                            clear hR
                            have HCU2 := Lib.hid (fun (j : Nat) (hj : j < 11) => (Below.cell (p := ⟨b, off + m * 11 + j, none⟩) (HGE.out.trans HGF2.out) hbd).trans (HCU.out j hj))
                            have HCV2 := Lib.hid (fun (j : Nat) (hj : j < 11) => (Below.cell (p := ⟨b, off + n * 11 + j, none⟩) HGF2.out hbe).trans (HCV.out j hj))
                            have hu0 : wf.cell? ⟨b, off + m * 11, none⟩ = some (.int .i64 u.d.id) := HCU2.out 0 (by omega)
                            have hu1 : wf.cell? ⟨b, off + m * 11 + 1, none⟩ = some (.int .i64 u.d.sign) := HCU2.out 1 (by omega)
                            have hu2 : wf.cell? ⟨b, off + m * 11 + 2, none⟩ = some (.int .i64 u.d.regions) := HCU2.out 2 (by omega)
                            have hu3 : wf.cell? ⟨b, off + m * 11 + 3, none⟩ = some (.int .i64 u.d.form.right) := HCU2.out 3 (by omega)
                            have hu4 : wf.cell? ⟨b, off + m * 11 + 4, none⟩ = some (.int .i64 u.d.form.left) := HCU2.out 4 (by omega)
                            have hu5 : wf.cell? ⟨b, off + m * 11 + 5, none⟩ = some (.int .i64 u.d.form.column) := HCU2.out 5 (by omega)
                            have hu6 : wf.cell? ⟨b, off + m * 11 + 6, none⟩ = some (.int .i64 u.d.form.row) := HCU2.out 6 (by omega)
                            have hu7 : wf.cell? ⟨b, off + m * 11 + 7, none⟩ = some (.int .i64 u.d.form.face) := HCU2.out 7 (by omega)
                            have hu8 : wf.cell? ⟨b, off + m * 11 + 8, none⟩ = some (.slice u.A u.d.form.moves.length u.cap) := HCU2.out 8 (by omega)
                            have hu9 : wf.cell? ⟨b, off + m * 11 + 9, none⟩ = some (.int .i64 u.d.low) := HCU2.out 9 (by omega)
                            have hu10 : wf.cell? ⟨b, off + m * 11 + 10, none⟩ = some (.int .i64 u.d.high) := HCU2.out 10 (by omega)
                            have hv0 : wf.cell? ⟨b, off + n * 11, none⟩ = some (.int .i64 v.d.id) := HCV2.out 0 (by omega)
                            have hv1 : wf.cell? ⟨b, off + n * 11 + 1, none⟩ = some (.int .i64 v.d.sign) := HCV2.out 1 (by omega)
                            have hv2 : wf.cell? ⟨b, off + n * 11 + 2, none⟩ = some (.int .i64 v.d.regions) := HCV2.out 2 (by omega)
                            have hv3 : wf.cell? ⟨b, off + n * 11 + 3, none⟩ = some (.int .i64 v.d.form.right) := HCV2.out 3 (by omega)
                            have hv4 : wf.cell? ⟨b, off + n * 11 + 4, none⟩ = some (.int .i64 v.d.form.left) := HCV2.out 4 (by omega)
                            have hv5 : wf.cell? ⟨b, off + n * 11 + 5, none⟩ = some (.int .i64 v.d.form.column) := HCV2.out 5 (by omega)
                            have hv6 : wf.cell? ⟨b, off + n * 11 + 6, none⟩ = some (.int .i64 v.d.form.row) := HCV2.out 6 (by omega)
                            have hv7 : wf.cell? ⟨b, off + n * 11 + 7, none⟩ = some (.int .i64 v.d.form.face) := HCV2.out 7 (by omega)
                            have hv8 : wf.cell? ⟨b, off + n * 11 + 8, none⟩ = some (.slice v.A v.d.form.moves.length v.cap) := HCV2.out 8 (by omega)
                            have hv9 : wf.cell? ⟨b, off + n * 11 + 9, none⟩ = some (.int .i64 v.d.low) := HCV2.out 9 (by omega)
                            have hv10 : wf.cell? ⟨b, off + n * 11 + 10, none⟩ = some (.int .i64 v.d.high) := HCV2.out 10 (by omega)
                            simp only [depV, Region.wanted, cond_true]
                            repeat (rintro _ rfl)
                            try go_simp
                          all_goals first
                            | (with_reducible exact Grow.refl _)
                            | (refine (HCM.out _ HGF2.out).mono ?_; rintro e w6 ⟨rfl, hb6⟩; exact ⟨hb6, rfl⟩)
                            | skip
                        · intro wf hR
                          have HGF2 := Lib.hid hR.of_drew
                          clear hR
                          simp only [finVC, List.take_succ_cons, List.take_zero, List.drop_succ_cons, List.drop_zero]
                          repeat (rintro _ rfl)
                          simp only [Act.put, List.setIfInBounds_toArray, List.set_cons_succ, List.set_cons_zero]
                          have HCU2 := Lib.hid (fun (j : Nat) (hj : j < 11) => (Below.cell (p := ⟨b, off + m * 11 + j, none⟩) (HGE.out.trans HGF2.out) hbd).trans (HCU.out j hj))
                          have HCV2 := Lib.hid (fun (j : Nat) (hj : j < 11) => (Below.cell (p := ⟨b, off + n * 11 + j, none⟩) HGF2.out hbe).trans (HCV.out j hj))
                          have hq0 : wf.cell? ⟨b3, k * 2, none⟩ = some (.int .i64 p1) := ((HGD.out.trans HGE.out).trans HGF2.out).cell HQ0.out
                          have hq1 : wf.cell? ⟨b3, k * 2 + 1, none⟩ = some (.int .i64 p2) := ((HGD.out.trans HGE.out).trans HGF2.out).cell HQ1.out
                          have hu0 : wf.cell? ⟨b, off + m * 11, none⟩ = some (.int .i64 u.d.id) := HCU2.out 0 (by omega)
                          have hu1 : wf.cell? ⟨b, off + m * 11 + 1, none⟩ = some (.int .i64 u.d.sign) := HCU2.out 1 (by omega)
                          have hu2 : wf.cell? ⟨b, off + m * 11 + 2, none⟩ = some (.int .i64 u.d.regions) := HCU2.out 2 (by omega)
                          have hu3 : wf.cell? ⟨b, off + m * 11 + 3, none⟩ = some (.int .i64 u.d.form.right) := HCU2.out 3 (by omega)
                          have hu4 : wf.cell? ⟨b, off + m * 11 + 4, none⟩ = some (.int .i64 u.d.form.left) := HCU2.out 4 (by omega)
                          have hu5 : wf.cell? ⟨b, off + m * 11 + 5, none⟩ = some (.int .i64 u.d.form.column) := HCU2.out 5 (by omega)
                          have hu6 : wf.cell? ⟨b, off + m * 11 + 6, none⟩ = some (.int .i64 u.d.form.row) := HCU2.out 6 (by omega)
                          have hu7 : wf.cell? ⟨b, off + m * 11 + 7, none⟩ = some (.int .i64 u.d.form.face) := HCU2.out 7 (by omega)
                          have hu8 : wf.cell? ⟨b, off + m * 11 + 8, none⟩ = some (.slice u.A u.d.form.moves.length u.cap) := HCU2.out 8 (by omega)
                          have hu9 : wf.cell? ⟨b, off + m * 11 + 9, none⟩ = some (.int .i64 u.d.low) := HCU2.out 9 (by omega)
                          have hu10 : wf.cell? ⟨b, off + m * 11 + 10, none⟩ = some (.int .i64 u.d.high) := HCU2.out 10 (by omega)
                          have hv0 : wf.cell? ⟨b, off + n * 11, none⟩ = some (.int .i64 v.d.id) := HCV2.out 0 (by omega)
                          have hv1 : wf.cell? ⟨b, off + n * 11 + 1, none⟩ = some (.int .i64 v.d.sign) := HCV2.out 1 (by omega)
                          have hv2 : wf.cell? ⟨b, off + n * 11 + 2, none⟩ = some (.int .i64 v.d.regions) := HCV2.out 2 (by omega)
                          have hv3 : wf.cell? ⟨b, off + n * 11 + 3, none⟩ = some (.int .i64 v.d.form.right) := HCV2.out 3 (by omega)
                          have hv4 : wf.cell? ⟨b, off + n * 11 + 4, none⟩ = some (.int .i64 v.d.form.left) := HCV2.out 4 (by omega)
                          have hv5 : wf.cell? ⟨b, off + n * 11 + 5, none⟩ = some (.int .i64 v.d.form.column) := HCV2.out 5 (by omega)
                          have hv6 : wf.cell? ⟨b, off + n * 11 + 6, none⟩ = some (.int .i64 v.d.form.row) := HCV2.out 6 (by omega)
                          have hv7 : wf.cell? ⟨b, off + n * 11 + 7, none⟩ = some (.int .i64 v.d.form.face) := HCV2.out 7 (by omega)
                          have hv8 : wf.cell? ⟨b, off + n * 11 + 8, none⟩ = some (.slice v.A v.d.form.moves.length v.cap) := HCV2.out 8 (by omega)
                          have hv9 : wf.cell? ⟨b, off + n * 11 + 9, none⟩ = some (.int .i64 v.d.low) := HCV2.out 9 (by omega)
                          have hv10 : wf.cell? ⟨b, off + n * 11 + 10, none⟩ = some (.int .i64 v.d.high) := HCV2.out 10 (by omega)
                          have HGE2 : Hid (Grow wd wf) := HGE.out.trans HGF2.out
                          have heqP := run_eqP
                          have hgg := HGG.out
                          have hpd := HPD.out
                          clear HCM HCR HAGE
                          cases is with
                          | true =>
                            clear hpd
                            have hsn : (is0 || rowTo (p1, p2) u.d l (n + 1)) = true := by rw [HS6.out]; simp
                            have HSN := Lib.hid hsn
                            clear hsn
                            go_wp2_with fail
                            go_quiet (fail)
                            go_wp2
                            go_roundw
                            case rel => exact ⟨n + 1, by omega, by rw [HSN.out], by go_num, Below.drewN_ HGE2.out _⟩
                            case measure => simp [intOf]; omega
                          | false =>
                            by_cases h1 : cv = 0
                            · by_cases h2 : p1 = u.d.sign ∧ p2 = v.d.sign
                              · obtain ⟨h2a, h2b⟩ := h2
                                subst h2a
                                subst h2b
                                by_cases h3 : gg = 0
                                · have hpv : pd = false := by rw [hpd, h3]; simp
                                  subst h1
                                  subst h3
                                  clear hpd
                                  have hsn : (is0 || rowTo (u.d.sign, v.d.sign) u.d l (n + 1)) = false := by rw [HS6.out]; simp [hpv]
                                  have HSN := Lib.hid hsn
                                  clear hsn hpv
                                  go_wp2_with fail
                                  go_quiet (fail)
                                  go_wp2
                                  go_roundw
                                  case rel => exact ⟨n + 1, by omega, by rw [HSN.out], by go_num, Below.drewN_ HGE2.out _⟩
                                  case measure => simp [intOf]; omega
                                · have q3 : decide (gg = 0) = false := decide_eq_false h3
                                  have q3' : (gg == 0) = false := by rw [beq_eq_false_iff_ne]; exact h3
                                  have q3n : (gg != 0) = true := by rw [bne_iff_ne]; exact h3
                                  by_cases h4 : u.d.low ≤ v.d.high
                                  · by_cases h5 : v.d.low ≤ u.d.high
                                    · have hpv : pd = true := by
                                        have h6 : max u.d.low v.d.low ≤ min u.d.high v.d.high := by omega
                                        rw [hpd, h1]
                                        simp [h3, h6]
                                      have q4 : max u.d.low v.d.low ≤ min u.d.high v.d.high := by omega
                                      have q5 : decide (max u.d.low v.d.low ≤ min u.d.high v.d.high) = true := decide_eq_true q4
                                      subst h1
                                      clear hpd
                                      have hsn : (is0 || rowTo (u.d.sign, v.d.sign) u.d l (n + 1)) = true := by rw [HS6.out]; simp [hpv]
                                      have HSN := Lib.hid hsn
                                      clear hsn hpv
                                      go_wp2_with fail
                                      go_quiet (fail)
                                      go_wp2
                                      go_roundw
                                      case rel => exact ⟨n + 1, by omega, by rw [HSN.out], by go_num, Below.drewN_ HGE2.out _⟩
                                      case measure => simp [intOf]; omega
                                    · have q4 : ¬ max u.d.low v.d.low ≤ min u.d.high v.d.high := by omega
                                      have q5 : decide (max u.d.low v.d.low ≤ min u.d.high v.d.high) = false := decide_eq_false q4
                                      have hpv : pd = false := by rw [hpd, q5]; simp
                                      subst h1
                                      clear hpd
                                      have hsn : (is0 || rowTo (u.d.sign, v.d.sign) u.d l (n + 1)) = false := by rw [HS6.out]; simp [hpv]
                                      have HSN := Lib.hid hsn
                                      clear hsn hpv
                                      go_wp2_with fail
                                      go_quiet (fail)
                                      go_wp2
                                      go_roundw
                                      case rel => exact ⟨n + 1, by omega, by rw [HSN.out], by go_num, Below.drewN_ HGE2.out _⟩
                                      case measure => simp [intOf]; omega
                                  · have q4 : ¬ max u.d.low v.d.low ≤ min u.d.high v.d.high := by omega
                                    have q5 : decide (max u.d.low v.d.low ≤ min u.d.high v.d.high) = false := decide_eq_false q4
                                    have hpv : pd = false := by rw [hpd, q5]; simp
                                    subst h1
                                    clear hpd
                                    have hsn : (is0 || rowTo (u.d.sign, v.d.sign) u.d l (n + 1)) = false := by rw [HS6.out]; simp [hpv]
                                    have HSN := Lib.hid hsn
                                    clear hsn hpv
                                    go_wp2_with fail
                                    go_quiet (fail)
                                    go_wp2
                                    go_roundw
                                    case rel => exact ⟨n + 1, by omega, by rw [HSN.out], by go_num, Below.drewN_ HGE2.out _⟩
                                    case measure => simp [intOf]; omega
                              · have q2 : decide (p1 = u.d.sign ∧ p2 = v.d.sign) = false := decide_eq_false h2
                                have q2' : (decide (p1 = u.d.sign) && decide (p2 = v.d.sign)) = false := by rw [← q2]; simp
                                have hpv : pd = false := by rw [hpd, q2]; simp
                                subst h1
                                clear hpd
                                have hsn : (is0 || rowTo (p1, p2) u.d l (n + 1)) = false := by rw [HS6.out]; simp [hpv]
                                have HSN := Lib.hid hsn
                                clear hsn hpv
                                go_wp2_with fail
                                go_quiet (fail)
                                go_wp2
                                go_roundw
                                case rel => exact ⟨n + 1, by omega, by rw [HSN.out], by go_num, Below.drewN_ HGE2.out _⟩
                                case measure => simp [intOf]; omega
                            · have q1 : decide (cv = 0) = false := decide_eq_false h1
                              have q1' : (cv == 0) = false := by rw [beq_eq_false_iff_ne]; exact h1
                              have hpv : pd = false := by rw [hpd]; simp [h1]
                              clear hpd
                              have hsn : (is0 || rowTo (p1, p2) u.d l (n + 1)) = false := by rw [HS6.out]; simp [hpv]
                              have HSN := Lib.hid hsn
                              clear hsn hpv
                              go_wp2_with fail
                              go_quiet (fail)
                              go_wp2
                              go_roundw
                              case rel => exact ⟨n + 1, by omega, by rw [HSN.out], by go_num, Below.drewN_ HGE2.out _⟩
                              case measure => simp [intOf]; omega
                      · obtain rfl : n = l.length := by omega
                        rw [← HS5.out]
                        generalize hst : allTo (p1, p2) l (m + 1) = st
                        have HST := Lib.hid hst
                        clear hst
                        go_wp2
                        go_roundw
                        case rel => exact ⟨m + 1, by omega, by rw [HST.out], by go_num, HGD.out.trans HGE.out⟩
                        case measure => simp [intOf]; omega
                  · obtain rfl : m = l.length := by omega
                    rw [HEX.out]
                    have hq0 : wd.cell? ⟨b3, k * 2, none⟩ = some (.int .i64 p1) := HGD.out.cell HQ0.out
                    have hq1 : wd.cell? ⟨b3, k * 2 + 1, none⟩ = some (.int .i64 p2) := HGD.out.cell HQ1.out
                    have hcmp : decide (p2 ≤ p1) = false := decide_eq_false (by have := HPLT.out; omega)
                    go_upto_region 40 with fail
                    go_quiet (fail)
                    clear hq0 hq1
                    go_wp2
                    go_roundw
                    case rel => exact ⟨k + 1, by omega, by go_num, Below.drewN_ (HGC.out.trans HGD.out) _⟩
                    case measure => simp [intOf]; omega
              · obtain rfl : k = ps.length := by omega
                have HG20 : Hid (Grow w wc) := HG15.out.trans HGC.out
                go_wp2_with fail
                refine (HWK.out _).mono ?_
                rintro e w13 ⟨rfl, hb13⟩
                have HG13 : Hid (Grow w w13) := HG20.out.trans hb13
                clear hb13
                go_wp2
                go_ret
                exact ⟨rfl, HG13.out⟩


end Go.Proofs.YtfpmkolaiomabaaGreat
