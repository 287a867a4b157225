/- RAgree: the specification's Shown and Agrees. -/
import Derived.Test.YtfpmkolaiomabaaGreatRSeen
import Derived.Test.YtfpmkolaiomabaaGreatRMirror
import Derived.Test.YtfpmkolaiomabaaGreatPublic
import Derived.Test.YtfpmkolaiomabaaGreatNarrow
import Derived.Deep.DeepCutAuto
namespace Go.Proofs.YtfpmkolaiomabaaGreat
open Go.RowKit

set_option maxRecDepth 100000 in
set_option maxHeartbeats 4000000 in
theorem rShown_any (s : SeenD) (f : FormD) (A A' : Option Addr) (cap cap' B B' : Nat) (w : World) (hA : Ints w B A s.moves) (hA' : Ints w B' A' f.moves) (hB : B ≤ w.heap.size) (hB' : B' ≤ w.heap.size) (hs : SeenIn s) (hlo : 0 ≤ s.lost ∧ s.lost ≤ 6) (hok : okForm f = true)
    (hc : s.moves.length ≤ cap) (hc' : f.moves.length ≤ cap') :
    Calls Tryz.prog 79 #[formV f A' cap', seenV s A cap] w fun e w' => e = .returned (.bool (rShownD s f)) ∧ Below w.heap.size w w' := by
  have hb1 : -1 ≤ f.right ∧ f.right ≤ 31 ∧ -1 ≤ f.left ∧ f.left ≤ 31 ∧ 0 ≤ f.face ∧ f.face ≤ 7 ∧ f.moves.length ≤ 6 := by simp [okForm, inB] at hok; omega
  obtain ⟨hr0, hr1, hl0, hl1, hf0, hf1, hlen⟩ := hb1
  have hsl := hs.len
  have HFT := Lib.hid (fun w0 (h : Grow w w0) => rfits_any f.moves s.moves A' A cap' cap w.heap.size w.heap.size s.lost w0 ((hA'.more hB').below h) ((hA.more hB).below h) (by omega) (by omega) (by omega) (by omega)
    (fun x hx => by obtain ⟨j, hj⟩ := List.getElem?_of_mem hx; exact hs.mv j x hj) (fun x hx => by obtain ⟨j, hj⟩ := List.getElem?_of_mem hx; exact okForm_move hok j x hj) hc' hc)
  clear hA hA'
  have HO : Hid (rShownD s f = (hasD s.rights (f.right + 1) && (hasD s.lefts (f.left + 1) && (hasD s.faces f.face && (inB f.column s.cl s.ch && (inB f.row s.rl s.rh && fitsD f.moves s.moves s.lost)))))) := rfl
  generalize rShownD s f = res at HO ⊢
  generalize fitsD f.moves s.moves s.lost = ft at HO HFT
  obtain ⟨sr0, sr1, sl0, sl1, sf0, sf1, -, -, -, -⟩ := hs
  clear hlo hsl
  go_enter Tryz.func79, Tryz.ntmps79
  go_upto_region 1 with fail
  obtain ⟨W, hW, hg, hf, hf', hsz⟩ := two_blocks w 24 50 (cellsF f A' cap') (cellsS s A cap)
  rw [hW]
  clear hW
  have HG := Lib.hid hg
  have hfc := hf.cell
  have hfc' := hf'.cell
  clear hf hf' hg
  go_wp2_with (first
    | (go_at_call 80; refine (rHas_any _ _ _ (by omega) (by omega) (by omega) (by omega)).mono ?_; rintro e w6 ⟨rfl, rfl⟩)
    | (go_at_call 78; refine (rwithin_any _ _ _ _).mono ?_; rintro e w6 ⟨rfl, rfl⟩)
    | (go_at_call 102; refine (HFT.out _ HG.out).mono ?_; rintro e w7 ⟨rfl, n7, rfl⟩))
  all_goals go_ret
  all_goals refine ⟨ret_bool ?_, ?_⟩
  all_goals first
    | exact HG.out
    | exact Below.drewN_ HG.out _
    | (rw [HO.out]; simp [*]; done)
    | (rw [HO.out]; simp_all; done)

/-- a form in new memory, with its room -/
def NewFormC (f : FormD) (lo : Nat) (v : Value) (w : World) : Prop := ∃ A c, v = formV f A c ∧ IntsF w lo A f.moves ∧ f.moves.length ≤ c

set_option maxRecDepth 100000 in
set_option maxHeartbeats 16000000 in
theorem rAgrees_any (s : SeenD) (x : EntryR) (A : Option Addr) (cap B B' : Nat) (w : World) (hA : Ints w B A s.moves) (hA' : Ints w B' x.A x.d.form.moves) (hB : B ≤ w.heap.size) (hB' : B' ≤ w.heap.size) (hs : SeenIn s) (hlo : 0 ≤ s.lost ∧ s.lost ≤ 6)
    (hok : okForm x.d.form = true) (hc : s.moves.length ≤ cap) (hc' : x.d.form.moves.length ≤ x.cap) :
    Calls Tryz.prog 44 #[entryV x, seenV s A cap] w fun e w' => e = .returned (.bool (rAgreesD s x.d)) ∧ Below w.heap.size w w' := by
  have HA1 := Lib.hid (fun w0 (h : Grow w w0) => rShown_any s x.d.form A x.A cap x.cap w.heap.size w.heap.size w0 ((hA.more hB).below h) ((hA'.more hB').below h) h.size h.size hs hlo hok hc hc')
  have HA2 := Lib.hid (fun w0 (h : Grow w w0) (A' : Option Addr) (cap' : Nat) (hA' : Ints w0 w0.heap.size A' (mirrorD x.d.form).moves) (hcc : (mirrorD x.d.form).moves.length ≤ cap') => rShown_any s (mirrorD x.d.form) A A' cap cap' w.heap.size w0.heap.size w0 ((hA.more hB).below h) hA' h.size (Nat.le_refl _) hs hlo (okForm_mirror hok) hc hcc)
  have HMI := Lib.hid (fun w0 (h : Grow w w0) => rMirror_cap x.d.form x.A x.cap w.heap.size w0 ((hA'.more hB').below h) (by have := okForm_len hok; omega) h.size hok)
  have HML : Hid ((mirrorD x.d.form).moves.length = x.d.form.moves.length) := mirror_len _
  have HO : Hid (rAgreesD s x.d = ((bits .and .i64 x.d.regions s.regions != 0) && decide (max x.d.low s.al ≤ min x.d.high s.ah) && (rShownD s x.d.form || rShownD s (mirrorD x.d.form)))) := by
    simp only [Hid, rAgreesD, Bool.and_assoc]
  clear hA hA' hs hok hlo hc hc'
  generalize rAgreesD s x.d = res at HO ⊢
  generalize hm : decide (max x.d.low s.al ≤ min x.d.high s.ah) = m at HO
  have HM := Lib.hid hm
  clear hm
  generalize rShownD s x.d.form = a1 at HA1 HO
  generalize rShownD s (mirrorD x.d.form) = a2 at HA2 HO
  go_enter Tryz.func44, Tryz.ntmps44
  go_upto_region 1 with fail
  obtain ⟨W, hW, hg, hf, hf', hsz⟩ := two_blocks w 62 50 (cellsE x) (cellsS s A cap)
  rw [hW]
  clear hW
  generalize hz : bits .and .i64 x.d.regions s.regions = z at HO
  have HZ := Lib.hid hz
  clear hz
  generalize hb7 : (z != 0) = b7 at HO
  have HB7 := Lib.hid hb7
  clear hb7
  refine wp_region_lit 37 [[], [(0, 5)], [], [(2, 7)], [(1, 6), (3, 8)], [(4, 9)], [(5, 10)], [(6, 11)], [(6, 11), (7, 12)], [(6, 11), (8, 13)], [(6, 11)], [(6, 11), (10, 15)], [(6, 11), (11, 16)], [(6, 11), (9, 14), (12, 17)], [(6, 11)], [(6, 11), (14, 19)], [(6, 11), (15, 20)], [(6, 11)], [(6, 11), (17, 22)], [(6, 11), (18, 23)], [(6, 11), (16, 21), (19, 24)], [(6, 11), (13, 18), (20, 25)], [(6, 11), (21, 26)], [(22, 27)], [(23, 28)], [(23, 28), (24, 29)], [(23, 28)], [(23, 28), (25, 30), (26, 31)], [(23, 28), (27, 32)], [(28, 33)], [(28, 33), (29, 34)], [(28, 33), (30, 35)], [(28, 33)], [(28, 33), (31, 36), (32, 37)], [(23, 28), (28, 33), (33, 38)], [(23, 28), (34, 39)], [(35, 40)]] Grow (fun i v w' => match i with
      | 0 => v = .pointer (some ⟨w.heap.size, 2, none⟩)
      | 1 => v = .int .i64 x.d.regions
      | 2 => v = .pointer (some ⟨w.heap.size + 1, 3, none⟩)
      | 3 => v = .int .i64 s.regions
      | 4 => v = .int .i64 z
      | 5 => v = .bool b7
      | 6 => v = .bool b7
      | 7 => v = bif b7 then .pointer (some ⟨w.heap.size, 9, none⟩) else undef
      | 8 => v = bif b7 then .pointer (some ⟨w.heap.size, 9, none⟩) else undef
      | 9 => v = bif b7 then .int .i64 x.d.low else undef
      | 10 => v = bif b7 then .pointer (some ⟨w.heap.size + 1, 9, none⟩) else undef
      | 11 => v = bif b7 then .pointer (some ⟨w.heap.size + 1, 9, none⟩) else undef
      | 12 => v = bif b7 then .int .i64 s.al else undef
      | 13 => v = bif b7 then .int .i64 (max x.d.low s.al) else undef
      | 14 => v = bif b7 then .pointer (some ⟨w.heap.size, 9, none⟩) else undef
      | 15 => v = bif b7 then .pointer (some ⟨w.heap.size, 10, none⟩) else undef
      | 16 => v = bif b7 then .int .i64 x.d.high else undef
      | 17 => v = bif b7 then .pointer (some ⟨w.heap.size + 1, 9, none⟩) else undef
      | 18 => v = bif b7 then .pointer (some ⟨w.heap.size + 1, 10, none⟩) else undef
      | 19 => v = bif b7 then .int .i64 s.ah else undef
      | 20 => v = bif b7 then .int .i64 (min x.d.high s.ah) else undef
      | 21 => v = bif b7 then .bool m else undef
      | 22 => v = .bool (b7 && m)
      | 23 => v = .bool (b7 && m)
      | 24 => v = bif b7 && m then .pointer (some ⟨w.heap.size, 3, none⟩) else undef
      | 25 => v = bif b7 && m then formV x.d.form x.A x.cap else undef
      | 26 => v = bif b7 && m then seenV s A cap else undef
      | 27 => v = bif b7 && m then .bool a1 else undef
      | 28 => v = bif b7 && m then .bool a1 else undef
      | 29 => v = bif b7 && m && !a1 then .pointer (some ⟨w.heap.size, 3, none⟩) else undef
      | 30 => v = bif b7 && m && !a1 then formV x.d.form x.A x.cap else undef
      | 31 => bif b7 && m && !a1 then NewFormC (mirrorD x.d.form) w.heap.size v w' else v = undef
      | 32 => v = bif b7 && m && !a1 then seenV s A cap else undef
      | 33 => v = bif b7 && m && !a1 then .bool a2 else undef
      | 34 => v = bif b7 && m then .bool (a1 || a2) else undef
      | 35 => v = .bool (b7 && m && (a1 || a2))
      | 36 => v = .bool (b7 && m && (a1 || a2))
      | _ => False) (by kernel_rfl) (by kernel_rfl) (fun _ _ _ => Grow.trans) Grow.refl ?_ ?_ ?_
  · intro i v y y' h k
    match i, h with
    | 31, h =>
      revert h
      cases (b7 && m && !a1)
      · exact id
      · rintro ⟨a, c, h1, h2, h3⟩
        exact ⟨a, c, h1, h2.grow k, h3⟩
    | 0, h | 1, h | 2, h | 3, h | 4, h | 5, h | 6, h | 7, h | 8, h | 9, h | 10, h | 11, h | 12, h | 13, h | 14, h | 15, h | 16, h | 17, h | 18, h | 19, h | 20, h | 21, h | 22, h | 23, h | 24, h | 25, h | 26, h | 27, h | 28, h | 29, h | 30, h | 32, h | 33, h | 34, h | 35, h | 36, h => exact h
  · rcases (show b7 = false ∨ (b7 = true ∧ m = false) ∨ (b7 = true ∧ m = true ∧ a1 = false) ∨ (b7 = true ∧ m = true ∧ a1 = true) by cases b7 <;> cases m <;> cases a1 <;> simp) with rfl | ⟨rfl, rfl⟩ | ⟨rfl, rfl, rfl⟩ | ⟨rfl, rfl, rfl⟩
    all_goals simp only [Bool.true_and, Bool.false_and, Bool.not_true, Bool.not_false, Bool.true_or, Bool.false_or, cond_true, cond_false]
    all_goals
      simp only [StepsLit, List.take_succ_cons, List.take_zero]
      refine ⟨?_, ?_, ?_, ?_, ?_, ?_, ?_, ?_, ?_, ?_, ?_, ?_, ?_, ?_, ?_, ?_, ?_, ?_, ?_, ?_, ?_, ?_, ?_, ?_, ?_, ?_, ?_, ?_, ?_, ?_, ?_, ?_, ?_, ?_, ?_, ?_, ?_, trivial⟩
    all_goals
      intro w3 hR
      have hG := hR.of_drew
      have hfc := (hG.block hf).cell
      have hfc' := (hG.block hf').cell
      have HG := Lib.hid (hg.trans hG)
      simp only [depV, Region.wanted, yielded, cond_true]
      repeat (rintro _ rfl)
      try go_simp
    all_goals first
      | (with_reducible exact Grow.refl _)
      | (with_reducible exact ⟨Grow.refl _, HZ.out⟩)
      | (with_reducible refine ⟨Grow.refl _, ?_⟩; first | (have h := HB7.out; simpa using h) | (have h := HM.out; simpa using h) | (have h := HM.out; simp only [decide_eq_true_eq, decide_eq_false_iff_not] at h ⊢; omega))
      | (intro h; exact absurd h (by simp [undef]))
      | skip
    · refine (HA1.out _ HG.out).mono ?_
      rintro e w4 ⟨rfl, hb4⟩
      exact ⟨hb4, rfl⟩
    · refine (HMI.out _ HG.out).mono ?_
      rintro e w4 ⟨A4, c4, rfl, hi4, hb4, hl4⟩
      exact ⟨hb4, A4, c4, rfl, hi4.mono HG.out.size, by rw [HML.out]; exact hl4⟩
    · rintro _ ⟨A4, c4, rfl, hi4, hl4⟩
      refine (HA2.out _ HG.out _ _ hi4.ints hl4).mono ?_
      rintro e w4 ⟨rfl, hb4⟩
      exact ⟨hb4, rfl⟩
    · refine (HA1.out _ HG.out).mono ?_
      rintro e w4 ⟨rfl, hb4⟩
      exact ⟨hb4, rfl⟩
  · intro w3 hR
    have hG := hR.of_drew
    have HG := Lib.hid (hg.trans hG)
    have HE : Hid ((b7 && m && (a1 || a2)) = res) := by rw [Hid, HO.out]
    clear hf hf' hg hR hG HO
    simp only [finVC, List.take_succ_cons, List.take_zero, List.drop_succ_cons, List.drop_zero]
    iterate 31 rintro _ rfl
    intro v31 _
    iterate 5 rintro _ rfl
    simp only [Act.put, List.setIfInBounds_toArray, List.set_cons_succ, List.set_cons_zero]
    go_wp2
    go_ret
    exact ⟨ret_bool HE.out, HG.out⟩

end Go.Proofs.YtfpmkolaiomabaaGreat
