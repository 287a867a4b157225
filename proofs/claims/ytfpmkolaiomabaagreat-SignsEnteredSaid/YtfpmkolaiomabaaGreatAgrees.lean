/- Which entries agree with what was seen. -/
import Derived.Test.YtfpmkolaiomabaaGreatAgree
import Derived.Test.YtfpmkolaiomabaaGreatCanon
import Derived.Test.YtfpmkolaiomabaaGreatPublic
namespace Go.Proofs.YtfpmkolaiomabaaGreat
open Go.RowKit

def agreesD (s : SeenD) (x : EntryD) : Bool :=
  (bits .and .i64 x.regions s.regions != 0) && (meetD x.low x.high s.al s.ah && (agreesAsD s x.form || agreesAsD s (mirrorD x.form)))

set_option maxRecDepth 100000 in
set_option maxHeartbeats 4000000 in
theorem agrees_any (s : SeenD) (x : EntryR) (A : Option Addr) (cap B B' : Nat) (w : World) (hA : Ints w B A s.moves) (hA' : Ints w B' x.A x.d.form.moves) (hB : B ≤ w.heap.size) (hB' : B' ≤ w.heap.size) (hs : SeenIn s) (hok : okForm x.d.form = true) :
    Calls Tryz.prog 98 #[seenV s A cap, entryV x] w fun e w' => e = .returned (.bool (agreesD s x.d)) ∧ Below w.heap.size w w' := by
  have HM := Lib.hid (fun w0 => meet_any x.d.low x.d.high s.al s.ah w0)
  have HA1 := Lib.hid (fun w0 (h : Grow w w0) => agreesAs_any s x.d.form A x.A cap x.cap w.heap.size w.heap.size w0 ((hA.more hB).below h) ((hA'.more hB').below h) h.size h.size hs hok)
  have HA2 := Lib.hid (fun w0 (h : Grow w w0) (A' : Option Addr) (cap' : Nat) (hA' : Ints w0 w0.heap.size A' (mirrorD x.d.form).moves) => agreesAs_any s (mirrorD x.d.form) A A' cap cap' w.heap.size w0.heap.size w0 ((hA.more hB).below h) hA' h.size (Nat.le_refl _) hs (okForm_mirror hok))
  have HMI := Lib.hid (fun w0 (h : Grow w w0) => mirror_any x.d.form x.A x.cap w.heap.size w0 ((hA'.more hB').below h) (by have := okForm_len hok; omega) h.size hok)
  have HO : Hid (agreesD s x.d = ((bits .and .i64 x.d.regions s.regions != 0) && meetD x.d.low x.d.high s.al s.ah && (agreesAsD s x.d.form || agreesAsD s (mirrorD x.d.form)))) := by
    simp only [Hid, agreesD, Bool.and_assoc]
  clear hA hA' hs hok
  generalize agreesD s x.d = res at HO ⊢
  generalize meetD x.d.low x.d.high s.al s.ah = m at HM HO
  generalize agreesAsD s x.d.form = a1 at HA1 HO
  generalize agreesAsD s (mirrorD x.d.form) = a2 at HA2 HO
  go_enter Tryz.func98, Tryz.ntmps98
  go_upto_region 1 with fail
  obtain ⟨W, hW, hg, hf, hf', hsz⟩ := two_blocks w 100 62 (cellsS s A cap) (cellsE x)
  rw [hW]
  clear hW
  generalize hz : bits .and .i64 x.d.regions s.regions = z at HO
  have HZ := Lib.hid hz
  clear hz
  generalize hb7 : (z != 0) = b7 at HO
  have HB7 := Lib.hid hb7
  clear hb7
  refine wp_region_lit 29 [[], [(0, 5)], [], [(2, 7)], [(3, 8)], [(1, 6), (4, 9)], [(5, 10)], [(6, 11)], [(7, 12)], [(7, 12), (8, 13)], [(7, 12)], [(7, 12), (10, 15)], [(7, 12), (11, 16)], [(7, 12), (9, 14), (12, 17)], [(7, 12), (13, 18)], [(14, 19)], [(15, 20)], [(15, 20)], [(15, 20), (17, 22)], [(15, 20), (16, 21), (18, 23)], [(15, 20), (19, 24)], [(20, 25)], [(20, 25)], [(20, 25), (22, 27)], [(20, 25), (23, 28)], [(20, 25), (21, 26), (24, 29)], [(15, 20), (20, 25), (25, 30)], [(15, 20), (26, 31)], [(27, 32)]] Grow (fun i v w' => match i with
      | 0 => v = .pointer (some ⟨w.heap.size + 1, 2, none⟩)
      | 1 => v = .int .i64 x.d.regions
      | 2 => v = .pointer (some ⟨w.heap.size, 0, none⟩)
      | 3 => v = .pointer (some ⟨w.heap.size, 3, none⟩)
      | 4 => v = .int .i64 s.regions
      | 5 => v = .int .i64 z
      | 6 => v = .bool b7
      | 7 => v = .bool b7
      | 8 => v = bif b7 then .pointer (some ⟨w.heap.size + 1, 9, none⟩) else undef
      | 9 => v = bif b7 then .agg #[.int .i64 x.d.low, .int .i64 x.d.high] else undef
      | 10 => v = bif b7 then .pointer (some ⟨w.heap.size, 0, none⟩) else undef
      | 11 => v = bif b7 then .pointer (some ⟨w.heap.size, 9, none⟩) else undef
      | 12 => v = bif b7 then .agg #[.int .i64 s.al, .int .i64 s.ah] else undef
      | 13 => v = bif b7 then .bool m else undef
      | 14 => v = .bool (b7 && m)
      | 15 => v = .bool (b7 && m)
      | 16 => v = bif b7 && m then seenV s A cap else undef
      | 17 => v = bif b7 && m then .pointer (some ⟨w.heap.size + 1, 3, none⟩) else undef
      | 18 => v = bif b7 && m then formV x.d.form x.A x.cap else undef
      | 19 => v = bif b7 && m then .bool a1 else undef
      | 20 => v = bif b7 && m then .bool a1 else undef
      | 21 => v = bif b7 && m && !a1 then seenV s A cap else undef
      | 22 => v = bif b7 && m && !a1 then .pointer (some ⟨w.heap.size + 1, 3, none⟩) else undef
      | 23 => v = bif b7 && m && !a1 then formV x.d.form x.A x.cap else undef
      | 24 => bif b7 && m && !a1 then NewForm (mirrorD x.d.form) w.heap.size v w' else v = undef
      | 25 => v = bif b7 && m && !a1 then .bool a2 else undef
      | 26 => v = bif b7 && m then .bool (a1 || a2) else undef
      | 27 => v = .bool (b7 && m && (a1 || a2))
      | 28 => v = .bool (b7 && m && (a1 || a2))
      | _ => False) (by kernel_rfl) (by kernel_rfl) (fun _ _ _ => Grow.trans) Grow.refl ?_ ?_ ?_
  · intro i v y y' h k
    match i, h with
    | 24, h =>
      revert h
      cases (b7 && m && !a1)
      · exact id
      · rintro ⟨a, c, h1, h2⟩
        exact ⟨a, c, h1, h2.grow k⟩
    | 0, h | 1, h | 2, h | 3, h | 4, h | 5, h | 6, h | 7, h | 8, h | 9, h | 10, h | 11, h | 12, h | 13, h | 14, h | 15, h | 16, h | 17, h | 18, h | 19, h | 20, h | 21, h | 22, h | 23, h | 25, h | 26, h | 27, h | 28, h => exact h
  · cases b7 <;> cases m <;> cases a1 <;> simp only [Bool.true_and, Bool.false_and, Bool.not_true, Bool.not_false, Bool.true_or, Bool.false_or, cond_true, cond_false]
    all_goals
      simp only [StepsLit, List.take_succ_cons, List.take_zero]
      refine ⟨?_, ?_, ?_, ?_, ?_, ?_, ?_, ?_, ?_, ?_, ?_, ?_, ?_, ?_, ?_, ?_, ?_, ?_, ?_, ?_, ?_, ?_, ?_, ?_, ?_, ?_, ?_, ?_, ?_, trivial⟩
    all_goals
      intro w3 hR
      have hG := hR.of_drew
      have hfc := (hG.block hf).cell
      have hfc' := (hG.block hf').cell
      have HG := Lib.hid (hg.trans hG)
      simp only [depV, Region.wanted, yielded, cond_true]
      repeat (rintro _ rfl)
      try go_simp
    all_goals first
      | exact Grow.refl _
      | exact ⟨Grow.refl _, HZ.out⟩
      | (refine ⟨Grow.refl _, ?_⟩; have h := HB7.out; simpa using h)
      | (intro h; exact absurd h (by simp [undef]))
      | (refine (HM.out _).mono ?_; rintro e w4 ⟨rfl, hb4⟩; exact ⟨hb4, rfl⟩)
      | (refine (HA1.out _ HG.out).mono ?_; rintro e w4 ⟨rfl, hb4⟩; exact ⟨hb4, rfl⟩)
      | (refine (HMI.out _ HG.out).mono ?_; rintro e w4 ⟨A4, c4, rfl, hi4, hb4⟩; exact ⟨hb4, A4, c4, rfl, hi4.mono HG.out.size⟩)
      | (rintro _ ⟨A4, c4, rfl, hi4⟩; refine (HA2.out _ HG.out _ _ hi4.ints).mono ?_; rintro e w4 ⟨rfl, hb4⟩; exact ⟨hb4, rfl⟩)
  · intro w3 hR
    have hG := hR.of_drew
    have HG := Lib.hid (hg.trans hG)
    have HE : Hid ((b7 && m && (a1 || a2)) = res) := by rw [Hid, HO.out]
    clear hf hf' hg hR hG HO
    simp only [finVC, List.take_succ_cons, List.take_zero, List.drop_succ_cons, List.drop_zero]
    iterate 24 rintro _ rfl
    intro v24 _
    iterate 4 rintro _ rfl
    simp only [Act.put, List.setIfInBounds_toArray, List.set_cons_succ, List.set_cons_zero]
    go_wp2
    go_ret
    exact ⟨ret_bool HE.out, HG.out⟩

end Go.Proofs.YtfpmkolaiomabaaGreat
