/- SignsWider: the law's walk. -/
import Derived.Test.YtfpmkolaiomabaaGreatClash
import Derived.Test.YtfpmkolaiomabaaGreatRSeen
import Derived.Test.YtfpmkolaiomabaaGreatWorks
import Derived.Test.YtfpmkolaiomabaaGreatWiden
import Derived.Test.YtfpmkolaiomabaaGreatWider
import Derived.Test.YtfpmkolaiomabaaGreatCopySeen
import Derived.Test.YtfpmkolaiomabaaGreatCopy
import Derived.Test.YtfpmkolaiomabaaGreatHalfT
import Derived.Test.YtfpmkolaiomabaaGreatSigner
namespace Go.Proofs.YtfpmkolaiomabaaGreat
open Go.RowKit



set_option maxRecDepth 100000 in
set_option maxHeartbeats 32000000 in
theorem signsWider_ready (A A' : Option Addr) (cap cap' : Nat) (l : List EntryR) (s : SeenD) (x : WiderD) (w : World) (hA : EntsO w w.heap.size A l) (hl : l.length ≤ 9223372036854775807) (hA' : Ints w w.heap.size A' s.moves)
    (hr : readyD (l.map (·.d)) = true) (hs : okSeen s = true) (hl11 : l.length ≤ 11) (hE0 : Ints w w.heap.size x.e.A x.e.d.form.moves) (hwf : Lit.wf (.int .i64 x.rights) = true ∧ Lit.wf (.int .i64 x.lefts) = true ∧ Lit.wf (.int .i64 x.faces) = true ∧ Lit.wf (.int .i64 x.regions) = true)
    (hx1 : 0 ≤ x.lost ∧ x.lost ≤ 6) (hx2 : 0 ≤ x.spans ∧ x.spans ≤ 100) (hx3 : x.e.d.form.moves.length ≤ 20) (hs1 : -1000 ≤ s.cl ∧ s.ch ≤ 1000) (hs2 : -1000 ≤ s.rl ∧ s.rh ≤ 1000) (hs3 : -1000 ≤ s.al ∧ s.ah ≤ 1000) :
    Calls Tryz.prog 10 #[.slice A l.length cap, seenV s A' cap', widerV x] w fun e w' => e = .returned (.bool true) ∧ Below w.heap.size w w' := by
  have HWK := Lib.hid works_any
  obtain ⟨hl12, hent, hag, hbe, hlong⟩ := ready_ok hr
  have hE : Ents w w.heap.size A l := (hA.short hlong).1
  have hml : s.moves.length ≤ 6 := (SeenIn.of_ok hs).len
  have HRD := Lib.hid (fun (w0 : World) (h : Grow w w0) => by have k := ready_any A cap w.heap.size l w0 (hA.below h) hl h.size; rw [hr] at k; exact k)
  have HSN := Lib.hid (fun (w0 : World) (h : Grow w w0) => by have k := rIsSeen_any s A' cap' w.heap.size w0 (hA'.below h) (by omega) h.size; rw [hs] at k; exact k)
  have HFI := Lib.hid (fun (t : SeenD) (A2 : Option Addr) (cap2 : Nat) (w0 : World) (h : Grow w w0) (hi : Ints w0 w0.heap.size A2 t.moves) (hlt : t.moves.length ≤ 1000000) => Find_any A A2 cap cap2 w0.heap.size l t w0 ((hE.below h).more h.size) (by omega) hi hlt (Nat.le_refl _))
  have HCS := Lib.hid (fun (w0 : World) (h : Grow w w0) => rCopySeen_any s A' cap' w.heap.size w0 (hA'.below h) (by omega) h.size)
  have HCO := Lib.hid (fun (w0 : World) (h : Grow w w0) => rCopy_any A cap w.heap.size l w0 (hE.below h) (by omega) h.size)
  have HFE := Lib.hid (fun (t : SeenD) (ht : okSeen t = true) => show findErr (l.map (·.d)) t = 0 by unfold findErr; rw [if_pos hbe, if_pos ht])
  have HIS := Lib.hid hA'
  have HIE := Lib.hid hE0
  have d1 : decide (20 < (s.moves.length : Int)) = false := by simp; omega
  have d2 : decide (11 < (l.length : Int)) = false := by simp; omega
  have q0 : decide (x.lost < 0) = false := decide_eq_false (by omega)
  have q1 : decide (6 < x.lost) = false := decide_eq_false (by omega)
  have q2 : decide (x.spans < 0) = false := decide_eq_false (by omega)
  have q3 : decide (100 < x.spans) = false := decide_eq_false (by omega)
  have q4 : decide (20 < (x.e.d.form.moves.length : Int)) = false := decide_eq_false (by omega)
  have q5 : decide (s.cl < -1000) = false := decide_eq_false (by omega)
  have q6 : decide (1000 < s.ch) = false := decide_eq_false (by omega)
  have q7 : decide (s.rl < -1000) = false := decide_eq_false (by omega)
  have q8 : decide (1000 < s.rh) = false := decide_eq_false (by omega)
  have q9 : decide (s.al < -1000) = false := decide_eq_false (by omega)
  have q10 : decide (1000 < s.ah) = false := decide_eq_false (by omega)
  obtain ⟨⟨r1, r2⟩, ⟨l1, l2⟩, c1, w1', a1, n1, m1, ⟨o1, o2⟩, ⟨f1, f2⟩, ⟨g1, g2⟩⟩ := okSeen_iff.1 hs
  obtain ⟨m0, hm0⟩ : ∃ m, bits .and .i64 x.rights 8589934591 = m := ⟨_, rfl⟩
  obtain ⟨m1', hm1⟩ : ∃ m, bits .and .i64 x.lefts 8589934591 = m := ⟨_, rfl⟩
  obtain ⟨m2, hm2⟩ : ∃ m, bits .and .i64 x.faces 255 = m := ⟨_, rfl⟩
  obtain ⟨m3, hm3⟩ : ∃ m, bits .and .i64 x.regions 255 = m := ⟨_, rfl⟩
  have b0 := and_mask x.rights 8589934591 (by omega)
  have b1 := and_mask x.lefts 8589934591 (by omega)
  have b2 := and_mask x.faces 255 (by omega)
  have b3 := and_mask x.regions 255 (by omega)
  rw [show ((8589934591 : Nat) : Int) = 8589934591 from rfl] at b0 b1
  rw [show ((255 : Nat) : Int) = 255 from rfl] at b2 b3
  rw [hm0] at b0
  rw [hm1] at b1
  rw [hm2] at b2
  rw [hm3] at b3
  have ho0 := bits_or (a := s.rights) (b := m0) (by omega) (by omega) (by omega) (by omega)
  have ho1 := bits_or (a := s.lefts) (b := m1') (by omega) (by omega) (by omega) (by omega)
  have ho2 := bits_or (a := s.faces) (b := m2) (by omega) (by omega) (by omega) (by omega)
  have ho3 := bits_or (a := s.regions) (b := m3) (by omega) (by omega) (by omega) (by omega)
  have t33 : ∀ a b : Int, 1 ≤ a → a ≤ 8589934591 → 0 ≤ b → b ≤ 8589934591 → 1 ≤ orI a b ∧ orI a b ≤ 8589934591 := fun a b h1 h2 h3 h4 => by
    have k1 := orI_lt (a := a) (b := b) (k := 33) (by omega) h3 (by rw [show (2 : Int) ^ 33 = 8589934592 from rfl]; omega) (by rw [show (2 : Int) ^ 33 = 8589934592 from rfl]; omega)
    rw [show (2 : Int) ^ 33 = 8589934592 from rfl] at k1
    have k3 := orI_left (a := a) (b := b) (by omega) h3
    omega
  have t8 : ∀ a b : Int, 1 ≤ a → a ≤ 255 → 0 ≤ b → b ≤ 255 → 1 ≤ orI a b ∧ orI a b ≤ 255 := fun a b h1 h2 h3 h4 => by
    have k1 := orI_lt (a := a) (b := b) (k := 8) (by omega) h3 (by rw [show (2 : Int) ^ 8 = 256 from rfl]; omega) (by rw [show (2 : Int) ^ 8 = 256 from rfl]; omega)
    rw [show (2 : Int) ^ 8 = 256 from rfl] at k1
    have k3 := orI_left (a := a) (b := b) (by omega) h3
    omega
  have u0 := t33 _ _ r1 r2 b0.1 b0.2
  have u1 := t33 _ _ l1 l2 b1.1 b1.2
  have u2 := t8 _ _ f1 f2 b2.1 b2.2
  have u3 := t8 _ _ g1 g2 b3.1 b3.2
  obtain ⟨tt, htt⟩ : ∃ t : SeenD, t = ⟨orI s.rights m0, orI s.lefts m1', orI s.faces m2, orI s.regions m3, min 6 (s.lost + x.lost), s.cl - x.spans, s.ch + x.spans, s.rl - x.spans, s.rh + x.spans, s.al - x.spans, s.ah + x.spans, s.moves⟩ := ⟨_, rfl⟩
  have HOKT : Hid (okSeen tt = true) := by
    rw [Hid, htt]
    refine okSeen_iff.2 ⟨u0, u1, ?_, ?_, ?_, n1, m1, ?_, u2, u3⟩ <;> (dsimp only; omega)
  have HLE : Hid (SeenLe s tt) := by
    rw [Hid, htt]
    refine ⟨fun e h => orI_has (by omega) b0.1 h, fun e h => orI_has (by omega) b1.1 h, fun e h => orI_has (by omega) b2.1 h, ?_, ?_, ?_, ?_, ?_, ?_, rfl, ?_⟩ <;> (dsimp only; omega)
  have HWID : Hid (∀ y ∈ l.map (·.d), agreesD s (canonE y) = true → agreesD tt (canonE y) = true) := fun y hy h => by
    refine agrees_wider HLE.out (fun h => ?_) h
    have hyr := (entry_reg (hent y hy))
    rw [htt]
    exact and_orI (a := y.regions) (by omega) (by omega) b3.1 (by omega) (by omega) (by omega) h
  have hw1 : IntKind.i64.wrap (s.lost + x.lost) = s.lost + x.lost := IntWalk.i64_in _ (by omega)
  have hw2 : IntKind.i64.wrap (s.cl - x.spans) = s.cl - x.spans := IntWalk.i64_in _ (by omega)
  have hw3 : IntKind.i64.wrap (s.ch + x.spans) = s.ch + x.spans := IntWalk.i64_in _ (by omega)
  have hw4 : IntKind.i64.wrap (s.rl - x.spans) = s.rl - x.spans := IntWalk.i64_in _ (by omega)
  have hw5 : IntKind.i64.wrap (s.rh + x.spans) = s.rh + x.spans := IntWalk.i64_in _ (by omega)
  have hw6 : IntKind.i64.wrap (s.al - x.spans) = s.al - x.spans := IntWalk.i64_in _ (by omega)
  have hw7 : IntKind.i64.wrap (s.ah + x.spans) = s.ah + x.spans := IntWalk.i64_in _ (by omega)
  have HOKS := Lib.hid hs
  have HENT := Lib.hid hent
  have HBE := Lib.hid hbe
  have hi0 := bits_or (a := orI s.rights m0) (b := m0) (by omega) (by omega) (by omega) (by omega)
  have hi1 := bits_or (a := orI s.lefts m1') (b := m1') (by omega) (by omega) (by omega) (by omega)
  have hi2 := bits_or (a := orI s.faces m2) (b := m2) (by omega) (by omega) (by omega) (by omega)
  have hi3 := bits_or (a := orI s.regions m3) (b := m3) (by omega) (by omega) (by omega) (by omega)
  rw [orI_again] at hi0 hi1 hi2 hi3
  generalize orI s.rights m0 = t0 at ho0 htt hi0
  generalize orI s.lefts m1' = t1 at ho1 htt hi1
  generalize orI s.faces m2 = t2 at ho2 htt hi2
  generalize orI s.regions m3 = t3 at ho3 htt hi3
  have HTT := Lib.hid htt
  have htm : tt.moves = s.moves := by rw [htt]
  have HTM := Lib.hid htm
  clear htm htt t33 t8 u0 u1 u2 u3 b0 b1 b2 b3 hwf r1 r2 l1 l2 f1 f2 g1 g2 m1 hA hA' hE hE0 hent hag hbe hlong hr hs hl12
  go_enter Tryz.func10, Tryz.ntmps10
  go_wp2_with fail
  obtain ⟨W, hW, hg, hS, hX, hsz⟩ := two_blocks w 50 68 (cellsS s A' cap') (cellsWd x)
  rw [hW]
  clear hW
  have HG := Lib.hid hg
  have HS := Lib.hid hS
  have HX := Lib.hid hX
  clear hg hS hX
  refine (HRD.out _ HG.out).mono ?_
  rintro e w2 ⟨rfl, hb2⟩
  have HG2 : Hid (Grow w w2) := HG.out.trans hb2
  have HS2 := Lib.hid (Grow.block hb2 HS.out)
  have HX2 := Lib.hid (Grow.block hb2 HX.out)
  have hsc := HS2.out.cell
  clear hb2
  go_wp2_with fail
  refine (HSN.out _ HG2.out).mono ?_
  rintro e w3 ⟨rfl, hb3⟩
  have HG3 : Hid (Grow w w3) := HG2.out.trans hb3
  have HS3 := Lib.hid (Grow.block hb3 HS2.out)
  have HX3 := Lib.hid (Grow.block hb3 HX2.out)
  clear hsc hb3
  have hsc := HS3.out.cell
  have hxc := HX3.out.cell
  go_upto_region 3 with fail
  go_wp2_with fail
  refine (HCS.out _ HG3.out).mono ?_
  rintro e w4 ⟨A2, cap2, rfl, hi4, hb4, hc4⟩
  have HG4 : Hid (Grow w w4) := HG3.out.trans hb4
  have HS4 := Lib.hid (Grow.block hb4 HS3.out)
  have HX4 := Lib.hid (Grow.block hb4 HX3.out)
  have HI4 := Lib.hid hi4.ints
  clear hb4 hi4 hsc hxc q0 q1 q2 q3 q4 q5 q6 q7 q8 q9 q10 d1 d2
  go_upto_region 4 with fail
  obtain ⟨W5, hW5, hg5, hT5, hsz5⟩ := one_block w4 50 (cellsS s A2 cap2)
  rw [hW5]
  clear hW5
  have hs5 := hg5.block HS4.out
  have hx5 := hg5.block HX4.out
  obtain ⟨bt, hbt⟩ : ∃ b, w4.heap.size = b := ⟨_, rfl⟩
  have hbs : w.heap.size < bt := by rw [← hbt]; exact HS4.out.lt
  have hbx : w.heap.size + 1 < bt := by rw [← hbt]; exact HX4.out.lt
  have HGW := Lib.hid (show w.heap.size ≤ bt by omega)
  have HI5 := Lib.hid (show Ints W5 bt A2 s.moves by rw [← hbt]; exact HI4.out.below hg5)
  have HG5 : Hid (Grow w W5) := HG4.out.trans hg5
  rw [hbt] at hT5 hsz5 ⊢
  have HS5 := Lib.hid hs5
  have HX5 := Lib.hid hx5
  have HT5 := Lib.hid hT5
  clear hg5 hs5 hx5 hT5 hbt
  go_upto_region 5 with fail
  have hH5 : HalfT bt s A2 cap2 t0 t1 t2 t3 W5 s.rights s.lefts s.faces s.regions := ⟨HT5.out, .inl rfl, .inl rfl, .inl rfl, .inl rfl⟩
  have HH5 := Lib.hid hH5
  clear hH5
  refine wp_region_litS 34 [[], [(0, 105)], [], [(2, 107)], [], [(3, 108), (4, 109)], [(1, 106), (5, 110)], [], [(7, 112)], [], [(9, 114)], [], [(10, 115), (11, 116)], [(8, 113), (12, 117)], [], [(14, 119)], [], [(16, 121)], [(17, 122)], [(15, 120), (18, 123)], [], [(20, 125)], [], [(22, 127)], [(23, 128)], [(21, 126), (24, 129)], [], [(6, 111), (26, 131)], [], [(13, 118), (28, 132)], [], [(19, 124), (30, 133)], [], [(25, 130), (32, 134)]] (RelT bt s A2 cap2 t0 t1 t2 t3) (fun i v w' => match i with
    | 0 => v = .pointer (some ⟨bt, 0, none⟩)
    | 1 => v = .int .i64 s.rights ∨ v = .int .i64 t0
    | 2 => v = .pointer (some ⟨w.heap.size + 1, 0, none⟩)
    | 3 => v = .int .i64 x.rights
    | 4 => v = .int .i64 8589934591
    | 5 => v = .int .i64 m0
    | 6 => v = .int .i64 t0
    | 7 => v = .pointer (some ⟨bt, 1, none⟩)
    | 8 => v = .int .i64 s.lefts ∨ v = .int .i64 t1
    | 9 => v = .pointer (some ⟨w.heap.size + 1, 1, none⟩)
    | 10 => v = .int .i64 x.lefts
    | 11 => v = .int .i64 8589934591
    | 12 => v = .int .i64 m1'
    | 13 => v = .int .i64 t1
    | 14 => v = .pointer (some ⟨bt, 2, none⟩)
    | 15 => v = .int .i64 s.faces ∨ v = .int .i64 t2
    | 16 => v = .pointer (some ⟨w.heap.size + 1, 2, none⟩)
    | 17 => v = .int .i64 x.faces
    | 18 => v = .int .i64 m2
    | 19 => v = .int .i64 t2
    | 20 => v = .pointer (some ⟨bt, 3, none⟩)
    | 21 => v = .int .i64 s.regions ∨ v = .int .i64 t3
    | 22 => v = .pointer (some ⟨w.heap.size + 1, 3, none⟩)
    | 23 => v = .int .i64 x.regions
    | 24 => v = .int .i64 m3
    | 25 => v = .int .i64 t3
    | 26 => v = .pointer (some ⟨bt, 0, none⟩)
    | 27 => Stored0 bt s A2 cap2 t0 t1 t2 t3 w'
    | 28 => v = .pointer (some ⟨bt, 1, none⟩)
    | 29 => Stored1 bt s A2 cap2 t0 t1 t2 t3 w'
    | 30 => v = .pointer (some ⟨bt, 2, none⟩)
    | 31 => Stored2 bt s A2 cap2 t0 t1 t2 t3 w'
    | 32 => v = .pointer (some ⟨bt, 3, none⟩)
    | 33 => Stored3 bt s A2 cap2 t0 t1 t2 t3 w'
    | _ => False) (by kernel_rfl) (by kernel_rfl) (fun _ _ _ => RelT.trans) RelT.refl ?_ ?_ ?_
  · intro i v y y' h k
    match i, h with
    | 0, h | 1, h | 2, h | 3, h | 4, h | 5, h | 6, h | 7, h | 8, h | 9, h | 10, h | 11, h | 12, h | 13, h | 14, h | 15, h | 16, h | 17, h | 18, h | 19, h | 20, h | 21, h | 22, h | 23, h | 24, h | 25, h | 26, h | 28, h | 30, h | 32, h => exact h
    | 27, h => exact Stored0.stay h k
    | 29, h => exact Stored1.stay h k
    | 31, h => exact Stored2.stay h k
    | 33, h => exact Stored3.stay h k
  · simp only [StepsLit, List.take_succ_cons, List.take_zero]
    refine ⟨?_, ?_, ?_, ?_, ?_, ?_, ?_, ?_, ?_, ?_, ?_, ?_, ?_, ?_, ?_, ?_, ?_, ?_, ?_, ?_, ?_, ?_, ?_, ?_, ?_, ?_, ?_, ?_, ?_, ?_, ?_, ?_, ?_, ?_, trivial⟩
    · intro w6 hR
      clear hR
      simp only [depV, Region.wanted, cond_true]
      all_goals go_simp
      all_goals (with_reducible exact RelT.refl _)
    · intro w6 hR
      obtain ⟨hbw, hhf⟩ := hR.of_drew
      obtain ⟨c0, c1, c2, c3, hH, -⟩ := hhf _ _ _ _ HH5.out
      have HH6 := Lib.hid hH
      have htc := hH.1.cell
      have htf := hH.1.frozen
      clear hbw hhf hH
      clear hR
      simp only [depV, Region.wanted, cond_true]
      rintro _ rfl
      all_goals go_simp
      first
        | exact ⟨RelT.refl _, HH6.out.2.1⟩
        | skip
    · intro w6 hR
      clear hR
      simp only [depV, Region.wanted, cond_true]
      all_goals go_simp
      all_goals (with_reducible exact RelT.refl _)
    · intro w6 hR
      have hxc := (HX5.out.below hR.of_drew.1 (by omega)).cell
      clear hR
      simp only [depV, Region.wanted, cond_true]
      rintro _ rfl
      all_goals go_simp
      all_goals (with_reducible exact RelT.refl _)
    · intro w6 hR
      clear hR
      simp only [depV, Region.wanted, cond_true]
      all_goals go_simp
      all_goals (with_reducible exact RelT.refl _)
    · intro w6 hR
      clear hR
      simp only [depV, Region.wanted, cond_true]
      rintro _ rfl _ rfl
      all_goals go_simp
      all_goals (with_reducible exact RelT.refl _)
    · intro w6 hR
      clear hR
      simp only [depV, Region.wanted, cond_true]
      rintro _ (rfl | rfl) _ rfl
      all_goals go_simp
      all_goals (with_reducible exact RelT.refl _)
    · intro w6 hR
      clear hR
      simp only [depV, Region.wanted, cond_true]
      all_goals go_simp
      all_goals (with_reducible exact RelT.refl _)
    · intro w6 hR
      obtain ⟨hbw, hhf⟩ := hR.of_drew
      obtain ⟨c0, c1, c2, c3, hH, -⟩ := hhf _ _ _ _ HH5.out
      have HH6 := Lib.hid hH
      have htc := hH.1.cell
      have htf := hH.1.frozen
      clear hbw hhf hH
      clear hR
      simp only [depV, Region.wanted, cond_true]
      rintro _ rfl
      all_goals go_simp
      first
        | exact ⟨RelT.refl _, HH6.out.2.2.1⟩
        | skip
    · intro w6 hR
      clear hR
      simp only [depV, Region.wanted, cond_true]
      all_goals go_simp
      all_goals (with_reducible exact RelT.refl _)
    · intro w6 hR
      have hxc := (HX5.out.below hR.of_drew.1 (by omega)).cell
      clear hR
      simp only [depV, Region.wanted, cond_true]
      rintro _ rfl
      all_goals go_simp
      all_goals (with_reducible exact RelT.refl _)
    · intro w6 hR
      clear hR
      simp only [depV, Region.wanted, cond_true]
      all_goals go_simp
      all_goals (with_reducible exact RelT.refl _)
    · intro w6 hR
      clear hR
      simp only [depV, Region.wanted, cond_true]
      rintro _ rfl _ rfl
      all_goals go_simp
      all_goals (with_reducible exact RelT.refl _)
    · intro w6 hR
      clear hR
      simp only [depV, Region.wanted, cond_true]
      rintro _ (rfl | rfl) _ rfl
      all_goals go_simp
      all_goals (with_reducible exact RelT.refl _)
    · intro w6 hR
      clear hR
      simp only [depV, Region.wanted, cond_true]
      all_goals go_simp
      all_goals (with_reducible exact RelT.refl _)
    · intro w6 hR
      obtain ⟨hbw, hhf⟩ := hR.of_drew
      obtain ⟨c0, c1, c2, c3, hH, -⟩ := hhf _ _ _ _ HH5.out
      have HH6 := Lib.hid hH
      have htc := hH.1.cell
      have htf := hH.1.frozen
      clear hbw hhf hH
      clear hR
      simp only [depV, Region.wanted, cond_true]
      rintro _ rfl
      all_goals go_simp
      first
        | exact ⟨RelT.refl _, HH6.out.2.2.2.1⟩
        | skip
    · intro w6 hR
      clear hR
      simp only [depV, Region.wanted, cond_true]
      all_goals go_simp
      all_goals (with_reducible exact RelT.refl _)
    · intro w6 hR
      have hxc := (HX5.out.below hR.of_drew.1 (by omega)).cell
      clear hR
      simp only [depV, Region.wanted, cond_true]
      rintro _ rfl
      all_goals go_simp
      all_goals (with_reducible exact RelT.refl _)
    · intro w6 hR
      clear hR
      simp only [depV, Region.wanted, cond_true]
      rintro _ rfl
      all_goals go_simp
      all_goals (with_reducible exact RelT.refl _)
    · intro w6 hR
      clear hR
      simp only [depV, Region.wanted, cond_true]
      rintro _ (rfl | rfl) _ rfl
      all_goals go_simp
      all_goals (with_reducible exact RelT.refl _)
    · intro w6 hR
      clear hR
      simp only [depV, Region.wanted, cond_true]
      all_goals go_simp
      all_goals (with_reducible exact RelT.refl _)
    · intro w6 hR
      obtain ⟨hbw, hhf⟩ := hR.of_drew
      obtain ⟨c0, c1, c2, c3, hH, -⟩ := hhf _ _ _ _ HH5.out
      have HH6 := Lib.hid hH
      have htc := hH.1.cell
      have htf := hH.1.frozen
      clear hbw hhf hH
      clear hR
      simp only [depV, Region.wanted, cond_true]
      rintro _ rfl
      all_goals go_simp
      first
        | exact ⟨RelT.refl _, HH6.out.2.2.2.2⟩
        | skip
    · intro w6 hR
      clear hR
      simp only [depV, Region.wanted, cond_true]
      all_goals go_simp
      all_goals (with_reducible exact RelT.refl _)
    · intro w6 hR
      have hxc := (HX5.out.below hR.of_drew.1 (by omega)).cell
      clear hR
      simp only [depV, Region.wanted, cond_true]
      rintro _ rfl
      all_goals go_simp
      all_goals (with_reducible exact RelT.refl _)
    · intro w6 hR
      clear hR
      simp only [depV, Region.wanted, cond_true]
      rintro _ rfl
      all_goals go_simp
      all_goals (with_reducible exact RelT.refl _)
    · intro w6 hR
      clear hR
      simp only [depV, Region.wanted, cond_true]
      rintro _ (rfl | rfl) _ rfl
      all_goals go_simp
      all_goals (with_reducible exact RelT.refl _)
    · intro w6 hR
      clear hR
      simp only [depV, Region.wanted, cond_true]
      all_goals go_simp
      all_goals (with_reducible exact RelT.refl _)
    · intro w6 hR
      obtain ⟨hbw, hhf⟩ := hR.of_drew
      obtain ⟨c0, c1, c2, c3, hH, -⟩ := hhf _ _ _ _ HH5.out
      have HH6 := Lib.hid hH
      have htc := hH.1.cell
      have htf := hH.1.frozen
      clear hbw hhf hH
      clear hR
      simp only [depV, Region.wanted, cond_true]
      rintro _ rfl _ rfl
      all_goals go_simp
      exact HH6.out.store0
    · intro w6 hR
      clear hR
      simp only [depV, Region.wanted, cond_true]
      all_goals go_simp
      all_goals (with_reducible exact RelT.refl _)
    · intro w6 hR
      obtain ⟨hbw, hhf⟩ := hR.of_drew
      obtain ⟨c0, c1, c2, c3, hH, -⟩ := hhf _ _ _ _ HH5.out
      have HH6 := Lib.hid hH
      have htc := hH.1.cell
      have htf := hH.1.frozen
      clear hbw hhf hH
      clear hR
      simp only [depV, Region.wanted, cond_true]
      rintro _ rfl _ rfl
      all_goals go_simp
      exact HH6.out.store1
    · intro w6 hR
      clear hR
      simp only [depV, Region.wanted, cond_true]
      all_goals go_simp
      all_goals (with_reducible exact RelT.refl _)
    · intro w6 hR
      obtain ⟨hbw, hhf⟩ := hR.of_drew
      obtain ⟨c0, c1, c2, c3, hH, -⟩ := hhf _ _ _ _ HH5.out
      have HH6 := Lib.hid hH
      have htc := hH.1.cell
      have htf := hH.1.frozen
      clear hbw hhf hH
      clear hR
      simp only [depV, Region.wanted, cond_true]
      rintro _ rfl _ rfl
      all_goals go_simp
      exact HH6.out.store2
    · intro w6 hR
      clear hR
      simp only [depV, Region.wanted, cond_true]
      all_goals go_simp
      all_goals (with_reducible exact RelT.refl _)
    · intro w6 hR
      obtain ⟨hbw, hhf⟩ := hR.of_drew
      obtain ⟨c0, c1, c2, c3, hH, -⟩ := hhf _ _ _ _ HH5.out
      have HH6 := Lib.hid hH
      have htc := hH.1.cell
      have htf := hH.1.frozen
      clear hbw hhf hH
      clear hR
      simp only [depV, Region.wanted, cond_true]
      rintro _ rfl _ rfl
      all_goals go_simp
      exact HH6.out.store3
  · intro w6 hR
    have HB6 : Hid (Below bt W5 w6) := hR.of_drew.1
    clear hR
    simp only [finVC, List.take_succ_cons, List.take_zero, List.drop_succ_cons, List.drop_zero]
    rintro _ rfl v1 - _ rfl _ rfl _ rfl _ rfl _ rfl _ rfl v8 - _ rfl _ rfl _ rfl _ rfl _ rfl _ rfl v15 - _ rfl _ rfl _ rfl _ rfl _ rfl v21 - _ rfl _ rfl _ rfl _ rfl _ rfl _ h27 _ rfl _ h29 _ rfl _ h31 _ rfl _ h33
    simp only [Act.put, List.setIfInBounds_toArray, List.set_cons_succ, List.set_cons_zero]
    have ht6 := half_done h27 h29 h31 h33
    have hz6 := HB6.out.size
    clear ho0 ho1 ho2 ho3 hm0 hm1 hm2 hm3 hi0 hi1 hi2 hi3 h27 h29 h31 h33
    have hxc := (HX5.out.below HB6.out (by omega)).cell
    have htf := ht6.frozen
    have htc := ht6.cell
    go_upto_region 7 with fail
    obtain ⟨W7, hW7, hT7, hbe7, hsz7⟩ : ∃ W', w6.setCell ⟨bt, 4, none⟩ (.int .i64 (min 6 (s.lost + x.lost))) = W' ∧ BlockIs W' bt 50 #[.int .i64 t0, .int .i64 t1, .int .i64 t2, .int .i64 t3, .int .i64 (min 6 (s.lost + x.lost)), .int .i64 s.cl, .int .i64 s.ch, .int .i64 s.rl, .int .i64 s.rh, .int .i64 s.al, .int .i64 s.ah, .slice A2 s.moves.length cap2] ∧ Below bt w6 W' ∧ bt < W'.heap.size :=
      ⟨_, rfl, ht6.near 4 _, (Below.refl _ _).setCell (p := ⟨bt, 4, none⟩) (Nat.le_refl _) _, by simp [World.setCell]; omega⟩
    rw [hW7]
    have HB7 : Hid (Below bt W5 W7) := HB6.out.trans hbe7
    clear hW7 hxc htc htf ht6 hbe7
    have hxc := (HX5.out.below HB7.out (by omega)).cell
    have htf := hT7.frozen
    have htc := hT7.cell
    go_upto_region 8 with (go_at_call 46; refine (spanL_any _ _ _).mono ?_; rintro e w' ⟨rfl, rfl⟩)
    obtain ⟨W8, hW8, hT8, hbe8, hsz8⟩ : ∃ W', ((W7.setCell ⟨bt, 5, none⟩ (.int .i64 (s.cl - x.spans))).setCell ⟨bt, 6, none⟩ (.int .i64 (s.ch + x.spans))).alloc (.cells #[.int .i64 (s.cl - x.spans), .int .i64 (s.ch + x.spans)] 48) = W' ∧ BlockIs W' bt 50 #[.int .i64 t0, .int .i64 t1, .int .i64 t2, .int .i64 t3, .int .i64 (min 6 (s.lost + x.lost)), .int .i64 (s.cl - x.spans), .int .i64 (s.ch + x.spans), .int .i64 s.rl, .int .i64 s.rh, .int .i64 s.al, .int .i64 s.ah, .slice A2 s.moves.length cap2] ∧ Below bt W7 W' ∧ bt < W'.heap.size :=
      ⟨_, rfl, ((hT7.near 5 _).near 6 _).old _, (((Below.refl _ _).setCell (p := ⟨bt, 5, none⟩) (Nat.le_refl _) _).setCell (p := ⟨bt, 6, none⟩) (Nat.le_refl _) _).alloc (by simp [World.setCell]; omega) _, by simp [World.setCell]; omega⟩
    rw [hW8]
    have HB8 : Hid (Below bt W5 W8) := HB7.out.trans hbe8
    clear hW8 hxc htf htc hT7 hbe8
    have hxc := (HX5.out.below HB8.out (by omega)).cell
    have htf := hT8.frozen
    have htc := hT8.cell
    go_upto_region 9 with (go_at_call 46; refine (spanL_any _ _ _).mono ?_; rintro e w' ⟨rfl, rfl⟩)
    obtain ⟨W9, hW9, hT9, hbe9, hsz9⟩ : ∃ W', ((W8.setCell ⟨bt, 7, none⟩ (.int .i64 (s.rl - x.spans))).setCell ⟨bt, 8, none⟩ (.int .i64 (s.rh + x.spans))).alloc (.cells #[.int .i64 (s.rl - x.spans), .int .i64 (s.rh + x.spans)] 48) = W' ∧ BlockIs W' bt 50 #[.int .i64 t0, .int .i64 t1, .int .i64 t2, .int .i64 t3, .int .i64 (min 6 (s.lost + x.lost)), .int .i64 (s.cl - x.spans), .int .i64 (s.ch + x.spans), .int .i64 (s.rl - x.spans), .int .i64 (s.rh + x.spans), .int .i64 s.al, .int .i64 s.ah, .slice A2 s.moves.length cap2] ∧ Below bt W8 W' ∧ bt < W'.heap.size :=
      ⟨_, rfl, ((hT8.near 7 _).near 8 _).old _, (((Below.refl _ _).setCell (p := ⟨bt, 7, none⟩) (Nat.le_refl _) _).setCell (p := ⟨bt, 8, none⟩) (Nat.le_refl _) _).alloc (by simp [World.setCell]; omega) _, by simp [World.setCell]; omega⟩
    rw [hW9]
    have HB9 : Hid (Below bt W5 W9) := HB8.out.trans hbe9
    clear hW9 hxc htf htc hT8 hbe9
    have hxc := (HX5.out.below HB9.out (by omega)).cell
    have htf := hT9.frozen
    have htc := hT9.cell
    go_upto_region 10 with (go_at_call 46; refine (spanL_any _ _ _).mono ?_; rintro e w' ⟨rfl, rfl⟩)
    obtain ⟨W10, hW10, hT10, hbe10, hsz10⟩ : ∃ W', ((W9.setCell ⟨bt, 9, none⟩ (.int .i64 (s.al - x.spans))).setCell ⟨bt, 10, none⟩ (.int .i64 (s.ah + x.spans))).alloc (.cells #[.int .i64 (s.al - x.spans), .int .i64 (s.ah + x.spans)] 48) = W' ∧ BlockIs W' bt 50 #[.int .i64 t0, .int .i64 t1, .int .i64 t2, .int .i64 t3, .int .i64 (min 6 (s.lost + x.lost)), .int .i64 (s.cl - x.spans), .int .i64 (s.ch + x.spans), .int .i64 (s.rl - x.spans), .int .i64 (s.rh + x.spans), .int .i64 (s.al - x.spans), .int .i64 (s.ah + x.spans), .slice A2 s.moves.length cap2] ∧ Below bt W9 W' ∧ bt < W'.heap.size :=
      ⟨_, rfl, ((hT9.near 9 _).near 10 _).old _, (((Below.refl _ _).setCell (p := ⟨bt, 9, none⟩) (Nat.le_refl _) _).setCell (p := ⟨bt, 10, none⟩) (Nat.le_refl _) _).alloc (by simp [World.setCell]; omega) _, by simp [World.setCell]; omega⟩
    rw [hW10]
    have HB10 : Hid (Below bt W5 W10) := HB9.out.trans hbe10
    clear hW10 hxc htf htc hT9 hbe10
    have hcs : cellsS tt A2 cap2 = #[.int .i64 t0, .int .i64 t1, .int .i64 t2, .int .i64 t3, .int .i64 (min 6 (s.lost + x.lost)), .int .i64 (s.cl - x.spans), .int .i64 (s.ch + x.spans), .int .i64 (s.rl - x.spans), .int .i64 (s.rh + x.spans), .int .i64 (s.al - x.spans), .int .i64 (s.ah + x.spans), .slice A2 s.moves.length cap2] := by rw [HTT.out]
    rw [← hcs] at hT10
    have HG10 : Hid (Grow w W10) := HG5.out.trans' (HB10.out.mono HGW.out)
    have hs10 := HS5.out.below HB10.out (by omega)
    have HX10 := Lib.hid (HX5.out.below HB10.out (by omega))
    have HI10 : Hid (Ints W10 W10.heap.size A2 tt.moves) := by
      rw [Hid, HTM.out]
      exact (HI5.out.below HB10.out).more (by omega)
    have HT10 := Lib.hid hT10
    have HTL : Hid (tt.moves.length ≤ 1000000) := by rw [Hid, HTM.out]; omega
    have hsc := hs10.cell
    clear hcs hT10 hs10 hw1 hw2 hw3 hw4 hw5 hw6 hw7 HTT HTM
    clear hx1 hx2 hs1 hs2 hs3
    go_wp2_with fail
    refine (HFI.out s A' cap' W10 HG10.out ((HIS.out.below HG10.out).more HG10.out.size) (by omega)).mono ?_
    rintro e w11 ⟨hb11, A11, cap11, a, rfl, hi11, -, ho11⟩
    rw [HFE.out s HOKS.out]
    have HFA := Lib.hid (ho11 (HFE.out s HOKS.out))
    have hal : a.length ≤ l.length := found_few HFA.out
    have HI11 := Lib.hid hi11.ints
    have HG11 : Hid (Grow w w11) := HG10.out.trans hb11
    have HT11 := Lib.hid (Grow.block hb11 HT10.out)
    have HX11 := Lib.hid (Grow.block hb11 HX10.out)
    have HJ11 := Lib.hid ((HI10.out.below hb11).more hb11.size)
    have HS11 := Lib.hid (Grow.block hb11 (HS5.out.below HB10.out (by omega)))
    clear hsc hb11 hi11 ho11
    have htc := HT11.out.cell
    go_wp2_with fail
    refine (HFI.out tt A2 cap2 w11 HG11.out HJ11.out HTL.out).mono ?_
    rintro e w12 ⟨hb12, A12, cap12, b, rfl, hi12, -, ho12⟩
    rw [HFE.out tt HOKT.out]
    have HMB := Lib.hid (found_wider HWID.out HFA.out (ho12 (HFE.out tt HOKT.out)))
    have hbl : b.length ≤ l.length := found_few (ho12 (HFE.out tt HOKT.out))
    have HI12 := Lib.hid hi12.ints
    have HG12 : Hid (Grow w w12) := HG11.out.trans hb12
    have HX12 := Lib.hid (Grow.block hb12 HX11.out)
    have HS12 := Lib.hid (Grow.block hb12 HS11.out)
    have HA12 := Lib.hid ((HI11.out.below hb12).more hb12.size)
    clear htc hb12 hi12 ho12
    go_wp2_with fail
    go_loopw [13] (fun i wr => ∃ k : Nat, k ≤ a.length ∧ i = .int .i64 k ∧ Grow w12 wr) (fun i _ => a.length - (intOf i).toNat)
    case atStart => exact ⟨0, Nat.zero_le _, rfl, Grow.refl _⟩
    case round =>
      obtain ⟨k, hk, rfl, hgr⟩ := hrel
      rename World => wr
      have HGR := Lib.hid hgr
      clear hgr
      by_cases hlt : k < a.length
      · obtain ⟨b2, off2, fk, rfl, hb2, hc2, HK⟩ := (HA12.out.below HGR.out).at_ hlt
        have hin := in_any A12 cap12 w12.heap.size b fk wr (HI12.out.below HGR.out) (by omega)
        rw [decide_eq_true (HMB.out fk (List.mem_of_getElem? HK.out))] at hin
        have HIN := Lib.hid hin
        have hl1 : (k : Int) < a.length := by omega
        clear hin
        go_wp2_with fail
        refine HIN.out.mono ?_
        rintro e w13 ⟨rfl, rfl⟩
        go_wp2_with fail
        go_roundw
        case rel => exact ⟨k + 1, by omega, by go_num, HGR.out⟩
        case measure => simp [intOf]; omega
      · obtain rfl : k = a.length := by omega
        have HGW2 : Hid (Grow w wr) := HG12.out.trans HGR.out
        have HX13 := Lib.hid (HGR.out.block HX12.out)
        have HS13 := Lib.hid (HGR.out.block HS12.out)
        have HA13 := Lib.hid ((HA12.out.below HGR.out).more HGR.out.size)
        obtain ⟨i0, hi, hz0, hz1, hz2⟩ := info_parts Tryz.infoEntry
        have HEN := HENT
        clear HMB HI12
        go_upto_region 19 with fail
        refine wp_region_lit 5 [[], [(0, 215)], [], [(2, 217)], [(3, 218)]] Grow (fun i v w' => match i with
          | 0 => v = .slice A l.length cap
          | 1 => CopyAt wr.heap.size l v w'
          | 2 => v = .pointer (some ⟨w.heap.size + 1, 6, none⟩)
          | 3 => v = entryV x.e
          | 4 => NewE x.e v w'
          | _ => False) (by kernel_rfl) (by kernel_rfl) (fun _ _ _ => Grow.trans) Grow.refl ?_ ?_ ?_
        · intro i v y y' h k
          match i, h with
          | 0, h | 2, h | 3, h => exact h
          | 1, h => exact CopyAt.grow h k
          | 4, h => exact NewE.grow h k
        · simp only [StepsLit, List.take_succ_cons, List.take_zero]
          refine ⟨?_, ?_, ?_, ?_, ?_, trivial⟩
          all_goals
            intro w6 hR
            have HG6 := Lib.hid hR.of_drew
            have hxc := (HG6.out.block HX13.out).cell
            clear hR
            simp only [depV, Region.wanted, yielded, cond_true]
            repeat (rintro _ rfl)
            try go_simp
          all_goals first
            | (with_reducible exact Grow.refl _)
            | skip
          · refine (HCO.out _ (HGW2.out.trans HG6.out)).mono ?_
            rintro e w7 ⟨v, rfl, hv, hb7⟩
            exact ⟨hb7, hv.mono HG6.out.size⟩
          · exact ⟨Grow.alloc _ _, ⟨_, rfl, BlockIs.new _ _ _⟩⟩
        · intro w6 hR
          have HG6 := Lib.hid hR.of_drew
          clear hR
          simp only [finVC, List.take_succ_cons, List.take_zero, List.drop_succ_cons, List.drop_zero]
          rintro _ rfl _ ⟨A3, cap3, ys, rfl, hys, hown, hym⟩ _ rfl _ rfl _ ⟨bn, rfl, hbn⟩
          simp only [Act.put, List.setIfInBounds_toArray, List.set_cons_succ, List.set_cons_zero]
          have HYM := Lib.hid hym
          have HYS := Lib.hid hys
          have HOWN := Lib.hid hown
          have HBN := Lib.hid hbn
          have hz6 := HG6.out.size
          clear hym hys hown hbn
          go_wp2_with (at_builtin; refine wpList_append_own _ rfl _ _ 33 rfl wr.heap.size 62 i0 (.agg zeroE) 11 104 Tryz.underlying33 hi hz0 hz1 hz2 rfl (by decide) _ _ _ rfl HOWN.out ⟨bn, 0, none⟩ 1 1 (cellsL x.e) rfl rfl ?c1 ?c2 ?c3 ?c4 ?c5 ?_)
          case c1 => exact news_block HBN.out
          case c2 => exact one_entry _
          case c3 => unfold maxLen; omega
          case c4 => omega
          case c5 => omega
          intro v' w7 hown' hgrow _
          obtain ⟨A4, cap4, rfl⟩ := own_form hown'
          obtain ⟨zs, hzs⟩ : ∃ zs, zs = ys ++ [x.e] := ⟨_, rfl⟩
          rw [← flat_snoc, ← hzs] at hown'
          have hb7 : Below wr.heap.size wr w7 := below_grown HG6.out HOWN.out hgrow hz6
          have hzd : zs.map (·.d) = l.map (·.d) ++ [x.e.d] := by rw [hzs, List.map_append, HYS.out]; rfl
          have hmz : ∀ z ∈ zs, MovesAt w7 w7.heap.size z := fun z hz => by
            rw [hzs] at hz
            rcases List.mem_append.1 hz with hz | hz
            · refine ⟨((HYM.out z hz).1.grown HOWN.out (by decide) hgrow).intsF.ints, ?_⟩
              have h1 : z.d ∈ l.map (·.d) := by rw [← HYS.out]; exact List.mem_map.2 ⟨z, hz, rfl⟩
              have := okForm_len (okEntry_okForm (HEN.out z.d h1))
              omega
            · rw [List.mem_singleton] at hz
              subst hz
              exact ⟨((HIE.out.below (HGW2.out.trans hb7)).more (HGW2.out.trans hb7).size), by omega⟩
          obtain ⟨hez, hzl⟩ := own_ents hown' hmz
          have HEZ := Lib.hid hez
          have HZD := Lib.hid hzd
          have HG7 : Hid (Grow w w7) := HGW2.out.trans hb7
          have HX7 := Lib.hid (Grow.block hb7 HX13.out)
          have HS7 := Lib.hid (Grow.block hb7 HS13.out)
          have HA7 := Lib.hid ((HA13.out.below hb7).more hb7.size)
          have hzn : zs.length ≤ 12 := by omega
          rw [hzl]
          clear hown' hgrow hb7 hzd hmz hez hzs hzl HYM HYS HOWN HBN
          go_wp2_with fail
          refine (rCheck_any A4 cap4 w7.heap.size zs w7 HEZ.out (by omega) (Nat.le_refl _)).mono ?_
          rintro e w8 ⟨rfl, hb8⟩
          have HG8 : Hid (Grow w w8) := HG7.out.trans hb8
          have HX8 := Lib.hid (Grow.block hb8 HX7.out)
          have HS8 := Lib.hid (Grow.block hb8 HS7.out)
          have HA8 := Lib.hid ((HA7.out.below hb8).more hb8.size)
          have HEZ8 := Lib.hid ((HEZ.out.below hb8).more hb8.size)
          clear hb8
          by_cases hbz : bookErr (zs.map (·.d)) = 0
          · have hfz : findErr (zs.map (·.d)) s = 0 := by unfold findErr; rw [if_pos hbz, if_pos HOKS.out]
            have HFZ := Lib.hid hfz
            rw [hbz]
            have hsc := HS8.out.cell
            clear hbz hfz
            go_wp2_with fail
            refine (Find_any A4 A' cap4 cap' w8.heap.size zs s w8 HEZ8.out (by omega) ((HIS.out.below HG8.out).more HG8.out.size) (by omega) (Nat.le_refl _)).mono ?_
            rintro e w9 ⟨hb9, A9, cap9, c, rfl, hi9, -, ho9⟩
            rw [HFZ.out]
            have hfc9 := ho9 HFZ.out
            have hcl : c.length ≤ zs.length := found_few hfc9
            rw [HZD.out] at hfc9
            have HMORE := Lib.hid (found_more HFA.out hfc9)
            have HI9 := Lib.hid hi9.ints
            have HG9 : Hid (Grow w w9) := HG8.out.trans hb9
            have HX9 := Lib.hid (Grow.block hb9 HX8.out)
            have HA9 := Lib.hid ((HA8.out.below hb9).more hb9.size)
            clear hsc hb9 hi9 ho9 hfc9
            go_wp2_with fail
            go_loopw [17] (fun i wr => ∃ k : Nat, k ≤ a.length ∧ i = .int .i64 k ∧ Grow w9 wr) (fun i _ => a.length - (intOf i).toNat)
            case atStart => exact ⟨0, Nat.zero_le _, rfl, Grow.refl _⟩
            case round =>
              obtain ⟨k, hk, rfl, hgr⟩ := hrel
              rename World => wr2
              have HGR2 := Lib.hid hgr
              clear hgr
              by_cases hlt2 : k < a.length
              · obtain ⟨b2, off2, fk, rfl, hb2, hc2, HK⟩ := (HA9.out.below HGR2.out).at_ hlt2
                have hin := in_any A9 cap9 w9.heap.size c fk wr2 (HI9.out.below HGR2.out) (by omega)
                rw [decide_eq_true (HMORE.out.1 fk (List.mem_of_getElem? HK.out))] at hin
                have HIN := Lib.hid hin
                have hl1 : (k : Int) < a.length := by omega
                clear hin
                go_wp2_with fail
                refine HIN.out.mono ?_
                rintro e w13 ⟨rfl, rfl⟩
                go_wp2_with fail
                go_roundw
                case rel => exact ⟨k + 1, by omega, by go_num, HGR2.out⟩
                case measure => simp [intOf]; omega
              · obtain rfl : k = a.length := by omega
                go_wp2_with fail
                go_loopw [18] (fun i wr => ∃ k : Nat, k ≤ c.length ∧ i = .int .i64 k ∧ Grow w9 wr) (fun i _ => c.length - (intOf i).toNat)
                case atStart => exact ⟨0, Nat.zero_le _, rfl, HGR2.out⟩
                case round =>
                  obtain ⟨k, hk, rfl, hgr⟩ := hrel
                  rename World => wr3
                  have HGR3 := Lib.hid hgr
                  clear hgr
                  by_cases hlt3 : k < c.length
                  · obtain ⟨b2, off2, fk, rfl, hb2, hc2, HK⟩ := (HI9.out.below HGR3.out).at_ hlt3
                    have HIN := Lib.hid (fun (w0 : World) (h : Grow wr3 w0) => in_any A11 cap11 w9.heap.size a fk w0 (HA9.out.below (HGR3.out.trans h)) (by omega))
                    have hxc := (HGR3.out.block HX9.out).cell
                    have hl1 : (k : Int) < c.length := by omega
                    have hor := HMORE.out.2 fk (List.mem_of_getElem? HK.out)
                    by_cases hm : fk ∈ a
                    · rw [decide_eq_true hm] at HIN
                      clear hor hm
                      go_wp2_with fail
                      go_quiet (first | (go_at_call 45; exact quiet_same (HIN.out _ (Below.drewN_ (Below.refl _ _) _))))
                      go_wp2
                      go_roundw
                      case rel => exact ⟨k + 1, by omega, by go_num, Below.drewN_ HGR3.out _⟩
                      case measure => simp [intOf]; omega
                    · obtain rfl : fk = x.e.d.sign := hor.resolve_left hm
                      rw [decide_eq_false hm] at HIN
                      clear hor hm
                      go_wp2_with fail
                      go_quiet (first | (go_at_call 45; exact quiet_same (HIN.out _ (Below.drewN_ (Below.refl _ _) _))))
                      go_wp2
                      go_roundw
                      case rel => exact ⟨k + 1, by omega, by go_num, Below.drewN_ HGR3.out _⟩
                      case measure => simp [intOf]; omega
                  · obtain rfl : k = c.length := by omega
                    have HG14 : Hid (Grow w wr3) := HG9.out.trans HGR3.out
                    go_wp2_with fail
                    refine (HWK.out _).mono ?_
                    rintro e w13 ⟨rfl, hb13⟩
                    have HG13 : Hid (Grow w w13) := HG14.out.trans hb13
                    clear hb13
                    go_wp2
                    go_ret
                    exact ⟨rfl, HG13.out⟩
          · have hbd : decide (bookErr (zs.map (·.d)) = 0) = false := decide_eq_false hbz
            have hbn : bookErr (zs.map (·.d)) ≠ 0 := hbz
            clear hbz
            generalize bookErr (zs.map (·.d)) = be at hbd hbn ⊢
            go_wp2_with fail
            refine (HWK.out _).mono ?_
            rintro e w13 ⟨rfl, hb13⟩
            have HG13 : Hid (Grow w w13) := HG8.out.trans hb13
            clear hb13
            go_wp2
            go_ret
            exact ⟨rfl, HG13.out⟩


end Go.Proofs.YtfpmkolaiomabaaGreat
