/- ValidG: which films and messages are valid, as the program tests it. -/
import Derived.Test.YtinlojealfbbfaaSmall
namespace Go.Proofs.Ytinlojealfbbfaa
open Go.RowKit

set_option maxRecDepth 100000 in
set_option maxHeartbeats 2000000 in
theorem validFilms_any (f : FilmsR) (m h : RowG) (n : Nat) (w : World) (hf : Ints w n f.A f.d.frames) (hn : n ≤ w.heap.size) (hl : f.d.frames.length ≤ 1000000) :
    Calls Try.prog 60 #[notesV f m h] w fun e w' => e = .returned (.bool (okFilms f.d)) ∧ Below w.heap.size w w' := by
  obtain ⟨⟨frames, signs⟩, A, ca⟩ := f
  dsimp only at hf hl
  have HI := Lib.hid (hf.more hn)
  have HO : Hid (okFilms ⟨frames, signs⟩ = ((inB frames.length 1 4 && inB signs 1 10) && frames.all fun n => inB n 1 200)) := rfl
  have HA := Lib.hid (fun w0 => within_any frames.length 1 4 w0)
  have HB := Lib.hid (fun w0 => within_any signs 1 10 w0)
  have HC := Lib.hid (fun (w0 : World) (hw : Grow w w0) => containsInt0_any A ca w.heap.size frames w0 (HI.out.below hw) hl 72 (fun x => !inB x 1 200) (fun _ _ => by kernel_rfl) (fun x => outside_any x w0))
  have hany : (frames.any fun x => !inB x 1 200) = !(frames.all fun n => inB n 1 200) := by rw [List.all_eq_not_any_not, Bool.not_not]
  rw [hany] at HC
  dsimp only
  generalize okFilms ⟨frames, signs⟩ = r at HO ⊢
  generalize inB frames.length 1 4 = a at HO HA
  generalize inB signs 1 10 = b at HO HB
  generalize (frames.all fun n => inB n 1 200) = c at HO HC
  clear hf hn hl hany
  go_enter Try.func60, Try.ntmps60
  go_upto_region 1 with fail
  obtain ⟨W, hW, hg, hf, hsz⟩ := one_block w 71 (cellsN ⟨⟨frames, signs⟩, A, ca⟩ m h)
  rw [hW]
  clear hW
  have hcc := hf.cell
  have HG := Lib.hid hg
  clear hf hg
  cases a
  · go_wp2_with fail
    refine (HA.out _).mono ?_
    rintro e w2 ⟨rfl, rfl⟩
    go_wp2
    go_ret
    exact ⟨ret_bool (by rw [HO.out]; rfl), HG.out⟩
  · go_wp2_with fail
    refine (HA.out _).mono ?_
    rintro e w2 ⟨rfl, rfl⟩
    cases b
    · go_wp2_with fail
      refine (HB.out _).mono ?_
      rintro e w2 ⟨rfl, rfl⟩
      go_wp2
      go_ret
      exact ⟨ret_bool (by rw [HO.out]; rfl), HG.out⟩
    · go_wp2_with fail
      refine (HB.out _).mono ?_
      rintro e w2 ⟨rfl, rfl⟩
      go_wp2_with fail
      refine (HC.out _ HG.out).mono ?_
      rintro e w2 ⟨rfl, rfl⟩
      go_wp2
      go_ret
      exact ⟨ret_bool (by rw [HO.out]; cases c <;> rfl), HG.out⟩

set_option maxRecDepth 100000 in
set_option maxHeartbeats 16000000 in
theorem validMessage_any (f : FilmsR) (m h : RowG) (g : GlossD) (n : Nat) (w : World) (hf : Ints w n f.A f.d.frames) (hn : n ≤ w.heap.size) (hok : okFilms f.d = true) :
    Calls Try.prog 75 #[notesV f m h, glossV g] w fun e w' => e = .returned (.bool (okGloss f.d g)) ∧ Below w.heap.size w w' := by
  obtain ⟨⟨frames, signs⟩, A, ca⟩ := f
  have hp := okFilms_parts hok
  dsimp only at hp
  have hsg := hp.2.1
  have hln := hp.1
  obtain ⟨sn, rfl⟩ := Int.eq_ofNat_of_zero_le (show 0 ≤ signs by omega)
  have hp9 : 2 ^ sn ≤ 1024 := Nat.le_trans (Nat.pow_le_pow_right (n := 2) (by omega) (show sn ≤ 10 by omega)) (by decide)
  have hp1 : 1 ≤ 2 ^ sn := Nat.pow_pos (by omega)
  have HP2 : Hid ((2 : Int) ^ ((sn : Int)).toNat = ((2 ^ sn : Nat) : Int)) := Lib.hid (by rw [Int.toNat_natCast]; exact (Int.natCast_pow 2 sn).symm)
  obtain ⟨pw, hpw⟩ : ∃ q, 2 ^ sn = q := ⟨_, rfl⟩
  rw [hpw] at hp9 hp1 HP2
  have HWR : Hid (IntKind.i64.wrap ((2 : Int) ^ sn) = (pw : Int)) := Lib.hid (by
    have h : ((2 : Int) ^ sn) = ((2 ^ sn : Nat) : Int) := (Int.natCast_pow 2 sn).symm
    rw [h, hpw]
    exact IntWalk.i64_in _ (by omega))
  have HFR := Lib.hid (fun (k : Int) (h0 : 0 ≤ k) (h1 : k ≤ frames.length - 1) => frameOf_at (f := ⟨frames, (sn : Int)⟩) hok h0 h1)
  have HI := Lib.hid hf
  clear hpw hp hok hf
  obtain ⟨author, stamp, film, frm, till, sg⟩ := g
  have HO : Hid (okGloss ⟨frames, (sn : Int)⟩ ⟨author, stamp, film, frm, till, sg⟩ = ((inB author 0 7 && inB stamp 0 9999) && (inB film 0 (frames.length - 1) && (decide (0 ≤ frm) && (decide (frm < till) && (decide (till ≤ frameOf ⟨frames, (sn : Int)⟩ film) && inB sg 0 (pw - 1))))))) := Lib.hid (by
    rw [← HP2.out]; rfl)
  have HA := Lib.hid (fun w0 => within_any author 0 7 w0)
  have HB := Lib.hid (fun w0 => within_any stamp 0 9999 w0)
  have HF := Lib.hid (fun w0 => hasFilm_any ⟨⟨frames, (sn : Int)⟩, A, ca⟩ m h film w0 (by dsimp only; omega))
  have HS := Lib.hid (fun w0 => within_any sg 0 (pw - 1) w0)
  dsimp only at HF ⊢
  generalize okGloss ⟨frames, (sn : Int)⟩ ⟨author, stamp, film, frm, till, sg⟩ = r at HO ⊢
  generalize inB author 0 7 = a1 at HO HA
  generalize inB stamp 0 9999 = a2 at HO HB
  obtain ⟨c1, hc1⟩ : ∃ q, inB film 0 (frames.length - 1) = q := ⟨_, rfl⟩
  rw [hc1] at HO HF
  have HC1 := Lib.hid hc1
  clear hc1
  generalize inB sg 0 (pw - 1) = c5 at HO HS
  go_enter Try.func75, Try.ntmps75
  go_upto_region 1 with fail
  obtain ⟨W, hW, hg, hf, hf', hsz⟩ := two_blocks w 71 55 (cellsN ⟨⟨frames, (sn : Int)⟩, A, ca⟩ m h) (cellsG ⟨author, stamp, film, frm, till, sg⟩)
  rw [hW]
  clear hW
  obtain ⟨bg, ebg⟩ : ∃ q, w.heap.size + 1 = q := ⟨_, rfl⟩
  rw [ebg] at hf' hsz ⊢
  clear ebg
  have hcc := hf.cell
  have hgc := hf'.cell
  have HN := Lib.hid hf
  have HGL := Lib.hid hf'
  have HG := Lib.hid hg
  have HIW := Lib.hid ((HI.out.more hn).below hg)
  clear hf hf' hg hn HI
  go_cut [5] (fun v wx => v = .bool (a1 && a2) ∧ W = wx)
  case first =>
    cases a1
    · go_wp2_with fail
      refine (HA.out _).mono ?_
      rintro e w1 ⟨rfl, rfl⟩
      go_wp2
      go_meet
      exact ⟨rfl, rfl⟩
    · go_wp2_with fail
      refine (HA.out _).mono ?_
      rintro e w1 ⟨rfl, rfl⟩
      go_wp2_with fail
      refine (HB.out _).mono ?_
      rintro e w1 ⟨rfl, rfl⟩
      go_wp2
      go_meet
      exact ⟨rfl, rfl⟩
  case rest =>
    obtain ⟨rfl, rfl⟩ := hcut
    clear hcc hgc
    generalize (a1 && a2) = b0 at HO ⊢
    cases b0
    · go_upto_region 2 with fail
      refine wp_region_lit 41 [[], [(0, 14)], [(1, 15)], [(1, 15)], [(1, 15), (3, 17)], [(1, 15), (2, 16), (4, 18)], [(1, 15), (5, 19)], [(6, 20)], [(7, 21)], [(7, 21), (8, 22)], [(7, 21), (9, 23)], [(7, 21), (10, 24)], [(11, 25)], [(12, 26)], [(12, 26), (13, 27)], [(12, 26)], [(12, 26), (15, 29)], [(12, 26), (14, 28), (16, 30)], [(12, 26), (17, 31)], [(18, 32)], [(19, 33)], [(19, 33), (20, 34)], [(19, 33)], [(19, 33), (22, 36)], [(19, 33), (23, 37)], [(19, 33)], [(19, 33), (25, 39)], [(19, 33), (24, 38), (26, 40)], [(19, 33), (27, 41)], [(19, 33), (21, 35), (28, 42)], [(19, 33), (29, 43)], [(30, 44)], [(31, 45)], [(31, 45), (32, 46)], [(31, 45)], [(31, 45), (34, 48)], [(31, 45), (35, 49)], [(31, 45), (36, 50)], [(31, 45), (37, 51)], [(31, 45), (33, 47), (38, 52)], [(31, 45), (39, 53)]] Grow (fun qi v w' => match qi with
          | 0 => v = .bool false
          | 1 => v = .bool false
          | 2 => v = undef
          | 3 => v = undef
          | 4 => v = undef
          | 5 => v = undef
          | 6 => v = .bool false
          | 7 => v = .bool false
          | 8 => v = undef
          | 9 => v = undef
          | 10 => v = undef
          | 11 => v = .bool false
          | 12 => v = .bool false
          | 13 => v = undef
          | 14 => v = undef
          | 15 => v = undef
          | 16 => v = undef
          | 17 => v = undef
          | 18 => v = .bool false
          | 19 => v = .bool false
          | 20 => v = undef
          | 21 => v = undef
          | 22 => v = undef
          | 23 => v = undef
          | 24 => v = undef
          | 25 => v = undef
          | 26 => v = undef
          | 27 => v = undef
          | 28 => v = undef
          | 29 => v = undef
          | 30 => v = .bool false
          | 31 => v = .bool false
          | 32 => v = undef
          | 33 => v = undef
          | 34 => v = undef
          | 35 => v = undef
          | 36 => v = undef
          | 37 => v = undef
          | 38 => v = undef
          | 39 => v = undef
          | 40 => v = .bool false
          | _ => False) (by kernel_rfl) (by kernel_rfl) (fun _ _ _ => Grow.trans) Grow.refl ?_ ?_ ?_
      · intro i v y y' h k
        match i, h with
        | 0, h | 1, h | 2, h | 3, h | 4, h | 5, h | 6, h | 7, h | 8, h | 9, h | 10, h | 11, h | 12, h | 13, h | 14, h | 15, h | 16, h | 17, h | 18, h | 19, h | 20, h | 21, h | 22, h | 23, h | 24, h | 25, h | 26, h | 27, h | 28, h | 29, h | 30, h | 31, h | 32, h | 33, h | 34, h | 35, h | 36, h | 37, h | 38, h | 39, h | 40, h => exact h
      · simp only [StepsLit, List.take_succ_cons, List.take_zero]
        refine ⟨?_, ?_, ?_, ?_, ?_, ?_, ?_, ?_, ?_, ?_, ?_, ?_, ?_, ?_, ?_, ?_, ?_, ?_, ?_, ?_, ?_, ?_, ?_, ?_, ?_, ?_, ?_, ?_, ?_, ?_, ?_, ?_, ?_, ?_, ?_, ?_, ?_, ?_, ?_, ?_, ?_, trivial⟩
        · intro w5 hR
          have hGw : Grow W w5 := hR.of_drew
          have HGW := Lib.hid hGw
          have hcc := (HGW.out.block HN.out).cell
          have hgc := (HGW.out.block HGL.out).cell
          clear hR hGw
          simp only [depV]
          try go_simp
          all_goals first
            | (with_reducible exact Grow.refl _)
            | (with_reducible exact ⟨Grow.refl _, rfl⟩)
        · intro w5 hR
          have hGw : Grow W w5 := hR.of_drew
          have HGW := Lib.hid hGw
          have hcc := (HGW.out.block HN.out).cell
          have hgc := (HGW.out.block HGL.out).cell
          clear hR hGw
          simp only [depV]
          rintro _ rfl
          try go_simp
          all_goals first
            | (with_reducible exact Grow.refl _)
            | (with_reducible exact ⟨Grow.refl _, rfl⟩)
        · intro w5 hR
          have hGw : Grow W w5 := hR.of_drew
          have HGW := Lib.hid hGw
          have hcc := (HGW.out.block HN.out).cell
          have hgc := (HGW.out.block HGL.out).cell
          clear hR hGw
          simp only [depV]
          rintro _ rfl
          try go_simp
          all_goals first
            | (with_reducible exact Grow.refl _)
            | (with_reducible exact ⟨Grow.refl _, rfl⟩)
        · intro w5 hR
          have hGw : Grow W w5 := hR.of_drew
          have HGW := Lib.hid hGw
          have hcc := (HGW.out.block HN.out).cell
          have hgc := (HGW.out.block HGL.out).cell
          clear hR hGw
          simp only [depV]
          rintro _ rfl
          try go_simp
          all_goals first
            | (with_reducible exact Grow.refl _)
            | (with_reducible exact ⟨Grow.refl _, rfl⟩)
        · intro w5 hR
          have hGw : Grow W w5 := hR.of_drew
          have HGW := Lib.hid hGw
          have hcc := (HGW.out.block HN.out).cell
          have hgc := (HGW.out.block HGL.out).cell
          clear hR hGw
          simp only [depV]
          rintro _ rfl
          rintro _ rfl
          try go_simp
          all_goals first
            | (with_reducible exact Grow.refl _)
            | (with_reducible exact ⟨Grow.refl _, rfl⟩)
        · intro w5 hR
          have hGw : Grow W w5 := hR.of_drew
          have HGW := Lib.hid hGw
          have hcc := (HGW.out.block HN.out).cell
          have hgc := (HGW.out.block HGL.out).cell
          clear hR hGw
          simp only [depV]
          rintro _ rfl
          rintro _ rfl
          rintro _ rfl
          try go_simp
          all_goals first
            | (with_reducible exact Grow.refl _)
            | (with_reducible exact ⟨Grow.refl _, rfl⟩)
        · intro w5 hR
          have hGw : Grow W w5 := hR.of_drew
          have HGW := Lib.hid hGw
          have hcc := (HGW.out.block HN.out).cell
          have hgc := (HGW.out.block HGL.out).cell
          clear hR hGw
          simp only [depV]
          rintro _ rfl
          rintro _ rfl
          try go_simp
          all_goals first
            | (with_reducible exact Grow.refl _)
            | (with_reducible exact ⟨Grow.refl _, rfl⟩)
        · intro w5 hR
          have hGw : Grow W w5 := hR.of_drew
          have HGW := Lib.hid hGw
          have hcc := (HGW.out.block HN.out).cell
          have hgc := (HGW.out.block HGL.out).cell
          clear hR hGw
          simp only [depV]
          rintro _ rfl
          try go_simp
          all_goals first
            | (with_reducible exact Grow.refl _)
            | (with_reducible exact ⟨Grow.refl _, rfl⟩)
        · intro w5 hR
          have hGw : Grow W w5 := hR.of_drew
          have HGW := Lib.hid hGw
          have hcc := (HGW.out.block HN.out).cell
          have hgc := (HGW.out.block HGL.out).cell
          clear hR hGw
          simp only [depV]
          rintro _ rfl
          try go_simp
          all_goals first
            | (with_reducible exact Grow.refl _)
            | (with_reducible exact ⟨Grow.refl _, rfl⟩)
        · intro w5 hR
          have hGw : Grow W w5 := hR.of_drew
          have HGW := Lib.hid hGw
          have hcc := (HGW.out.block HN.out).cell
          have hgc := (HGW.out.block HGL.out).cell
          clear hR hGw
          simp only [depV]
          rintro _ rfl
          rintro _ rfl
          try go_simp
          all_goals first
            | (with_reducible exact Grow.refl _)
            | (with_reducible exact ⟨Grow.refl _, rfl⟩)
        · intro w5 hR
          have hGw : Grow W w5 := hR.of_drew
          have HGW := Lib.hid hGw
          have hcc := (HGW.out.block HN.out).cell
          have hgc := (HGW.out.block HGL.out).cell
          clear hR hGw
          simp only [depV]
          rintro _ rfl
          rintro _ rfl
          try go_simp
          all_goals first
            | (with_reducible exact Grow.refl _)
            | (with_reducible exact ⟨Grow.refl _, rfl⟩)
        · intro w5 hR
          have hGw : Grow W w5 := hR.of_drew
          have HGW := Lib.hid hGw
          have hcc := (HGW.out.block HN.out).cell
          have hgc := (HGW.out.block HGL.out).cell
          clear hR hGw
          simp only [depV]
          rintro _ rfl
          rintro _ rfl
          try go_simp
          all_goals first
            | (with_reducible exact Grow.refl _)
            | (with_reducible exact ⟨Grow.refl _, rfl⟩)
        · intro w5 hR
          have hGw : Grow W w5 := hR.of_drew
          have HGW := Lib.hid hGw
          have hcc := (HGW.out.block HN.out).cell
          have hgc := (HGW.out.block HGL.out).cell
          clear hR hGw
          simp only [depV]
          rintro _ rfl
          try go_simp
          all_goals first
            | (with_reducible exact Grow.refl _)
            | (with_reducible exact ⟨Grow.refl _, rfl⟩)
        · intro w5 hR
          have hGw : Grow W w5 := hR.of_drew
          have HGW := Lib.hid hGw
          have hcc := (HGW.out.block HN.out).cell
          have hgc := (HGW.out.block HGL.out).cell
          clear hR hGw
          simp only [depV]
          rintro _ rfl
          try go_simp
          all_goals first
            | (with_reducible exact Grow.refl _)
            | (with_reducible exact ⟨Grow.refl _, rfl⟩)
        · intro w5 hR
          have hGw : Grow W w5 := hR.of_drew
          have HGW := Lib.hid hGw
          have hcc := (HGW.out.block HN.out).cell
          have hgc := (HGW.out.block HGL.out).cell
          clear hR hGw
          simp only [depV]
          rintro _ rfl
          rintro _ rfl
          try go_simp
          all_goals first
            | (with_reducible exact Grow.refl _)
            | (with_reducible exact ⟨Grow.refl _, rfl⟩)
        · intro w5 hR
          have hGw : Grow W w5 := hR.of_drew
          have HGW := Lib.hid hGw
          have hcc := (HGW.out.block HN.out).cell
          have hgc := (HGW.out.block HGL.out).cell
          clear hR hGw
          simp only [depV]
          rintro _ rfl
          try go_simp
          all_goals first
            | (with_reducible exact Grow.refl _)
            | (with_reducible exact ⟨Grow.refl _, rfl⟩)
        · intro w5 hR
          have hGw : Grow W w5 := hR.of_drew
          have HGW := Lib.hid hGw
          have hcc := (HGW.out.block HN.out).cell
          have hgc := (HGW.out.block HGL.out).cell
          clear hR hGw
          simp only [depV]
          rintro _ rfl
          rintro _ rfl
          try go_simp
          all_goals first
            | (with_reducible exact Grow.refl _)
            | (with_reducible exact ⟨Grow.refl _, rfl⟩)
        · intro w5 hR
          have hGw : Grow W w5 := hR.of_drew
          have HGW := Lib.hid hGw
          have hcc := (HGW.out.block HN.out).cell
          have hgc := (HGW.out.block HGL.out).cell
          clear hR hGw
          simp only [depV]
          rintro _ rfl
          rintro _ rfl
          rintro _ rfl
          try go_simp
          all_goals first
            | (with_reducible exact Grow.refl _)
            | (with_reducible exact ⟨Grow.refl _, rfl⟩)
        · intro w5 hR
          have hGw : Grow W w5 := hR.of_drew
          have HGW := Lib.hid hGw
          have hcc := (HGW.out.block HN.out).cell
          have hgc := (HGW.out.block HGL.out).cell
          clear hR hGw
          simp only [depV]
          rintro _ rfl
          rintro _ rfl
          try go_simp
          all_goals first
            | (with_reducible exact Grow.refl _)
            | (with_reducible exact ⟨Grow.refl _, rfl⟩)
        · intro w5 hR
          have hGw : Grow W w5 := hR.of_drew
          have HGW := Lib.hid hGw
          have hcc := (HGW.out.block HN.out).cell
          have hgc := (HGW.out.block HGL.out).cell
          clear hR hGw
          simp only [depV]
          rintro _ rfl
          try go_simp
          all_goals first
            | (with_reducible exact Grow.refl _)
            | (with_reducible exact ⟨Grow.refl _, rfl⟩)
        · intro w5 hR
          have hGw : Grow W w5 := hR.of_drew
          have HGW := Lib.hid hGw
          have hcc := (HGW.out.block HN.out).cell
          have hgc := (HGW.out.block HGL.out).cell
          clear hR hGw
          simp only [depV]
          rintro _ rfl
          try go_simp
          all_goals first
            | (with_reducible exact Grow.refl _)
            | (with_reducible exact ⟨Grow.refl _, rfl⟩)
        · intro w5 hR
          have hGw : Grow W w5 := hR.of_drew
          have HGW := Lib.hid hGw
          have hcc := (HGW.out.block HN.out).cell
          have hgc := (HGW.out.block HGL.out).cell
          clear hR hGw
          simp only [depV]
          rintro _ rfl
          rintro _ rfl
          try go_simp
          all_goals first
            | (with_reducible exact Grow.refl _)
            | (with_reducible exact ⟨Grow.refl _, rfl⟩)
        · intro w5 hR
          have hGw : Grow W w5 := hR.of_drew
          have HGW := Lib.hid hGw
          have hcc := (HGW.out.block HN.out).cell
          have hgc := (HGW.out.block HGL.out).cell
          clear hR hGw
          simp only [depV]
          rintro _ rfl
          try go_simp
          all_goals first
            | (with_reducible exact Grow.refl _)
            | (with_reducible exact ⟨Grow.refl _, rfl⟩)
        · intro w5 hR
          have hGw : Grow W w5 := hR.of_drew
          have HGW := Lib.hid hGw
          have hcc := (HGW.out.block HN.out).cell
          have hgc := (HGW.out.block HGL.out).cell
          clear hR hGw
          simp only [depV]
          rintro _ rfl
          rintro _ rfl
          try go_simp
          all_goals first
            | (with_reducible exact Grow.refl _)
            | (with_reducible exact ⟨Grow.refl _, rfl⟩)
        · intro w5 hR
          have hGw : Grow W w5 := hR.of_drew
          have HGW := Lib.hid hGw
          have hcc := (HGW.out.block HN.out).cell
          have hgc := (HGW.out.block HGL.out).cell
          clear hR hGw
          simp only [depV]
          rintro _ rfl
          rintro _ rfl
          try go_simp
          all_goals first
            | (with_reducible exact Grow.refl _)
            | (with_reducible exact ⟨Grow.refl _, rfl⟩)
        · intro w5 hR
          have hGw : Grow W w5 := hR.of_drew
          have HGW := Lib.hid hGw
          have hcc := (HGW.out.block HN.out).cell
          have hgc := (HGW.out.block HGL.out).cell
          clear hR hGw
          simp only [depV]
          rintro _ rfl
          try go_simp
          all_goals first
            | (with_reducible exact Grow.refl _)
            | (with_reducible exact ⟨Grow.refl _, rfl⟩)
        · intro w5 hR
          have hGw : Grow W w5 := hR.of_drew
          have HGW := Lib.hid hGw
          have hcc := (HGW.out.block HN.out).cell
          have hgc := (HGW.out.block HGL.out).cell
          clear hR hGw
          simp only [depV]
          rintro _ rfl
          rintro _ rfl
          try go_simp
          all_goals first
            | (with_reducible exact Grow.refl _)
            | (with_reducible exact ⟨Grow.refl _, rfl⟩)
        · intro w5 hR
          have hGw : Grow W w5 := hR.of_drew
          have HGW := Lib.hid hGw
          have hcc := (HGW.out.block HN.out).cell
          have hgc := (HGW.out.block HGL.out).cell
          clear hR hGw
          simp only [depV]
          rintro _ rfl
          rintro _ rfl
          rintro _ rfl
          try go_simp
          all_goals first
            | (with_reducible exact Grow.refl _)
            | (with_reducible exact ⟨Grow.refl _, rfl⟩)
        · intro w5 hR
          have hGw : Grow W w5 := hR.of_drew
          have HGW := Lib.hid hGw
          have hcc := (HGW.out.block HN.out).cell
          have hgc := (HGW.out.block HGL.out).cell
          clear hR hGw
          simp only [depV]
          rintro _ rfl
          rintro _ rfl
          try go_simp
          all_goals first
            | (with_reducible exact Grow.refl _)
            | (with_reducible exact ⟨Grow.refl _, rfl⟩)
        · intro w5 hR
          have hGw : Grow W w5 := hR.of_drew
          have HGW := Lib.hid hGw
          have hcc := (HGW.out.block HN.out).cell
          have hgc := (HGW.out.block HGL.out).cell
          clear hR hGw
          simp only [depV]
          rintro _ rfl
          rintro _ rfl
          rintro _ rfl
          try go_simp
          all_goals first
            | (with_reducible exact Grow.refl _)
            | (with_reducible exact ⟨Grow.refl _, rfl⟩)
        · intro w5 hR
          have hGw : Grow W w5 := hR.of_drew
          have HGW := Lib.hid hGw
          have hcc := (HGW.out.block HN.out).cell
          have hgc := (HGW.out.block HGL.out).cell
          clear hR hGw
          simp only [depV]
          rintro _ rfl
          rintro _ rfl
          try go_simp
          all_goals first
            | (with_reducible exact Grow.refl _)
            | (with_reducible exact ⟨Grow.refl _, rfl⟩)
        · intro w5 hR
          have hGw : Grow W w5 := hR.of_drew
          have HGW := Lib.hid hGw
          have hcc := (HGW.out.block HN.out).cell
          have hgc := (HGW.out.block HGL.out).cell
          clear hR hGw
          simp only [depV]
          rintro _ rfl
          try go_simp
          all_goals first
            | (with_reducible exact Grow.refl _)
            | (with_reducible exact ⟨Grow.refl _, rfl⟩)
        · intro w5 hR
          have hGw : Grow W w5 := hR.of_drew
          have HGW := Lib.hid hGw
          have hcc := (HGW.out.block HN.out).cell
          have hgc := (HGW.out.block HGL.out).cell
          clear hR hGw
          simp only [depV]
          rintro _ rfl
          try go_simp
          all_goals first
            | (with_reducible exact Grow.refl _)
            | (with_reducible exact ⟨Grow.refl _, rfl⟩)
        · intro w5 hR
          have hGw : Grow W w5 := hR.of_drew
          have HGW := Lib.hid hGw
          have hcc := (HGW.out.block HN.out).cell
          have hgc := (HGW.out.block HGL.out).cell
          clear hR hGw
          simp only [depV]
          rintro _ rfl
          rintro _ rfl
          try go_simp
          all_goals first
            | (with_reducible exact Grow.refl _)
            | (with_reducible exact ⟨Grow.refl _, rfl⟩)
        · intro w5 hR
          have hGw : Grow W w5 := hR.of_drew
          have HGW := Lib.hid hGw
          have hcc := (HGW.out.block HN.out).cell
          have hgc := (HGW.out.block HGL.out).cell
          clear hR hGw
          simp only [depV]
          rintro _ rfl
          try go_simp
          all_goals first
            | (with_reducible exact Grow.refl _)
            | (with_reducible exact ⟨Grow.refl _, rfl⟩)
        · intro w5 hR
          have hGw : Grow W w5 := hR.of_drew
          have HGW := Lib.hid hGw
          have hcc := (HGW.out.block HN.out).cell
          have hgc := (HGW.out.block HGL.out).cell
          clear hR hGw
          simp only [depV]
          rintro _ rfl
          rintro _ rfl
          try go_simp
          all_goals first
            | (with_reducible exact Grow.refl _)
            | (with_reducible exact ⟨Grow.refl _, rfl⟩)
        · intro w5 hR
          have hGw : Grow W w5 := hR.of_drew
          have HGW := Lib.hid hGw
          have hcc := (HGW.out.block HN.out).cell
          have hgc := (HGW.out.block HGL.out).cell
          clear hR hGw
          simp only [depV]
          rintro _ rfl
          rintro _ rfl
          try go_simp
          all_goals first
            | (with_reducible exact Grow.refl _)
            | (with_reducible exact ⟨Grow.refl _, rfl⟩)
        · intro w5 hR
          have hGw : Grow W w5 := hR.of_drew
          have HGW := Lib.hid hGw
          have hcc := (HGW.out.block HN.out).cell
          have hgc := (HGW.out.block HGL.out).cell
          clear hR hGw
          simp only [depV]
          rintro _ rfl
          rintro _ rfl
          try go_simp
          all_goals first
            | (with_reducible exact Grow.refl _)
            | (with_reducible exact ⟨Grow.refl _, rfl⟩)
        · intro w5 hR
          have hGw : Grow W w5 := hR.of_drew
          have HGW := Lib.hid hGw
          have hcc := (HGW.out.block HN.out).cell
          have hgc := (HGW.out.block HGL.out).cell
          clear hR hGw
          simp only [depV]
          rintro _ rfl
          rintro _ rfl
          try go_simp
          all_goals first
            | (with_reducible exact Grow.refl _)
            | (with_reducible exact ⟨Grow.refl _, rfl⟩)
        · intro w5 hR
          have hGw : Grow W w5 := hR.of_drew
          have HGW := Lib.hid hGw
          have hcc := (HGW.out.block HN.out).cell
          have hgc := (HGW.out.block HGL.out).cell
          clear hR hGw
          simp only [depV]
          rintro _ rfl
          rintro _ rfl
          rintro _ rfl
          try go_simp
          all_goals first
            | (with_reducible exact Grow.refl _)
            | (with_reducible exact ⟨Grow.refl _, rfl⟩)
        · intro w5 hR
          have hGw : Grow W w5 := hR.of_drew
          have HGW := Lib.hid hGw
          have hcc := (HGW.out.block HN.out).cell
          have hgc := (HGW.out.block HGL.out).cell
          clear hR hGw
          simp only [depV]
          rintro _ rfl
          rintro _ rfl
          try go_simp
          all_goals first
            | (with_reducible exact Grow.refl _)
            | (with_reducible exact ⟨Grow.refl _, rfl⟩)
      · intro w5 hR
        have HG5 : Hid (Grow W w5) := Lib.hid hR.of_drew
        clear hR
        simp only [finVC, List.take_succ_cons, List.take_zero, List.drop_succ_cons, List.drop_zero]
        rintro _ rfl
        rintro _ rfl
        rintro _ rfl
        rintro _ rfl
        rintro _ rfl
        rintro _ rfl
        rintro _ rfl
        rintro _ rfl
        rintro _ rfl
        rintro _ rfl
        rintro _ rfl
        rintro _ rfl
        rintro _ rfl
        rintro _ rfl
        rintro _ rfl
        rintro _ rfl
        rintro _ rfl
        rintro _ rfl
        rintro _ rfl
        rintro _ rfl
        rintro _ rfl
        rintro _ rfl
        rintro _ rfl
        rintro _ rfl
        rintro _ rfl
        rintro _ rfl
        rintro _ rfl
        rintro _ rfl
        rintro _ rfl
        rintro _ rfl
        rintro _ rfl
        rintro _ rfl
        rintro _ rfl
        rintro _ rfl
        rintro _ rfl
        rintro _ rfl
        rintro _ rfl
        rintro _ rfl
        rintro _ rfl
        rintro _ rfl
        rintro _ rfl
        simp only [Act.put, List.setIfInBounds_toArray, List.set_cons_succ, List.set_cons_zero]
        go_wp2
        go_ret
        exact ⟨ret_bool (by rw [HO.out]; simp), HG.out.trans HG5.out⟩
    · cases c1
      · go_upto_region 2 with fail
        refine wp_region_lit 41 [[], [(0, 14)], [(1, 15)], [(1, 15)], [(1, 15), (3, 17)], [(1, 15), (2, 16), (4, 18)], [(1, 15), (5, 19)], [(6, 20)], [(7, 21)], [(7, 21), (8, 22)], [(7, 21), (9, 23)], [(7, 21), (10, 24)], [(11, 25)], [(12, 26)], [(12, 26), (13, 27)], [(12, 26)], [(12, 26), (15, 29)], [(12, 26), (14, 28), (16, 30)], [(12, 26), (17, 31)], [(18, 32)], [(19, 33)], [(19, 33), (20, 34)], [(19, 33)], [(19, 33), (22, 36)], [(19, 33), (23, 37)], [(19, 33)], [(19, 33), (25, 39)], [(19, 33), (24, 38), (26, 40)], [(19, 33), (27, 41)], [(19, 33), (21, 35), (28, 42)], [(19, 33), (29, 43)], [(30, 44)], [(31, 45)], [(31, 45), (32, 46)], [(31, 45)], [(31, 45), (34, 48)], [(31, 45), (35, 49)], [(31, 45), (36, 50)], [(31, 45), (37, 51)], [(31, 45), (33, 47), (38, 52)], [(31, 45), (39, 53)]] Grow (fun qi v w' => match qi with
            | 0 => v = .bool true
            | 1 => v = .bool true
            | 2 => v = notesV ⟨⟨frames, (sn : Int)⟩, A, ca⟩ m h
            | 3 => v = .pointer (some ⟨bg, 2, none⟩)
            | 4 => v = .int .i64 film
            | 5 => v = .bool false
            | 6 => v = .bool false
            | 7 => v = .bool false
            | 8 => v = undef
            | 9 => v = undef
            | 10 => v = undef
            | 11 => v = .bool false
            | 12 => v = .bool false
            | 13 => v = undef
            | 14 => v = undef
            | 15 => v = undef
            | 16 => v = undef
            | 17 => v = undef
            | 18 => v = .bool false
            | 19 => v = .bool false
            | 20 => v = undef
            | 21 => v = undef
            | 22 => v = undef
            | 23 => v = undef
            | 24 => v = undef
            | 25 => v = undef
            | 26 => v = undef
            | 27 => v = undef
            | 28 => v = undef
            | 29 => v = undef
            | 30 => v = .bool false
            | 31 => v = .bool false
            | 32 => v = undef
            | 33 => v = undef
            | 34 => v = undef
            | 35 => v = undef
            | 36 => v = undef
            | 37 => v = undef
            | 38 => v = undef
            | 39 => v = undef
            | 40 => v = .bool false
            | _ => False) (by kernel_rfl) (by kernel_rfl) (fun _ _ _ => Grow.trans) Grow.refl ?_ ?_ ?_
        · intro i v y y' h k
          match i, h with
          | 0, h | 1, h | 2, h | 3, h | 4, h | 5, h | 6, h | 7, h | 8, h | 9, h | 10, h | 11, h | 12, h | 13, h | 14, h | 15, h | 16, h | 17, h | 18, h | 19, h | 20, h | 21, h | 22, h | 23, h | 24, h | 25, h | 26, h | 27, h | 28, h | 29, h | 30, h | 31, h | 32, h | 33, h | 34, h | 35, h | 36, h | 37, h | 38, h | 39, h | 40, h => exact h
        · simp only [StepsLit, List.take_succ_cons, List.take_zero]
          refine ⟨?_, ?_, ?_, ?_, ?_, ?_, ?_, ?_, ?_, ?_, ?_, ?_, ?_, ?_, ?_, ?_, ?_, ?_, ?_, ?_, ?_, ?_, ?_, ?_, ?_, ?_, ?_, ?_, ?_, ?_, ?_, ?_, ?_, ?_, ?_, ?_, ?_, ?_, ?_, ?_, ?_, trivial⟩
          · intro w5 hR
            have hGw : Grow W w5 := hR.of_drew
            have HGW := Lib.hid hGw
            have hcc := (HGW.out.block HN.out).cell
            have hgc := (HGW.out.block HGL.out).cell
            clear hR hGw
            simp only [depV]
            try go_simp
            all_goals first
              | (with_reducible exact Grow.refl _)
              | (with_reducible exact ⟨Grow.refl _, rfl⟩)
          · intro w5 hR
            have hGw : Grow W w5 := hR.of_drew
            have HGW := Lib.hid hGw
            have hcc := (HGW.out.block HN.out).cell
            have hgc := (HGW.out.block HGL.out).cell
            clear hR hGw
            simp only [depV]
            rintro _ rfl
            try go_simp
            all_goals first
              | (with_reducible exact Grow.refl _)
              | (with_reducible exact ⟨Grow.refl _, rfl⟩)
          · intro w5 hR
            have hGw : Grow W w5 := hR.of_drew
            have HGW := Lib.hid hGw
            have hcc := (HGW.out.block HN.out).cell
            have hgc := (HGW.out.block HGL.out).cell
            clear hR hGw
            simp only [depV]
            rintro _ rfl
            try go_simp
            all_goals first
              | (with_reducible exact Grow.refl _)
              | (with_reducible exact ⟨Grow.refl _, rfl⟩)
          · intro w5 hR
            have hGw : Grow W w5 := hR.of_drew
            have HGW := Lib.hid hGw
            have hcc := (HGW.out.block HN.out).cell
            have hgc := (HGW.out.block HGL.out).cell
            clear hR hGw
            simp only [depV]
            rintro _ rfl
            try go_simp
            all_goals first
              | (with_reducible exact Grow.refl _)
              | (with_reducible exact ⟨Grow.refl _, rfl⟩)
          · intro w5 hR
            have hGw : Grow W w5 := hR.of_drew
            have HGW := Lib.hid hGw
            have hcc := (HGW.out.block HN.out).cell
            have hgc := (HGW.out.block HGL.out).cell
            clear hR hGw
            simp only [depV]
            rintro _ rfl
            rintro _ rfl
            try go_simp
            all_goals first
              | (with_reducible exact Grow.refl _)
              | (with_reducible exact ⟨Grow.refl _, rfl⟩)
          · intro w5 hR
            have hGw : Grow W w5 := hR.of_drew
            have HGW := Lib.hid hGw
            have hcc := (HGW.out.block HN.out).cell
            have hgc := (HGW.out.block HGL.out).cell
            clear hR hGw
            simp only [depV]
            rintro _ rfl
            rintro _ rfl
            rintro _ rfl
            try go_simp
            refine (HF.out _).mono ?_
            rintro e w6 ⟨rfl, hb6⟩
            exact ⟨hb6, rfl⟩
          · intro w5 hR
            have hGw : Grow W w5 := hR.of_drew
            have HGW := Lib.hid hGw
            have hcc := (HGW.out.block HN.out).cell
            have hgc := (HGW.out.block HGL.out).cell
            clear hR hGw
            simp only [depV]
            rintro _ rfl
            rintro _ rfl
            try go_simp
            all_goals first
              | (with_reducible exact Grow.refl _)
              | (with_reducible exact ⟨Grow.refl _, rfl⟩)
          · intro w5 hR
            have hGw : Grow W w5 := hR.of_drew
            have HGW := Lib.hid hGw
            have hcc := (HGW.out.block HN.out).cell
            have hgc := (HGW.out.block HGL.out).cell
            clear hR hGw
            simp only [depV]
            rintro _ rfl
            try go_simp
            all_goals first
              | (with_reducible exact Grow.refl _)
              | (with_reducible exact ⟨Grow.refl _, rfl⟩)
          · intro w5 hR
            have hGw : Grow W w5 := hR.of_drew
            have HGW := Lib.hid hGw
            have hcc := (HGW.out.block HN.out).cell
            have hgc := (HGW.out.block HGL.out).cell
            clear hR hGw
            simp only [depV]
            rintro _ rfl
            try go_simp
            all_goals first
              | (with_reducible exact Grow.refl _)
              | (with_reducible exact ⟨Grow.refl _, rfl⟩)
          · intro w5 hR
            have hGw : Grow W w5 := hR.of_drew
            have HGW := Lib.hid hGw
            have hcc := (HGW.out.block HN.out).cell
            have hgc := (HGW.out.block HGL.out).cell
            clear hR hGw
            simp only [depV]
            rintro _ rfl
            rintro _ rfl
            try go_simp
            all_goals first
              | (with_reducible exact Grow.refl _)
              | (with_reducible exact ⟨Grow.refl _, rfl⟩)
          · intro w5 hR
            have hGw : Grow W w5 := hR.of_drew
            have HGW := Lib.hid hGw
            have hcc := (HGW.out.block HN.out).cell
            have hgc := (HGW.out.block HGL.out).cell
            clear hR hGw
            simp only [depV]
            rintro _ rfl
            rintro _ rfl
            try go_simp
            all_goals first
              | (with_reducible exact Grow.refl _)
              | (with_reducible exact ⟨Grow.refl _, rfl⟩)
          · intro w5 hR
            have hGw : Grow W w5 := hR.of_drew
            have HGW := Lib.hid hGw
            have hcc := (HGW.out.block HN.out).cell
            have hgc := (HGW.out.block HGL.out).cell
            clear hR hGw
            simp only [depV]
            rintro _ rfl
            rintro _ rfl
            try go_simp
            all_goals first
              | (with_reducible exact Grow.refl _)
              | (with_reducible exact ⟨Grow.refl _, rfl⟩)
          · intro w5 hR
            have hGw : Grow W w5 := hR.of_drew
            have HGW := Lib.hid hGw
            have hcc := (HGW.out.block HN.out).cell
            have hgc := (HGW.out.block HGL.out).cell
            clear hR hGw
            simp only [depV]
            rintro _ rfl
            try go_simp
            all_goals first
              | (with_reducible exact Grow.refl _)
              | (with_reducible exact ⟨Grow.refl _, rfl⟩)
          · intro w5 hR
            have hGw : Grow W w5 := hR.of_drew
            have HGW := Lib.hid hGw
            have hcc := (HGW.out.block HN.out).cell
            have hgc := (HGW.out.block HGL.out).cell
            clear hR hGw
            simp only [depV]
            rintro _ rfl
            try go_simp
            all_goals first
              | (with_reducible exact Grow.refl _)
              | (with_reducible exact ⟨Grow.refl _, rfl⟩)
          · intro w5 hR
            have hGw : Grow W w5 := hR.of_drew
            have HGW := Lib.hid hGw
            have hcc := (HGW.out.block HN.out).cell
            have hgc := (HGW.out.block HGL.out).cell
            clear hR hGw
            simp only [depV]
            rintro _ rfl
            rintro _ rfl
            try go_simp
            all_goals first
              | (with_reducible exact Grow.refl _)
              | (with_reducible exact ⟨Grow.refl _, rfl⟩)
          · intro w5 hR
            have hGw : Grow W w5 := hR.of_drew
            have HGW := Lib.hid hGw
            have hcc := (HGW.out.block HN.out).cell
            have hgc := (HGW.out.block HGL.out).cell
            clear hR hGw
            simp only [depV]
            rintro _ rfl
            try go_simp
            all_goals first
              | (with_reducible exact Grow.refl _)
              | (with_reducible exact ⟨Grow.refl _, rfl⟩)
          · intro w5 hR
            have hGw : Grow W w5 := hR.of_drew
            have HGW := Lib.hid hGw
            have hcc := (HGW.out.block HN.out).cell
            have hgc := (HGW.out.block HGL.out).cell
            clear hR hGw
            simp only [depV]
            rintro _ rfl
            rintro _ rfl
            try go_simp
            all_goals first
              | (with_reducible exact Grow.refl _)
              | (with_reducible exact ⟨Grow.refl _, rfl⟩)
          · intro w5 hR
            have hGw : Grow W w5 := hR.of_drew
            have HGW := Lib.hid hGw
            have hcc := (HGW.out.block HN.out).cell
            have hgc := (HGW.out.block HGL.out).cell
            clear hR hGw
            simp only [depV]
            rintro _ rfl
            rintro _ rfl
            rintro _ rfl
            try go_simp
            all_goals first
              | (with_reducible exact Grow.refl _)
              | (with_reducible exact ⟨Grow.refl _, rfl⟩)
          · intro w5 hR
            have hGw : Grow W w5 := hR.of_drew
            have HGW := Lib.hid hGw
            have hcc := (HGW.out.block HN.out).cell
            have hgc := (HGW.out.block HGL.out).cell
            clear hR hGw
            simp only [depV]
            rintro _ rfl
            rintro _ rfl
            try go_simp
            all_goals first
              | (with_reducible exact Grow.refl _)
              | (with_reducible exact ⟨Grow.refl _, rfl⟩)
          · intro w5 hR
            have hGw : Grow W w5 := hR.of_drew
            have HGW := Lib.hid hGw
            have hcc := (HGW.out.block HN.out).cell
            have hgc := (HGW.out.block HGL.out).cell
            clear hR hGw
            simp only [depV]
            rintro _ rfl
            try go_simp
            all_goals first
              | (with_reducible exact Grow.refl _)
              | (with_reducible exact ⟨Grow.refl _, rfl⟩)
          · intro w5 hR
            have hGw : Grow W w5 := hR.of_drew
            have HGW := Lib.hid hGw
            have hcc := (HGW.out.block HN.out).cell
            have hgc := (HGW.out.block HGL.out).cell
            clear hR hGw
            simp only [depV]
            rintro _ rfl
            try go_simp
            all_goals first
              | (with_reducible exact Grow.refl _)
              | (with_reducible exact ⟨Grow.refl _, rfl⟩)
          · intro w5 hR
            have hGw : Grow W w5 := hR.of_drew
            have HGW := Lib.hid hGw
            have hcc := (HGW.out.block HN.out).cell
            have hgc := (HGW.out.block HGL.out).cell
            clear hR hGw
            simp only [depV]
            rintro _ rfl
            rintro _ rfl
            try go_simp
            all_goals first
              | (with_reducible exact Grow.refl _)
              | (with_reducible exact ⟨Grow.refl _, rfl⟩)
          · intro w5 hR
            have hGw : Grow W w5 := hR.of_drew
            have HGW := Lib.hid hGw
            have hcc := (HGW.out.block HN.out).cell
            have hgc := (HGW.out.block HGL.out).cell
            clear hR hGw
            simp only [depV]
            rintro _ rfl
            try go_simp
            all_goals first
              | (with_reducible exact Grow.refl _)
              | (with_reducible exact ⟨Grow.refl _, rfl⟩)
          · intro w5 hR
            have hGw : Grow W w5 := hR.of_drew
            have HGW := Lib.hid hGw
            have hcc := (HGW.out.block HN.out).cell
            have hgc := (HGW.out.block HGL.out).cell
            clear hR hGw
            simp only [depV]
            rintro _ rfl
            rintro _ rfl
            try go_simp
            all_goals first
              | (with_reducible exact Grow.refl _)
              | (with_reducible exact ⟨Grow.refl _, rfl⟩)
          · intro w5 hR
            have hGw : Grow W w5 := hR.of_drew
            have HGW := Lib.hid hGw
            have hcc := (HGW.out.block HN.out).cell
            have hgc := (HGW.out.block HGL.out).cell
            clear hR hGw
            simp only [depV]
            rintro _ rfl
            rintro _ rfl
            try go_simp
            all_goals first
              | (with_reducible exact Grow.refl _)
              | (with_reducible exact ⟨Grow.refl _, rfl⟩)
          · intro w5 hR
            have hGw : Grow W w5 := hR.of_drew
            have HGW := Lib.hid hGw
            have hcc := (HGW.out.block HN.out).cell
            have hgc := (HGW.out.block HGL.out).cell
            clear hR hGw
            simp only [depV]
            rintro _ rfl
            try go_simp
            all_goals first
              | (with_reducible exact Grow.refl _)
              | (with_reducible exact ⟨Grow.refl _, rfl⟩)
          · intro w5 hR
            have hGw : Grow W w5 := hR.of_drew
            have HGW := Lib.hid hGw
            have hcc := (HGW.out.block HN.out).cell
            have hgc := (HGW.out.block HGL.out).cell
            clear hR hGw
            simp only [depV]
            rintro _ rfl
            rintro _ rfl
            try go_simp
            all_goals first
              | (with_reducible exact Grow.refl _)
              | (with_reducible exact ⟨Grow.refl _, rfl⟩)
          · intro w5 hR
            have hGw : Grow W w5 := hR.of_drew
            have HGW := Lib.hid hGw
            have hcc := (HGW.out.block HN.out).cell
            have hgc := (HGW.out.block HGL.out).cell
            clear hR hGw
            simp only [depV]
            rintro _ rfl
            rintro _ rfl
            rintro _ rfl
            try go_simp
            all_goals first
              | (with_reducible exact Grow.refl _)
              | (with_reducible exact ⟨Grow.refl _, rfl⟩)
          · intro w5 hR
            have hGw : Grow W w5 := hR.of_drew
            have HGW := Lib.hid hGw
            have hcc := (HGW.out.block HN.out).cell
            have hgc := (HGW.out.block HGL.out).cell
            clear hR hGw
            simp only [depV]
            rintro _ rfl
            rintro _ rfl
            try go_simp
            all_goals first
              | (with_reducible exact Grow.refl _)
              | (with_reducible exact ⟨Grow.refl _, rfl⟩)
          · intro w5 hR
            have hGw : Grow W w5 := hR.of_drew
            have HGW := Lib.hid hGw
            have hcc := (HGW.out.block HN.out).cell
            have hgc := (HGW.out.block HGL.out).cell
            clear hR hGw
            simp only [depV]
            rintro _ rfl
            rintro _ rfl
            rintro _ rfl
            try go_simp
            all_goals first
              | (with_reducible exact Grow.refl _)
              | (with_reducible exact ⟨Grow.refl _, rfl⟩)
          · intro w5 hR
            have hGw : Grow W w5 := hR.of_drew
            have HGW := Lib.hid hGw
            have hcc := (HGW.out.block HN.out).cell
            have hgc := (HGW.out.block HGL.out).cell
            clear hR hGw
            simp only [depV]
            rintro _ rfl
            rintro _ rfl
            try go_simp
            all_goals first
              | (with_reducible exact Grow.refl _)
              | (with_reducible exact ⟨Grow.refl _, rfl⟩)
          · intro w5 hR
            have hGw : Grow W w5 := hR.of_drew
            have HGW := Lib.hid hGw
            have hcc := (HGW.out.block HN.out).cell
            have hgc := (HGW.out.block HGL.out).cell
            clear hR hGw
            simp only [depV]
            rintro _ rfl
            try go_simp
            all_goals first
              | (with_reducible exact Grow.refl _)
              | (with_reducible exact ⟨Grow.refl _, rfl⟩)
          · intro w5 hR
            have hGw : Grow W w5 := hR.of_drew
            have HGW := Lib.hid hGw
            have hcc := (HGW.out.block HN.out).cell
            have hgc := (HGW.out.block HGL.out).cell
            clear hR hGw
            simp only [depV]
            rintro _ rfl
            try go_simp
            all_goals first
              | (with_reducible exact Grow.refl _)
              | (with_reducible exact ⟨Grow.refl _, rfl⟩)
          · intro w5 hR
            have hGw : Grow W w5 := hR.of_drew
            have HGW := Lib.hid hGw
            have hcc := (HGW.out.block HN.out).cell
            have hgc := (HGW.out.block HGL.out).cell
            clear hR hGw
            simp only [depV]
            rintro _ rfl
            rintro _ rfl
            try go_simp
            all_goals first
              | (with_reducible exact Grow.refl _)
              | (with_reducible exact ⟨Grow.refl _, rfl⟩)
          · intro w5 hR
            have hGw : Grow W w5 := hR.of_drew
            have HGW := Lib.hid hGw
            have hcc := (HGW.out.block HN.out).cell
            have hgc := (HGW.out.block HGL.out).cell
            clear hR hGw
            simp only [depV]
            rintro _ rfl
            try go_simp
            all_goals first
              | (with_reducible exact Grow.refl _)
              | (with_reducible exact ⟨Grow.refl _, rfl⟩)
          · intro w5 hR
            have hGw : Grow W w5 := hR.of_drew
            have HGW := Lib.hid hGw
            have hcc := (HGW.out.block HN.out).cell
            have hgc := (HGW.out.block HGL.out).cell
            clear hR hGw
            simp only [depV]
            rintro _ rfl
            rintro _ rfl
            try go_simp
            all_goals first
              | (with_reducible exact Grow.refl _)
              | (with_reducible exact ⟨Grow.refl _, rfl⟩)
          · intro w5 hR
            have hGw : Grow W w5 := hR.of_drew
            have HGW := Lib.hid hGw
            have hcc := (HGW.out.block HN.out).cell
            have hgc := (HGW.out.block HGL.out).cell
            clear hR hGw
            simp only [depV]
            rintro _ rfl
            rintro _ rfl
            try go_simp
            all_goals first
              | (with_reducible exact Grow.refl _)
              | (with_reducible exact ⟨Grow.refl _, rfl⟩)
          · intro w5 hR
            have hGw : Grow W w5 := hR.of_drew
            have HGW := Lib.hid hGw
            have hcc := (HGW.out.block HN.out).cell
            have hgc := (HGW.out.block HGL.out).cell
            clear hR hGw
            simp only [depV]
            rintro _ rfl
            rintro _ rfl
            try go_simp
            all_goals first
              | (with_reducible exact Grow.refl _)
              | (with_reducible exact ⟨Grow.refl _, rfl⟩)
          · intro w5 hR
            have hGw : Grow W w5 := hR.of_drew
            have HGW := Lib.hid hGw
            have hcc := (HGW.out.block HN.out).cell
            have hgc := (HGW.out.block HGL.out).cell
            clear hR hGw
            simp only [depV]
            rintro _ rfl
            rintro _ rfl
            try go_simp
            all_goals first
              | (with_reducible exact Grow.refl _)
              | (with_reducible exact ⟨Grow.refl _, rfl⟩)
          · intro w5 hR
            have hGw : Grow W w5 := hR.of_drew
            have HGW := Lib.hid hGw
            have hcc := (HGW.out.block HN.out).cell
            have hgc := (HGW.out.block HGL.out).cell
            clear hR hGw
            simp only [depV]
            rintro _ rfl
            rintro _ rfl
            rintro _ rfl
            try go_simp
            all_goals first
              | (with_reducible exact Grow.refl _)
              | (with_reducible exact ⟨Grow.refl _, rfl⟩)
          · intro w5 hR
            have hGw : Grow W w5 := hR.of_drew
            have HGW := Lib.hid hGw
            have hcc := (HGW.out.block HN.out).cell
            have hgc := (HGW.out.block HGL.out).cell
            clear hR hGw
            simp only [depV]
            rintro _ rfl
            rintro _ rfl
            try go_simp
            all_goals first
              | (with_reducible exact Grow.refl _)
              | (with_reducible exact ⟨Grow.refl _, rfl⟩)
        · intro w5 hR
          have HG5 : Hid (Grow W w5) := Lib.hid hR.of_drew
          clear hR
          simp only [finVC, List.take_succ_cons, List.take_zero, List.drop_succ_cons, List.drop_zero]
          rintro _ rfl
          rintro _ rfl
          rintro _ rfl
          rintro _ rfl
          rintro _ rfl
          rintro _ rfl
          rintro _ rfl
          rintro _ rfl
          rintro _ rfl
          rintro _ rfl
          rintro _ rfl
          rintro _ rfl
          rintro _ rfl
          rintro _ rfl
          rintro _ rfl
          rintro _ rfl
          rintro _ rfl
          rintro _ rfl
          rintro _ rfl
          rintro _ rfl
          rintro _ rfl
          rintro _ rfl
          rintro _ rfl
          rintro _ rfl
          rintro _ rfl
          rintro _ rfl
          rintro _ rfl
          rintro _ rfl
          rintro _ rfl
          rintro _ rfl
          rintro _ rfl
          rintro _ rfl
          rintro _ rfl
          rintro _ rfl
          rintro _ rfl
          rintro _ rfl
          rintro _ rfl
          rintro _ rfl
          rintro _ rfl
          rintro _ rfl
          rintro _ rfl
          simp only [Act.put, List.setIfInBounds_toArray, List.set_cons_succ, List.set_cons_zero]
          go_wp2
          go_ret
          exact ⟨ret_bool (by rw [HO.out]; simp), HG.out.trans HG5.out⟩
      · have hfi := inB_iff.1 HC1.out
        obtain ⟨k, rfl⟩ := Int.eq_ofNat_of_zero_le hfi.1
        have hfx := (HFR.out k (by omega) hfi.2).1
        rw [Int.toNat_natCast] at hfx
        have hkl : k < frames.length := lt_of_at hfx
        obtain ⟨bf, off, x, rfl, hbf, hxc, HX⟩ := HIW.out.at_ hkl
        have hxe : frameOf ⟨frames, (sn : Int)⟩ k = x := by
          have h1 := HX.out
          dsimp only at h1 hfx
          rw [hfx] at h1
          exact Option.some.inj h1
        rw [hxe] at HO
        have HXC := Lib.hid (fun (w0 : World) (hw : Grow W w0) => hw.cell hxc)
        have hki : (k : Int) < (frames.length : Int) := by omega
        have hk0 : (0 : Int) ≤ (k : Int) := by omega
        clear hfx hxe hxc hbf
        by_cases h2 : 0 ≤ frm
        · have d2 : decide (0 ≤ frm) = true := decide_eq_true h2
          by_cases h3 : frm < till
          · have d3 : decide (frm < till) = true := decide_eq_true h3
            by_cases h4 : till ≤ x
            · have d4 : decide (till ≤ x) = true := decide_eq_true h4
              go_upto_region 2 with fail
              refine wp_region_lit 41 [[], [(0, 14)], [(1, 15)], [(1, 15)], [(1, 15), (3, 17)], [(1, 15), (2, 16), (4, 18)], [(1, 15), (5, 19)], [(6, 20)], [(7, 21)], [(7, 21), (8, 22)], [(7, 21), (9, 23)], [(7, 21), (10, 24)], [(11, 25)], [(12, 26)], [(12, 26), (13, 27)], [(12, 26)], [(12, 26), (15, 29)], [(12, 26), (14, 28), (16, 30)], [(12, 26), (17, 31)], [(18, 32)], [(19, 33)], [(19, 33), (20, 34)], [(19, 33)], [(19, 33), (22, 36)], [(19, 33), (23, 37)], [(19, 33)], [(19, 33), (25, 39)], [(19, 33), (24, 38), (26, 40)], [(19, 33), (27, 41)], [(19, 33), (21, 35), (28, 42)], [(19, 33), (29, 43)], [(30, 44)], [(31, 45)], [(31, 45), (32, 46)], [(31, 45)], [(31, 45), (34, 48)], [(31, 45), (35, 49)], [(31, 45), (36, 50)], [(31, 45), (37, 51)], [(31, 45), (33, 47), (38, 52)], [(31, 45), (39, 53)]] Grow (fun qi v w' => match qi with
                  | 0 => v = .bool true
                  | 1 => v = .bool true
                  | 2 => v = notesV ⟨⟨frames, (sn : Int)⟩, some ⟨bf, off, none⟩, ca⟩ m h
                  | 3 => v = .pointer (some ⟨bg, 2, none⟩)
                  | 4 => v = .int .i64 (k : Nat)
                  | 5 => v = .bool true
                  | 6 => v = .bool true
                  | 7 => v = .bool true
                  | 8 => v = .pointer (some ⟨bg, 3, none⟩)
                  | 9 => v = .int .i64 frm
                  | 10 => v = .bool true
                  | 11 => v = .bool true
                  | 12 => v = .bool true
                  | 13 => v = .pointer (some ⟨bg, 3, none⟩)
                  | 14 => v = .int .i64 frm
                  | 15 => v = .pointer (some ⟨bg, 4, none⟩)
                  | 16 => v = .int .i64 till
                  | 17 => v = .bool true
                  | 18 => v = .bool true
                  | 19 => v = .bool true
                  | 20 => v = .pointer (some ⟨bg, 4, none⟩)
                  | 21 => v = .int .i64 till
                  | 22 => v = .pointer (some ⟨w.heap.size, 0, none⟩)
                  | 23 => v = .pointer (some ⟨w.heap.size, 0, none⟩)
                  | 24 => v = .slice (some ⟨bf, off, none⟩) frames.length ca
                  | 25 => v = .pointer (some ⟨bg, 2, none⟩)
                  | 26 => v = .int .i64 (k : Nat)
                  | 27 => v = .pointer (some ⟨bf, off + k, none⟩)
                  | 28 => v = .int .i64 x
                  | 29 => v = .bool true
                  | 30 => v = .bool true
                  | 31 => v = .bool true
                  | 32 => v = .pointer (some ⟨bg, 5, none⟩)
                  | 33 => v = .int .i64 sg
                  | 34 => v = .pointer (some ⟨w.heap.size, 0, none⟩)
                  | 35 => v = .pointer (some ⟨w.heap.size, 1, none⟩)
                  | 36 => v = .int .i64 (sn : Nat)
                  | 37 => v = .int .i64 (pw : Nat)
                  | 38 => v = .int .i64 ((pw : Int) - 1)
                  | 39 => v = .bool c5
                  | 40 => v = .bool c5
                  | _ => False) (by kernel_rfl) (by kernel_rfl) (fun _ _ _ => Grow.trans) Grow.refl ?_ ?_ ?_
              · intro i v y y' h k
                match i, h with
                | 0, h | 1, h | 2, h | 3, h | 4, h | 5, h | 6, h | 7, h | 8, h | 9, h | 10, h | 11, h | 12, h | 13, h | 14, h | 15, h | 16, h | 17, h | 18, h | 19, h | 20, h | 21, h | 22, h | 23, h | 24, h | 25, h | 26, h | 27, h | 28, h | 29, h | 30, h | 31, h | 32, h | 33, h | 34, h | 35, h | 36, h | 37, h | 38, h | 39, h | 40, h => exact h
              · simp only [StepsLit, List.take_succ_cons, List.take_zero]
                refine ⟨?_, ?_, ?_, ?_, ?_, ?_, ?_, ?_, ?_, ?_, ?_, ?_, ?_, ?_, ?_, ?_, ?_, ?_, ?_, ?_, ?_, ?_, ?_, ?_, ?_, ?_, ?_, ?_, ?_, ?_, ?_, ?_, ?_, ?_, ?_, ?_, ?_, ?_, ?_, ?_, ?_, trivial⟩
                · intro w5 hR
                  have hGw : Grow W w5 := hR.of_drew
                  have HGW := Lib.hid hGw
                  have hcc := (HGW.out.block HN.out).cell
                  have hgc := (HGW.out.block HGL.out).cell
                  clear hR hGw
                  simp only [depV]
                  try go_simp
                  all_goals first
                    | (with_reducible exact Grow.refl _)
                    | (with_reducible exact ⟨Grow.refl _, rfl⟩)
                · intro w5 hR
                  have hGw : Grow W w5 := hR.of_drew
                  have HGW := Lib.hid hGw
                  have hcc := (HGW.out.block HN.out).cell
                  have hgc := (HGW.out.block HGL.out).cell
                  clear hR hGw
                  simp only [depV]
                  rintro _ rfl
                  try go_simp
                  all_goals first
                    | (with_reducible exact Grow.refl _)
                    | (with_reducible exact ⟨Grow.refl _, rfl⟩)
                · intro w5 hR
                  have hGw : Grow W w5 := hR.of_drew
                  have HGW := Lib.hid hGw
                  have hcc := (HGW.out.block HN.out).cell
                  have hgc := (HGW.out.block HGL.out).cell
                  clear hR hGw
                  simp only [depV]
                  rintro _ rfl
                  try go_simp
                  all_goals first
                    | (with_reducible exact Grow.refl _)
                    | (with_reducible exact ⟨Grow.refl _, rfl⟩)
                · intro w5 hR
                  have hGw : Grow W w5 := hR.of_drew
                  have HGW := Lib.hid hGw
                  have hcc := (HGW.out.block HN.out).cell
                  have hgc := (HGW.out.block HGL.out).cell
                  clear hR hGw
                  simp only [depV]
                  rintro _ rfl
                  try go_simp
                  all_goals first
                    | (with_reducible exact Grow.refl _)
                    | (with_reducible exact ⟨Grow.refl _, rfl⟩)
                · intro w5 hR
                  have hGw : Grow W w5 := hR.of_drew
                  have HGW := Lib.hid hGw
                  have hcc := (HGW.out.block HN.out).cell
                  have hgc := (HGW.out.block HGL.out).cell
                  clear hR hGw
                  simp only [depV]
                  rintro _ rfl
                  rintro _ rfl
                  try go_simp
                  all_goals first
                    | (with_reducible exact Grow.refl _)
                    | (with_reducible exact ⟨Grow.refl _, rfl⟩)
                · intro w5 hR
                  have hGw : Grow W w5 := hR.of_drew
                  have HGW := Lib.hid hGw
                  have hcc := (HGW.out.block HN.out).cell
                  have hgc := (HGW.out.block HGL.out).cell
                  clear hR hGw
                  simp only [depV]
                  rintro _ rfl
                  rintro _ rfl
                  rintro _ rfl
                  try go_simp
                  refine (HF.out _).mono ?_
                  rintro e w6 ⟨rfl, hb6⟩
                  exact ⟨hb6, rfl⟩
                · intro w5 hR
                  have hGw : Grow W w5 := hR.of_drew
                  have HGW := Lib.hid hGw
                  have hcc := (HGW.out.block HN.out).cell
                  have hgc := (HGW.out.block HGL.out).cell
                  clear hR hGw
                  simp only [depV]
                  rintro _ rfl
                  rintro _ rfl
                  try go_simp
                  all_goals first
                    | (with_reducible exact Grow.refl _)
                    | (with_reducible exact ⟨Grow.refl _, rfl⟩)
                · intro w5 hR
                  have hGw : Grow W w5 := hR.of_drew
                  have HGW := Lib.hid hGw
                  have hcc := (HGW.out.block HN.out).cell
                  have hgc := (HGW.out.block HGL.out).cell
                  clear hR hGw
                  simp only [depV]
                  rintro _ rfl
                  try go_simp
                  all_goals first
                    | (with_reducible exact Grow.refl _)
                    | (with_reducible exact ⟨Grow.refl _, rfl⟩)
                · intro w5 hR
                  have hGw : Grow W w5 := hR.of_drew
                  have HGW := Lib.hid hGw
                  have hcc := (HGW.out.block HN.out).cell
                  have hgc := (HGW.out.block HGL.out).cell
                  clear hR hGw
                  simp only [depV]
                  rintro _ rfl
                  try go_simp
                  all_goals first
                    | (with_reducible exact Grow.refl _)
                    | (with_reducible exact ⟨Grow.refl _, rfl⟩)
                · intro w5 hR
                  have hGw : Grow W w5 := hR.of_drew
                  have HGW := Lib.hid hGw
                  have hcc := (HGW.out.block HN.out).cell
                  have hgc := (HGW.out.block HGL.out).cell
                  clear hR hGw
                  simp only [depV]
                  rintro _ rfl
                  rintro _ rfl
                  try go_simp
                  all_goals first
                    | (with_reducible exact Grow.refl _)
                    | (with_reducible exact ⟨Grow.refl _, rfl⟩)
                · intro w5 hR
                  have hGw : Grow W w5 := hR.of_drew
                  have HGW := Lib.hid hGw
                  have hcc := (HGW.out.block HN.out).cell
                  have hgc := (HGW.out.block HGL.out).cell
                  clear hR hGw
                  simp only [depV]
                  rintro _ rfl
                  rintro _ rfl
                  try go_simp
                  all_goals first
                    | (with_reducible exact Grow.refl _)
                    | (with_reducible exact ⟨Grow.refl _, rfl⟩)
                · intro w5 hR
                  have hGw : Grow W w5 := hR.of_drew
                  have HGW := Lib.hid hGw
                  have hcc := (HGW.out.block HN.out).cell
                  have hgc := (HGW.out.block HGL.out).cell
                  clear hR hGw
                  simp only [depV]
                  rintro _ rfl
                  rintro _ rfl
                  try go_simp
                  all_goals first
                    | (with_reducible exact Grow.refl _)
                    | (with_reducible exact ⟨Grow.refl _, rfl⟩)
                · intro w5 hR
                  have hGw : Grow W w5 := hR.of_drew
                  have HGW := Lib.hid hGw
                  have hcc := (HGW.out.block HN.out).cell
                  have hgc := (HGW.out.block HGL.out).cell
                  clear hR hGw
                  simp only [depV]
                  rintro _ rfl
                  try go_simp
                  all_goals first
                    | (with_reducible exact Grow.refl _)
                    | (with_reducible exact ⟨Grow.refl _, rfl⟩)
                · intro w5 hR
                  have hGw : Grow W w5 := hR.of_drew
                  have HGW := Lib.hid hGw
                  have hcc := (HGW.out.block HN.out).cell
                  have hgc := (HGW.out.block HGL.out).cell
                  clear hR hGw
                  simp only [depV]
                  rintro _ rfl
                  try go_simp
                  all_goals first
                    | (with_reducible exact Grow.refl _)
                    | (with_reducible exact ⟨Grow.refl _, rfl⟩)
                · intro w5 hR
                  have hGw : Grow W w5 := hR.of_drew
                  have HGW := Lib.hid hGw
                  have hcc := (HGW.out.block HN.out).cell
                  have hgc := (HGW.out.block HGL.out).cell
                  clear hR hGw
                  simp only [depV]
                  rintro _ rfl
                  rintro _ rfl
                  try go_simp
                  all_goals first
                    | (with_reducible exact Grow.refl _)
                    | (with_reducible exact ⟨Grow.refl _, rfl⟩)
                · intro w5 hR
                  have hGw : Grow W w5 := hR.of_drew
                  have HGW := Lib.hid hGw
                  have hcc := (HGW.out.block HN.out).cell
                  have hgc := (HGW.out.block HGL.out).cell
                  clear hR hGw
                  simp only [depV]
                  rintro _ rfl
                  try go_simp
                  all_goals first
                    | (with_reducible exact Grow.refl _)
                    | (with_reducible exact ⟨Grow.refl _, rfl⟩)
                · intro w5 hR
                  have hGw : Grow W w5 := hR.of_drew
                  have HGW := Lib.hid hGw
                  have hcc := (HGW.out.block HN.out).cell
                  have hgc := (HGW.out.block HGL.out).cell
                  clear hR hGw
                  simp only [depV]
                  rintro _ rfl
                  rintro _ rfl
                  try go_simp
                  all_goals first
                    | (with_reducible exact Grow.refl _)
                    | (with_reducible exact ⟨Grow.refl _, rfl⟩)
                · intro w5 hR
                  have hGw : Grow W w5 := hR.of_drew
                  have HGW := Lib.hid hGw
                  have hcc := (HGW.out.block HN.out).cell
                  have hgc := (HGW.out.block HGL.out).cell
                  clear hR hGw
                  simp only [depV]
                  rintro _ rfl
                  rintro _ rfl
                  rintro _ rfl
                  try go_simp
                  all_goals first
                    | (with_reducible exact Grow.refl _)
                    | (with_reducible exact ⟨Grow.refl _, rfl⟩)
                · intro w5 hR
                  have hGw : Grow W w5 := hR.of_drew
                  have HGW := Lib.hid hGw
                  have hcc := (HGW.out.block HN.out).cell
                  have hgc := (HGW.out.block HGL.out).cell
                  clear hR hGw
                  simp only [depV]
                  rintro _ rfl
                  rintro _ rfl
                  try go_simp
                  all_goals first
                    | (with_reducible exact Grow.refl _)
                    | (with_reducible exact ⟨Grow.refl _, rfl⟩)
                · intro w5 hR
                  have hGw : Grow W w5 := hR.of_drew
                  have HGW := Lib.hid hGw
                  have hcc := (HGW.out.block HN.out).cell
                  have hgc := (HGW.out.block HGL.out).cell
                  clear hR hGw
                  simp only [depV]
                  rintro _ rfl
                  try go_simp
                  all_goals first
                    | (with_reducible exact Grow.refl _)
                    | (with_reducible exact ⟨Grow.refl _, rfl⟩)
                · intro w5 hR
                  have hGw : Grow W w5 := hR.of_drew
                  have HGW := Lib.hid hGw
                  have hcc := (HGW.out.block HN.out).cell
                  have hgc := (HGW.out.block HGL.out).cell
                  clear hR hGw
                  simp only [depV]
                  rintro _ rfl
                  try go_simp
                  all_goals first
                    | (with_reducible exact Grow.refl _)
                    | (with_reducible exact ⟨Grow.refl _, rfl⟩)
                · intro w5 hR
                  have hGw : Grow W w5 := hR.of_drew
                  have HGW := Lib.hid hGw
                  have hcc := (HGW.out.block HN.out).cell
                  have hgc := (HGW.out.block HGL.out).cell
                  clear hR hGw
                  simp only [depV]
                  rintro _ rfl
                  rintro _ rfl
                  try go_simp
                  all_goals first
                    | (with_reducible exact Grow.refl _)
                    | (with_reducible exact ⟨Grow.refl _, rfl⟩)
                · intro w5 hR
                  have hGw : Grow W w5 := hR.of_drew
                  have HGW := Lib.hid hGw
                  have hcc := (HGW.out.block HN.out).cell
                  have hgc := (HGW.out.block HGL.out).cell
                  clear hR hGw
                  simp only [depV]
                  rintro _ rfl
                  try go_simp
                  all_goals first
                    | (with_reducible exact Grow.refl _)
                    | (with_reducible exact ⟨Grow.refl _, rfl⟩)
                · intro w5 hR
                  have hGw : Grow W w5 := hR.of_drew
                  have HGW := Lib.hid hGw
                  have hcc := (HGW.out.block HN.out).cell
                  have hgc := (HGW.out.block HGL.out).cell
                  clear hR hGw
                  simp only [depV]
                  rintro _ rfl
                  rintro _ rfl
                  try go_simp
                  all_goals first
                    | (with_reducible exact Grow.refl _)
                    | (with_reducible exact ⟨Grow.refl _, rfl⟩)
                · intro w5 hR
                  have hGw : Grow W w5 := hR.of_drew
                  have HGW := Lib.hid hGw
                  have hcc := (HGW.out.block HN.out).cell
                  have hgc := (HGW.out.block HGL.out).cell
                  clear hR hGw
                  simp only [depV]
                  rintro _ rfl
                  rintro _ rfl
                  try go_simp
                  all_goals first
                    | (with_reducible exact Grow.refl _)
                    | (with_reducible exact ⟨Grow.refl _, rfl⟩)
                · intro w5 hR
                  have hGw : Grow W w5 := hR.of_drew
                  have HGW := Lib.hid hGw
                  have hcc := (HGW.out.block HN.out).cell
                  have hgc := (HGW.out.block HGL.out).cell
                  clear hR hGw
                  simp only [depV]
                  rintro _ rfl
                  try go_simp
                  all_goals first
                    | (with_reducible exact Grow.refl _)
                    | (with_reducible exact ⟨Grow.refl _, rfl⟩)
                · intro w5 hR
                  have hGw : Grow W w5 := hR.of_drew
                  have HGW := Lib.hid hGw
                  have hcc := (HGW.out.block HN.out).cell
                  have hgc := (HGW.out.block HGL.out).cell
                  clear hR hGw
                  simp only [depV]
                  rintro _ rfl
                  rintro _ rfl
                  try go_simp
                  all_goals first
                    | (with_reducible exact Grow.refl _)
                    | (with_reducible exact ⟨Grow.refl _, rfl⟩)
                · intro w5 hR
                  have hGw : Grow W w5 := hR.of_drew
                  have HGW := Lib.hid hGw
                  have hcc := (HGW.out.block HN.out).cell
                  have hgc := (HGW.out.block HGL.out).cell
                  clear hR hGw
                  simp only [depV]
                  rintro _ rfl
                  rintro _ rfl
                  rintro _ rfl
                  try go_simp
                  all_goals first
                    | (with_reducible exact Grow.refl _)
                    | (with_reducible exact ⟨Grow.refl _, rfl⟩)
                · intro w5 hR
                  have hGw : Grow W w5 := hR.of_drew
                  have HGW := Lib.hid hGw
                  have hcc := (HGW.out.block HN.out).cell
                  have hgc := (HGW.out.block HGL.out).cell
                  clear hR hGw
                  simp only [depV]
                  rintro _ rfl
                  rintro _ rfl
                  have hxc := HXC.out w5 HGW.out
                  try go_simp
                  first
                    | (with_reducible exact Grow.refl _)
                    | (with_reducible exact ⟨Grow.refl _, rfl⟩)
                · intro w5 hR
                  have hGw : Grow W w5 := hR.of_drew
                  have HGW := Lib.hid hGw
                  have hcc := (HGW.out.block HN.out).cell
                  have hgc := (HGW.out.block HGL.out).cell
                  clear hR hGw
                  simp only [depV]
                  rintro _ rfl
                  rintro _ rfl
                  rintro _ rfl
                  try go_simp
                  all_goals first
                    | (with_reducible exact Grow.refl _)
                    | (with_reducible exact ⟨Grow.refl _, rfl⟩)
                · intro w5 hR
                  have hGw : Grow W w5 := hR.of_drew
                  have HGW := Lib.hid hGw
                  have hcc := (HGW.out.block HN.out).cell
                  have hgc := (HGW.out.block HGL.out).cell
                  clear hR hGw
                  simp only [depV]
                  rintro _ rfl
                  rintro _ rfl
                  try go_simp
                  all_goals first
                    | (with_reducible exact Grow.refl _)
                    | (with_reducible exact ⟨Grow.refl _, rfl⟩)
                · intro w5 hR
                  have hGw : Grow W w5 := hR.of_drew
                  have HGW := Lib.hid hGw
                  have hcc := (HGW.out.block HN.out).cell
                  have hgc := (HGW.out.block HGL.out).cell
                  clear hR hGw
                  simp only [depV]
                  rintro _ rfl
                  try go_simp
                  all_goals first
                    | (with_reducible exact Grow.refl _)
                    | (with_reducible exact ⟨Grow.refl _, rfl⟩)
                · intro w5 hR
                  have hGw : Grow W w5 := hR.of_drew
                  have HGW := Lib.hid hGw
                  have hcc := (HGW.out.block HN.out).cell
                  have hgc := (HGW.out.block HGL.out).cell
                  clear hR hGw
                  simp only [depV]
                  rintro _ rfl
                  try go_simp
                  all_goals first
                    | (with_reducible exact Grow.refl _)
                    | (with_reducible exact ⟨Grow.refl _, rfl⟩)
                · intro w5 hR
                  have hGw : Grow W w5 := hR.of_drew
                  have HGW := Lib.hid hGw
                  have hcc := (HGW.out.block HN.out).cell
                  have hgc := (HGW.out.block HGL.out).cell
                  clear hR hGw
                  simp only [depV]
                  rintro _ rfl
                  rintro _ rfl
                  try go_simp
                  all_goals first
                    | (with_reducible exact Grow.refl _)
                    | (with_reducible exact ⟨Grow.refl _, rfl⟩)
                · intro w5 hR
                  have hGw : Grow W w5 := hR.of_drew
                  have HGW := Lib.hid hGw
                  have hcc := (HGW.out.block HN.out).cell
                  have hgc := (HGW.out.block HGL.out).cell
                  clear hR hGw
                  simp only [depV]
                  rintro _ rfl
                  try go_simp
                  all_goals first
                    | (with_reducible exact Grow.refl _)
                    | (with_reducible exact ⟨Grow.refl _, rfl⟩)
                · intro w5 hR
                  have hGw : Grow W w5 := hR.of_drew
                  have HGW := Lib.hid hGw
                  have hcc := (HGW.out.block HN.out).cell
                  have hgc := (HGW.out.block HGL.out).cell
                  clear hR hGw
                  simp only [depV]
                  rintro _ rfl
                  rintro _ rfl
                  try go_simp
                  all_goals first
                    | (with_reducible exact Grow.refl _)
                    | (with_reducible exact ⟨Grow.refl _, rfl⟩)
                · intro w5 hR
                  have hGw : Grow W w5 := hR.of_drew
                  have HGW := Lib.hid hGw
                  have hcc := (HGW.out.block HN.out).cell
                  have hgc := (HGW.out.block HGL.out).cell
                  clear hR hGw
                  simp only [depV]
                  rintro _ rfl
                  rintro _ rfl
                  try go_simp
                  all_goals first
                    | (with_reducible exact Grow.refl _)
                    | (with_reducible exact ⟨Grow.refl _, rfl⟩)
                · intro w5 hR
                  have hGw : Grow W w5 := hR.of_drew
                  have HGW := Lib.hid hGw
                  have hcc := (HGW.out.block HN.out).cell
                  have hgc := (HGW.out.block HGL.out).cell
                  clear hR hGw
                  simp only [depV]
                  rintro _ rfl
                  rintro _ rfl
                  try go_simp
                  exact ⟨Grow.refl _, HWR.out⟩
                · intro w5 hR
                  have hGw : Grow W w5 := hR.of_drew
                  have HGW := Lib.hid hGw
                  have hcc := (HGW.out.block HN.out).cell
                  have hgc := (HGW.out.block HGL.out).cell
                  clear hR hGw
                  simp only [depV]
                  rintro _ rfl
                  rintro _ rfl
                  try go_simp
                  exact ⟨Grow.refl _, IntWalk.i64_in _ (by omega)⟩
                · intro w5 hR
                  have hGw : Grow W w5 := hR.of_drew
                  have HGW := Lib.hid hGw
                  have hcc := (HGW.out.block HN.out).cell
                  have hgc := (HGW.out.block HGL.out).cell
                  clear hR hGw
                  simp only [depV]
                  rintro _ rfl
                  rintro _ rfl
                  rintro _ rfl
                  try go_simp
                  refine (HS.out _).mono ?_
                  rintro e w6 ⟨rfl, rfl⟩
                  exact ⟨Grow.refl _, rfl⟩
                · intro w5 hR
                  have hGw : Grow W w5 := hR.of_drew
                  have HGW := Lib.hid hGw
                  have hcc := (HGW.out.block HN.out).cell
                  have hgc := (HGW.out.block HGL.out).cell
                  clear hR hGw
                  simp only [depV]
                  rintro _ rfl
                  rintro _ rfl
                  try go_simp
                  all_goals first
                    | (with_reducible exact Grow.refl _)
                    | (with_reducible exact ⟨Grow.refl _, rfl⟩)
              · intro w5 hR
                have HG5 : Hid (Grow W w5) := Lib.hid hR.of_drew
                clear hR
                simp only [finVC, List.take_succ_cons, List.take_zero, List.drop_succ_cons, List.drop_zero]
                rintro _ rfl
                rintro _ rfl
                rintro _ rfl
                rintro _ rfl
                rintro _ rfl
                rintro _ rfl
                rintro _ rfl
                rintro _ rfl
                rintro _ rfl
                rintro _ rfl
                rintro _ rfl
                rintro _ rfl
                rintro _ rfl
                rintro _ rfl
                rintro _ rfl
                rintro _ rfl
                rintro _ rfl
                rintro _ rfl
                rintro _ rfl
                rintro _ rfl
                rintro _ rfl
                rintro _ rfl
                rintro _ rfl
                rintro _ rfl
                rintro _ rfl
                rintro _ rfl
                rintro _ rfl
                rintro _ rfl
                rintro _ rfl
                rintro _ rfl
                rintro _ rfl
                rintro _ rfl
                rintro _ rfl
                rintro _ rfl
                rintro _ rfl
                rintro _ rfl
                rintro _ rfl
                rintro _ rfl
                rintro _ rfl
                rintro _ rfl
                rintro _ rfl
                simp only [Act.put, List.setIfInBounds_toArray, List.set_cons_succ, List.set_cons_zero]
                go_wp2
                go_ret
                exact ⟨ret_bool (by rw [HO.out]; simp [d2, d3, d4]), HG.out.trans HG5.out⟩
            · have d4 : decide (till ≤ x) = false := decide_eq_false h4
              go_upto_region 2 with fail
              refine wp_region_lit 41 [[], [(0, 14)], [(1, 15)], [(1, 15)], [(1, 15), (3, 17)], [(1, 15), (2, 16), (4, 18)], [(1, 15), (5, 19)], [(6, 20)], [(7, 21)], [(7, 21), (8, 22)], [(7, 21), (9, 23)], [(7, 21), (10, 24)], [(11, 25)], [(12, 26)], [(12, 26), (13, 27)], [(12, 26)], [(12, 26), (15, 29)], [(12, 26), (14, 28), (16, 30)], [(12, 26), (17, 31)], [(18, 32)], [(19, 33)], [(19, 33), (20, 34)], [(19, 33)], [(19, 33), (22, 36)], [(19, 33), (23, 37)], [(19, 33)], [(19, 33), (25, 39)], [(19, 33), (24, 38), (26, 40)], [(19, 33), (27, 41)], [(19, 33), (21, 35), (28, 42)], [(19, 33), (29, 43)], [(30, 44)], [(31, 45)], [(31, 45), (32, 46)], [(31, 45)], [(31, 45), (34, 48)], [(31, 45), (35, 49)], [(31, 45), (36, 50)], [(31, 45), (37, 51)], [(31, 45), (33, 47), (38, 52)], [(31, 45), (39, 53)]] Grow (fun qi v w' => match qi with
                  | 0 => v = .bool true
                  | 1 => v = .bool true
                  | 2 => v = notesV ⟨⟨frames, (sn : Int)⟩, some ⟨bf, off, none⟩, ca⟩ m h
                  | 3 => v = .pointer (some ⟨bg, 2, none⟩)
                  | 4 => v = .int .i64 (k : Nat)
                  | 5 => v = .bool true
                  | 6 => v = .bool true
                  | 7 => v = .bool true
                  | 8 => v = .pointer (some ⟨bg, 3, none⟩)
                  | 9 => v = .int .i64 frm
                  | 10 => v = .bool true
                  | 11 => v = .bool true
                  | 12 => v = .bool true
                  | 13 => v = .pointer (some ⟨bg, 3, none⟩)
                  | 14 => v = .int .i64 frm
                  | 15 => v = .pointer (some ⟨bg, 4, none⟩)
                  | 16 => v = .int .i64 till
                  | 17 => v = .bool true
                  | 18 => v = .bool true
                  | 19 => v = .bool true
                  | 20 => v = .pointer (some ⟨bg, 4, none⟩)
                  | 21 => v = .int .i64 till
                  | 22 => v = .pointer (some ⟨w.heap.size, 0, none⟩)
                  | 23 => v = .pointer (some ⟨w.heap.size, 0, none⟩)
                  | 24 => v = .slice (some ⟨bf, off, none⟩) frames.length ca
                  | 25 => v = .pointer (some ⟨bg, 2, none⟩)
                  | 26 => v = .int .i64 (k : Nat)
                  | 27 => v = .pointer (some ⟨bf, off + k, none⟩)
                  | 28 => v = .int .i64 x
                  | 29 => v = .bool false
                  | 30 => v = .bool false
                  | 31 => v = .bool false
                  | 32 => v = undef
                  | 33 => v = undef
                  | 34 => v = undef
                  | 35 => v = undef
                  | 36 => v = undef
                  | 37 => v = undef
                  | 38 => v = undef
                  | 39 => v = undef
                  | 40 => v = .bool false
                  | _ => False) (by kernel_rfl) (by kernel_rfl) (fun _ _ _ => Grow.trans) Grow.refl ?_ ?_ ?_
              · intro i v y y' h k
                match i, h with
                | 0, h | 1, h | 2, h | 3, h | 4, h | 5, h | 6, h | 7, h | 8, h | 9, h | 10, h | 11, h | 12, h | 13, h | 14, h | 15, h | 16, h | 17, h | 18, h | 19, h | 20, h | 21, h | 22, h | 23, h | 24, h | 25, h | 26, h | 27, h | 28, h | 29, h | 30, h | 31, h | 32, h | 33, h | 34, h | 35, h | 36, h | 37, h | 38, h | 39, h | 40, h => exact h
              · simp only [StepsLit, List.take_succ_cons, List.take_zero]
                refine ⟨?_, ?_, ?_, ?_, ?_, ?_, ?_, ?_, ?_, ?_, ?_, ?_, ?_, ?_, ?_, ?_, ?_, ?_, ?_, ?_, ?_, ?_, ?_, ?_, ?_, ?_, ?_, ?_, ?_, ?_, ?_, ?_, ?_, ?_, ?_, ?_, ?_, ?_, ?_, ?_, ?_, trivial⟩
                · intro w5 hR
                  have hGw : Grow W w5 := hR.of_drew
                  have HGW := Lib.hid hGw
                  have hcc := (HGW.out.block HN.out).cell
                  have hgc := (HGW.out.block HGL.out).cell
                  clear hR hGw
                  simp only [depV]
                  try go_simp
                  all_goals first
                    | (with_reducible exact Grow.refl _)
                    | (with_reducible exact ⟨Grow.refl _, rfl⟩)
                · intro w5 hR
                  have hGw : Grow W w5 := hR.of_drew
                  have HGW := Lib.hid hGw
                  have hcc := (HGW.out.block HN.out).cell
                  have hgc := (HGW.out.block HGL.out).cell
                  clear hR hGw
                  simp only [depV]
                  rintro _ rfl
                  try go_simp
                  all_goals first
                    | (with_reducible exact Grow.refl _)
                    | (with_reducible exact ⟨Grow.refl _, rfl⟩)
                · intro w5 hR
                  have hGw : Grow W w5 := hR.of_drew
                  have HGW := Lib.hid hGw
                  have hcc := (HGW.out.block HN.out).cell
                  have hgc := (HGW.out.block HGL.out).cell
                  clear hR hGw
                  simp only [depV]
                  rintro _ rfl
                  try go_simp
                  all_goals first
                    | (with_reducible exact Grow.refl _)
                    | (with_reducible exact ⟨Grow.refl _, rfl⟩)
                · intro w5 hR
                  have hGw : Grow W w5 := hR.of_drew
                  have HGW := Lib.hid hGw
                  have hcc := (HGW.out.block HN.out).cell
                  have hgc := (HGW.out.block HGL.out).cell
                  clear hR hGw
                  simp only [depV]
                  rintro _ rfl
                  try go_simp
                  all_goals first
                    | (with_reducible exact Grow.refl _)
                    | (with_reducible exact ⟨Grow.refl _, rfl⟩)
                · intro w5 hR
                  have hGw : Grow W w5 := hR.of_drew
                  have HGW := Lib.hid hGw
                  have hcc := (HGW.out.block HN.out).cell
                  have hgc := (HGW.out.block HGL.out).cell
                  clear hR hGw
                  simp only [depV]
                  rintro _ rfl
                  rintro _ rfl
                  try go_simp
                  all_goals first
                    | (with_reducible exact Grow.refl _)
                    | (with_reducible exact ⟨Grow.refl _, rfl⟩)
                · intro w5 hR
                  have hGw : Grow W w5 := hR.of_drew
                  have HGW := Lib.hid hGw
                  have hcc := (HGW.out.block HN.out).cell
                  have hgc := (HGW.out.block HGL.out).cell
                  clear hR hGw
                  simp only [depV]
                  rintro _ rfl
                  rintro _ rfl
                  rintro _ rfl
                  try go_simp
                  refine (HF.out _).mono ?_
                  rintro e w6 ⟨rfl, hb6⟩
                  exact ⟨hb6, rfl⟩
                · intro w5 hR
                  have hGw : Grow W w5 := hR.of_drew
                  have HGW := Lib.hid hGw
                  have hcc := (HGW.out.block HN.out).cell
                  have hgc := (HGW.out.block HGL.out).cell
                  clear hR hGw
                  simp only [depV]
                  rintro _ rfl
                  rintro _ rfl
                  try go_simp
                  all_goals first
                    | (with_reducible exact Grow.refl _)
                    | (with_reducible exact ⟨Grow.refl _, rfl⟩)
                · intro w5 hR
                  have hGw : Grow W w5 := hR.of_drew
                  have HGW := Lib.hid hGw
                  have hcc := (HGW.out.block HN.out).cell
                  have hgc := (HGW.out.block HGL.out).cell
                  clear hR hGw
                  simp only [depV]
                  rintro _ rfl
                  try go_simp
                  all_goals first
                    | (with_reducible exact Grow.refl _)
                    | (with_reducible exact ⟨Grow.refl _, rfl⟩)
                · intro w5 hR
                  have hGw : Grow W w5 := hR.of_drew
                  have HGW := Lib.hid hGw
                  have hcc := (HGW.out.block HN.out).cell
                  have hgc := (HGW.out.block HGL.out).cell
                  clear hR hGw
                  simp only [depV]
                  rintro _ rfl
                  try go_simp
                  all_goals first
                    | (with_reducible exact Grow.refl _)
                    | (with_reducible exact ⟨Grow.refl _, rfl⟩)
                · intro w5 hR
                  have hGw : Grow W w5 := hR.of_drew
                  have HGW := Lib.hid hGw
                  have hcc := (HGW.out.block HN.out).cell
                  have hgc := (HGW.out.block HGL.out).cell
                  clear hR hGw
                  simp only [depV]
                  rintro _ rfl
                  rintro _ rfl
                  try go_simp
                  all_goals first
                    | (with_reducible exact Grow.refl _)
                    | (with_reducible exact ⟨Grow.refl _, rfl⟩)
                · intro w5 hR
                  have hGw : Grow W w5 := hR.of_drew
                  have HGW := Lib.hid hGw
                  have hcc := (HGW.out.block HN.out).cell
                  have hgc := (HGW.out.block HGL.out).cell
                  clear hR hGw
                  simp only [depV]
                  rintro _ rfl
                  rintro _ rfl
                  try go_simp
                  all_goals first
                    | (with_reducible exact Grow.refl _)
                    | (with_reducible exact ⟨Grow.refl _, rfl⟩)
                · intro w5 hR
                  have hGw : Grow W w5 := hR.of_drew
                  have HGW := Lib.hid hGw
                  have hcc := (HGW.out.block HN.out).cell
                  have hgc := (HGW.out.block HGL.out).cell
                  clear hR hGw
                  simp only [depV]
                  rintro _ rfl
                  rintro _ rfl
                  try go_simp
                  all_goals first
                    | (with_reducible exact Grow.refl _)
                    | (with_reducible exact ⟨Grow.refl _, rfl⟩)
                · intro w5 hR
                  have hGw : Grow W w5 := hR.of_drew
                  have HGW := Lib.hid hGw
                  have hcc := (HGW.out.block HN.out).cell
                  have hgc := (HGW.out.block HGL.out).cell
                  clear hR hGw
                  simp only [depV]
                  rintro _ rfl
                  try go_simp
                  all_goals first
                    | (with_reducible exact Grow.refl _)
                    | (with_reducible exact ⟨Grow.refl _, rfl⟩)
                · intro w5 hR
                  have hGw : Grow W w5 := hR.of_drew
                  have HGW := Lib.hid hGw
                  have hcc := (HGW.out.block HN.out).cell
                  have hgc := (HGW.out.block HGL.out).cell
                  clear hR hGw
                  simp only [depV]
                  rintro _ rfl
                  try go_simp
                  all_goals first
                    | (with_reducible exact Grow.refl _)
                    | (with_reducible exact ⟨Grow.refl _, rfl⟩)
                · intro w5 hR
                  have hGw : Grow W w5 := hR.of_drew
                  have HGW := Lib.hid hGw
                  have hcc := (HGW.out.block HN.out).cell
                  have hgc := (HGW.out.block HGL.out).cell
                  clear hR hGw
                  simp only [depV]
                  rintro _ rfl
                  rintro _ rfl
                  try go_simp
                  all_goals first
                    | (with_reducible exact Grow.refl _)
                    | (with_reducible exact ⟨Grow.refl _, rfl⟩)
                · intro w5 hR
                  have hGw : Grow W w5 := hR.of_drew
                  have HGW := Lib.hid hGw
                  have hcc := (HGW.out.block HN.out).cell
                  have hgc := (HGW.out.block HGL.out).cell
                  clear hR hGw
                  simp only [depV]
                  rintro _ rfl
                  try go_simp
                  all_goals first
                    | (with_reducible exact Grow.refl _)
                    | (with_reducible exact ⟨Grow.refl _, rfl⟩)
                · intro w5 hR
                  have hGw : Grow W w5 := hR.of_drew
                  have HGW := Lib.hid hGw
                  have hcc := (HGW.out.block HN.out).cell
                  have hgc := (HGW.out.block HGL.out).cell
                  clear hR hGw
                  simp only [depV]
                  rintro _ rfl
                  rintro _ rfl
                  try go_simp
                  all_goals first
                    | (with_reducible exact Grow.refl _)
                    | (with_reducible exact ⟨Grow.refl _, rfl⟩)
                · intro w5 hR
                  have hGw : Grow W w5 := hR.of_drew
                  have HGW := Lib.hid hGw
                  have hcc := (HGW.out.block HN.out).cell
                  have hgc := (HGW.out.block HGL.out).cell
                  clear hR hGw
                  simp only [depV]
                  rintro _ rfl
                  rintro _ rfl
                  rintro _ rfl
                  try go_simp
                  all_goals first
                    | (with_reducible exact Grow.refl _)
                    | (with_reducible exact ⟨Grow.refl _, rfl⟩)
                · intro w5 hR
                  have hGw : Grow W w5 := hR.of_drew
                  have HGW := Lib.hid hGw
                  have hcc := (HGW.out.block HN.out).cell
                  have hgc := (HGW.out.block HGL.out).cell
                  clear hR hGw
                  simp only [depV]
                  rintro _ rfl
                  rintro _ rfl
                  try go_simp
                  all_goals first
                    | (with_reducible exact Grow.refl _)
                    | (with_reducible exact ⟨Grow.refl _, rfl⟩)
                · intro w5 hR
                  have hGw : Grow W w5 := hR.of_drew
                  have HGW := Lib.hid hGw
                  have hcc := (HGW.out.block HN.out).cell
                  have hgc := (HGW.out.block HGL.out).cell
                  clear hR hGw
                  simp only [depV]
                  rintro _ rfl
                  try go_simp
                  all_goals first
                    | (with_reducible exact Grow.refl _)
                    | (with_reducible exact ⟨Grow.refl _, rfl⟩)
                · intro w5 hR
                  have hGw : Grow W w5 := hR.of_drew
                  have HGW := Lib.hid hGw
                  have hcc := (HGW.out.block HN.out).cell
                  have hgc := (HGW.out.block HGL.out).cell
                  clear hR hGw
                  simp only [depV]
                  rintro _ rfl
                  try go_simp
                  all_goals first
                    | (with_reducible exact Grow.refl _)
                    | (with_reducible exact ⟨Grow.refl _, rfl⟩)
                · intro w5 hR
                  have hGw : Grow W w5 := hR.of_drew
                  have HGW := Lib.hid hGw
                  have hcc := (HGW.out.block HN.out).cell
                  have hgc := (HGW.out.block HGL.out).cell
                  clear hR hGw
                  simp only [depV]
                  rintro _ rfl
                  rintro _ rfl
                  try go_simp
                  all_goals first
                    | (with_reducible exact Grow.refl _)
                    | (with_reducible exact ⟨Grow.refl _, rfl⟩)
                · intro w5 hR
                  have hGw : Grow W w5 := hR.of_drew
                  have HGW := Lib.hid hGw
                  have hcc := (HGW.out.block HN.out).cell
                  have hgc := (HGW.out.block HGL.out).cell
                  clear hR hGw
                  simp only [depV]
                  rintro _ rfl
                  try go_simp
                  all_goals first
                    | (with_reducible exact Grow.refl _)
                    | (with_reducible exact ⟨Grow.refl _, rfl⟩)
                · intro w5 hR
                  have hGw : Grow W w5 := hR.of_drew
                  have HGW := Lib.hid hGw
                  have hcc := (HGW.out.block HN.out).cell
                  have hgc := (HGW.out.block HGL.out).cell
                  clear hR hGw
                  simp only [depV]
                  rintro _ rfl
                  rintro _ rfl
                  try go_simp
                  all_goals first
                    | (with_reducible exact Grow.refl _)
                    | (with_reducible exact ⟨Grow.refl _, rfl⟩)
                · intro w5 hR
                  have hGw : Grow W w5 := hR.of_drew
                  have HGW := Lib.hid hGw
                  have hcc := (HGW.out.block HN.out).cell
                  have hgc := (HGW.out.block HGL.out).cell
                  clear hR hGw
                  simp only [depV]
                  rintro _ rfl
                  rintro _ rfl
                  try go_simp
                  all_goals first
                    | (with_reducible exact Grow.refl _)
                    | (with_reducible exact ⟨Grow.refl _, rfl⟩)
                · intro w5 hR
                  have hGw : Grow W w5 := hR.of_drew
                  have HGW := Lib.hid hGw
                  have hcc := (HGW.out.block HN.out).cell
                  have hgc := (HGW.out.block HGL.out).cell
                  clear hR hGw
                  simp only [depV]
                  rintro _ rfl
                  try go_simp
                  all_goals first
                    | (with_reducible exact Grow.refl _)
                    | (with_reducible exact ⟨Grow.refl _, rfl⟩)
                · intro w5 hR
                  have hGw : Grow W w5 := hR.of_drew
                  have HGW := Lib.hid hGw
                  have hcc := (HGW.out.block HN.out).cell
                  have hgc := (HGW.out.block HGL.out).cell
                  clear hR hGw
                  simp only [depV]
                  rintro _ rfl
                  rintro _ rfl
                  try go_simp
                  all_goals first
                    | (with_reducible exact Grow.refl _)
                    | (with_reducible exact ⟨Grow.refl _, rfl⟩)
                · intro w5 hR
                  have hGw : Grow W w5 := hR.of_drew
                  have HGW := Lib.hid hGw
                  have hcc := (HGW.out.block HN.out).cell
                  have hgc := (HGW.out.block HGL.out).cell
                  clear hR hGw
                  simp only [depV]
                  rintro _ rfl
                  rintro _ rfl
                  rintro _ rfl
                  try go_simp
                  all_goals first
                    | (with_reducible exact Grow.refl _)
                    | (with_reducible exact ⟨Grow.refl _, rfl⟩)
                · intro w5 hR
                  have hGw : Grow W w5 := hR.of_drew
                  have HGW := Lib.hid hGw
                  have hcc := (HGW.out.block HN.out).cell
                  have hgc := (HGW.out.block HGL.out).cell
                  clear hR hGw
                  simp only [depV]
                  rintro _ rfl
                  rintro _ rfl
                  have hxc := HXC.out w5 HGW.out
                  try go_simp
                  first
                    | (with_reducible exact Grow.refl _)
                    | (with_reducible exact ⟨Grow.refl _, rfl⟩)
                · intro w5 hR
                  have hGw : Grow W w5 := hR.of_drew
                  have HGW := Lib.hid hGw
                  have hcc := (HGW.out.block HN.out).cell
                  have hgc := (HGW.out.block HGL.out).cell
                  clear hR hGw
                  simp only [depV]
                  rintro _ rfl
                  rintro _ rfl
                  rintro _ rfl
                  try go_simp
                  all_goals first
                    | (with_reducible exact Grow.refl _)
                    | (with_reducible exact ⟨Grow.refl _, rfl⟩)
                · intro w5 hR
                  have hGw : Grow W w5 := hR.of_drew
                  have HGW := Lib.hid hGw
                  have hcc := (HGW.out.block HN.out).cell
                  have hgc := (HGW.out.block HGL.out).cell
                  clear hR hGw
                  simp only [depV]
                  rintro _ rfl
                  rintro _ rfl
                  try go_simp
                  all_goals first
                    | (with_reducible exact Grow.refl _)
                    | (with_reducible exact ⟨Grow.refl _, rfl⟩)
                · intro w5 hR
                  have hGw : Grow W w5 := hR.of_drew
                  have HGW := Lib.hid hGw
                  have hcc := (HGW.out.block HN.out).cell
                  have hgc := (HGW.out.block HGL.out).cell
                  clear hR hGw
                  simp only [depV]
                  rintro _ rfl
                  try go_simp
                  all_goals first
                    | (with_reducible exact Grow.refl _)
                    | (with_reducible exact ⟨Grow.refl _, rfl⟩)
                · intro w5 hR
                  have hGw : Grow W w5 := hR.of_drew
                  have HGW := Lib.hid hGw
                  have hcc := (HGW.out.block HN.out).cell
                  have hgc := (HGW.out.block HGL.out).cell
                  clear hR hGw
                  simp only [depV]
                  rintro _ rfl
                  try go_simp
                  all_goals first
                    | (with_reducible exact Grow.refl _)
                    | (with_reducible exact ⟨Grow.refl _, rfl⟩)
                · intro w5 hR
                  have hGw : Grow W w5 := hR.of_drew
                  have HGW := Lib.hid hGw
                  have hcc := (HGW.out.block HN.out).cell
                  have hgc := (HGW.out.block HGL.out).cell
                  clear hR hGw
                  simp only [depV]
                  rintro _ rfl
                  rintro _ rfl
                  try go_simp
                  all_goals first
                    | (with_reducible exact Grow.refl _)
                    | (with_reducible exact ⟨Grow.refl _, rfl⟩)
                · intro w5 hR
                  have hGw : Grow W w5 := hR.of_drew
                  have HGW := Lib.hid hGw
                  have hcc := (HGW.out.block HN.out).cell
                  have hgc := (HGW.out.block HGL.out).cell
                  clear hR hGw
                  simp only [depV]
                  rintro _ rfl
                  try go_simp
                  all_goals first
                    | (with_reducible exact Grow.refl _)
                    | (with_reducible exact ⟨Grow.refl _, rfl⟩)
                · intro w5 hR
                  have hGw : Grow W w5 := hR.of_drew
                  have HGW := Lib.hid hGw
                  have hcc := (HGW.out.block HN.out).cell
                  have hgc := (HGW.out.block HGL.out).cell
                  clear hR hGw
                  simp only [depV]
                  rintro _ rfl
                  rintro _ rfl
                  try go_simp
                  all_goals first
                    | (with_reducible exact Grow.refl _)
                    | (with_reducible exact ⟨Grow.refl _, rfl⟩)
                · intro w5 hR
                  have hGw : Grow W w5 := hR.of_drew
                  have HGW := Lib.hid hGw
                  have hcc := (HGW.out.block HN.out).cell
                  have hgc := (HGW.out.block HGL.out).cell
                  clear hR hGw
                  simp only [depV]
                  rintro _ rfl
                  rintro _ rfl
                  try go_simp
                  all_goals first
                    | (with_reducible exact Grow.refl _)
                    | (with_reducible exact ⟨Grow.refl _, rfl⟩)
                · intro w5 hR
                  have hGw : Grow W w5 := hR.of_drew
                  have HGW := Lib.hid hGw
                  have hcc := (HGW.out.block HN.out).cell
                  have hgc := (HGW.out.block HGL.out).cell
                  clear hR hGw
                  simp only [depV]
                  rintro _ rfl
                  rintro _ rfl
                  try go_simp
                  all_goals first
                    | (with_reducible exact Grow.refl _)
                    | (with_reducible exact ⟨Grow.refl _, rfl⟩)
                · intro w5 hR
                  have hGw : Grow W w5 := hR.of_drew
                  have HGW := Lib.hid hGw
                  have hcc := (HGW.out.block HN.out).cell
                  have hgc := (HGW.out.block HGL.out).cell
                  clear hR hGw
                  simp only [depV]
                  rintro _ rfl
                  rintro _ rfl
                  try go_simp
                  all_goals first
                    | (with_reducible exact Grow.refl _)
                    | (with_reducible exact ⟨Grow.refl _, rfl⟩)
                · intro w5 hR
                  have hGw : Grow W w5 := hR.of_drew
                  have HGW := Lib.hid hGw
                  have hcc := (HGW.out.block HN.out).cell
                  have hgc := (HGW.out.block HGL.out).cell
                  clear hR hGw
                  simp only [depV]
                  rintro _ rfl
                  rintro _ rfl
                  rintro _ rfl
                  try go_simp
                  all_goals first
                    | (with_reducible exact Grow.refl _)
                    | (with_reducible exact ⟨Grow.refl _, rfl⟩)
                · intro w5 hR
                  have hGw : Grow W w5 := hR.of_drew
                  have HGW := Lib.hid hGw
                  have hcc := (HGW.out.block HN.out).cell
                  have hgc := (HGW.out.block HGL.out).cell
                  clear hR hGw
                  simp only [depV]
                  rintro _ rfl
                  rintro _ rfl
                  try go_simp
                  all_goals first
                    | (with_reducible exact Grow.refl _)
                    | (with_reducible exact ⟨Grow.refl _, rfl⟩)
              · intro w5 hR
                have HG5 : Hid (Grow W w5) := Lib.hid hR.of_drew
                clear hR
                simp only [finVC, List.take_succ_cons, List.take_zero, List.drop_succ_cons, List.drop_zero]
                rintro _ rfl
                rintro _ rfl
                rintro _ rfl
                rintro _ rfl
                rintro _ rfl
                rintro _ rfl
                rintro _ rfl
                rintro _ rfl
                rintro _ rfl
                rintro _ rfl
                rintro _ rfl
                rintro _ rfl
                rintro _ rfl
                rintro _ rfl
                rintro _ rfl
                rintro _ rfl
                rintro _ rfl
                rintro _ rfl
                rintro _ rfl
                rintro _ rfl
                rintro _ rfl
                rintro _ rfl
                rintro _ rfl
                rintro _ rfl
                rintro _ rfl
                rintro _ rfl
                rintro _ rfl
                rintro _ rfl
                rintro _ rfl
                rintro _ rfl
                rintro _ rfl
                rintro _ rfl
                rintro _ rfl
                rintro _ rfl
                rintro _ rfl
                rintro _ rfl
                rintro _ rfl
                rintro _ rfl
                rintro _ rfl
                rintro _ rfl
                rintro _ rfl
                simp only [Act.put, List.setIfInBounds_toArray, List.set_cons_succ, List.set_cons_zero]
                go_wp2
                go_ret
                exact ⟨ret_bool (by rw [HO.out]; simp [d2, d3, d4]), HG.out.trans HG5.out⟩
          · have d3 : decide (frm < till) = false := decide_eq_false h3
            go_upto_region 2 with fail
            refine wp_region_lit 41 [[], [(0, 14)], [(1, 15)], [(1, 15)], [(1, 15), (3, 17)], [(1, 15), (2, 16), (4, 18)], [(1, 15), (5, 19)], [(6, 20)], [(7, 21)], [(7, 21), (8, 22)], [(7, 21), (9, 23)], [(7, 21), (10, 24)], [(11, 25)], [(12, 26)], [(12, 26), (13, 27)], [(12, 26)], [(12, 26), (15, 29)], [(12, 26), (14, 28), (16, 30)], [(12, 26), (17, 31)], [(18, 32)], [(19, 33)], [(19, 33), (20, 34)], [(19, 33)], [(19, 33), (22, 36)], [(19, 33), (23, 37)], [(19, 33)], [(19, 33), (25, 39)], [(19, 33), (24, 38), (26, 40)], [(19, 33), (27, 41)], [(19, 33), (21, 35), (28, 42)], [(19, 33), (29, 43)], [(30, 44)], [(31, 45)], [(31, 45), (32, 46)], [(31, 45)], [(31, 45), (34, 48)], [(31, 45), (35, 49)], [(31, 45), (36, 50)], [(31, 45), (37, 51)], [(31, 45), (33, 47), (38, 52)], [(31, 45), (39, 53)]] Grow (fun qi v w' => match qi with
                | 0 => v = .bool true
                | 1 => v = .bool true
                | 2 => v = notesV ⟨⟨frames, (sn : Int)⟩, some ⟨bf, off, none⟩, ca⟩ m h
                | 3 => v = .pointer (some ⟨bg, 2, none⟩)
                | 4 => v = .int .i64 (k : Nat)
                | 5 => v = .bool true
                | 6 => v = .bool true
                | 7 => v = .bool true
                | 8 => v = .pointer (some ⟨bg, 3, none⟩)
                | 9 => v = .int .i64 frm
                | 10 => v = .bool true
                | 11 => v = .bool true
                | 12 => v = .bool true
                | 13 => v = .pointer (some ⟨bg, 3, none⟩)
                | 14 => v = .int .i64 frm
                | 15 => v = .pointer (some ⟨bg, 4, none⟩)
                | 16 => v = .int .i64 till
                | 17 => v = .bool false
                | 18 => v = .bool false
                | 19 => v = .bool false
                | 20 => v = undef
                | 21 => v = undef
                | 22 => v = undef
                | 23 => v = undef
                | 24 => v = undef
                | 25 => v = undef
                | 26 => v = undef
                | 27 => v = undef
                | 28 => v = undef
                | 29 => v = undef
                | 30 => v = .bool false
                | 31 => v = .bool false
                | 32 => v = undef
                | 33 => v = undef
                | 34 => v = undef
                | 35 => v = undef
                | 36 => v = undef
                | 37 => v = undef
                | 38 => v = undef
                | 39 => v = undef
                | 40 => v = .bool false
                | _ => False) (by kernel_rfl) (by kernel_rfl) (fun _ _ _ => Grow.trans) Grow.refl ?_ ?_ ?_
            · intro i v y y' h k
              match i, h with
              | 0, h | 1, h | 2, h | 3, h | 4, h | 5, h | 6, h | 7, h | 8, h | 9, h | 10, h | 11, h | 12, h | 13, h | 14, h | 15, h | 16, h | 17, h | 18, h | 19, h | 20, h | 21, h | 22, h | 23, h | 24, h | 25, h | 26, h | 27, h | 28, h | 29, h | 30, h | 31, h | 32, h | 33, h | 34, h | 35, h | 36, h | 37, h | 38, h | 39, h | 40, h => exact h
            · simp only [StepsLit, List.take_succ_cons, List.take_zero]
              refine ⟨?_, ?_, ?_, ?_, ?_, ?_, ?_, ?_, ?_, ?_, ?_, ?_, ?_, ?_, ?_, ?_, ?_, ?_, ?_, ?_, ?_, ?_, ?_, ?_, ?_, ?_, ?_, ?_, ?_, ?_, ?_, ?_, ?_, ?_, ?_, ?_, ?_, ?_, ?_, ?_, ?_, trivial⟩
              · intro w5 hR
                have hGw : Grow W w5 := hR.of_drew
                have HGW := Lib.hid hGw
                have hcc := (HGW.out.block HN.out).cell
                have hgc := (HGW.out.block HGL.out).cell
                clear hR hGw
                simp only [depV]
                try go_simp
                all_goals first
                  | (with_reducible exact Grow.refl _)
                  | (with_reducible exact ⟨Grow.refl _, rfl⟩)
              · intro w5 hR
                have hGw : Grow W w5 := hR.of_drew
                have HGW := Lib.hid hGw
                have hcc := (HGW.out.block HN.out).cell
                have hgc := (HGW.out.block HGL.out).cell
                clear hR hGw
                simp only [depV]
                rintro _ rfl
                try go_simp
                all_goals first
                  | (with_reducible exact Grow.refl _)
                  | (with_reducible exact ⟨Grow.refl _, rfl⟩)
              · intro w5 hR
                have hGw : Grow W w5 := hR.of_drew
                have HGW := Lib.hid hGw
                have hcc := (HGW.out.block HN.out).cell
                have hgc := (HGW.out.block HGL.out).cell
                clear hR hGw
                simp only [depV]
                rintro _ rfl
                try go_simp
                all_goals first
                  | (with_reducible exact Grow.refl _)
                  | (with_reducible exact ⟨Grow.refl _, rfl⟩)
              · intro w5 hR
                have hGw : Grow W w5 := hR.of_drew
                have HGW := Lib.hid hGw
                have hcc := (HGW.out.block HN.out).cell
                have hgc := (HGW.out.block HGL.out).cell
                clear hR hGw
                simp only [depV]
                rintro _ rfl
                try go_simp
                all_goals first
                  | (with_reducible exact Grow.refl _)
                  | (with_reducible exact ⟨Grow.refl _, rfl⟩)
              · intro w5 hR
                have hGw : Grow W w5 := hR.of_drew
                have HGW := Lib.hid hGw
                have hcc := (HGW.out.block HN.out).cell
                have hgc := (HGW.out.block HGL.out).cell
                clear hR hGw
                simp only [depV]
                rintro _ rfl
                rintro _ rfl
                try go_simp
                all_goals first
                  | (with_reducible exact Grow.refl _)
                  | (with_reducible exact ⟨Grow.refl _, rfl⟩)
              · intro w5 hR
                have hGw : Grow W w5 := hR.of_drew
                have HGW := Lib.hid hGw
                have hcc := (HGW.out.block HN.out).cell
                have hgc := (HGW.out.block HGL.out).cell
                clear hR hGw
                simp only [depV]
                rintro _ rfl
                rintro _ rfl
                rintro _ rfl
                try go_simp
                refine (HF.out _).mono ?_
                rintro e w6 ⟨rfl, hb6⟩
                exact ⟨hb6, rfl⟩
              · intro w5 hR
                have hGw : Grow W w5 := hR.of_drew
                have HGW := Lib.hid hGw
                have hcc := (HGW.out.block HN.out).cell
                have hgc := (HGW.out.block HGL.out).cell
                clear hR hGw
                simp only [depV]
                rintro _ rfl
                rintro _ rfl
                try go_simp
                all_goals first
                  | (with_reducible exact Grow.refl _)
                  | (with_reducible exact ⟨Grow.refl _, rfl⟩)
              · intro w5 hR
                have hGw : Grow W w5 := hR.of_drew
                have HGW := Lib.hid hGw
                have hcc := (HGW.out.block HN.out).cell
                have hgc := (HGW.out.block HGL.out).cell
                clear hR hGw
                simp only [depV]
                rintro _ rfl
                try go_simp
                all_goals first
                  | (with_reducible exact Grow.refl _)
                  | (with_reducible exact ⟨Grow.refl _, rfl⟩)
              · intro w5 hR
                have hGw : Grow W w5 := hR.of_drew
                have HGW := Lib.hid hGw
                have hcc := (HGW.out.block HN.out).cell
                have hgc := (HGW.out.block HGL.out).cell
                clear hR hGw
                simp only [depV]
                rintro _ rfl
                try go_simp
                all_goals first
                  | (with_reducible exact Grow.refl _)
                  | (with_reducible exact ⟨Grow.refl _, rfl⟩)
              · intro w5 hR
                have hGw : Grow W w5 := hR.of_drew
                have HGW := Lib.hid hGw
                have hcc := (HGW.out.block HN.out).cell
                have hgc := (HGW.out.block HGL.out).cell
                clear hR hGw
                simp only [depV]
                rintro _ rfl
                rintro _ rfl
                try go_simp
                all_goals first
                  | (with_reducible exact Grow.refl _)
                  | (with_reducible exact ⟨Grow.refl _, rfl⟩)
              · intro w5 hR
                have hGw : Grow W w5 := hR.of_drew
                have HGW := Lib.hid hGw
                have hcc := (HGW.out.block HN.out).cell
                have hgc := (HGW.out.block HGL.out).cell
                clear hR hGw
                simp only [depV]
                rintro _ rfl
                rintro _ rfl
                try go_simp
                all_goals first
                  | (with_reducible exact Grow.refl _)
                  | (with_reducible exact ⟨Grow.refl _, rfl⟩)
              · intro w5 hR
                have hGw : Grow W w5 := hR.of_drew
                have HGW := Lib.hid hGw
                have hcc := (HGW.out.block HN.out).cell
                have hgc := (HGW.out.block HGL.out).cell
                clear hR hGw
                simp only [depV]
                rintro _ rfl
                rintro _ rfl
                try go_simp
                all_goals first
                  | (with_reducible exact Grow.refl _)
                  | (with_reducible exact ⟨Grow.refl _, rfl⟩)
              · intro w5 hR
                have hGw : Grow W w5 := hR.of_drew
                have HGW := Lib.hid hGw
                have hcc := (HGW.out.block HN.out).cell
                have hgc := (HGW.out.block HGL.out).cell
                clear hR hGw
                simp only [depV]
                rintro _ rfl
                try go_simp
                all_goals first
                  | (with_reducible exact Grow.refl _)
                  | (with_reducible exact ⟨Grow.refl _, rfl⟩)
              · intro w5 hR
                have hGw : Grow W w5 := hR.of_drew
                have HGW := Lib.hid hGw
                have hcc := (HGW.out.block HN.out).cell
                have hgc := (HGW.out.block HGL.out).cell
                clear hR hGw
                simp only [depV]
                rintro _ rfl
                try go_simp
                all_goals first
                  | (with_reducible exact Grow.refl _)
                  | (with_reducible exact ⟨Grow.refl _, rfl⟩)
              · intro w5 hR
                have hGw : Grow W w5 := hR.of_drew
                have HGW := Lib.hid hGw
                have hcc := (HGW.out.block HN.out).cell
                have hgc := (HGW.out.block HGL.out).cell
                clear hR hGw
                simp only [depV]
                rintro _ rfl
                rintro _ rfl
                try go_simp
                all_goals first
                  | (with_reducible exact Grow.refl _)
                  | (with_reducible exact ⟨Grow.refl _, rfl⟩)
              · intro w5 hR
                have hGw : Grow W w5 := hR.of_drew
                have HGW := Lib.hid hGw
                have hcc := (HGW.out.block HN.out).cell
                have hgc := (HGW.out.block HGL.out).cell
                clear hR hGw
                simp only [depV]
                rintro _ rfl
                try go_simp
                all_goals first
                  | (with_reducible exact Grow.refl _)
                  | (with_reducible exact ⟨Grow.refl _, rfl⟩)
              · intro w5 hR
                have hGw : Grow W w5 := hR.of_drew
                have HGW := Lib.hid hGw
                have hcc := (HGW.out.block HN.out).cell
                have hgc := (HGW.out.block HGL.out).cell
                clear hR hGw
                simp only [depV]
                rintro _ rfl
                rintro _ rfl
                try go_simp
                all_goals first
                  | (with_reducible exact Grow.refl _)
                  | (with_reducible exact ⟨Grow.refl _, rfl⟩)
              · intro w5 hR
                have hGw : Grow W w5 := hR.of_drew
                have HGW := Lib.hid hGw
                have hcc := (HGW.out.block HN.out).cell
                have hgc := (HGW.out.block HGL.out).cell
                clear hR hGw
                simp only [depV]
                rintro _ rfl
                rintro _ rfl
                rintro _ rfl
                try go_simp
                all_goals first
                  | (with_reducible exact Grow.refl _)
                  | (with_reducible exact ⟨Grow.refl _, rfl⟩)
              · intro w5 hR
                have hGw : Grow W w5 := hR.of_drew
                have HGW := Lib.hid hGw
                have hcc := (HGW.out.block HN.out).cell
                have hgc := (HGW.out.block HGL.out).cell
                clear hR hGw
                simp only [depV]
                rintro _ rfl
                rintro _ rfl
                try go_simp
                all_goals first
                  | (with_reducible exact Grow.refl _)
                  | (with_reducible exact ⟨Grow.refl _, rfl⟩)
              · intro w5 hR
                have hGw : Grow W w5 := hR.of_drew
                have HGW := Lib.hid hGw
                have hcc := (HGW.out.block HN.out).cell
                have hgc := (HGW.out.block HGL.out).cell
                clear hR hGw
                simp only [depV]
                rintro _ rfl
                try go_simp
                all_goals first
                  | (with_reducible exact Grow.refl _)
                  | (with_reducible exact ⟨Grow.refl _, rfl⟩)
              · intro w5 hR
                have hGw : Grow W w5 := hR.of_drew
                have HGW := Lib.hid hGw
                have hcc := (HGW.out.block HN.out).cell
                have hgc := (HGW.out.block HGL.out).cell
                clear hR hGw
                simp only [depV]
                rintro _ rfl
                try go_simp
                all_goals first
                  | (with_reducible exact Grow.refl _)
                  | (with_reducible exact ⟨Grow.refl _, rfl⟩)
              · intro w5 hR
                have hGw : Grow W w5 := hR.of_drew
                have HGW := Lib.hid hGw
                have hcc := (HGW.out.block HN.out).cell
                have hgc := (HGW.out.block HGL.out).cell
                clear hR hGw
                simp only [depV]
                rintro _ rfl
                rintro _ rfl
                try go_simp
                all_goals first
                  | (with_reducible exact Grow.refl _)
                  | (with_reducible exact ⟨Grow.refl _, rfl⟩)
              · intro w5 hR
                have hGw : Grow W w5 := hR.of_drew
                have HGW := Lib.hid hGw
                have hcc := (HGW.out.block HN.out).cell
                have hgc := (HGW.out.block HGL.out).cell
                clear hR hGw
                simp only [depV]
                rintro _ rfl
                try go_simp
                all_goals first
                  | (with_reducible exact Grow.refl _)
                  | (with_reducible exact ⟨Grow.refl _, rfl⟩)
              · intro w5 hR
                have hGw : Grow W w5 := hR.of_drew
                have HGW := Lib.hid hGw
                have hcc := (HGW.out.block HN.out).cell
                have hgc := (HGW.out.block HGL.out).cell
                clear hR hGw
                simp only [depV]
                rintro _ rfl
                rintro _ rfl
                try go_simp
                all_goals first
                  | (with_reducible exact Grow.refl _)
                  | (with_reducible exact ⟨Grow.refl _, rfl⟩)
              · intro w5 hR
                have hGw : Grow W w5 := hR.of_drew
                have HGW := Lib.hid hGw
                have hcc := (HGW.out.block HN.out).cell
                have hgc := (HGW.out.block HGL.out).cell
                clear hR hGw
                simp only [depV]
                rintro _ rfl
                rintro _ rfl
                try go_simp
                all_goals first
                  | (with_reducible exact Grow.refl _)
                  | (with_reducible exact ⟨Grow.refl _, rfl⟩)
              · intro w5 hR
                have hGw : Grow W w5 := hR.of_drew
                have HGW := Lib.hid hGw
                have hcc := (HGW.out.block HN.out).cell
                have hgc := (HGW.out.block HGL.out).cell
                clear hR hGw
                simp only [depV]
                rintro _ rfl
                try go_simp
                all_goals first
                  | (with_reducible exact Grow.refl _)
                  | (with_reducible exact ⟨Grow.refl _, rfl⟩)
              · intro w5 hR
                have hGw : Grow W w5 := hR.of_drew
                have HGW := Lib.hid hGw
                have hcc := (HGW.out.block HN.out).cell
                have hgc := (HGW.out.block HGL.out).cell
                clear hR hGw
                simp only [depV]
                rintro _ rfl
                rintro _ rfl
                try go_simp
                all_goals first
                  | (with_reducible exact Grow.refl _)
                  | (with_reducible exact ⟨Grow.refl _, rfl⟩)
              · intro w5 hR
                have hGw : Grow W w5 := hR.of_drew
                have HGW := Lib.hid hGw
                have hcc := (HGW.out.block HN.out).cell
                have hgc := (HGW.out.block HGL.out).cell
                clear hR hGw
                simp only [depV]
                rintro _ rfl
                rintro _ rfl
                rintro _ rfl
                try go_simp
                all_goals first
                  | (with_reducible exact Grow.refl _)
                  | (with_reducible exact ⟨Grow.refl _, rfl⟩)
              · intro w5 hR
                have hGw : Grow W w5 := hR.of_drew
                have HGW := Lib.hid hGw
                have hcc := (HGW.out.block HN.out).cell
                have hgc := (HGW.out.block HGL.out).cell
                clear hR hGw
                simp only [depV]
                rintro _ rfl
                rintro _ rfl
                try go_simp
                all_goals first
                  | (with_reducible exact Grow.refl _)
                  | (with_reducible exact ⟨Grow.refl _, rfl⟩)
              · intro w5 hR
                have hGw : Grow W w5 := hR.of_drew
                have HGW := Lib.hid hGw
                have hcc := (HGW.out.block HN.out).cell
                have hgc := (HGW.out.block HGL.out).cell
                clear hR hGw
                simp only [depV]
                rintro _ rfl
                rintro _ rfl
                rintro _ rfl
                try go_simp
                all_goals first
                  | (with_reducible exact Grow.refl _)
                  | (with_reducible exact ⟨Grow.refl _, rfl⟩)
              · intro w5 hR
                have hGw : Grow W w5 := hR.of_drew
                have HGW := Lib.hid hGw
                have hcc := (HGW.out.block HN.out).cell
                have hgc := (HGW.out.block HGL.out).cell
                clear hR hGw
                simp only [depV]
                rintro _ rfl
                rintro _ rfl
                try go_simp
                all_goals first
                  | (with_reducible exact Grow.refl _)
                  | (with_reducible exact ⟨Grow.refl _, rfl⟩)
              · intro w5 hR
                have hGw : Grow W w5 := hR.of_drew
                have HGW := Lib.hid hGw
                have hcc := (HGW.out.block HN.out).cell
                have hgc := (HGW.out.block HGL.out).cell
                clear hR hGw
                simp only [depV]
                rintro _ rfl
                try go_simp
                all_goals first
                  | (with_reducible exact Grow.refl _)
                  | (with_reducible exact ⟨Grow.refl _, rfl⟩)
              · intro w5 hR
                have hGw : Grow W w5 := hR.of_drew
                have HGW := Lib.hid hGw
                have hcc := (HGW.out.block HN.out).cell
                have hgc := (HGW.out.block HGL.out).cell
                clear hR hGw
                simp only [depV]
                rintro _ rfl
                try go_simp
                all_goals first
                  | (with_reducible exact Grow.refl _)
                  | (with_reducible exact ⟨Grow.refl _, rfl⟩)
              · intro w5 hR
                have hGw : Grow W w5 := hR.of_drew
                have HGW := Lib.hid hGw
                have hcc := (HGW.out.block HN.out).cell
                have hgc := (HGW.out.block HGL.out).cell
                clear hR hGw
                simp only [depV]
                rintro _ rfl
                rintro _ rfl
                try go_simp
                all_goals first
                  | (with_reducible exact Grow.refl _)
                  | (with_reducible exact ⟨Grow.refl _, rfl⟩)
              · intro w5 hR
                have hGw : Grow W w5 := hR.of_drew
                have HGW := Lib.hid hGw
                have hcc := (HGW.out.block HN.out).cell
                have hgc := (HGW.out.block HGL.out).cell
                clear hR hGw
                simp only [depV]
                rintro _ rfl
                try go_simp
                all_goals first
                  | (with_reducible exact Grow.refl _)
                  | (with_reducible exact ⟨Grow.refl _, rfl⟩)
              · intro w5 hR
                have hGw : Grow W w5 := hR.of_drew
                have HGW := Lib.hid hGw
                have hcc := (HGW.out.block HN.out).cell
                have hgc := (HGW.out.block HGL.out).cell
                clear hR hGw
                simp only [depV]
                rintro _ rfl
                rintro _ rfl
                try go_simp
                all_goals first
                  | (with_reducible exact Grow.refl _)
                  | (with_reducible exact ⟨Grow.refl _, rfl⟩)
              · intro w5 hR
                have hGw : Grow W w5 := hR.of_drew
                have HGW := Lib.hid hGw
                have hcc := (HGW.out.block HN.out).cell
                have hgc := (HGW.out.block HGL.out).cell
                clear hR hGw
                simp only [depV]
                rintro _ rfl
                rintro _ rfl
                try go_simp
                all_goals first
                  | (with_reducible exact Grow.refl _)
                  | (with_reducible exact ⟨Grow.refl _, rfl⟩)
              · intro w5 hR
                have hGw : Grow W w5 := hR.of_drew
                have HGW := Lib.hid hGw
                have hcc := (HGW.out.block HN.out).cell
                have hgc := (HGW.out.block HGL.out).cell
                clear hR hGw
                simp only [depV]
                rintro _ rfl
                rintro _ rfl
                try go_simp
                all_goals first
                  | (with_reducible exact Grow.refl _)
                  | (with_reducible exact ⟨Grow.refl _, rfl⟩)
              · intro w5 hR
                have hGw : Grow W w5 := hR.of_drew
                have HGW := Lib.hid hGw
                have hcc := (HGW.out.block HN.out).cell
                have hgc := (HGW.out.block HGL.out).cell
                clear hR hGw
                simp only [depV]
                rintro _ rfl
                rintro _ rfl
                try go_simp
                all_goals first
                  | (with_reducible exact Grow.refl _)
                  | (with_reducible exact ⟨Grow.refl _, rfl⟩)
              · intro w5 hR
                have hGw : Grow W w5 := hR.of_drew
                have HGW := Lib.hid hGw
                have hcc := (HGW.out.block HN.out).cell
                have hgc := (HGW.out.block HGL.out).cell
                clear hR hGw
                simp only [depV]
                rintro _ rfl
                rintro _ rfl
                rintro _ rfl
                try go_simp
                all_goals first
                  | (with_reducible exact Grow.refl _)
                  | (with_reducible exact ⟨Grow.refl _, rfl⟩)
              · intro w5 hR
                have hGw : Grow W w5 := hR.of_drew
                have HGW := Lib.hid hGw
                have hcc := (HGW.out.block HN.out).cell
                have hgc := (HGW.out.block HGL.out).cell
                clear hR hGw
                simp only [depV]
                rintro _ rfl
                rintro _ rfl
                try go_simp
                all_goals first
                  | (with_reducible exact Grow.refl _)
                  | (with_reducible exact ⟨Grow.refl _, rfl⟩)
            · intro w5 hR
              have HG5 : Hid (Grow W w5) := Lib.hid hR.of_drew
              clear hR
              simp only [finVC, List.take_succ_cons, List.take_zero, List.drop_succ_cons, List.drop_zero]
              rintro _ rfl
              rintro _ rfl
              rintro _ rfl
              rintro _ rfl
              rintro _ rfl
              rintro _ rfl
              rintro _ rfl
              rintro _ rfl
              rintro _ rfl
              rintro _ rfl
              rintro _ rfl
              rintro _ rfl
              rintro _ rfl
              rintro _ rfl
              rintro _ rfl
              rintro _ rfl
              rintro _ rfl
              rintro _ rfl
              rintro _ rfl
              rintro _ rfl
              rintro _ rfl
              rintro _ rfl
              rintro _ rfl
              rintro _ rfl
              rintro _ rfl
              rintro _ rfl
              rintro _ rfl
              rintro _ rfl
              rintro _ rfl
              rintro _ rfl
              rintro _ rfl
              rintro _ rfl
              rintro _ rfl
              rintro _ rfl
              rintro _ rfl
              rintro _ rfl
              rintro _ rfl
              rintro _ rfl
              rintro _ rfl
              rintro _ rfl
              rintro _ rfl
              simp only [Act.put, List.setIfInBounds_toArray, List.set_cons_succ, List.set_cons_zero]
              go_wp2
              go_ret
              exact ⟨ret_bool (by rw [HO.out]; simp [d2, d3]), HG.out.trans HG5.out⟩
        · have d2 : decide (0 ≤ frm) = false := decide_eq_false h2
          go_upto_region 2 with fail
          refine wp_region_lit 41 [[], [(0, 14)], [(1, 15)], [(1, 15)], [(1, 15), (3, 17)], [(1, 15), (2, 16), (4, 18)], [(1, 15), (5, 19)], [(6, 20)], [(7, 21)], [(7, 21), (8, 22)], [(7, 21), (9, 23)], [(7, 21), (10, 24)], [(11, 25)], [(12, 26)], [(12, 26), (13, 27)], [(12, 26)], [(12, 26), (15, 29)], [(12, 26), (14, 28), (16, 30)], [(12, 26), (17, 31)], [(18, 32)], [(19, 33)], [(19, 33), (20, 34)], [(19, 33)], [(19, 33), (22, 36)], [(19, 33), (23, 37)], [(19, 33)], [(19, 33), (25, 39)], [(19, 33), (24, 38), (26, 40)], [(19, 33), (27, 41)], [(19, 33), (21, 35), (28, 42)], [(19, 33), (29, 43)], [(30, 44)], [(31, 45)], [(31, 45), (32, 46)], [(31, 45)], [(31, 45), (34, 48)], [(31, 45), (35, 49)], [(31, 45), (36, 50)], [(31, 45), (37, 51)], [(31, 45), (33, 47), (38, 52)], [(31, 45), (39, 53)]] Grow (fun qi v w' => match qi with
              | 0 => v = .bool true
              | 1 => v = .bool true
              | 2 => v = notesV ⟨⟨frames, (sn : Int)⟩, some ⟨bf, off, none⟩, ca⟩ m h
              | 3 => v = .pointer (some ⟨bg, 2, none⟩)
              | 4 => v = .int .i64 (k : Nat)
              | 5 => v = .bool true
              | 6 => v = .bool true
              | 7 => v = .bool true
              | 8 => v = .pointer (some ⟨bg, 3, none⟩)
              | 9 => v = .int .i64 frm
              | 10 => v = .bool false
              | 11 => v = .bool false
              | 12 => v = .bool false
              | 13 => v = undef
              | 14 => v = undef
              | 15 => v = undef
              | 16 => v = undef
              | 17 => v = undef
              | 18 => v = .bool false
              | 19 => v = .bool false
              | 20 => v = undef
              | 21 => v = undef
              | 22 => v = undef
              | 23 => v = undef
              | 24 => v = undef
              | 25 => v = undef
              | 26 => v = undef
              | 27 => v = undef
              | 28 => v = undef
              | 29 => v = undef
              | 30 => v = .bool false
              | 31 => v = .bool false
              | 32 => v = undef
              | 33 => v = undef
              | 34 => v = undef
              | 35 => v = undef
              | 36 => v = undef
              | 37 => v = undef
              | 38 => v = undef
              | 39 => v = undef
              | 40 => v = .bool false
              | _ => False) (by kernel_rfl) (by kernel_rfl) (fun _ _ _ => Grow.trans) Grow.refl ?_ ?_ ?_
          · intro i v y y' h k
            match i, h with
            | 0, h | 1, h | 2, h | 3, h | 4, h | 5, h | 6, h | 7, h | 8, h | 9, h | 10, h | 11, h | 12, h | 13, h | 14, h | 15, h | 16, h | 17, h | 18, h | 19, h | 20, h | 21, h | 22, h | 23, h | 24, h | 25, h | 26, h | 27, h | 28, h | 29, h | 30, h | 31, h | 32, h | 33, h | 34, h | 35, h | 36, h | 37, h | 38, h | 39, h | 40, h => exact h
          · simp only [StepsLit, List.take_succ_cons, List.take_zero]
            refine ⟨?_, ?_, ?_, ?_, ?_, ?_, ?_, ?_, ?_, ?_, ?_, ?_, ?_, ?_, ?_, ?_, ?_, ?_, ?_, ?_, ?_, ?_, ?_, ?_, ?_, ?_, ?_, ?_, ?_, ?_, ?_, ?_, ?_, ?_, ?_, ?_, ?_, ?_, ?_, ?_, ?_, trivial⟩
            · intro w5 hR
              have hGw : Grow W w5 := hR.of_drew
              have HGW := Lib.hid hGw
              have hcc := (HGW.out.block HN.out).cell
              have hgc := (HGW.out.block HGL.out).cell
              clear hR hGw
              simp only [depV]
              try go_simp
              all_goals first
                | (with_reducible exact Grow.refl _)
                | (with_reducible exact ⟨Grow.refl _, rfl⟩)
            · intro w5 hR
              have hGw : Grow W w5 := hR.of_drew
              have HGW := Lib.hid hGw
              have hcc := (HGW.out.block HN.out).cell
              have hgc := (HGW.out.block HGL.out).cell
              clear hR hGw
              simp only [depV]
              rintro _ rfl
              try go_simp
              all_goals first
                | (with_reducible exact Grow.refl _)
                | (with_reducible exact ⟨Grow.refl _, rfl⟩)
            · intro w5 hR
              have hGw : Grow W w5 := hR.of_drew
              have HGW := Lib.hid hGw
              have hcc := (HGW.out.block HN.out).cell
              have hgc := (HGW.out.block HGL.out).cell
              clear hR hGw
              simp only [depV]
              rintro _ rfl
              try go_simp
              all_goals first
                | (with_reducible exact Grow.refl _)
                | (with_reducible exact ⟨Grow.refl _, rfl⟩)
            · intro w5 hR
              have hGw : Grow W w5 := hR.of_drew
              have HGW := Lib.hid hGw
              have hcc := (HGW.out.block HN.out).cell
              have hgc := (HGW.out.block HGL.out).cell
              clear hR hGw
              simp only [depV]
              rintro _ rfl
              try go_simp
              all_goals first
                | (with_reducible exact Grow.refl _)
                | (with_reducible exact ⟨Grow.refl _, rfl⟩)
            · intro w5 hR
              have hGw : Grow W w5 := hR.of_drew
              have HGW := Lib.hid hGw
              have hcc := (HGW.out.block HN.out).cell
              have hgc := (HGW.out.block HGL.out).cell
              clear hR hGw
              simp only [depV]
              rintro _ rfl
              rintro _ rfl
              try go_simp
              all_goals first
                | (with_reducible exact Grow.refl _)
                | (with_reducible exact ⟨Grow.refl _, rfl⟩)
            · intro w5 hR
              have hGw : Grow W w5 := hR.of_drew
              have HGW := Lib.hid hGw
              have hcc := (HGW.out.block HN.out).cell
              have hgc := (HGW.out.block HGL.out).cell
              clear hR hGw
              simp only [depV]
              rintro _ rfl
              rintro _ rfl
              rintro _ rfl
              try go_simp
              refine (HF.out _).mono ?_
              rintro e w6 ⟨rfl, hb6⟩
              exact ⟨hb6, rfl⟩
            · intro w5 hR
              have hGw : Grow W w5 := hR.of_drew
              have HGW := Lib.hid hGw
              have hcc := (HGW.out.block HN.out).cell
              have hgc := (HGW.out.block HGL.out).cell
              clear hR hGw
              simp only [depV]
              rintro _ rfl
              rintro _ rfl
              try go_simp
              all_goals first
                | (with_reducible exact Grow.refl _)
                | (with_reducible exact ⟨Grow.refl _, rfl⟩)
            · intro w5 hR
              have hGw : Grow W w5 := hR.of_drew
              have HGW := Lib.hid hGw
              have hcc := (HGW.out.block HN.out).cell
              have hgc := (HGW.out.block HGL.out).cell
              clear hR hGw
              simp only [depV]
              rintro _ rfl
              try go_simp
              all_goals first
                | (with_reducible exact Grow.refl _)
                | (with_reducible exact ⟨Grow.refl _, rfl⟩)
            · intro w5 hR
              have hGw : Grow W w5 := hR.of_drew
              have HGW := Lib.hid hGw
              have hcc := (HGW.out.block HN.out).cell
              have hgc := (HGW.out.block HGL.out).cell
              clear hR hGw
              simp only [depV]
              rintro _ rfl
              try go_simp
              all_goals first
                | (with_reducible exact Grow.refl _)
                | (with_reducible exact ⟨Grow.refl _, rfl⟩)
            · intro w5 hR
              have hGw : Grow W w5 := hR.of_drew
              have HGW := Lib.hid hGw
              have hcc := (HGW.out.block HN.out).cell
              have hgc := (HGW.out.block HGL.out).cell
              clear hR hGw
              simp only [depV]
              rintro _ rfl
              rintro _ rfl
              try go_simp
              all_goals first
                | (with_reducible exact Grow.refl _)
                | (with_reducible exact ⟨Grow.refl _, rfl⟩)
            · intro w5 hR
              have hGw : Grow W w5 := hR.of_drew
              have HGW := Lib.hid hGw
              have hcc := (HGW.out.block HN.out).cell
              have hgc := (HGW.out.block HGL.out).cell
              clear hR hGw
              simp only [depV]
              rintro _ rfl
              rintro _ rfl
              try go_simp
              all_goals first
                | (with_reducible exact Grow.refl _)
                | (with_reducible exact ⟨Grow.refl _, rfl⟩)
            · intro w5 hR
              have hGw : Grow W w5 := hR.of_drew
              have HGW := Lib.hid hGw
              have hcc := (HGW.out.block HN.out).cell
              have hgc := (HGW.out.block HGL.out).cell
              clear hR hGw
              simp only [depV]
              rintro _ rfl
              rintro _ rfl
              try go_simp
              all_goals first
                | (with_reducible exact Grow.refl _)
                | (with_reducible exact ⟨Grow.refl _, rfl⟩)
            · intro w5 hR
              have hGw : Grow W w5 := hR.of_drew
              have HGW := Lib.hid hGw
              have hcc := (HGW.out.block HN.out).cell
              have hgc := (HGW.out.block HGL.out).cell
              clear hR hGw
              simp only [depV]
              rintro _ rfl
              try go_simp
              all_goals first
                | (with_reducible exact Grow.refl _)
                | (with_reducible exact ⟨Grow.refl _, rfl⟩)
            · intro w5 hR
              have hGw : Grow W w5 := hR.of_drew
              have HGW := Lib.hid hGw
              have hcc := (HGW.out.block HN.out).cell
              have hgc := (HGW.out.block HGL.out).cell
              clear hR hGw
              simp only [depV]
              rintro _ rfl
              try go_simp
              all_goals first
                | (with_reducible exact Grow.refl _)
                | (with_reducible exact ⟨Grow.refl _, rfl⟩)
            · intro w5 hR
              have hGw : Grow W w5 := hR.of_drew
              have HGW := Lib.hid hGw
              have hcc := (HGW.out.block HN.out).cell
              have hgc := (HGW.out.block HGL.out).cell
              clear hR hGw
              simp only [depV]
              rintro _ rfl
              rintro _ rfl
              try go_simp
              all_goals first
                | (with_reducible exact Grow.refl _)
                | (with_reducible exact ⟨Grow.refl _, rfl⟩)
            · intro w5 hR
              have hGw : Grow W w5 := hR.of_drew
              have HGW := Lib.hid hGw
              have hcc := (HGW.out.block HN.out).cell
              have hgc := (HGW.out.block HGL.out).cell
              clear hR hGw
              simp only [depV]
              rintro _ rfl
              try go_simp
              all_goals first
                | (with_reducible exact Grow.refl _)
                | (with_reducible exact ⟨Grow.refl _, rfl⟩)
            · intro w5 hR
              have hGw : Grow W w5 := hR.of_drew
              have HGW := Lib.hid hGw
              have hcc := (HGW.out.block HN.out).cell
              have hgc := (HGW.out.block HGL.out).cell
              clear hR hGw
              simp only [depV]
              rintro _ rfl
              rintro _ rfl
              try go_simp
              all_goals first
                | (with_reducible exact Grow.refl _)
                | (with_reducible exact ⟨Grow.refl _, rfl⟩)
            · intro w5 hR
              have hGw : Grow W w5 := hR.of_drew
              have HGW := Lib.hid hGw
              have hcc := (HGW.out.block HN.out).cell
              have hgc := (HGW.out.block HGL.out).cell
              clear hR hGw
              simp only [depV]
              rintro _ rfl
              rintro _ rfl
              rintro _ rfl
              try go_simp
              all_goals first
                | (with_reducible exact Grow.refl _)
                | (with_reducible exact ⟨Grow.refl _, rfl⟩)
            · intro w5 hR
              have hGw : Grow W w5 := hR.of_drew
              have HGW := Lib.hid hGw
              have hcc := (HGW.out.block HN.out).cell
              have hgc := (HGW.out.block HGL.out).cell
              clear hR hGw
              simp only [depV]
              rintro _ rfl
              rintro _ rfl
              try go_simp
              all_goals first
                | (with_reducible exact Grow.refl _)
                | (with_reducible exact ⟨Grow.refl _, rfl⟩)
            · intro w5 hR
              have hGw : Grow W w5 := hR.of_drew
              have HGW := Lib.hid hGw
              have hcc := (HGW.out.block HN.out).cell
              have hgc := (HGW.out.block HGL.out).cell
              clear hR hGw
              simp only [depV]
              rintro _ rfl
              try go_simp
              all_goals first
                | (with_reducible exact Grow.refl _)
                | (with_reducible exact ⟨Grow.refl _, rfl⟩)
            · intro w5 hR
              have hGw : Grow W w5 := hR.of_drew
              have HGW := Lib.hid hGw
              have hcc := (HGW.out.block HN.out).cell
              have hgc := (HGW.out.block HGL.out).cell
              clear hR hGw
              simp only [depV]
              rintro _ rfl
              try go_simp
              all_goals first
                | (with_reducible exact Grow.refl _)
                | (with_reducible exact ⟨Grow.refl _, rfl⟩)
            · intro w5 hR
              have hGw : Grow W w5 := hR.of_drew
              have HGW := Lib.hid hGw
              have hcc := (HGW.out.block HN.out).cell
              have hgc := (HGW.out.block HGL.out).cell
              clear hR hGw
              simp only [depV]
              rintro _ rfl
              rintro _ rfl
              try go_simp
              all_goals first
                | (with_reducible exact Grow.refl _)
                | (with_reducible exact ⟨Grow.refl _, rfl⟩)
            · intro w5 hR
              have hGw : Grow W w5 := hR.of_drew
              have HGW := Lib.hid hGw
              have hcc := (HGW.out.block HN.out).cell
              have hgc := (HGW.out.block HGL.out).cell
              clear hR hGw
              simp only [depV]
              rintro _ rfl
              try go_simp
              all_goals first
                | (with_reducible exact Grow.refl _)
                | (with_reducible exact ⟨Grow.refl _, rfl⟩)
            · intro w5 hR
              have hGw : Grow W w5 := hR.of_drew
              have HGW := Lib.hid hGw
              have hcc := (HGW.out.block HN.out).cell
              have hgc := (HGW.out.block HGL.out).cell
              clear hR hGw
              simp only [depV]
              rintro _ rfl
              rintro _ rfl
              try go_simp
              all_goals first
                | (with_reducible exact Grow.refl _)
                | (with_reducible exact ⟨Grow.refl _, rfl⟩)
            · intro w5 hR
              have hGw : Grow W w5 := hR.of_drew
              have HGW := Lib.hid hGw
              have hcc := (HGW.out.block HN.out).cell
              have hgc := (HGW.out.block HGL.out).cell
              clear hR hGw
              simp only [depV]
              rintro _ rfl
              rintro _ rfl
              try go_simp
              all_goals first
                | (with_reducible exact Grow.refl _)
                | (with_reducible exact ⟨Grow.refl _, rfl⟩)
            · intro w5 hR
              have hGw : Grow W w5 := hR.of_drew
              have HGW := Lib.hid hGw
              have hcc := (HGW.out.block HN.out).cell
              have hgc := (HGW.out.block HGL.out).cell
              clear hR hGw
              simp only [depV]
              rintro _ rfl
              try go_simp
              all_goals first
                | (with_reducible exact Grow.refl _)
                | (with_reducible exact ⟨Grow.refl _, rfl⟩)
            · intro w5 hR
              have hGw : Grow W w5 := hR.of_drew
              have HGW := Lib.hid hGw
              have hcc := (HGW.out.block HN.out).cell
              have hgc := (HGW.out.block HGL.out).cell
              clear hR hGw
              simp only [depV]
              rintro _ rfl
              rintro _ rfl
              try go_simp
              all_goals first
                | (with_reducible exact Grow.refl _)
                | (with_reducible exact ⟨Grow.refl _, rfl⟩)
            · intro w5 hR
              have hGw : Grow W w5 := hR.of_drew
              have HGW := Lib.hid hGw
              have hcc := (HGW.out.block HN.out).cell
              have hgc := (HGW.out.block HGL.out).cell
              clear hR hGw
              simp only [depV]
              rintro _ rfl
              rintro _ rfl
              rintro _ rfl
              try go_simp
              all_goals first
                | (with_reducible exact Grow.refl _)
                | (with_reducible exact ⟨Grow.refl _, rfl⟩)
            · intro w5 hR
              have hGw : Grow W w5 := hR.of_drew
              have HGW := Lib.hid hGw
              have hcc := (HGW.out.block HN.out).cell
              have hgc := (HGW.out.block HGL.out).cell
              clear hR hGw
              simp only [depV]
              rintro _ rfl
              rintro _ rfl
              try go_simp
              all_goals first
                | (with_reducible exact Grow.refl _)
                | (with_reducible exact ⟨Grow.refl _, rfl⟩)
            · intro w5 hR
              have hGw : Grow W w5 := hR.of_drew
              have HGW := Lib.hid hGw
              have hcc := (HGW.out.block HN.out).cell
              have hgc := (HGW.out.block HGL.out).cell
              clear hR hGw
              simp only [depV]
              rintro _ rfl
              rintro _ rfl
              rintro _ rfl
              try go_simp
              all_goals first
                | (with_reducible exact Grow.refl _)
                | (with_reducible exact ⟨Grow.refl _, rfl⟩)
            · intro w5 hR
              have hGw : Grow W w5 := hR.of_drew
              have HGW := Lib.hid hGw
              have hcc := (HGW.out.block HN.out).cell
              have hgc := (HGW.out.block HGL.out).cell
              clear hR hGw
              simp only [depV]
              rintro _ rfl
              rintro _ rfl
              try go_simp
              all_goals first
                | (with_reducible exact Grow.refl _)
                | (with_reducible exact ⟨Grow.refl _, rfl⟩)
            · intro w5 hR
              have hGw : Grow W w5 := hR.of_drew
              have HGW := Lib.hid hGw
              have hcc := (HGW.out.block HN.out).cell
              have hgc := (HGW.out.block HGL.out).cell
              clear hR hGw
              simp only [depV]
              rintro _ rfl
              try go_simp
              all_goals first
                | (with_reducible exact Grow.refl _)
                | (with_reducible exact ⟨Grow.refl _, rfl⟩)
            · intro w5 hR
              have hGw : Grow W w5 := hR.of_drew
              have HGW := Lib.hid hGw
              have hcc := (HGW.out.block HN.out).cell
              have hgc := (HGW.out.block HGL.out).cell
              clear hR hGw
              simp only [depV]
              rintro _ rfl
              try go_simp
              all_goals first
                | (with_reducible exact Grow.refl _)
                | (with_reducible exact ⟨Grow.refl _, rfl⟩)
            · intro w5 hR
              have hGw : Grow W w5 := hR.of_drew
              have HGW := Lib.hid hGw
              have hcc := (HGW.out.block HN.out).cell
              have hgc := (HGW.out.block HGL.out).cell
              clear hR hGw
              simp only [depV]
              rintro _ rfl
              rintro _ rfl
              try go_simp
              all_goals first
                | (with_reducible exact Grow.refl _)
                | (with_reducible exact ⟨Grow.refl _, rfl⟩)
            · intro w5 hR
              have hGw : Grow W w5 := hR.of_drew
              have HGW := Lib.hid hGw
              have hcc := (HGW.out.block HN.out).cell
              have hgc := (HGW.out.block HGL.out).cell
              clear hR hGw
              simp only [depV]
              rintro _ rfl
              try go_simp
              all_goals first
                | (with_reducible exact Grow.refl _)
                | (with_reducible exact ⟨Grow.refl _, rfl⟩)
            · intro w5 hR
              have hGw : Grow W w5 := hR.of_drew
              have HGW := Lib.hid hGw
              have hcc := (HGW.out.block HN.out).cell
              have hgc := (HGW.out.block HGL.out).cell
              clear hR hGw
              simp only [depV]
              rintro _ rfl
              rintro _ rfl
              try go_simp
              all_goals first
                | (with_reducible exact Grow.refl _)
                | (with_reducible exact ⟨Grow.refl _, rfl⟩)
            · intro w5 hR
              have hGw : Grow W w5 := hR.of_drew
              have HGW := Lib.hid hGw
              have hcc := (HGW.out.block HN.out).cell
              have hgc := (HGW.out.block HGL.out).cell
              clear hR hGw
              simp only [depV]
              rintro _ rfl
              rintro _ rfl
              try go_simp
              all_goals first
                | (with_reducible exact Grow.refl _)
                | (with_reducible exact ⟨Grow.refl _, rfl⟩)
            · intro w5 hR
              have hGw : Grow W w5 := hR.of_drew
              have HGW := Lib.hid hGw
              have hcc := (HGW.out.block HN.out).cell
              have hgc := (HGW.out.block HGL.out).cell
              clear hR hGw
              simp only [depV]
              rintro _ rfl
              rintro _ rfl
              try go_simp
              all_goals first
                | (with_reducible exact Grow.refl _)
                | (with_reducible exact ⟨Grow.refl _, rfl⟩)
            · intro w5 hR
              have hGw : Grow W w5 := hR.of_drew
              have HGW := Lib.hid hGw
              have hcc := (HGW.out.block HN.out).cell
              have hgc := (HGW.out.block HGL.out).cell
              clear hR hGw
              simp only [depV]
              rintro _ rfl
              rintro _ rfl
              try go_simp
              all_goals first
                | (with_reducible exact Grow.refl _)
                | (with_reducible exact ⟨Grow.refl _, rfl⟩)
            · intro w5 hR
              have hGw : Grow W w5 := hR.of_drew
              have HGW := Lib.hid hGw
              have hcc := (HGW.out.block HN.out).cell
              have hgc := (HGW.out.block HGL.out).cell
              clear hR hGw
              simp only [depV]
              rintro _ rfl
              rintro _ rfl
              rintro _ rfl
              try go_simp
              all_goals first
                | (with_reducible exact Grow.refl _)
                | (with_reducible exact ⟨Grow.refl _, rfl⟩)
            · intro w5 hR
              have hGw : Grow W w5 := hR.of_drew
              have HGW := Lib.hid hGw
              have hcc := (HGW.out.block HN.out).cell
              have hgc := (HGW.out.block HGL.out).cell
              clear hR hGw
              simp only [depV]
              rintro _ rfl
              rintro _ rfl
              try go_simp
              all_goals first
                | (with_reducible exact Grow.refl _)
                | (with_reducible exact ⟨Grow.refl _, rfl⟩)
          · intro w5 hR
            have HG5 : Hid (Grow W w5) := Lib.hid hR.of_drew
            clear hR
            simp only [finVC, List.take_succ_cons, List.take_zero, List.drop_succ_cons, List.drop_zero]
            rintro _ rfl
            rintro _ rfl
            rintro _ rfl
            rintro _ rfl
            rintro _ rfl
            rintro _ rfl
            rintro _ rfl
            rintro _ rfl
            rintro _ rfl
            rintro _ rfl
            rintro _ rfl
            rintro _ rfl
            rintro _ rfl
            rintro _ rfl
            rintro _ rfl
            rintro _ rfl
            rintro _ rfl
            rintro _ rfl
            rintro _ rfl
            rintro _ rfl
            rintro _ rfl
            rintro _ rfl
            rintro _ rfl
            rintro _ rfl
            rintro _ rfl
            rintro _ rfl
            rintro _ rfl
            rintro _ rfl
            rintro _ rfl
            rintro _ rfl
            rintro _ rfl
            rintro _ rfl
            rintro _ rfl
            rintro _ rfl
            rintro _ rfl
            rintro _ rfl
            rintro _ rfl
            rintro _ rfl
            rintro _ rfl
            rintro _ rfl
            rintro _ rfl
            simp only [Act.put, List.setIfInBounds_toArray, List.set_cons_succ, List.set_cons_zero]
            go_wp2
            go_ret
            exact ⟨ret_bool (by rw [HO.out]; simp [d2]), HG.out.trans HG5.out⟩

end Go.Proofs.Ytinlojealfbbfaa
