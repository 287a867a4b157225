/- RMsgs: the specification's areGlosses; written by wip/tools/areg02.py. -/
import Derived.Test.YtinlojealfbbfaaRFilms
namespace Go.Proofs.Ytinlojealfbbfaa
open Go.RowKit

set_option maxRecDepth 100000 in
set_option maxHeartbeats 16000000 in
theorem rMsgs_any (f : FilmsR) (l : List GlossD) (Al : Option Addr) (cl n nl : Nat) (w : World) (hf : Ints w n f.A f.d.frames) (hn : n ≤ w.heap.size) (hok : okFilms f.d = true) (hA : GlossAt w nl Al l) (hnl : nl ≤ w.heap.size) (hl : l.length ≤ 1000) :
    Calls Try.prog 54 #[filmsV f, .slice Al l.length cl] w fun e w' => e = .returned (.bool (okMsgs f.d l)) ∧ Below w.heap.size w w' := by
  obtain ⟨⟨frames, signs⟩, A, ca⟩ := f
  have hp := okFilms_parts hok
  dsimp only at hp
  have hsg := hp.2.1
  have hln := hp.1
  obtain ⟨sn, rfl⟩ := Int.eq_ofNat_of_zero_le (show 0 ≤ signs by omega)
  have hp9 : 2 ^ sn ≤ 1024 := Nat.le_trans (Nat.pow_le_pow_right (n := 2) (by omega) (show sn ≤ 10 by omega)) (by decide)
  have hp1 : 1 ≤ 2 ^ sn := Nat.pow_pos (by omega)
  have HP2 : Hid ((2 : Int) ^ ((sn : Int)).toNat = ((2 ^ sn : Nat) : Int)) := Lib.hid (by rw [Int.toNat_natCast]; exact (Int.natCast_pow 2 sn).symm)
  obtain ⟨pw, hpw⟩ : ∃ q, 2 ^ sn = q := ⟨_, rfl⟩
  rw [hpw] at hp9 hp1 HP2
  have HWR : Hid (IntKind.i64.wrap ((2 : Int) ^ sn) = (pw : Int)) := Lib.hid (by
    have h : ((2 : Int) ^ sn) = ((2 ^ sn : Nat) : Int) := (Int.natCast_pow 2 sn).symm
    rw [h, hpw]
    exact IntWalk.i64_in _ (by omega))
  have HFR := Lib.hid (fun (k : Int) (h0 : 0 ≤ k) (h1 : k ≤ frames.length - 1) => frameOf_at (f := ⟨frames, (sn : Int)⟩) hok h0 h1)
  have HI := Lib.hid hf
  clear hpw hp hok hf
  have HRL : Hid (okMsgs ⟨frames, (sn : Int)⟩ l = (decide (l.length ≤ 40) && l.all (okGloss ⟨frames, (sn : Int)⟩))) := rfl
  have HCV : Hid (IntKind.u64.wrap (sn : Int) = (sn : Int)) := Lib.hid (IntWalk.u64_in _ (by omega))
  have HAL := Lib.hid (hA.more hnl)
  dsimp only
  generalize okMsgs ⟨frames, (sn : Int)⟩ l = r at HRL ⊢
  clear hA hnl
  go_enter Try.func54, Try.ntmps54
  go_upto_region 1 with fail
  obtain ⟨W, hW, hg, hfb, hsz⟩ := one_block w 24 (cellsF ⟨⟨frames, (sn : Int)⟩, A, ca⟩)
  rw [hW]
  clear hW
  go_wp2
  go_loopw [5] (fun i wr => ∃ k : Nat, k ≤ l.length ∧ i = .int .i64 k ∧ (l.take k).all (okGloss ⟨frames, (sn : Int)⟩) = true ∧ Grow w wr ∧ BlockIs wr w.heap.size 24 (cellsF ⟨⟨frames, (sn : Int)⟩, A, ca⟩)) (fun i _ => l.length - (intOf i).toNat)
  case atStart => exact ⟨0, Nat.zero_le _, rfl, rfl, hg, hfb⟩
  case round =>
    obtain ⟨k, hk, rfl, hor, hgr, hfr⟩ := hrel
    rename World => wr
    by_cases hlt : k < l.length
    · obtain ⟨b, off, y, rfl, hb, hc, HX⟩ := (HAL.out.below hgr).at_ hlt
      have HT := Lib.hid (all_take_succ (okGloss ⟨frames, (sn : Int)⟩) HX.out hor)
      have HG := Lib.hid hgr
      obtain ⟨author, stamp, film, frm, till, sg⟩ := y
      have e0 := hc 0 (by omega); have e1 := hc 1 (by omega); have e2 := hc 2 (by omega); have e3 := hc 3 (by omega); have e4 := hc 4 (by omega); have e5 := hc 5 (by omega)
      rw [Nat.add_zero] at e0
      clear hor hgr hc hg hfb hb
      have HOG : Hid (okGloss ⟨frames, (sn : Int)⟩ ⟨author, stamp, film, frm, till, sg⟩ = ((inB author 0 7 && inB stamp 0 9999) && (inB film 0 (frames.length - 1) && (decide (0 ≤ frm) && (decide (frm < till) && (decide (till ≤ frameOf ⟨frames, (sn : Int)⟩ film) && inB sg 0 (pw - 1))))))) := Lib.hid (by
        rw [← HP2.out]; rfl)
      have HNO : Hid (okGloss ⟨frames, (sn : Int)⟩ ⟨author, stamp, film, frm, till, sg⟩ = false → r = false) := Lib.hid (fun h => by
        rw [HRL.out, all_of_take (k := k + 1) (okGloss ⟨frames, (sn : Int)⟩) (by rw [HT.out]; exact h), Bool.and_false])
      have HGO : Hid (okGloss ⟨frames, (sn : Int)⟩ ⟨author, stamp, film, frm, till, sg⟩ = true → (l.take (k + 1)).all (okGloss ⟨frames, (sn : Int)⟩) = true) := Lib.hid (fun h => by rw [HT.out]; exact h)
      clear HT
      have HA := Lib.hid (fun w0 => rwithin_any author 0 7 w0)
      have HB := Lib.hid (fun w0 => rwithin_any stamp 0 9999 w0)
      have HF := Lib.hid (fun w0 => rwithin_any film 0 (frames.length - 1) w0)
      have HS := Lib.hid (fun w0 => rwithin_any sg 0 (pw - 1) w0)
      obtain ⟨okx, hokx⟩ : ∃ q, okGloss ⟨frames, (sn : Int)⟩ ⟨author, stamp, film, frm, till, sg⟩ = q := ⟨_, rfl⟩
      rw [hokx] at HOG HNO HGO
      clear hokx
      generalize inB author 0 7 = a1 at HOG HA
      generalize inB stamp 0 9999 = a2 at HOG HB
      obtain ⟨c1, hc1⟩ : ∃ q, inB film 0 (frames.length - 1) = q := ⟨_, rfl⟩
      rw [hc1] at HOG HF
      have HC1 := Lib.hid hc1
      clear hc1
      generalize inB sg 0 (pw - 1) = c5 at HOG HS
      go_upto_region 5 with fail
      obtain ⟨W2, hW2, hg2, hf2, hsz2⟩ := one_block wr 55 (cellsG ⟨author, stamp, film, frm, till, sg⟩)
      rw [hW2]
      clear hW2
      obtain ⟨bg, ebg⟩ : ∃ q, wr.heap.size = q := ⟨_, rfl⟩
      rw [ebg] at hf2 hsz2 ⊢
      clear ebg
      have HN : Hid (BlockIs W2 w.heap.size 24 (cellsF ⟨⟨frames, (sn : Int)⟩, A, ca⟩)) := Grow.block hg2 hfr
      have HGL := Lib.hid hf2
      have HG2 := Lib.hid (HG.out.trans hg2)
      have HIW := Lib.hid ((HI.out.more hn).below HG2.out)
      clear hfr hf2 hg2 e0 e1 e2 e3 e4 e5 hsz2 HAL HI
      cases a1
      · skip
        refine wp_region_lit 54 [[], [(0, 17)], [(1, 18)], [(2, 19)], [(3, 20)], [(4, 21)], [(4, 21), (5, 22)], [(4, 21), (6, 23)], [(4, 21), (7, 24)], [(4, 21), (8, 25)], [(9, 26)], [(10, 27)], [(10, 27), (11, 28)], [(10, 27)], [(10, 27), (13, 30)], [(10, 27), (14, 31)], [(10, 27), (15, 32)], [(10, 27), (12, 29), (16, 33)], [(10, 27), (17, 34)], [(10, 27), (18, 35)], [(19, 36)], [(20, 37)], [(20, 37), (21, 38)], [(20, 37), (22, 39)], [(20, 37), (23, 40)], [(24, 41)], [(25, 42)], [(25, 42), (26, 43)], [(25, 42)], [(25, 42), (28, 45)], [(25, 42), (27, 44), (29, 46)], [(25, 42), (30, 47)], [(31, 48)], [(32, 49)], [(32, 49), (33, 50)], [(32, 49)], [(32, 49), (35, 52)], [(32, 49)], [(32, 49), (37, 54)], [(32, 49), (36, 53), (38, 55)], [(32, 49), (39, 56)], [(32, 49), (34, 51), (40, 57)], [(32, 49), (41, 58)], [(42, 59)], [(43, 60)], [(43, 60), (44, 61)], [(43, 60)], [(43, 60), (46, 63)], [(43, 60), (47, 64)], [(43, 60), (48, 65)], [(43, 60), (49, 66)], [(43, 60), (45, 62), (50, 67)], [(43, 60), (51, 68)], [(43, 60), (52, 69)]] Grow (fun qi v w' => match qi with
            | 0 => v = .pointer (some ⟨bg, 0, none⟩)
            | 1 => v = .int .i64 author
            | 2 => v = .bool false
            | 3 => v = .bool true
            | 4 => v = .bool true
            | 5 => v = undef
            | 6 => v = undef
            | 7 => v = undef
            | 8 => v = undef
            | 9 => v = .bool true
            | 10 => v = .bool true
            | 11 => v = undef
            | 12 => v = undef
            | 13 => v = undef
            | 14 => v = undef
            | 15 => v = undef
            | 16 => v = undef
            | 17 => v = undef
            | 18 => v = undef
            | 19 => v = .bool true
            | 20 => v = .bool true
            | 21 => v = undef
            | 22 => v = undef
            | 23 => v = undef
            | 24 => v = .bool true
            | 25 => v = .bool true
            | 26 => v = undef
            | 27 => v = undef
            | 28 => v = undef
            | 29 => v = undef
            | 30 => v = undef
            | 31 => v = .bool true
            | 32 => v = .bool true
            | 33 => v = undef
            | 34 => v = undef
            | 35 => v = undef
            | 36 => v = undef
            | 37 => v = undef
            | 38 => v = undef
            | 39 => v = undef
            | 40 => v = undef
            | 41 => v = undef
            | 42 => v = .bool true
            | 43 => v = .bool true
            | 44 => v = undef
            | 45 => v = undef
            | 46 => v = undef
            | 47 => v = undef
            | 48 => v = undef
            | 49 => v = undef
            | 50 => v = undef
            | 51 => v = undef
            | 52 => v = undef
            | 53 => v = .bool true
            | _ => False) (by kernel_rfl) (by kernel_rfl) (fun _ _ _ => Grow.trans) Grow.refl ?_ ?_ ?_
        · intro i v y y' h k
          match i, h with
          | 0, h | 1, h | 2, h | 3, h | 4, h | 5, h | 6, h | 7, h | 8, h | 9, h | 10, h | 11, h | 12, h | 13, h | 14, h | 15, h | 16, h | 17, h | 18, h | 19, h | 20, h | 21, h | 22, h | 23, h | 24, h | 25, h | 26, h | 27, h | 28, h | 29, h | 30, h | 31, h | 32, h | 33, h | 34, h | 35, h | 36, h | 37, h | 38, h | 39, h | 40, h | 41, h | 42, h | 43, h | 44, h | 45, h | 46, h | 47, h | 48, h | 49, h | 50, h | 51, h | 52, h | 53, h => exact h
        · simp only [StepsLit, List.take_succ_cons, List.take_zero]
          refine ⟨?_, ?_, ?_, ?_, ?_, ?_, ?_, ?_, ?_, ?_, ?_, ?_, ?_, ?_, ?_, ?_, ?_, ?_, ?_, ?_, ?_, ?_, ?_, ?_, ?_, ?_, ?_, ?_, ?_, ?_, ?_, ?_, ?_, ?_, ?_, ?_, ?_, ?_, ?_, ?_, ?_, ?_, ?_, ?_, ?_, ?_, ?_, ?_, ?_, ?_, ?_, ?_, ?_, ?_, trivial⟩
          · intro w5 hR
            have hGw : Grow W2 w5 := hR.of_drew
            have HGW := Lib.hid hGw
            have hcc := (HGW.out.block HN.out).cell
            have hgc := (HGW.out.block HGL.out).cell
            clear hR hGw
            simp only [depV]
            try go_simp
            all_goals first
              | (with_reducible exact Grow.refl _)
              | (with_reducible exact ⟨Grow.refl _, rfl⟩)
          · intro w5 hR
            have hGw : Grow W2 w5 := hR.of_drew
            have HGW := Lib.hid hGw
            have hcc := (HGW.out.block HN.out).cell
            have hgc := (HGW.out.block HGL.out).cell
            clear hR hGw
            simp only [depV]
            rintro _ rfl
            try go_simp
            all_goals first
              | (with_reducible exact Grow.refl _)
              | (with_reducible exact ⟨Grow.refl _, rfl⟩)
          · intro w5 hR
            have hGw : Grow W2 w5 := hR.of_drew
            have HGW := Lib.hid hGw
            have hcc := (HGW.out.block HN.out).cell
            have hgc := (HGW.out.block HGL.out).cell
            clear hR hGw
            simp only [depV]
            rintro _ rfl
            try go_simp
            refine (HA.out _).mono ?_
            rintro e w6 ⟨rfl, rfl⟩
            exact ⟨Grow.refl _, rfl⟩
          · intro w5 hR
            have hGw : Grow W2 w5 := hR.of_drew
            have HGW := Lib.hid hGw
            have hcc := (HGW.out.block HN.out).cell
            have hgc := (HGW.out.block HGL.out).cell
            clear hR hGw
            simp only [depV]
            rintro _ rfl
            try go_simp
            all_goals first
              | (with_reducible exact Grow.refl _)
              | (with_reducible exact ⟨Grow.refl _, rfl⟩)
          · intro w5 hR
            have hGw : Grow W2 w5 := hR.of_drew
            have HGW := Lib.hid hGw
            have hcc := (HGW.out.block HN.out).cell
            have hgc := (HGW.out.block HGL.out).cell
            clear hR hGw
            simp only [depV]
            rintro _ rfl
            try go_simp
            all_goals first
              | (with_reducible exact Grow.refl _)
              | (with_reducible exact ⟨Grow.refl _, rfl⟩)
          · intro w5 hR
            have hGw : Grow W2 w5 := hR.of_drew
            have HGW := Lib.hid hGw
            have hcc := (HGW.out.block HN.out).cell
            have hgc := (HGW.out.block HGL.out).cell
            clear hR hGw
            simp only [depV]
            rintro _ rfl
            try go_simp
            all_goals first
              | (with_reducible exact Grow.refl _)
              | (with_reducible exact ⟨Grow.refl _, rfl⟩)
          · intro w5 hR
            have hGw : Grow W2 w5 := hR.of_drew
            have HGW := Lib.hid hGw
            have hcc := (HGW.out.block HN.out).cell
            have hgc := (HGW.out.block HGL.out).cell
            clear hR hGw
            simp only [depV]
            rintro _ rfl
            rintro _ rfl
            try go_simp
            all_goals first
              | (with_reducible exact Grow.refl _)
              | (with_reducible exact ⟨Grow.refl _, rfl⟩)
          · intro w5 hR
            have hGw : Grow W2 w5 := hR.of_drew
            have HGW := Lib.hid hGw
            have hcc := (HGW.out.block HN.out).cell
            have hgc := (HGW.out.block HGL.out).cell
            clear hR hGw
            simp only [depV]
            rintro _ rfl
            rintro _ rfl
            try go_simp
            all_goals first
              | (with_reducible exact Grow.refl _)
              | (with_reducible exact ⟨Grow.refl _, rfl⟩)
          · intro w5 hR
            have hGw : Grow W2 w5 := hR.of_drew
            have HGW := Lib.hid hGw
            have hcc := (HGW.out.block HN.out).cell
            have hgc := (HGW.out.block HGL.out).cell
            clear hR hGw
            simp only [depV]
            rintro _ rfl
            rintro _ rfl
            try go_simp
            all_goals first
              | (with_reducible exact Grow.refl _)
              | (with_reducible exact ⟨Grow.refl _, rfl⟩)
          · intro w5 hR
            have hGw : Grow W2 w5 := hR.of_drew
            have HGW := Lib.hid hGw
            have hcc := (HGW.out.block HN.out).cell
            have hgc := (HGW.out.block HGL.out).cell
            clear hR hGw
            simp only [depV]
            rintro _ rfl
            rintro _ rfl
            try go_simp
            all_goals first
              | (with_reducible exact Grow.refl _)
              | (with_reducible exact ⟨Grow.refl _, rfl⟩)
          · intro w5 hR
            have hGw : Grow W2 w5 := hR.of_drew
            have HGW := Lib.hid hGw
            have hcc := (HGW.out.block HN.out).cell
            have hgc := (HGW.out.block HGL.out).cell
            clear hR hGw
            simp only [depV]
            rintro _ rfl
            try go_simp
            all_goals first
              | (with_reducible exact Grow.refl _)
              | (with_reducible exact ⟨Grow.refl _, rfl⟩)
          · intro w5 hR
            have hGw : Grow W2 w5 := hR.of_drew
            have HGW := Lib.hid hGw
            have hcc := (HGW.out.block HN.out).cell
            have hgc := (HGW.out.block HGL.out).cell
            clear hR hGw
            simp only [depV]
            rintro _ rfl
            try go_simp
            all_goals first
              | (with_reducible exact Grow.refl _)
              | (with_reducible exact ⟨Grow.refl _, rfl⟩)
          · intro w5 hR
            have hGw : Grow W2 w5 := hR.of_drew
            have HGW := Lib.hid hGw
            have hcc := (HGW.out.block HN.out).cell
            have hgc := (HGW.out.block HGL.out).cell
            clear hR hGw
            simp only [depV]
            rintro _ rfl
            rintro _ rfl
            try go_simp
            all_goals first
              | (with_reducible exact Grow.refl _)
              | (with_reducible exact ⟨Grow.refl _, rfl⟩)
          · intro w5 hR
            have hGw : Grow W2 w5 := hR.of_drew
            have HGW := Lib.hid hGw
            have hcc := (HGW.out.block HN.out).cell
            have hgc := (HGW.out.block HGL.out).cell
            clear hR hGw
            simp only [depV]
            rintro _ rfl
            try go_simp
            all_goals first
              | (with_reducible exact Grow.refl _)
              | (with_reducible exact ⟨Grow.refl _, rfl⟩)
          · intro w5 hR
            have hGw : Grow W2 w5 := hR.of_drew
            have HGW := Lib.hid hGw
            have hcc := (HGW.out.block HN.out).cell
            have hgc := (HGW.out.block HGL.out).cell
            clear hR hGw
            simp only [depV]
            rintro _ rfl
            rintro _ rfl
            try go_simp
            all_goals first
              | (with_reducible exact Grow.refl _)
              | (with_reducible exact ⟨Grow.refl _, rfl⟩)
          · intro w5 hR
            have hGw : Grow W2 w5 := hR.of_drew
            have HGW := Lib.hid hGw
            have hcc := (HGW.out.block HN.out).cell
            have hgc := (HGW.out.block HGL.out).cell
            clear hR hGw
            simp only [depV]
            rintro _ rfl
            rintro _ rfl
            try go_simp
            all_goals first
              | (with_reducible exact Grow.refl _)
              | (with_reducible exact ⟨Grow.refl _, rfl⟩)
          · intro w5 hR
            have hGw : Grow W2 w5 := hR.of_drew
            have HGW := Lib.hid hGw
            have hcc := (HGW.out.block HN.out).cell
            have hgc := (HGW.out.block HGL.out).cell
            clear hR hGw
            simp only [depV]
            rintro _ rfl
            rintro _ rfl
            try go_simp
            all_goals first
              | (with_reducible exact Grow.refl _)
              | (with_reducible exact ⟨Grow.refl _, rfl⟩)
          · intro w5 hR
            have hGw : Grow W2 w5 := hR.of_drew
            have HGW := Lib.hid hGw
            have hcc := (HGW.out.block HN.out).cell
            have hgc := (HGW.out.block HGL.out).cell
            clear hR hGw
            simp only [depV]
            rintro _ rfl
            rintro _ rfl
            rintro _ rfl
            try go_simp
            all_goals first
              | (with_reducible exact Grow.refl _)
              | (with_reducible exact ⟨Grow.refl _, rfl⟩)
          · intro w5 hR
            have hGw : Grow W2 w5 := hR.of_drew
            have HGW := Lib.hid hGw
            have hcc := (HGW.out.block HN.out).cell
            have hgc := (HGW.out.block HGL.out).cell
            clear hR hGw
            simp only [depV]
            rintro _ rfl
            rintro _ rfl
            try go_simp
            all_goals first
              | (with_reducible exact Grow.refl _)
              | (with_reducible exact ⟨Grow.refl _, rfl⟩)
          · intro w5 hR
            have hGw : Grow W2 w5 := hR.of_drew
            have HGW := Lib.hid hGw
            have hcc := (HGW.out.block HN.out).cell
            have hgc := (HGW.out.block HGL.out).cell
            clear hR hGw
            simp only [depV]
            rintro _ rfl
            rintro _ rfl
            try go_simp
            all_goals first
              | (with_reducible exact Grow.refl _)
              | (with_reducible exact ⟨Grow.refl _, rfl⟩)
          · intro w5 hR
            have hGw : Grow W2 w5 := hR.of_drew
            have HGW := Lib.hid hGw
            have hcc := (HGW.out.block HN.out).cell
            have hgc := (HGW.out.block HGL.out).cell
            clear hR hGw
            simp only [depV]
            rintro _ rfl
            try go_simp
            all_goals first
              | (with_reducible exact Grow.refl _)
              | (with_reducible exact ⟨Grow.refl _, rfl⟩)
          · intro w5 hR
            have hGw : Grow W2 w5 := hR.of_drew
            have HGW := Lib.hid hGw
            have hcc := (HGW.out.block HN.out).cell
            have hgc := (HGW.out.block HGL.out).cell
            clear hR hGw
            simp only [depV]
            rintro _ rfl
            try go_simp
            all_goals first
              | (with_reducible exact Grow.refl _)
              | (with_reducible exact ⟨Grow.refl _, rfl⟩)
          · intro w5 hR
            have hGw : Grow W2 w5 := hR.of_drew
            have HGW := Lib.hid hGw
            have hcc := (HGW.out.block HN.out).cell
            have hgc := (HGW.out.block HGL.out).cell
            clear hR hGw
            simp only [depV]
            rintro _ rfl
            rintro _ rfl
            try go_simp
            all_goals first
              | (with_reducible exact Grow.refl _)
              | (with_reducible exact ⟨Grow.refl _, rfl⟩)
          · intro w5 hR
            have hGw : Grow W2 w5 := hR.of_drew
            have HGW := Lib.hid hGw
            have hcc := (HGW.out.block HN.out).cell
            have hgc := (HGW.out.block HGL.out).cell
            clear hR hGw
            simp only [depV]
            rintro _ rfl
            rintro _ rfl
            try go_simp
            all_goals first
              | (with_reducible exact Grow.refl _)
              | (with_reducible exact ⟨Grow.refl _, rfl⟩)
          · intro w5 hR
            have hGw : Grow W2 w5 := hR.of_drew
            have HGW := Lib.hid hGw
            have hcc := (HGW.out.block HN.out).cell
            have hgc := (HGW.out.block HGL.out).cell
            clear hR hGw
            simp only [depV]
            rintro _ rfl
            rintro _ rfl
            try go_simp
            all_goals first
              | (with_reducible exact Grow.refl _)
              | (with_reducible exact ⟨Grow.refl _, rfl⟩)
          · intro w5 hR
            have hGw : Grow W2 w5 := hR.of_drew
            have HGW := Lib.hid hGw
            have hcc := (HGW.out.block HN.out).cell
            have hgc := (HGW.out.block HGL.out).cell
            clear hR hGw
            simp only [depV]
            rintro _ rfl
            try go_simp
            all_goals first
              | (with_reducible exact Grow.refl _)
              | (with_reducible exact ⟨Grow.refl _, rfl⟩)
          · intro w5 hR
            have hGw : Grow W2 w5 := hR.of_drew
            have HGW := Lib.hid hGw
            have hcc := (HGW.out.block HN.out).cell
            have hgc := (HGW.out.block HGL.out).cell
            clear hR hGw
            simp only [depV]
            rintro _ rfl
            try go_simp
            all_goals first
              | (with_reducible exact Grow.refl _)
              | (with_reducible exact ⟨Grow.refl _, rfl⟩)
          · intro w5 hR
            have hGw : Grow W2 w5 := hR.of_drew
            have HGW := Lib.hid hGw
            have hcc := (HGW.out.block HN.out).cell
            have hgc := (HGW.out.block HGL.out).cell
            clear hR hGw
            simp only [depV]
            rintro _ rfl
            rintro _ rfl
            try go_simp
            all_goals first
              | (with_reducible exact Grow.refl _)
              | (with_reducible exact ⟨Grow.refl _, rfl⟩)
          · intro w5 hR
            have hGw : Grow W2 w5 := hR.of_drew
            have HGW := Lib.hid hGw
            have hcc := (HGW.out.block HN.out).cell
            have hgc := (HGW.out.block HGL.out).cell
            clear hR hGw
            simp only [depV]
            rintro _ rfl
            try go_simp
            all_goals first
              | (with_reducible exact Grow.refl _)
              | (with_reducible exact ⟨Grow.refl _, rfl⟩)
          · intro w5 hR
            have hGw : Grow W2 w5 := hR.of_drew
            have HGW := Lib.hid hGw
            have hcc := (HGW.out.block HN.out).cell
            have hgc := (HGW.out.block HGL.out).cell
            clear hR hGw
            simp only [depV]
            rintro _ rfl
            rintro _ rfl
            try go_simp
            all_goals first
              | (with_reducible exact Grow.refl _)
              | (with_reducible exact ⟨Grow.refl _, rfl⟩)
          · intro w5 hR
            have hGw : Grow W2 w5 := hR.of_drew
            have HGW := Lib.hid hGw
            have hcc := (HGW.out.block HN.out).cell
            have hgc := (HGW.out.block HGL.out).cell
            clear hR hGw
            simp only [depV]
            rintro _ rfl
            rintro _ rfl
            rintro _ rfl
            try go_simp
            all_goals first
              | (with_reducible exact Grow.refl _)
              | (with_reducible exact ⟨Grow.refl _, rfl⟩)
          · intro w5 hR
            have hGw : Grow W2 w5 := hR.of_drew
            have HGW := Lib.hid hGw
            have hcc := (HGW.out.block HN.out).cell
            have hgc := (HGW.out.block HGL.out).cell
            clear hR hGw
            simp only [depV]
            rintro _ rfl
            rintro _ rfl
            try go_simp
            all_goals first
              | (with_reducible exact Grow.refl _)
              | (with_reducible exact ⟨Grow.refl _, rfl⟩)
          · intro w5 hR
            have hGw : Grow W2 w5 := hR.of_drew
            have HGW := Lib.hid hGw
            have hcc := (HGW.out.block HN.out).cell
            have hgc := (HGW.out.block HGL.out).cell
            clear hR hGw
            simp only [depV]
            rintro _ rfl
            try go_simp
            all_goals first
              | (with_reducible exact Grow.refl _)
              | (with_reducible exact ⟨Grow.refl _, rfl⟩)
          · intro w5 hR
            have hGw : Grow W2 w5 := hR.of_drew
            have HGW := Lib.hid hGw
            have hcc := (HGW.out.block HN.out).cell
            have hgc := (HGW.out.block HGL.out).cell
            clear hR hGw
            simp only [depV]
            rintro _ rfl
            try go_simp
            all_goals first
              | (with_reducible exact Grow.refl _)
              | (with_reducible exact ⟨Grow.refl _, rfl⟩)
          · intro w5 hR
            have hGw : Grow W2 w5 := hR.of_drew
            have HGW := Lib.hid hGw
            have hcc := (HGW.out.block HN.out).cell
            have hgc := (HGW.out.block HGL.out).cell
            clear hR hGw
            simp only [depV]
            rintro _ rfl
            rintro _ rfl
            try go_simp
            all_goals first
              | (with_reducible exact Grow.refl _)
              | (with_reducible exact ⟨Grow.refl _, rfl⟩)
          · intro w5 hR
            have hGw : Grow W2 w5 := hR.of_drew
            have HGW := Lib.hid hGw
            have hcc := (HGW.out.block HN.out).cell
            have hgc := (HGW.out.block HGL.out).cell
            clear hR hGw
            simp only [depV]
            rintro _ rfl
            try go_simp
            all_goals first
              | (with_reducible exact Grow.refl _)
              | (with_reducible exact ⟨Grow.refl _, rfl⟩)
          · intro w5 hR
            have hGw : Grow W2 w5 := hR.of_drew
            have HGW := Lib.hid hGw
            have hcc := (HGW.out.block HN.out).cell
            have hgc := (HGW.out.block HGL.out).cell
            clear hR hGw
            simp only [depV]
            rintro _ rfl
            rintro _ rfl
            try go_simp
            all_goals first
              | (with_reducible exact Grow.refl _)
              | (with_reducible exact ⟨Grow.refl _, rfl⟩)
          · intro w5 hR
            have hGw : Grow W2 w5 := hR.of_drew
            have HGW := Lib.hid hGw
            have hcc := (HGW.out.block HN.out).cell
            have hgc := (HGW.out.block HGL.out).cell
            clear hR hGw
            simp only [depV]
            rintro _ rfl
            try go_simp
            all_goals first
              | (with_reducible exact Grow.refl _)
              | (with_reducible exact ⟨Grow.refl _, rfl⟩)
          · intro w5 hR
            have hGw : Grow W2 w5 := hR.of_drew
            have HGW := Lib.hid hGw
            have hcc := (HGW.out.block HN.out).cell
            have hgc := (HGW.out.block HGL.out).cell
            clear hR hGw
            simp only [depV]
            rintro _ rfl
            rintro _ rfl
            try go_simp
            all_goals first
              | (with_reducible exact Grow.refl _)
              | (with_reducible exact ⟨Grow.refl _, rfl⟩)
          · intro w5 hR
            have hGw : Grow W2 w5 := hR.of_drew
            have HGW := Lib.hid hGw
            have hcc := (HGW.out.block HN.out).cell
            have hgc := (HGW.out.block HGL.out).cell
            clear hR hGw
            simp only [depV]
            rintro _ rfl
            rintro _ rfl
            rintro _ rfl
            try go_simp
            all_goals first
              | (with_reducible exact Grow.refl _)
              | (with_reducible exact ⟨Grow.refl _, rfl⟩)
          · intro w5 hR
            have hGw : Grow W2 w5 := hR.of_drew
            have HGW := Lib.hid hGw
            have hcc := (HGW.out.block HN.out).cell
            have hgc := (HGW.out.block HGL.out).cell
            clear hR hGw
            simp only [depV]
            rintro _ rfl
            rintro _ rfl
            try go_simp
            all_goals first
              | (with_reducible exact Grow.refl _)
              | (with_reducible exact ⟨Grow.refl _, rfl⟩)
          · intro w5 hR
            have hGw : Grow W2 w5 := hR.of_drew
            have HGW := Lib.hid hGw
            have hcc := (HGW.out.block HN.out).cell
            have hgc := (HGW.out.block HGL.out).cell
            clear hR hGw
            simp only [depV]
            rintro _ rfl
            rintro _ rfl
            rintro _ rfl
            try go_simp
            all_goals first
              | (with_reducible exact Grow.refl _)
              | (with_reducible exact ⟨Grow.refl _, rfl⟩)
          · intro w5 hR
            have hGw : Grow W2 w5 := hR.of_drew
            have HGW := Lib.hid hGw
            have hcc := (HGW.out.block HN.out).cell
            have hgc := (HGW.out.block HGL.out).cell
            clear hR hGw
            simp only [depV]
            rintro _ rfl
            rintro _ rfl
            try go_simp
            all_goals first
              | (with_reducible exact Grow.refl _)
              | (with_reducible exact ⟨Grow.refl _, rfl⟩)
          · intro w5 hR
            have hGw : Grow W2 w5 := hR.of_drew
            have HGW := Lib.hid hGw
            have hcc := (HGW.out.block HN.out).cell
            have hgc := (HGW.out.block HGL.out).cell
            clear hR hGw
            simp only [depV]
            rintro _ rfl
            try go_simp
            all_goals first
              | (with_reducible exact Grow.refl _)
              | (with_reducible exact ⟨Grow.refl _, rfl⟩)
          · intro w5 hR
            have hGw : Grow W2 w5 := hR.of_drew
            have HGW := Lib.hid hGw
            have hcc := (HGW.out.block HN.out).cell
            have hgc := (HGW.out.block HGL.out).cell
            clear hR hGw
            simp only [depV]
            rintro _ rfl
            try go_simp
            all_goals first
              | (with_reducible exact Grow.refl _)
              | (with_reducible exact ⟨Grow.refl _, rfl⟩)
          · intro w5 hR
            have hGw : Grow W2 w5 := hR.of_drew
            have HGW := Lib.hid hGw
            have hcc := (HGW.out.block HN.out).cell
            have hgc := (HGW.out.block HGL.out).cell
            clear hR hGw
            simp only [depV]
            rintro _ rfl
            rintro _ rfl
            try go_simp
            all_goals first
              | (with_reducible exact Grow.refl _)
              | (with_reducible exact ⟨Grow.refl _, rfl⟩)
          · intro w5 hR
            have hGw : Grow W2 w5 := hR.of_drew
            have HGW := Lib.hid hGw
            have hcc := (HGW.out.block HN.out).cell
            have hgc := (HGW.out.block HGL.out).cell
            clear hR hGw
            simp only [depV]
            rintro _ rfl
            try go_simp
            all_goals first
              | (with_reducible exact Grow.refl _)
              | (with_reducible exact ⟨Grow.refl _, rfl⟩)
          · intro w5 hR
            have hGw : Grow W2 w5 := hR.of_drew
            have HGW := Lib.hid hGw
            have hcc := (HGW.out.block HN.out).cell
            have hgc := (HGW.out.block HGL.out).cell
            clear hR hGw
            simp only [depV]
            rintro _ rfl
            rintro _ rfl
            try go_simp
            all_goals first
              | (with_reducible exact Grow.refl _)
              | (with_reducible exact ⟨Grow.refl _, rfl⟩)
          · intro w5 hR
            have hGw : Grow W2 w5 := hR.of_drew
            have HGW := Lib.hid hGw
            have hcc := (HGW.out.block HN.out).cell
            have hgc := (HGW.out.block HGL.out).cell
            clear hR hGw
            simp only [depV]
            rintro _ rfl
            rintro _ rfl
            try go_simp
            all_goals first
              | (with_reducible exact Grow.refl _)
              | (with_reducible exact ⟨Grow.refl _, rfl⟩)
          · intro w5 hR
            have hGw : Grow W2 w5 := hR.of_drew
            have HGW := Lib.hid hGw
            have hcc := (HGW.out.block HN.out).cell
            have hgc := (HGW.out.block HGL.out).cell
            clear hR hGw
            simp only [depV]
            rintro _ rfl
            rintro _ rfl
            try go_simp
            all_goals first
              | (with_reducible exact Grow.refl _)
              | (with_reducible exact ⟨Grow.refl _, rfl⟩)
          · intro w5 hR
            have hGw : Grow W2 w5 := hR.of_drew
            have HGW := Lib.hid hGw
            have hcc := (HGW.out.block HN.out).cell
            have hgc := (HGW.out.block HGL.out).cell
            clear hR hGw
            simp only [depV]
            rintro _ rfl
            rintro _ rfl
            try go_simp
            all_goals first
              | (with_reducible exact Grow.refl _)
              | (with_reducible exact ⟨Grow.refl _, rfl⟩)
          · intro w5 hR
            have hGw : Grow W2 w5 := hR.of_drew
            have HGW := Lib.hid hGw
            have hcc := (HGW.out.block HN.out).cell
            have hgc := (HGW.out.block HGL.out).cell
            clear hR hGw
            simp only [depV]
            rintro _ rfl
            rintro _ rfl
            rintro _ rfl
            try go_simp
            all_goals first
              | (with_reducible exact Grow.refl _)
              | (with_reducible exact ⟨Grow.refl _, rfl⟩)
          · intro w5 hR
            have hGw : Grow W2 w5 := hR.of_drew
            have HGW := Lib.hid hGw
            have hcc := (HGW.out.block HN.out).cell
            have hgc := (HGW.out.block HGL.out).cell
            clear hR hGw
            simp only [depV]
            rintro _ rfl
            rintro _ rfl
            try go_simp
            all_goals first
              | (with_reducible exact Grow.refl _)
              | (with_reducible exact ⟨Grow.refl _, rfl⟩)
          · intro w5 hR
            have hGw : Grow W2 w5 := hR.of_drew
            have HGW := Lib.hid hGw
            have hcc := (HGW.out.block HN.out).cell
            have hgc := (HGW.out.block HGL.out).cell
            clear hR hGw
            simp only [depV]
            rintro _ rfl
            rintro _ rfl
            try go_simp
            all_goals first
              | (with_reducible exact Grow.refl _)
              | (with_reducible exact ⟨Grow.refl _, rfl⟩)
        · intro w5 hR
          have HG5 : Hid (Grow W2 w5) := Lib.hid hR.of_drew
          clear hR
          simp only [finVC, List.take_succ_cons, List.take_zero, List.drop_succ_cons, List.drop_zero]
          rintro _ rfl
          rintro _ rfl
          rintro _ rfl
          rintro _ rfl
          rintro _ rfl
          rintro _ rfl
          rintro _ rfl
          rintro _ rfl
          rintro _ rfl
          rintro _ rfl
          rintro _ rfl
          rintro _ rfl
          rintro _ rfl
          rintro _ rfl
          rintro _ rfl
          rintro _ rfl
          rintro _ rfl
          rintro _ rfl
          rintro _ rfl
          rintro _ rfl
          rintro _ rfl
          rintro _ rfl
          rintro _ rfl
          rintro _ rfl
          rintro _ rfl
          rintro _ rfl
          rintro _ rfl
          rintro _ rfl
          rintro _ rfl
          rintro _ rfl
          rintro _ rfl
          rintro _ rfl
          rintro _ rfl
          rintro _ rfl
          rintro _ rfl
          rintro _ rfl
          rintro _ rfl
          rintro _ rfl
          rintro _ rfl
          rintro _ rfl
          rintro _ rfl
          rintro _ rfl
          rintro _ rfl
          rintro _ rfl
          rintro _ rfl
          rintro _ rfl
          rintro _ rfl
          rintro _ rfl
          rintro _ rfl
          rintro _ rfl
          rintro _ rfl
          rintro _ rfl
          rintro _ rfl
          rintro _ rfl
          simp only [Act.put, List.setIfInBounds_toArray, List.set_cons_succ, List.set_cons_zero]
          have HOK : Hid (okx = false) := Lib.hid (by rw [HOG.out]; simp)
          go_wp2
          go_ret
          exact ⟨ret_bool (HNO.out HOK.out).symm, HG2.out.trans HG5.out⟩
      · cases a2
        · skip
          refine wp_region_lit 54 [[], [(0, 17)], [(1, 18)], [(2, 19)], [(3, 20)], [(4, 21)], [(4, 21), (5, 22)], [(4, 21), (6, 23)], [(4, 21), (7, 24)], [(4, 21), (8, 25)], [(9, 26)], [(10, 27)], [(10, 27), (11, 28)], [(10, 27)], [(10, 27), (13, 30)], [(10, 27), (14, 31)], [(10, 27), (15, 32)], [(10, 27), (12, 29), (16, 33)], [(10, 27), (17, 34)], [(10, 27), (18, 35)], [(19, 36)], [(20, 37)], [(20, 37), (21, 38)], [(20, 37), (22, 39)], [(20, 37), (23, 40)], [(24, 41)], [(25, 42)], [(25, 42), (26, 43)], [(25, 42)], [(25, 42), (28, 45)], [(25, 42), (27, 44), (29, 46)], [(25, 42), (30, 47)], [(31, 48)], [(32, 49)], [(32, 49), (33, 50)], [(32, 49)], [(32, 49), (35, 52)], [(32, 49)], [(32, 49), (37, 54)], [(32, 49), (36, 53), (38, 55)], [(32, 49), (39, 56)], [(32, 49), (34, 51), (40, 57)], [(32, 49), (41, 58)], [(42, 59)], [(43, 60)], [(43, 60), (44, 61)], [(43, 60)], [(43, 60), (46, 63)], [(43, 60), (47, 64)], [(43, 60), (48, 65)], [(43, 60), (49, 66)], [(43, 60), (45, 62), (50, 67)], [(43, 60), (51, 68)], [(43, 60), (52, 69)]] Grow (fun qi v w' => match qi with
              | 0 => v = .pointer (some ⟨bg, 0, none⟩)
              | 1 => v = .int .i64 author
              | 2 => v = .bool true
              | 3 => v = .bool false
              | 4 => v = .bool false
              | 5 => v = .pointer (some ⟨bg, 1, none⟩)
              | 6 => v = .int .i64 stamp
              | 7 => v = .bool false
              | 8 => v = .bool true
              | 9 => v = .bool true
              | 10 => v = .bool true
              | 11 => v = undef
              | 12 => v = undef
              | 13 => v = undef
              | 14 => v = undef
              | 15 => v = undef
              | 16 => v = undef
              | 17 => v = undef
              | 18 => v = undef
              | 19 => v = .bool true
              | 20 => v = .bool true
              | 21 => v = undef
              | 22 => v = undef
              | 23 => v = undef
              | 24 => v = .bool true
              | 25 => v = .bool true
              | 26 => v = undef
              | 27 => v = undef
              | 28 => v = undef
              | 29 => v = undef
              | 30 => v = undef
              | 31 => v = .bool true
              | 32 => v = .bool true
              | 33 => v = undef
              | 34 => v = undef
              | 35 => v = undef
              | 36 => v = undef
              | 37 => v = undef
              | 38 => v = undef
              | 39 => v = undef
              | 40 => v = undef
              | 41 => v = undef
              | 42 => v = .bool true
              | 43 => v = .bool true
              | 44 => v = undef
              | 45 => v = undef
              | 46 => v = undef
              | 47 => v = undef
              | 48 => v = undef
              | 49 => v = undef
              | 50 => v = undef
              | 51 => v = undef
              | 52 => v = undef
              | 53 => v = .bool true
              | _ => False) (by kernel_rfl) (by kernel_rfl) (fun _ _ _ => Grow.trans) Grow.refl ?_ ?_ ?_
          · intro i v y y' h k
            match i, h with
            | 0, h | 1, h | 2, h | 3, h | 4, h | 5, h | 6, h | 7, h | 8, h | 9, h | 10, h | 11, h | 12, h | 13, h | 14, h | 15, h | 16, h | 17, h | 18, h | 19, h | 20, h | 21, h | 22, h | 23, h | 24, h | 25, h | 26, h | 27, h | 28, h | 29, h | 30, h | 31, h | 32, h | 33, h | 34, h | 35, h | 36, h | 37, h | 38, h | 39, h | 40, h | 41, h | 42, h | 43, h | 44, h | 45, h | 46, h | 47, h | 48, h | 49, h | 50, h | 51, h | 52, h | 53, h => exact h
          · simp only [StepsLit, List.take_succ_cons, List.take_zero]
            refine ⟨?_, ?_, ?_, ?_, ?_, ?_, ?_, ?_, ?_, ?_, ?_, ?_, ?_, ?_, ?_, ?_, ?_, ?_, ?_, ?_, ?_, ?_, ?_, ?_, ?_, ?_, ?_, ?_, ?_, ?_, ?_, ?_, ?_, ?_, ?_, ?_, ?_, ?_, ?_, ?_, ?_, ?_, ?_, ?_, ?_, ?_, ?_, ?_, ?_, ?_, ?_, ?_, ?_, ?_, trivial⟩
            · intro w5 hR
              have hGw : Grow W2 w5 := hR.of_drew
              have HGW := Lib.hid hGw
              have hcc := (HGW.out.block HN.out).cell
              have hgc := (HGW.out.block HGL.out).cell
              clear hR hGw
              simp only [depV]
              try go_simp
              all_goals first
                | (with_reducible exact Grow.refl _)
                | (with_reducible exact ⟨Grow.refl _, rfl⟩)
            · intro w5 hR
              have hGw : Grow W2 w5 := hR.of_drew
              have HGW := Lib.hid hGw
              have hcc := (HGW.out.block HN.out).cell
              have hgc := (HGW.out.block HGL.out).cell
              clear hR hGw
              simp only [depV]
              rintro _ rfl
              try go_simp
              all_goals first
                | (with_reducible exact Grow.refl _)
                | (with_reducible exact ⟨Grow.refl _, rfl⟩)
            · intro w5 hR
              have hGw : Grow W2 w5 := hR.of_drew
              have HGW := Lib.hid hGw
              have hcc := (HGW.out.block HN.out).cell
              have hgc := (HGW.out.block HGL.out).cell
              clear hR hGw
              simp only [depV]
              rintro _ rfl
              try go_simp
              refine (HA.out _).mono ?_
              rintro e w6 ⟨rfl, rfl⟩
              exact ⟨Grow.refl _, rfl⟩
            · intro w5 hR
              have hGw : Grow W2 w5 := hR.of_drew
              have HGW := Lib.hid hGw
              have hcc := (HGW.out.block HN.out).cell
              have hgc := (HGW.out.block HGL.out).cell
              clear hR hGw
              simp only [depV]
              rintro _ rfl
              try go_simp
              all_goals first
                | (with_reducible exact Grow.refl _)
                | (with_reducible exact ⟨Grow.refl _, rfl⟩)
            · intro w5 hR
              have hGw : Grow W2 w5 := hR.of_drew
              have HGW := Lib.hid hGw
              have hcc := (HGW.out.block HN.out).cell
              have hgc := (HGW.out.block HGL.out).cell
              clear hR hGw
              simp only [depV]
              rintro _ rfl
              try go_simp
              all_goals first
                | (with_reducible exact Grow.refl _)
                | (with_reducible exact ⟨Grow.refl _, rfl⟩)
            · intro w5 hR
              have hGw : Grow W2 w5 := hR.of_drew
              have HGW := Lib.hid hGw
              have hcc := (HGW.out.block HN.out).cell
              have hgc := (HGW.out.block HGL.out).cell
              clear hR hGw
              simp only [depV]
              rintro _ rfl
              try go_simp
              all_goals first
                | (with_reducible exact Grow.refl _)
                | (with_reducible exact ⟨Grow.refl _, rfl⟩)
            · intro w5 hR
              have hGw : Grow W2 w5 := hR.of_drew
              have HGW := Lib.hid hGw
              have hcc := (HGW.out.block HN.out).cell
              have hgc := (HGW.out.block HGL.out).cell
              clear hR hGw
              simp only [depV]
              rintro _ rfl
              rintro _ rfl
              try go_simp
              all_goals first
                | (with_reducible exact Grow.refl _)
                | (with_reducible exact ⟨Grow.refl _, rfl⟩)
            · intro w5 hR
              have hGw : Grow W2 w5 := hR.of_drew
              have HGW := Lib.hid hGw
              have hcc := (HGW.out.block HN.out).cell
              have hgc := (HGW.out.block HGL.out).cell
              clear hR hGw
              simp only [depV]
              rintro _ rfl
              rintro _ rfl
              try go_simp
              refine (HB.out _).mono ?_
              rintro e w6 ⟨rfl, rfl⟩
              exact ⟨Grow.refl _, rfl⟩
            · intro w5 hR
              have hGw : Grow W2 w5 := hR.of_drew
              have HGW := Lib.hid hGw
              have hcc := (HGW.out.block HN.out).cell
              have hgc := (HGW.out.block HGL.out).cell
              clear hR hGw
              simp only [depV]
              rintro _ rfl
              rintro _ rfl
              try go_simp
              all_goals first
                | (with_reducible exact Grow.refl _)
                | (with_reducible exact ⟨Grow.refl _, rfl⟩)
            · intro w5 hR
              have hGw : Grow W2 w5 := hR.of_drew
              have HGW := Lib.hid hGw
              have hcc := (HGW.out.block HN.out).cell
              have hgc := (HGW.out.block HGL.out).cell
              clear hR hGw
              simp only [depV]
              rintro _ rfl
              rintro _ rfl
              try go_simp
              all_goals first
                | (with_reducible exact Grow.refl _)
                | (with_reducible exact ⟨Grow.refl _, rfl⟩)
            · intro w5 hR
              have hGw : Grow W2 w5 := hR.of_drew
              have HGW := Lib.hid hGw
              have hcc := (HGW.out.block HN.out).cell
              have hgc := (HGW.out.block HGL.out).cell
              clear hR hGw
              simp only [depV]
              rintro _ rfl
              try go_simp
              all_goals first
                | (with_reducible exact Grow.refl _)
                | (with_reducible exact ⟨Grow.refl _, rfl⟩)
            · intro w5 hR
              have hGw : Grow W2 w5 := hR.of_drew
              have HGW := Lib.hid hGw
              have hcc := (HGW.out.block HN.out).cell
              have hgc := (HGW.out.block HGL.out).cell
              clear hR hGw
              simp only [depV]
              rintro _ rfl
              try go_simp
              all_goals first
                | (with_reducible exact Grow.refl _)
                | (with_reducible exact ⟨Grow.refl _, rfl⟩)
            · intro w5 hR
              have hGw : Grow W2 w5 := hR.of_drew
              have HGW := Lib.hid hGw
              have hcc := (HGW.out.block HN.out).cell
              have hgc := (HGW.out.block HGL.out).cell
              clear hR hGw
              simp only [depV]
              rintro _ rfl
              rintro _ rfl
              try go_simp
              all_goals first
                | (with_reducible exact Grow.refl _)
                | (with_reducible exact ⟨Grow.refl _, rfl⟩)
            · intro w5 hR
              have hGw : Grow W2 w5 := hR.of_drew
              have HGW := Lib.hid hGw
              have hcc := (HGW.out.block HN.out).cell
              have hgc := (HGW.out.block HGL.out).cell
              clear hR hGw
              simp only [depV]
              rintro _ rfl
              try go_simp
              all_goals first
                | (with_reducible exact Grow.refl _)
                | (with_reducible exact ⟨Grow.refl _, rfl⟩)
            · intro w5 hR
              have hGw : Grow W2 w5 := hR.of_drew
              have HGW := Lib.hid hGw
              have hcc := (HGW.out.block HN.out).cell
              have hgc := (HGW.out.block HGL.out).cell
              clear hR hGw
              simp only [depV]
              rintro _ rfl
              rintro _ rfl
              try go_simp
              all_goals first
                | (with_reducible exact Grow.refl _)
                | (with_reducible exact ⟨Grow.refl _, rfl⟩)
            · intro w5 hR
              have hGw : Grow W2 w5 := hR.of_drew
              have HGW := Lib.hid hGw
              have hcc := (HGW.out.block HN.out).cell
              have hgc := (HGW.out.block HGL.out).cell
              clear hR hGw
              simp only [depV]
              rintro _ rfl
              rintro _ rfl
              try go_simp
              all_goals first
                | (with_reducible exact Grow.refl _)
                | (with_reducible exact ⟨Grow.refl _, rfl⟩)
            · intro w5 hR
              have hGw : Grow W2 w5 := hR.of_drew
              have HGW := Lib.hid hGw
              have hcc := (HGW.out.block HN.out).cell
              have hgc := (HGW.out.block HGL.out).cell
              clear hR hGw
              simp only [depV]
              rintro _ rfl
              rintro _ rfl
              try go_simp
              all_goals first
                | (with_reducible exact Grow.refl _)
                | (with_reducible exact ⟨Grow.refl _, rfl⟩)
            · intro w5 hR
              have hGw : Grow W2 w5 := hR.of_drew
              have HGW := Lib.hid hGw
              have hcc := (HGW.out.block HN.out).cell
              have hgc := (HGW.out.block HGL.out).cell
              clear hR hGw
              simp only [depV]
              rintro _ rfl
              rintro _ rfl
              rintro _ rfl
              try go_simp
              all_goals first
                | (with_reducible exact Grow.refl _)
                | (with_reducible exact ⟨Grow.refl _, rfl⟩)
            · intro w5 hR
              have hGw : Grow W2 w5 := hR.of_drew
              have HGW := Lib.hid hGw
              have hcc := (HGW.out.block HN.out).cell
              have hgc := (HGW.out.block HGL.out).cell
              clear hR hGw
              simp only [depV]
              rintro _ rfl
              rintro _ rfl
              try go_simp
              all_goals first
                | (with_reducible exact Grow.refl _)
                | (with_reducible exact ⟨Grow.refl _, rfl⟩)
            · intro w5 hR
              have hGw : Grow W2 w5 := hR.of_drew
              have HGW := Lib.hid hGw
              have hcc := (HGW.out.block HN.out).cell
              have hgc := (HGW.out.block HGL.out).cell
              clear hR hGw
              simp only [depV]
              rintro _ rfl
              rintro _ rfl
              try go_simp
              all_goals first
                | (with_reducible exact Grow.refl _)
                | (with_reducible exact ⟨Grow.refl _, rfl⟩)
            · intro w5 hR
              have hGw : Grow W2 w5 := hR.of_drew
              have HGW := Lib.hid hGw
              have hcc := (HGW.out.block HN.out).cell
              have hgc := (HGW.out.block HGL.out).cell
              clear hR hGw
              simp only [depV]
              rintro _ rfl
              try go_simp
              all_goals first
                | (with_reducible exact Grow.refl _)
                | (with_reducible exact ⟨Grow.refl _, rfl⟩)
            · intro w5 hR
              have hGw : Grow W2 w5 := hR.of_drew
              have HGW := Lib.hid hGw
              have hcc := (HGW.out.block HN.out).cell
              have hgc := (HGW.out.block HGL.out).cell
              clear hR hGw
              simp only [depV]
              rintro _ rfl
              try go_simp
              all_goals first
                | (with_reducible exact Grow.refl _)
                | (with_reducible exact ⟨Grow.refl _, rfl⟩)
            · intro w5 hR
              have hGw : Grow W2 w5 := hR.of_drew
              have HGW := Lib.hid hGw
              have hcc := (HGW.out.block HN.out).cell
              have hgc := (HGW.out.block HGL.out).cell
              clear hR hGw
              simp only [depV]
              rintro _ rfl
              rintro _ rfl
              try go_simp
              all_goals first
                | (with_reducible exact Grow.refl _)
                | (with_reducible exact ⟨Grow.refl _, rfl⟩)
            · intro w5 hR
              have hGw : Grow W2 w5 := hR.of_drew
              have HGW := Lib.hid hGw
              have hcc := (HGW.out.block HN.out).cell
              have hgc := (HGW.out.block HGL.out).cell
              clear hR hGw
              simp only [depV]
              rintro _ rfl
              rintro _ rfl
              try go_simp
              all_goals first
                | (with_reducible exact Grow.refl _)
                | (with_reducible exact ⟨Grow.refl _, rfl⟩)
            · intro w5 hR
              have hGw : Grow W2 w5 := hR.of_drew
              have HGW := Lib.hid hGw
              have hcc := (HGW.out.block HN.out).cell
              have hgc := (HGW.out.block HGL.out).cell
              clear hR hGw
              simp only [depV]
              rintro _ rfl
              rintro _ rfl
              try go_simp
              all_goals first
                | (with_reducible exact Grow.refl _)
                | (with_reducible exact ⟨Grow.refl _, rfl⟩)
            · intro w5 hR
              have hGw : Grow W2 w5 := hR.of_drew
              have HGW := Lib.hid hGw
              have hcc := (HGW.out.block HN.out).cell
              have hgc := (HGW.out.block HGL.out).cell
              clear hR hGw
              simp only [depV]
              rintro _ rfl
              try go_simp
              all_goals first
                | (with_reducible exact Grow.refl _)
                | (with_reducible exact ⟨Grow.refl _, rfl⟩)
            · intro w5 hR
              have hGw : Grow W2 w5 := hR.of_drew
              have HGW := Lib.hid hGw
              have hcc := (HGW.out.block HN.out).cell
              have hgc := (HGW.out.block HGL.out).cell
              clear hR hGw
              simp only [depV]
              rintro _ rfl
              try go_simp
              all_goals first
                | (with_reducible exact Grow.refl _)
                | (with_reducible exact ⟨Grow.refl _, rfl⟩)
            · intro w5 hR
              have hGw : Grow W2 w5 := hR.of_drew
              have HGW := Lib.hid hGw
              have hcc := (HGW.out.block HN.out).cell
              have hgc := (HGW.out.block HGL.out).cell
              clear hR hGw
              simp only [depV]
              rintro _ rfl
              rintro _ rfl
              try go_simp
              all_goals first
                | (with_reducible exact Grow.refl _)
                | (with_reducible exact ⟨Grow.refl _, rfl⟩)
            · intro w5 hR
              have hGw : Grow W2 w5 := hR.of_drew
              have HGW := Lib.hid hGw
              have hcc := (HGW.out.block HN.out).cell
              have hgc := (HGW.out.block HGL.out).cell
              clear hR hGw
              simp only [depV]
              rintro _ rfl
              try go_simp
              all_goals first
                | (with_reducible exact Grow.refl _)
                | (with_reducible exact ⟨Grow.refl _, rfl⟩)
            · intro w5 hR
              have hGw : Grow W2 w5 := hR.of_drew
              have HGW := Lib.hid hGw
              have hcc := (HGW.out.block HN.out).cell
              have hgc := (HGW.out.block HGL.out).cell
              clear hR hGw
              simp only [depV]
              rintro _ rfl
              rintro _ rfl
              try go_simp
              all_goals first
                | (with_reducible exact Grow.refl _)
                | (with_reducible exact ⟨Grow.refl _, rfl⟩)
            · intro w5 hR
              have hGw : Grow W2 w5 := hR.of_drew
              have HGW := Lib.hid hGw
              have hcc := (HGW.out.block HN.out).cell
              have hgc := (HGW.out.block HGL.out).cell
              clear hR hGw
              simp only [depV]
              rintro _ rfl
              rintro _ rfl
              rintro _ rfl
              try go_simp
              all_goals first
                | (with_reducible exact Grow.refl _)
                | (with_reducible exact ⟨Grow.refl _, rfl⟩)
            · intro w5 hR
              have hGw : Grow W2 w5 := hR.of_drew
              have HGW := Lib.hid hGw
              have hcc := (HGW.out.block HN.out).cell
              have hgc := (HGW.out.block HGL.out).cell
              clear hR hGw
              simp only [depV]
              rintro _ rfl
              rintro _ rfl
              try go_simp
              all_goals first
                | (with_reducible exact Grow.refl _)
                | (with_reducible exact ⟨Grow.refl _, rfl⟩)
            · intro w5 hR
              have hGw : Grow W2 w5 := hR.of_drew
              have HGW := Lib.hid hGw
              have hcc := (HGW.out.block HN.out).cell
              have hgc := (HGW.out.block HGL.out).cell
              clear hR hGw
              simp only [depV]
              rintro _ rfl
              try go_simp
              all_goals first
                | (with_reducible exact Grow.refl _)
                | (with_reducible exact ⟨Grow.refl _, rfl⟩)
            · intro w5 hR
              have hGw : Grow W2 w5 := hR.of_drew
              have HGW := Lib.hid hGw
              have hcc := (HGW.out.block HN.out).cell
              have hgc := (HGW.out.block HGL.out).cell
              clear hR hGw
              simp only [depV]
              rintro _ rfl
              try go_simp
              all_goals first
                | (with_reducible exact Grow.refl _)
                | (with_reducible exact ⟨Grow.refl _, rfl⟩)
            · intro w5 hR
              have hGw : Grow W2 w5 := hR.of_drew
              have HGW := Lib.hid hGw
              have hcc := (HGW.out.block HN.out).cell
              have hgc := (HGW.out.block HGL.out).cell
              clear hR hGw
              simp only [depV]
              rintro _ rfl
              rintro _ rfl
              try go_simp
              all_goals first
                | (with_reducible exact Grow.refl _)
                | (with_reducible exact ⟨Grow.refl _, rfl⟩)
            · intro w5 hR
              have hGw : Grow W2 w5 := hR.of_drew
              have HGW := Lib.hid hGw
              have hcc := (HGW.out.block HN.out).cell
              have hgc := (HGW.out.block HGL.out).cell
              clear hR hGw
              simp only [depV]
              rintro _ rfl
              try go_simp
              all_goals first
                | (with_reducible exact Grow.refl _)
                | (with_reducible exact ⟨Grow.refl _, rfl⟩)
            · intro w5 hR
              have hGw : Grow W2 w5 := hR.of_drew
              have HGW := Lib.hid hGw
              have hcc := (HGW.out.block HN.out).cell
              have hgc := (HGW.out.block HGL.out).cell
              clear hR hGw
              simp only [depV]
              rintro _ rfl
              rintro _ rfl
              try go_simp
              all_goals first
                | (with_reducible exact Grow.refl _)
                | (with_reducible exact ⟨Grow.refl _, rfl⟩)
            · intro w5 hR
              have hGw : Grow W2 w5 := hR.of_drew
              have HGW := Lib.hid hGw
              have hcc := (HGW.out.block HN.out).cell
              have hgc := (HGW.out.block HGL.out).cell
              clear hR hGw
              simp only [depV]
              rintro _ rfl
              try go_simp
              all_goals first
                | (with_reducible exact Grow.refl _)
                | (with_reducible exact ⟨Grow.refl _, rfl⟩)
            · intro w5 hR
              have hGw : Grow W2 w5 := hR.of_drew
              have HGW := Lib.hid hGw
              have hcc := (HGW.out.block HN.out).cell
              have hgc := (HGW.out.block HGL.out).cell
              clear hR hGw
              simp only [depV]
              rintro _ rfl
              rintro _ rfl
              try go_simp
              all_goals first
                | (with_reducible exact Grow.refl _)
                | (with_reducible exact ⟨Grow.refl _, rfl⟩)
            · intro w5 hR
              have hGw : Grow W2 w5 := hR.of_drew
              have HGW := Lib.hid hGw
              have hcc := (HGW.out.block HN.out).cell
              have hgc := (HGW.out.block HGL.out).cell
              clear hR hGw
              simp only [depV]
              rintro _ rfl
              rintro _ rfl
              rintro _ rfl
              try go_simp
              all_goals first
                | (with_reducible exact Grow.refl _)
                | (with_reducible exact ⟨Grow.refl _, rfl⟩)
            · intro w5 hR
              have hGw : Grow W2 w5 := hR.of_drew
              have HGW := Lib.hid hGw
              have hcc := (HGW.out.block HN.out).cell
              have hgc := (HGW.out.block HGL.out).cell
              clear hR hGw
              simp only [depV]
              rintro _ rfl
              rintro _ rfl
              try go_simp
              all_goals first
                | (with_reducible exact Grow.refl _)
                | (with_reducible exact ⟨Grow.refl _, rfl⟩)
            · intro w5 hR
              have hGw : Grow W2 w5 := hR.of_drew
              have HGW := Lib.hid hGw
              have hcc := (HGW.out.block HN.out).cell
              have hgc := (HGW.out.block HGL.out).cell
              clear hR hGw
              simp only [depV]
              rintro _ rfl
              rintro _ rfl
              rintro _ rfl
              try go_simp
              all_goals first
                | (with_reducible exact Grow.refl _)
                | (with_reducible exact ⟨Grow.refl _, rfl⟩)
            · intro w5 hR
              have hGw : Grow W2 w5 := hR.of_drew
              have HGW := Lib.hid hGw
              have hcc := (HGW.out.block HN.out).cell
              have hgc := (HGW.out.block HGL.out).cell
              clear hR hGw
              simp only [depV]
              rintro _ rfl
              rintro _ rfl
              try go_simp
              all_goals first
                | (with_reducible exact Grow.refl _)
                | (with_reducible exact ⟨Grow.refl _, rfl⟩)
            · intro w5 hR
              have hGw : Grow W2 w5 := hR.of_drew
              have HGW := Lib.hid hGw
              have hcc := (HGW.out.block HN.out).cell
              have hgc := (HGW.out.block HGL.out).cell
              clear hR hGw
              simp only [depV]
              rintro _ rfl
              try go_simp
              all_goals first
                | (with_reducible exact Grow.refl _)
                | (with_reducible exact ⟨Grow.refl _, rfl⟩)
            · intro w5 hR
              have hGw : Grow W2 w5 := hR.of_drew
              have HGW := Lib.hid hGw
              have hcc := (HGW.out.block HN.out).cell
              have hgc := (HGW.out.block HGL.out).cell
              clear hR hGw
              simp only [depV]
              rintro _ rfl
              try go_simp
              all_goals first
                | (with_reducible exact Grow.refl _)
                | (with_reducible exact ⟨Grow.refl _, rfl⟩)
            · intro w5 hR
              have hGw : Grow W2 w5 := hR.of_drew
              have HGW := Lib.hid hGw
              have hcc := (HGW.out.block HN.out).cell
              have hgc := (HGW.out.block HGL.out).cell
              clear hR hGw
              simp only [depV]
              rintro _ rfl
              rintro _ rfl
              try go_simp
              all_goals first
                | (with_reducible exact Grow.refl _)
                | (with_reducible exact ⟨Grow.refl _, rfl⟩)
            · intro w5 hR
              have hGw : Grow W2 w5 := hR.of_drew
              have HGW := Lib.hid hGw
              have hcc := (HGW.out.block HN.out).cell
              have hgc := (HGW.out.block HGL.out).cell
              clear hR hGw
              simp only [depV]
              rintro _ rfl
              try go_simp
              all_goals first
                | (with_reducible exact Grow.refl _)
                | (with_reducible exact ⟨Grow.refl _, rfl⟩)
            · intro w5 hR
              have hGw : Grow W2 w5 := hR.of_drew
              have HGW := Lib.hid hGw
              have hcc := (HGW.out.block HN.out).cell
              have hgc := (HGW.out.block HGL.out).cell
              clear hR hGw
              simp only [depV]
              rintro _ rfl
              rintro _ rfl
              try go_simp
              all_goals first
                | (with_reducible exact Grow.refl _)
                | (with_reducible exact ⟨Grow.refl _, rfl⟩)
            · intro w5 hR
              have hGw : Grow W2 w5 := hR.of_drew
              have HGW := Lib.hid hGw
              have hcc := (HGW.out.block HN.out).cell
              have hgc := (HGW.out.block HGL.out).cell
              clear hR hGw
              simp only [depV]
              rintro _ rfl
              rintro _ rfl
              try go_simp
              all_goals first
                | (with_reducible exact Grow.refl _)
                | (with_reducible exact ⟨Grow.refl _, rfl⟩)
            · intro w5 hR
              have hGw : Grow W2 w5 := hR.of_drew
              have HGW := Lib.hid hGw
              have hcc := (HGW.out.block HN.out).cell
              have hgc := (HGW.out.block HGL.out).cell
              clear hR hGw
              simp only [depV]
              rintro _ rfl
              rintro _ rfl
              try go_simp
              all_goals first
                | (with_reducible exact Grow.refl _)
                | (with_reducible exact ⟨Grow.refl _, rfl⟩)
            · intro w5 hR
              have hGw : Grow W2 w5 := hR.of_drew
              have HGW := Lib.hid hGw
              have hcc := (HGW.out.block HN.out).cell
              have hgc := (HGW.out.block HGL.out).cell
              clear hR hGw
              simp only [depV]
              rintro _ rfl
              rintro _ rfl
              try go_simp
              all_goals first
                | (with_reducible exact Grow.refl _)
                | (with_reducible exact ⟨Grow.refl _, rfl⟩)
            · intro w5 hR
              have hGw : Grow W2 w5 := hR.of_drew
              have HGW := Lib.hid hGw
              have hcc := (HGW.out.block HN.out).cell
              have hgc := (HGW.out.block HGL.out).cell
              clear hR hGw
              simp only [depV]
              rintro _ rfl
              rintro _ rfl
              rintro _ rfl
              try go_simp
              all_goals first
                | (with_reducible exact Grow.refl _)
                | (with_reducible exact ⟨Grow.refl _, rfl⟩)
            · intro w5 hR
              have hGw : Grow W2 w5 := hR.of_drew
              have HGW := Lib.hid hGw
              have hcc := (HGW.out.block HN.out).cell
              have hgc := (HGW.out.block HGL.out).cell
              clear hR hGw
              simp only [depV]
              rintro _ rfl
              rintro _ rfl
              try go_simp
              all_goals first
                | (with_reducible exact Grow.refl _)
                | (with_reducible exact ⟨Grow.refl _, rfl⟩)
            · intro w5 hR
              have hGw : Grow W2 w5 := hR.of_drew
              have HGW := Lib.hid hGw
              have hcc := (HGW.out.block HN.out).cell
              have hgc := (HGW.out.block HGL.out).cell
              clear hR hGw
              simp only [depV]
              rintro _ rfl
              rintro _ rfl
              try go_simp
              all_goals first
                | (with_reducible exact Grow.refl _)
                | (with_reducible exact ⟨Grow.refl _, rfl⟩)
          · intro w5 hR
            have HG5 : Hid (Grow W2 w5) := Lib.hid hR.of_drew
            clear hR
            simp only [finVC, List.take_succ_cons, List.take_zero, List.drop_succ_cons, List.drop_zero]
            rintro _ rfl
            rintro _ rfl
            rintro _ rfl
            rintro _ rfl
            rintro _ rfl
            rintro _ rfl
            rintro _ rfl
            rintro _ rfl
            rintro _ rfl
            rintro _ rfl
            rintro _ rfl
            rintro _ rfl
            rintro _ rfl
            rintro _ rfl
            rintro _ rfl
            rintro _ rfl
            rintro _ rfl
            rintro _ rfl
            rintro _ rfl
            rintro _ rfl
            rintro _ rfl
            rintro _ rfl
            rintro _ rfl
            rintro _ rfl
            rintro _ rfl
            rintro _ rfl
            rintro _ rfl
            rintro _ rfl
            rintro _ rfl
            rintro _ rfl
            rintro _ rfl
            rintro _ rfl
            rintro _ rfl
            rintro _ rfl
            rintro _ rfl
            rintro _ rfl
            rintro _ rfl
            rintro _ rfl
            rintro _ rfl
            rintro _ rfl
            rintro _ rfl
            rintro _ rfl
            rintro _ rfl
            rintro _ rfl
            rintro _ rfl
            rintro _ rfl
            rintro _ rfl
            rintro _ rfl
            rintro _ rfl
            rintro _ rfl
            rintro _ rfl
            rintro _ rfl
            rintro _ rfl
            rintro _ rfl
            simp only [Act.put, List.setIfInBounds_toArray, List.set_cons_succ, List.set_cons_zero]
            have HOK : Hid (okx = false) := Lib.hid (by rw [HOG.out]; simp)
            go_wp2
            go_ret
            exact ⟨ret_bool (HNO.out HOK.out).symm, HG2.out.trans HG5.out⟩
        · cases c1
          · skip
            refine wp_region_lit 54 [[], [(0, 17)], [(1, 18)], [(2, 19)], [(3, 20)], [(4, 21)], [(4, 21), (5, 22)], [(4, 21), (6, 23)], [(4, 21), (7, 24)], [(4, 21), (8, 25)], [(9, 26)], [(10, 27)], [(10, 27), (11, 28)], [(10, 27)], [(10, 27), (13, 30)], [(10, 27), (14, 31)], [(10, 27), (15, 32)], [(10, 27), (12, 29), (16, 33)], [(10, 27), (17, 34)], [(10, 27), (18, 35)], [(19, 36)], [(20, 37)], [(20, 37), (21, 38)], [(20, 37), (22, 39)], [(20, 37), (23, 40)], [(24, 41)], [(25, 42)], [(25, 42), (26, 43)], [(25, 42)], [(25, 42), (28, 45)], [(25, 42), (27, 44), (29, 46)], [(25, 42), (30, 47)], [(31, 48)], [(32, 49)], [(32, 49), (33, 50)], [(32, 49)], [(32, 49), (35, 52)], [(32, 49)], [(32, 49), (37, 54)], [(32, 49), (36, 53), (38, 55)], [(32, 49), (39, 56)], [(32, 49), (34, 51), (40, 57)], [(32, 49), (41, 58)], [(42, 59)], [(43, 60)], [(43, 60), (44, 61)], [(43, 60)], [(43, 60), (46, 63)], [(43, 60), (47, 64)], [(43, 60), (48, 65)], [(43, 60), (49, 66)], [(43, 60), (45, 62), (50, 67)], [(43, 60), (51, 68)], [(43, 60), (52, 69)]] Grow (fun qi v w' => match qi with
                | 0 => v = .pointer (some ⟨bg, 0, none⟩)
                | 1 => v = .int .i64 author
                | 2 => v = .bool true
                | 3 => v = .bool false
                | 4 => v = .bool false
                | 5 => v = .pointer (some ⟨bg, 1, none⟩)
                | 6 => v = .int .i64 stamp
                | 7 => v = .bool true
                | 8 => v = .bool false
                | 9 => v = .bool false
                | 10 => v = .bool false
                | 11 => v = .pointer (some ⟨bg, 2, none⟩)
                | 12 => v = .int .i64 film
                | 13 => v = .pointer (some ⟨w.heap.size, 0, none⟩)
                | 14 => v = .slice A frames.length ca
                | 15 => v = .int .i64 (frames.length : Nat)
                | 16 => v = .int .i64 ((frames.length : Int) - 1)
                | 17 => v = .bool false
                | 18 => v = .bool true
                | 19 => v = .bool true
                | 20 => v = .bool true
                | 21 => v = undef
                | 22 => v = undef
                | 23 => v = undef
                | 24 => v = .bool true
                | 25 => v = .bool true
                | 26 => v = undef
                | 27 => v = undef
                | 28 => v = undef
                | 29 => v = undef
                | 30 => v = undef
                | 31 => v = .bool true
                | 32 => v = .bool true
                | 33 => v = undef
                | 34 => v = undef
                | 35 => v = undef
                | 36 => v = undef
                | 37 => v = undef
                | 38 => v = undef
                | 39 => v = undef
                | 40 => v = undef
                | 41 => v = undef
                | 42 => v = .bool true
                | 43 => v = .bool true
                | 44 => v = undef
                | 45 => v = undef
                | 46 => v = undef
                | 47 => v = undef
                | 48 => v = undef
                | 49 => v = undef
                | 50 => v = undef
                | 51 => v = undef
                | 52 => v = undef
                | 53 => v = .bool true
                | _ => False) (by kernel_rfl) (by kernel_rfl) (fun _ _ _ => Grow.trans) Grow.refl ?_ ?_ ?_
            · intro i v y y' h k
              match i, h with
              | 0, h | 1, h | 2, h | 3, h | 4, h | 5, h | 6, h | 7, h | 8, h | 9, h | 10, h | 11, h | 12, h | 13, h | 14, h | 15, h | 16, h | 17, h | 18, h | 19, h | 20, h | 21, h | 22, h | 23, h | 24, h | 25, h | 26, h | 27, h | 28, h | 29, h | 30, h | 31, h | 32, h | 33, h | 34, h | 35, h | 36, h | 37, h | 38, h | 39, h | 40, h | 41, h | 42, h | 43, h | 44, h | 45, h | 46, h | 47, h | 48, h | 49, h | 50, h | 51, h | 52, h | 53, h => exact h
            · simp only [StepsLit, List.take_succ_cons, List.take_zero]
              refine ⟨?_, ?_, ?_, ?_, ?_, ?_, ?_, ?_, ?_, ?_, ?_, ?_, ?_, ?_, ?_, ?_, ?_, ?_, ?_, ?_, ?_, ?_, ?_, ?_, ?_, ?_, ?_, ?_, ?_, ?_, ?_, ?_, ?_, ?_, ?_, ?_, ?_, ?_, ?_, ?_, ?_, ?_, ?_, ?_, ?_, ?_, ?_, ?_, ?_, ?_, ?_, ?_, ?_, ?_, trivial⟩
              · intro w5 hR
                have hGw : Grow W2 w5 := hR.of_drew
                have HGW := Lib.hid hGw
                have hcc := (HGW.out.block HN.out).cell
                have hgc := (HGW.out.block HGL.out).cell
                clear hR hGw
                simp only [depV]
                try go_simp
                all_goals first
                  | (with_reducible exact Grow.refl _)
                  | (with_reducible exact ⟨Grow.refl _, rfl⟩)
              · intro w5 hR
                have hGw : Grow W2 w5 := hR.of_drew
                have HGW := Lib.hid hGw
                have hcc := (HGW.out.block HN.out).cell
                have hgc := (HGW.out.block HGL.out).cell
                clear hR hGw
                simp only [depV]
                rintro _ rfl
                try go_simp
                all_goals first
                  | (with_reducible exact Grow.refl _)
                  | (with_reducible exact ⟨Grow.refl _, rfl⟩)
              · intro w5 hR
                have hGw : Grow W2 w5 := hR.of_drew
                have HGW := Lib.hid hGw
                have hcc := (HGW.out.block HN.out).cell
                have hgc := (HGW.out.block HGL.out).cell
                clear hR hGw
                simp only [depV]
                rintro _ rfl
                try go_simp
                refine (HA.out _).mono ?_
                rintro e w6 ⟨rfl, rfl⟩
                exact ⟨Grow.refl _, rfl⟩
              · intro w5 hR
                have hGw : Grow W2 w5 := hR.of_drew
                have HGW := Lib.hid hGw
                have hcc := (HGW.out.block HN.out).cell
                have hgc := (HGW.out.block HGL.out).cell
                clear hR hGw
                simp only [depV]
                rintro _ rfl
                try go_simp
                all_goals first
                  | (with_reducible exact Grow.refl _)
                  | (with_reducible exact ⟨Grow.refl _, rfl⟩)
              · intro w5 hR
                have hGw : Grow W2 w5 := hR.of_drew
                have HGW := Lib.hid hGw
                have hcc := (HGW.out.block HN.out).cell
                have hgc := (HGW.out.block HGL.out).cell
                clear hR hGw
                simp only [depV]
                rintro _ rfl
                try go_simp
                all_goals first
                  | (with_reducible exact Grow.refl _)
                  | (with_reducible exact ⟨Grow.refl _, rfl⟩)
              · intro w5 hR
                have hGw : Grow W2 w5 := hR.of_drew
                have HGW := Lib.hid hGw
                have hcc := (HGW.out.block HN.out).cell
                have hgc := (HGW.out.block HGL.out).cell
                clear hR hGw
                simp only [depV]
                rintro _ rfl
                try go_simp
                all_goals first
                  | (with_reducible exact Grow.refl _)
                  | (with_reducible exact ⟨Grow.refl _, rfl⟩)
              · intro w5 hR
                have hGw : Grow W2 w5 := hR.of_drew
                have HGW := Lib.hid hGw
                have hcc := (HGW.out.block HN.out).cell
                have hgc := (HGW.out.block HGL.out).cell
                clear hR hGw
                simp only [depV]
                rintro _ rfl
                rintro _ rfl
                try go_simp
                all_goals first
                  | (with_reducible exact Grow.refl _)
                  | (with_reducible exact ⟨Grow.refl _, rfl⟩)
              · intro w5 hR
                have hGw : Grow W2 w5 := hR.of_drew
                have HGW := Lib.hid hGw
                have hcc := (HGW.out.block HN.out).cell
                have hgc := (HGW.out.block HGL.out).cell
                clear hR hGw
                simp only [depV]
                rintro _ rfl
                rintro _ rfl
                try go_simp
                refine (HB.out _).mono ?_
                rintro e w6 ⟨rfl, rfl⟩
                exact ⟨Grow.refl _, rfl⟩
              · intro w5 hR
                have hGw : Grow W2 w5 := hR.of_drew
                have HGW := Lib.hid hGw
                have hcc := (HGW.out.block HN.out).cell
                have hgc := (HGW.out.block HGL.out).cell
                clear hR hGw
                simp only [depV]
                rintro _ rfl
                rintro _ rfl
                try go_simp
                all_goals first
                  | (with_reducible exact Grow.refl _)
                  | (with_reducible exact ⟨Grow.refl _, rfl⟩)
              · intro w5 hR
                have hGw : Grow W2 w5 := hR.of_drew
                have HGW := Lib.hid hGw
                have hcc := (HGW.out.block HN.out).cell
                have hgc := (HGW.out.block HGL.out).cell
                clear hR hGw
                simp only [depV]
                rintro _ rfl
                rintro _ rfl
                try go_simp
                all_goals first
                  | (with_reducible exact Grow.refl _)
                  | (with_reducible exact ⟨Grow.refl _, rfl⟩)
              · intro w5 hR
                have hGw : Grow W2 w5 := hR.of_drew
                have HGW := Lib.hid hGw
                have hcc := (HGW.out.block HN.out).cell
                have hgc := (HGW.out.block HGL.out).cell
                clear hR hGw
                simp only [depV]
                rintro _ rfl
                try go_simp
                all_goals first
                  | (with_reducible exact Grow.refl _)
                  | (with_reducible exact ⟨Grow.refl _, rfl⟩)
              · intro w5 hR
                have hGw : Grow W2 w5 := hR.of_drew
                have HGW := Lib.hid hGw
                have hcc := (HGW.out.block HN.out).cell
                have hgc := (HGW.out.block HGL.out).cell
                clear hR hGw
                simp only [depV]
                rintro _ rfl
                try go_simp
                all_goals first
                  | (with_reducible exact Grow.refl _)
                  | (with_reducible exact ⟨Grow.refl _, rfl⟩)
              · intro w5 hR
                have hGw : Grow W2 w5 := hR.of_drew
                have HGW := Lib.hid hGw
                have hcc := (HGW.out.block HN.out).cell
                have hgc := (HGW.out.block HGL.out).cell
                clear hR hGw
                simp only [depV]
                rintro _ rfl
                rintro _ rfl
                try go_simp
                all_goals first
                  | (with_reducible exact Grow.refl _)
                  | (with_reducible exact ⟨Grow.refl _, rfl⟩)
              · intro w5 hR
                have hGw : Grow W2 w5 := hR.of_drew
                have HGW := Lib.hid hGw
                have hcc := (HGW.out.block HN.out).cell
                have hgc := (HGW.out.block HGL.out).cell
                clear hR hGw
                simp only [depV]
                rintro _ rfl
                try go_simp
                all_goals first
                  | (with_reducible exact Grow.refl _)
                  | (with_reducible exact ⟨Grow.refl _, rfl⟩)
              · intro w5 hR
                have hGw : Grow W2 w5 := hR.of_drew
                have HGW := Lib.hid hGw
                have hcc := (HGW.out.block HN.out).cell
                have hgc := (HGW.out.block HGL.out).cell
                clear hR hGw
                simp only [depV]
                rintro _ rfl
                rintro _ rfl
                try go_simp
                all_goals first
                  | (with_reducible exact Grow.refl _)
                  | (with_reducible exact ⟨Grow.refl _, rfl⟩)
              · intro w5 hR
                have hGw : Grow W2 w5 := hR.of_drew
                have HGW := Lib.hid hGw
                have hcc := (HGW.out.block HN.out).cell
                have hgc := (HGW.out.block HGL.out).cell
                clear hR hGw
                simp only [depV]
                rintro _ rfl
                rintro _ rfl
                try go_simp
                all_goals first
                  | (with_reducible exact Grow.refl _)
                  | (with_reducible exact ⟨Grow.refl _, rfl⟩)
              · intro w5 hR
                have hGw : Grow W2 w5 := hR.of_drew
                have HGW := Lib.hid hGw
                have hcc := (HGW.out.block HN.out).cell
                have hgc := (HGW.out.block HGL.out).cell
                clear hR hGw
                simp only [depV]
                rintro _ rfl
                rintro _ rfl
                try go_simp
                exact ⟨Grow.refl _, IntWalk.i64_in _ (by omega)⟩
              · intro w5 hR
                have hGw : Grow W2 w5 := hR.of_drew
                have HGW := Lib.hid hGw
                have hcc := (HGW.out.block HN.out).cell
                have hgc := (HGW.out.block HGL.out).cell
                clear hR hGw
                simp only [depV]
                rintro _ rfl
                rintro _ rfl
                rintro _ rfl
                try go_simp
                refine (HF.out _).mono ?_
                rintro e w6 ⟨rfl, rfl⟩
                exact ⟨Grow.refl _, rfl⟩
              · intro w5 hR
                have hGw : Grow W2 w5 := hR.of_drew
                have HGW := Lib.hid hGw
                have hcc := (HGW.out.block HN.out).cell
                have hgc := (HGW.out.block HGL.out).cell
                clear hR hGw
                simp only [depV]
                rintro _ rfl
                rintro _ rfl
                try go_simp
                all_goals first
                  | (with_reducible exact Grow.refl _)
                  | (with_reducible exact ⟨Grow.refl _, rfl⟩)
              · intro w5 hR
                have hGw : Grow W2 w5 := hR.of_drew
                have HGW := Lib.hid hGw
                have hcc := (HGW.out.block HN.out).cell
                have hgc := (HGW.out.block HGL.out).cell
                clear hR hGw
                simp only [depV]
                rintro _ rfl
                rintro _ rfl
                try go_simp
                all_goals first
                  | (with_reducible exact Grow.refl _)
                  | (with_reducible exact ⟨Grow.refl _, rfl⟩)
              · intro w5 hR
                have hGw : Grow W2 w5 := hR.of_drew
                have HGW := Lib.hid hGw
                have hcc := (HGW.out.block HN.out).cell
                have hgc := (HGW.out.block HGL.out).cell
                clear hR hGw
                simp only [depV]
                rintro _ rfl
                try go_simp
                all_goals first
                  | (with_reducible exact Grow.refl _)
                  | (with_reducible exact ⟨Grow.refl _, rfl⟩)
              · intro w5 hR
                have hGw : Grow W2 w5 := hR.of_drew
                have HGW := Lib.hid hGw
                have hcc := (HGW.out.block HN.out).cell
                have hgc := (HGW.out.block HGL.out).cell
                clear hR hGw
                simp only [depV]
                rintro _ rfl
                try go_simp
                all_goals first
                  | (with_reducible exact Grow.refl _)
                  | (with_reducible exact ⟨Grow.refl _, rfl⟩)
              · intro w5 hR
                have hGw : Grow W2 w5 := hR.of_drew
                have HGW := Lib.hid hGw
                have hcc := (HGW.out.block HN.out).cell
                have hgc := (HGW.out.block HGL.out).cell
                clear hR hGw
                simp only [depV]
                rintro _ rfl
                rintro _ rfl
                try go_simp
                all_goals first
                  | (with_reducible exact Grow.refl _)
                  | (with_reducible exact ⟨Grow.refl _, rfl⟩)
              · intro w5 hR
                have hGw : Grow W2 w5 := hR.of_drew
                have HGW := Lib.hid hGw
                have hcc := (HGW.out.block HN.out).cell
                have hgc := (HGW.out.block HGL.out).cell
                clear hR hGw
                simp only [depV]
                rintro _ rfl
                rintro _ rfl
                try go_simp
                all_goals first
                  | (with_reducible exact Grow.refl _)
                  | (with_reducible exact ⟨Grow.refl _, rfl⟩)
              · intro w5 hR
                have hGw : Grow W2 w5 := hR.of_drew
                have HGW := Lib.hid hGw
                have hcc := (HGW.out.block HN.out).cell
                have hgc := (HGW.out.block HGL.out).cell
                clear hR hGw
                simp only [depV]
                rintro _ rfl
                rintro _ rfl
                try go_simp
                all_goals first
                  | (with_reducible exact Grow.refl _)
                  | (with_reducible exact ⟨Grow.refl _, rfl⟩)
              · intro w5 hR
                have hGw : Grow W2 w5 := hR.of_drew
                have HGW := Lib.hid hGw
                have hcc := (HGW.out.block HN.out).cell
                have hgc := (HGW.out.block HGL.out).cell
                clear hR hGw
                simp only [depV]
                rintro _ rfl
                try go_simp
                all_goals first
                  | (with_reducible exact Grow.refl _)
                  | (with_reducible exact ⟨Grow.refl _, rfl⟩)
              · intro w5 hR
                have hGw : Grow W2 w5 := hR.of_drew
                have HGW := Lib.hid hGw
                have hcc := (HGW.out.block HN.out).cell
                have hgc := (HGW.out.block HGL.out).cell
                clear hR hGw
                simp only [depV]
                rintro _ rfl
                try go_simp
                all_goals first
                  | (with_reducible exact Grow.refl _)
                  | (with_reducible exact ⟨Grow.refl _, rfl⟩)
              · intro w5 hR
                have hGw : Grow W2 w5 := hR.of_drew
                have HGW := Lib.hid hGw
                have hcc := (HGW.out.block HN.out).cell
                have hgc := (HGW.out.block HGL.out).cell
                clear hR hGw
                simp only [depV]
                rintro _ rfl
                rintro _ rfl
                try go_simp
                all_goals first
                  | (with_reducible exact Grow.refl _)
                  | (with_reducible exact ⟨Grow.refl _, rfl⟩)
              · intro w5 hR
                have hGw : Grow W2 w5 := hR.of_drew
                have HGW := Lib.hid hGw
                have hcc := (HGW.out.block HN.out).cell
                have hgc := (HGW.out.block HGL.out).cell
                clear hR hGw
                simp only [depV]
                rintro _ rfl
                try go_simp
                all_goals first
                  | (with_reducible exact Grow.refl _)
                  | (with_reducible exact ⟨Grow.refl _, rfl⟩)
              · intro w5 hR
                have hGw : Grow W2 w5 := hR.of_drew
                have HGW := Lib.hid hGw
                have hcc := (HGW.out.block HN.out).cell
                have hgc := (HGW.out.block HGL.out).cell
                clear hR hGw
                simp only [depV]
                rintro _ rfl
                rintro _ rfl
                try go_simp
                all_goals first
                  | (with_reducible exact Grow.refl _)
                  | (with_reducible exact ⟨Grow.refl _, rfl⟩)
              · intro w5 hR
                have hGw : Grow W2 w5 := hR.of_drew
                have HGW := Lib.hid hGw
                have hcc := (HGW.out.block HN.out).cell
                have hgc := (HGW.out.block HGL.out).cell
                clear hR hGw
                simp only [depV]
                rintro _ rfl
                rintro _ rfl
                rintro _ rfl
                try go_simp
                all_goals first
                  | (with_reducible exact Grow.refl _)
                  | (with_reducible exact ⟨Grow.refl _, rfl⟩)
              · intro w5 hR
                have hGw : Grow W2 w5 := hR.of_drew
                have HGW := Lib.hid hGw
                have hcc := (HGW.out.block HN.out).cell
                have hgc := (HGW.out.block HGL.out).cell
                clear hR hGw
                simp only [depV]
                rintro _ rfl
                rintro _ rfl
                try go_simp
                all_goals first
                  | (with_reducible exact Grow.refl _)
                  | (with_reducible exact ⟨Grow.refl _, rfl⟩)
              · intro w5 hR
                have hGw : Grow W2 w5 := hR.of_drew
                have HGW := Lib.hid hGw
                have hcc := (HGW.out.block HN.out).cell
                have hgc := (HGW.out.block HGL.out).cell
                clear hR hGw
                simp only [depV]
                rintro _ rfl
                try go_simp
                all_goals first
                  | (with_reducible exact Grow.refl _)
                  | (with_reducible exact ⟨Grow.refl _, rfl⟩)
              · intro w5 hR
                have hGw : Grow W2 w5 := hR.of_drew
                have HGW := Lib.hid hGw
                have hcc := (HGW.out.block HN.out).cell
                have hgc := (HGW.out.block HGL.out).cell
                clear hR hGw
                simp only [depV]
                rintro _ rfl
                try go_simp
                all_goals first
                  | (with_reducible exact Grow.refl _)
                  | (with_reducible exact ⟨Grow.refl _, rfl⟩)
              · intro w5 hR
                have hGw : Grow W2 w5 := hR.of_drew
                have HGW := Lib.hid hGw
                have hcc := (HGW.out.block HN.out).cell
                have hgc := (HGW.out.block HGL.out).cell
                clear hR hGw
                simp only [depV]
                rintro _ rfl
                rintro _ rfl
                try go_simp
                all_goals first
                  | (with_reducible exact Grow.refl _)
                  | (with_reducible exact ⟨Grow.refl _, rfl⟩)
              · intro w5 hR
                have hGw : Grow W2 w5 := hR.of_drew
                have HGW := Lib.hid hGw
                have hcc := (HGW.out.block HN.out).cell
                have hgc := (HGW.out.block HGL.out).cell
                clear hR hGw
                simp only [depV]
                rintro _ rfl
                try go_simp
                all_goals first
                  | (with_reducible exact Grow.refl _)
                  | (with_reducible exact ⟨Grow.refl _, rfl⟩)
              · intro w5 hR
                have hGw : Grow W2 w5 := hR.of_drew
                have HGW := Lib.hid hGw
                have hcc := (HGW.out.block HN.out).cell
                have hgc := (HGW.out.block HGL.out).cell
                clear hR hGw
                simp only [depV]
                rintro _ rfl
                rintro _ rfl
                try go_simp
                all_goals first
                  | (with_reducible exact Grow.refl _)
                  | (with_reducible exact ⟨Grow.refl _, rfl⟩)
              · intro w5 hR
                have hGw : Grow W2 w5 := hR.of_drew
                have HGW := Lib.hid hGw
                have hcc := (HGW.out.block HN.out).cell
                have hgc := (HGW.out.block HGL.out).cell
                clear hR hGw
                simp only [depV]
                rintro _ rfl
                try go_simp
                all_goals first
                  | (with_reducible exact Grow.refl _)
                  | (with_reducible exact ⟨Grow.refl _, rfl⟩)
              · intro w5 hR
                have hGw : Grow W2 w5 := hR.of_drew
                have HGW := Lib.hid hGw
                have hcc := (HGW.out.block HN.out).cell
                have hgc := (HGW.out.block HGL.out).cell
                clear hR hGw
                simp only [depV]
                rintro _ rfl
                rintro _ rfl
                try go_simp
                all_goals first
                  | (with_reducible exact Grow.refl _)
                  | (with_reducible exact ⟨Grow.refl _, rfl⟩)
              · intro w5 hR
                have hGw : Grow W2 w5 := hR.of_drew
                have HGW := Lib.hid hGw
                have hcc := (HGW.out.block HN.out).cell
                have hgc := (HGW.out.block HGL.out).cell
                clear hR hGw
                simp only [depV]
                rintro _ rfl
                rintro _ rfl
                rintro _ rfl
                try go_simp
                all_goals first
                  | (with_reducible exact Grow.refl _)
                  | (with_reducible exact ⟨Grow.refl _, rfl⟩)
              · intro w5 hR
                have hGw : Grow W2 w5 := hR.of_drew
                have HGW := Lib.hid hGw
                have hcc := (HGW.out.block HN.out).cell
                have hgc := (HGW.out.block HGL.out).cell
                clear hR hGw
                simp only [depV]
                rintro _ rfl
                rintro _ rfl
                try go_simp
                all_goals first
                  | (with_reducible exact Grow.refl _)
                  | (with_reducible exact ⟨Grow.refl _, rfl⟩)
              · intro w5 hR
                have hGw : Grow W2 w5 := hR.of_drew
                have HGW := Lib.hid hGw
                have hcc := (HGW.out.block HN.out).cell
                have hgc := (HGW.out.block HGL.out).cell
                clear hR hGw
                simp only [depV]
                rintro _ rfl
                rintro _ rfl
                rintro _ rfl
                try go_simp
                all_goals first
                  | (with_reducible exact Grow.refl _)
                  | (with_reducible exact ⟨Grow.refl _, rfl⟩)
              · intro w5 hR
                have hGw : Grow W2 w5 := hR.of_drew
                have HGW := Lib.hid hGw
                have hcc := (HGW.out.block HN.out).cell
                have hgc := (HGW.out.block HGL.out).cell
                clear hR hGw
                simp only [depV]
                rintro _ rfl
                rintro _ rfl
                try go_simp
                all_goals first
                  | (with_reducible exact Grow.refl _)
                  | (with_reducible exact ⟨Grow.refl _, rfl⟩)
              · intro w5 hR
                have hGw : Grow W2 w5 := hR.of_drew
                have HGW := Lib.hid hGw
                have hcc := (HGW.out.block HN.out).cell
                have hgc := (HGW.out.block HGL.out).cell
                clear hR hGw
                simp only [depV]
                rintro _ rfl
                try go_simp
                all_goals first
                  | (with_reducible exact Grow.refl _)
                  | (with_reducible exact ⟨Grow.refl _, rfl⟩)
              · intro w5 hR
                have hGw : Grow W2 w5 := hR.of_drew
                have HGW := Lib.hid hGw
                have hcc := (HGW.out.block HN.out).cell
                have hgc := (HGW.out.block HGL.out).cell
                clear hR hGw
                simp only [depV]
                rintro _ rfl
                try go_simp
                all_goals first
                  | (with_reducible exact Grow.refl _)
                  | (with_reducible exact ⟨Grow.refl _, rfl⟩)
              · intro w5 hR
                have hGw : Grow W2 w5 := hR.of_drew
                have HGW := Lib.hid hGw
                have hcc := (HGW.out.block HN.out).cell
                have hgc := (HGW.out.block HGL.out).cell
                clear hR hGw
                simp only [depV]
                rintro _ rfl
                rintro _ rfl
                try go_simp
                all_goals first
                  | (with_reducible exact Grow.refl _)
                  | (with_reducible exact ⟨Grow.refl _, rfl⟩)
              · intro w5 hR
                have hGw : Grow W2 w5 := hR.of_drew
                have HGW := Lib.hid hGw
                have hcc := (HGW.out.block HN.out).cell
                have hgc := (HGW.out.block HGL.out).cell
                clear hR hGw
                simp only [depV]
                rintro _ rfl
                try go_simp
                all_goals first
                  | (with_reducible exact Grow.refl _)
                  | (with_reducible exact ⟨Grow.refl _, rfl⟩)
              · intro w5 hR
                have hGw : Grow W2 w5 := hR.of_drew
                have HGW := Lib.hid hGw
                have hcc := (HGW.out.block HN.out).cell
                have hgc := (HGW.out.block HGL.out).cell
                clear hR hGw
                simp only [depV]
                rintro _ rfl
                rintro _ rfl
                try go_simp
                all_goals first
                  | (with_reducible exact Grow.refl _)
                  | (with_reducible exact ⟨Grow.refl _, rfl⟩)
              · intro w5 hR
                have hGw : Grow W2 w5 := hR.of_drew
                have HGW := Lib.hid hGw
                have hcc := (HGW.out.block HN.out).cell
                have hgc := (HGW.out.block HGL.out).cell
                clear hR hGw
                simp only [depV]
                rintro _ rfl
                rintro _ rfl
                try go_simp
                all_goals first
                  | (with_reducible exact Grow.refl _)
                  | (with_reducible exact ⟨Grow.refl _, rfl⟩)
              · intro w5 hR
                have hGw : Grow W2 w5 := hR.of_drew
                have HGW := Lib.hid hGw
                have hcc := (HGW.out.block HN.out).cell
                have hgc := (HGW.out.block HGL.out).cell
                clear hR hGw
                simp only [depV]
                rintro _ rfl
                rintro _ rfl
                try go_simp
                all_goals first
                  | (with_reducible exact Grow.refl _)
                  | (with_reducible exact ⟨Grow.refl _, rfl⟩)
              · intro w5 hR
                have hGw : Grow W2 w5 := hR.of_drew
                have HGW := Lib.hid hGw
                have hcc := (HGW.out.block HN.out).cell
                have hgc := (HGW.out.block HGL.out).cell
                clear hR hGw
                simp only [depV]
                rintro _ rfl
                rintro _ rfl
                try go_simp
                all_goals first
                  | (with_reducible exact Grow.refl _)
                  | (with_reducible exact ⟨Grow.refl _, rfl⟩)
              · intro w5 hR
                have hGw : Grow W2 w5 := hR.of_drew
                have HGW := Lib.hid hGw
                have hcc := (HGW.out.block HN.out).cell
                have hgc := (HGW.out.block HGL.out).cell
                clear hR hGw
                simp only [depV]
                rintro _ rfl
                rintro _ rfl
                rintro _ rfl
                try go_simp
                all_goals first
                  | (with_reducible exact Grow.refl _)
                  | (with_reducible exact ⟨Grow.refl _, rfl⟩)
              · intro w5 hR
                have hGw : Grow W2 w5 := hR.of_drew
                have HGW := Lib.hid hGw
                have hcc := (HGW.out.block HN.out).cell
                have hgc := (HGW.out.block HGL.out).cell
                clear hR hGw
                simp only [depV]
                rintro _ rfl
                rintro _ rfl
                try go_simp
                all_goals first
                  | (with_reducible exact Grow.refl _)
                  | (with_reducible exact ⟨Grow.refl _, rfl⟩)
              · intro w5 hR
                have hGw : Grow W2 w5 := hR.of_drew
                have HGW := Lib.hid hGw
                have hcc := (HGW.out.block HN.out).cell
                have hgc := (HGW.out.block HGL.out).cell
                clear hR hGw
                simp only [depV]
                rintro _ rfl
                rintro _ rfl
                try go_simp
                all_goals first
                  | (with_reducible exact Grow.refl _)
                  | (with_reducible exact ⟨Grow.refl _, rfl⟩)
            · intro w5 hR
              have HG5 : Hid (Grow W2 w5) := Lib.hid hR.of_drew
              clear hR
              simp only [finVC, List.take_succ_cons, List.take_zero, List.drop_succ_cons, List.drop_zero]
              rintro _ rfl
              rintro _ rfl
              rintro _ rfl
              rintro _ rfl
              rintro _ rfl
              rintro _ rfl
              rintro _ rfl
              rintro _ rfl
              rintro _ rfl
              rintro _ rfl
              rintro _ rfl
              rintro _ rfl
              rintro _ rfl
              rintro _ rfl
              rintro _ rfl
              rintro _ rfl
              rintro _ rfl
              rintro _ rfl
              rintro _ rfl
              rintro _ rfl
              rintro _ rfl
              rintro _ rfl
              rintro _ rfl
              rintro _ rfl
              rintro _ rfl
              rintro _ rfl
              rintro _ rfl
              rintro _ rfl
              rintro _ rfl
              rintro _ rfl
              rintro _ rfl
              rintro _ rfl
              rintro _ rfl
              rintro _ rfl
              rintro _ rfl
              rintro _ rfl
              rintro _ rfl
              rintro _ rfl
              rintro _ rfl
              rintro _ rfl
              rintro _ rfl
              rintro _ rfl
              rintro _ rfl
              rintro _ rfl
              rintro _ rfl
              rintro _ rfl
              rintro _ rfl
              rintro _ rfl
              rintro _ rfl
              rintro _ rfl
              rintro _ rfl
              rintro _ rfl
              rintro _ rfl
              rintro _ rfl
              simp only [Act.put, List.setIfInBounds_toArray, List.set_cons_succ, List.set_cons_zero]
              have HOK : Hid (okx = false) := Lib.hid (by rw [HOG.out]; simp)
              go_wp2
              go_ret
              exact ⟨ret_bool (HNO.out HOK.out).symm, HG2.out.trans HG5.out⟩
          · have hfi := inB_iff.1 HC1.out
            obtain ⟨kf, rfl⟩ := Int.eq_ofNat_of_zero_le hfi.1
            have hfx := (HFR.out kf (by omega) hfi.2).1
            rw [Int.toNat_natCast] at hfx
            have hkl : kf < frames.length := lt_of_at hfx
            obtain ⟨bf, of, x, rfl, hbf, hxc, HXF⟩ := HIW.out.at_ hkl
            have hxe : frameOf ⟨frames, (sn : Int)⟩ kf = x := by
              have h1 := HXF.out
              try dsimp only at h1 hfx
              rw [hfx] at h1
              exact Option.some.inj h1
            rw [hxe] at HOG
            have HXC := Lib.hid (fun (w0 : World) (hw : Grow W2 w0) => hw.cell hxc)
            have hki : (kf : Int) < (frames.length : Int) := by omega
            have hk0 : (0 : Int) ≤ (kf : Int) := by omega
            clear hfx hxe hxc hbf
            by_cases h2 : 0 ≤ frm
            · have d2 : decide (0 ≤ frm) = true := decide_eq_true h2
              have g2 : decide (frm < 0) = false := decide_eq_false (by omega)
              by_cases h3 : frm < till
              · have d3 : decide (frm < till) = true := decide_eq_true h3
                have g3 : decide (till ≤ frm) = false := decide_eq_false (by omega)
                by_cases h4 : till ≤ x
                · have d4 : decide (till ≤ x) = true := decide_eq_true h4
                  have g4 : decide (x < till) = false := decide_eq_false (by omega)
                  skip
                  refine wp_region_lit 54 [[], [(0, 17)], [(1, 18)], [(2, 19)], [(3, 20)], [(4, 21)], [(4, 21), (5, 22)], [(4, 21), (6, 23)], [(4, 21), (7, 24)], [(4, 21), (8, 25)], [(9, 26)], [(10, 27)], [(10, 27), (11, 28)], [(10, 27)], [(10, 27), (13, 30)], [(10, 27), (14, 31)], [(10, 27), (15, 32)], [(10, 27), (12, 29), (16, 33)], [(10, 27), (17, 34)], [(10, 27), (18, 35)], [(19, 36)], [(20, 37)], [(20, 37), (21, 38)], [(20, 37), (22, 39)], [(20, 37), (23, 40)], [(24, 41)], [(25, 42)], [(25, 42), (26, 43)], [(25, 42)], [(25, 42), (28, 45)], [(25, 42), (27, 44), (29, 46)], [(25, 42), (30, 47)], [(31, 48)], [(32, 49)], [(32, 49), (33, 50)], [(32, 49)], [(32, 49), (35, 52)], [(32, 49)], [(32, 49), (37, 54)], [(32, 49), (36, 53), (38, 55)], [(32, 49), (39, 56)], [(32, 49), (34, 51), (40, 57)], [(32, 49), (41, 58)], [(42, 59)], [(43, 60)], [(43, 60), (44, 61)], [(43, 60)], [(43, 60), (46, 63)], [(43, 60), (47, 64)], [(43, 60), (48, 65)], [(43, 60), (49, 66)], [(43, 60), (45, 62), (50, 67)], [(43, 60), (51, 68)], [(43, 60), (52, 69)]] Grow (fun qi v w' => match qi with
                      | 0 => v = .pointer (some ⟨bg, 0, none⟩)
                      | 1 => v = .int .i64 author
                      | 2 => v = .bool true
                      | 3 => v = .bool false
                      | 4 => v = .bool false
                      | 5 => v = .pointer (some ⟨bg, 1, none⟩)
                      | 6 => v = .int .i64 stamp
                      | 7 => v = .bool true
                      | 8 => v = .bool false
                      | 9 => v = .bool false
                      | 10 => v = .bool false
                      | 11 => v = .pointer (some ⟨bg, 2, none⟩)
                      | 12 => v = .int .i64 (kf : Nat)
                      | 13 => v = .pointer (some ⟨w.heap.size, 0, none⟩)
                      | 14 => v = .slice (some ⟨bf, of, none⟩) frames.length ca
                      | 15 => v = .int .i64 (frames.length : Nat)
                      | 16 => v = .int .i64 ((frames.length : Int) - 1)
                      | 17 => v = .bool true
                      | 18 => v = .bool false
                      | 19 => v = .bool false
                      | 20 => v = .bool false
                      | 21 => v = .pointer (some ⟨bg, 3, none⟩)
                      | 22 => v = .int .i64 frm
                      | 23 => v = .bool false
                      | 24 => v = .bool false
                      | 25 => v = .bool false
                      | 26 => v = .pointer (some ⟨bg, 3, none⟩)
                      | 27 => v = .int .i64 frm
                      | 28 => v = .pointer (some ⟨bg, 4, none⟩)
                      | 29 => v = .int .i64 till
                      | 30 => v = .bool false
                      | 31 => v = .bool false
                      | 32 => v = .bool false
                      | 33 => v = .pointer (some ⟨bg, 4, none⟩)
                      | 34 => v = .int .i64 till
                      | 35 => v = .pointer (some ⟨w.heap.size, 0, none⟩)
                      | 36 => v = .slice (some ⟨bf, of, none⟩) frames.length ca
                      | 37 => v = .pointer (some ⟨bg, 2, none⟩)
                      | 38 => v = .int .i64 (kf : Nat)
                      | 39 => v = .pointer (some ⟨bf, of + kf, none⟩)
                      | 40 => v = .int .i64 x
                      | 41 => v = .bool false
                      | 42 => v = .bool false
                      | 43 => v = .bool false
                      | 44 => v = .pointer (some ⟨bg, 5, none⟩)
                      | 45 => v = .int .i64 sg
                      | 46 => v = .pointer (some ⟨w.heap.size, 1, none⟩)
                      | 47 => v = .int .i64 (sn : Nat)
                      | 48 => v = .int .u64 (sn : Nat)
                      | 49 => v = .int .i64 (pw : Nat)
                      | 50 => v = .int .i64 ((pw : Int) - 1)
                      | 51 => v = .bool c5
                      | 52 => v = .bool (!c5)
                      | 53 => v = .bool (!c5)
                      | _ => False) (by kernel_rfl) (by kernel_rfl) (fun _ _ _ => Grow.trans) Grow.refl ?_ ?_ ?_
                  · intro i v y y' h k
                    match i, h with
                    | 0, h | 1, h | 2, h | 3, h | 4, h | 5, h | 6, h | 7, h | 8, h | 9, h | 10, h | 11, h | 12, h | 13, h | 14, h | 15, h | 16, h | 17, h | 18, h | 19, h | 20, h | 21, h | 22, h | 23, h | 24, h | 25, h | 26, h | 27, h | 28, h | 29, h | 30, h | 31, h | 32, h | 33, h | 34, h | 35, h | 36, h | 37, h | 38, h | 39, h | 40, h | 41, h | 42, h | 43, h | 44, h | 45, h | 46, h | 47, h | 48, h | 49, h | 50, h | 51, h | 52, h | 53, h => exact h
                  · simp only [StepsLit, List.take_succ_cons, List.take_zero]
                    refine ⟨?_, ?_, ?_, ?_, ?_, ?_, ?_, ?_, ?_, ?_, ?_, ?_, ?_, ?_, ?_, ?_, ?_, ?_, ?_, ?_, ?_, ?_, ?_, ?_, ?_, ?_, ?_, ?_, ?_, ?_, ?_, ?_, ?_, ?_, ?_, ?_, ?_, ?_, ?_, ?_, ?_, ?_, ?_, ?_, ?_, ?_, ?_, ?_, ?_, ?_, ?_, ?_, ?_, ?_, trivial⟩
                    · intro w5 hR
                      have hGw : Grow W2 w5 := hR.of_drew
                      have HGW := Lib.hid hGw
                      have hcc := (HGW.out.block HN.out).cell
                      have hgc := (HGW.out.block HGL.out).cell
                      clear hR hGw
                      simp only [depV]
                      try go_simp
                      all_goals first
                        | (with_reducible exact Grow.refl _)
                        | (with_reducible exact ⟨Grow.refl _, rfl⟩)
                    · intro w5 hR
                      have hGw : Grow W2 w5 := hR.of_drew
                      have HGW := Lib.hid hGw
                      have hcc := (HGW.out.block HN.out).cell
                      have hgc := (HGW.out.block HGL.out).cell
                      clear hR hGw
                      simp only [depV]
                      rintro _ rfl
                      try go_simp
                      all_goals first
                        | (with_reducible exact Grow.refl _)
                        | (with_reducible exact ⟨Grow.refl _, rfl⟩)
                    · intro w5 hR
                      have hGw : Grow W2 w5 := hR.of_drew
                      have HGW := Lib.hid hGw
                      have hcc := (HGW.out.block HN.out).cell
                      have hgc := (HGW.out.block HGL.out).cell
                      clear hR hGw
                      simp only [depV]
                      rintro _ rfl
                      try go_simp
                      refine (HA.out _).mono ?_
                      rintro e w6 ⟨rfl, rfl⟩
                      exact ⟨Grow.refl _, rfl⟩
                    · intro w5 hR
                      have hGw : Grow W2 w5 := hR.of_drew
                      have HGW := Lib.hid hGw
                      have hcc := (HGW.out.block HN.out).cell
                      have hgc := (HGW.out.block HGL.out).cell
                      clear hR hGw
                      simp only [depV]
                      rintro _ rfl
                      try go_simp
                      all_goals first
                        | (with_reducible exact Grow.refl _)
                        | (with_reducible exact ⟨Grow.refl _, rfl⟩)
                    · intro w5 hR
                      have hGw : Grow W2 w5 := hR.of_drew
                      have HGW := Lib.hid hGw
                      have hcc := (HGW.out.block HN.out).cell
                      have hgc := (HGW.out.block HGL.out).cell
                      clear hR hGw
                      simp only [depV]
                      rintro _ rfl
                      try go_simp
                      all_goals first
                        | (with_reducible exact Grow.refl _)
                        | (with_reducible exact ⟨Grow.refl _, rfl⟩)
                    · intro w5 hR
                      have hGw : Grow W2 w5 := hR.of_drew
                      have HGW := Lib.hid hGw
                      have hcc := (HGW.out.block HN.out).cell
                      have hgc := (HGW.out.block HGL.out).cell
                      clear hR hGw
                      simp only [depV]
                      rintro _ rfl
                      try go_simp
                      all_goals first
                        | (with_reducible exact Grow.refl _)
                        | (with_reducible exact ⟨Grow.refl _, rfl⟩)
                    · intro w5 hR
                      have hGw : Grow W2 w5 := hR.of_drew
                      have HGW := Lib.hid hGw
                      have hcc := (HGW.out.block HN.out).cell
                      have hgc := (HGW.out.block HGL.out).cell
                      clear hR hGw
                      simp only [depV]
                      rintro _ rfl
                      rintro _ rfl
                      try go_simp
                      all_goals first
                        | (with_reducible exact Grow.refl _)
                        | (with_reducible exact ⟨Grow.refl _, rfl⟩)
                    · intro w5 hR
                      have hGw : Grow W2 w5 := hR.of_drew
                      have HGW := Lib.hid hGw
                      have hcc := (HGW.out.block HN.out).cell
                      have hgc := (HGW.out.block HGL.out).cell
                      clear hR hGw
                      simp only [depV]
                      rintro _ rfl
                      rintro _ rfl
                      try go_simp
                      refine (HB.out _).mono ?_
                      rintro e w6 ⟨rfl, rfl⟩
                      exact ⟨Grow.refl _, rfl⟩
                    · intro w5 hR
                      have hGw : Grow W2 w5 := hR.of_drew
                      have HGW := Lib.hid hGw
                      have hcc := (HGW.out.block HN.out).cell
                      have hgc := (HGW.out.block HGL.out).cell
                      clear hR hGw
                      simp only [depV]
                      rintro _ rfl
                      rintro _ rfl
                      try go_simp
                      all_goals first
                        | (with_reducible exact Grow.refl _)
                        | (with_reducible exact ⟨Grow.refl _, rfl⟩)
                    · intro w5 hR
                      have hGw : Grow W2 w5 := hR.of_drew
                      have HGW := Lib.hid hGw
                      have hcc := (HGW.out.block HN.out).cell
                      have hgc := (HGW.out.block HGL.out).cell
                      clear hR hGw
                      simp only [depV]
                      rintro _ rfl
                      rintro _ rfl
                      try go_simp
                      all_goals first
                        | (with_reducible exact Grow.refl _)
                        | (with_reducible exact ⟨Grow.refl _, rfl⟩)
                    · intro w5 hR
                      have hGw : Grow W2 w5 := hR.of_drew
                      have HGW := Lib.hid hGw
                      have hcc := (HGW.out.block HN.out).cell
                      have hgc := (HGW.out.block HGL.out).cell
                      clear hR hGw
                      simp only [depV]
                      rintro _ rfl
                      try go_simp
                      all_goals first
                        | (with_reducible exact Grow.refl _)
                        | (with_reducible exact ⟨Grow.refl _, rfl⟩)
                    · intro w5 hR
                      have hGw : Grow W2 w5 := hR.of_drew
                      have HGW := Lib.hid hGw
                      have hcc := (HGW.out.block HN.out).cell
                      have hgc := (HGW.out.block HGL.out).cell
                      clear hR hGw
                      simp only [depV]
                      rintro _ rfl
                      try go_simp
                      all_goals first
                        | (with_reducible exact Grow.refl _)
                        | (with_reducible exact ⟨Grow.refl _, rfl⟩)
                    · intro w5 hR
                      have hGw : Grow W2 w5 := hR.of_drew
                      have HGW := Lib.hid hGw
                      have hcc := (HGW.out.block HN.out).cell
                      have hgc := (HGW.out.block HGL.out).cell
                      clear hR hGw
                      simp only [depV]
                      rintro _ rfl
                      rintro _ rfl
                      try go_simp
                      all_goals first
                        | (with_reducible exact Grow.refl _)
                        | (with_reducible exact ⟨Grow.refl _, rfl⟩)
                    · intro w5 hR
                      have hGw : Grow W2 w5 := hR.of_drew
                      have HGW := Lib.hid hGw
                      have hcc := (HGW.out.block HN.out).cell
                      have hgc := (HGW.out.block HGL.out).cell
                      clear hR hGw
                      simp only [depV]
                      rintro _ rfl
                      try go_simp
                      all_goals first
                        | (with_reducible exact Grow.refl _)
                        | (with_reducible exact ⟨Grow.refl _, rfl⟩)
                    · intro w5 hR
                      have hGw : Grow W2 w5 := hR.of_drew
                      have HGW := Lib.hid hGw
                      have hcc := (HGW.out.block HN.out).cell
                      have hgc := (HGW.out.block HGL.out).cell
                      clear hR hGw
                      simp only [depV]
                      rintro _ rfl
                      rintro _ rfl
                      try go_simp
                      all_goals first
                        | (with_reducible exact Grow.refl _)
                        | (with_reducible exact ⟨Grow.refl _, rfl⟩)
                    · intro w5 hR
                      have hGw : Grow W2 w5 := hR.of_drew
                      have HGW := Lib.hid hGw
                      have hcc := (HGW.out.block HN.out).cell
                      have hgc := (HGW.out.block HGL.out).cell
                      clear hR hGw
                      simp only [depV]
                      rintro _ rfl
                      rintro _ rfl
                      try go_simp
                      all_goals first
                        | (with_reducible exact Grow.refl _)
                        | (with_reducible exact ⟨Grow.refl _, rfl⟩)
                    · intro w5 hR
                      have hGw : Grow W2 w5 := hR.of_drew
                      have HGW := Lib.hid hGw
                      have hcc := (HGW.out.block HN.out).cell
                      have hgc := (HGW.out.block HGL.out).cell
                      clear hR hGw
                      simp only [depV]
                      rintro _ rfl
                      rintro _ rfl
                      try go_simp
                      exact ⟨Grow.refl _, IntWalk.i64_in _ (by omega)⟩
                    · intro w5 hR
                      have hGw : Grow W2 w5 := hR.of_drew
                      have HGW := Lib.hid hGw
                      have hcc := (HGW.out.block HN.out).cell
                      have hgc := (HGW.out.block HGL.out).cell
                      clear hR hGw
                      simp only [depV]
                      rintro _ rfl
                      rintro _ rfl
                      rintro _ rfl
                      try go_simp
                      refine (HF.out _).mono ?_
                      rintro e w6 ⟨rfl, rfl⟩
                      exact ⟨Grow.refl _, rfl⟩
                    · intro w5 hR
                      have hGw : Grow W2 w5 := hR.of_drew
                      have HGW := Lib.hid hGw
                      have hcc := (HGW.out.block HN.out).cell
                      have hgc := (HGW.out.block HGL.out).cell
                      clear hR hGw
                      simp only [depV]
                      rintro _ rfl
                      rintro _ rfl
                      try go_simp
                      all_goals first
                        | (with_reducible exact Grow.refl _)
                        | (with_reducible exact ⟨Grow.refl _, rfl⟩)
                    · intro w5 hR
                      have hGw : Grow W2 w5 := hR.of_drew
                      have HGW := Lib.hid hGw
                      have hcc := (HGW.out.block HN.out).cell
                      have hgc := (HGW.out.block HGL.out).cell
                      clear hR hGw
                      simp only [depV]
                      rintro _ rfl
                      rintro _ rfl
                      try go_simp
                      all_goals first
                        | (with_reducible exact Grow.refl _)
                        | (with_reducible exact ⟨Grow.refl _, rfl⟩)
                    · intro w5 hR
                      have hGw : Grow W2 w5 := hR.of_drew
                      have HGW := Lib.hid hGw
                      have hcc := (HGW.out.block HN.out).cell
                      have hgc := (HGW.out.block HGL.out).cell
                      clear hR hGw
                      simp only [depV]
                      rintro _ rfl
                      try go_simp
                      all_goals first
                        | (with_reducible exact Grow.refl _)
                        | (with_reducible exact ⟨Grow.refl _, rfl⟩)
                    · intro w5 hR
                      have hGw : Grow W2 w5 := hR.of_drew
                      have HGW := Lib.hid hGw
                      have hcc := (HGW.out.block HN.out).cell
                      have hgc := (HGW.out.block HGL.out).cell
                      clear hR hGw
                      simp only [depV]
                      rintro _ rfl
                      try go_simp
                      all_goals first
                        | (with_reducible exact Grow.refl _)
                        | (with_reducible exact ⟨Grow.refl _, rfl⟩)
                    · intro w5 hR
                      have hGw : Grow W2 w5 := hR.of_drew
                      have HGW := Lib.hid hGw
                      have hcc := (HGW.out.block HN.out).cell
                      have hgc := (HGW.out.block HGL.out).cell
                      clear hR hGw
                      simp only [depV]
                      rintro _ rfl
                      rintro _ rfl
                      try go_simp
                      all_goals first
                        | (with_reducible exact Grow.refl _)
                        | (with_reducible exact ⟨Grow.refl _, rfl⟩)
                    · intro w5 hR
                      have hGw : Grow W2 w5 := hR.of_drew
                      have HGW := Lib.hid hGw
                      have hcc := (HGW.out.block HN.out).cell
                      have hgc := (HGW.out.block HGL.out).cell
                      clear hR hGw
                      simp only [depV]
                      rintro _ rfl
                      rintro _ rfl
                      try go_simp
                      all_goals first
                        | (with_reducible exact Grow.refl _)
                        | (with_reducible exact ⟨Grow.refl _, rfl⟩)
                    · intro w5 hR
                      have hGw : Grow W2 w5 := hR.of_drew
                      have HGW := Lib.hid hGw
                      have hcc := (HGW.out.block HN.out).cell
                      have hgc := (HGW.out.block HGL.out).cell
                      clear hR hGw
                      simp only [depV]
                      rintro _ rfl
                      rintro _ rfl
                      try go_simp
                      all_goals first
                        | (with_reducible exact Grow.refl _)
                        | (with_reducible exact ⟨Grow.refl _, rfl⟩)
                    · intro w5 hR
                      have hGw : Grow W2 w5 := hR.of_drew
                      have HGW := Lib.hid hGw
                      have hcc := (HGW.out.block HN.out).cell
                      have hgc := (HGW.out.block HGL.out).cell
                      clear hR hGw
                      simp only [depV]
                      rintro _ rfl
                      try go_simp
                      all_goals first
                        | (with_reducible exact Grow.refl _)
                        | (with_reducible exact ⟨Grow.refl _, rfl⟩)
                    · intro w5 hR
                      have hGw : Grow W2 w5 := hR.of_drew
                      have HGW := Lib.hid hGw
                      have hcc := (HGW.out.block HN.out).cell
                      have hgc := (HGW.out.block HGL.out).cell
                      clear hR hGw
                      simp only [depV]
                      rintro _ rfl
                      try go_simp
                      all_goals first
                        | (with_reducible exact Grow.refl _)
                        | (with_reducible exact ⟨Grow.refl _, rfl⟩)
                    · intro w5 hR
                      have hGw : Grow W2 w5 := hR.of_drew
                      have HGW := Lib.hid hGw
                      have hcc := (HGW.out.block HN.out).cell
                      have hgc := (HGW.out.block HGL.out).cell
                      clear hR hGw
                      simp only [depV]
                      rintro _ rfl
                      rintro _ rfl
                      try go_simp
                      all_goals first
                        | (with_reducible exact Grow.refl _)
                        | (with_reducible exact ⟨Grow.refl _, rfl⟩)
                    · intro w5 hR
                      have hGw : Grow W2 w5 := hR.of_drew
                      have HGW := Lib.hid hGw
                      have hcc := (HGW.out.block HN.out).cell
                      have hgc := (HGW.out.block HGL.out).cell
                      clear hR hGw
                      simp only [depV]
                      rintro _ rfl
                      try go_simp
                      all_goals first
                        | (with_reducible exact Grow.refl _)
                        | (with_reducible exact ⟨Grow.refl _, rfl⟩)
                    · intro w5 hR
                      have hGw : Grow W2 w5 := hR.of_drew
                      have HGW := Lib.hid hGw
                      have hcc := (HGW.out.block HN.out).cell
                      have hgc := (HGW.out.block HGL.out).cell
                      clear hR hGw
                      simp only [depV]
                      rintro _ rfl
                      rintro _ rfl
                      try go_simp
                      all_goals first
                        | (with_reducible exact Grow.refl _)
                        | (with_reducible exact ⟨Grow.refl _, rfl⟩)
                    · intro w5 hR
                      have hGw : Grow W2 w5 := hR.of_drew
                      have HGW := Lib.hid hGw
                      have hcc := (HGW.out.block HN.out).cell
                      have hgc := (HGW.out.block HGL.out).cell
                      clear hR hGw
                      simp only [depV]
                      rintro _ rfl
                      rintro _ rfl
                      rintro _ rfl
                      try go_simp
                      all_goals first
                        | (with_reducible exact Grow.refl _)
                        | (with_reducible exact ⟨Grow.refl _, rfl⟩)
                    · intro w5 hR
                      have hGw : Grow W2 w5 := hR.of_drew
                      have HGW := Lib.hid hGw
                      have hcc := (HGW.out.block HN.out).cell
                      have hgc := (HGW.out.block HGL.out).cell
                      clear hR hGw
                      simp only [depV]
                      rintro _ rfl
                      rintro _ rfl
                      try go_simp
                      all_goals first
                        | (with_reducible exact Grow.refl _)
                        | (with_reducible exact ⟨Grow.refl _, rfl⟩)
                    · intro w5 hR
                      have hGw : Grow W2 w5 := hR.of_drew
                      have HGW := Lib.hid hGw
                      have hcc := (HGW.out.block HN.out).cell
                      have hgc := (HGW.out.block HGL.out).cell
                      clear hR hGw
                      simp only [depV]
                      rintro _ rfl
                      try go_simp
                      all_goals first
                        | (with_reducible exact Grow.refl _)
                        | (with_reducible exact ⟨Grow.refl _, rfl⟩)
                    · intro w5 hR
                      have hGw : Grow W2 w5 := hR.of_drew
                      have HGW := Lib.hid hGw
                      have hcc := (HGW.out.block HN.out).cell
                      have hgc := (HGW.out.block HGL.out).cell
                      clear hR hGw
                      simp only [depV]
                      rintro _ rfl
                      try go_simp
                      all_goals first
                        | (with_reducible exact Grow.refl _)
                        | (with_reducible exact ⟨Grow.refl _, rfl⟩)
                    · intro w5 hR
                      have hGw : Grow W2 w5 := hR.of_drew
                      have HGW := Lib.hid hGw
                      have hcc := (HGW.out.block HN.out).cell
                      have hgc := (HGW.out.block HGL.out).cell
                      clear hR hGw
                      simp only [depV]
                      rintro _ rfl
                      rintro _ rfl
                      try go_simp
                      all_goals first
                        | (with_reducible exact Grow.refl _)
                        | (with_reducible exact ⟨Grow.refl _, rfl⟩)
                    · intro w5 hR
                      have hGw : Grow W2 w5 := hR.of_drew
                      have HGW := Lib.hid hGw
                      have hcc := (HGW.out.block HN.out).cell
                      have hgc := (HGW.out.block HGL.out).cell
                      clear hR hGw
                      simp only [depV]
                      rintro _ rfl
                      try go_simp
                      all_goals first
                        | (with_reducible exact Grow.refl _)
                        | (with_reducible exact ⟨Grow.refl _, rfl⟩)
                    · intro w5 hR
                      have hGw : Grow W2 w5 := hR.of_drew
                      have HGW := Lib.hid hGw
                      have hcc := (HGW.out.block HN.out).cell
                      have hgc := (HGW.out.block HGL.out).cell
                      clear hR hGw
                      simp only [depV]
                      rintro _ rfl
                      rintro _ rfl
                      try go_simp
                      all_goals first
                        | (with_reducible exact Grow.refl _)
                        | (with_reducible exact ⟨Grow.refl _, rfl⟩)
                    · intro w5 hR
                      have hGw : Grow W2 w5 := hR.of_drew
                      have HGW := Lib.hid hGw
                      have hcc := (HGW.out.block HN.out).cell
                      have hgc := (HGW.out.block HGL.out).cell
                      clear hR hGw
                      simp only [depV]
                      rintro _ rfl
                      try go_simp
                      all_goals first
                        | (with_reducible exact Grow.refl _)
                        | (with_reducible exact ⟨Grow.refl _, rfl⟩)
                    · intro w5 hR
                      have hGw : Grow W2 w5 := hR.of_drew
                      have HGW := Lib.hid hGw
                      have hcc := (HGW.out.block HN.out).cell
                      have hgc := (HGW.out.block HGL.out).cell
                      clear hR hGw
                      simp only [depV]
                      rintro _ rfl
                      rintro _ rfl
                      try go_simp
                      all_goals first
                        | (with_reducible exact Grow.refl _)
                        | (with_reducible exact ⟨Grow.refl _, rfl⟩)
                    · intro w5 hR
                      have hGw : Grow W2 w5 := hR.of_drew
                      have HGW := Lib.hid hGw
                      have hcc := (HGW.out.block HN.out).cell
                      have hgc := (HGW.out.block HGL.out).cell
                      clear hR hGw
                      simp only [depV]
                      rintro _ rfl
                      rintro _ rfl
                      rintro _ rfl
                      try go_simp
                      all_goals first
                        | (with_reducible exact Grow.refl _)
                        | (with_reducible exact ⟨Grow.refl _, rfl⟩)
                    · intro w5 hR
                      have hGw : Grow W2 w5 := hR.of_drew
                      have HGW := Lib.hid hGw
                      have hcc := (HGW.out.block HN.out).cell
                      have hgc := (HGW.out.block HGL.out).cell
                      clear hR hGw
                      simp only [depV]
                      rintro _ rfl
                      rintro _ rfl
                      have hxc := HXC.out w5 HGW.out
                      try go_simp
                      first
                        | (with_reducible exact Grow.refl _)
                        | (with_reducible exact ⟨Grow.refl _, rfl⟩)
                    · intro w5 hR
                      have hGw : Grow W2 w5 := hR.of_drew
                      have HGW := Lib.hid hGw
                      have hcc := (HGW.out.block HN.out).cell
                      have hgc := (HGW.out.block HGL.out).cell
                      clear hR hGw
                      simp only [depV]
                      rintro _ rfl
                      rintro _ rfl
                      rintro _ rfl
                      try go_simp
                      all_goals first
                        | (with_reducible exact Grow.refl _)
                        | (with_reducible exact ⟨Grow.refl _, rfl⟩)
                    · intro w5 hR
                      have hGw : Grow W2 w5 := hR.of_drew
                      have HGW := Lib.hid hGw
                      have hcc := (HGW.out.block HN.out).cell
                      have hgc := (HGW.out.block HGL.out).cell
                      clear hR hGw
                      simp only [depV]
                      rintro _ rfl
                      rintro _ rfl
                      try go_simp
                      all_goals first
                        | (with_reducible exact Grow.refl _)
                        | (with_reducible exact ⟨Grow.refl _, rfl⟩)
                    · intro w5 hR
                      have hGw : Grow W2 w5 := hR.of_drew
                      have HGW := Lib.hid hGw
                      have hcc := (HGW.out.block HN.out).cell
                      have hgc := (HGW.out.block HGL.out).cell
                      clear hR hGw
                      simp only [depV]
                      rintro _ rfl
                      try go_simp
                      all_goals first
                        | (with_reducible exact Grow.refl _)
                        | (with_reducible exact ⟨Grow.refl _, rfl⟩)
                    · intro w5 hR
                      have hGw : Grow W2 w5 := hR.of_drew
                      have HGW := Lib.hid hGw
                      have hcc := (HGW.out.block HN.out).cell
                      have hgc := (HGW.out.block HGL.out).cell
                      clear hR hGw
                      simp only [depV]
                      rintro _ rfl
                      try go_simp
                      all_goals first
                        | (with_reducible exact Grow.refl _)
                        | (with_reducible exact ⟨Grow.refl _, rfl⟩)
                    · intro w5 hR
                      have hGw : Grow W2 w5 := hR.of_drew
                      have HGW := Lib.hid hGw
                      have hcc := (HGW.out.block HN.out).cell
                      have hgc := (HGW.out.block HGL.out).cell
                      clear hR hGw
                      simp only [depV]
                      rintro _ rfl
                      rintro _ rfl
                      try go_simp
                      all_goals first
                        | (with_reducible exact Grow.refl _)
                        | (with_reducible exact ⟨Grow.refl _, rfl⟩)
                    · intro w5 hR
                      have hGw : Grow W2 w5 := hR.of_drew
                      have HGW := Lib.hid hGw
                      have hcc := (HGW.out.block HN.out).cell
                      have hgc := (HGW.out.block HGL.out).cell
                      clear hR hGw
                      simp only [depV]
                      rintro _ rfl
                      try go_simp
                      all_goals first
                        | (with_reducible exact Grow.refl _)
                        | (with_reducible exact ⟨Grow.refl _, rfl⟩)
                    · intro w5 hR
                      have hGw : Grow W2 w5 := hR.of_drew
                      have HGW := Lib.hid hGw
                      have hcc := (HGW.out.block HN.out).cell
                      have hgc := (HGW.out.block HGL.out).cell
                      clear hR hGw
                      simp only [depV]
                      rintro _ rfl
                      rintro _ rfl
                      try go_simp
                      all_goals first
                        | (with_reducible exact Grow.refl _)
                        | (with_reducible exact ⟨Grow.refl _, rfl⟩)
                    · intro w5 hR
                      have hGw : Grow W2 w5 := hR.of_drew
                      have HGW := Lib.hid hGw
                      have hcc := (HGW.out.block HN.out).cell
                      have hgc := (HGW.out.block HGL.out).cell
                      clear hR hGw
                      simp only [depV]
                      rintro _ rfl
                      rintro _ rfl
                      try go_simp
                      first
                        | (with_reducible exact Grow.refl _)
                        | (with_reducible exact ⟨Grow.refl _, rfl⟩)
                        | exact ⟨Grow.refl _, HCV.out⟩
                        | exact ⟨Grow.refl _, by rw [HCV.out]⟩
                    · intro w5 hR
                      have hGw : Grow W2 w5 := hR.of_drew
                      have HGW := Lib.hid hGw
                      have hcc := (HGW.out.block HN.out).cell
                      have hgc := (HGW.out.block HGL.out).cell
                      clear hR hGw
                      simp only [depV]
                      rintro _ rfl
                      rintro _ rfl
                      try go_simp
                      exact ⟨Grow.refl _, HWR.out⟩
                    · intro w5 hR
                      have hGw : Grow W2 w5 := hR.of_drew
                      have HGW := Lib.hid hGw
                      have hcc := (HGW.out.block HN.out).cell
                      have hgc := (HGW.out.block HGL.out).cell
                      clear hR hGw
                      simp only [depV]
                      rintro _ rfl
                      rintro _ rfl
                      try go_simp
                      exact ⟨Grow.refl _, IntWalk.i64_in _ (by omega)⟩
                    · intro w5 hR
                      have hGw : Grow W2 w5 := hR.of_drew
                      have HGW := Lib.hid hGw
                      have hcc := (HGW.out.block HN.out).cell
                      have hgc := (HGW.out.block HGL.out).cell
                      clear hR hGw
                      simp only [depV]
                      rintro _ rfl
                      rintro _ rfl
                      rintro _ rfl
                      try go_simp
                      refine (HS.out _).mono ?_
                      rintro e w6 ⟨rfl, rfl⟩
                      exact ⟨Grow.refl _, rfl⟩
                    · intro w5 hR
                      have hGw : Grow W2 w5 := hR.of_drew
                      have HGW := Lib.hid hGw
                      have hcc := (HGW.out.block HN.out).cell
                      have hgc := (HGW.out.block HGL.out).cell
                      clear hR hGw
                      simp only [depV]
                      rintro _ rfl
                      rintro _ rfl
                      try go_simp
                      all_goals first
                        | (with_reducible exact Grow.refl _)
                        | (with_reducible exact ⟨Grow.refl _, rfl⟩)
                    · intro w5 hR
                      have hGw : Grow W2 w5 := hR.of_drew
                      have HGW := Lib.hid hGw
                      have hcc := (HGW.out.block HN.out).cell
                      have hgc := (HGW.out.block HGL.out).cell
                      clear hR hGw
                      simp only [depV]
                      rintro _ rfl
                      rintro _ rfl
                      try go_simp
                      all_goals first
                        | (with_reducible exact Grow.refl _)
                        | (with_reducible exact ⟨Grow.refl _, rfl⟩)
                  · intro w5 hR
                    have HG5 : Hid (Grow W2 w5) := Lib.hid hR.of_drew
                    clear hR
                    simp only [finVC, List.take_succ_cons, List.take_zero, List.drop_succ_cons, List.drop_zero]
                    rintro _ rfl
                    rintro _ rfl
                    rintro _ rfl
                    rintro _ rfl
                    rintro _ rfl
                    rintro _ rfl
                    rintro _ rfl
                    rintro _ rfl
                    rintro _ rfl
                    rintro _ rfl
                    rintro _ rfl
                    rintro _ rfl
                    rintro _ rfl
                    rintro _ rfl
                    rintro _ rfl
                    rintro _ rfl
                    rintro _ rfl
                    rintro _ rfl
                    rintro _ rfl
                    rintro _ rfl
                    rintro _ rfl
                    rintro _ rfl
                    rintro _ rfl
                    rintro _ rfl
                    rintro _ rfl
                    rintro _ rfl
                    rintro _ rfl
                    rintro _ rfl
                    rintro _ rfl
                    rintro _ rfl
                    rintro _ rfl
                    rintro _ rfl
                    rintro _ rfl
                    rintro _ rfl
                    rintro _ rfl
                    rintro _ rfl
                    rintro _ rfl
                    rintro _ rfl
                    rintro _ rfl
                    rintro _ rfl
                    rintro _ rfl
                    rintro _ rfl
                    rintro _ rfl
                    rintro _ rfl
                    rintro _ rfl
                    rintro _ rfl
                    rintro _ rfl
                    rintro _ rfl
                    rintro _ rfl
                    rintro _ rfl
                    rintro _ rfl
                    rintro _ rfl
                    rintro _ rfl
                    rintro _ rfl
                    simp only [Act.put, List.setIfInBounds_toArray, List.set_cons_succ, List.set_cons_zero]
                    have HOK : Hid (okx = c5) := Lib.hid (by rw [HOG.out]; simp [d2, d3, d4])
                    cases c5
                    · go_wp2
                      go_ret
                      exact ⟨ret_bool (HNO.out HOK.out).symm, HG2.out.trans HG5.out⟩
                    · go_wp2
                      go_roundw
                      case rel => exact ⟨k + 1, by omega, by go_num, HGO.out HOK.out, HG2.out.trans HG5.out, HG5.out.block HN.out⟩
                      case measure => simp [intOf]; omega
                · have d4 : decide (till ≤ x) = false := decide_eq_false h4
                  have g4 : decide (x < till) = true := decide_eq_true (by omega)
                  skip
                  refine wp_region_lit 54 [[], [(0, 17)], [(1, 18)], [(2, 19)], [(3, 20)], [(4, 21)], [(4, 21), (5, 22)], [(4, 21), (6, 23)], [(4, 21), (7, 24)], [(4, 21), (8, 25)], [(9, 26)], [(10, 27)], [(10, 27), (11, 28)], [(10, 27)], [(10, 27), (13, 30)], [(10, 27), (14, 31)], [(10, 27), (15, 32)], [(10, 27), (12, 29), (16, 33)], [(10, 27), (17, 34)], [(10, 27), (18, 35)], [(19, 36)], [(20, 37)], [(20, 37), (21, 38)], [(20, 37), (22, 39)], [(20, 37), (23, 40)], [(24, 41)], [(25, 42)], [(25, 42), (26, 43)], [(25, 42)], [(25, 42), (28, 45)], [(25, 42), (27, 44), (29, 46)], [(25, 42), (30, 47)], [(31, 48)], [(32, 49)], [(32, 49), (33, 50)], [(32, 49)], [(32, 49), (35, 52)], [(32, 49)], [(32, 49), (37, 54)], [(32, 49), (36, 53), (38, 55)], [(32, 49), (39, 56)], [(32, 49), (34, 51), (40, 57)], [(32, 49), (41, 58)], [(42, 59)], [(43, 60)], [(43, 60), (44, 61)], [(43, 60)], [(43, 60), (46, 63)], [(43, 60), (47, 64)], [(43, 60), (48, 65)], [(43, 60), (49, 66)], [(43, 60), (45, 62), (50, 67)], [(43, 60), (51, 68)], [(43, 60), (52, 69)]] Grow (fun qi v w' => match qi with
                      | 0 => v = .pointer (some ⟨bg, 0, none⟩)
                      | 1 => v = .int .i64 author
                      | 2 => v = .bool true
                      | 3 => v = .bool false
                      | 4 => v = .bool false
                      | 5 => v = .pointer (some ⟨bg, 1, none⟩)
                      | 6 => v = .int .i64 stamp
                      | 7 => v = .bool true
                      | 8 => v = .bool false
                      | 9 => v = .bool false
                      | 10 => v = .bool false
                      | 11 => v = .pointer (some ⟨bg, 2, none⟩)
                      | 12 => v = .int .i64 (kf : Nat)
                      | 13 => v = .pointer (some ⟨w.heap.size, 0, none⟩)
                      | 14 => v = .slice (some ⟨bf, of, none⟩) frames.length ca
                      | 15 => v = .int .i64 (frames.length : Nat)
                      | 16 => v = .int .i64 ((frames.length : Int) - 1)
                      | 17 => v = .bool true
                      | 18 => v = .bool false
                      | 19 => v = .bool false
                      | 20 => v = .bool false
                      | 21 => v = .pointer (some ⟨bg, 3, none⟩)
                      | 22 => v = .int .i64 frm
                      | 23 => v = .bool false
                      | 24 => v = .bool false
                      | 25 => v = .bool false
                      | 26 => v = .pointer (some ⟨bg, 3, none⟩)
                      | 27 => v = .int .i64 frm
                      | 28 => v = .pointer (some ⟨bg, 4, none⟩)
                      | 29 => v = .int .i64 till
                      | 30 => v = .bool false
                      | 31 => v = .bool false
                      | 32 => v = .bool false
                      | 33 => v = .pointer (some ⟨bg, 4, none⟩)
                      | 34 => v = .int .i64 till
                      | 35 => v = .pointer (some ⟨w.heap.size, 0, none⟩)
                      | 36 => v = .slice (some ⟨bf, of, none⟩) frames.length ca
                      | 37 => v = .pointer (some ⟨bg, 2, none⟩)
                      | 38 => v = .int .i64 (kf : Nat)
                      | 39 => v = .pointer (some ⟨bf, of + kf, none⟩)
                      | 40 => v = .int .i64 x
                      | 41 => v = .bool true
                      | 42 => v = .bool true
                      | 43 => v = .bool true
                      | 44 => v = undef
                      | 45 => v = undef
                      | 46 => v = undef
                      | 47 => v = undef
                      | 48 => v = undef
                      | 49 => v = undef
                      | 50 => v = undef
                      | 51 => v = undef
                      | 52 => v = undef
                      | 53 => v = .bool true
                      | _ => False) (by kernel_rfl) (by kernel_rfl) (fun _ _ _ => Grow.trans) Grow.refl ?_ ?_ ?_
                  · intro i v y y' h k
                    match i, h with
                    | 0, h | 1, h | 2, h | 3, h | 4, h | 5, h | 6, h | 7, h | 8, h | 9, h | 10, h | 11, h | 12, h | 13, h | 14, h | 15, h | 16, h | 17, h | 18, h | 19, h | 20, h | 21, h | 22, h | 23, h | 24, h | 25, h | 26, h | 27, h | 28, h | 29, h | 30, h | 31, h | 32, h | 33, h | 34, h | 35, h | 36, h | 37, h | 38, h | 39, h | 40, h | 41, h | 42, h | 43, h | 44, h | 45, h | 46, h | 47, h | 48, h | 49, h | 50, h | 51, h | 52, h | 53, h => exact h
                  · simp only [StepsLit, List.take_succ_cons, List.take_zero]
                    refine ⟨?_, ?_, ?_, ?_, ?_, ?_, ?_, ?_, ?_, ?_, ?_, ?_, ?_, ?_, ?_, ?_, ?_, ?_, ?_, ?_, ?_, ?_, ?_, ?_, ?_, ?_, ?_, ?_, ?_, ?_, ?_, ?_, ?_, ?_, ?_, ?_, ?_, ?_, ?_, ?_, ?_, ?_, ?_, ?_, ?_, ?_, ?_, ?_, ?_, ?_, ?_, ?_, ?_, ?_, trivial⟩
                    · intro w5 hR
                      have hGw : Grow W2 w5 := hR.of_drew
                      have HGW := Lib.hid hGw
                      have hcc := (HGW.out.block HN.out).cell
                      have hgc := (HGW.out.block HGL.out).cell
                      clear hR hGw
                      simp only [depV]
                      try go_simp
                      all_goals first
                        | (with_reducible exact Grow.refl _)
                        | (with_reducible exact ⟨Grow.refl _, rfl⟩)
                    · intro w5 hR
                      have hGw : Grow W2 w5 := hR.of_drew
                      have HGW := Lib.hid hGw
                      have hcc := (HGW.out.block HN.out).cell
                      have hgc := (HGW.out.block HGL.out).cell
                      clear hR hGw
                      simp only [depV]
                      rintro _ rfl
                      try go_simp
                      all_goals first
                        | (with_reducible exact Grow.refl _)
                        | (with_reducible exact ⟨Grow.refl _, rfl⟩)
                    · intro w5 hR
                      have hGw : Grow W2 w5 := hR.of_drew
                      have HGW := Lib.hid hGw
                      have hcc := (HGW.out.block HN.out).cell
                      have hgc := (HGW.out.block HGL.out).cell
                      clear hR hGw
                      simp only [depV]
                      rintro _ rfl
                      try go_simp
                      refine (HA.out _).mono ?_
                      rintro e w6 ⟨rfl, rfl⟩
                      exact ⟨Grow.refl _, rfl⟩
                    · intro w5 hR
                      have hGw : Grow W2 w5 := hR.of_drew
                      have HGW := Lib.hid hGw
                      have hcc := (HGW.out.block HN.out).cell
                      have hgc := (HGW.out.block HGL.out).cell
                      clear hR hGw
                      simp only [depV]
                      rintro _ rfl
                      try go_simp
                      all_goals first
                        | (with_reducible exact Grow.refl _)
                        | (with_reducible exact ⟨Grow.refl _, rfl⟩)
                    · intro w5 hR
                      have hGw : Grow W2 w5 := hR.of_drew
                      have HGW := Lib.hid hGw
                      have hcc := (HGW.out.block HN.out).cell
                      have hgc := (HGW.out.block HGL.out).cell
                      clear hR hGw
                      simp only [depV]
                      rintro _ rfl
                      try go_simp
                      all_goals first
                        | (with_reducible exact Grow.refl _)
                        | (with_reducible exact ⟨Grow.refl _, rfl⟩)
                    · intro w5 hR
                      have hGw : Grow W2 w5 := hR.of_drew
                      have HGW := Lib.hid hGw
                      have hcc := (HGW.out.block HN.out).cell
                      have hgc := (HGW.out.block HGL.out).cell
                      clear hR hGw
                      simp only [depV]
                      rintro _ rfl
                      try go_simp
                      all_goals first
                        | (with_reducible exact Grow.refl _)
                        | (with_reducible exact ⟨Grow.refl _, rfl⟩)
                    · intro w5 hR
                      have hGw : Grow W2 w5 := hR.of_drew
                      have HGW := Lib.hid hGw
                      have hcc := (HGW.out.block HN.out).cell
                      have hgc := (HGW.out.block HGL.out).cell
                      clear hR hGw
                      simp only [depV]
                      rintro _ rfl
                      rintro _ rfl
                      try go_simp
                      all_goals first
                        | (with_reducible exact Grow.refl _)
                        | (with_reducible exact ⟨Grow.refl _, rfl⟩)
                    · intro w5 hR
                      have hGw : Grow W2 w5 := hR.of_drew
                      have HGW := Lib.hid hGw
                      have hcc := (HGW.out.block HN.out).cell
                      have hgc := (HGW.out.block HGL.out).cell
                      clear hR hGw
                      simp only [depV]
                      rintro _ rfl
                      rintro _ rfl
                      try go_simp
                      refine (HB.out _).mono ?_
                      rintro e w6 ⟨rfl, rfl⟩
                      exact ⟨Grow.refl _, rfl⟩
                    · intro w5 hR
                      have hGw : Grow W2 w5 := hR.of_drew
                      have HGW := Lib.hid hGw
                      have hcc := (HGW.out.block HN.out).cell
                      have hgc := (HGW.out.block HGL.out).cell
                      clear hR hGw
                      simp only [depV]
                      rintro _ rfl
                      rintro _ rfl
                      try go_simp
                      all_goals first
                        | (with_reducible exact Grow.refl _)
                        | (with_reducible exact ⟨Grow.refl _, rfl⟩)
                    · intro w5 hR
                      have hGw : Grow W2 w5 := hR.of_drew
                      have HGW := Lib.hid hGw
                      have hcc := (HGW.out.block HN.out).cell
                      have hgc := (HGW.out.block HGL.out).cell
                      clear hR hGw
                      simp only [depV]
                      rintro _ rfl
                      rintro _ rfl
                      try go_simp
                      all_goals first
                        | (with_reducible exact Grow.refl _)
                        | (with_reducible exact ⟨Grow.refl _, rfl⟩)
                    · intro w5 hR
                      have hGw : Grow W2 w5 := hR.of_drew
                      have HGW := Lib.hid hGw
                      have hcc := (HGW.out.block HN.out).cell
                      have hgc := (HGW.out.block HGL.out).cell
                      clear hR hGw
                      simp only [depV]
                      rintro _ rfl
                      try go_simp
                      all_goals first
                        | (with_reducible exact Grow.refl _)
                        | (with_reducible exact ⟨Grow.refl _, rfl⟩)
                    · intro w5 hR
                      have hGw : Grow W2 w5 := hR.of_drew
                      have HGW := Lib.hid hGw
                      have hcc := (HGW.out.block HN.out).cell
                      have hgc := (HGW.out.block HGL.out).cell
                      clear hR hGw
                      simp only [depV]
                      rintro _ rfl
                      try go_simp
                      all_goals first
                        | (with_reducible exact Grow.refl _)
                        | (with_reducible exact ⟨Grow.refl _, rfl⟩)
                    · intro w5 hR
                      have hGw : Grow W2 w5 := hR.of_drew
                      have HGW := Lib.hid hGw
                      have hcc := (HGW.out.block HN.out).cell
                      have hgc := (HGW.out.block HGL.out).cell
                      clear hR hGw
                      simp only [depV]
                      rintro _ rfl
                      rintro _ rfl
                      try go_simp
                      all_goals first
                        | (with_reducible exact Grow.refl _)
                        | (with_reducible exact ⟨Grow.refl _, rfl⟩)
                    · intro w5 hR
                      have hGw : Grow W2 w5 := hR.of_drew
                      have HGW := Lib.hid hGw
                      have hcc := (HGW.out.block HN.out).cell
                      have hgc := (HGW.out.block HGL.out).cell
                      clear hR hGw
                      simp only [depV]
                      rintro _ rfl
                      try go_simp
                      all_goals first
                        | (with_reducible exact Grow.refl _)
                        | (with_reducible exact ⟨Grow.refl _, rfl⟩)
                    · intro w5 hR
                      have hGw : Grow W2 w5 := hR.of_drew
                      have HGW := Lib.hid hGw
                      have hcc := (HGW.out.block HN.out).cell
                      have hgc := (HGW.out.block HGL.out).cell
                      clear hR hGw
                      simp only [depV]
                      rintro _ rfl
                      rintro _ rfl
                      try go_simp
                      all_goals first
                        | (with_reducible exact Grow.refl _)
                        | (with_reducible exact ⟨Grow.refl _, rfl⟩)
                    · intro w5 hR
                      have hGw : Grow W2 w5 := hR.of_drew
                      have HGW := Lib.hid hGw
                      have hcc := (HGW.out.block HN.out).cell
                      have hgc := (HGW.out.block HGL.out).cell
                      clear hR hGw
                      simp only [depV]
                      rintro _ rfl
                      rintro _ rfl
                      try go_simp
                      all_goals first
                        | (with_reducible exact Grow.refl _)
                        | (with_reducible exact ⟨Grow.refl _, rfl⟩)
                    · intro w5 hR
                      have hGw : Grow W2 w5 := hR.of_drew
                      have HGW := Lib.hid hGw
                      have hcc := (HGW.out.block HN.out).cell
                      have hgc := (HGW.out.block HGL.out).cell
                      clear hR hGw
                      simp only [depV]
                      rintro _ rfl
                      rintro _ rfl
                      try go_simp
                      exact ⟨Grow.refl _, IntWalk.i64_in _ (by omega)⟩
                    · intro w5 hR
                      have hGw : Grow W2 w5 := hR.of_drew
                      have HGW := Lib.hid hGw
                      have hcc := (HGW.out.block HN.out).cell
                      have hgc := (HGW.out.block HGL.out).cell
                      clear hR hGw
                      simp only [depV]
                      rintro _ rfl
                      rintro _ rfl
                      rintro _ rfl
                      try go_simp
                      refine (HF.out _).mono ?_
                      rintro e w6 ⟨rfl, rfl⟩
                      exact ⟨Grow.refl _, rfl⟩
                    · intro w5 hR
                      have hGw : Grow W2 w5 := hR.of_drew
                      have HGW := Lib.hid hGw
                      have hcc := (HGW.out.block HN.out).cell
                      have hgc := (HGW.out.block HGL.out).cell
                      clear hR hGw
                      simp only [depV]
                      rintro _ rfl
                      rintro _ rfl
                      try go_simp
                      all_goals first
                        | (with_reducible exact Grow.refl _)
                        | (with_reducible exact ⟨Grow.refl _, rfl⟩)
                    · intro w5 hR
                      have hGw : Grow W2 w5 := hR.of_drew
                      have HGW := Lib.hid hGw
                      have hcc := (HGW.out.block HN.out).cell
                      have hgc := (HGW.out.block HGL.out).cell
                      clear hR hGw
                      simp only [depV]
                      rintro _ rfl
                      rintro _ rfl
                      try go_simp
                      all_goals first
                        | (with_reducible exact Grow.refl _)
                        | (with_reducible exact ⟨Grow.refl _, rfl⟩)
                    · intro w5 hR
                      have hGw : Grow W2 w5 := hR.of_drew
                      have HGW := Lib.hid hGw
                      have hcc := (HGW.out.block HN.out).cell
                      have hgc := (HGW.out.block HGL.out).cell
                      clear hR hGw
                      simp only [depV]
                      rintro _ rfl
                      try go_simp
                      all_goals first
                        | (with_reducible exact Grow.refl _)
                        | (with_reducible exact ⟨Grow.refl _, rfl⟩)
                    · intro w5 hR
                      have hGw : Grow W2 w5 := hR.of_drew
                      have HGW := Lib.hid hGw
                      have hcc := (HGW.out.block HN.out).cell
                      have hgc := (HGW.out.block HGL.out).cell
                      clear hR hGw
                      simp only [depV]
                      rintro _ rfl
                      try go_simp
                      all_goals first
                        | (with_reducible exact Grow.refl _)
                        | (with_reducible exact ⟨Grow.refl _, rfl⟩)
                    · intro w5 hR
                      have hGw : Grow W2 w5 := hR.of_drew
                      have HGW := Lib.hid hGw
                      have hcc := (HGW.out.block HN.out).cell
                      have hgc := (HGW.out.block HGL.out).cell
                      clear hR hGw
                      simp only [depV]
                      rintro _ rfl
                      rintro _ rfl
                      try go_simp
                      all_goals first
                        | (with_reducible exact Grow.refl _)
                        | (with_reducible exact ⟨Grow.refl _, rfl⟩)
                    · intro w5 hR
                      have hGw : Grow W2 w5 := hR.of_drew
                      have HGW := Lib.hid hGw
                      have hcc := (HGW.out.block HN.out).cell
                      have hgc := (HGW.out.block HGL.out).cell
                      clear hR hGw
                      simp only [depV]
                      rintro _ rfl
                      rintro _ rfl
                      try go_simp
                      all_goals first
                        | (with_reducible exact Grow.refl _)
                        | (with_reducible exact ⟨Grow.refl _, rfl⟩)
                    · intro w5 hR
                      have hGw : Grow W2 w5 := hR.of_drew
                      have HGW := Lib.hid hGw
                      have hcc := (HGW.out.block HN.out).cell
                      have hgc := (HGW.out.block HGL.out).cell
                      clear hR hGw
                      simp only [depV]
                      rintro _ rfl
                      rintro _ rfl
                      try go_simp
                      all_goals first
                        | (with_reducible exact Grow.refl _)
                        | (with_reducible exact ⟨Grow.refl _, rfl⟩)
                    · intro w5 hR
                      have hGw : Grow W2 w5 := hR.of_drew
                      have HGW := Lib.hid hGw
                      have hcc := (HGW.out.block HN.out).cell
                      have hgc := (HGW.out.block HGL.out).cell
                      clear hR hGw
                      simp only [depV]
                      rintro _ rfl
                      try go_simp
                      all_goals first
                        | (with_reducible exact Grow.refl _)
                        | (with_reducible exact ⟨Grow.refl _, rfl⟩)
                    · intro w5 hR
                      have hGw : Grow W2 w5 := hR.of_drew
                      have HGW := Lib.hid hGw
                      have hcc := (HGW.out.block HN.out).cell
                      have hgc := (HGW.out.block HGL.out).cell
                      clear hR hGw
                      simp only [depV]
                      rintro _ rfl
                      try go_simp
                      all_goals first
                        | (with_reducible exact Grow.refl _)
                        | (with_reducible exact ⟨Grow.refl _, rfl⟩)
                    · intro w5 hR
                      have hGw : Grow W2 w5 := hR.of_drew
                      have HGW := Lib.hid hGw
                      have hcc := (HGW.out.block HN.out).cell
                      have hgc := (HGW.out.block HGL.out).cell
                      clear hR hGw
                      simp only [depV]
                      rintro _ rfl
                      rintro _ rfl
                      try go_simp
                      all_goals first
                        | (with_reducible exact Grow.refl _)
                        | (with_reducible exact ⟨Grow.refl _, rfl⟩)
                    · intro w5 hR
                      have hGw : Grow W2 w5 := hR.of_drew
                      have HGW := Lib.hid hGw
                      have hcc := (HGW.out.block HN.out).cell
                      have hgc := (HGW.out.block HGL.out).cell
                      clear hR hGw
                      simp only [depV]
                      rintro _ rfl
                      try go_simp
                      all_goals first
                        | (with_reducible exact Grow.refl _)
                        | (with_reducible exact ⟨Grow.refl _, rfl⟩)
                    · intro w5 hR
                      have hGw : Grow W2 w5 := hR.of_drew
                      have HGW := Lib.hid hGw
                      have hcc := (HGW.out.block HN.out).cell
                      have hgc := (HGW.out.block HGL.out).cell
                      clear hR hGw
                      simp only [depV]
                      rintro _ rfl
                      rintro _ rfl
                      try go_simp
                      all_goals first
                        | (with_reducible exact Grow.refl _)
                        | (with_reducible exact ⟨Grow.refl _, rfl⟩)
                    · intro w5 hR
                      have hGw : Grow W2 w5 := hR.of_drew
                      have HGW := Lib.hid hGw
                      have hcc := (HGW.out.block HN.out).cell
                      have hgc := (HGW.out.block HGL.out).cell
                      clear hR hGw
                      simp only [depV]
                      rintro _ rfl
                      rintro _ rfl
                      rintro _ rfl
                      try go_simp
                      all_goals first
                        | (with_reducible exact Grow.refl _)
                        | (with_reducible exact ⟨Grow.refl _, rfl⟩)
                    · intro w5 hR
                      have hGw : Grow W2 w5 := hR.of_drew
                      have HGW := Lib.hid hGw
                      have hcc := (HGW.out.block HN.out).cell
                      have hgc := (HGW.out.block HGL.out).cell
                      clear hR hGw
                      simp only [depV]
                      rintro _ rfl
                      rintro _ rfl
                      try go_simp
                      all_goals first
                        | (with_reducible exact Grow.refl _)
                        | (with_reducible exact ⟨Grow.refl _, rfl⟩)
                    · intro w5 hR
                      have hGw : Grow W2 w5 := hR.of_drew
                      have HGW := Lib.hid hGw
                      have hcc := (HGW.out.block HN.out).cell
                      have hgc := (HGW.out.block HGL.out).cell
                      clear hR hGw
                      simp only [depV]
                      rintro _ rfl
                      try go_simp
                      all_goals first
                        | (with_reducible exact Grow.refl _)
                        | (with_reducible exact ⟨Grow.refl _, rfl⟩)
                    · intro w5 hR
                      have hGw : Grow W2 w5 := hR.of_drew
                      have HGW := Lib.hid hGw
                      have hcc := (HGW.out.block HN.out).cell
                      have hgc := (HGW.out.block HGL.out).cell
                      clear hR hGw
                      simp only [depV]
                      rintro _ rfl
                      try go_simp
                      all_goals first
                        | (with_reducible exact Grow.refl _)
                        | (with_reducible exact ⟨Grow.refl _, rfl⟩)
                    · intro w5 hR
                      have hGw : Grow W2 w5 := hR.of_drew
                      have HGW := Lib.hid hGw
                      have hcc := (HGW.out.block HN.out).cell
                      have hgc := (HGW.out.block HGL.out).cell
                      clear hR hGw
                      simp only [depV]
                      rintro _ rfl
                      rintro _ rfl
                      try go_simp
                      all_goals first
                        | (with_reducible exact Grow.refl _)
                        | (with_reducible exact ⟨Grow.refl _, rfl⟩)
                    · intro w5 hR
                      have hGw : Grow W2 w5 := hR.of_drew
                      have HGW := Lib.hid hGw
                      have hcc := (HGW.out.block HN.out).cell
                      have hgc := (HGW.out.block HGL.out).cell
                      clear hR hGw
                      simp only [depV]
                      rintro _ rfl
                      try go_simp
                      all_goals first
                        | (with_reducible exact Grow.refl _)
                        | (with_reducible exact ⟨Grow.refl _, rfl⟩)
                    · intro w5 hR
                      have hGw : Grow W2 w5 := hR.of_drew
                      have HGW := Lib.hid hGw
                      have hcc := (HGW.out.block HN.out).cell
                      have hgc := (HGW.out.block HGL.out).cell
                      clear hR hGw
                      simp only [depV]
                      rintro _ rfl
                      rintro _ rfl
                      try go_simp
                      all_goals first
                        | (with_reducible exact Grow.refl _)
                        | (with_reducible exact ⟨Grow.refl _, rfl⟩)
                    · intro w5 hR
                      have hGw : Grow W2 w5 := hR.of_drew
                      have HGW := Lib.hid hGw
                      have hcc := (HGW.out.block HN.out).cell
                      have hgc := (HGW.out.block HGL.out).cell
                      clear hR hGw
                      simp only [depV]
                      rintro _ rfl
                      try go_simp
                      all_goals first
                        | (with_reducible exact Grow.refl _)
                        | (with_reducible exact ⟨Grow.refl _, rfl⟩)
                    · intro w5 hR
                      have hGw : Grow W2 w5 := hR.of_drew
                      have HGW := Lib.hid hGw
                      have hcc := (HGW.out.block HN.out).cell
                      have hgc := (HGW.out.block HGL.out).cell
                      clear hR hGw
                      simp only [depV]
                      rintro _ rfl
                      rintro _ rfl
                      try go_simp
                      all_goals first
                        | (with_reducible exact Grow.refl _)
                        | (with_reducible exact ⟨Grow.refl _, rfl⟩)
                    · intro w5 hR
                      have hGw : Grow W2 w5 := hR.of_drew
                      have HGW := Lib.hid hGw
                      have hcc := (HGW.out.block HN.out).cell
                      have hgc := (HGW.out.block HGL.out).cell
                      clear hR hGw
                      simp only [depV]
                      rintro _ rfl
                      rintro _ rfl
                      rintro _ rfl
                      try go_simp
                      all_goals first
                        | (with_reducible exact Grow.refl _)
                        | (with_reducible exact ⟨Grow.refl _, rfl⟩)
                    · intro w5 hR
                      have hGw : Grow W2 w5 := hR.of_drew
                      have HGW := Lib.hid hGw
                      have hcc := (HGW.out.block HN.out).cell
                      have hgc := (HGW.out.block HGL.out).cell
                      clear hR hGw
                      simp only [depV]
                      rintro _ rfl
                      rintro _ rfl
                      have hxc := HXC.out w5 HGW.out
                      try go_simp
                      first
                        | (with_reducible exact Grow.refl _)
                        | (with_reducible exact ⟨Grow.refl _, rfl⟩)
                    · intro w5 hR
                      have hGw : Grow W2 w5 := hR.of_drew
                      have HGW := Lib.hid hGw
                      have hcc := (HGW.out.block HN.out).cell
                      have hgc := (HGW.out.block HGL.out).cell
                      clear hR hGw
                      simp only [depV]
                      rintro _ rfl
                      rintro _ rfl
                      rintro _ rfl
                      try go_simp
                      all_goals first
                        | (with_reducible exact Grow.refl _)
                        | (with_reducible exact ⟨Grow.refl _, rfl⟩)
                    · intro w5 hR
                      have hGw : Grow W2 w5 := hR.of_drew
                      have HGW := Lib.hid hGw
                      have hcc := (HGW.out.block HN.out).cell
                      have hgc := (HGW.out.block HGL.out).cell
                      clear hR hGw
                      simp only [depV]
                      rintro _ rfl
                      rintro _ rfl
                      try go_simp
                      all_goals first
                        | (with_reducible exact Grow.refl _)
                        | (with_reducible exact ⟨Grow.refl _, rfl⟩)
                    · intro w5 hR
                      have hGw : Grow W2 w5 := hR.of_drew
                      have HGW := Lib.hid hGw
                      have hcc := (HGW.out.block HN.out).cell
                      have hgc := (HGW.out.block HGL.out).cell
                      clear hR hGw
                      simp only [depV]
                      rintro _ rfl
                      try go_simp
                      all_goals first
                        | (with_reducible exact Grow.refl _)
                        | (with_reducible exact ⟨Grow.refl _, rfl⟩)
                    · intro w5 hR
                      have hGw : Grow W2 w5 := hR.of_drew
                      have HGW := Lib.hid hGw
                      have hcc := (HGW.out.block HN.out).cell
                      have hgc := (HGW.out.block HGL.out).cell
                      clear hR hGw
                      simp only [depV]
                      rintro _ rfl
                      try go_simp
                      all_goals first
                        | (with_reducible exact Grow.refl _)
                        | (with_reducible exact ⟨Grow.refl _, rfl⟩)
                    · intro w5 hR
                      have hGw : Grow W2 w5 := hR.of_drew
                      have HGW := Lib.hid hGw
                      have hcc := (HGW.out.block HN.out).cell
                      have hgc := (HGW.out.block HGL.out).cell
                      clear hR hGw
                      simp only [depV]
                      rintro _ rfl
                      rintro _ rfl
                      try go_simp
                      all_goals first
                        | (with_reducible exact Grow.refl _)
                        | (with_reducible exact ⟨Grow.refl _, rfl⟩)
                    · intro w5 hR
                      have hGw : Grow W2 w5 := hR.of_drew
                      have HGW := Lib.hid hGw
                      have hcc := (HGW.out.block HN.out).cell
                      have hgc := (HGW.out.block HGL.out).cell
                      clear hR hGw
                      simp only [depV]
                      rintro _ rfl
                      try go_simp
                      all_goals first
                        | (with_reducible exact Grow.refl _)
                        | (with_reducible exact ⟨Grow.refl _, rfl⟩)
                    · intro w5 hR
                      have hGw : Grow W2 w5 := hR.of_drew
                      have HGW := Lib.hid hGw
                      have hcc := (HGW.out.block HN.out).cell
                      have hgc := (HGW.out.block HGL.out).cell
                      clear hR hGw
                      simp only [depV]
                      rintro _ rfl
                      rintro _ rfl
                      try go_simp
                      all_goals first
                        | (with_reducible exact Grow.refl _)
                        | (with_reducible exact ⟨Grow.refl _, rfl⟩)
                    · intro w5 hR
                      have hGw : Grow W2 w5 := hR.of_drew
                      have HGW := Lib.hid hGw
                      have hcc := (HGW.out.block HN.out).cell
                      have hgc := (HGW.out.block HGL.out).cell
                      clear hR hGw
                      simp only [depV]
                      rintro _ rfl
                      rintro _ rfl
                      try go_simp
                      all_goals first
                        | (with_reducible exact Grow.refl _)
                        | (with_reducible exact ⟨Grow.refl _, rfl⟩)
                    · intro w5 hR
                      have hGw : Grow W2 w5 := hR.of_drew
                      have HGW := Lib.hid hGw
                      have hcc := (HGW.out.block HN.out).cell
                      have hgc := (HGW.out.block HGL.out).cell
                      clear hR hGw
                      simp only [depV]
                      rintro _ rfl
                      rintro _ rfl
                      try go_simp
                      all_goals first
                        | (with_reducible exact Grow.refl _)
                        | (with_reducible exact ⟨Grow.refl _, rfl⟩)
                    · intro w5 hR
                      have hGw : Grow W2 w5 := hR.of_drew
                      have HGW := Lib.hid hGw
                      have hcc := (HGW.out.block HN.out).cell
                      have hgc := (HGW.out.block HGL.out).cell
                      clear hR hGw
                      simp only [depV]
                      rintro _ rfl
                      rintro _ rfl
                      try go_simp
                      all_goals first
                        | (with_reducible exact Grow.refl _)
                        | (with_reducible exact ⟨Grow.refl _, rfl⟩)
                    · intro w5 hR
                      have hGw : Grow W2 w5 := hR.of_drew
                      have HGW := Lib.hid hGw
                      have hcc := (HGW.out.block HN.out).cell
                      have hgc := (HGW.out.block HGL.out).cell
                      clear hR hGw
                      simp only [depV]
                      rintro _ rfl
                      rintro _ rfl
                      rintro _ rfl
                      try go_simp
                      all_goals first
                        | (with_reducible exact Grow.refl _)
                        | (with_reducible exact ⟨Grow.refl _, rfl⟩)
                    · intro w5 hR
                      have hGw : Grow W2 w5 := hR.of_drew
                      have HGW := Lib.hid hGw
                      have hcc := (HGW.out.block HN.out).cell
                      have hgc := (HGW.out.block HGL.out).cell
                      clear hR hGw
                      simp only [depV]
                      rintro _ rfl
                      rintro _ rfl
                      try go_simp
                      all_goals first
                        | (with_reducible exact Grow.refl _)
                        | (with_reducible exact ⟨Grow.refl _, rfl⟩)
                    · intro w5 hR
                      have hGw : Grow W2 w5 := hR.of_drew
                      have HGW := Lib.hid hGw
                      have hcc := (HGW.out.block HN.out).cell
                      have hgc := (HGW.out.block HGL.out).cell
                      clear hR hGw
                      simp only [depV]
                      rintro _ rfl
                      rintro _ rfl
                      try go_simp
                      all_goals first
                        | (with_reducible exact Grow.refl _)
                        | (with_reducible exact ⟨Grow.refl _, rfl⟩)
                  · intro w5 hR
                    have HG5 : Hid (Grow W2 w5) := Lib.hid hR.of_drew
                    clear hR
                    simp only [finVC, List.take_succ_cons, List.take_zero, List.drop_succ_cons, List.drop_zero]
                    rintro _ rfl
                    rintro _ rfl
                    rintro _ rfl
                    rintro _ rfl
                    rintro _ rfl
                    rintro _ rfl
                    rintro _ rfl
                    rintro _ rfl
                    rintro _ rfl
                    rintro _ rfl
                    rintro _ rfl
                    rintro _ rfl
                    rintro _ rfl
                    rintro _ rfl
                    rintro _ rfl
                    rintro _ rfl
                    rintro _ rfl
                    rintro _ rfl
                    rintro _ rfl
                    rintro _ rfl
                    rintro _ rfl
                    rintro _ rfl
                    rintro _ rfl
                    rintro _ rfl
                    rintro _ rfl
                    rintro _ rfl
                    rintro _ rfl
                    rintro _ rfl
                    rintro _ rfl
                    rintro _ rfl
                    rintro _ rfl
                    rintro _ rfl
                    rintro _ rfl
                    rintro _ rfl
                    rintro _ rfl
                    rintro _ rfl
                    rintro _ rfl
                    rintro _ rfl
                    rintro _ rfl
                    rintro _ rfl
                    rintro _ rfl
                    rintro _ rfl
                    rintro _ rfl
                    rintro _ rfl
                    rintro _ rfl
                    rintro _ rfl
                    rintro _ rfl
                    rintro _ rfl
                    rintro _ rfl
                    rintro _ rfl
                    rintro _ rfl
                    rintro _ rfl
                    rintro _ rfl
                    rintro _ rfl
                    simp only [Act.put, List.setIfInBounds_toArray, List.set_cons_succ, List.set_cons_zero]
                    have HOK : Hid (okx = false) := Lib.hid (by rw [HOG.out]; simp [d2, d3, d4])
                    go_wp2
                    go_ret
                    exact ⟨ret_bool (HNO.out HOK.out).symm, HG2.out.trans HG5.out⟩
              · have d3 : decide (frm < till) = false := decide_eq_false h3
                have g3 : decide (till ≤ frm) = true := decide_eq_true (by omega)
                skip
                refine wp_region_lit 54 [[], [(0, 17)], [(1, 18)], [(2, 19)], [(3, 20)], [(4, 21)], [(4, 21), (5, 22)], [(4, 21), (6, 23)], [(4, 21), (7, 24)], [(4, 21), (8, 25)], [(9, 26)], [(10, 27)], [(10, 27), (11, 28)], [(10, 27)], [(10, 27), (13, 30)], [(10, 27), (14, 31)], [(10, 27), (15, 32)], [(10, 27), (12, 29), (16, 33)], [(10, 27), (17, 34)], [(10, 27), (18, 35)], [(19, 36)], [(20, 37)], [(20, 37), (21, 38)], [(20, 37), (22, 39)], [(20, 37), (23, 40)], [(24, 41)], [(25, 42)], [(25, 42), (26, 43)], [(25, 42)], [(25, 42), (28, 45)], [(25, 42), (27, 44), (29, 46)], [(25, 42), (30, 47)], [(31, 48)], [(32, 49)], [(32, 49), (33, 50)], [(32, 49)], [(32, 49), (35, 52)], [(32, 49)], [(32, 49), (37, 54)], [(32, 49), (36, 53), (38, 55)], [(32, 49), (39, 56)], [(32, 49), (34, 51), (40, 57)], [(32, 49), (41, 58)], [(42, 59)], [(43, 60)], [(43, 60), (44, 61)], [(43, 60)], [(43, 60), (46, 63)], [(43, 60), (47, 64)], [(43, 60), (48, 65)], [(43, 60), (49, 66)], [(43, 60), (45, 62), (50, 67)], [(43, 60), (51, 68)], [(43, 60), (52, 69)]] Grow (fun qi v w' => match qi with
                    | 0 => v = .pointer (some ⟨bg, 0, none⟩)
                    | 1 => v = .int .i64 author
                    | 2 => v = .bool true
                    | 3 => v = .bool false
                    | 4 => v = .bool false
                    | 5 => v = .pointer (some ⟨bg, 1, none⟩)
                    | 6 => v = .int .i64 stamp
                    | 7 => v = .bool true
                    | 8 => v = .bool false
                    | 9 => v = .bool false
                    | 10 => v = .bool false
                    | 11 => v = .pointer (some ⟨bg, 2, none⟩)
                    | 12 => v = .int .i64 (kf : Nat)
                    | 13 => v = .pointer (some ⟨w.heap.size, 0, none⟩)
                    | 14 => v = .slice (some ⟨bf, of, none⟩) frames.length ca
                    | 15 => v = .int .i64 (frames.length : Nat)
                    | 16 => v = .int .i64 ((frames.length : Int) - 1)
                    | 17 => v = .bool true
                    | 18 => v = .bool false
                    | 19 => v = .bool false
                    | 20 => v = .bool false
                    | 21 => v = .pointer (some ⟨bg, 3, none⟩)
                    | 22 => v = .int .i64 frm
                    | 23 => v = .bool false
                    | 24 => v = .bool false
                    | 25 => v = .bool false
                    | 26 => v = .pointer (some ⟨bg, 3, none⟩)
                    | 27 => v = .int .i64 frm
                    | 28 => v = .pointer (some ⟨bg, 4, none⟩)
                    | 29 => v = .int .i64 till
                    | 30 => v = .bool true
                    | 31 => v = .bool true
                    | 32 => v = .bool true
                    | 33 => v = undef
                    | 34 => v = undef
                    | 35 => v = undef
                    | 36 => v = undef
                    | 37 => v = undef
                    | 38 => v = undef
                    | 39 => v = undef
                    | 40 => v = undef
                    | 41 => v = undef
                    | 42 => v = .bool true
                    | 43 => v = .bool true
                    | 44 => v = undef
                    | 45 => v = undef
                    | 46 => v = undef
                    | 47 => v = undef
                    | 48 => v = undef
                    | 49 => v = undef
                    | 50 => v = undef
                    | 51 => v = undef
                    | 52 => v = undef
                    | 53 => v = .bool true
                    | _ => False) (by kernel_rfl) (by kernel_rfl) (fun _ _ _ => Grow.trans) Grow.refl ?_ ?_ ?_
                · intro i v y y' h k
                  match i, h with
                  | 0, h | 1, h | 2, h | 3, h | 4, h | 5, h | 6, h | 7, h | 8, h | 9, h | 10, h | 11, h | 12, h | 13, h | 14, h | 15, h | 16, h | 17, h | 18, h | 19, h | 20, h | 21, h | 22, h | 23, h | 24, h | 25, h | 26, h | 27, h | 28, h | 29, h | 30, h | 31, h | 32, h | 33, h | 34, h | 35, h | 36, h | 37, h | 38, h | 39, h | 40, h | 41, h | 42, h | 43, h | 44, h | 45, h | 46, h | 47, h | 48, h | 49, h | 50, h | 51, h | 52, h | 53, h => exact h
                · simp only [StepsLit, List.take_succ_cons, List.take_zero]
                  refine ⟨?_, ?_, ?_, ?_, ?_, ?_, ?_, ?_, ?_, ?_, ?_, ?_, ?_, ?_, ?_, ?_, ?_, ?_, ?_, ?_, ?_, ?_, ?_, ?_, ?_, ?_, ?_, ?_, ?_, ?_, ?_, ?_, ?_, ?_, ?_, ?_, ?_, ?_, ?_, ?_, ?_, ?_, ?_, ?_, ?_, ?_, ?_, ?_, ?_, ?_, ?_, ?_, ?_, ?_, trivial⟩
                  · intro w5 hR
                    have hGw : Grow W2 w5 := hR.of_drew
                    have HGW := Lib.hid hGw
                    have hcc := (HGW.out.block HN.out).cell
                    have hgc := (HGW.out.block HGL.out).cell
                    clear hR hGw
                    simp only [depV]
                    try go_simp
                    all_goals first
                      | (with_reducible exact Grow.refl _)
                      | (with_reducible exact ⟨Grow.refl _, rfl⟩)
                  · intro w5 hR
                    have hGw : Grow W2 w5 := hR.of_drew
                    have HGW := Lib.hid hGw
                    have hcc := (HGW.out.block HN.out).cell
                    have hgc := (HGW.out.block HGL.out).cell
                    clear hR hGw
                    simp only [depV]
                    rintro _ rfl
                    try go_simp
                    all_goals first
                      | (with_reducible exact Grow.refl _)
                      | (with_reducible exact ⟨Grow.refl _, rfl⟩)
                  · intro w5 hR
                    have hGw : Grow W2 w5 := hR.of_drew
                    have HGW := Lib.hid hGw
                    have hcc := (HGW.out.block HN.out).cell
                    have hgc := (HGW.out.block HGL.out).cell
                    clear hR hGw
                    simp only [depV]
                    rintro _ rfl
                    try go_simp
                    refine (HA.out _).mono ?_
                    rintro e w6 ⟨rfl, rfl⟩
                    exact ⟨Grow.refl _, rfl⟩
                  · intro w5 hR
                    have hGw : Grow W2 w5 := hR.of_drew
                    have HGW := Lib.hid hGw
                    have hcc := (HGW.out.block HN.out).cell
                    have hgc := (HGW.out.block HGL.out).cell
                    clear hR hGw
                    simp only [depV]
                    rintro _ rfl
                    try go_simp
                    all_goals first
                      | (with_reducible exact Grow.refl _)
                      | (with_reducible exact ⟨Grow.refl _, rfl⟩)
                  · intro w5 hR
                    have hGw : Grow W2 w5 := hR.of_drew
                    have HGW := Lib.hid hGw
                    have hcc := (HGW.out.block HN.out).cell
                    have hgc := (HGW.out.block HGL.out).cell
                    clear hR hGw
                    simp only [depV]
                    rintro _ rfl
                    try go_simp
                    all_goals first
                      | (with_reducible exact Grow.refl _)
                      | (with_reducible exact ⟨Grow.refl _, rfl⟩)
                  · intro w5 hR
                    have hGw : Grow W2 w5 := hR.of_drew
                    have HGW := Lib.hid hGw
                    have hcc := (HGW.out.block HN.out).cell
                    have hgc := (HGW.out.block HGL.out).cell
                    clear hR hGw
                    simp only [depV]
                    rintro _ rfl
                    try go_simp
                    all_goals first
                      | (with_reducible exact Grow.refl _)
                      | (with_reducible exact ⟨Grow.refl _, rfl⟩)
                  · intro w5 hR
                    have hGw : Grow W2 w5 := hR.of_drew
                    have HGW := Lib.hid hGw
                    have hcc := (HGW.out.block HN.out).cell
                    have hgc := (HGW.out.block HGL.out).cell
                    clear hR hGw
                    simp only [depV]
                    rintro _ rfl
                    rintro _ rfl
                    try go_simp
                    all_goals first
                      | (with_reducible exact Grow.refl _)
                      | (with_reducible exact ⟨Grow.refl _, rfl⟩)
                  · intro w5 hR
                    have hGw : Grow W2 w5 := hR.of_drew
                    have HGW := Lib.hid hGw
                    have hcc := (HGW.out.block HN.out).cell
                    have hgc := (HGW.out.block HGL.out).cell
                    clear hR hGw
                    simp only [depV]
                    rintro _ rfl
                    rintro _ rfl
                    try go_simp
                    refine (HB.out _).mono ?_
                    rintro e w6 ⟨rfl, rfl⟩
                    exact ⟨Grow.refl _, rfl⟩
                  · intro w5 hR
                    have hGw : Grow W2 w5 := hR.of_drew
                    have HGW := Lib.hid hGw
                    have hcc := (HGW.out.block HN.out).cell
                    have hgc := (HGW.out.block HGL.out).cell
                    clear hR hGw
                    simp only [depV]
                    rintro _ rfl
                    rintro _ rfl
                    try go_simp
                    all_goals first
                      | (with_reducible exact Grow.refl _)
                      | (with_reducible exact ⟨Grow.refl _, rfl⟩)
                  · intro w5 hR
                    have hGw : Grow W2 w5 := hR.of_drew
                    have HGW := Lib.hid hGw
                    have hcc := (HGW.out.block HN.out).cell
                    have hgc := (HGW.out.block HGL.out).cell
                    clear hR hGw
                    simp only [depV]
                    rintro _ rfl
                    rintro _ rfl
                    try go_simp
                    all_goals first
                      | (with_reducible exact Grow.refl _)
                      | (with_reducible exact ⟨Grow.refl _, rfl⟩)
                  · intro w5 hR
                    have hGw : Grow W2 w5 := hR.of_drew
                    have HGW := Lib.hid hGw
                    have hcc := (HGW.out.block HN.out).cell
                    have hgc := (HGW.out.block HGL.out).cell
                    clear hR hGw
                    simp only [depV]
                    rintro _ rfl
                    try go_simp
                    all_goals first
                      | (with_reducible exact Grow.refl _)
                      | (with_reducible exact ⟨Grow.refl _, rfl⟩)
                  · intro w5 hR
                    have hGw : Grow W2 w5 := hR.of_drew
                    have HGW := Lib.hid hGw
                    have hcc := (HGW.out.block HN.out).cell
                    have hgc := (HGW.out.block HGL.out).cell
                    clear hR hGw
                    simp only [depV]
                    rintro _ rfl
                    try go_simp
                    all_goals first
                      | (with_reducible exact Grow.refl _)
                      | (with_reducible exact ⟨Grow.refl _, rfl⟩)
                  · intro w5 hR
                    have hGw : Grow W2 w5 := hR.of_drew
                    have HGW := Lib.hid hGw
                    have hcc := (HGW.out.block HN.out).cell
                    have hgc := (HGW.out.block HGL.out).cell
                    clear hR hGw
                    simp only [depV]
                    rintro _ rfl
                    rintro _ rfl
                    try go_simp
                    all_goals first
                      | (with_reducible exact Grow.refl _)
                      | (with_reducible exact ⟨Grow.refl _, rfl⟩)
                  · intro w5 hR
                    have hGw : Grow W2 w5 := hR.of_drew
                    have HGW := Lib.hid hGw
                    have hcc := (HGW.out.block HN.out).cell
                    have hgc := (HGW.out.block HGL.out).cell
                    clear hR hGw
                    simp only [depV]
                    rintro _ rfl
                    try go_simp
                    all_goals first
                      | (with_reducible exact Grow.refl _)
                      | (with_reducible exact ⟨Grow.refl _, rfl⟩)
                  · intro w5 hR
                    have hGw : Grow W2 w5 := hR.of_drew
                    have HGW := Lib.hid hGw
                    have hcc := (HGW.out.block HN.out).cell
                    have hgc := (HGW.out.block HGL.out).cell
                    clear hR hGw
                    simp only [depV]
                    rintro _ rfl
                    rintro _ rfl
                    try go_simp
                    all_goals first
                      | (with_reducible exact Grow.refl _)
                      | (with_reducible exact ⟨Grow.refl _, rfl⟩)
                  · intro w5 hR
                    have hGw : Grow W2 w5 := hR.of_drew
                    have HGW := Lib.hid hGw
                    have hcc := (HGW.out.block HN.out).cell
                    have hgc := (HGW.out.block HGL.out).cell
                    clear hR hGw
                    simp only [depV]
                    rintro _ rfl
                    rintro _ rfl
                    try go_simp
                    all_goals first
                      | (with_reducible exact Grow.refl _)
                      | (with_reducible exact ⟨Grow.refl _, rfl⟩)
                  · intro w5 hR
                    have hGw : Grow W2 w5 := hR.of_drew
                    have HGW := Lib.hid hGw
                    have hcc := (HGW.out.block HN.out).cell
                    have hgc := (HGW.out.block HGL.out).cell
                    clear hR hGw
                    simp only [depV]
                    rintro _ rfl
                    rintro _ rfl
                    try go_simp
                    exact ⟨Grow.refl _, IntWalk.i64_in _ (by omega)⟩
                  · intro w5 hR
                    have hGw : Grow W2 w5 := hR.of_drew
                    have HGW := Lib.hid hGw
                    have hcc := (HGW.out.block HN.out).cell
                    have hgc := (HGW.out.block HGL.out).cell
                    clear hR hGw
                    simp only [depV]
                    rintro _ rfl
                    rintro _ rfl
                    rintro _ rfl
                    try go_simp
                    refine (HF.out _).mono ?_
                    rintro e w6 ⟨rfl, rfl⟩
                    exact ⟨Grow.refl _, rfl⟩
                  · intro w5 hR
                    have hGw : Grow W2 w5 := hR.of_drew
                    have HGW := Lib.hid hGw
                    have hcc := (HGW.out.block HN.out).cell
                    have hgc := (HGW.out.block HGL.out).cell
                    clear hR hGw
                    simp only [depV]
                    rintro _ rfl
                    rintro _ rfl
                    try go_simp
                    all_goals first
                      | (with_reducible exact Grow.refl _)
                      | (with_reducible exact ⟨Grow.refl _, rfl⟩)
                  · intro w5 hR
                    have hGw : Grow W2 w5 := hR.of_drew
                    have HGW := Lib.hid hGw
                    have hcc := (HGW.out.block HN.out).cell
                    have hgc := (HGW.out.block HGL.out).cell
                    clear hR hGw
                    simp only [depV]
                    rintro _ rfl
                    rintro _ rfl
                    try go_simp
                    all_goals first
                      | (with_reducible exact Grow.refl _)
                      | (with_reducible exact ⟨Grow.refl _, rfl⟩)
                  · intro w5 hR
                    have hGw : Grow W2 w5 := hR.of_drew
                    have HGW := Lib.hid hGw
                    have hcc := (HGW.out.block HN.out).cell
                    have hgc := (HGW.out.block HGL.out).cell
                    clear hR hGw
                    simp only [depV]
                    rintro _ rfl
                    try go_simp
                    all_goals first
                      | (with_reducible exact Grow.refl _)
                      | (with_reducible exact ⟨Grow.refl _, rfl⟩)
                  · intro w5 hR
                    have hGw : Grow W2 w5 := hR.of_drew
                    have HGW := Lib.hid hGw
                    have hcc := (HGW.out.block HN.out).cell
                    have hgc := (HGW.out.block HGL.out).cell
                    clear hR hGw
                    simp only [depV]
                    rintro _ rfl
                    try go_simp
                    all_goals first
                      | (with_reducible exact Grow.refl _)
                      | (with_reducible exact ⟨Grow.refl _, rfl⟩)
                  · intro w5 hR
                    have hGw : Grow W2 w5 := hR.of_drew
                    have HGW := Lib.hid hGw
                    have hcc := (HGW.out.block HN.out).cell
                    have hgc := (HGW.out.block HGL.out).cell
                    clear hR hGw
                    simp only [depV]
                    rintro _ rfl
                    rintro _ rfl
                    try go_simp
                    all_goals first
                      | (with_reducible exact Grow.refl _)
                      | (with_reducible exact ⟨Grow.refl _, rfl⟩)
                  · intro w5 hR
                    have hGw : Grow W2 w5 := hR.of_drew
                    have HGW := Lib.hid hGw
                    have hcc := (HGW.out.block HN.out).cell
                    have hgc := (HGW.out.block HGL.out).cell
                    clear hR hGw
                    simp only [depV]
                    rintro _ rfl
                    rintro _ rfl
                    try go_simp
                    all_goals first
                      | (with_reducible exact Grow.refl _)
                      | (with_reducible exact ⟨Grow.refl _, rfl⟩)
                  · intro w5 hR
                    have hGw : Grow W2 w5 := hR.of_drew
                    have HGW := Lib.hid hGw
                    have hcc := (HGW.out.block HN.out).cell
                    have hgc := (HGW.out.block HGL.out).cell
                    clear hR hGw
                    simp only [depV]
                    rintro _ rfl
                    rintro _ rfl
                    try go_simp
                    all_goals first
                      | (with_reducible exact Grow.refl _)
                      | (with_reducible exact ⟨Grow.refl _, rfl⟩)
                  · intro w5 hR
                    have hGw : Grow W2 w5 := hR.of_drew
                    have HGW := Lib.hid hGw
                    have hcc := (HGW.out.block HN.out).cell
                    have hgc := (HGW.out.block HGL.out).cell
                    clear hR hGw
                    simp only [depV]
                    rintro _ rfl
                    try go_simp
                    all_goals first
                      | (with_reducible exact Grow.refl _)
                      | (with_reducible exact ⟨Grow.refl _, rfl⟩)
                  · intro w5 hR
                    have hGw : Grow W2 w5 := hR.of_drew
                    have HGW := Lib.hid hGw
                    have hcc := (HGW.out.block HN.out).cell
                    have hgc := (HGW.out.block HGL.out).cell
                    clear hR hGw
                    simp only [depV]
                    rintro _ rfl
                    try go_simp
                    all_goals first
                      | (with_reducible exact Grow.refl _)
                      | (with_reducible exact ⟨Grow.refl _, rfl⟩)
                  · intro w5 hR
                    have hGw : Grow W2 w5 := hR.of_drew
                    have HGW := Lib.hid hGw
                    have hcc := (HGW.out.block HN.out).cell
                    have hgc := (HGW.out.block HGL.out).cell
                    clear hR hGw
                    simp only [depV]
                    rintro _ rfl
                    rintro _ rfl
                    try go_simp
                    all_goals first
                      | (with_reducible exact Grow.refl _)
                      | (with_reducible exact ⟨Grow.refl _, rfl⟩)
                  · intro w5 hR
                    have hGw : Grow W2 w5 := hR.of_drew
                    have HGW := Lib.hid hGw
                    have hcc := (HGW.out.block HN.out).cell
                    have hgc := (HGW.out.block HGL.out).cell
                    clear hR hGw
                    simp only [depV]
                    rintro _ rfl
                    try go_simp
                    all_goals first
                      | (with_reducible exact Grow.refl _)
                      | (with_reducible exact ⟨Grow.refl _, rfl⟩)
                  · intro w5 hR
                    have hGw : Grow W2 w5 := hR.of_drew
                    have HGW := Lib.hid hGw
                    have hcc := (HGW.out.block HN.out).cell
                    have hgc := (HGW.out.block HGL.out).cell
                    clear hR hGw
                    simp only [depV]
                    rintro _ rfl
                    rintro _ rfl
                    try go_simp
                    all_goals first
                      | (with_reducible exact Grow.refl _)
                      | (with_reducible exact ⟨Grow.refl _, rfl⟩)
                  · intro w5 hR
                    have hGw : Grow W2 w5 := hR.of_drew
                    have HGW := Lib.hid hGw
                    have hcc := (HGW.out.block HN.out).cell
                    have hgc := (HGW.out.block HGL.out).cell
                    clear hR hGw
                    simp only [depV]
                    rintro _ rfl
                    rintro _ rfl
                    rintro _ rfl
                    try go_simp
                    all_goals first
                      | (with_reducible exact Grow.refl _)
                      | (with_reducible exact ⟨Grow.refl _, rfl⟩)
                  · intro w5 hR
                    have hGw : Grow W2 w5 := hR.of_drew
                    have HGW := Lib.hid hGw
                    have hcc := (HGW.out.block HN.out).cell
                    have hgc := (HGW.out.block HGL.out).cell
                    clear hR hGw
                    simp only [depV]
                    rintro _ rfl
                    rintro _ rfl
                    try go_simp
                    all_goals first
                      | (with_reducible exact Grow.refl _)
                      | (with_reducible exact ⟨Grow.refl _, rfl⟩)
                  · intro w5 hR
                    have hGw : Grow W2 w5 := hR.of_drew
                    have HGW := Lib.hid hGw
                    have hcc := (HGW.out.block HN.out).cell
                    have hgc := (HGW.out.block HGL.out).cell
                    clear hR hGw
                    simp only [depV]
                    rintro _ rfl
                    try go_simp
                    all_goals first
                      | (with_reducible exact Grow.refl _)
                      | (with_reducible exact ⟨Grow.refl _, rfl⟩)
                  · intro w5 hR
                    have hGw : Grow W2 w5 := hR.of_drew
                    have HGW := Lib.hid hGw
                    have hcc := (HGW.out.block HN.out).cell
                    have hgc := (HGW.out.block HGL.out).cell
                    clear hR hGw
                    simp only [depV]
                    rintro _ rfl
                    try go_simp
                    all_goals first
                      | (with_reducible exact Grow.refl _)
                      | (with_reducible exact ⟨Grow.refl _, rfl⟩)
                  · intro w5 hR
                    have hGw : Grow W2 w5 := hR.of_drew
                    have HGW := Lib.hid hGw
                    have hcc := (HGW.out.block HN.out).cell
                    have hgc := (HGW.out.block HGL.out).cell
                    clear hR hGw
                    simp only [depV]
                    rintro _ rfl
                    rintro _ rfl
                    try go_simp
                    all_goals first
                      | (with_reducible exact Grow.refl _)
                      | (with_reducible exact ⟨Grow.refl _, rfl⟩)
                  · intro w5 hR
                    have hGw : Grow W2 w5 := hR.of_drew
                    have HGW := Lib.hid hGw
                    have hcc := (HGW.out.block HN.out).cell
                    have hgc := (HGW.out.block HGL.out).cell
                    clear hR hGw
                    simp only [depV]
                    rintro _ rfl
                    try go_simp
                    all_goals first
                      | (with_reducible exact Grow.refl _)
                      | (with_reducible exact ⟨Grow.refl _, rfl⟩)
                  · intro w5 hR
                    have hGw : Grow W2 w5 := hR.of_drew
                    have HGW := Lib.hid hGw
                    have hcc := (HGW.out.block HN.out).cell
                    have hgc := (HGW.out.block HGL.out).cell
                    clear hR hGw
                    simp only [depV]
                    rintro _ rfl
                    rintro _ rfl
                    try go_simp
                    all_goals first
                      | (with_reducible exact Grow.refl _)
                      | (with_reducible exact ⟨Grow.refl _, rfl⟩)
                  · intro w5 hR
                    have hGw : Grow W2 w5 := hR.of_drew
                    have HGW := Lib.hid hGw
                    have hcc := (HGW.out.block HN.out).cell
                    have hgc := (HGW.out.block HGL.out).cell
                    clear hR hGw
                    simp only [depV]
                    rintro _ rfl
                    try go_simp
                    all_goals first
                      | (with_reducible exact Grow.refl _)
                      | (with_reducible exact ⟨Grow.refl _, rfl⟩)
                  · intro w5 hR
                    have hGw : Grow W2 w5 := hR.of_drew
                    have HGW := Lib.hid hGw
                    have hcc := (HGW.out.block HN.out).cell
                    have hgc := (HGW.out.block HGL.out).cell
                    clear hR hGw
                    simp only [depV]
                    rintro _ rfl
                    rintro _ rfl
                    try go_simp
                    all_goals first
                      | (with_reducible exact Grow.refl _)
                      | (with_reducible exact ⟨Grow.refl _, rfl⟩)
                  · intro w5 hR
                    have hGw : Grow W2 w5 := hR.of_drew
                    have HGW := Lib.hid hGw
                    have hcc := (HGW.out.block HN.out).cell
                    have hgc := (HGW.out.block HGL.out).cell
                    clear hR hGw
                    simp only [depV]
                    rintro _ rfl
                    rintro _ rfl
                    rintro _ rfl
                    try go_simp
                    all_goals first
                      | (with_reducible exact Grow.refl _)
                      | (with_reducible exact ⟨Grow.refl _, rfl⟩)
                  · intro w5 hR
                    have hGw : Grow W2 w5 := hR.of_drew
                    have HGW := Lib.hid hGw
                    have hcc := (HGW.out.block HN.out).cell
                    have hgc := (HGW.out.block HGL.out).cell
                    clear hR hGw
                    simp only [depV]
                    rintro _ rfl
                    rintro _ rfl
                    try go_simp
                    all_goals first
                      | (with_reducible exact Grow.refl _)
                      | (with_reducible exact ⟨Grow.refl _, rfl⟩)
                  · intro w5 hR
                    have hGw : Grow W2 w5 := hR.of_drew
                    have HGW := Lib.hid hGw
                    have hcc := (HGW.out.block HN.out).cell
                    have hgc := (HGW.out.block HGL.out).cell
                    clear hR hGw
                    simp only [depV]
                    rintro _ rfl
                    rintro _ rfl
                    rintro _ rfl
                    try go_simp
                    all_goals first
                      | (with_reducible exact Grow.refl _)
                      | (with_reducible exact ⟨Grow.refl _, rfl⟩)
                  · intro w5 hR
                    have hGw : Grow W2 w5 := hR.of_drew
                    have HGW := Lib.hid hGw
                    have hcc := (HGW.out.block HN.out).cell
                    have hgc := (HGW.out.block HGL.out).cell
                    clear hR hGw
                    simp only [depV]
                    rintro _ rfl
                    rintro _ rfl
                    try go_simp
                    all_goals first
                      | (with_reducible exact Grow.refl _)
                      | (with_reducible exact ⟨Grow.refl _, rfl⟩)
                  · intro w5 hR
                    have hGw : Grow W2 w5 := hR.of_drew
                    have HGW := Lib.hid hGw
                    have hcc := (HGW.out.block HN.out).cell
                    have hgc := (HGW.out.block HGL.out).cell
                    clear hR hGw
                    simp only [depV]
                    rintro _ rfl
                    try go_simp
                    all_goals first
                      | (with_reducible exact Grow.refl _)
                      | (with_reducible exact ⟨Grow.refl _, rfl⟩)
                  · intro w5 hR
                    have hGw : Grow W2 w5 := hR.of_drew
                    have HGW := Lib.hid hGw
                    have hcc := (HGW.out.block HN.out).cell
                    have hgc := (HGW.out.block HGL.out).cell
                    clear hR hGw
                    simp only [depV]
                    rintro _ rfl
                    try go_simp
                    all_goals first
                      | (with_reducible exact Grow.refl _)
                      | (with_reducible exact ⟨Grow.refl _, rfl⟩)
                  · intro w5 hR
                    have hGw : Grow W2 w5 := hR.of_drew
                    have HGW := Lib.hid hGw
                    have hcc := (HGW.out.block HN.out).cell
                    have hgc := (HGW.out.block HGL.out).cell
                    clear hR hGw
                    simp only [depV]
                    rintro _ rfl
                    rintro _ rfl
                    try go_simp
                    all_goals first
                      | (with_reducible exact Grow.refl _)
                      | (with_reducible exact ⟨Grow.refl _, rfl⟩)
                  · intro w5 hR
                    have hGw : Grow W2 w5 := hR.of_drew
                    have HGW := Lib.hid hGw
                    have hcc := (HGW.out.block HN.out).cell
                    have hgc := (HGW.out.block HGL.out).cell
                    clear hR hGw
                    simp only [depV]
                    rintro _ rfl
                    try go_simp
                    all_goals first
                      | (with_reducible exact Grow.refl _)
                      | (with_reducible exact ⟨Grow.refl _, rfl⟩)
                  · intro w5 hR
                    have hGw : Grow W2 w5 := hR.of_drew
                    have HGW := Lib.hid hGw
                    have hcc := (HGW.out.block HN.out).cell
                    have hgc := (HGW.out.block HGL.out).cell
                    clear hR hGw
                    simp only [depV]
                    rintro _ rfl
                    rintro _ rfl
                    try go_simp
                    all_goals first
                      | (with_reducible exact Grow.refl _)
                      | (with_reducible exact ⟨Grow.refl _, rfl⟩)
                  · intro w5 hR
                    have hGw : Grow W2 w5 := hR.of_drew
                    have HGW := Lib.hid hGw
                    have hcc := (HGW.out.block HN.out).cell
                    have hgc := (HGW.out.block HGL.out).cell
                    clear hR hGw
                    simp only [depV]
                    rintro _ rfl
                    rintro _ rfl
                    try go_simp
                    all_goals first
                      | (with_reducible exact Grow.refl _)
                      | (with_reducible exact ⟨Grow.refl _, rfl⟩)
                  · intro w5 hR
                    have hGw : Grow W2 w5 := hR.of_drew
                    have HGW := Lib.hid hGw
                    have hcc := (HGW.out.block HN.out).cell
                    have hgc := (HGW.out.block HGL.out).cell
                    clear hR hGw
                    simp only [depV]
                    rintro _ rfl
                    rintro _ rfl
                    try go_simp
                    all_goals first
                      | (with_reducible exact Grow.refl _)
                      | (with_reducible exact ⟨Grow.refl _, rfl⟩)
                  · intro w5 hR
                    have hGw : Grow W2 w5 := hR.of_drew
                    have HGW := Lib.hid hGw
                    have hcc := (HGW.out.block HN.out).cell
                    have hgc := (HGW.out.block HGL.out).cell
                    clear hR hGw
                    simp only [depV]
                    rintro _ rfl
                    rintro _ rfl
                    try go_simp
                    all_goals first
                      | (with_reducible exact Grow.refl _)
                      | (with_reducible exact ⟨Grow.refl _, rfl⟩)
                  · intro w5 hR
                    have hGw : Grow W2 w5 := hR.of_drew
                    have HGW := Lib.hid hGw
                    have hcc := (HGW.out.block HN.out).cell
                    have hgc := (HGW.out.block HGL.out).cell
                    clear hR hGw
                    simp only [depV]
                    rintro _ rfl
                    rintro _ rfl
                    rintro _ rfl
                    try go_simp
                    all_goals first
                      | (with_reducible exact Grow.refl _)
                      | (with_reducible exact ⟨Grow.refl _, rfl⟩)
                  · intro w5 hR
                    have hGw : Grow W2 w5 := hR.of_drew
                    have HGW := Lib.hid hGw
                    have hcc := (HGW.out.block HN.out).cell
                    have hgc := (HGW.out.block HGL.out).cell
                    clear hR hGw
                    simp only [depV]
                    rintro _ rfl
                    rintro _ rfl
                    try go_simp
                    all_goals first
                      | (with_reducible exact Grow.refl _)
                      | (with_reducible exact ⟨Grow.refl _, rfl⟩)
                  · intro w5 hR
                    have hGw : Grow W2 w5 := hR.of_drew
                    have HGW := Lib.hid hGw
                    have hcc := (HGW.out.block HN.out).cell
                    have hgc := (HGW.out.block HGL.out).cell
                    clear hR hGw
                    simp only [depV]
                    rintro _ rfl
                    rintro _ rfl
                    try go_simp
                    all_goals first
                      | (with_reducible exact Grow.refl _)
                      | (with_reducible exact ⟨Grow.refl _, rfl⟩)
                · intro w5 hR
                  have HG5 : Hid (Grow W2 w5) := Lib.hid hR.of_drew
                  clear hR
                  simp only [finVC, List.take_succ_cons, List.take_zero, List.drop_succ_cons, List.drop_zero]
                  rintro _ rfl
                  rintro _ rfl
                  rintro _ rfl
                  rintro _ rfl
                  rintro _ rfl
                  rintro _ rfl
                  rintro _ rfl
                  rintro _ rfl
                  rintro _ rfl
                  rintro _ rfl
                  rintro _ rfl
                  rintro _ rfl
                  rintro _ rfl
                  rintro _ rfl
                  rintro _ rfl
                  rintro _ rfl
                  rintro _ rfl
                  rintro _ rfl
                  rintro _ rfl
                  rintro _ rfl
                  rintro _ rfl
                  rintro _ rfl
                  rintro _ rfl
                  rintro _ rfl
                  rintro _ rfl
                  rintro _ rfl
                  rintro _ rfl
                  rintro _ rfl
                  rintro _ rfl
                  rintro _ rfl
                  rintro _ rfl
                  rintro _ rfl
                  rintro _ rfl
                  rintro _ rfl
                  rintro _ rfl
                  rintro _ rfl
                  rintro _ rfl
                  rintro _ rfl
                  rintro _ rfl
                  rintro _ rfl
                  rintro _ rfl
                  rintro _ rfl
                  rintro _ rfl
                  rintro _ rfl
                  rintro _ rfl
                  rintro _ rfl
                  rintro _ rfl
                  rintro _ rfl
                  rintro _ rfl
                  rintro _ rfl
                  rintro _ rfl
                  rintro _ rfl
                  rintro _ rfl
                  rintro _ rfl
                  simp only [Act.put, List.setIfInBounds_toArray, List.set_cons_succ, List.set_cons_zero]
                  have HOK : Hid (okx = false) := Lib.hid (by rw [HOG.out]; simp [d2, d3])
                  go_wp2
                  go_ret
                  exact ⟨ret_bool (HNO.out HOK.out).symm, HG2.out.trans HG5.out⟩
            · have d2 : decide (0 ≤ frm) = false := decide_eq_false h2
              have g2 : decide (frm < 0) = true := decide_eq_true (by omega)
              skip
              refine wp_region_lit 54 [[], [(0, 17)], [(1, 18)], [(2, 19)], [(3, 20)], [(4, 21)], [(4, 21), (5, 22)], [(4, 21), (6, 23)], [(4, 21), (7, 24)], [(4, 21), (8, 25)], [(9, 26)], [(10, 27)], [(10, 27), (11, 28)], [(10, 27)], [(10, 27), (13, 30)], [(10, 27), (14, 31)], [(10, 27), (15, 32)], [(10, 27), (12, 29), (16, 33)], [(10, 27), (17, 34)], [(10, 27), (18, 35)], [(19, 36)], [(20, 37)], [(20, 37), (21, 38)], [(20, 37), (22, 39)], [(20, 37), (23, 40)], [(24, 41)], [(25, 42)], [(25, 42), (26, 43)], [(25, 42)], [(25, 42), (28, 45)], [(25, 42), (27, 44), (29, 46)], [(25, 42), (30, 47)], [(31, 48)], [(32, 49)], [(32, 49), (33, 50)], [(32, 49)], [(32, 49), (35, 52)], [(32, 49)], [(32, 49), (37, 54)], [(32, 49), (36, 53), (38, 55)], [(32, 49), (39, 56)], [(32, 49), (34, 51), (40, 57)], [(32, 49), (41, 58)], [(42, 59)], [(43, 60)], [(43, 60), (44, 61)], [(43, 60)], [(43, 60), (46, 63)], [(43, 60), (47, 64)], [(43, 60), (48, 65)], [(43, 60), (49, 66)], [(43, 60), (45, 62), (50, 67)], [(43, 60), (51, 68)], [(43, 60), (52, 69)]] Grow (fun qi v w' => match qi with
                  | 0 => v = .pointer (some ⟨bg, 0, none⟩)
                  | 1 => v = .int .i64 author
                  | 2 => v = .bool true
                  | 3 => v = .bool false
                  | 4 => v = .bool false
                  | 5 => v = .pointer (some ⟨bg, 1, none⟩)
                  | 6 => v = .int .i64 stamp
                  | 7 => v = .bool true
                  | 8 => v = .bool false
                  | 9 => v = .bool false
                  | 10 => v = .bool false
                  | 11 => v = .pointer (some ⟨bg, 2, none⟩)
                  | 12 => v = .int .i64 (kf : Nat)
                  | 13 => v = .pointer (some ⟨w.heap.size, 0, none⟩)
                  | 14 => v = .slice (some ⟨bf, of, none⟩) frames.length ca
                  | 15 => v = .int .i64 (frames.length : Nat)
                  | 16 => v = .int .i64 ((frames.length : Int) - 1)
                  | 17 => v = .bool true
                  | 18 => v = .bool false
                  | 19 => v = .bool false
                  | 20 => v = .bool false
                  | 21 => v = .pointer (some ⟨bg, 3, none⟩)
                  | 22 => v = .int .i64 frm
                  | 23 => v = .bool true
                  | 24 => v = .bool true
                  | 25 => v = .bool true
                  | 26 => v = undef
                  | 27 => v = undef
                  | 28 => v = undef
                  | 29 => v = undef
                  | 30 => v = undef
                  | 31 => v = .bool true
                  | 32 => v = .bool true
                  | 33 => v = undef
                  | 34 => v = undef
                  | 35 => v = undef
                  | 36 => v = undef
                  | 37 => v = undef
                  | 38 => v = undef
                  | 39 => v = undef
                  | 40 => v = undef
                  | 41 => v = undef
                  | 42 => v = .bool true
                  | 43 => v = .bool true
                  | 44 => v = undef
                  | 45 => v = undef
                  | 46 => v = undef
                  | 47 => v = undef
                  | 48 => v = undef
                  | 49 => v = undef
                  | 50 => v = undef
                  | 51 => v = undef
                  | 52 => v = undef
                  | 53 => v = .bool true
                  | _ => False) (by kernel_rfl) (by kernel_rfl) (fun _ _ _ => Grow.trans) Grow.refl ?_ ?_ ?_
              · intro i v y y' h k
                match i, h with
                | 0, h | 1, h | 2, h | 3, h | 4, h | 5, h | 6, h | 7, h | 8, h | 9, h | 10, h | 11, h | 12, h | 13, h | 14, h | 15, h | 16, h | 17, h | 18, h | 19, h | 20, h | 21, h | 22, h | 23, h | 24, h | 25, h | 26, h | 27, h | 28, h | 29, h | 30, h | 31, h | 32, h | 33, h | 34, h | 35, h | 36, h | 37, h | 38, h | 39, h | 40, h | 41, h | 42, h | 43, h | 44, h | 45, h | 46, h | 47, h | 48, h | 49, h | 50, h | 51, h | 52, h | 53, h => exact h
              · simp only [StepsLit, List.take_succ_cons, List.take_zero]
                refine ⟨?_, ?_, ?_, ?_, ?_, ?_, ?_, ?_, ?_, ?_, ?_, ?_, ?_, ?_, ?_, ?_, ?_, ?_, ?_, ?_, ?_, ?_, ?_, ?_, ?_, ?_, ?_, ?_, ?_, ?_, ?_, ?_, ?_, ?_, ?_, ?_, ?_, ?_, ?_, ?_, ?_, ?_, ?_, ?_, ?_, ?_, ?_, ?_, ?_, ?_, ?_, ?_, ?_, ?_, trivial⟩
                · intro w5 hR
                  have hGw : Grow W2 w5 := hR.of_drew
                  have HGW := Lib.hid hGw
                  have hcc := (HGW.out.block HN.out).cell
                  have hgc := (HGW.out.block HGL.out).cell
                  clear hR hGw
                  simp only [depV]
                  try go_simp
                  all_goals first
                    | (with_reducible exact Grow.refl _)
                    | (with_reducible exact ⟨Grow.refl _, rfl⟩)
                · intro w5 hR
                  have hGw : Grow W2 w5 := hR.of_drew
                  have HGW := Lib.hid hGw
                  have hcc := (HGW.out.block HN.out).cell
                  have hgc := (HGW.out.block HGL.out).cell
                  clear hR hGw
                  simp only [depV]
                  rintro _ rfl
                  try go_simp
                  all_goals first
                    | (with_reducible exact Grow.refl _)
                    | (with_reducible exact ⟨Grow.refl _, rfl⟩)
                · intro w5 hR
                  have hGw : Grow W2 w5 := hR.of_drew
                  have HGW := Lib.hid hGw
                  have hcc := (HGW.out.block HN.out).cell
                  have hgc := (HGW.out.block HGL.out).cell
                  clear hR hGw
                  simp only [depV]
                  rintro _ rfl
                  try go_simp
                  refine (HA.out _).mono ?_
                  rintro e w6 ⟨rfl, rfl⟩
                  exact ⟨Grow.refl _, rfl⟩
                · intro w5 hR
                  have hGw : Grow W2 w5 := hR.of_drew
                  have HGW := Lib.hid hGw
                  have hcc := (HGW.out.block HN.out).cell
                  have hgc := (HGW.out.block HGL.out).cell
                  clear hR hGw
                  simp only [depV]
                  rintro _ rfl
                  try go_simp
                  all_goals first
                    | (with_reducible exact Grow.refl _)
                    | (with_reducible exact ⟨Grow.refl _, rfl⟩)
                · intro w5 hR
                  have hGw : Grow W2 w5 := hR.of_drew
                  have HGW := Lib.hid hGw
                  have hcc := (HGW.out.block HN.out).cell
                  have hgc := (HGW.out.block HGL.out).cell
                  clear hR hGw
                  simp only [depV]
                  rintro _ rfl
                  try go_simp
                  all_goals first
                    | (with_reducible exact Grow.refl _)
                    | (with_reducible exact ⟨Grow.refl _, rfl⟩)
                · intro w5 hR
                  have hGw : Grow W2 w5 := hR.of_drew
                  have HGW := Lib.hid hGw
                  have hcc := (HGW.out.block HN.out).cell
                  have hgc := (HGW.out.block HGL.out).cell
                  clear hR hGw
                  simp only [depV]
                  rintro _ rfl
                  try go_simp
                  all_goals first
                    | (with_reducible exact Grow.refl _)
                    | (with_reducible exact ⟨Grow.refl _, rfl⟩)
                · intro w5 hR
                  have hGw : Grow W2 w5 := hR.of_drew
                  have HGW := Lib.hid hGw
                  have hcc := (HGW.out.block HN.out).cell
                  have hgc := (HGW.out.block HGL.out).cell
                  clear hR hGw
                  simp only [depV]
                  rintro _ rfl
                  rintro _ rfl
                  try go_simp
                  all_goals first
                    | (with_reducible exact Grow.refl _)
                    | (with_reducible exact ⟨Grow.refl _, rfl⟩)
                · intro w5 hR
                  have hGw : Grow W2 w5 := hR.of_drew
                  have HGW := Lib.hid hGw
                  have hcc := (HGW.out.block HN.out).cell
                  have hgc := (HGW.out.block HGL.out).cell
                  clear hR hGw
                  simp only [depV]
                  rintro _ rfl
                  rintro _ rfl
                  try go_simp
                  refine (HB.out _).mono ?_
                  rintro e w6 ⟨rfl, rfl⟩
                  exact ⟨Grow.refl _, rfl⟩
                · intro w5 hR
                  have hGw : Grow W2 w5 := hR.of_drew
                  have HGW := Lib.hid hGw
                  have hcc := (HGW.out.block HN.out).cell
                  have hgc := (HGW.out.block HGL.out).cell
                  clear hR hGw
                  simp only [depV]
                  rintro _ rfl
                  rintro _ rfl
                  try go_simp
                  all_goals first
                    | (with_reducible exact Grow.refl _)
                    | (with_reducible exact ⟨Grow.refl _, rfl⟩)
                · intro w5 hR
                  have hGw : Grow W2 w5 := hR.of_drew
                  have HGW := Lib.hid hGw
                  have hcc := (HGW.out.block HN.out).cell
                  have hgc := (HGW.out.block HGL.out).cell
                  clear hR hGw
                  simp only [depV]
                  rintro _ rfl
                  rintro _ rfl
                  try go_simp
                  all_goals first
                    | (with_reducible exact Grow.refl _)
                    | (with_reducible exact ⟨Grow.refl _, rfl⟩)
                · intro w5 hR
                  have hGw : Grow W2 w5 := hR.of_drew
                  have HGW := Lib.hid hGw
                  have hcc := (HGW.out.block HN.out).cell
                  have hgc := (HGW.out.block HGL.out).cell
                  clear hR hGw
                  simp only [depV]
                  rintro _ rfl
                  try go_simp
                  all_goals first
                    | (with_reducible exact Grow.refl _)
                    | (with_reducible exact ⟨Grow.refl _, rfl⟩)
                · intro w5 hR
                  have hGw : Grow W2 w5 := hR.of_drew
                  have HGW := Lib.hid hGw
                  have hcc := (HGW.out.block HN.out).cell
                  have hgc := (HGW.out.block HGL.out).cell
                  clear hR hGw
                  simp only [depV]
                  rintro _ rfl
                  try go_simp
                  all_goals first
                    | (with_reducible exact Grow.refl _)
                    | (with_reducible exact ⟨Grow.refl _, rfl⟩)
                · intro w5 hR
                  have hGw : Grow W2 w5 := hR.of_drew
                  have HGW := Lib.hid hGw
                  have hcc := (HGW.out.block HN.out).cell
                  have hgc := (HGW.out.block HGL.out).cell
                  clear hR hGw
                  simp only [depV]
                  rintro _ rfl
                  rintro _ rfl
                  try go_simp
                  all_goals first
                    | (with_reducible exact Grow.refl _)
                    | (with_reducible exact ⟨Grow.refl _, rfl⟩)
                · intro w5 hR
                  have hGw : Grow W2 w5 := hR.of_drew
                  have HGW := Lib.hid hGw
                  have hcc := (HGW.out.block HN.out).cell
                  have hgc := (HGW.out.block HGL.out).cell
                  clear hR hGw
                  simp only [depV]
                  rintro _ rfl
                  try go_simp
                  all_goals first
                    | (with_reducible exact Grow.refl _)
                    | (with_reducible exact ⟨Grow.refl _, rfl⟩)
                · intro w5 hR
                  have hGw : Grow W2 w5 := hR.of_drew
                  have HGW := Lib.hid hGw
                  have hcc := (HGW.out.block HN.out).cell
                  have hgc := (HGW.out.block HGL.out).cell
                  clear hR hGw
                  simp only [depV]
                  rintro _ rfl
                  rintro _ rfl
                  try go_simp
                  all_goals first
                    | (with_reducible exact Grow.refl _)
                    | (with_reducible exact ⟨Grow.refl _, rfl⟩)
                · intro w5 hR
                  have hGw : Grow W2 w5 := hR.of_drew
                  have HGW := Lib.hid hGw
                  have hcc := (HGW.out.block HN.out).cell
                  have hgc := (HGW.out.block HGL.out).cell
                  clear hR hGw
                  simp only [depV]
                  rintro _ rfl
                  rintro _ rfl
                  try go_simp
                  all_goals first
                    | (with_reducible exact Grow.refl _)
                    | (with_reducible exact ⟨Grow.refl _, rfl⟩)
                · intro w5 hR
                  have hGw : Grow W2 w5 := hR.of_drew
                  have HGW := Lib.hid hGw
                  have hcc := (HGW.out.block HN.out).cell
                  have hgc := (HGW.out.block HGL.out).cell
                  clear hR hGw
                  simp only [depV]
                  rintro _ rfl
                  rintro _ rfl
                  try go_simp
                  exact ⟨Grow.refl _, IntWalk.i64_in _ (by omega)⟩
                · intro w5 hR
                  have hGw : Grow W2 w5 := hR.of_drew
                  have HGW := Lib.hid hGw
                  have hcc := (HGW.out.block HN.out).cell
                  have hgc := (HGW.out.block HGL.out).cell
                  clear hR hGw
                  simp only [depV]
                  rintro _ rfl
                  rintro _ rfl
                  rintro _ rfl
                  try go_simp
                  refine (HF.out _).mono ?_
                  rintro e w6 ⟨rfl, rfl⟩
                  exact ⟨Grow.refl _, rfl⟩
                · intro w5 hR
                  have hGw : Grow W2 w5 := hR.of_drew
                  have HGW := Lib.hid hGw
                  have hcc := (HGW.out.block HN.out).cell
                  have hgc := (HGW.out.block HGL.out).cell
                  clear hR hGw
                  simp only [depV]
                  rintro _ rfl
                  rintro _ rfl
                  try go_simp
                  all_goals first
                    | (with_reducible exact Grow.refl _)
                    | (with_reducible exact ⟨Grow.refl _, rfl⟩)
                · intro w5 hR
                  have hGw : Grow W2 w5 := hR.of_drew
                  have HGW := Lib.hid hGw
                  have hcc := (HGW.out.block HN.out).cell
                  have hgc := (HGW.out.block HGL.out).cell
                  clear hR hGw
                  simp only [depV]
                  rintro _ rfl
                  rintro _ rfl
                  try go_simp
                  all_goals first
                    | (with_reducible exact Grow.refl _)
                    | (with_reducible exact ⟨Grow.refl _, rfl⟩)
                · intro w5 hR
                  have hGw : Grow W2 w5 := hR.of_drew
                  have HGW := Lib.hid hGw
                  have hcc := (HGW.out.block HN.out).cell
                  have hgc := (HGW.out.block HGL.out).cell
                  clear hR hGw
                  simp only [depV]
                  rintro _ rfl
                  try go_simp
                  all_goals first
                    | (with_reducible exact Grow.refl _)
                    | (with_reducible exact ⟨Grow.refl _, rfl⟩)
                · intro w5 hR
                  have hGw : Grow W2 w5 := hR.of_drew
                  have HGW := Lib.hid hGw
                  have hcc := (HGW.out.block HN.out).cell
                  have hgc := (HGW.out.block HGL.out).cell
                  clear hR hGw
                  simp only [depV]
                  rintro _ rfl
                  try go_simp
                  all_goals first
                    | (with_reducible exact Grow.refl _)
                    | (with_reducible exact ⟨Grow.refl _, rfl⟩)
                · intro w5 hR
                  have hGw : Grow W2 w5 := hR.of_drew
                  have HGW := Lib.hid hGw
                  have hcc := (HGW.out.block HN.out).cell
                  have hgc := (HGW.out.block HGL.out).cell
                  clear hR hGw
                  simp only [depV]
                  rintro _ rfl
                  rintro _ rfl
                  try go_simp
                  all_goals first
                    | (with_reducible exact Grow.refl _)
                    | (with_reducible exact ⟨Grow.refl _, rfl⟩)
                · intro w5 hR
                  have hGw : Grow W2 w5 := hR.of_drew
                  have HGW := Lib.hid hGw
                  have hcc := (HGW.out.block HN.out).cell
                  have hgc := (HGW.out.block HGL.out).cell
                  clear hR hGw
                  simp only [depV]
                  rintro _ rfl
                  rintro _ rfl
                  try go_simp
                  all_goals first
                    | (with_reducible exact Grow.refl _)
                    | (with_reducible exact ⟨Grow.refl _, rfl⟩)
                · intro w5 hR
                  have hGw : Grow W2 w5 := hR.of_drew
                  have HGW := Lib.hid hGw
                  have hcc := (HGW.out.block HN.out).cell
                  have hgc := (HGW.out.block HGL.out).cell
                  clear hR hGw
                  simp only [depV]
                  rintro _ rfl
                  rintro _ rfl
                  try go_simp
                  all_goals first
                    | (with_reducible exact Grow.refl _)
                    | (with_reducible exact ⟨Grow.refl _, rfl⟩)
                · intro w5 hR
                  have hGw : Grow W2 w5 := hR.of_drew
                  have HGW := Lib.hid hGw
                  have hcc := (HGW.out.block HN.out).cell
                  have hgc := (HGW.out.block HGL.out).cell
                  clear hR hGw
                  simp only [depV]
                  rintro _ rfl
                  try go_simp
                  all_goals first
                    | (with_reducible exact Grow.refl _)
                    | (with_reducible exact ⟨Grow.refl _, rfl⟩)
                · intro w5 hR
                  have hGw : Grow W2 w5 := hR.of_drew
                  have HGW := Lib.hid hGw
                  have hcc := (HGW.out.block HN.out).cell
                  have hgc := (HGW.out.block HGL.out).cell
                  clear hR hGw
                  simp only [depV]
                  rintro _ rfl
                  try go_simp
                  all_goals first
                    | (with_reducible exact Grow.refl _)
                    | (with_reducible exact ⟨Grow.refl _, rfl⟩)
                · intro w5 hR
                  have hGw : Grow W2 w5 := hR.of_drew
                  have HGW := Lib.hid hGw
                  have hcc := (HGW.out.block HN.out).cell
                  have hgc := (HGW.out.block HGL.out).cell
                  clear hR hGw
                  simp only [depV]
                  rintro _ rfl
                  rintro _ rfl
                  try go_simp
                  all_goals first
                    | (with_reducible exact Grow.refl _)
                    | (with_reducible exact ⟨Grow.refl _, rfl⟩)
                · intro w5 hR
                  have hGw : Grow W2 w5 := hR.of_drew
                  have HGW := Lib.hid hGw
                  have hcc := (HGW.out.block HN.out).cell
                  have hgc := (HGW.out.block HGL.out).cell
                  clear hR hGw
                  simp only [depV]
                  rintro _ rfl
                  try go_simp
                  all_goals first
                    | (with_reducible exact Grow.refl _)
                    | (with_reducible exact ⟨Grow.refl _, rfl⟩)
                · intro w5 hR
                  have hGw : Grow W2 w5 := hR.of_drew
                  have HGW := Lib.hid hGw
                  have hcc := (HGW.out.block HN.out).cell
                  have hgc := (HGW.out.block HGL.out).cell
                  clear hR hGw
                  simp only [depV]
                  rintro _ rfl
                  rintro _ rfl
                  try go_simp
                  all_goals first
                    | (with_reducible exact Grow.refl _)
                    | (with_reducible exact ⟨Grow.refl _, rfl⟩)
                · intro w5 hR
                  have hGw : Grow W2 w5 := hR.of_drew
                  have HGW := Lib.hid hGw
                  have hcc := (HGW.out.block HN.out).cell
                  have hgc := (HGW.out.block HGL.out).cell
                  clear hR hGw
                  simp only [depV]
                  rintro _ rfl
                  rintro _ rfl
                  rintro _ rfl
                  try go_simp
                  all_goals first
                    | (with_reducible exact Grow.refl _)
                    | (with_reducible exact ⟨Grow.refl _, rfl⟩)
                · intro w5 hR
                  have hGw : Grow W2 w5 := hR.of_drew
                  have HGW := Lib.hid hGw
                  have hcc := (HGW.out.block HN.out).cell
                  have hgc := (HGW.out.block HGL.out).cell
                  clear hR hGw
                  simp only [depV]
                  rintro _ rfl
                  rintro _ rfl
                  try go_simp
                  all_goals first
                    | (with_reducible exact Grow.refl _)
                    | (with_reducible exact ⟨Grow.refl _, rfl⟩)
                · intro w5 hR
                  have hGw : Grow W2 w5 := hR.of_drew
                  have HGW := Lib.hid hGw
                  have hcc := (HGW.out.block HN.out).cell
                  have hgc := (HGW.out.block HGL.out).cell
                  clear hR hGw
                  simp only [depV]
                  rintro _ rfl
                  try go_simp
                  all_goals first
                    | (with_reducible exact Grow.refl _)
                    | (with_reducible exact ⟨Grow.refl _, rfl⟩)
                · intro w5 hR
                  have hGw : Grow W2 w5 := hR.of_drew
                  have HGW := Lib.hid hGw
                  have hcc := (HGW.out.block HN.out).cell
                  have hgc := (HGW.out.block HGL.out).cell
                  clear hR hGw
                  simp only [depV]
                  rintro _ rfl
                  try go_simp
                  all_goals first
                    | (with_reducible exact Grow.refl _)
                    | (with_reducible exact ⟨Grow.refl _, rfl⟩)
                · intro w5 hR
                  have hGw : Grow W2 w5 := hR.of_drew
                  have HGW := Lib.hid hGw
                  have hcc := (HGW.out.block HN.out).cell
                  have hgc := (HGW.out.block HGL.out).cell
                  clear hR hGw
                  simp only [depV]
                  rintro _ rfl
                  rintro _ rfl
                  try go_simp
                  all_goals first
                    | (with_reducible exact Grow.refl _)
                    | (with_reducible exact ⟨Grow.refl _, rfl⟩)
                · intro w5 hR
                  have hGw : Grow W2 w5 := hR.of_drew
                  have HGW := Lib.hid hGw
                  have hcc := (HGW.out.block HN.out).cell
                  have hgc := (HGW.out.block HGL.out).cell
                  clear hR hGw
                  simp only [depV]
                  rintro _ rfl
                  try go_simp
                  all_goals first
                    | (with_reducible exact Grow.refl _)
                    | (with_reducible exact ⟨Grow.refl _, rfl⟩)
                · intro w5 hR
                  have hGw : Grow W2 w5 := hR.of_drew
                  have HGW := Lib.hid hGw
                  have hcc := (HGW.out.block HN.out).cell
                  have hgc := (HGW.out.block HGL.out).cell
                  clear hR hGw
                  simp only [depV]
                  rintro _ rfl
                  rintro _ rfl
                  try go_simp
                  all_goals first
                    | (with_reducible exact Grow.refl _)
                    | (with_reducible exact ⟨Grow.refl _, rfl⟩)
                · intro w5 hR
                  have hGw : Grow W2 w5 := hR.of_drew
                  have HGW := Lib.hid hGw
                  have hcc := (HGW.out.block HN.out).cell
                  have hgc := (HGW.out.block HGL.out).cell
                  clear hR hGw
                  simp only [depV]
                  rintro _ rfl
                  try go_simp
                  all_goals first
                    | (with_reducible exact Grow.refl _)
                    | (with_reducible exact ⟨Grow.refl _, rfl⟩)
                · intro w5 hR
                  have hGw : Grow W2 w5 := hR.of_drew
                  have HGW := Lib.hid hGw
                  have hcc := (HGW.out.block HN.out).cell
                  have hgc := (HGW.out.block HGL.out).cell
                  clear hR hGw
                  simp only [depV]
                  rintro _ rfl
                  rintro _ rfl
                  try go_simp
                  all_goals first
                    | (with_reducible exact Grow.refl _)
                    | (with_reducible exact ⟨Grow.refl _, rfl⟩)
                · intro w5 hR
                  have hGw : Grow W2 w5 := hR.of_drew
                  have HGW := Lib.hid hGw
                  have hcc := (HGW.out.block HN.out).cell
                  have hgc := (HGW.out.block HGL.out).cell
                  clear hR hGw
                  simp only [depV]
                  rintro _ rfl
                  rintro _ rfl
                  rintro _ rfl
                  try go_simp
                  all_goals first
                    | (with_reducible exact Grow.refl _)
                    | (with_reducible exact ⟨Grow.refl _, rfl⟩)
                · intro w5 hR
                  have hGw : Grow W2 w5 := hR.of_drew
                  have HGW := Lib.hid hGw
                  have hcc := (HGW.out.block HN.out).cell
                  have hgc := (HGW.out.block HGL.out).cell
                  clear hR hGw
                  simp only [depV]
                  rintro _ rfl
                  rintro _ rfl
                  try go_simp
                  all_goals first
                    | (with_reducible exact Grow.refl _)
                    | (with_reducible exact ⟨Grow.refl _, rfl⟩)
                · intro w5 hR
                  have hGw : Grow W2 w5 := hR.of_drew
                  have HGW := Lib.hid hGw
                  have hcc := (HGW.out.block HN.out).cell
                  have hgc := (HGW.out.block HGL.out).cell
                  clear hR hGw
                  simp only [depV]
                  rintro _ rfl
                  rintro _ rfl
                  rintro _ rfl
                  try go_simp
                  all_goals first
                    | (with_reducible exact Grow.refl _)
                    | (with_reducible exact ⟨Grow.refl _, rfl⟩)
                · intro w5 hR
                  have hGw : Grow W2 w5 := hR.of_drew
                  have HGW := Lib.hid hGw
                  have hcc := (HGW.out.block HN.out).cell
                  have hgc := (HGW.out.block HGL.out).cell
                  clear hR hGw
                  simp only [depV]
                  rintro _ rfl
                  rintro _ rfl
                  try go_simp
                  all_goals first
                    | (with_reducible exact Grow.refl _)
                    | (with_reducible exact ⟨Grow.refl _, rfl⟩)
                · intro w5 hR
                  have hGw : Grow W2 w5 := hR.of_drew
                  have HGW := Lib.hid hGw
                  have hcc := (HGW.out.block HN.out).cell
                  have hgc := (HGW.out.block HGL.out).cell
                  clear hR hGw
                  simp only [depV]
                  rintro _ rfl
                  try go_simp
                  all_goals first
                    | (with_reducible exact Grow.refl _)
                    | (with_reducible exact ⟨Grow.refl _, rfl⟩)
                · intro w5 hR
                  have hGw : Grow W2 w5 := hR.of_drew
                  have HGW := Lib.hid hGw
                  have hcc := (HGW.out.block HN.out).cell
                  have hgc := (HGW.out.block HGL.out).cell
                  clear hR hGw
                  simp only [depV]
                  rintro _ rfl
                  try go_simp
                  all_goals first
                    | (with_reducible exact Grow.refl _)
                    | (with_reducible exact ⟨Grow.refl _, rfl⟩)
                · intro w5 hR
                  have hGw : Grow W2 w5 := hR.of_drew
                  have HGW := Lib.hid hGw
                  have hcc := (HGW.out.block HN.out).cell
                  have hgc := (HGW.out.block HGL.out).cell
                  clear hR hGw
                  simp only [depV]
                  rintro _ rfl
                  rintro _ rfl
                  try go_simp
                  all_goals first
                    | (with_reducible exact Grow.refl _)
                    | (with_reducible exact ⟨Grow.refl _, rfl⟩)
                · intro w5 hR
                  have hGw : Grow W2 w5 := hR.of_drew
                  have HGW := Lib.hid hGw
                  have hcc := (HGW.out.block HN.out).cell
                  have hgc := (HGW.out.block HGL.out).cell
                  clear hR hGw
                  simp only [depV]
                  rintro _ rfl
                  try go_simp
                  all_goals first
                    | (with_reducible exact Grow.refl _)
                    | (with_reducible exact ⟨Grow.refl _, rfl⟩)
                · intro w5 hR
                  have hGw : Grow W2 w5 := hR.of_drew
                  have HGW := Lib.hid hGw
                  have hcc := (HGW.out.block HN.out).cell
                  have hgc := (HGW.out.block HGL.out).cell
                  clear hR hGw
                  simp only [depV]
                  rintro _ rfl
                  rintro _ rfl
                  try go_simp
                  all_goals first
                    | (with_reducible exact Grow.refl _)
                    | (with_reducible exact ⟨Grow.refl _, rfl⟩)
                · intro w5 hR
                  have hGw : Grow W2 w5 := hR.of_drew
                  have HGW := Lib.hid hGw
                  have hcc := (HGW.out.block HN.out).cell
                  have hgc := (HGW.out.block HGL.out).cell
                  clear hR hGw
                  simp only [depV]
                  rintro _ rfl
                  rintro _ rfl
                  try go_simp
                  all_goals first
                    | (with_reducible exact Grow.refl _)
                    | (with_reducible exact ⟨Grow.refl _, rfl⟩)
                · intro w5 hR
                  have hGw : Grow W2 w5 := hR.of_drew
                  have HGW := Lib.hid hGw
                  have hcc := (HGW.out.block HN.out).cell
                  have hgc := (HGW.out.block HGL.out).cell
                  clear hR hGw
                  simp only [depV]
                  rintro _ rfl
                  rintro _ rfl
                  try go_simp
                  all_goals first
                    | (with_reducible exact Grow.refl _)
                    | (with_reducible exact ⟨Grow.refl _, rfl⟩)
                · intro w5 hR
                  have hGw : Grow W2 w5 := hR.of_drew
                  have HGW := Lib.hid hGw
                  have hcc := (HGW.out.block HN.out).cell
                  have hgc := (HGW.out.block HGL.out).cell
                  clear hR hGw
                  simp only [depV]
                  rintro _ rfl
                  rintro _ rfl
                  try go_simp
                  all_goals first
                    | (with_reducible exact Grow.refl _)
                    | (with_reducible exact ⟨Grow.refl _, rfl⟩)
                · intro w5 hR
                  have hGw : Grow W2 w5 := hR.of_drew
                  have HGW := Lib.hid hGw
                  have hcc := (HGW.out.block HN.out).cell
                  have hgc := (HGW.out.block HGL.out).cell
                  clear hR hGw
                  simp only [depV]
                  rintro _ rfl
                  rintro _ rfl
                  rintro _ rfl
                  try go_simp
                  all_goals first
                    | (with_reducible exact Grow.refl _)
                    | (with_reducible exact ⟨Grow.refl _, rfl⟩)
                · intro w5 hR
                  have hGw : Grow W2 w5 := hR.of_drew
                  have HGW := Lib.hid hGw
                  have hcc := (HGW.out.block HN.out).cell
                  have hgc := (HGW.out.block HGL.out).cell
                  clear hR hGw
                  simp only [depV]
                  rintro _ rfl
                  rintro _ rfl
                  try go_simp
                  all_goals first
                    | (with_reducible exact Grow.refl _)
                    | (with_reducible exact ⟨Grow.refl _, rfl⟩)
                · intro w5 hR
                  have hGw : Grow W2 w5 := hR.of_drew
                  have HGW := Lib.hid hGw
                  have hcc := (HGW.out.block HN.out).cell
                  have hgc := (HGW.out.block HGL.out).cell
                  clear hR hGw
                  simp only [depV]
                  rintro _ rfl
                  rintro _ rfl
                  try go_simp
                  all_goals first
                    | (with_reducible exact Grow.refl _)
                    | (with_reducible exact ⟨Grow.refl _, rfl⟩)
              · intro w5 hR
                have HG5 : Hid (Grow W2 w5) := Lib.hid hR.of_drew
                clear hR
                simp only [finVC, List.take_succ_cons, List.take_zero, List.drop_succ_cons, List.drop_zero]
                rintro _ rfl
                rintro _ rfl
                rintro _ rfl
                rintro _ rfl
                rintro _ rfl
                rintro _ rfl
                rintro _ rfl
                rintro _ rfl
                rintro _ rfl
                rintro _ rfl
                rintro _ rfl
                rintro _ rfl
                rintro _ rfl
                rintro _ rfl
                rintro _ rfl
                rintro _ rfl
                rintro _ rfl
                rintro _ rfl
                rintro _ rfl
                rintro _ rfl
                rintro _ rfl
                rintro _ rfl
                rintro _ rfl
                rintro _ rfl
                rintro _ rfl
                rintro _ rfl
                rintro _ rfl
                rintro _ rfl
                rintro _ rfl
                rintro _ rfl
                rintro _ rfl
                rintro _ rfl
                rintro _ rfl
                rintro _ rfl
                rintro _ rfl
                rintro _ rfl
                rintro _ rfl
                rintro _ rfl
                rintro _ rfl
                rintro _ rfl
                rintro _ rfl
                rintro _ rfl
                rintro _ rfl
                rintro _ rfl
                rintro _ rfl
                rintro _ rfl
                rintro _ rfl
                rintro _ rfl
                rintro _ rfl
                rintro _ rfl
                rintro _ rfl
                rintro _ rfl
                rintro _ rfl
                rintro _ rfl
                simp only [Act.put, List.setIfInBounds_toArray, List.set_cons_succ, List.set_cons_zero]
                have HOK : Hid (okx = false) := Lib.hid (by rw [HOG.out]; simp [d2])
                go_wp2
                go_ret
                exact ⟨ret_bool (HNO.out HOK.out).symm, HG2.out.trans HG5.out⟩
    · obtain rfl : k = l.length := by omega
      rw [List.take_length] at hor
      have HR : Hid (decide ((l.length : Int) ≤ 40) = r) := Lib.hid (by rw [HRL.out, hor, Bool.and_true]; by_cases h : l.length ≤ 40 <;> simp [h] <;> omega)
      have HG := Lib.hid hgr
      clear hor hgr hfr hg hfb HAL HI
      go_wp2
      go_ret
      exact ⟨ret_bool HR.out, HG.out⟩

end Go.Proofs.Ytinlojealfbbfaa
