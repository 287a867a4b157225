/- RTwins: the specification's Twins. -/
import Derived.Test.YtfpmkolaiomabaaGreatRSigns
namespace Go.Proofs.YtfpmkolaiomabaaGreat
open Go.RowKit

/-- v is a slice of one pair of its own -/
def NewP (p : Int × Int) (v : Value) (w : World) : Prop := ∃ b, v = .slice (some ⟨b, 0, none⟩) 1 1 ∧ BlockIs w b 76 #[.int .i64 p.1, .int .i64 p.2]
theorem NewP.grow {p : Int × Int} {v : Value} {w w' : World} (h : NewP p v w) (g : Grow w w') : NewP p v w' := by
  obtain ⟨b, h1, h2⟩ := h
  exact ⟨b, h1, g.block h2⟩
theorem news_pairB {w : World} {p : Int × Int} {b : Nat} {t : TypeId} (h : BlockIs w b t #[.int .i64 p.1, .int .i64 p.2]) : ∀ j u, (encP p)[j]? = some u → w.cell? ((⟨b, 0, none⟩ : Addr).add j) = some u := fun j u hu => by
  have h1 := h.cell j
  rw [show (⟨b, 0, none⟩ : Addr).add j = ⟨b, j, none⟩ by (simp [Addr.add]; omega), h1]
  rw [← hu]
  exact (Array.getElem?_toList (xs := #[Value.int .i64 p.1, Value.int .i64 p.2])).symm

set_option maxRecDepth 100000 in
set_option maxHeartbeats 16000000 in
theorem rTwins_any (A : Option Addr) (cap B : Nat) (l : List EntryR) (w : World) (hA : Ents w B A l) (hl : l.length ≤ 1000000) (hB : B ≤ w.heap.size) :
    Calls Tryz.prog 28 #[.slice A l.length cap] w (TwinsPost (l.map (·.d)) w) := by
  obtain ⟨i0, hi, hz0, hz1, hz2⟩ := info_parts Tryz.infoPair
  have HCK := Lib.hid (rCheck_any A cap B l w hA hl hB)
  have HE := Lib.hid (hA.more hB)
  clear hA
  by_cases hbe : bookErr (l.map (·.d)) = 0
  · have hok : ∀ x ∈ l, okEntry x.d = true := fun x hx => (bookErr_ok hbe).2.1 x.d (List.mem_map.2 ⟨x, hx, rfl⟩)
    have HSG := Lib.hid (fun (w0 : World) (h : Grow w w0) => rsigns_any A cap w.heap.size l w0 (HE.out.below h) hl h.size)
    have HTW := Lib.hid (fun (w0 : World) (h : Grow w w0) (x y : EntryR) (hx : x ∈ l) (hy : y ∈ l) => rtwin_any x y w0 (((HE.out.2 x hx).below h).more h.size) (((HE.out.2 y hy).below h).more h.size) (okEntry_okForm (hok x hx)) (okEntry_okForm (hok y hy)))
    have HDONE := Lib.hid (fun ps (h : TwInv l (signsTo l 1000) (signsTo l 1000).length 0 ps) => h.done hok)
    have HSRT := Lib.hid (signsTo_sorted l 1000)
    have hall := signsTo_length l 1000
    rw [hbe] at HCK
    have HBE := Lib.hid hbe
    clear hbe hok
    generalize signsTo l 1000 = all at HDONE HSRT hall HSG
    go_enter Tryz.func28, Tryz.ntmps28
    go_wp2_with fail
    refine HCK.out.mono ?_
    rintro e w1 ⟨rfl, hb1⟩
    have HG1 : Hid (Grow w w1) := hb1
    clear hb1
    go_wp2_with fail
    refine (HSG.out _ HG1.out).mono ?_
    rintro e w2 ⟨A2, cap2, rfl, hF2, hb2⟩
    have HG2 : Hid (Grow w w2) := HG1.out.trans hb2
    have HI2 := Lib.hid hF2.ints
    clear hb2 hF2
    go_wp2_with fail
    go_loopw [5, 7] (fun v iv wr => ∃ (ia : Nat) (A3 : Option Addr) (cap3 : Nat) (ps : List (Int × Int)), ia ≤ all.length ∧ iv = .int .i64 ia ∧ v = .slice A3 ps.length cap3 ∧ wr.ownsRow w2.heap.size 76 2 (.slice A3 ps.length cap3) ps.length (ps.flatMap encP) ∧ TwInv l all ia 0 ps ∧ Grow w2 wr) (fun _ i _ => all.length - (intOf i).toNat)
    case atStart => exact ⟨0, none, 0, [], Nat.zero_le _, rfl, rfl, by simp [World.ownsRow], TwInv.start l all, Grow.refl _⟩
    case round =>
      obtain ⟨ia, A3, cap3, ps, hil, rfl, rfl, hown, hinv, hgr⟩ := hrel
      rename World => wr
      have HOWN := Lib.hid hown
      have HINV := Lib.hid hinv
      have HGR := Lib.hid hgr
      clear hown hinv hgr
      by_cases hlt : ia < all.length
      · have hi1 : (ia : Int) < all.length := by omega
        go_wp2_with fail
        go_loopw [5, 8] (fun v kv wk => ∃ (k : Nat) (A3 : Option Addr) (cap3 : Nat) (ps : List (Int × Int)), ia < k ∧ k ≤ all.length ∧ kv = .int .i64 k ∧ v = .slice A3 ps.length cap3 ∧ wk.ownsRow w2.heap.size 76 2 (.slice A3 ps.length cap3) ps.length (ps.flatMap encP) ∧ TwInv l all ia k ps ∧ Grow w2 wk) (fun _ k _ => all.length - (intOf k).toNat)
        case atStart => exact ⟨ia + 1, A3, cap3, ps, by omega, by omega, by go_num, rfl, HOWN.out, HINV.out.row, HGR.out⟩
        case round =>
          clear HOWN HINV HGR
          obtain ⟨k, A3, cap3, ps, hik, hkl, rfl, rfl, hown, hinv, hgr⟩ := hrel
          rename World => wk
          have HOWN := Lib.hid hown
          have HINV := Lib.hid hinv
          have HGR := Lib.hid hgr
          have hpsl : ps.length ≤ 2000000 := by have := hinv.2.1; omega
          clear hown hinv hgr
          by_cases hlk : k < all.length
          · have hk1 : (k : Int) < all.length := by omega
            obtain ⟨ba, oa, sa, hA2, hba, hca, HSA⟩ := HI2.out.at_ hlt
            obtain ⟨ba', oa', sb, hA2', hba', hcb, HSB⟩ := HI2.out.at_ hlk
            have hpair := hA2.symm.trans hA2'
            simp only [Option.some.injEq, Addr.mk.injEq, and_true] at hpair
            obtain ⟨rfl, rfl⟩ := hpair
            have HCA := Lib.hid hca
            have HCB := Lib.hid hcb
            subst hA2
            clear hca hcb hA2' hba'
            have HM0 := Lib.hid (twM_zero l sa sb)
            go_wp2_with fail
            go_loopw [9, 10] (fun v mv wm => ∃ m : Nat, m ≤ l.length ∧ v = .bool (twM l sa sb m) ∧ mv = .int .i64 m ∧ Grow wk wm) (fun _ m _ => l.length - (intOf m).toNat)
            case atStart => exact ⟨0, Nat.zero_le _, by rw [HM0.out], rfl, Grow.refl _⟩
            case round =>
              obtain ⟨m, hml, rfl, rfl, hgm⟩ := hrel
              rename World => wm
              have HGM := Lib.hid hgm
              clear hgm
              by_cases hlm : m < l.length
              · have hm1 : (m : Int) < l.length := by omega
                obtain ⟨b, off, x, rfl, hb, hcx, hmx, HX⟩ := HE.out.at_ hlm
                have HCX := Lib.hid hcx
                have HMS := Lib.hid (twM_succ (a := sa) (b := sb) HX.out)
                have HN0 := Lib.hid (twN_zero l sa sb x)
                clear hcx hmx
                generalize twM l sa sb m = tm at HMS
                go_wp2_with fail
                go_loopw [9, 11] (fun v nv wn => ∃ n : Nat, n ≤ l.length ∧ v = .bool (tm || twN l sa sb x n) ∧ nv = .int .i64 n ∧ Grow wm wn) (fun _ n _ => l.length - (intOf n).toNat)
                case atStart => exact ⟨0, Nat.zero_le _, by rw [HN0.out, Bool.or_false], rfl, Grow.refl _⟩
                case round =>
                  obtain ⟨n, hnl, rfl, rfl, hgn⟩ := hrel
                  rename World => wn
                  have HGN := Lib.hid hgn
                  clear hgn
                  by_cases hln : n < l.length
                  · have hn1 : (n : Int) < l.length := by omega
                    obtain ⟨b', off', y, hAb, hb', hcy, hmy, HY⟩ := HE.out.at_ hln
                    simp only [Option.some.injEq, Addr.mk.injEq, and_true] at hAb
                    obtain ⟨rfl, rfl⟩ := hAb
                    have HCY := Lib.hid hcy
                    have HGW : Hid (Grow w wn) := (((HG2.out.trans HGR.out).trans HGM.out).trans HGN.out)
                    have HG2N : Hid (Grow w2 wn) := (HGR.out.trans HGM.out).trans HGN.out
                    have HTX := Lib.hid (fun (w0 : World) (h : Grow wn w0) => HTW.out w0 (HGW.out.trans h) x y (List.mem_of_getElem? HX.out) (List.mem_of_getElem? HY.out))
                    have HS : Hid ((tm || twN l sa sb x (n + 1)) = ((tm || twN l sa sb x n) || ((x.d.sign == sa && y.d.sign == sb) && rtwinD x.d y.d))) := by
                      refine Lib.hid ?_
                      rw [twN_succ HY.out, Bool.or_assoc]
                      rfl
                    clear hcy hmy
                    generalize rtwinD x.d y.d = tw at HTX HS
                    generalize hq1 : (x.d.sign == sa) = p1 at HS
                    generalize hq2 : (y.d.sign == sb) = p2 at HS
                    have HQ1 := Lib.hid hq1
                    have HQ2 := Lib.hid hq2
                    clear hq1 hq2
                    generalize (tm || twN l sa sb x n) = is at HS
                    go_upto_region 19 with fail
                    refine wp_region_lit 36 [[], [(0, 45)], [(1, 46)], [(1, 46)], [(1, 46), (2, 47), (3, 48)], [(1, 46), (4, 49)], [(1, 46), (5, 50)], [(1, 46)], [(1, 46)], [(1, 46), (7, 52), (8, 53)], [(1, 46), (9, 54)], [(1, 46), (6, 51), (10, 55)], [(1, 46), (11, 56)], [(12, 57)], [(12, 57)], [(12, 57), (13, 58), (14, 59)], [(12, 57), (15, 60)], [(12, 57), (16, 61)], [(12, 57)], [(12, 57)], [(12, 57), (18, 63), (19, 64)], [(12, 57), (20, 65)], [(12, 57), (17, 62), (21, 66)], [(1, 46), (12, 57), (22, 67)], [(1, 46), (23, 68)], [(24, 69)], [(24, 69)], [(24, 69), (25, 70), (26, 71)], [(24, 69), (27, 72)], [(24, 69)], [(24, 69)], [(24, 69), (29, 74), (30, 75)], [(24, 69), (31, 76)], [(24, 69), (28, 73), (32, 77)], [(1, 46), (24, 69), (33, 78)], [(1, 46), (34, 79)]] Grow (fun i v w' => match i with
                        | 0 => v = .bool is
                        | 1 => v = .bool is
                        | 2 => v = bif !is then .slice (some ⟨b, off, none⟩) l.length cap else undef
                        | 3 => v = bif !is then .int .i64 m else undef
                        | 4 => v = bif !is then .pointer (some ⟨b, off + m * 11, none⟩) else undef
                        | 5 => v = bif !is then .pointer (some ⟨b, off + m * 11 + 1, none⟩) else undef
                        | 6 => v = bif !is then .int .i64 x.d.sign else undef
                        | 7 => v = bif !is then .slice (some ⟨ba, oa, none⟩) all.length cap2 else undef
                        | 8 => v = bif !is then .int .i64 ia else undef
                        | 9 => v = bif !is then .pointer (some ⟨ba, oa + ia, none⟩) else undef
                        | 10 => v = bif !is then .int .i64 sa else undef
                        | 11 => v = bif !is then .bool p1 else undef
                        | 12 => v = bif !is then .bool p1 else undef
                        | 13 => v = bif !is && p1 then .slice (some ⟨b, off, none⟩) l.length cap else undef
                        | 14 => v = bif !is && p1 then .int .i64 n else undef
                        | 15 => v = bif !is && p1 then .pointer (some ⟨b, off + n * 11, none⟩) else undef
                        | 16 => v = bif !is && p1 then .pointer (some ⟨b, off + n * 11 + 1, none⟩) else undef
                        | 17 => v = bif !is && p1 then .int .i64 y.d.sign else undef
                        | 18 => v = bif !is && p1 then .slice (some ⟨ba, oa, none⟩) all.length cap2 else undef
                        | 19 => v = bif !is && p1 then .int .i64 k else undef
                        | 20 => v = bif !is && p1 then .pointer (some ⟨ba, oa + k, none⟩) else undef
                        | 21 => v = bif !is && p1 then .int .i64 sb else undef
                        | 22 => v = bif !is && p1 then .bool p2 else undef
                        | 23 => v = bif !is then .bool (p1 && p2) else undef
                        | 24 => v = bif !is then .bool (p1 && p2) else undef
                        | 25 => v = bif !is && p1 && p2 then .slice (some ⟨b, off, none⟩) l.length cap else undef
                        | 26 => v = bif !is && p1 && p2 then .int .i64 m else undef
                        | 27 => v = bif !is && p1 && p2 then .pointer (some ⟨b, off + m * 11, none⟩) else undef
                        | 28 => v = bif !is && p1 && p2 then entryV x else undef
                        | 29 => v = bif !is && p1 && p2 then .slice (some ⟨b, off, none⟩) l.length cap else undef
                        | 30 => v = bif !is && p1 && p2 then .int .i64 n else undef
                        | 31 => v = bif !is && p1 && p2 then .pointer (some ⟨b, off + n * 11, none⟩) else undef
                        | 32 => v = bif !is && p1 && p2 then entryV y else undef
                        | 33 => v = bif !is && p1 && p2 then .bool tw else undef
                        | 34 => v = bif !is then .bool (p1 && p2 && tw) else undef
                        | 35 => v = .bool (is || (p1 && p2 && tw))
                        | _ => False) (by kernel_rfl) (by kernel_rfl) (fun _ _ _ => Grow.trans) Grow.refl ?_ ?_ ?_
                    · intro i v y y' h k
                      match i, h with
                      | 0, h | 1, h | 2, h | 3, h | 4, h | 5, h | 6, h | 7, h | 8, h | 9, h | 10, h | 11, h | 12, h | 13, h | 14, h | 15, h | 16, h | 17, h | 18, h | 19, h | 20, h | 21, h | 22, h | 23, h | 24, h | 25, h | 26, h | 27, h | 28, h | 29, h | 30, h | 31, h | 32, h | 33, h | 34, h | 35, h => exact h
                    · rcases (show is = true ∨ (is = false ∧ p1 = false) ∨ (is = false ∧ p1 = true ∧ p2 = false) ∨ (is = false ∧ p1 = true ∧ p2 = true) by cases is <;> cases p1 <;> cases p2 <;> simp) with rfl | ⟨rfl, rfl⟩ | ⟨rfl, rfl, rfl⟩ | ⟨rfl, rfl, rfl⟩
                      all_goals simp only [Bool.true_and, Bool.false_and, Bool.not_true, Bool.not_false, Bool.true_or, Bool.false_or, cond_true, cond_false]
                      all_goals
                        simp only [StepsLit, List.take_succ_cons, List.take_zero]
                        refine ⟨?_, ?_, ?_, ?_, ?_, ?_, ?_, ?_, ?_, ?_, ?_, ?_, ?_, ?_, ?_, ?_, ?_, ?_, ?_, ?_, ?_, ?_, ?_, ?_, ?_, ?_, ?_, ?_, ?_, ?_, ?_, ?_, ?_, ?_, ?_, ?_, trivial⟩
                      all_goals
                        intro w5 hR
                        have HG5 := Lib.hid hR.of_drew
                        have hxc : ∀ j, j < 11 → w5.cell? ⟨b, off + m * 11 + j, none⟩ = (cellsE x)[j]? := fun j hj => (Below.cell (p := ⟨b, off + m * 11 + j, none⟩) (HGW.out.trans HG5.out) hb).trans (HCX.out j hj)
                        have hyc : ∀ j, j < 11 → w5.cell? ⟨b, off + n * 11 + j, none⟩ = (cellsE y)[j]? := fun j hj => (Below.cell (p := ⟨b, off + n * 11 + j, none⟩) (HGW.out.trans HG5.out) hb).trans (HCY.out j hj)
                        have hsa := (HG2N.out.trans HG5.out).cell HCA.out
                        have hsb := (HG2N.out.trans HG5.out).cell HCB.out
                        clear hR
                        have hx0 : w5.cell? ⟨b, off + m * 11, none⟩ = some (.int .i64 x.d.id) := hxc 0 (by omega)
                        have hx1 : w5.cell? ⟨b, off + m * 11 + 1, none⟩ = some (.int .i64 x.d.sign) := hxc 1 (by omega)
                        have hx2 : w5.cell? ⟨b, off + m * 11 + 2, none⟩ = some (.int .i64 x.d.regions) := hxc 2 (by omega)
                        have hx3 : w5.cell? ⟨b, off + m * 11 + 3, none⟩ = some (.int .i64 x.d.form.right) := hxc 3 (by omega)
                        have hx4 : w5.cell? ⟨b, off + m * 11 + 4, none⟩ = some (.int .i64 x.d.form.left) := hxc 4 (by omega)
                        have hx5 : w5.cell? ⟨b, off + m * 11 + 5, none⟩ = some (.int .i64 x.d.form.column) := hxc 5 (by omega)
                        have hx6 : w5.cell? ⟨b, off + m * 11 + 6, none⟩ = some (.int .i64 x.d.form.row) := hxc 6 (by omega)
                        have hx7 : w5.cell? ⟨b, off + m * 11 + 7, none⟩ = some (.int .i64 x.d.form.face) := hxc 7 (by omega)
                        have hx8 : w5.cell? ⟨b, off + m * 11 + 8, none⟩ = some (.slice x.A x.d.form.moves.length x.cap) := hxc 8 (by omega)
                        have hx9 : w5.cell? ⟨b, off + m * 11 + 9, none⟩ = some (.int .i64 x.d.low) := hxc 9 (by omega)
                        have hx10 : w5.cell? ⟨b, off + m * 11 + 10, none⟩ = some (.int .i64 x.d.high) := hxc 10 (by omega)
                        have hy0 : w5.cell? ⟨b, off + n * 11, none⟩ = some (.int .i64 y.d.id) := hyc 0 (by omega)
                        have hy1 : w5.cell? ⟨b, off + n * 11 + 1, none⟩ = some (.int .i64 y.d.sign) := hyc 1 (by omega)
                        have hy2 : w5.cell? ⟨b, off + n * 11 + 2, none⟩ = some (.int .i64 y.d.regions) := hyc 2 (by omega)
                        have hy3 : w5.cell? ⟨b, off + n * 11 + 3, none⟩ = some (.int .i64 y.d.form.right) := hyc 3 (by omega)
                        have hy4 : w5.cell? ⟨b, off + n * 11 + 4, none⟩ = some (.int .i64 y.d.form.left) := hyc 4 (by omega)
                        have hy5 : w5.cell? ⟨b, off + n * 11 + 5, none⟩ = some (.int .i64 y.d.form.column) := hyc 5 (by omega)
                        have hy6 : w5.cell? ⟨b, off + n * 11 + 6, none⟩ = some (.int .i64 y.d.form.row) := hyc 6 (by omega)
                        have hy7 : w5.cell? ⟨b, off + n * 11 + 7, none⟩ = some (.int .i64 y.d.form.face) := hyc 7 (by omega)
                        have hy8 : w5.cell? ⟨b, off + n * 11 + 8, none⟩ = some (.slice y.A y.d.form.moves.length y.cap) := hyc 8 (by omega)
                        have hy9 : w5.cell? ⟨b, off + n * 11 + 9, none⟩ = some (.int .i64 y.d.low) := hyc 9 (by omega)
                        have hy10 : w5.cell? ⟨b, off + n * 11 + 10, none⟩ = some (.int .i64 y.d.high) := hyc 10 (by omega)
                        clear hxc hyc
                        simp only [depV, Region.wanted, yielded, cond_true]
                        repeat (rintro _ rfl)
                        try go_simp
                      all_goals first
                        | (with_reducible exact Grow.refl _)
                        | (with_reducible refine ⟨Grow.refl _, ?_⟩; first | (have h := HQ1.out; simpa using h) | (have h := HQ2.out; simpa using h))
                        | (intro h; exact absurd h (by simp [undef]))
                        | skip
                      · refine (HTX.out _ HG5.out).mono ?_
                        rintro e w6 ⟨rfl, hb6⟩
                        exact ⟨hb6, rfl⟩
                    · intro w5 hR
                      have HG5 := Lib.hid (HGN.out.trans hR.of_drew)
                      clear hR HTX
                      simp only [finVC, List.take_succ_cons, List.take_zero, List.drop_succ_cons, List.drop_zero]
                      rintro _ rfl
                      rintro _ rfl
                      rintro _ rfl
                      rintro _ rfl
                      rintro _ rfl
                      rintro _ rfl
                      rintro _ rfl
                      rintro _ rfl
                      rintro _ rfl
                      rintro _ rfl
                      rintro _ rfl
                      rintro _ rfl
                      rintro _ rfl
                      rintro _ rfl
                      rintro _ rfl
                      rintro _ rfl
                      rintro _ rfl
                      rintro _ rfl
                      rintro _ rfl
                      rintro _ rfl
                      rintro _ rfl
                      rintro _ rfl
                      rintro _ rfl
                      rintro _ rfl
                      rintro _ rfl
                      rintro _ rfl
                      rintro _ rfl
                      rintro _ rfl
                      rintro _ rfl
                      rintro _ rfl
                      rintro _ rfl
                      rintro _ rfl
                      rintro _ rfl
                      rintro _ rfl
                      rintro _ rfl
                      rintro _ rfl
                      simp only [Act.put, List.setIfInBounds_toArray, List.set_cons_succ, List.set_cons_zero]
                      rw [← HS.out]
                      generalize hst : (tm || twN l sa sb x (n + 1)) = st
                      have HST2 := Lib.hid hst
                      clear hst HS
                      go_wp2
                      go_roundw
                      case rel => exact ⟨n + 1, by omega, by rw [HST2.out], by go_num, HG5.out⟩
                      case measure => simp [intOf]; omega
                  · obtain rfl : n = l.length := by omega
                    rw [← HMS.out]
                    generalize hst : twM l sa sb (m + 1) = st
                    have HST2 := Lib.hid hst
                    clear hst HMS
                    go_wp2_with fail
                    go_roundw
                    case rel => exact ⟨m + 1, by omega, by rw [HST2.out], by go_num, HGM.out.trans HGN.out⟩
                    case measure => simp [intOf]; omega
              · obtain rfl : m = l.length := by omega
                have HOWN3 := Lib.hid (own_grow HOWN.out HGM.out)
                have HGR3 : Hid (Grow w2 wm) := HGR.out.trans HGM.out
                cases htw : twM l sa sb l.length with
                | false =>
                  have HI3 : Hid (TwInv l all ia (k + 1) ps) := HINV.out.skip HSA.out HSB.out htw
                  clear htw
                  go_wp2_with fail
                  go_roundw
                  case rel => exact ⟨k + 1, A3, cap3, ps, by omega, by omega, by go_num, rfl, HOWN3.out, HI3.out, HGR3.out⟩
                  case measure => simp [intOf]; omega
                | true =>
                  have HI3 : Hid (TwInv l all ia (k + 1) (ps ++ [(sa, sb)])) := HINV.out.take HSRT.out hik HSA.out HSB.out htw
                  clear htw
                  go_upto_region 21 with fail
                  refine wp_region_lit 11 [[], [], [], [(1, 83), (2, 84)], [(3, 85)], [], [], [(5, 87), (6, 88)], [(7, 89)], [(4, 86), (8, 90)], [(9, 91)]] Grow (fun i v w' => match i with
                      | 0 => v = .slice A3 ps.length cap3
                      | 1 => v = .slice (some ⟨ba, oa, none⟩) all.length cap2
                      | 2 => v = .int .i64 ia
                      | 3 => v = .pointer (some ⟨ba, oa + ia, none⟩)
                      | 4 => v = .int .i64 sa
                      | 5 => v = .slice (some ⟨ba, oa, none⟩) all.length cap2
                      | 6 => v = .int .i64 k
                      | 7 => v = .pointer (some ⟨ba, oa + k, none⟩)
                      | 8 => v = .int .i64 sb
                      | 9 => v = .agg #[.int .i64 sa, .int .i64 sb]
                      | 10 => NewP (sa, sb) v w'
                      | _ => False) (by kernel_rfl) (by kernel_rfl) (fun _ _ _ => Grow.trans) Grow.refl ?_ ?_ ?_
                  · intro i v y y' h k
                    match i, h with
                    | 10, h => exact h.grow k
                    | 0, h | 1, h | 2, h | 3, h | 4, h | 5, h | 6, h | 7, h | 8, h | 9, h => exact h
                  · all_goals
                      simp only [StepsLit, List.take_succ_cons, List.take_zero]
                      refine ⟨?_, ?_, ?_, ?_, ?_, ?_, ?_, ?_, ?_, ?_, ?_, trivial⟩
                    all_goals
                      intro w5 hR
                      have HG5 := Lib.hid hR.of_drew
                      have hsa := (HGR3.out.trans HG5.out).cell HCA.out
                      have hsb := (HGR3.out.trans HG5.out).cell HCB.out
                      clear hR
                      simp only [depV, Region.wanted, cond_true]
                      repeat (rintro _ rfl)
                      try go_simp
                    all_goals first
                      | (with_reducible exact Grow.refl _)
                      | skip
                    · exact ⟨Grow.alloc _ _, _, rfl, BlockIs.new _ _ _⟩
                  · intro w5 hR
                    have HG5 := Lib.hid (HGR3.out.trans hR.of_drew)
                    have HOWN5 := Lib.hid (own_grow HOWN3.out hR.of_drew)
                    clear hR
                    simp only [finVC, List.take_succ_cons, List.take_zero, List.drop_succ_cons, List.drop_zero]
                    rintro _ rfl
                    rintro _ rfl
                    rintro _ rfl
                    rintro _ rfl
                    rintro _ rfl
                    rintro _ rfl
                    rintro _ rfl
                    rintro _ rfl
                    rintro _ rfl
                    rintro _ rfl
                    intro v10 hv10
                    simp only [Act.put, List.setIfInBounds_toArray, List.set_cons_succ, List.set_cons_zero]
                    obtain ⟨bp, rfl, hbp⟩ := hv10
                    have hz5 := HG5.out.size
                    go_wp2_with (at_builtin; refine wpList_append_own _ rfl _ _ 39 rfl w2.heap.size 76 i0 (.agg #[.int .i64 0, .int .i64 0]) 2 16 Tryz.underlying39 hi hz0 hz1 hz2 rfl (by decide) _ _ _ rfl HOWN5.out ⟨bp, 0, none⟩ 1 1 (encP (sa, sb)) rfl rfl ?c1 ?c2 ?c3 ?c4 ?c5 ?_)
                    case c1 =>
                      intro j u hu
                      have h := news_pairB (p := (sa, sb)) hbp j u hu
                      rw [show (⟨bp, 0, none⟩ : Addr).add j = ⟨bp, j, none⟩ by (simp [Addr.add]; omega)] at h
                      exact h
                    case c2 => simp [encP, Value.oneCell']
                    case c3 => unfold maxLen; omega
                    case c4 => omega
                    try any_goals exact hz5
                    intro v' w8 hown8 hgrow _
                    obtain ⟨A8, cap8, rfl⟩ := own_form hown8
                    have hb8 := below_grown HG5.out HOWN5.out hgrow hz5
                    have HB8 : Hid (Grow w2 w8) := hb8
                    have HO8 : Hid (w8.ownsRow w2.heap.size 76 2 (.slice A8 (ps.length + 1) cap8) (ps.length + 1) ((ps ++ [(sa, sb)]).flatMap encP)) := by
                      refine Lib.hid ?_
                      rw [flatP_snoc]
                      exact hown8
                    clear hown8 hgrow hb8 hbp
                    go_wp2
                    go_roundw
                    case rel => exact ⟨k + 1, A8, cap8, ps ++ [(sa, sb)], by omega, by omega, by go_num, by simp, by simpa using HO8.out, HI3.out, HB8.out⟩
                    case measure => simp [intOf]; omega
          · obtain rfl : k = all.length := by omega
            have HI3 : Hid (TwInv l all (ia + 1) 0 ps) := HINV.out.close hall
            go_wp2_with fail
            go_roundw
            case rel => exact ⟨ia + 1, A3, cap3, ps, by omega, by go_num, rfl, HOWN.out, HI3.out, HGR.out⟩
            case measure => simp [intOf]; omega
      · obtain rfl : ia = all.length := by omega
        have HD : Hid (TwinsD (l.map (·.d)) ps) := HDONE.out ps HINV.out
        have HR : Hid (wr.ownsRow w.heap.size 76 2 (.slice A3 ps.length cap3) ps.length (ps.flatMap encP)) := by
          refine Lib.hid ?_
          have hs := HG2.out.size
          exact ⟨HOWN.out.1, HOWN.out.2.imp id fun ⟨g, c, cur, e1, e2, e3⟩ => ⟨g, c, cur, e1, by omega, e3⟩⟩
        have HGF : Hid (Grow w wr) := HG2.out.trans HGR.out
        go_wp2
        go_ret2
        exact ⟨HGF.out, A3, cap3, ps, (by rw [HBE.out] <;> rfl), HR.out, fun h => absurd HBE.out h, fun _ => HD.out⟩
  · have HBE := Lib.hid hbe
    generalize hbq : bookErr (l.map (·.d)) = be at HCK hbe
    have HBQ := Lib.hid hbq
    clear hbq
    go_enter Tryz.func28, Tryz.ntmps28
    go_wp2_with fail
    refine HCK.out.mono ?_
    rintro e w1 ⟨rfl, hb1⟩
    have HG1 : Hid (Grow w w1) := hb1
    clear hb1
    go_wp2_with fail
    go_ret2
    exact ⟨HG1.out, none, 0, [], (by rw [HBQ.out] <;> rfl), by simp [World.ownsRow], fun _ => rfl, fun h => absurd h HBE.out⟩

end Go.Proofs.YtfpmkolaiomabaaGreat
