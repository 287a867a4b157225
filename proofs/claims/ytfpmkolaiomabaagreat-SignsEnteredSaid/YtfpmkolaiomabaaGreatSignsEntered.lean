/- SignsEntered: the law's walk. -/
import Derived.Test.YtfpmkolaiomabaaGreatEnterL
import Derived.Test.YtfpmkolaiomabaaGreatEnterOut
import Derived.Test.YtfpmkolaiomabaaGreatMerge
import Derived.Test.YtfpmkolaiomabaaGreatSameBooks
import Derived.Test.YtfpmkolaiomabaaGreatPairs
import Derived.Test.YtfpmkolaiomabaaGreatTwLen
import Derived.Test.YtfpmkolaiomabaaGreatCanonT
namespace Go.Proofs.YtfpmkolaiomabaaGreat
open Go.RowKit

/-- the moves of z lie below lo, or in own blocks of integers -/
def MovX (w : World) (lo : Nat) (z : EntryR) : Prop := (Ints w lo z.A z.d.form.moves ∨ IntsT w lo z.A z.d.form.moves) ∧ z.d.form.moves.length ≤ 6
theorem MovX.grow {w w' : World} {lo : Nat} {z : EntryR} (h : MovX w lo z) (hl : lo ≤ w.heap.size) (g : Grow w w') : MovX w' lo z :=
  ⟨h.1.imp (fun k => k.below (Below.mono g hl)) (fun k => k.grow g), h.2⟩
theorem MovX.grown {w w' : World} {lo n : Nat} {z : EntryR} {v : Value} {ys : List Value} (h : MovX w lo z) (ho : w.ownsRow lo 62 11 v n ys) (hg : w.grownBy w' v.ownBlock) (hl : lo ≤ w.heap.size) : MovX w' lo z :=
  ⟨h.1.imp (fun k => k.below (below_grown (Below.refl _ _) ho hg hl)) (fun k => k.grown ho (by decide) hg), h.2⟩
theorem MovX.moves {w : World} {lo : Nat} {z : EntryR} (h : MovX w lo z) (hl : lo ≤ w.heap.size) : MovesAt w w.heap.size z :=
  ⟨by rcases h.1 with k | k; exact k.more hl; exact k.intsF.ints, by have := h.2; omega⟩

set_option maxRecDepth 100000 in
set_option maxHeartbeats 32000000 in
theorem signsEntered_ready (A A' : Option Addr) (cap cap' : Nat) (l : List EntryR) (s : SeenD) (x : MessD) (w : World) (hA : EntsO w w.heap.size A l) (hl : l.length ≤ 9223372036854775807) (hA' : Ints w w.heap.size A' s.moves)
    (hr : readyD (l.map (·.d)) = true) (hl11 : l.length ≤ 11) (hml : s.moves.length ≤ 20) (hs : okSeen s = true) (ht0 : 0 ≤ x.turn) (ht1 : x.turn ≤ 1000) (hw0 : 0 ≤ x.twice) (hq0 : 0 ≤ x.mirrored) (hq1 : x.mirrored ≤ 9223372036854775807) :
    Calls Tryz.prog 8 #[.slice A l.length cap, seenV s A' cap', messV x] w fun e w' => e = .returned (.bool true) ∧ Below w.heap.size w w' := by
  obtain ⟨tn, tw, mq⟩ := x
  dsimp only at ht0 ht1 hw0 hq0 hq1
  obtain ⟨t, rfl⟩ : ∃ t : Nat, tn = t := ⟨tn.toNat, by omega⟩
  obtain ⟨u, rfl⟩ : ∃ u : Nat, tw = u := ⟨tw.toNat, by omega⟩
  obtain ⟨j0, hj0, hy0, hy1, hy2⟩ := info_parts Tryz.infoEntry
  have HWK := Lib.hid works_any
  obtain ⟨-, hent, hagr, hbe, hlong⟩ := ready_ok hr
  have hE : Ents w w.heap.size A l := (hA.short hlong).1
  have HENTL := Lib.hid hent
  have HAGR := Lib.hid hagr
  have HBE := Lib.hid hbe
  have HOKS := Lib.hid hs
  have HFE : Hid (findErr (l.map (·.d)) s = 0) := Lib.hid (findErr_zero hbe hs)
  have HML0 := Lib.hid (mergeErr_left hbe)
  have HOK : Hid (∀ y ∈ l, okEntry y.d = true) := Lib.hid fun y hy => hent y.d (List.mem_map.2 ⟨y, hy, rfl⟩)
  have HE := Lib.hid hE
  have HIS := Lib.hid hA'
  have HRD := Lib.hid (fun (w0 : World) (h : Grow w w0) => by have k := ready_any A cap w.heap.size l w0 (hA.below h) hl h.size; rw [hr] at k; exact k)
  have HSN := Lib.hid (fun (w0 : World) (h : Grow w w0) => by have k := rIsSeen_any s A' cap' w.heap.size w0 (hA'.below h) (by omega) h.size; rw [hs] at k; exact k)
  have HMI := Lib.hid (fun (w0 : World) (h : Grow w w0) (y : EntryR) (hy : y ∈ l) => rMirrorT_cap y.d.form y.A y.cap w.heap.size w0 ((hE.below h).2 y hy).1 (okForm_len (okEntry_okForm (HOK.out y hy))) h.size (okEntry_okForm (HOK.out y hy)))
  have HOL := Lib.hid (fun (w0 : World) (h : Grow w w0) => Order_any A cap w.heap.size l w0 (hE.below h) (by omega) h.size)
  have HFL := Lib.hid (fun (w0 : World) (h : Grow w w0) => Find_any A A' cap cap' w.heap.size l s w0 (hE.below h) (by omega) (hA'.below h) (by omega) h.size)
  have HAL := Lib.hid (fun (w0 : World) (h : Grow w w0) => Ask_any A A' cap cap' w.heap.size l s w0 (hE.below h) (by omega) (hA'.below h) (by omega) h.size)
  have HTL := Lib.hid (fun (w0 : World) (h : Grow w w0) => Twins_any A cap w.heap.size l w0 (hE.below h) (by omega) h.size)
  have HML := Lib.hid (fun (w0 : World) (h : Grow w w0) => by have k := Merge_any none A 0 cap w0.heap.size w.heap.size [] l w0 ⟨.inl rfl, fun y hy => (by cases hy)⟩ (by simp) (Nat.le_refl _) (hE.below h) (by omega) h.size; rw [List.length_nil, List.map_nil] at k; exact k)
  have d1 : decide ((11 : Int) < l.length) = false := by simp; omega
  have d2 : decide ((20 : Int) < s.moves.length) = false := by simp; omega
  have d3 : decide ((t : Int) < 0) = false := by simp
  have d4 : decide ((1000 : Int) < t) = false := by simp; omega
  have d5 : decide ((u : Int) < 0) = false := by simp
  have d6 : decide (mq < 0) = false := by simp; omega
  have ht2 : t ≤ 1000 := by omega
  clear hA hA' hE hent hagr hbe hlong hr hs
  go_enter Tryz.func8, Tryz.ntmps8
  go_upto_region 1 with fail
  obtain ⟨W, hW, hg, hS, hX, hsz⟩ := two_blocks w 50 59 (cellsS s A' cap') (cellsM ⟨t, u, mq⟩)
  rw [hW]
  clear hW
  have HG := Lib.hid hg
  have HS := Lib.hid hS
  have HX := Lib.hid hX
  clear hg hS hX
  go_wp2_with fail
  refine (HRD.out _ HG.out).mono ?_
  rintro e w2 ⟨rfl, hb2⟩
  have HG2 : Hid (Grow w w2) := HG.out.trans hb2
  have HS2 := Lib.hid (Grow.block hb2 HS.out)
  have HX2 := Lib.hid (Grow.block hb2 HX.out)
  have hsc := HS2.out.cell
  clear hb2
  go_wp2_with fail
  refine (HSN.out _ HG2.out).mono ?_
  rintro e w3 ⟨rfl, hb3⟩
  have HG3 : Hid (Grow w w3) := HG2.out.trans hb3
  have HS3 := Lib.hid (Grow.block hb3 HS2.out)
  have HX3 := Lib.hid (Grow.block hb3 HX2.out)
  have hz03 : w.heap.size + 1 < w3.heap.size := HX3.out.lt
  clear hsc
  have hxc := HX3.out.cell
  clear hb3
  go_wp2_with fail
  clear hxc
  go_loopw [7, 8] (fun v iv wr => ∃ (k : Nat) (A5 : Option Addr) (cap5 : Nat) (zs : List EntryR), k ≤ l.length ∧ iv = .int .i64 k ∧ v = .slice A5 k cap5 ∧ wr.ownsRow w3.heap.size 62 11 (.slice A5 k cap5) k (List.flatMap cellsL zs) ∧ (∀ z ∈ zs, MovX wr w3.heap.size z) ∧ RotAt l t k zs ∧ Below w3.heap.size w3 wr) (fun _ i _ => l.length - (intOf i).toNat)
  case atStart => exact ⟨0, none, 0, [], Nat.zero_le _, rfl, rfl, by simp [World.ownsRow], (fun z hz => by cases hz), RotAt.start l t, Below.refl _ _⟩
  case round =>
    obtain ⟨k, A5, cap5, zs, hk, rfl, rfl, hown, hzm, hrot, hbw⟩ := hrel
    rename World => wr
    have hz := hbw.size
    have HOWN := Lib.hid hown
    have HZM := Lib.hid hzm
    have HROT := Lib.hid hrot
    have HB := Lib.hid hbw
    have HSr := Lib.hid (HS3.out.below hbw (by omega))
    have HXr := Lib.hid (HX3.out.below hbw hz03)
    have HGr : Hid (Grow w wr) := HG3.out.trans (Below.mono hbw (Nat.le_refl _))
    clear hown hzm hrot hbw
    by_cases hlt : k < l.length
    · obtain ⟨j, hj⟩ : ∃ j, (k + t) % l.length = j := ⟨_, rfl⟩
      have hjl : j < l.length := by rw [← hj]; exact Nat.mod_lt _ (by omega)
      have hm1 : ((k : Int) + (t : Int)) % (l.length : Int) = (j : Int) := by rw [← hj]; rfl
      have hm2 : ((k : Int) + (t : Int)).tmod (l.length : Int) = (j : Int) := by rw [← hj]; rfl
      obtain ⟨b, off, y, rfl, hb, hc, hm, HY⟩ := (HE.out.below HGr.out).at_ hjl
      have e0 := hc 0 (by omega); have e1 := hc 1 (by omega); have e2 := hc 2 (by omega); have e3 := hc 3 (by omega); have e4 := hc 4 (by omega); have e5 := hc 5 (by omega)
      have e6 := hc 6 (by omega); have e7 := hc 7 (by omega); have e8 := hc 8 (by omega); have e9 := hc 9 (by omega); have e10 := hc 10 (by omega)
      rw [Nat.add_zero] at e0
      have hyl := List.mem_of_getElem? HY.out
      have HYL := Lib.hid hyl
      have HKT : Hid (l[(k + t) % l.length]? = some y) := Lib.hid (by rw [hj]; exact HY.out)
      have HMX : Hid (MovX wr w3.heap.size y) := Lib.hid ⟨.inl (hm.1.more (by omega)), okForm_len (okEntry_okForm (HOK.out y hyl))⟩
      have hxc := HXr.out.cell
      have hlp : (0 : Int) < l.length := by omega
      have hln : ((l.length : Int) == 0) = false := beq_eq_false_iff_ne.2 (by omega)
      have hjb : (j : Int) < l.length := by omega
      have hk30 : (k : Int) < 30 := by omega
      have hxb : 0 ≤ mq / 2 ^ k ∧ mq / 2 ^ k < 9223372036854775808 := by
        have hp : (0 : Int) < 2 ^ k := Int.pow_pos (by omega)
        refine ⟨Int.ediv_nonneg hq0 (by omega), ?_⟩
        have := Int.ediv_le_self (2 ^ k : Int) hq0
        omega
      have hbm := and_one hxb.1 hxb.2
      have h01 : mq / 2 ^ k % 2 = 0 ∨ mq / 2 ^ k % 2 = 1 := by omega
      clear hc hm hb hj hyl hxb
      go_upto_region 8 with fail
      obtain ⟨W2, hW2, hg2, hx2, hsz2⟩ := one_block wr 62 (cellsE y)
      rw [hW2]
      clear hW2 e0 e1 e2 e3 e4 e5 e6 e7 e8 e9 e10 hm1 hm2 hxc
      have hxc := (hg2.block HXr.out).cell
      have HG2w := Lib.hid hg2
      have HX2w := Lib.hid hx2
      have hyc := hx2.cell
      have hyf := hx2.frozen
      have hgz := hg2.size
      clear hg2 hx2
      rcases h01 with h0 | h0
      · rw [h0] at hbm
        clear h0
        have HOWN2 := Lib.hid (own_grow HOWN.out HG2w.out)
        clear hyf
        go_wp2_with (at_builtin; refine wpList_append_own _ rfl _ _ 33 rfl w3.heap.size 62 j0 (.agg zeroE) 11 104 Tryz.underlying33 hj0 hy0 hy1 hy2 rfl (by decide) _ _ _ rfl (HOWN2.out.alloc _) ⟨W2.heap.size, 0, none⟩ 1 1 (cellsL y) rfl rfl ?c1 ?c2 ?c3 ?c4 ?c5 ?_)
        case c1 => first | exact news_entry 62 | exact fun j u hu => hu
        case c2 => exact one_entry _
        case c3 => unfold maxLen; omega
        case c4 => omega
        case c5 => first | omega | (simp; omega)
        intro v' w9 hown' hgrow _
        obtain ⟨A9, cap9, rfl⟩ := own_form hown'
        have hga : ∀ o, Grow wr (W2.alloc o) := fun o => HG2w.out.trans (Grow.alloc _ _)
        have hb9 := below_grown (HB.out.trans ((hga _).mono hz)) (HOWN2.out.alloc _) hgrow (by simp; omega)
        have hnew : ∀ u ∈ zs ++ [(y : EntryR)], MovX w9 w3.heap.size u := by
          intro u hu
          rcases List.mem_append.1 hu with hu | hu
          · exact ((HZM.out u hu).grow hz (hga _)).grown (HOWN2.out.alloc _) hgrow (by simp; omega)
          · rw [List.mem_singleton] at hu
            subst hu
            exact ((HMX.out.grow hz HG2w.out).grow (by omega) (Grow.alloc _ _)).grown (HOWN2.out.alloc _) hgrow (by simp; omega)
        have HROT2 := Lib.hid (HROT.out.push (z := y) (HKT.out) (.inl rfl))
        have HO9 := Lib.hid hown'
        have HN9 := Lib.hid hnew
        have HB9 := Lib.hid hb9
        clear hown' hgrow hga hb9 hnew
        go_wp2
        go_roundw
        case rel => exact ⟨k + 1, A9, cap9, zs ++ [y], by omega, by go_num, rfl, by rw [flat_snoc]; exact HO9.out, HN9.out, HROT2.out, HB9.out⟩
        case measure => simp [intOf]; omega
      · rw [h0] at hbm
        clear h0
        obtain ⟨g, hg⟩ : ∃ g, mirrorD y.d.form = g := ⟨_, rfl⟩
        have HGL : Hid (g.moves.length ≤ 6) := Lib.hid (by rw [← hg]; exact okForm_len (okForm_mirror (okEntry_okForm (HOK.out y HYL.out))))
        have HMY := Lib.hid (by have k := HMI.out W2 (HGr.out.trans HG2w.out) y HYL.out; rw [hg] at k; exact k)
        have HGE := Lib.hid hg
        clear hg
        go_wp2_with fail
        refine HMY.out.mono ?_
        rintro e w4 ⟨A4, cap4, rfl, hi4, hb4, -⟩
        have hx4 := Grow.block hb4 HX2w.out
        clear hyc hyf hxc
        have hyc := hx4.cell
        have hyf := hx4.frozen
        have HX4 := Lib.hid hx4
        have HI4 := Lib.hid hi4
        have HB4 := Lib.hid hb4
        clear hx4 hi4 hb4
        go_upto_region 10 with fail
        obtain ⟨W5, hW5, hX5, hG5, hI5⟩ : ∃ W', (((((w4.setCell ⟨wr.heap.size, 3, none⟩ (.int .i64 g.right)).setCell ⟨wr.heap.size, 4, none⟩ (.int .i64 g.left)).setCell ⟨wr.heap.size, 5, none⟩ (.int .i64 g.column)).setCell ⟨wr.heap.size, 6, none⟩ (.int .i64 g.row)).setCell ⟨wr.heap.size, 7, none⟩ (.int .i64 g.face)).setCell ⟨wr.heap.size, 8, none⟩ (.slice A4 g.moves.length cap4) = W' ∧
            BlockIs W' wr.heap.size 62 (cellsE ⟨{ y.d with form := g }, A4, cap4⟩) ∧ Grow wr W' ∧ IntsT W' w3.heap.size A4 g.moves :=
          ⟨_, rfl, (((((HX4.out.near 3 _).near 4 _).near 5 _).near 6 _).near 7 _).near 8 _,
            ((((((HG2w.out.trans HB4.out).setC (p := ⟨wr.heap.size, 3, none⟩) (Nat.le_refl _) _).setC (p := ⟨wr.heap.size, 4, none⟩) (Nat.le_refl _) _).setC (p := ⟨wr.heap.size, 5, none⟩) (Nat.le_refl _) _).setC (p := ⟨wr.heap.size, 6, none⟩) (Nat.le_refl _) _).setC (p := ⟨wr.heap.size, 7, none⟩) (Nat.le_refl _) _).setC (p := ⟨wr.heap.size, 8, none⟩) (Nat.le_refl _) _,
            ((((((HI4.out.setCell (p := ⟨wr.heap.size, 3, none⟩) hsz2 _).setCell (p := ⟨wr.heap.size, 4, none⟩) hsz2 _).setCell (p := ⟨wr.heap.size, 5, none⟩) hsz2 _).setCell (p := ⟨wr.heap.size, 6, none⟩) hsz2 _).setCell (p := ⟨wr.heap.size, 7, none⟩) hsz2 _).setCell (p := ⟨wr.heap.size, 8, none⟩) hsz2 _).mono (by omega)⟩
        rw [hW5]
        clear hW5 hyc hyf
        have hyc := hX5.cell
        have HOWN5 := Lib.hid (own_grow HOWN.out hG5)
        have hz5 := hG5.size
        have HG5w := Lib.hid hG5
        have HMX5 : Hid (MovX W5 w3.heap.size ⟨{ y.d with form := g }, A4, cap4⟩) := Lib.hid ⟨.inr hI5, HGL.out⟩
        clear hG5 hI5 hX5
        go_wp2_with (at_builtin; refine wpList_append_own _ rfl _ _ 33 rfl w3.heap.size 62 j0 (.agg zeroE) 11 104 Tryz.underlying33 hj0 hy0 hy1 hy2 rfl (by decide) _ _ _ rfl (HOWN5.out.alloc _) ⟨W5.heap.size, 0, none⟩ 1 1 (cellsL ⟨{ y.d with form := g }, A4, cap4⟩) rfl rfl ?c1 ?c2 ?c3 ?c4 ?c5 ?_)
        case c1 => first | exact news_entry 62 | exact fun j u hu => hu
        case c2 => exact one_entry _
        case c3 => unfold maxLen; omega
        case c4 => omega
        case c5 => first | omega | (simp; omega)
        intro v' w9 hown' hgrow _
        obtain ⟨A9, cap9, rfl⟩ := own_form hown'
        have hga : ∀ o, Grow wr (W5.alloc o) := fun o => HG5w.out.trans (Grow.alloc _ _)
        have hb9 := below_grown (HB.out.trans ((hga _).mono hz)) (HOWN5.out.alloc _) hgrow (by simp; omega)
        have hnew : ∀ u ∈ zs ++ [(⟨{ y.d with form := g }, A4, cap4⟩ : EntryR)], MovX w9 w3.heap.size u := by
          intro u hu
          rcases List.mem_append.1 hu with hu | hu
          · exact ((HZM.out u hu).grow hz (hga _)).grown (HOWN5.out.alloc _) hgrow (by simp; omega)
          · rw [List.mem_singleton] at hu
            subst hu
            exact (HMX5.out.grow (by omega) (Grow.alloc _ _)).grown (HOWN5.out.alloc _) hgrow (by simp; omega)
        have HROT2 := Lib.hid (HROT.out.push (z := ⟨{ y.d with form := g }, A4, cap4⟩) HKT.out (.inr (by rw [← HGE.out])))
        have HO9 := Lib.hid hown'
        have HN9 := Lib.hid hnew
        have HB9 := Lib.hid hb9
        clear hown' hgrow hga hb9 hnew
        go_wp2
        go_roundw
        case rel => exact ⟨k + 1, A9, cap9, zs ++ [⟨{ y.d with form := g }, A4, cap4⟩], by omega, by go_num, rfl, by rw [flat_snoc]; exact HO9.out, HN9.out, HROT2.out, HB9.out⟩
        case measure => simp [intOf]; omega
    · obtain rfl : k = l.length := by omega
      obtain ⟨hsame0, hokz0⟩ := HROT.out.same HOK.out
      have hzl0 : zs.length = l.length := HROT.out.1
      obtain ⟨hen0, -⟩ := own_ents HOWN.out (fun z hz' => ((HZM.out z hz').moves hz))
      have hxc := HXr.out.cell
      by_cases hu : u < l.length
      · have hui : (u : Int) < l.length := by omega
        obtain ⟨b, off, z, rfl, hb, hc, hm, HZ⟩ := hen0.at_ (k := u) (by omega)
        have e0 := hc 0 (by omega); have e1 := hc 1 (by omega); have e2 := hc 2 (by omega); have e3 := hc 3 (by omega); have e4 := hc 4 (by omega); have e5 := hc 5 (by omega)
        have e6 := hc 6 (by omega); have e7 := hc 7 (by omega); have e8 := hc 8 (by omega); have e9 := hc 9 (by omega); have e10 := hc 10 (by omega)
        rw [Nat.add_zero] at e0
        have hzin := List.mem_of_getElem? HZ.out
        have HSAME : Hid (SameBook (l.map (fun y : EntryR => y.d)) ((zs ++ [z]).map (fun y : EntryR => y.d))) := Lib.hid (by rw [List.map_append]; exact hsame0.twice (List.mem_map.2 ⟨z, hzin, rfl⟩))
        have HOKZ : Hid (∀ y ∈ zs ++ [z], okEntry y.d = true) := Lib.hid fun y hy => by
          rcases List.mem_append.1 hy with h | h
          · exact hokz0 y h
          · rw [List.mem_singleton] at h
            subst h
            exact hokz0 y hzin
        have HZL : Hid ((zs ++ [z]).length = l.length + 1) := Lib.hid (by rw [List.length_append, hzl0]; rfl)
        have HZI := Lib.hid hzin
        clear hc hm hb hsame0 hokz0 hzl0 hen0 hzin
        go_wp2_with (at_builtin; refine wpList_append_own _ rfl _ _ 33 rfl w3.heap.size 62 j0 (.agg zeroE) 11 104 Tryz.underlying33 hj0 hy0 hy1 hy2 rfl (by decide) _ _ _ rfl (HOWN.out.alloc _) ⟨wr.heap.size, 0, none⟩ 1 1 (cellsL z) rfl rfl ?c1 ?c2 ?c3 ?c4 ?c5 ?_)
        case c1 => exact news_entry 62
        case c2 => exact one_entry _
        case c3 => unfold maxLen; omega
        case c4 => omega
        case c5 => simp; omega
        intro v' w9 hown' hgrow _
        obtain ⟨A9, cap9, rfl⟩ := own_form hown'
        have hb9 := below_grown (HB.out.trans ((Grow.alloc wr (.cells (cellsE z) 62)).mono hz)) (HOWN.out.alloc _) hgrow (by simp; omega)
        have hz9 := hb9.size
        rw [← flat_snoc] at hown'
        have HENT := Lib.hid (own_ents hown' (fun y hy => by
          refine MovX.moves (lo := w3.heap.size) ?_ hz9
          have hyz : y ∈ zs := by
            rcases List.mem_append.1 hy with h | h
            · exact h
            · rw [List.mem_singleton] at h
              subst h
              exact HZI.out
          exact ((HZM.out y hyz).grow hz (Grow.alloc _ _)).grown (HOWN.out.alloc _) hgrow (by simp; omega))).1
        have HGq : Hid (Grow w w9) := HG3.out.trans (Below.mono hb9 (Nat.le_refl _))
        have HSq := Lib.hid (HS3.out.below hb9 (by omega))
        have hzl12 : (zs ++ [z]).length ≤ 12 := by rw [HZL.out]; omega
        clear hown' hgrow hb9 e0 e1 e2 e3 e4 e5 e6 e7 e8 e9 e10 hxc HOWN HZM HB HXr HSr HROT
        generalize zs ++ [z] = zs6 at HSAME HOKZ HZL HENT hzl12
        have hbz : bookErr (List.map (fun y : EntryR => y.d) zs6) = 0 := bookErr_zero (by rw [List.length_map]; omega) (fun y hy => by
          obtain ⟨z, hz, rfl⟩ := List.mem_map.1 hy
          exact HOKZ.out z hz) (HSAME.out.agreed HAGR.out)
        have hdm : distTo (List.map (fun y : EntryR => y.d) zs6) 100 = distTo (l.map (fun y : EntryR => y.d)) 100 := dist_same HSAME.out HENTL.out (fun y hy => by
          obtain ⟨z, hz, rfl⟩ := List.mem_map.1 hy
          exact HOKZ.out z hz) HAGR.out
        have hmz := mergeErr_right hbz
        have hfz := findErr_zero hbz HOKS.out
        have haz := HSAME.out.ask HFE.out hfz
        have HOZ := Lib.hid (fun (w0 : World) (h : Grow w9 w0) => by have k := Order_any A9 cap9 w9.heap.size zs6 w0 (HENT.out.below h) (by omega) h.size; rw [HZL.out] at k; exact k)
        have HFZ := Lib.hid (fun (w0 : World) (h : Grow w9 w0) => by have k := Find_any A9 A' cap9 cap' w9.heap.size zs6 s w0 (HENT.out.below h) (by omega) ((HIS.out.below (HGq.out.trans h)).more (by have := HGq.out.size; have := h.size; omega)) (by omega) h.size; rw [HZL.out] at k; exact k)
        have HAZ := Lib.hid (fun (w0 : World) (h : Grow w9 w0) => by have k := Ask_any A9 A' cap9 cap' w9.heap.size zs6 s w0 (HENT.out.below h) (by omega) ((HIS.out.below (HGq.out.trans h)).more (by have := HGq.out.size; have := h.size; omega)) (by omega) h.size; rw [HZL.out] at k; exact k)
        have HTZ := Lib.hid (fun (w0 : World) (h : Grow w9 w0) => by have k := Twins_any A9 cap9 w9.heap.size zs6 w0 (HENT.out.below h) (by omega) h.size; rw [HZL.out] at k; exact k)
        have HMZ := Lib.hid (fun (w0 : World) (h : Grow w9 w0) => by have k := Merge_any A9 none cap9 0 w9.heap.size w0.heap.size zs6 [] w0 (HENT.out.below h) (by omega) h.size ⟨.inl rfl, fun y hy => (by cases hy)⟩ (by simp) (Nat.le_refl _); rw [HZL.out, List.length_nil, List.map_nil] at k; exact k)
        have HBZ := Lib.hid hbz
        have HDM := Lib.hid hdm
        have HMZ0 := Lib.hid hmz
        have HFZ0 := Lib.hid hfz
        have HAZ0 := Lib.hid haz
        clear hbz hdm hmz hfz haz HENT
        go_wp2_with fail
        refine (HOL.out w9 HGq.out).mono ?_
        rintro e v1 ⟨hb, A21, cap21, r1, rfl, hi, -, ho⟩
        have HG1 : Hid (Grow w v1) := HGq.out.trans hb
        have HZ1 : Hid (Grow w9 v1) := hb
        have HI1 := Lib.hid hi.ints
        have HO1 := Lib.hid (ho HBE.out)
        have HS1 := Lib.hid (Grow.block hb HSq.out)
        clear hb hi ho
        rw [HBE.out]
        go_wp2_with fail
        refine (HOZ.out v1 HZ1.out).mono ?_
        rintro e v2 ⟨hb, A22, cap22, r2, rfl, hi, -, ho⟩
        have hrr := HO1.out.unique (HSAME.out.symm.order (ho HBZ.out))
        subst hrr
        have HG2' : Hid (Grow w v2) := HG1.out.trans hb
        have HZ2 : Hid (Grow w9 v2) := HZ1.out.trans hb
        have HI1b := Lib.hid ((HI1.out.below hb).more (Below.size hb))
        have HI2 := Lib.hid hi.ints
        have HLR : Hid (r1.length ≤ 1000000) := Lib.hid (by
          obtain ⟨bs, _, hz, rfl⟩ := HO1.out
          have := hz.length
          rw [List.length_map] at this ⊢
          omega)
        have HS2' := Lib.hid (Grow.block hb HS1.out)
        have hsc := HS2'.out.cell
        clear hb hi ho HI1 HO1
        rw [HBZ.out]
        go_wp2_with fail
        refine (HFL.out v2 HG2'.out).mono ?_
        rintro e v3 ⟨hb, A23, cap23, f1, rfl, hi, -, ho⟩
        have HG3' : Hid (Grow w v3) := HG2'.out.trans hb
        have HZ3 : Hid (Grow w9 v3) := HZ2.out.trans hb
        have HI1c := Lib.hid ((HI1b.out.below hb).more (Below.size hb))
        have HI2b := Lib.hid ((HI2.out.below hb).more (Below.size hb))
        have HI3 := Lib.hid hi.ints
        have HO3 := Lib.hid (ho HFE.out)
        have HS3' := Lib.hid (Grow.block hb HS2'.out)
        clear hsc
        have hsc := HS3'.out.cell
        clear hb hi ho HI1b HI2
        rw [HFE.out]
        go_wp2_with fail
        refine (HFZ.out v3 HZ3.out).mono ?_
        rintro e v4 ⟨hb, A24, cap24, f2, rfl, hi, -, ho⟩
        have hff := HO3.out.unique (HSAME.out.symm.found (ho HFZ0.out))
        subst hff
        have HG4' : Hid (Grow w v4) := HG3'.out.trans hb
        have HZ4 : Hid (Grow w9 v4) := HZ3.out.trans hb
        have HLF : Hid (f1.length ≤ 1000000) := Lib.hid (by
          have h1 := nodup_length (a := f1) (b := (l.map (fun y : EntryR => y.d)).map EntryD.sign) (HO3.out.1.imp fun h => by omega) (fun n hn => by
            obtain ⟨y, hy, _, e⟩ := (HO3.out.2 n).1 hn
            exact List.mem_map.2 ⟨y, hy, e⟩)
          rw [List.length_map, List.length_map] at h1
          omega)
        have hsi := sameInts_any A21 A22 cap21 cap22 v3.heap.size v3.heap.size r1 r1 v4 (HI1c.out.below hb) (HI2b.out.below hb) HLR.out HLR.out
        rw [decide_eq_true rfl] at hsi
        have HSI := Lib.hid hsi
        have HSJ := Lib.hid (fun n => by
          have k := sameInts_any A23 A24 cap23 cap24 v3.heap.size v4.heap.size f1 f1 (v4.drewN n) ((HI3.out.below hb).below (Below.drewN_ (Below.refl _ _) n)) (hi.ints.below (Below.drewN_ (Below.refl _ _) n)) HLF.out HLF.out
          rw [decide_eq_true rfl] at k
          exact k)
        have HS4' := Lib.hid (Grow.block hb HS3'.out)
        clear hsc hb hi ho HI1c HI2b HI3 HO3 hsi
        rw [HFZ0.out]
        go_wp2_with fail
        refine HSI.out.mono ?_
        rintro e v5 ⟨rfl, n5, rfl⟩
        go_wp2_with fail
        refine (HSJ.out n5).mono ?_
        rintro e v6 ⟨rfl, n6, rfl⟩
        obtain ⟨v7, hv7, HG7, HZ7, HS7⟩ : ∃ v7, v4.drewN (n5 + n6) = v7 ∧ Hid (Grow w v7) ∧ Hid (Grow w9 v7) ∧ Hid (BlockIs v7 w.heap.size 50 (cellsS s A' cap')) :=
          ⟨_, rfl, Lib.hid (Below.drewN_ HG4'.out _), Lib.hid (Below.drewN_ HZ4.out _), Lib.hid (HS4'.out.drewN _)⟩
        first
          | rw [World.drewN_drewN, hv7]
          | rw [hv7]
        clear hv7 HSI HSJ
        have hsc := HS7.out.cell
        go_wp2_with fail
        refine (HAL.out v7 HG7.out).mono ?_
        rintro e v8 ⟨hb, rfl⟩
        have HG8 : Hid (Grow w v8) := HG7.out.trans hb
        have HZ8 : Hid (Grow w9 v8) := HZ7.out.trans hb
        have HS8 := Lib.hid (Grow.block hb HS7.out)
        clear hsc hb
        have hsc := HS8.out.cell
        go_wp2_with fail
        refine (HAZ.out v8 HZ8.out).mono ?_
        rintro e v9 ⟨hb, rfl⟩
        have HG9 : Hid (Grow w v9) := HG8.out.trans hb
        have HZ9 : Hid (Grow w9 v9) := HZ8.out.trans hb
        clear hsc hb
        rw [HAZ0.out]
        generalize (askR (l.map (fun y : EntryR => y.d)) s).1 = a0
        generalize (askR (l.map (fun y : EntryR => y.d)) s).2.1 = a1
        generalize (askR (l.map (fun y : EntryR => y.d)) s).2.2 = a2
        go_wp2_with fail
        refine (HTL.out v9 HG9.out).mono ?_
        rintro e v10 ⟨hb, A25, cap25, p1, rfl, ho, -, ht⟩
        have HG10 : Hid (Grow w v10) := HG9.out.trans hb
        have HZ10 : Hid (Grow w9 v10) := HZ9.out.trans hb
        have HP10 := Lib.hid (own_pairsL ho).1
        have HT10 := Lib.hid (ht HBE.out)
        clear hb ho ht
        rw [HBE.out]
        go_wp2_with fail
        refine (HTZ.out v10 HZ10.out).mono ?_
        rintro e v11 ⟨hb, A26, cap26, p2, rfl, ho, -, ht⟩
        have hpp := HT10.out.unique (HSAME.out.symm.twins (ht HBZ.out))
        subst hpp
        have HG11 : Hid (Grow w v11) := HG10.out.trans hb
        have HZ11 : Hid (Grow w9 v11) := HZ10.out.trans hb
        have HP10b := Lib.hid (HP10.out.below hb)
        have HP11 := Lib.hid (own_pairsL ho).1
        have HLP := Lib.hid (TwinsD_length HT10.out HENTL.out)
        have hz10 := Below.size hb
        clear hb ho ht HT10 HP10
        rw [HBZ.out]
        go_wp2_with fail
        refine (HML.out v11 HG11.out).mono ?_
        rintro e v12 ⟨hb, A27, cap27, m1, rfl, hm, hen⟩
        have HG12 : Hid (Grow w v12) := HG11.out.trans hb
        have HZ12 : Hid (Grow w9 v12) := HZ11.out.trans hb
        have HP12a := Lib.hid (HP10b.out.below (hb.mono hz10))
        have HP12b := Lib.hid (HP11.out.below hb)
        have HEN12 := Lib.hid hen
        have HM12 : Hid (List.map (fun y : EntryR => y.d) m1 = distTo (l.map (fun y : EntryR => y.d)) 100) := Lib.hid (hm.trans HML0.out.2)
        have hz11 := Below.size hb
        clear hb hm hen HP10b HP11
        rw [HML0.out.1]
        go_wp2_with fail
        refine (HMZ.out v12 HZ12.out).mono ?_
        rintro e v13 ⟨hb, A28, cap28, m2, rfl, hm, hen⟩
        have HG13' : Hid (Grow w v13) := HG12.out.trans hb
        have hm2 : List.map (fun y : EntryR => y.d) m2 = distTo (l.map (fun y : EntryR => y.d)) 100 := hm.trans (HMZ0.out.2.trans HDM.out)
        have hml : m1.length ≤ 1000000 := by
          have h1 := congrArg List.length HM12.out
          have h2 := distTo_length (l.map (fun y : EntryR => y.d)) 100
          rw [List.length_map] at h1
          omega
        have hsp := samePairs_any A25 A26 cap25 cap26 v10.heap.size v11.heap.size p1 p1 v13 (HP12a.out.below (hb.mono (by omega))) (HP12b.out.below (hb.mono hz11)) (by have := HLP.out; omega) (by have := HLP.out; omega)
        rw [decide_eq_true rfl] at hsp
        have HSP := Lib.hid hsp
        have hea := (HEN12.out.below hb).more (Below.size hb)
        have HSB := Lib.hid (fun n => sameBooks_eq A27 A28 cap27 cap28 m1 m2 (v13.drewN n) (hea.below (Below.drewN_ (Below.refl _ _) n)) (hen.below (Below.drewN_ (Below.refl _ _) n)) hml (HM12.out.trans hm2.symm))
        clear hb hm hen hm2 hml hsp hea HEN12 HP12a HP12b
        rw [HMZ0.out.1]
        go_wp2_with fail
        refine HSP.out.mono ?_
        rintro e v14 ⟨rfl, n14, rfl⟩
        go_wp2_with fail
        refine (HSB.out n14).mono ?_
        rintro e v15 ⟨rfl, hb15⟩
        have HG15 : Hid (Grow w v15) := Grow.trans (show Grow w (v13.drewN n14) from Below.drewN_ HG13'.out n14) hb15
        clear hb15
        go_wp2_with fail
        refine (HWK.out _).mono ?_
        rintro e v16 ⟨rfl, hb16⟩
        have HG16 : Hid (Grow w v16) := HG15.out.trans hb16
        clear hb16
        go_wp2
        go_ret
        exact ⟨rfl, HG16.out⟩
      · have hui : decide ((u : Int) < l.length) = false := by simp; omega
        have HSAME := Lib.hid hsame0
        have HOKZ := Lib.hid hokz0
        have HZL := Lib.hid hzl0
        have HENT := Lib.hid hen0
        have HGq := HGr
        have HSq := HSr
        have hzl12 : zs.length ≤ 12 := by omega
        clear hsame0 hokz0 hzl0 hen0 HOWN HZM HB HROT
        have hbz : bookErr (List.map (fun y : EntryR => y.d) zs) = 0 := bookErr_zero (by rw [List.length_map]; omega) (fun y hy => by
          obtain ⟨z, hz, rfl⟩ := List.mem_map.1 hy
          exact HOKZ.out z hz) (HSAME.out.agreed HAGR.out)
        have hdm : distTo (List.map (fun y : EntryR => y.d) zs) 100 = distTo (l.map (fun y : EntryR => y.d)) 100 := dist_same HSAME.out HENTL.out (fun y hy => by
          obtain ⟨z, hz, rfl⟩ := List.mem_map.1 hy
          exact HOKZ.out z hz) HAGR.out
        have hmz := mergeErr_right hbz
        have hfz := findErr_zero hbz HOKS.out
        have haz := HSAME.out.ask HFE.out hfz
        have HOZ := Lib.hid (fun (w0 : World) (h : Grow wr w0) => by have k := Order_any A5 cap5 wr.heap.size zs w0 (HENT.out.below h) (by omega) h.size; rw [HZL.out] at k; exact k)
        have HFZ := Lib.hid (fun (w0 : World) (h : Grow wr w0) => by have k := Find_any A5 A' cap5 cap' wr.heap.size zs s w0 (HENT.out.below h) (by omega) ((HIS.out.below (HGq.out.trans h)).more (by have := HGq.out.size; have := h.size; omega)) (by omega) h.size; rw [HZL.out] at k; exact k)
        have HAZ := Lib.hid (fun (w0 : World) (h : Grow wr w0) => by have k := Ask_any A5 A' cap5 cap' wr.heap.size zs s w0 (HENT.out.below h) (by omega) ((HIS.out.below (HGq.out.trans h)).more (by have := HGq.out.size; have := h.size; omega)) (by omega) h.size; rw [HZL.out] at k; exact k)
        have HTZ := Lib.hid (fun (w0 : World) (h : Grow wr w0) => by have k := Twins_any A5 cap5 wr.heap.size zs w0 (HENT.out.below h) (by omega) h.size; rw [HZL.out] at k; exact k)
        have HMZ := Lib.hid (fun (w0 : World) (h : Grow wr w0) => by have k := Merge_any A5 none cap5 0 wr.heap.size w0.heap.size zs [] w0 (HENT.out.below h) (by omega) h.size ⟨.inl rfl, fun y hy => (by cases hy)⟩ (by simp) (Nat.le_refl _); rw [HZL.out, List.length_nil, List.map_nil] at k; exact k)
        have HBZ := Lib.hid hbz
        have HDM := Lib.hid hdm
        have HMZ0 := Lib.hid hmz
        have HFZ0 := Lib.hid hfz
        have HAZ0 := Lib.hid haz
        clear hbz hdm hmz hfz haz HENT
        go_wp2_with fail
        refine (HOL.out wr HGq.out).mono ?_
        rintro e v1 ⟨hb, A21, cap21, r1, rfl, hi, -, ho⟩
        have HG1 : Hid (Grow w v1) := HGq.out.trans hb
        have HZ1 : Hid (Grow wr v1) := hb
        have HI1 := Lib.hid hi.ints
        have HO1 := Lib.hid (ho HBE.out)
        have HS1 := Lib.hid (Grow.block hb HSq.out)
        clear hb hi ho
        rw [HBE.out]
        go_wp2_with fail
        refine (HOZ.out v1 HZ1.out).mono ?_
        rintro e v2 ⟨hb, A22, cap22, r2, rfl, hi, -, ho⟩
        have hrr := HO1.out.unique (HSAME.out.symm.order (ho HBZ.out))
        subst hrr
        have HG2' : Hid (Grow w v2) := HG1.out.trans hb
        have HZ2 : Hid (Grow wr v2) := HZ1.out.trans hb
        have HI1b := Lib.hid ((HI1.out.below hb).more (Below.size hb))
        have HI2 := Lib.hid hi.ints
        have HLR : Hid (r1.length ≤ 1000000) := Lib.hid (by
          obtain ⟨bs, _, hz, rfl⟩ := HO1.out
          have := hz.length
          rw [List.length_map] at this ⊢
          omega)
        have HS2' := Lib.hid (Grow.block hb HS1.out)
        have hsc := HS2'.out.cell
        clear hb hi ho HI1 HO1
        rw [HBZ.out]
        go_wp2_with fail
        refine (HFL.out v2 HG2'.out).mono ?_
        rintro e v3 ⟨hb, A23, cap23, f1, rfl, hi, -, ho⟩
        have HG3' : Hid (Grow w v3) := HG2'.out.trans hb
        have HZ3 : Hid (Grow wr v3) := HZ2.out.trans hb
        have HI1c := Lib.hid ((HI1b.out.below hb).more (Below.size hb))
        have HI2b := Lib.hid ((HI2.out.below hb).more (Below.size hb))
        have HI3 := Lib.hid hi.ints
        have HO3 := Lib.hid (ho HFE.out)
        have HS3' := Lib.hid (Grow.block hb HS2'.out)
        clear hsc
        have hsc := HS3'.out.cell
        clear hb hi ho HI1b HI2
        rw [HFE.out]
        go_wp2_with fail
        refine (HFZ.out v3 HZ3.out).mono ?_
        rintro e v4 ⟨hb, A24, cap24, f2, rfl, hi, -, ho⟩
        have hff := HO3.out.unique (HSAME.out.symm.found (ho HFZ0.out))
        subst hff
        have HG4' : Hid (Grow w v4) := HG3'.out.trans hb
        have HZ4 : Hid (Grow wr v4) := HZ3.out.trans hb
        have HLF : Hid (f1.length ≤ 1000000) := Lib.hid (by
          have h1 := nodup_length (a := f1) (b := (l.map (fun y : EntryR => y.d)).map EntryD.sign) (HO3.out.1.imp fun h => by omega) (fun n hn => by
            obtain ⟨y, hy, _, e⟩ := (HO3.out.2 n).1 hn
            exact List.mem_map.2 ⟨y, hy, e⟩)
          rw [List.length_map, List.length_map] at h1
          omega)
        have hsi := sameInts_any A21 A22 cap21 cap22 v3.heap.size v3.heap.size r1 r1 v4 (HI1c.out.below hb) (HI2b.out.below hb) HLR.out HLR.out
        rw [decide_eq_true rfl] at hsi
        have HSI := Lib.hid hsi
        have HSJ := Lib.hid (fun n => by
          have k := sameInts_any A23 A24 cap23 cap24 v3.heap.size v4.heap.size f1 f1 (v4.drewN n) ((HI3.out.below hb).below (Below.drewN_ (Below.refl _ _) n)) (hi.ints.below (Below.drewN_ (Below.refl _ _) n)) HLF.out HLF.out
          rw [decide_eq_true rfl] at k
          exact k)
        have HS4' := Lib.hid (Grow.block hb HS3'.out)
        clear hsc hb hi ho HI1c HI2b HI3 HO3 hsi
        rw [HFZ0.out]
        go_wp2_with fail
        refine HSI.out.mono ?_
        rintro e v5 ⟨rfl, n5, rfl⟩
        go_wp2_with fail
        refine (HSJ.out n5).mono ?_
        rintro e v6 ⟨rfl, n6, rfl⟩
        obtain ⟨v7, hv7, HG7, HZ7, HS7⟩ : ∃ v7, v4.drewN (n5 + n6) = v7 ∧ Hid (Grow w v7) ∧ Hid (Grow wr v7) ∧ Hid (BlockIs v7 w.heap.size 50 (cellsS s A' cap')) :=
          ⟨_, rfl, Lib.hid (Below.drewN_ HG4'.out _), Lib.hid (Below.drewN_ HZ4.out _), Lib.hid (HS4'.out.drewN _)⟩
        first
          | rw [World.drewN_drewN, hv7]
          | rw [hv7]
        clear hv7 HSI HSJ
        have hsc := HS7.out.cell
        go_wp2_with fail
        refine (HAL.out v7 HG7.out).mono ?_
        rintro e v8 ⟨hb, rfl⟩
        have HG8 : Hid (Grow w v8) := HG7.out.trans hb
        have HZ8 : Hid (Grow wr v8) := HZ7.out.trans hb
        have HS8 := Lib.hid (Grow.block hb HS7.out)
        clear hsc hb
        have hsc := HS8.out.cell
        go_wp2_with fail
        refine (HAZ.out v8 HZ8.out).mono ?_
        rintro e v9 ⟨hb, rfl⟩
        have HG9 : Hid (Grow w v9) := HG8.out.trans hb
        have HZ9 : Hid (Grow wr v9) := HZ8.out.trans hb
        clear hsc hb
        rw [HAZ0.out]
        generalize (askR (l.map (fun y : EntryR => y.d)) s).1 = a0
        generalize (askR (l.map (fun y : EntryR => y.d)) s).2.1 = a1
        generalize (askR (l.map (fun y : EntryR => y.d)) s).2.2 = a2
        go_wp2_with fail
        refine (HTL.out v9 HG9.out).mono ?_
        rintro e v10 ⟨hb, A25, cap25, p1, rfl, ho, -, ht⟩
        have HG10 : Hid (Grow w v10) := HG9.out.trans hb
        have HZ10 : Hid (Grow wr v10) := HZ9.out.trans hb
        have HP10 := Lib.hid (own_pairsL ho).1
        have HT10 := Lib.hid (ht HBE.out)
        clear hb ho ht
        rw [HBE.out]
        go_wp2_with fail
        refine (HTZ.out v10 HZ10.out).mono ?_
        rintro e v11 ⟨hb, A26, cap26, p2, rfl, ho, -, ht⟩
        have hpp := HT10.out.unique (HSAME.out.symm.twins (ht HBZ.out))
        subst hpp
        have HG11 : Hid (Grow w v11) := HG10.out.trans hb
        have HZ11 : Hid (Grow wr v11) := HZ10.out.trans hb
        have HP10b := Lib.hid (HP10.out.below hb)
        have HP11 := Lib.hid (own_pairsL ho).1
        have HLP := Lib.hid (TwinsD_length HT10.out HENTL.out)
        have hz10 := Below.size hb
        clear hb ho ht HT10 HP10
        rw [HBZ.out]
        go_wp2_with fail
        refine (HML.out v11 HG11.out).mono ?_
        rintro e v12 ⟨hb, A27, cap27, m1, rfl, hm, hen⟩
        have HG12 : Hid (Grow w v12) := HG11.out.trans hb
        have HZ12 : Hid (Grow wr v12) := HZ11.out.trans hb
        have HP12a := Lib.hid (HP10b.out.below (hb.mono hz10))
        have HP12b := Lib.hid (HP11.out.below hb)
        have HEN12 := Lib.hid hen
        have HM12 : Hid (List.map (fun y : EntryR => y.d) m1 = distTo (l.map (fun y : EntryR => y.d)) 100) := Lib.hid (hm.trans HML0.out.2)
        have hz11 := Below.size hb
        clear hb hm hen HP10b HP11
        rw [HML0.out.1]
        go_wp2_with fail
        refine (HMZ.out v12 HZ12.out).mono ?_
        rintro e v13 ⟨hb, A28, cap28, m2, rfl, hm, hen⟩
        have HG13' : Hid (Grow w v13) := HG12.out.trans hb
        have hm2 : List.map (fun y : EntryR => y.d) m2 = distTo (l.map (fun y : EntryR => y.d)) 100 := hm.trans (HMZ0.out.2.trans HDM.out)
        have hml : m1.length ≤ 1000000 := by
          have h1 := congrArg List.length HM12.out
          have h2 := distTo_length (l.map (fun y : EntryR => y.d)) 100
          rw [List.length_map] at h1
          omega
        have hsp := samePairs_any A25 A26 cap25 cap26 v10.heap.size v11.heap.size p1 p1 v13 (HP12a.out.below (hb.mono (by omega))) (HP12b.out.below (hb.mono hz11)) (by have := HLP.out; omega) (by have := HLP.out; omega)
        rw [decide_eq_true rfl] at hsp
        have HSP := Lib.hid hsp
        have hea := (HEN12.out.below hb).more (Below.size hb)
        have HSB := Lib.hid (fun n => sameBooks_eq A27 A28 cap27 cap28 m1 m2 (v13.drewN n) (hea.below (Below.drewN_ (Below.refl _ _) n)) (hen.below (Below.drewN_ (Below.refl _ _) n)) hml (HM12.out.trans hm2.symm))
        clear hb hm hen hm2 hml hsp hea HEN12 HP12a HP12b
        rw [HMZ0.out.1]
        go_wp2_with fail
        refine HSP.out.mono ?_
        rintro e v14 ⟨rfl, n14, rfl⟩
        go_wp2_with fail
        refine (HSB.out n14).mono ?_
        rintro e v15 ⟨rfl, hb15⟩
        have HG15 : Hid (Grow w v15) := Grow.trans (show Grow w (v13.drewN n14) from Below.drewN_ HG13'.out n14) hb15
        clear hb15
        go_wp2_with fail
        refine (HWK.out _).mono ?_
        rintro e v16 ⟨rfl, hb16⟩
        have HG16 : Hid (Grow w v16) := HG15.out.trans hb16
        clear hb16
        go_wp2
        go_ret
        exact ⟨rfl, HG16.out⟩

end Go.Proofs.YtfpmkolaiomabaaGreat
