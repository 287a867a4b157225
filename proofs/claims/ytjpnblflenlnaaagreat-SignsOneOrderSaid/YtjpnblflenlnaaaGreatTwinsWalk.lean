/- Twins: the walk. -/
import Derived.Test.YtjpnblflenlnaaaGreatTwins
import Derived.Test.YtjpnblflenlnaaaGreatValues
namespace Go.Proofs.YtjpnblflenlnaaaGreat
open Go.RowKit
open Go.ChangeMaps (setBlock)

theorem own_not_iter {w : World} {base e size n r m k : Nat} {seen : Array Nat} {v : Value} {xs : List Value} (h : w.ownsRow base e size v n xs) (hit : IterAt w r m k seen) : v.ownBlock ≠ some r := by
  rcases h.2 with ⟨rfl, _⟩ | ⟨g, cap, cur, rfl, _, hh, _⟩
  · simp [Value.ownBlock]
  · intro e
    have : g = r := by simpa [Value.ownBlock] using e
    subst this
    unfold IterAt at hit
    rw [hh] at hit
    cases hit
theorem own_not_block {w : World} {base e size n b : Nat} {t : TypeId} {cs : Array Value} {v : Value} {xs : List Value} (h : w.ownsRow base e size v n xs) (hb : BlockIs w b t cs) (hte : t ≠ e) : v.ownBlock ≠ some b := by
  rcases h.2 with ⟨rfl, _⟩ | ⟨g, cap, cur, rfl, _, hh, _⟩
  · simp [Value.ownBlock]
  · intro e'
    have : g = b := by simpa [Value.ownBlock] using e'
    subst this
    unfold BlockIs at hb
    rw [hh] at hb
    injection hb with hb
    injection hb with _ h2 _
    exact hte h2.symm
theorem flatP_snoc (ps : List (Int × Int)) (p : Int × Int) : (ps ++ [p]).flatMap encP = ps.flatMap encP ++ encP p := by simp
theorem news_pair {w : World} (p : Int × Int) (t : TypeId) : ∀ j u, (encP p)[j]? = some u → (w.alloc (.cells #[.int .i64 p.1, .int .i64 p.2] t)).cell? ((⟨w.heap.size, 0, none⟩ : Addr).add j) = some u := fun j u hu => by
  have h1 := (BlockIs.new w t #[.int .i64 p.1, .int .i64 p.2]).cell j
  rw [show (⟨w.heap.size, 0, none⟩ : Addr).add j = ⟨w.heap.size, j, none⟩ by (simp [Addr.add]; omega), h1]
  rw [← hu]
  exact (Array.getElem?_toList (xs := #[Value.int .i64 p.1, Value.int .i64 p.2])).symm

set_option maxRecDepth 100000 in
set_option maxHeartbeats 8000000 in
theorem Twins_any (A : Option Addr) (cap B : Nat) (l : List EntryR) (w : World) (hA : Ents w B A l) (hl : l.length ≤ 1000000) (hB : B ≤ w.heap.size) :
    Calls Tryz.prog 27 #[.slice A l.length cap] w (TwinsPost (l.map (·.d)) w) := by
  obtain ⟨i0, hi, hz0, hz1, hz2⟩ := info_parts Tryz.infoPair
  have HR := Lib.hid (read_any A cap B l w hA hl hB)
  clear hA
  go_enter Tryz.func27, Tryz.ntmps27
  go_wp2_with fail
  refine HR.out.mono ?_
  rintro e w1 ⟨hb1, hcase⟩
  have HG1 : Hid (Grow w w1) := hb1
  clear hb1
  rcases hcase with ⟨hne, rfl⟩ | ⟨heq, m, bk, rfl, hm, hbk, hmv, hfar, hrd⟩
  · have HNE : Hid (bookErr (l.map (·.d)) ≠ 0) := hne
    generalize hbe : bookErr (l.map (·.d)) = be at hne
    have HBE := Lib.hid hbe
    clear hbe
    go_wp2
    go_ret2
    exact ⟨HG1.out, none, 0, [], by rw [HBE.out]; rfl, World.ownsRow_nil _ _ _ _, fun _ => rfl, fun h => absurd h HNE.out⟩
  · have hbo := readD_book hrd
    have hlen : bk.length ≤ 1000 := by have := hbo.length; have := (bookErr_ok heq).1; simp at this; simp at *; omega
    have HE := Lib.hid heq
    have HBO := Lib.hid hbo
    have HBK := Lib.hid hbk
    have HMV := Lib.hid hmv
    have hrg := range_book hbk
    have hlen2 : bk.length * bk.length ≤ 1000000 := Nat.le_trans (Nat.mul_le_mul hlen hlen) (by omega)
    have HL2 := Lib.hid hlen2
    clear heq hm hbk hmv hfar hrd hbo hlen2
    go_wp2
    go_loopw [6] (fun v wr => ∃ (seen : Array Nat) (A' : Option Addr) (cap' : Nat) (ps : List (Int × Int)), v = .slice A' ps.length cap' ∧ IterAt wr w1.heap.size m bk.length seen ∧ Grow w1 wr ∧ w1.heap.size < wr.heap.size ∧
        wr.ownsRow (w1.heap.size + 1) 76 2 (.slice A' ps.length cap') ps.length (ps.flatMap encP) ∧ Outer bk seen ps) (fun _ wr => (leftOf (entsM bk) (wr.iterSeen w1.heap.size)).size)
    case atStart => exact ⟨#[], none, 0, [], rfl, IterAt.new w1 m bk.length, Grow.alloc _ _, by simp, World.ownsRow_nil _ _ _ _, Outer.start bk⟩
    case round =>
      obtain ⟨seen, A', cap', ps, rfl, hit, hgw, hlt, hown, hou⟩ := hrel
      have hbkr := HBK.out.grow hgw
      clear hrg
      rcases next_book 0 hit hbkr with ⟨hall, hn⟩ | ⟨k, x, hx, hk, w2', hw, hn⟩
      · have hnx : ∀ ty, (Instr.next (.pointer (some ⟨w1.heap.size, 0, none⟩)) false ty).run Tryz.prog wr = _ := fun _ => hn
        have hpl : ps.length ≤ 1000000 := by have := hou.1; have := HL2.out; omega
        have HS := Lib.hid (own_sortP hown hpl)
        have HGW := Lib.hid hgw
        have HOU := Lib.hid (hou.done hall)
        have hge : ∀ q, Value.ownBlock (.slice A' ps.length cap') = some q → w1.heap.size + 1 ≤ q := fun q hq => own_ge hown q hq
        clear hown hbkr hit hou hn hgw
        go_wp2_with fail
        refine HS.out.mono ?_
        rintro e w4 ⟨rfl, ys, hp, hs, hown4, hgr4⟩
        have hb4 : Below w1.heap.size w1 w4 := (show Below w1.heap.size w1 wr from HGW.out).grown hgr4 (by omega) (fun q hq => by have := hge q hq; omega)
        have hyl : ys.length ≤ 1000000 := by rw [hp.length_eq]; exact hpl
        have HC := Lib.hid (own_compactP hown4 hyl)
        have HB4 := Lib.hid hb4
        have hz4 := hgr4.size
        obtain ⟨hc1, hc2, -⟩ := sorted_compactP hs
        have HCS : Hid ((Lib.compact ys).Pairwise (fun p q => cmpP p q < 0) ∧ ∀ p, p ∈ Lib.compact ys ↔ p ∈ ps) := ⟨hc1, fun p => (hc2 p).trans hp.mem_iff⟩
        clear hown4 hgr4 hb4 HS hp hs hc1 hc2
        go_wp2_with fail
        refine HC.out.mono ?_
        rintro e w5 ⟨rfl, hown5, hgr5⟩
        have hb5 : Below w1.heap.size w1 w5 := HB4.out.grown hgr5 (by omega) (fun q hq => by have := hge q hq; omega)
        have HO5 := Lib.hid hown5
        have HB5 := Lib.hid hb5
        clear hown5 hgr5 hb5 HC
        go_wp2
        go_ret2
        refine ⟨HG1.out.trans HB5.out, A', cap', Lib.compact ys, by rw [HE.out]; rfl, ?_, fun h => absurd HE.out h, fun _ => TwinsD.of_book HBO.out HCS.out.1 fun p => (HCS.out.2 p).trans (HOU.out p)⟩
        have ho := HO5.out
        have hz := HG1.out.size
        refine ⟨ho.1, ?_⟩
        rcases ho.2 with h0 | ⟨g, c, cur, hv, hg, rest⟩
        · exact .inl h0
        · exact .inr ⟨g, c, cur, hv, by omega, rest⟩
      · obtain ⟨wo, rfl⟩ : ∃ wo : World, wo = wr := ⟨_, rfl⟩
        obtain ⟨hit2, hb2, hz2', hoth⟩ := step_book hit hw
        have hgr2 := step_grown (r := w1.heap.size) (o := .mapIter (some m) bk.length (seen.push k) bk.length) hw
        generalize setBlock w2' w1.heap.size (.mapIter (some m) bk.length (seen.push k) bk.length) = w2 at hn hit2 hb2 hz2' hoth hgr2
        have hnx : ∀ ty, (Instr.next (.pointer (some ⟨w1.heap.size, 0, none⟩)) false ty).run Tryz.prog wo = _ := fun _ => hn
        have hmr : m ≠ w1.heap.size := by have := HBK.out.lt; omega
        have hbk2 : BookAt w2 m bk := (hoth m hmr).trans hbkr
        have hen := entry_book hit2 hbk2 hx
        have hown2 := hown.kept hgr2 (.inr (own_not_iter hown hit))
        have HI0 := Lib.hid hit
        have HOU := Lib.hid hou
        have hgw2 : Grow w1 w2 := Below.trans hgw hb2
        clear hn hoth hw hown hit hbkr hgr2 hb2 hou hgw
        go_upto_region 8 with fail
        obtain ⟨W3, hW3, hg3, hf3, hsz3⟩ := one_block w2 62 (cellsE x)
        rw [hz2'] at hf3 hsz3
        rw [hW3]
        clear hW3
        have hgw3 : Grow w1 W3 := hgw2.trans hg3
        have hit3 := hit2.grow hg3
        have hown3 := own_grow hown2 hg3
        have hrg3 := range_book (HBK.out.grow hgw3)
        have hxin := List.mem_of_getElem? hx
        have HX := Lib.hid hx
        have HK := Lib.hid hk
        have HIN := Lib.hid (HOU.out.inner hx hk)
        have hmeas := left_book hx hk
        have hrw : w1.heap.size < wo.heap.size := hlt
        clear hen hnx hbk2 hit2 hown2 hgw2 hz2' hg3 hx hk
        go_wp2
        go_loopw [6] (fun v wr => ∃ (seen2 : Array Nat) (A2 : Option Addr) (cap2 : Nat) (ps2 : List (Int × Int)), v = .slice A2 ps2.length cap2 ∧ IterAt wr w1.heap.size m bk.length (seen.push k) ∧ IterAt wr W3.heap.size m bk.length seen2 ∧ BlockIs wr wo.heap.size 62 (cellsE x) ∧ Grow w1 wr ∧ W3.heap.size < wr.heap.size ∧
            wr.ownsRow (w1.heap.size + 1) 76 2 (.slice A2 ps2.length cap2) ps2.length (ps2.flatMap encP) ∧ Inner bk (leftOf (entsM bk) (seen.push k)).size x ps seen2 ps2) (fun _ wr => (leftOf (entsM bk) (wr.iterSeen W3.heap.size)).size)
        case atStart => exact ⟨#[], A', cap', ps, rfl, hit3.grow (Grow.alloc _ _), IterAt.new W3 m bk.length, hf3.old _, hgw3.trans (Grow.alloc _ _), by simp, own_grow hown3 (Grow.alloc _ _), HIN.out⟩
        case round =>
          obtain ⟨seen2, A2, cap2, ps2, rfl, hitA, hitB, hbx, hgi, hlt2, hownI, hin⟩ := hrel
          have hbki := HBK.out.grow hgi
          clear hrg3 hit3 hown3 hf3
          rcases next_book 0 hitB hbki with ⟨hall, hn⟩ | ⟨j, y, hy, hj, w5', hw5, hn⟩
          · have hnx : ∀ ty, (Instr.next (.pointer (some ⟨W3.heap.size, 0, none⟩)) false ty).run Tryz.prog wr = _ := fun _ => hn
            have HOUT := Lib.hid (Inner.outer HOU.out hin HX.out hall)
            have HIA := Lib.hid hitA
            have HGI := Lib.hid hgi
            have HOW := Lib.hid hownI
            have hsz5 : w1.heap.size < wr.heap.size := hitA.lt
            clear hn hitB hbki hin hitA hgi hownI hbx
            go_wp2
            go_roundw
            case rel => exact ⟨seen.push k, A2, cap2, ps2, rfl, HIA.out, HGI.out, hsz5, HOW.out, HOUT.out⟩
            case measure => rw [HIA.out.seen, HI0.out.seen]; exact hmeas
          · have hR12 : w1.heap.size ≠ W3.heap.size := by omega
            have hbR : wo.heap.size ≠ W3.heap.size := by omega
            obtain ⟨hitB2, hb5, hz5, hoth5⟩ := step_book hitB hw5
            have hgr5 := step_grown (r := W3.heap.size) (o := .mapIter (some m) bk.length (seen2.push j) bk.length) hw5
            generalize setBlock w5' W3.heap.size (.mapIter (some m) bk.length (seen2.push j) bk.length) = w5 at hn hitB2 hb5 hz5 hoth5 hgr5
            have hnx : ∀ ty, (Instr.next (.pointer (some ⟨W3.heap.size, 0, none⟩)) false ty).run Tryz.prog wr = _ := fun _ => hn
            have hmr2 : m ≠ W3.heap.size := by have := HBK.out.lt; have := hgw3.size; omega
            have hbk5 : BookAt w5 m bk := (hoth5 m hmr2).trans hbki
            have hen := entry_book hitB2 hbk5 hy
            have hown5 := hownI.kept hgr5 (.inr (own_not_iter hownI hitB))
            have hitA5 : IterAt w5 w1.heap.size m bk.length (seen.push k) := (hoth5 w1.heap.size hR12).trans hitA
            have hbx5 : BlockIs w5 wo.heap.size 62 (cellsE x) := (hoth5 wo.heap.size hbR).trans hbx
            have hgi5 : Grow w1 w5 := Below.trans hgi (hb5.mono (by have := hgw3.size; omega))
            have HIB0 := Lib.hid hitB
            have HINN := Lib.hid hin
            clear hn hoth5 hw5 hownI hitB hbki hgr5 hb5 hin hgi hitA hbx
            go_upto_region 11 with fail
            obtain ⟨W6, hW6, hg6, hf6, hsz6⟩ := one_block w5 62 (cellsE y)
            rw [hz5] at hf6 hsz6
            rw [hW6]
            clear hW6
            have hgw6 : Grow w1 W6 := hgi5.trans hg6
            have hitA6 := hitA5.grow hg6
            have hitB6 := hitB2.grow hg6
            have hown6 := own_grow hown5 hg6
            have hbx6 := hg6.block hbx5
            have hyin := List.mem_of_getElem? hy
            have hmv6 := HMV.out.grow hgw6
            have HSH := Lib.hid (sameShown_any x y W6 (hmv6 x hxin).1 (hmv6 y hyin).1 (hmv6 x hxin).2 (hmv6 y hyin).2)
            have hmeas2 := left_book hy hj
            have HY := Lib.hid hy
            have HJ := Lib.hid hj
            have hcx := hbx6.cell
            have hcy := hf6.cell
            have HIA6 := Lib.hid hitA6
            have HIB6 := Lib.hid hitB6
            have HOW6 := Lib.hid hown6
            have HBX6 := Lib.hid hbx6
            have HFY6 := Lib.hid hf6
            have HGW6 := Lib.hid hgw6
            have hlt6 : W3.heap.size < W6.heap.size := hitB6.lt
            clear hen hnx hbk5 hitB2 hown5 hitA5 hbx5 hgi5 hz5 hg6 hitA6 hitB6 hown6 hbx6 hf6 hgw6 hmv6 hy hj hyin
            by_cases hsg : x.d.sign < y.d.sign
            · have HSG := Lib.hid hsg
              have hsg2 : decide (x.d.sign < y.d.sign) = true := by simpa using hsg
              go_wp2_with fail
              refine HSH.out.mono ?_
              rintro e w7 ⟨rfl, hb7⟩
              have hg7 : Grow W6 w7 := hb7
              have hcx7 := (hg7.block HBX6.out).cell
              have hcy7 := (hg7.block HFY6.out).cell
              have HIA7 := Lib.hid (HIA6.out.grow hg7)
              have HIB7 := Lib.hid (HIB6.out.grow hg7)
              have hown7 := own_grow HOW6.out hg7
              have HBX7 := Lib.hid (hg7.block HBX6.out)
              have HGW7 := Lib.hid (HGW6.out.trans hg7)
              have hlt7 : W3.heap.size < w7.heap.size := (HIB6.out.grow hg7).lt
              clear hg7 hb7 hcx hcy
              cases hshn : shownD x.d y.d with
              | false =>
                have HT : Hid (¬twinOf x.d y.d = true) := by refine Lib.hid ?_; simp [twinOf, hshn]
                have HO7 := Lib.hid hown7
                clear hshn hown7
                go_wp2
                go_roundw
                case rel => exact ⟨seen2.push j, A2, cap2, ps2, rfl, HIA7.out, HIB7.out, HBX7.out, HGW7.out, hlt7, HO7.out, HINN.out.skip HY.out HJ.out HT.out⟩
                case measure => rw [HIB7.out.seen, HIB0.out.seen]; exact hmeas2
              | true =>
                have HT : Hid (twinOf x.d y.d = true) := by refine Lib.hid ?_; simp [twinOf, hshn, HSG.out]
                have hpl : ps2.length ≤ 1000000 := by have := HINN.out.1; have := HL2.out; omega
                have hge : w1.heap.size + 1 ≤ w7.heap.size := by have := HIA7.out.lt; omega
                clear hshn
                go_wp2_with (at_builtin; refine wpList_append_own _ rfl _ _ 39 rfl (w1.heap.size + 1) 76 i0 (.agg #[.int .i64 0, .int .i64 0]) 2 16 Tryz.underlying39 hi hz0 hz1 hz2 rfl (by decide) _ _ _ rfl (hown7.alloc _) ⟨w7.heap.size, 0, none⟩ 1 1 (encP (x.d.sign, y.d.sign)) rfl rfl ?c1 ?c2 ?c3 ?c4 ?c5 ?_)
                case c1 => exact news_pair (x.d.sign, y.d.sign) _
                case c2 => simp [encP, Value.oneCell']
                case c3 => unfold maxLen; omega
                case c4 => omega
                case c5 => simp; omega
                intro v' w8 hown8 hgrow _
                obtain ⟨A8, cap8, rfl⟩ := own_form hown8
                have hneA : some w1.heap.size ≠ Value.ownBlock (.slice A2 ps2.length cap2) := (own_not_iter hown7 HIA7.out).symm
                have hneB : some W3.heap.size ≠ Value.ownBlock (.slice A2 ps2.length cap2) := (own_not_iter hown7 HIB7.out).symm
                have hneX : some wo.heap.size ≠ Value.ownBlock (.slice A2 ps2.length cap2) := (own_not_block hown7 HBX7.out (by decide)).symm
                have HIA8 : Hid (IterAt w8 w1.heap.size m bk.length (seen.push k)) := (hgrow.block w1.heap.size (by simp; omega) hneA).trans (HIA7.out.grow (Grow.alloc _ _))
                have HIB8 : Hid (IterAt w8 W3.heap.size m bk.length (seen2.push j)) := (hgrow.block W3.heap.size (by simp; omega) hneB).trans (HIB7.out.grow (Grow.alloc _ _))
                have HBX8 : Hid (BlockIs w8 wo.heap.size 62 (cellsE x)) := (hgrow.block wo.heap.size (by have := HBX7.out.lt; simp; omega) hneX).trans (HBX7.out.old _)
                have HGW8 : Hid (Grow w1 w8) := Below.grown (HGW7.out.trans (Grow.alloc _ _)) hgrow (by simp; omega) (fun q hq => by have := own_ge hown7 q hq; omega)
                have HO8 : Hid (w8.ownsRow (w1.heap.size + 1) 76 2 (.slice A8 (ps2.length + 1) cap8) (ps2.length + 1) ((ps2 ++ [(x.d.sign, y.d.sign)]).flatMap encP)) := by
                  refine Lib.hid ?_
                  rw [flatP_snoc]
                  exact hown8
                have hlt8 : W3.heap.size < w8.heap.size := HIB8.out.lt
                clear hown8 hgrow hown7 hneA hneB hneX hcx7 hcy7
                go_wp2
                go_roundw
                case rel => exact ⟨seen2.push j, A8, cap8, ps2 ++ [(x.d.sign, y.d.sign)], by simp, HIA8.out, HIB8.out, HBX8.out, HGW8.out, hlt8, by simpa using HO8.out, HINN.out.take HY.out HJ.out HT.out⟩
                case measure => rw [HIB8.out.seen, HIB0.out.seen]; exact hmeas2
            · have HT : Hid (¬twinOf x.d y.d = true) := by refine Lib.hid ?_; simp [twinOf, hsg]
              have hsg2 : decide (x.d.sign < y.d.sign) = false := by simpa using hsg
              go_wp2
              go_roundw
              case rel => exact ⟨seen2.push j, A2, cap2, ps2, rfl, HIA6.out, HIB6.out, HBX6.out, HGW6.out, hlt6, HOW6.out, HINN.out.skip HY.out HJ.out HT.out⟩
              case measure => rw [HIB6.out.seen, HIB0.out.seen]; exact hmeas2

end Go.Proofs.YtjpnblflenlnaaaGreat
