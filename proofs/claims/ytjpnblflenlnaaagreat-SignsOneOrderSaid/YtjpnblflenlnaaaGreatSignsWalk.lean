/- The signs of a book that agree with what was seen: the walk. -/
import Derived.Test.YtjpnblflenlnaaaGreatSignsOf
import Derived.Test.YtjpnblflenlnaaaGreatCompactL
namespace Go.Proofs.YtjpnblflenlnaaaGreat
open Go.RowKit
open Go.ChangeMaps (setBlock)

theorem own_other {w w' : World} {base e size n : Nat} {v : Value} {xs : List Value} (h : w.ownsRow base e size v n xs) (g : ∀ b, base ≤ b → w'.heap[b]? = w.heap[b]?) : w'.ownsRow base e size v n xs := by
  obtain ⟨h1, h2⟩ := h
  refine ⟨h1, ?_⟩
  rcases h2 with h2 | ⟨g1, cap, cur, hv, hg, hh, r⟩
  · exact .inl h2
  · exact .inr ⟨g1, cap, cur, hv, hg, (g g1 hg).trans hh, r⟩

set_option maxRecDepth 100000 in
set_option maxHeartbeats 4000000 in
theorem signs_any (s : SeenD) (A : Option Addr) (cap B m : Nat) (l : List EntryR) (w : World) (hA : Ints w B A s.moves) (hB : B ≤ w.heap.size) (hs : SeenIn s) (hb : BookAt w m l) (hmv : ∀ y ∈ l, Ints w w.heap.size y.A y.d.form.moves) (hok : ∀ y ∈ l, okForm y.d.form = true) (hl : l.length ≤ 1000000) :
    Calls Tryz.prog 74 #[seenV s A cap, .map (some m)] w fun e w' => ∃ A' cap' r, e = .returned (.slice A' r.length cap') ∧ SignsOf s l r ∧ IntsF w' w.heap.size A' r ∧ Below w.heap.size w w' := by
  obtain ⟨i0, hi, hz0, hz1, hz2⟩ := info_parts Tryz.infoInt
  go_enter Tryz.func74, Tryz.ntmps74
  go_upto_region 1 with fail
  obtain ⟨W, hW, hg, hf, hsz⟩ := one_block w 100 (cellsS s A cap)
  rw [hW]
  clear hW
  have hrg := range_book (hb.grow hg)
  go_wp2
  go_loopw [5] (fun v wr => ∃ (seen : Array Nat) (A' : Option Addr) (cap' : Nat) (xs : List Int), v = .slice A' xs.length cap' ∧ IterAt wr W.heap.size m l.length seen ∧ Below W.heap.size W wr ∧ W.heap.size < wr.heap.size ∧
      wr.ownsRow (W.heap.size + 1) 3 1 (.slice A' xs.length cap') xs.length (xs.map (Value.int .i64)) ∧ Gathered s l seen xs) (fun _ wr => (leftOf (entsM l) (wr.iterSeen W.heap.size)).size)
  case atStart => exact ⟨#[], none, 0, [], rfl, IterAt.new W m l.length, (Below.refl _ _).alloc (Nat.le_refl _) _, by simp, by simp [World.ownsRow], Gathered.start s l⟩
  case round =>
    obtain ⟨seen, A', cap', xs, rfl, hit, hbw, hlt, hown, hga⟩ := hrel
    have hbk := hb.grow (hg.trans hbw)
    rcases next_book 0 hit hbk with ⟨hall, hn⟩ | ⟨k, y, hy, hk, w1, hw, hn⟩
    · have hnx : ∀ ty, (Instr.next (.pointer (some ⟨W.heap.size, 0, none⟩)) false ty).run Tryz.prog wr = _ := fun _ => hn
      have hlen : xs.length ≤ 1000000 := by have := hga.1; omega
      have HS := Lib.hid (own_sort hown hlen)
      have HBW := Lib.hid hbw
      have HGA := Lib.hid hga
      have hsw : w.heap.size < W.heap.size := hsz
      have hge : ∀ q, Value.ownBlock (.slice A' xs.length cap') = some q → W.heap.size + 1 ≤ q := fun q hq => own_ge hown q hq
      clear hown hbk hit hga hb hA hmv hok hf hn hbw
      go_wp2_with fail
      refine HS.out.mono ?_
      rintro e w4 ⟨rfl, hown4, hgr4⟩
      have hb4 : Below W.heap.size W w4 := HBW.out.grown hgr4 (by omega) (fun q hq => by have := hge q hq; omega)
      have hz4 := hgr4.size
      have hlen4 : (sortedL xs).length ≤ 1000000 := by simpa [sortedL] using hlen
      have HC := Lib.hid (own_compact hown4 hlen4 (compact_len _))
      have HB4 := Lib.hid hb4
      clear hown4 hgr4 hb4 HS
      go_wp2_with fail
      refine HC.out.mono ?_
      rintro e w5 ⟨rfl, hown5, hgr5⟩
      have hb5 : Below W.heap.size W w5 := HB4.out.grown hgr5 (by omega) (fun q hq => by have := hge q hq; omega)
      obtain ⟨hp, hm⟩ := sorted_compact xs
      have HR : Hid (∃ A2 cap2 r, Ending.returned (Value.slice A' (Lib.compact (sortedL xs)).length cap') = .returned (.slice A2 r.length cap2) ∧ SignsOf s l r ∧ IntsF w5 w.heap.size A2 r ∧ Below w.heap.size w w5) :=
        ⟨A', cap', Lib.compact (sortedL xs), rfl, ⟨hp, fun x => (hm x).trans (HGA.out.all hall x)⟩, (own_intsF hown5).mono (by omega), hg.trans hb5⟩
      clear hown5 hgr5 hb5 hp hm HC
      go_wp2
      go_ret
      exact HR.out
    · obtain ⟨hit2, hb2, hz2', hoth⟩ := step_book hit hw
      generalize setBlock w1 W.heap.size (.mapIter (some m) l.length (seen.push k) l.length) = w2 at hn hit2 hb2 hz2' hoth
      have hnx : ∀ ty, (Instr.next (.pointer (some ⟨W.heap.size, 0, none⟩)) false ty).run Tryz.prog wr = _ := fun _ => hn
      have hbk2 : BookAt w2 m l := (hoth m (by have := hb.lt; omega)).trans hbk
      have hen := entry_book hit2 hbk2 hy
      have hown2 := own_other hown (w' := w2) (fun b h => hoth b (by omega)) 
      have HI0 := Lib.hid hit
      clear hn hoth hw hown hit hbk
      go_upto_region 5 with fail
      obtain ⟨W3, hW3, hg3, hf3, hsz3⟩ := one_block w2 62 (cellsE y)
      rw [hz2'] at hf3 hsz3
      rw [hW3]
      clear hW3
      have hsw : w.heap.size < W.heap.size := hsz
      have hbW2 : Below W.heap.size W w2 := hbw.trans hb2
      have hbW3 : Below W.heap.size W W3 := hbW2.trans (Below.mono (show Below w2.heap.size w2 W3 from hg3) (by omega))
      have hgw3 : Grow w W3 := hg.trans hbW3
      have hfv3 := hf.below hbW3 hsw
      have hit3 := hit2.grow hg3
      have hown3 := own_grow hown2 hg3
      have hin := List.mem_of_getElem? hy
      have HAG := Lib.hid (agrees_any s y A cap w.heap.size w.heap.size W3 ((hA.more hB).below hgw3) ((hmv y hin).below hgw3) hgw3.size hgw3.size hs (hok y hin))
      have hcv := hfv3.cell
      have hce := hf3.cell
      have HF3 := Lib.hid hf3
      have HIT := Lib.hid hit3
      have HOWN := Lib.hid hown3
      have HBW := Lib.hid hbW3
      have HGA := Lib.hid hga
      have HX := Lib.hid hy
      have HK := Lib.hid hk
      have HITW := Lib.hid hit2
      have hmeas := left_book hy hk
      clear hA hb hmv hok hf hbw hbk2 hown2 hen hnx hit2 hb2 hg3 hf3 hbW2 hbW3 hgw3 hfv3 hit3 hown3 hga hy hk hin hg
      go_wp2_with fail
      refine HAG.out.mono ?_
      rintro e W4 ⟨rfl, hb4⟩
      have hg4 : Grow W3 W4 := hb4
      have hce4 := (hg4.block HF3.out).cell
      have hit4 := HIT.out.grow hg4
      have hown4 := own_grow HOWN.out hg4
      have hbW4 : Below W.heap.size W W4 := HBW.out.trans (hg4.mono (by omega))
      have hz4 : W3.heap.size ≤ W4.heap.size := hg4.size
      clear hb4 HAG hcv hce
      by_cases hag : agreesD s y.d = true
      · have HAD := Lib.hid hag
        rw [hag]
        clear hag
        have HIT4 := Lib.hid hit4
        have HBW4 := Lib.hid hbW4
        have hlen : xs.length ≤ 1000000 := by have := HGA.out.1; omega
        clear hbW4 hit4
        go_wp2_with (at_builtin; refine wpList_append_own _ rfl _ _ 22 rfl (W.heap.size + 1) 3 i0 (.int .i64 0) 1 8 Tryz.underlying22 hi hz0 hz1 hz2 rfl (by decide) _ _ _ rfl (hown4.alloc _) ⟨W4.heap.size, 0, none⟩ 1 1 [.int .i64 y.d.sign] rfl rfl ?c1 ?c2 ?c3 ?c4 ?c5 ?_)
        case c1 => exact cell_one_new _ _ _
        case c2 => simp [Value.oneCell']
        case c3 => unfold maxLen; omega
        case c4 => omega
        case c5 => simp; omega
        intro v' w5 hown5 hgrow _
        obtain ⟨A2, cap2, rfl⟩ := own_form hown5
        have hit5 : IterAt w5 W.heap.size m l.length (seen.push k) := (hgrow.block W.heap.size (by simp; omega) (fun e => by have := own_ge hown4 W.heap.size e.symm; omega)).trans (HIT4.out.grow (Grow.alloc _ _))
        have hb5 : Below W.heap.size W w5 := (HBW4.out.alloc (by omega) _).grown hgrow (by simp; omega) (fun q hq => by have := own_ge hown4 q hq; omega)
        have HO5 := Lib.hid hown5
        have HI5 := Lib.hid hit5
        have HB5 := Lib.hid hb5
        have hz5 : W.heap.size < w5.heap.size := hit5.lt
        clear hown5 hgrow hit5 hb5 hown4 hce4
        go_wp2
        go_roundw
        case rel => exact ⟨seen.push k, A2, cap2, xs ++ [y.d.sign], by simp, HI5.out, HB5.out, hz5, by simpa using HO5.out, HGA.out.take HX.out HK.out HAD.out⟩
        case measure => rw [HI5.out.seen, HI0.out.seen]; exact hmeas
      · have HAD := Lib.hid hag
        rw [Bool.not_eq_true] at hag
        rw [hag]
        clear hag
        have HIT4 := Lib.hid hit4
        have HBW4 := Lib.hid hbW4
        have HO4 := Lib.hid hown4
        have hz5 : W.heap.size < W4.heap.size := hit4.lt
        clear hbW4 hit4 hown4
        go_wp2
        go_roundw
        case rel => exact ⟨seen.push k, A', cap', xs, rfl, HIT4.out, HBW4.out, hz5, HO4.out, HGA.out.skip HX.out HK.out HAD.out⟩
        case measure => rw [HIT4.out.seen, HI0.out.seen]; exact hmeas

end Go.Proofs.YtjpnblflenlnaaaGreat
