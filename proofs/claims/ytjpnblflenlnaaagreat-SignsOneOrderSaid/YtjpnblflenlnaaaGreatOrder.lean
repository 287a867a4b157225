/- Order: the program's. -/
import Derived.Test.YtjpnblflenlnaaaGreatSorted
import Derived.Test.YtjpnblflenlnaaaGreatBookSet
namespace Go.Proofs.YtjpnblflenlnaaaGreat
open Go.RowKit Go.Shelf

theorem own_ents {w : World} {base n cap : Nat} {t : TypeId} {A : Option Addr} {ys : List EntryR} (h : w.ownsRow base t 11 (.slice A n cap) n (ys.flatMap cellsL)) (hm : ∀ y ∈ ys, MovesAt w w.heap.size y) : Ents w w.heap.size A ys ∧ n = ys.length := by
  have hl : n = ys.length := by
    have := h.1
    rw [flat_length (k := 11) (fun _ => rfl)] at this
    omega
  refine ⟨⟨?_, hm⟩, hl⟩
  rcases h.2 with ⟨h0, h2⟩ | ⟨g, c, cur, hv, hg, hh, h2, h3, h4, h5⟩
  · exact .inl (List.eq_nil_of_length_eq_zero (by omega))
  · injection hv with e1 e2 e3
    subst e1 e3
    refine .inr ⟨g, 0, rfl, (Array.getElem?_eq_some_iff.1 hh).1, fun i x hi j hj => ?_⟩
    have hf := flat_get (enc := cellsL) (k := 11) (fun _ => rfl) ys i j hj
    rw [hi, Option.bind_some] at hf
    have hjl : j < (cellsL x).length := hj
    have hc := h.cells (g := g) rfl (i * 11 + j) ((cellsL x)[j]) (by rw [hf]; exact List.getElem?_eq_getElem hjl)
    rw [show (⟨g, 0, none⟩ : Addr).add (i * 11 + j) = ⟨g, 0 + i * 11 + j, none⟩ by (simp [Addr.add]; omega)] at hc
    rw [hc, ← List.getElem?_eq_getElem hjl]
    exact Array.getElem?_toList

/-- r are the Ids of the book of l, in the order of the dictionary -/
def OrderD (l : List EntryD) (r : List Int) : Prop := ∃ ys : List EntryD, ys.Pairwise (fun x y => cmpE x y ≤ 0) ∧ IsBookOf l ys ∧ r = ys.map EntryD.id
theorem IsBookOf.perm {l a b : List EntryD} (h : IsBookOf l a) (hp : b.Perm a) : IsBookOf l b :=
  ⟨fun y => (hp.mem_iff).trans (h.mem y), (hp.map EntryD.id).nodup_iff.2 h.once⟩
theorem book_strict {l ys : List EntryD} {c : EntryD → EntryD → Int} (hc : ∀ x y, c x y = 0 → x.id = y.id) (hb : IsBookOf l ys) (hs : ys.Pairwise (fun x y => c x y ≤ 0)) : ys.Pairwise (fun x y => c x y < 0) := by
  have ho := hb.once
  unfold Once at ho
  rw [List.Nodup, List.pairwise_map] at ho
  refine (hs.and ho).imp fun ⟨h1, h2⟩ => ?_
  have : c _ _ ≠ 0 := fun e => h2 (hc _ _ e)
  omega
theorem book_unique {l a b : List EntryD} {c : EntryD → EntryD → Int} (h : Cmp c) (hc : ∀ x y, c x y = 0 → x.id = y.id) (ha : IsBookOf l a) (hb : IsBookOf l b) (hsa : a.Pairwise (fun x y => c x y ≤ 0)) (hsb : b.Pairwise (fun x y => c x y ≤ 0)) : a = b :=
  sorted_unique h (book_strict hc ha hsa) (book_strict hc hb hsb) fun x => (ha.mem x).trans (hb.mem x).symm
theorem OrderD.unique {l : List EntryD} {a b : List Int} (ha : OrderD l a) (hb : OrderD l b) : a = b := by
  obtain ⟨x, hx, hbx, rfl⟩ := ha
  obtain ⟨y, hy, hby, rfl⟩ := hb
  rw [book_unique cmp_cmpE (fun _ _ => cmpE_eq0) hbx hby hx hy]
def OrderPost (l : List EntryD) (w : World) (e : Ending) (w' : World) : Prop :=
  Below w.heap.size w w' ∧ ∃ A cap r, e = .returned (.tuple #[.slice A (List.length r) cap, .int .i64 (bookErr l)]) ∧ IntsF w' w.heap.size A r ∧ (bookErr l ≠ 0 → A = none ∧ r = []) ∧ (bookErr l = 0 → OrderD l r)

set_option maxRecDepth 100000 in
set_option maxHeartbeats 4000000 in
theorem Order_any (A : Option Addr) (cap B : Nat) (l : List EntryR) (w : World) (hA : Ents w B A l) (hl : l.length ≤ 1000000) (hB : B ≤ w.heap.size) :
    Calls Tryz.prog 25 #[.slice A l.length cap] w (OrderPost (l.map (·.d)) w) := by
  obtain ⟨i0, hi, hz0, hz1, hz2⟩ := info_parts Tryz.infoInt
  have HR := Lib.hid (read_any A cap B l w hA hl hB)
  clear hA
  go_enter Tryz.func25, Tryz.ntmps25
  go_wp2_with fail
  refine HR.out.mono ?_
  rintro e w1 ⟨hb1, hcase⟩
  have HG1 : Hid (Grow w w1) := hb1
  clear hb1
  rcases hcase with ⟨hne, rfl⟩ | ⟨heq, m, bk, rfl, hm, hbk, hmv, hfar, hrd⟩
  · have HNE : Hid (bookErr (l.map (·.d)) ≠ 0) := hne
    generalize hbe : bookErr (l.map (·.d)) = be at hne
    have HBE := Lib.hid hbe
    clear hbe
    go_wp2
    go_ret2
    exact ⟨HG1.out, none, 0, [], by rw [HBE.out]; rfl, .inl rfl, fun _ => ⟨rfl, rfl⟩, fun h => absurd h HNE.out⟩
  · have hbo := readD_book hrd
    have hlen : bk.length ≤ 1000000 := by have := hbo.length; simp at this; omega
    have HE := Lib.hid heq
    have HBO := Lib.hid hbo
    have HBK := Lib.hid hbk
    have HMV := Lib.hid hmv
    clear heq hm hbk hmv hfar hrd hbo
    go_wp2_with fail
    refine (valuesW_any m w1).mono ?_
    rintro e w2 ⟨rfl, hw2⟩
    have hg2 : Grow w1 w2 := by rw [hw2]; exact Grow.alloc _ _
    have hc2 : w2.cell? ⟨w1.heap.size, 0, none⟩ = some (.map (some m)) := by rw [hw2]; simp
    have hz2' : w1.heap.size < w2.heap.size := by rw [hw2]; simp
    clear hw2
    have HS := Lib.hid (sortedFunc_any w1.heap.size m bk w2 hz2' hc2 (HBK.out.grow hg2) (HMV.out.grow hg2) hlen cmpE cmp_cmpE 57 (enters_of Tryz.func57 (by kernel_rfl) rfl) (fun x y w h1 h2 h3 h4 => order1_any x y w h1 h2 h3 h4))
    have HG2 := Lib.hid (HG1.out.trans hg2)
    have HM2 := Lib.hid (HMV.out.grow hg2)
    clear hg2 hc2 hz2'
    go_wp2_with fail
    refine HS.out.mono ?_
    rintro e w3 ⟨A3, n3, cap3, ys, rfl, hp, hs, ho, hb3⟩
    obtain ⟨hen, rfl⟩ := own_ents ho (fun y hy => ((HM2.out.grow hb3) y (hp.mem_iff.1 hy)).1)
    have hyl : ys.length ≤ 1000000 := by rw [hp.length_eq]; exact hlen
    have hg3 : Grow w w3 := HG2.out.trans hb3
    have HG3 := Lib.hid hg3
    have HEN := Lib.hid hen
    have HOD : Hid (OrderD (l.map (·.d)) (ys.map fun y => y.d.id)) := ⟨ys.map (·.d), by rw [List.pairwise_map]; exact hs, HBO.out.perm (hp.map _), by rw [List.map_map]; rfl⟩
    clear hp hs ho hb3 hen hg3 hlen
    go_wp2
    obtain ⟨W, hW⟩ : ∃ W : World, W = w3 := ⟨_, rfl⟩
    rw [← hW]
    rw [← hW] at HG3 HEN
    clear hW
    go_loopw [7, 23] (fun v i wr => ∃ (k : Nat) (A' : Option Addr) (cap' : Nat), k ≤ ys.length ∧ i = .int .i64 k ∧ v = .slice A' k cap' ∧ wr.ownsRow W.heap.size 3 1 (.slice A' k cap') k (((ys.map fun y => y.d.id).take k).map (Value.int .i64)) ∧ Below W.heap.size W wr) (fun _ i _ => ys.length - (intOf i).toNat)
    case atStart => exact ⟨0, none, 0, Nat.zero_le _, rfl, rfl, by simp [World.ownsRow], Below.refl _ _⟩
    case round =>
      obtain ⟨k, A', cap', hk, rfl, rfl, hown, hbw⟩ := hrel
      by_cases hlt : k < ys.length
      · obtain ⟨b, off, x, rfl, hb, hc, hm, HX⟩ := (HEN.out.below hbw).at_ hlt
        have e0 := hc 0 (by omega); have e1 := hc 1 (by omega); have e2 := hc 2 (by omega); have e3 := hc 3 (by omega); have e4 := hc 4 (by omega); have e5 := hc 5 (by omega)
        have e6 := hc 6 (by omega); have e7 := hc 7 (by omega); have e8 := hc 8 (by omega); have e9 := hc 9 (by omega); have e10 := hc 10 (by omega)
        rw [Nat.add_zero] at e0
        have HOWN := Lib.hid hown
        have HBW := Lib.hid hbw
        clear hc hm hown hbw hb
        go_upto_region 9 with fail
        obtain ⟨W2, hW2, hg2, hx2, hsz2⟩ := one_block wr 62 (cellsE x)
        rw [hW2]
        clear hW2 e0 e1 e2 e3 e4 e5 e6 e7 e8 e9 e10
        have hown2 := own_grow HOWN.out hg2
        have hxc := hx2.cell
        have hbw2 : Below W.heap.size W W2 := HBW.out.trans (Below.mono (show Below wr.heap.size wr W2 from hg2) HBW.out.size)
        have HBW2 := Lib.hid hbw2
        have hwz : W.heap.size ≤ W2.heap.size := hbw2.size
        clear hg2 hx2 hbw2
        go_wp2_with (at_builtin; refine wpList_append_own _ rfl _ _ 22 rfl W.heap.size 3 i0 (.int .i64 0) 1 8 Tryz.underlying22 hi hz0 hz1 hz2 rfl (by decide) _ _ _ rfl (hown2.alloc _) ⟨W2.heap.size, 0, none⟩ 1 1 [.int .i64 x.d.id] rfl rfl ?c1 ?c2 ?c3 ?c4 ?c5 ?_)
        case c1 => exact cell_one_new _ _ _
        case c2 => simp [Value.oneCell']
        case c3 => unfold maxLen; omega
        case c4 => omega
        case c5 => simp; omega
        intro v' w5 hown5 hgrow _
        obtain ⟨A2, cap2, rfl⟩ := own_form hown5
        have hb5 : Below W.heap.size W w5 := (HBW2.out.alloc (by omega) _).grown hgrow (by simp; omega) (fun q hq => own_ge hown2 q hq)
        have HO5 : Hid (w5.ownsRow W.heap.size 3 1 (.slice A2 (k + 1) cap2) (k + 1) (((ys.map fun y => y.d.id).take (k + 1)).map (Value.int .i64))) := by
          refine Lib.hid ?_
          have hx : (ys.map fun y => y.d.id)[k]? = some x.d.id := by rw [List.getElem?_map, HX.out]; rfl
          rw [take_snoc hx, List.map_append]
          simpa [List.map_take] using hown5
        have HB5 := Lib.hid hb5
        clear hown5 hgrow hb5 hown2 hxc
        go_wp2
        go_roundw
        case rel => exact ⟨k + 1, A2, cap2, by omega, by go_num, by simp, HO5.out, HB5.out⟩
        case measure => simp [intOf]; omega
      · obtain rfl : k = ys.length := by omega
        have HO := Lib.hid hown
        have HB := Lib.hid hbw
        clear hown hbw
        go_wp2
        go_ret2
        have ho := HO.out
        rw [List.take_of_length_le (by simp)] at ho
        refine ⟨HG3.out.trans HB.out, A', cap', ys.map fun y => y.d.id, by rw [HE.out]; simp, (own_intsF ho).mono HG3.out.size, fun h => absurd HE.out h, fun _ => HOD.out⟩

end Go.Proofs.YtjpnblflenlnaaaGreat
