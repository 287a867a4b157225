/- Dist: the specification's distinct, before and Order. -/
import Derived.Test.YtfpmkolaiomabaaGreatCanonT
import Derived.Test.YtfpmkolaiomabaaGreatClash
import Derived.Test.YtfpmkolaiomabaaGreatOrder
namespace Go.Proofs.YtfpmkolaiomabaaGreat
open Go.RowKit

/-- the first entry with an Id -/
def findI (l : List EntryD) (id : Int) : Option EntryD := l.find? fun x => x.id == id
theorem findI_some {l : List EntryD} {id : Int} {x : EntryD} (h : findI l id = some x) : x ∈ l ∧ x.id = id :=
  ⟨List.mem_of_find?_eq_some h, by simpa using List.find?_some h⟩
theorem findI_none {l : List EntryD} {id : Int} (h : findI l id = none) : ∀ x ∈ l, x.id ≠ id := fun x hx => by
  have := List.find?_eq_none.1 h x hx
  simpa using this
theorem findI_ex {l : List EntryD} {x : EntryD} (h : x ∈ l) : ∃ y, findI l x.id = some y := by
  cases e : findI l x.id with
  | none => exact absurd rfl (findI_none e x h)
  | some y => exact ⟨y, rfl⟩
theorem findI_append (l l' : List EntryD) (id : Int) : findI (l ++ l') id = (findI l id).or (findI l' id) := by
  unfold findI; rw [List.find?_append]
/-- the entries with the Ids below k, each once, in their canons, ordered by Id -/
def distTo (l : List EntryD) (k : Nat) : List EntryD := (List.range k).filterMap fun (i : Nat) => (findI l i).map canonE
theorem distTo_succ (l : List EntryD) (k : Nat) : distTo l (k + 1) = distTo l k ++ ((findI l k).map canonE).toList := by
  unfold distTo
  rw [List.range_succ, List.filterMap_append]
  congr 1 <;> (cases h : (findI l k).map canonE <;> simp [h])
theorem distTo_length (l : List EntryD) (k : Nat) : (distTo l k).length ≤ k := by
  have := List.length_filterMap_le (fun (i : Nat) => (findI l i).map canonE) (List.range k)
  simpa [distTo] using this
theorem distTo_mem {l : List EntryD} {k : Nat} {y : EntryD} : y ∈ distTo l k ↔ ∃ x, findI l x.id = some x ∧ 0 ≤ x.id ∧ x.id < k ∧ canonE x = y := by
  unfold distTo
  rw [List.mem_filterMap]
  constructor
  · rintro ⟨i, hi, h⟩
    rw [List.mem_range] at hi
    obtain ⟨x, hx, rfl⟩ := Option.map_eq_some_iff.1 h
    have := (findI_some hx).2
    exact ⟨x, by rw [this]; exact hx, by omega, by omega, rfl⟩
  · rintro ⟨x, hx, h0, h1, rfl⟩
    have e : ((x.id.toNat : Nat) : Int) = x.id := by omega
    exact ⟨x.id.toNat, List.mem_range.2 (by omega), by rw [e, hx]; rfl⟩
theorem canonE_id (x : EntryD) : (canonE x).id = x.id := rfl
theorem distTo_sorted (l : List EntryD) : ∀ k, (distTo l k).Pairwise (fun x y => x.id < y.id)
  | 0 => by simp [distTo]
  | k + 1 => by
    rw [distTo_succ, List.pairwise_append]
    refine ⟨distTo_sorted l k, ?_, fun a ha b hb => ?_⟩
    · cases (findI l k).map canonE <;> simp
    · obtain ⟨x, _, _, h1, rfl⟩ := distTo_mem.1 ha
      cases hf : findI l k with
      | none => rw [hf] at hb; simp at hb
      | some z =>
        rw [hf] at hb
        simp at hb
        subst hb
        rw [canonE_id, canonE_id, (findI_some hf).2]
        exact h1
theorem okEntry_id {x : EntryD} (h : okEntry x = true) : 0 ≤ x.id ∧ x.id ≤ 99 := by
  simp only [okEntry, Bool.and_eq_true, inB_iff] at h
  exact h.1
theorem distTo_once (l : List EntryD) (k : Nat) : Once (distTo l k) := by
  unfold Once
  rw [List.Nodup, List.pairwise_map]
  exact (distTo_sorted l k).imp fun h => by omega
theorem distTo_book {l : List EntryD} (hl : ∀ x ∈ l, okEntry x = true) (ha : Agreed l) : IsBookOf l (distTo l 100) := by
  refine ⟨fun y => ?_, distTo_once l 100⟩
  rw [distTo_mem]
  constructor
  · rintro ⟨x, hx, _, _, rfl⟩
    exact ⟨x, (findI_some hx).1, rfl⟩
  · rintro ⟨x, hx, rfl⟩
    obtain ⟨z, hz⟩ := findI_ex hx
    obtain ⟨hz1, hz2⟩ := findI_some hz
    have := okEntry_id (hl x hx)
    exact ⟨z, by rw [hz2]; exact hz, by omega, by omega, ha z hz1 x hx hz2⟩

/-- v is a slice of entries of its own that read as ds -/
def DistAt (lo : Nat) (ds : List EntryD) (v : Value) (w : World) : Prop := ∃ A cap ys, v = .slice A ds.length cap ∧ List.map (fun y : EntryR => y.d) ys = ds ∧
  w.ownsRow lo 62 11 (.slice A ds.length cap) ds.length (List.flatMap cellsL ys) ∧ ∀ y ∈ ys, IntsT w lo y.A y.d.form.moves

set_option maxRecDepth 100000 in
set_option maxHeartbeats 8000000 in
theorem distinct_any (A : Option Addr) (cap B : Nat) (l : List EntryR) (w : World) (hA : Ents w B A l) (hl : l.length ≤ 1000000) (hB : B ≤ w.heap.size) (hok : ∀ x ∈ l, okForm x.d.form = true) :
    Calls Tryz.prog 62 #[.slice A l.length cap] w fun e w' => ∃ v, e = .returned v ∧ DistAt w.heap.size (distTo (l.map (·.d)) 100) v w' ∧ Below w.heap.size w w' := by
  obtain ⟨i0, hi, hz0, hz1, hz2⟩ := info_parts Tryz.infoEntry
  have HA := Lib.hid (hA.more hB)
  have HOK := Lib.hid hok
  clear hA hok
  go_enter Tryz.func62, Tryz.ntmps62
  go_wp2
  go_loopw [3, 4] (fun v i wr => ∃ (k n : Nat) (A' : Option Addr) (cap' : Nat) (ys : List EntryR), k ≤ 100 ∧ i = .int .i64 k ∧ v = .slice A' n cap' ∧ Hid (List.map (fun y : EntryR => y.d) ys = distTo (l.map (·.d)) k) ∧ n = ys.length ∧ n ≤ k ∧
    wr.ownsRow w.heap.size 62 11 (.slice A' n cap') n (List.flatMap cellsL ys) ∧ (∀ y ∈ ys, IntsT wr w.heap.size y.A y.d.form.moves) ∧ Below w.heap.size w wr) (fun _ i _ => (100 - intOf i).toNat)
  case atStart => exact ⟨0, 0, none, 0, [], by omega, rfl, rfl, rfl, rfl, by omega, by simp [World.ownsRow], (fun y hy => by cases hy), Below.refl _ _⟩
  case round =>
    obtain ⟨k, n, A', cap', ys, hk, rfl, rfl, HYS, hn, hnk, hown, hym, hbw⟩ := hrel
    rename World => wr
    have hz := hbw.size
    have HN := Lib.hid hn
    have HYM := Lib.hid hym
    have HOWN := Lib.hid hown
    have HB := Lib.hid hbw
    clear hn hym hown hbw
    by_cases hlt : k < 100
    · have hk9 : (k : Int) ≤ 99 := by omega
      go_wp2_with fail
      go_loopw [3, 5] (fun v i wi => ∃ m : Nat, m ≤ l.length ∧ v = .slice A' n cap' ∧ i = .int .i64 m ∧ Hid (findI ((l.take m).map (·.d)) k = none) ∧ Grow wr wi) (fun _ i _ => l.length - (intOf i).toNat)
      case atStart => exact ⟨0, Nat.zero_le _, rfl, rfl, rfl, Grow.refl _⟩
      case round =>
        obtain ⟨m, hm, rfl, rfl, HFN, hgr⟩ := hrel
        rename World => wi
        have HGI := Lib.hid hgr
        have hzi := hgr.size
        clear hgr
        by_cases hlt2 : m < l.length
        · obtain ⟨b, off, x, rfl, hb, hc, hmv, HX⟩ := (HA.out.below (HB.out.trans (HGI.out.mono hz))).at_ hlt2
          have e0 := hc 0 (by omega); have e1 := hc 1 (by omega); have e2 := hc 2 (by omega); have e3 := hc 3 (by omega); have e4 := hc 4 (by omega); have e5 := hc 5 (by omega)
          have e6 := hc 6 (by omega); have e7 := hc 7 (by omega); have e8 := hc 8 (by omega); have e9 := hc 9 (by omega); have e10 := hc 10 (by omega)
          rw [Nat.add_zero] at e0
          have HM := Lib.hid hmv
          have hl1 : (m : Int) < l.length := by omega
          have hsn : findI ((l.take (m + 1)).map (·.d)) k = if x.d.id = k then some x.d else none := by
            rw [take_snoc HX.out, List.map_append, findI_append, HFN.out]
            unfold findI
            by_cases h : x.d.id = k <;> simp [h]
          have HSN := Lib.hid hsn
          clear hc hmv hb hsn
          by_cases hid : x.d.id = k
          · have HFS : Hid (findI (l.map (·.d)) k = some x.d) := by
              have h1 := HSN.out
              rw [if_pos hid] at h1
              have h2 : l.map (·.d) = (l.take (m + 1)).map (·.d) ++ (l.drop (m + 1)).map (·.d) := by rw [← List.map_append, List.take_append_drop]
              refine Lib.hid ?_
              rw [h2, findI_append, h1]
              rfl
            have HFO : Hid (okForm x.d.form = true) := HOK.out x (List.mem_of_getElem? HX.out)
            have HID := Lib.hid hid
            have hd : decide (x.d.id = (k : Int)) = true := decide_eq_true hid
            have hd2 : (x.d.id == (k : Int)) = true := by simpa using hid
            clear hid HSN
            go_upto_region 10 with fail
            obtain ⟨W2, hW2, hg2, hx2, hsz2⟩ := one_block wi 62 (cellsE x)
            rw [hW2]
            clear hW2 e0 e1 e2 e3 e4 e5 e6 e7 e8 e9 e10
            have HCF := Lib.hid (rcanonT_any x.d.form x.A x.cap w.heap.size W2 ((HM.out.1).below (hg2.mono (by omega))) (by have := hg2.size; omega) HFO.out)
            have HG2 := Lib.hid hg2
            have HX2 := Lib.hid hx2
            have hxc := hx2.cell
            have hxf := hx2.frozen
            clear hg2 hx2
            go_wp2_with fail
            refine HCF.out.mono ?_
            rintro e W3 ⟨A2, cap2, rfl, hi3, hb3⟩
            have hx3 := Grow.block hb3 HX2.out
            clear hxc hxf
            have hxc := hx3.cell
            have hxf := hx3.frozen
            have HX3 := Lib.hid hx3
            have HI3 := Lib.hid hi3
            have HB3 := Lib.hid hb3
            clear hx3 hi3 hb3
            go_upto_region 11 with fail
            obtain ⟨W4, hW4, hX4, hG4, hI4⟩ : ∃ W', (((((W3.setCell ⟨wi.heap.size, 3, none⟩ (.int .i64 (canonD x.d.form).right)).setCell ⟨wi.heap.size, 4, none⟩ (.int .i64 (canonD x.d.form).left)).setCell ⟨wi.heap.size, 5, none⟩ (.int .i64 (canonD x.d.form).column)).setCell ⟨wi.heap.size, 6, none⟩ (.int .i64 (canonD x.d.form).row)).setCell ⟨wi.heap.size, 7, none⟩ (.int .i64 (canonD x.d.form).face)).setCell ⟨wi.heap.size, 8, none⟩ (.slice A2 (canonD x.d.form).moves.length cap2) = W' ∧
                BlockIs W' wi.heap.size 62 (cellsE ⟨canonE x.d, A2, cap2⟩) ∧ Grow wi W' ∧ IntsT W' w.heap.size A2 (canonD x.d.form).moves :=
              ⟨_, rfl, (((((HX3.out.near 3 _).near 4 _).near 5 _).near 6 _).near 7 _).near 8 _,
                ((((((HG2.out.trans HB3.out).setC (p := ⟨wi.heap.size, 3, none⟩) (Nat.le_refl _) _).setC (p := ⟨wi.heap.size, 4, none⟩) (Nat.le_refl _) _).setC (p := ⟨wi.heap.size, 5, none⟩) (Nat.le_refl _) _).setC (p := ⟨wi.heap.size, 6, none⟩) (Nat.le_refl _) _).setC (p := ⟨wi.heap.size, 7, none⟩) (Nat.le_refl _) _).setC (p := ⟨wi.heap.size, 8, none⟩) (Nat.le_refl _) _,
                ((((((HI3.out.setCell (p := ⟨wi.heap.size, 3, none⟩) hsz2 _).setCell (p := ⟨wi.heap.size, 4, none⟩) hsz2 _).setCell (p := ⟨wi.heap.size, 5, none⟩) hsz2 _).setCell (p := ⟨wi.heap.size, 6, none⟩) hsz2 _).setCell (p := ⟨wi.heap.size, 7, none⟩) hsz2 _).setCell (p := ⟨wi.heap.size, 8, none⟩) hsz2 _).mono (by omega)⟩
            rw [hW4]
            clear hW4 hxc hxf
            have hxc := hX4.cell
            have HOWN4 := Lib.hid (own_grow HOWN.out (HGI.out.trans hG4))
            have hz4 := hG4.size
            have HG4 := Lib.hid hG4
            have HI4 := Lib.hid hI4
            clear hG4 hI4 hX4
            go_wp2_with (at_builtin; refine wpList_append_own _ rfl _ _ 33 rfl w.heap.size 62 i0 (.agg zeroE) 11 104 Tryz.underlying33 hi hz0 hz1 hz2 rfl (by decide) _ _ _ rfl (HOWN4.out.alloc _) ⟨W4.heap.size, 0, none⟩ 1 1 (cellsL ⟨canonE x.d, A2, cap2⟩) rfl rfl ?c1 ?c2 ?c3 ?c4 ?c5 ?_)
            case c1 => exact news_entry 62
            case c2 => exact one_entry _
            case c3 => unfold maxLen; omega
            case c4 => omega
            case c5 => simp; omega
            intro v' w1 hown' hgrow _
            obtain ⟨A3, cap3, rfl⟩ := own_form hown'
            have hga : ∀ o, Grow wr (W4.alloc o) := fun o => (HGI.out.trans HG4.out).trans (Grow.alloc _ _)
            have hb1 := below_grown (HB.out.trans ((hga _).mono hz)) (HOWN4.out.alloc _) hgrow (by simp; omega)
            have hnew : ∀ y ∈ ys ++ [(⟨canonE x.d, A2, cap2⟩ : EntryR)], IntsT w1 w.heap.size y.A y.d.form.moves := by
              intro y hy
              rcases List.mem_append.1 hy with hy | hy
              · exact ((HYM.out y hy).grow (hga _)).grown (HOWN4.out.alloc _) (by decide) hgrow
              · rw [List.mem_singleton] at hy
                subst hy
                exact (HI4.out.grow (Grow.alloc _ _)).grown (HOWN4.out.alloc _) (by decide) hgrow
            have hys : List.map (fun y : EntryR => y.d) (ys ++ [(⟨canonE x.d, A2, cap2⟩ : EntryR)]) = distTo (l.map (·.d)) (k + 1) := by
              rw [distTo_succ, HFS.out, List.map_append, HYS.out]
              rfl
            have HYS2 := Lib.hid hys
            have HO := Lib.hid hown'
            have HNEW := Lib.hid hnew
            have HB1 := Lib.hid hb1
            clear hown' hgrow hga hnew hb1 hxc hys
            go_wp2
            go_roundw
            case rel => exact ⟨k + 1, n + 1, A3, cap3, ys ++ [⟨canonE x.d, A2, cap2⟩], by omega, by go_num, rfl, HYS2, by have := HN.out; simp; omega, by omega, by rw [flat_snoc]; exact HO.out, HNEW.out, HB1.out⟩
            case measure => simp [intOf]; omega
          · have hd : decide (x.d.id = (k : Int)) = false := decide_eq_false hid
            have hd2 : (x.d.id == (k : Int)) = false := by simpa using hid
            have HFN2 : Hid (findI ((l.take (m + 1)).map (·.d)) k = none) := by
              have h1 := HSN.out
              rw [if_neg hid] at h1
              exact h1
            clear hid HSN
            go_wp2_with fail
            go_roundw
            case rel => exact ⟨m + 1, by omega, rfl, by go_num, HFN2, HGI.out⟩
            case measure => simp [intOf]; omega
        · obtain rfl : m = l.length := by omega
          have hys : distTo (l.map (·.d)) (k + 1) = distTo (l.map (·.d)) k := by
            have h1 := HFN.out
            rw [List.take_length] at h1
            rw [distTo_succ, h1]
            simp
          have HYS2 : Hid (List.map (fun y : EntryR => y.d) ys = distTo (l.map (·.d)) (k + 1)) := Lib.hid (by rw [hys]; exact HYS.out)
          clear hys
          go_wp2_with fail
          go_roundw
          case rel => exact ⟨k + 1, n, A', cap', ys, by omega, by go_num, rfl, HYS2, HN.out, by omega, own_grow HOWN.out HGI.out, fun y hy => (HYM.out y hy).grow HGI.out, HB.out.trans (HGI.out.mono hz)⟩
          case measure => simp [intOf]; omega
    · obtain rfl : k = 100 := by omega
      have hle : n = (distTo (l.map (·.d)) 100).length := by rw [HN.out, ← HYS.out]; simp
      have HR : Hid (DistAt w.heap.size (distTo (l.map (·.d)) 100) (.slice A' n cap') wr) := ⟨A', cap', ys, by rw [hle], HYS.out, by rw [← hle]; exact HOWN.out, HYM.out⟩
      clear hle
      go_wp2
      go_ret
      exact ⟨_, rfl, HR.out, HB.out⟩

end Go.Proofs.YtfpmkolaiomabaaGreat
