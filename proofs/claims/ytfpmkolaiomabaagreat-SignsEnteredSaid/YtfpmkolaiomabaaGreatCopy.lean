/- Copy: the specification's copy of a book: an own row of equal entries, whose moves lie in own blocks of integers. -/
import Derived.Test.YtfpmkolaiomabaaGreatMirror
import Derived.Test.YtfpmkolaiomabaaGreatOrder
namespace Go.Proofs.YtfpmkolaiomabaaGreat
open Go.RowKit

theorem IntsT.setCell {w : World} {lo : Nat} {A : Option Addr} {xs : List Int} (h : IntsT w lo A xs) {p : Addr} (hp : p.block < lo) (u : Value) : IntsT (w.setCell p u) lo A xs := by
  rcases h with h | ⟨b, off, cs, h1, h2, h3, h4⟩
  · exact .inl h
  · have hb := h3.far (p := p) (by omega) u
    refine .inr ⟨b, off, cs, h1, h2, hb, fun j x hj => ?_⟩
    rw [hb.cell, ← h3.cell]
    exact h4 j x hj
/-- v is an own row from lo on: copies of the entries l -/
def CopyAt (lo : Nat) (l : List EntryR) (v : Value) (w : World) : Prop := ∃ A cap ys, v = .slice A l.length cap ∧ List.map (fun y : EntryR => y.d) ys = List.map (fun y : EntryR => y.d) l ∧
  w.ownsRow lo 62 11 (.slice A l.length cap) l.length (List.flatMap cellsL ys) ∧ ∀ y ∈ ys, IntsT w lo y.A y.d.form.moves ∧ y.d.form.moves.length ≤ y.cap
theorem CopyAt.grow {lo : Nat} {l : List EntryR} {v : Value} {w w' : World} (h : CopyAt lo l v w) (g : Grow w w') : CopyAt lo l v w' := by
  obtain ⟨A, cap, ys, h1, h2, h3, h4⟩ := h
  exact ⟨A, cap, ys, h1, h2, own_grow h3 g, fun y hy => ⟨(h4 y hy).1.grow g, (h4 y hy).2⟩⟩
theorem CopyAt.mono {lo lo' : Nat} {l : List EntryR} {v : Value} {w : World} (h : CopyAt lo l v w) (hl : lo' ≤ lo) : CopyAt lo' l v w := by
  obtain ⟨A, cap, ys, h1, h2, h3, h4⟩ := h
  exact ⟨A, cap, ys, h1, h2, ⟨h3.1, h3.2.imp id fun ⟨g, c, cur, e1, e2, e3⟩ => ⟨g, c, cur, e1, by omega, e3⟩⟩, fun y hy => ⟨(h4 y hy).1.mono hl, (h4 y hy).2⟩⟩
/-- v is a slice of one entry of its own -/
def NewE (x : EntryR) (v : Value) (w : World) : Prop := ∃ b, v = .slice (some ⟨b, 0, none⟩) 1 1 ∧ BlockIs w b 62 (cellsE x)
theorem NewE.grow {x : EntryR} {v : Value} {w w' : World} (h : NewE x v w) (g : Grow w w') : NewE x v w' := by
  obtain ⟨b, h1, h2⟩ := h
  exact ⟨b, h1, g.block h2⟩
theorem news_block {w : World} {x : EntryR} {b : Nat} {t : TypeId} (h : BlockIs w b t (cellsE x)) : ∀ j u, (cellsL x)[j]? = some u → w.cell? ((⟨b, 0, none⟩ : Addr).add j) = some u := fun j u hu => by
  have h1 := h.cell j
  have h2 : (cellsL x)[j]? = (cellsE x)[j]? := Array.getElem?_toList
  rw [show (⟨b, 0, none⟩ : Addr).add j = ⟨b, j, none⟩ by (simp [Addr.add]; omega), h1]
  exact h2.symm.trans hu

set_option maxRecDepth 100000 in
set_option maxHeartbeats 4000000 in
theorem rCopy_any (A : Option Addr) (cap B : Nat) (l : List EntryR) (w : World) (hA : Ents w B A l) (hl : l.length ≤ 1000000) (hB : B ≤ w.heap.size) :
    Calls Tryz.prog 22 #[.slice A l.length cap] w fun e w' => ∃ v, e = .returned v ∧ CopyAt w.heap.size l v w' ∧ Below w.heap.size w w' := by
  obtain ⟨i0, hi, hz0, hz1, hz2⟩ := info_parts Tryz.infoEntry
  have HA := Lib.hid (hA.more hB)
  clear hA
  go_enter Tryz.func22, Tryz.ntmps22
  go_wp2
  go_loopw [3, 4] (fun v i wr => ∃ (k : Nat) (A' : Option Addr) (cap' : Nat) (ys : List EntryR), k ≤ l.length ∧ i = .int .i64 k ∧ v = .slice A' k cap' ∧ List.map (fun y : EntryR => y.d) ys = List.map (fun y : EntryR => y.d) (l.take k) ∧
    wr.ownsRow w.heap.size 62 11 (.slice A' k cap') k (List.flatMap cellsL ys) ∧ (∀ y ∈ ys, IntsT wr w.heap.size y.A y.d.form.moves ∧ y.d.form.moves.length ≤ y.cap) ∧ Below w.heap.size w wr) (fun _ i _ => l.length - (intOf i).toNat)
  case atStart => exact ⟨0, none, 0, [], Nat.zero_le _, rfl, rfl, rfl, by simp [World.ownsRow], (fun y hy => by cases hy), Below.refl _ _⟩
  case round =>
    obtain ⟨k, A', cap', ys, hk, rfl, rfl, hys, hown, hym, hbw⟩ := hrel
    rename World => wr
    have hz := hbw.size
    have HYS := Lib.hid hys
    have HYM := Lib.hid hym
    have HOWN := Lib.hid hown
    have HB := Lib.hid hbw
    clear hys hym hown hbw
    by_cases hlt : k < l.length
    · obtain ⟨b, off, x, rfl, hb, hc, hm, HX⟩ := (HA.out.below HB.out).at_ hlt
      have e0 := hc 0 (by omega); have e1 := hc 1 (by omega); have e2 := hc 2 (by omega); have e3 := hc 3 (by omega); have e4 := hc 4 (by omega); have e5 := hc 5 (by omega)
      have e6 := hc 6 (by omega); have e7 := hc 7 (by omega); have e8 := hc 8 (by omega); have e9 := hc 9 (by omega); have e10 := hc 10 (by omega)
      rw [Nat.add_zero] at e0
      have HM := Lib.hid hm
      clear hc hm hb
      go_upto_region 6 with fail
      obtain ⟨W2, hW2, hg2, hx2, hsz2⟩ := one_block wr 62 (cellsE x)
      rw [hW2]
      clear hW2 e0 e1 e2 e3 e4 e5 e6 e7 e8 e9 e10
      have HCF := Lib.hid (rCopyFormT_any x.d.form x.A x.cap w.heap.size W2 ((HM.out.1).below (hg2.mono hz)) HM.out.2 (by omega))
      have HG2 := Lib.hid hg2
      have HX2 := Lib.hid hx2
      have hxc := hx2.cell
      have hxf := hx2.frozen
      clear hg2 hx2
      go_wp2_with fail
      refine HCF.out.mono ?_
      rintro e W3 ⟨A2, cap2, rfl, hi3, hb3, hcap⟩
      have hx3 := Grow.block hb3 HX2.out
      clear hxc hxf
      have hxc := hx3.cell
      have hxf := hx3.frozen
      have HX3 := Lib.hid hx3
      have HI3 := Lib.hid hi3
      have HB3 := Lib.hid hb3
      clear hx3 hi3 hb3
      go_upto_region 7 with fail
      obtain ⟨W4, hW4, hX4, hG4, hI4⟩ : ∃ W', (((((W3.setCell ⟨wr.heap.size, 3, none⟩ (.int .i64 x.d.form.right)).setCell ⟨wr.heap.size, 4, none⟩ (.int .i64 x.d.form.left)).setCell ⟨wr.heap.size, 5, none⟩ (.int .i64 x.d.form.column)).setCell ⟨wr.heap.size, 6, none⟩ (.int .i64 x.d.form.row)).setCell ⟨wr.heap.size, 7, none⟩ (.int .i64 x.d.form.face)).setCell ⟨wr.heap.size, 8, none⟩ (.slice A2 x.d.form.moves.length cap2) = W' ∧
          BlockIs W' wr.heap.size 62 (cellsE ⟨x.d, A2, cap2⟩) ∧ Grow wr W' ∧ IntsT W' w.heap.size A2 x.d.form.moves :=
        ⟨_, rfl, (((((HX3.out.near 3 _).near 4 _).near 5 _).near 6 _).near 7 _).near 8 _,
          ((((((HG2.out.trans HB3.out).setC (p := ⟨wr.heap.size, 3, none⟩) (Nat.le_refl _) _).setC (p := ⟨wr.heap.size, 4, none⟩) (Nat.le_refl _) _).setC (p := ⟨wr.heap.size, 5, none⟩) (Nat.le_refl _) _).setC (p := ⟨wr.heap.size, 6, none⟩) (Nat.le_refl _) _).setC (p := ⟨wr.heap.size, 7, none⟩) (Nat.le_refl _) _).setC (p := ⟨wr.heap.size, 8, none⟩) (Nat.le_refl _) _,
          ((((((HI3.out.setCell (p := ⟨wr.heap.size, 3, none⟩) hsz2 _).setCell (p := ⟨wr.heap.size, 4, none⟩) hsz2 _).setCell (p := ⟨wr.heap.size, 5, none⟩) hsz2 _).setCell (p := ⟨wr.heap.size, 6, none⟩) hsz2 _).setCell (p := ⟨wr.heap.size, 7, none⟩) hsz2 _).setCell (p := ⟨wr.heap.size, 8, none⟩) hsz2 _).mono (by omega)⟩
      rw [hW4]
      clear hW4 hxc hxf
      have hxc := hX4.cell
      have HOWN4 := Lib.hid (own_grow HOWN.out hG4)
      have hz4 := hG4.size
      have HG4 := Lib.hid hG4
      have HI4 := Lib.hid hI4
      clear hG4 hI4 hX4
      go_wp2_with (at_builtin; refine wpList_append_own _ rfl _ _ 33 rfl w.heap.size 62 i0 (.agg zeroE) 11 104 Tryz.underlying33 hi hz0 hz1 hz2 rfl (by decide) _ _ _ rfl (HOWN4.out.alloc _) ⟨W4.heap.size, 0, none⟩ 1 1 (cellsL ⟨x.d, A2, cap2⟩) rfl rfl ?c1 ?c2 ?c3 ?c4 ?c5 ?_)
      case c1 => exact news_entry 62
      case c2 => exact one_entry _
      case c3 => unfold maxLen; omega
      case c4 => omega
      case c5 => simp; omega
      intro v' w1 hown' hgrow _
      obtain ⟨A3, cap3, rfl⟩ := own_form hown'
      have hga : ∀ o, Grow wr (W4.alloc o) := fun o => HG4.out.trans (Grow.alloc _ _)
      have hb1 := below_grown (HB.out.trans ((hga _).mono hz)) (HOWN4.out.alloc _) hgrow (by simp; omega)
      have hnew : ∀ y ∈ ys ++ [(⟨x.d, A2, cap2⟩ : EntryR)], IntsT w1 w.heap.size y.A y.d.form.moves ∧ y.d.form.moves.length ≤ y.cap := by
        intro y hy
        rcases List.mem_append.1 hy with hy | hy
        · exact ⟨((HYM.out y hy).1.grow (hga _)).grown (HOWN4.out.alloc _) (by decide) hgrow, (HYM.out y hy).2⟩
        · rw [List.mem_singleton] at hy
          subst hy
          exact ⟨(HI4.out.grow (Grow.alloc _ _)).grown (HOWN4.out.alloc _) (by decide) hgrow, hcap⟩
      have HO := Lib.hid hown'
      have HNEW := Lib.hid hnew
      have HB1 := Lib.hid hb1
      clear hown' hgrow hga hnew hb1 hxc
      go_wp2
      go_roundw
      case rel => exact ⟨k + 1, A3, cap3, ys ++ [⟨x.d, A2, cap2⟩], by omega, by go_num, rfl, by rw [take_snoc HX.out, List.map_append, List.map_append, HYS.out]; rfl, by rw [flat_snoc]; exact HO.out, HNEW.out, HB1.out⟩
      case measure => simp [intOf]; omega
    · obtain rfl : k = l.length := by omega
      go_wp2
      go_ret
      exact ⟨_, rfl, ⟨A', cap', ys, rfl, by have := HYS.out; rwa [List.take_length] at this, HOWN.out, HYM.out⟩, HB.out⟩

end Go.Proofs.YtfpmkolaiomabaaGreat
