/- ROrder: the specification's Order. -/
import Derived.Test.YtfpmkolaiomabaaGreatOrd
import Derived.Test.YtfpmkolaiomabaaGreatAppE
import Derived.Test.YtfpmkolaiomabaaGreatTwinsWalk
namespace Go.Proofs.YtfpmkolaiomabaaGreat
open Go.RowKit

/-- the entries ys lie at A, in a block of entries -/
def EntsT (w : World) (A : Option Addr) (ys : List EntryR) : Prop := ys = [] ∨ ∃ b off cs, A = some ⟨b, off, none⟩ ∧ BlockIs w b 62 cs ∧ ∀ i x, ys[i]? = some x → ∀ j, j < 11 → w.cell? ⟨b, off + i * 11 + j, none⟩ = (cellsE x)[j]?
theorem EntsT.grow {w w' : World} {A : Option Addr} {ys : List EntryR} (h : EntsT w A ys) (g : Grow w w') : EntsT w' A ys := by
  rcases h with h | ⟨b, off, cs, h1, h2, h3⟩
  · exact .inl h
  · exact .inr ⟨b, off, cs, h1, g.block h2, fun i x hx j hj => (Below.cell (p := ⟨b, off + i * 11 + j, none⟩) g h2.lt).trans (h3 i x hx j hj)⟩
theorem EntsT.grown {w w' : World} {A : Option Addr} {ys : List EntryR} {base e size n : Nat} {v : Value} {zs : List Value} (h : EntsT w A ys) (ho : w.ownsRow base e size v n zs) (hte : 62 ≠ e) (hg : w.grownBy w' v.ownBlock) : EntsT w' A ys := by
  rcases h with h | ⟨b, off, cs, h1, h2, h3⟩
  · exact .inl h
  · have hne : some b ≠ v.ownBlock := (own_not_block ho h2 hte).symm
    have hb := hg.block b h2.lt hne
    refine .inr ⟨b, off, cs, h1, hb.trans h2, fun i x hx j hj => ?_⟩
    rw [← h3 i x hx j hj]
    have k1 : BlockIs w' b 62 cs := hb.trans h2
    rw [k1.cell, h2.cell]
theorem own_entsT {w : World} {base n cap : Nat} {A : Option Addr} {ys : List EntryR} (h : w.ownsRow base 62 11 (.slice A n cap) n (ys.flatMap cellsL)) : EntsT w A ys ∧ n = ys.length ∧ n ≤ cap := by
  have hl : n = ys.length := by
    have := h.1
    rw [flat_length (k := 11) (fun _ => rfl)] at this
    omega
  rcases h.2 with ⟨h0, h2⟩ | ⟨g, c, cur, hv, hg, hh, h2, h3, h4, h5⟩
  · exact ⟨.inl (List.eq_nil_of_length_eq_zero (by omega)), hl, by injection h0; omega⟩
  · injection hv with e1 e2 e3
    subst e1 e3
    refine ⟨.inr ⟨g, 0, cur, rfl, hh, fun i x hi j hj => ?_⟩, hl, h2⟩
    have hf := flat_get (enc := cellsL) (k := 11) (fun _ => rfl) ys i j hj
    rw [hi, Option.bind_some] at hf
    have hjl : j < (cellsL x).length := hj
    have hc := h.cells (g := g) rfl (i * 11 + j) ((cellsL x)[j]) (by rw [hf]; exact List.getElem?_eq_getElem hjl)
    rw [show (⟨g, 0, none⟩ : Addr).add (i * 11 + j) = ⟨g, 0 + i * 11 + j, none⟩ by (simp [Addr.add]; omega)] at hc
    rw [hc, ← List.getElem?_eq_getElem hjl]
    exact Array.getElem?_toList
theorem EntsT.at_ {w : World} {A : Option Addr} {ys : List EntryR} (h : EntsT w A ys) {k : Nat} (hk : k < ys.length) :
    ∃ b off, A = some ⟨b, off, none⟩ ∧ b < w.heap.size ∧ ∀ i x, ys[i]? = some x → ∀ j, j < 11 → w.cell? ⟨b, off + i * 11 + j, none⟩ = (cellsE x)[j]? := by
  rcases h with rfl | ⟨b, off, cs, h1, h2, h3⟩
  · simp at hk
  · exact ⟨b, off, h1, h2.lt, h3⟩
/-- f is the place of the first ones among m entries -/
def FirstOf (ys : List EntryR) (f m : Nat) : Prop := ∀ x, ys[f]? = some x → ∀ j y, j < m → ys[j]? = some y → cmpE x.d y.d ≤ 0
theorem FirstOf.take {ys : List EntryR} {f m : Nat} {x z : EntryR} (h : FirstOf ys f m) (hx : ys[m]? = some x) (hz : ys[f]? = some z) (hb : cmpE x.d z.d < 0) : FirstOf ys m (m + 1) := fun x' hx' j y hj hy => by
  rw [hx] at hx'
  obtain rfl := Option.some.inj hx'
  by_cases e : j = m
  · subst e
    rw [hx] at hy
    obtain rfl := Option.some.inj hy
    rw [cmp_cmpE.self]; omega
  · exact cmp_cmpE.tr _ _ _ (by omega) (h z hz j y (by omega) hy)
theorem FirstOf.skip {ys : List EntryR} {f m : Nat} {x z : EntryR} (h : FirstOf ys f m) (hx : ys[m]? = some x) (hz : ys[f]? = some z) (hb : ¬cmpE x.d z.d < 0) : FirstOf ys f (m + 1) := fun z' hz' j y hj hy => by
  rw [hz] at hz'
  obtain rfl := Option.some.inj hz'
  by_cases e : j = m
  · subst e
    rw [hx] at hy
    obtain rfl := Option.some.inj hy
    have := cmp_cmpE.neg x.d z.d
    omega
  · exact h z hz j y (by omega) hy
/-- v is what is left of a slice behind f -/
def TailAt (b off n f : Nat) (v : Value) : Prop := ∃ p c, v = .slice (some p) (n - (f + 1)) c ∧ (f + 1 < n → p = ⟨b, off + (f + 1) * 11, none⟩)

theorem news_ents {w : World} {b off : Nat} {ys : List EntryR} (h : ∀ i x, ys[i]? = some x → ∀ j, j < 11 → w.cell? ⟨b, off + i * 11 + j, none⟩ = (cellsE x)[j]?) : ∀ j u, (ys.flatMap cellsL)[j]? = some u → w.cell? ((⟨b, off, none⟩ : Addr).add j) = some u := fun j u hu => by
  have e : j / 11 * 11 + j % 11 = j := by omega
  have hf := flat_get (enc := cellsL) (k := 11) (fun _ => rfl) ys (j / 11) (j % 11) (by omega)
  rw [e, hu] at hf
  cases hx : ys[j / 11]? with
  | none => rw [hx] at hf; cases hf
  | some x =>
    rw [hx, Option.bind_some] at hf
    have h1 := h _ x hx (j % 11) (by omega)
    rw [show (⟨b, off, none⟩ : Addr).add j = ⟨b, off + j / 11 * 11 + j % 11, none⟩ by (rw [Nat.add_assoc, e]; simp [Addr.add]), h1]
    exact Array.getElem?_toList.symm.trans hf.symm
theorem one_ents (ys : List EntryR) : ∀ u ∈ ys.flatMap cellsL, u.oneCell' = true := fun u hu => by
  obtain ⟨x, _, h⟩ := List.mem_flatMap.1 hu
  exact one_entry x u h

theorem tail_at {b off n f cap : Nat} (hc : n ≤ cap) : TailAt b off n f (.slice (if cap = f + 1 then some ⟨b, off, none⟩ else some ⟨b, off + (f + 1) * 11, none⟩) (n - (f + 1)) (cap - (f + 1))) := by
  split
  · exact ⟨_, _, rfl, fun h => by omega⟩
  · exact ⟨_, _, rfl, fun _ => rfl⟩

set_option maxRecDepth 100000 in
set_option maxHeartbeats 16000000 in
theorem rOrder_any (A : Option Addr) (cap B : Nat) (l : List EntryR) (w : World) (hA : Ents w B A l) (hl : l.length ≤ 1000000) (hB : B ≤ w.heap.size) :
    Calls Tryz.prog 26 #[.slice A l.length cap] w (OrderPost (l.map (·.d)) w) := by
  obtain ⟨i0, hi, hz0, hz1, hz2⟩ := info_parts Tryz.infoInt
  obtain ⟨j0, hj, hy0, hy1, hy2⟩ := info_parts Tryz.infoEntry
  have HCK := Lib.hid (rCheck_any A cap B l w hA hl hB)
  have HE := Lib.hid (hA.more hB)
  clear hA
  by_cases hbe : bookErr (l.map (·.d)) = 0
  · have hok : ∀ x ∈ l, okEntry x.d = true := fun x hx => (bookErr_ok hbe).2.1 x.d (List.mem_map.2 ⟨x, hx, rfl⟩)
    have HDI := Lib.hid (fun (w0 : World) (h : Grow w w0) => distinct_any A cap w.heap.size l w0 (HE.out.below h) hl h.size (fun x hx => okEntry_okForm (hok x hx)))
    have HBK := Lib.hid (distTo_book (l := l.map (·.d)) (bookErr_ok hbe).2.1 (bookErr_ok hbe).2.2)
    have HDL := Lib.hid (distTo_length (l.map (·.d)) 100)
    have HOKB : Hid (∀ y ∈ distTo (l.map (·.d)) 100, okForm y.form = true) := Lib.hid fun y hy => by
      obtain ⟨x, hx, _, _, rfl⟩ := distTo_mem.1 hy
      obtain ⟨x', hx', e⟩ := List.mem_map.1 (findI_some hx).1
      subst e
      exact okForm_canon (okEntry_okForm (hok x' hx'))
    rw [hbe] at HCK
    have HBE := Lib.hid hbe
    clear hbe hok
    generalize distTo (l.map (·.d)) 100 = bk at HDI HBK HDL HOKB
    go_enter Tryz.func26, Tryz.ntmps26
    go_wp2_with fail
    refine HCK.out.mono ?_
    rintro e w1 ⟨rfl, hb1⟩
    have HG1 : Hid (Grow w w1) := hb1
    clear hb1
    go_wp2_with fail
    refine (HDI.out _ HG1.out).mono ?_
    rintro e w2 ⟨_, rfl, ⟨A0, cap0, ys0, rfl, hys0, hown0, hm0⟩, hb2⟩
    have HG2 : Hid (Grow w w2) := HG1.out.trans hb2
    obtain ⟨he0, hl0, hc0⟩ := own_entsT hown0
    have hm0' : ∀ y ∈ ys0, Ints w2 w2.heap.size y.A y.d.form.moves := fun y hy => (hm0 y hy).intsF.ints
    have HE0 := Lib.hid he0
    have HL0 := Lib.hid hl0
    have HM0 := Lib.hid hm0'
    have HY0 := Lib.hid hys0
    clear hb2 hown0 hm0 hm0' he0 hys0 hl0
    go_wp2_with fail
    go_loopw [5, 6] (fun v o wr => ∃ (A' : Option Addr) (cap' n : Nat) (ys : List EntryR) (done : List EntryD) (A6 : Option Addr) (cap6 p : Nat), v = .slice A' n cap' ∧ o = .slice A6 p cap6 ∧ n = ys.length ∧ p = done.length ∧ n ≤ cap' ∧ n ≤ 100 ∧ p + n = bk.length ∧ EntsT wr A' ys ∧ (∀ y ∈ ys, Ints wr w2.heap.size y.A y.d.form.moves) ∧
      wr.ownsRow w2.heap.size 3 1 (.slice A6 p cap6) p (done.map fun y => Value.int .i64 y.id) ∧ SelInv bk done (ys.map (·.d)) ∧ Below w2.heap.size w2 wr) (fun v _ _ => match v with | .slice _ n _ => n | _ => 0)
    case atStart => exact ⟨A0, cap0, bk.length, ys0, [], none, 0, 0, rfl, rfl, HL0.out, rfl, hc0, HDL.out, by omega, HE0.out, HM0.out, by simp [World.ownsRow], by rw [HY0.out]; exact SelInv.start bk, Below.refl _ _⟩
    case round =>
      clear HE0 HM0 HY0 HL0 hc0
      obtain ⟨A', cap', n, ys, done, A6, cap6, p, rfl, rfl, hny, hpd, hnc, hn100, hpn, hents, hmvs, hown, hsel, hbw⟩ := hrel
      rename World => wr
      have HNY := Lib.hid hny
      have HPD := Lib.hid hpd
      have HPN := Lib.hid hpn
      have HMV := Lib.hid hmvs
      have HOWN := Lib.hid hown
      have HSEL := Lib.hid hsel
      have HBW := Lib.hid hbw
      have hzr := hbw.size
      have hbk100 := HDL.out
      have hp100 : p ≤ 100 := by omega
      by_cases hn0 : n = 0
      · subst hn0
        have hys : ys = [] := List.eq_nil_of_length_eq_zero hny.symm
        subst hys
        have HOD : Hid (OrderD (l.map (·.d)) (done.map EntryD.id)) := Lib.hid (hsel.finish HBK.out)
        have HFI : Hid (IntsF wr w.heap.size A6 (done.map EntryD.id)) := Lib.hid (by
          have h1 : wr.ownsRow w2.heap.size 3 1 (.slice A6 p cap6) p ((done.map EntryD.id).map (Value.int .i64)) := by rw [List.map_map]; exact hown
          exact (own_intsF h1).mono HG2.out.size)
        have HGF : Hid (Grow w wr) := HG2.out.trans (Below.mono hbw (Nat.le_refl _))
        clear hny hpd hpn hents hmvs hown hsel hbw
        go_wp2
        go_ret2
        exact ⟨HGF.out, A6, cap6, done.map EntryD.id, (by rw [HBE.out, List.length_map, HPD.out] <;> rfl), HFI.out, fun h => absurd HBE.out h, fun _ => HOD.out⟩
      · have hnpos : 0 < n := by omega
        have hni : (0 : Int) < n := by omega
        obtain ⟨b, off, rfl, hb, hcs⟩ := hents.at_ (k := 0) (by omega)
        have HCS := Lib.hid hcs
        have HENT := Lib.hid hents
        clear hny hpd hpn hents hmvs hown hsel hbw hcs
        go_wp2_with fail
        go_loopw [7, 8] (fun fv mv wi => ∃ f m : Nat, fv = .int .i64 f ∧ mv = .int .i64 m ∧ f < n ∧ m ≤ n ∧ FirstOf ys f m ∧ Grow wr wi) (fun _ m _ => n - (intOf m).toNat)
        case atStart => exact ⟨0, 0, rfl, rfl, hnpos, by omega, fun _ _ j _ h => absurd h (by omega), Grow.refl _⟩
        case round =>
          obtain ⟨f, m, rfl, rfl, hfn, hmn, hfo, hgi⟩ := hrel
          rename World => wi
          have HFO := Lib.hid hfo
          have HGI := Lib.hid hgi
          clear hfo hgi
          have hfi : (f : Int) < n := by omega
          by_cases hlt : m < n
          · have hmi : (m : Int) < n := by omega
            obtain ⟨x, HX⟩ : ∃ x, Hid (ys[m]? = some x) := ⟨_, List.getElem?_eq_getElem (by have := HNY.out; omega)⟩
            obtain ⟨z, HZ⟩ : ∃ z, Hid (ys[f]? = some z) := ⟨_, List.getElem?_eq_getElem (by have := HNY.out; omega)⟩
            have hin : ∀ y ∈ ys, y.d ∈ bk := fun y hy => HSEL.out.1.mem_iff.1 (List.mem_append.2 (.inr (List.mem_map.2 ⟨y, hy, rfl⟩)))
            have hxy := List.mem_of_getElem? HX.out
            have hzy := List.mem_of_getElem? HZ.out
            have HBF : Hid (∀ w0, Grow wi w0 → Calls Tryz.prog 63 #[entryV x, entryV z] w0 fun e w' => e = .returned (.bool (decide (cmpE x.d z.d < 0))) ∧ Below w0.heap.size w0 w') := Lib.hid fun w0 h => by
              have hg : Grow wr w0 := HGI.out.trans h
              have hb0 : ∀ y ∈ ys, MovesAt w0 w0.heap.size y := fun y hy => ⟨((HMV.out y hy).below (hg.mono hzr)).more (by have := hg.size; omega), by have := okForm_len (HOKB.out _ (hin y hy)); omega⟩
              exact before_any x z w0 (hb0 x hxy) (hb0 z hzy) (HOKB.out _ (hin x hxy)) (HOKB.out _ (hin z hzy))
            have HT : Hid (cmpE x.d z.d < 0 → FirstOf ys m (m + 1)) := Lib.hid (HFO.out.take HX.out HZ.out)
            have HS : Hid (¬cmpE x.d z.d < 0 → FirstOf ys f (m + 1)) := Lib.hid (HFO.out.skip HX.out HZ.out)
            clear hin hxy hzy
            generalize hr : decide (cmpE x.d z.d < 0) = r at HBF
            have HR := Lib.hid hr
            clear hr
            go_upto_region 11 with fail
            refine wp_region_lit 9 [[], [], [(0, 25), (1, 26)], [(2, 27)], [], [], [(4, 29), (5, 30)], [(6, 31)], [(3, 28), (7, 32)]] Grow (fun i v w' => match i with
                | 0 => v = .slice (some ⟨b, off, none⟩) n cap'
                | 1 => v = .int .i64 m
                | 2 => v = .pointer (some ⟨b, off + m * 11, none⟩)
                | 3 => v = entryV x
                | 4 => v = .slice (some ⟨b, off, none⟩) n cap'
                | 5 => v = .int .i64 f
                | 6 => v = .pointer (some ⟨b, off + f * 11, none⟩)
                | 7 => v = entryV z
                | 8 => v = .bool r
                | _ => False) (by kernel_rfl) (by kernel_rfl) (fun _ _ _ => Grow.trans) Grow.refl ?_ ?_ ?_
            · intro i v y y' h k
              match i, h with
              | 0, h | 1, h | 2, h | 3, h | 4, h | 5, h | 6, h | 7, h | 8, h => exact h
            · all_goals
                simp only [StepsLit, List.take_succ_cons, List.take_zero]
                refine ⟨?_, ?_, ?_, ?_, ?_, ?_, ?_, ?_, ?_, trivial⟩
              all_goals
                intro w5 hR
                have HG5 := Lib.hid hR.of_drew
                have hxc : ∀ j, j < 11 → w5.cell? ⟨b, off + m * 11 + j, none⟩ = (cellsE x)[j]? := fun j hj => (Below.cell (p := ⟨b, off + m * 11 + j, none⟩) (HGI.out.trans HG5.out) hb).trans (HCS.out m x HX.out j hj)
                have hzc : ∀ j, j < 11 → w5.cell? ⟨b, off + f * 11 + j, none⟩ = (cellsE z)[j]? := fun j hj => (Below.cell (p := ⟨b, off + f * 11 + j, none⟩) (HGI.out.trans HG5.out) hb).trans (HCS.out f z HZ.out j hj)
                clear hR
                have hx0 : w5.cell? ⟨b, off + m * 11, none⟩ = some (.int .i64 x.d.id) := hxc 0 (by omega)
                have hx1 : w5.cell? ⟨b, off + m * 11 + 1, none⟩ = some (.int .i64 x.d.sign) := hxc 1 (by omega)
                have hx2 : w5.cell? ⟨b, off + m * 11 + 2, none⟩ = some (.int .i64 x.d.regions) := hxc 2 (by omega)
                have hx3 : w5.cell? ⟨b, off + m * 11 + 3, none⟩ = some (.int .i64 x.d.form.right) := hxc 3 (by omega)
                have hx4 : w5.cell? ⟨b, off + m * 11 + 4, none⟩ = some (.int .i64 x.d.form.left) := hxc 4 (by omega)
                have hx5 : w5.cell? ⟨b, off + m * 11 + 5, none⟩ = some (.int .i64 x.d.form.column) := hxc 5 (by omega)
                have hx6 : w5.cell? ⟨b, off + m * 11 + 6, none⟩ = some (.int .i64 x.d.form.row) := hxc 6 (by omega)
                have hx7 : w5.cell? ⟨b, off + m * 11 + 7, none⟩ = some (.int .i64 x.d.form.face) := hxc 7 (by omega)
                have hx8 : w5.cell? ⟨b, off + m * 11 + 8, none⟩ = some (.slice x.A x.d.form.moves.length x.cap) := hxc 8 (by omega)
                have hx9 : w5.cell? ⟨b, off + m * 11 + 9, none⟩ = some (.int .i64 x.d.low) := hxc 9 (by omega)
                have hx10 : w5.cell? ⟨b, off + m * 11 + 10, none⟩ = some (.int .i64 x.d.high) := hxc 10 (by omega)
                have hz0 : w5.cell? ⟨b, off + f * 11, none⟩ = some (.int .i64 z.d.id) := hzc 0 (by omega)
                have hz1 : w5.cell? ⟨b, off + f * 11 + 1, none⟩ = some (.int .i64 z.d.sign) := hzc 1 (by omega)
                have hz2 : w5.cell? ⟨b, off + f * 11 + 2, none⟩ = some (.int .i64 z.d.regions) := hzc 2 (by omega)
                have hz3 : w5.cell? ⟨b, off + f * 11 + 3, none⟩ = some (.int .i64 z.d.form.right) := hzc 3 (by omega)
                have hz4 : w5.cell? ⟨b, off + f * 11 + 4, none⟩ = some (.int .i64 z.d.form.left) := hzc 4 (by omega)
                have hz5 : w5.cell? ⟨b, off + f * 11 + 5, none⟩ = some (.int .i64 z.d.form.column) := hzc 5 (by omega)
                have hz6 : w5.cell? ⟨b, off + f * 11 + 6, none⟩ = some (.int .i64 z.d.form.row) := hzc 6 (by omega)
                have hz7 : w5.cell? ⟨b, off + f * 11 + 7, none⟩ = some (.int .i64 z.d.form.face) := hzc 7 (by omega)
                have hz8 : w5.cell? ⟨b, off + f * 11 + 8, none⟩ = some (.slice z.A z.d.form.moves.length z.cap) := hzc 8 (by omega)
                have hz9 : w5.cell? ⟨b, off + f * 11 + 9, none⟩ = some (.int .i64 z.d.low) := hzc 9 (by omega)
                have hz10 : w5.cell? ⟨b, off + f * 11 + 10, none⟩ = some (.int .i64 z.d.high) := hzc 10 (by omega)
                clear hxc hzc
                simp only [depV, Region.wanted, cond_true]
                repeat (rintro _ rfl)
                try go_simp
              all_goals first
                | (with_reducible exact Grow.refl _)
                | skip
              · refine (HBF.out _ HG5.out).mono ?_
                rintro e w6 ⟨rfl, hb6⟩
                exact ⟨hb6, rfl⟩
            · intro w5 hR
              have HG5 := Lib.hid (HGI.out.trans hR.of_drew)
              clear hR HBF
              simp only [finVC, List.take_succ_cons, List.take_zero, List.drop_succ_cons, List.drop_zero]
              rintro _ rfl
              rintro _ rfl
              rintro _ rfl
              rintro _ rfl
              rintro _ rfl
              rintro _ rfl
              rintro _ rfl
              rintro _ rfl
              rintro _ rfl
              simp only [Act.put, List.setIfInBounds_toArray, List.set_cons_succ, List.set_cons_zero]
              cases r with
              | true =>
                have HF2 : Hid (FirstOf ys m (m + 1)) := HT.out (by simpa using HR.out)
                go_wp2
                go_roundw
                case rel => exact ⟨m, m + 1, rfl, by go_num, by omega, by omega, HF2.out, HG5.out⟩
                case measure => simp [intOf]; omega
              | false =>
                have HF2 : Hid (FirstOf ys f (m + 1)) := HS.out (by simpa using HR.out)
                go_wp2
                go_roundw
                case rel => exact ⟨f, m + 1, rfl, by go_num, by omega, by omega, HF2.out, HG5.out⟩
                case measure => simp [intOf]; omega
          · obtain rfl : m = n := by omega
            obtain ⟨z, HZ⟩ : ∃ z, Hid (ys[f]? = some z) := ⟨_, List.getElem?_eq_getElem (by have := HNY.out; omega)⟩
            have hzc : wi.cell? ⟨b, off + f * 11, none⟩ = some (.int .i64 z.d.id) := (Below.cell (p := ⟨b, off + f * 11, none⟩) HGI.out hb).trans (HCS.out f z HZ.out 0 (by omega))
            have HOWN1 := Lib.hid (own_grow HOWN.out HGI.out)
            have hzi := HGI.out.size
            go_wp2_with (at_builtin; refine wpList_append_own _ rfl _ _ 22 rfl w2.heap.size 3 i0 (.int .i64 0) 1 8 Tryz.underlying22 hi hz0 hz1 hz2 rfl (by decide) _ _ _ rfl (HOWN1.out.alloc _) ⟨wi.heap.size, 0, none⟩ 1 1 [.int .i64 z.d.id] rfl rfl ?c1 ?c2 ?c3 ?c4 ?c5 ?_)
            case c1 => exact news_one (BlockIs.new _ 3 _)
            case c2 => simp [Value.oneCell']
            case c3 => unfold maxLen; omega
            case c4 => omega
            case c5 => first | omega | (simp; omega) | (have := wi.size_alloc; simp [World.alloc]; omega)
            intro v' w6 hown' hgrow _
            obtain ⟨A7, cap7, rfl⟩ := own_form hown'
            have hga : Grow wr (wi.alloc (.cells #[.int .i64 z.d.id] 3)) := HGI.out.trans (Grow.alloc _ _)
            have hb6 := below_grown (HBW.out.trans (hga.mono hzr)) (HOWN1.out.alloc _) hgrow (by simp; omega)
            have hen6 : EntsT w6 (some ⟨b, off, none⟩) ys := (HENT.out.grow hga).grown (HOWN1.out.alloc _) (by decide) hgrow
            have HMV6 : Hid (∀ y ∈ ys, Ints w6 w2.heap.size y.A y.d.form.moves) := Lib.hid fun y hy => ((HMV.out y hy).below (below_grown ((Below.refl _ wr).trans (hga.mono hzr)) (HOWN1.out.alloc _) hgrow (by simp; omega)))
            obtain ⟨b', off', hbe', hb', hcs'⟩ := hen6.at_ (k := 0) (by have := HNY.out; omega)
            simp only [Option.some.injEq, Addr.mk.injEq, and_true] at hbe'
            obtain ⟨rfl, rfl⟩ := hbe'
            have HO6 := Lib.hid hown'
            have HB6 := Lib.hid hb6
            have HC6 := Lib.hid hcs'
            have hz6 := hb6.size
            have HSEL2 : Hid (SelInv bk (done ++ [z.d]) ((ys.take f ++ ys.drop (f + 1)).map (·.d))) := Lib.hid (by
              have h := HSEL.out.step (k := f) (x := z.d) (by rw [List.getElem?_map, HZ.out]; rfl) (fun y hy => by
                obtain ⟨y', hy', rfl⟩ := List.mem_map.1 hy
                obtain ⟨j, hj⟩ := List.mem_iff_getElem?.1 hy'
                exact HFO.out z HZ.out j y' (by have := lt_of_at hj; have := HNY.out; omega) hj)
              rw [List.map_append, List.map_take, List.map_drop]
              exact h)
            have HTK : Hid ((ys.take f).length = f) := Lib.hid (by rw [List.length_take]; have := HNY.out; omega)
            have HDR : Hid ((ys.drop (f + 1)).length = m - (f + 1)) := Lib.hid (by rw [List.length_drop]; have := HNY.out; omega)
            clear hown' hgrow hga hb6 hen6 hcs' hzc HGI HOWN1 HENT HCS
            go_upto_region 14 with fail
            have hcap : m ≤ cap' := hnc
            have hq1 : (0 : Int) ≤ (f : Int) + 1 := by omega
            have hq2 : (f : Int) + 1 ≤ m := by omega
            have hq3 : (f : Int) ≤ cap' := by omega
            have hf1 : IntKind.i64.wrap ((f : Int) + 1) = (f : Int) + 1 := IntWalk.i64_in _ (by omega)
            refine wp_region_lit 9 [[], [], [], [(1, 44), (2, 45)], [(0, 43), (3, 46)], [], [], [(6, 49)], [(5, 48), (7, 50)]] Grow (fun i v w' => match i with
                | 0 => ∃ g, v = .slice (some ⟨g, 0, none⟩) 0 0 ∧ w6.heap.size ≤ g ∧ BlockIs w' g 62 #[]
                | 1 => v = .slice (some ⟨b, off, none⟩) m cap'
                | 2 => v = .int .i64 f
                | 3 => v = .slice (some ⟨b, off, none⟩) f cap'
                | 4 => ∃ A1 c1, v = .slice A1 f c1 ∧ w'.ownsRow w6.heap.size 62 11 (.slice A1 f c1) f (List.flatMap cellsL (ys.take f))
                | 5 => v = .slice (some ⟨b, off, none⟩) m cap'
                | 6 => v = .int .i64 f
                | 7 => v = .int .i64 (f + 1)
                | 8 => TailAt b off m f v
                | _ => False) (by kernel_rfl) (by kernel_rfl) (fun _ _ _ => Grow.trans) Grow.refl ?_ ?_ ?_
            · intro i v y y' h k
              match i, h with
              | 0, h => obtain ⟨g, h1, h2, h3⟩ := h; exact ⟨g, h1, h2, k.block h3⟩
              | 4, h => obtain ⟨A1, c1, h1, h2⟩ := h; exact ⟨A1, c1, h1, own_grow h2 k⟩
              | 8, h => exact h
              | 1, h | 2, h | 3, h | 5, h | 6, h | 7, h => exact h
            · simp only [StepsLit, List.take_succ_cons, List.take_zero]
              refine ⟨?_, ?_, ?_, ?_, ?m4, ?_, ?_, ?_, ?m8, trivial⟩
              case m4 =>
                intro w7 hR
                have HG7 := Lib.hid hR.of_drew
                clear hR
                simp only [depV, Region.wanted, cond_true]
                rintro _ ⟨g, rfl, hg1, hg2⟩ _ rfl
                refine wp_append_empty _ _ 33 rfl w6.heap.size 62 j0 (.agg zeroE) 11 104 Tryz.underlying33 hj hy0 hy1 hy2 rfl (by decide) g rfl hg2 hg1 (some ⟨b, off, none⟩) f cap' (List.flatMap cellsL (ys.take f)) rfl ?_ ?_ ?_ ?_ ?_ ?_ ?_
                · rw [flat_length (k := 11) (fun _ => rfl), HTK.out]
                · intro j u hu
                  refine ⟨_, rfl, ?_⟩
                  exact news_ents (ys := ys.take f) (fun i x hx j hj => by
                    rw [List.getElem?_take] at hx
                    split at hx
                    · exact (Below.cell (p := ⟨b, off + i * 11 + j, none⟩) HG7.out hb').trans (HC6.out i x hx j hj)
                    · cases hx) j u hu
                · exact one_ents _
                · unfold maxLen; omega
                · omega
                · exact HG7.out.size
                · intro v' w8 ho hg
                  obtain ⟨A1, c1, rfl⟩ := own_form ho
                  exact ⟨rfl, hg, A1, c1, rfl, ho⟩
              case m8 =>
                intro w7 hR
                clear hR
                simp only [depV, Region.wanted, cond_true]
                repeat (rintro _ rfl)
                go_simp
                all_goals first
                  | (refine ⟨Grow.refl _, ?_⟩; exact tail_at hcap)
                  | skip
              all_goals
                intro w7 hR
                have hG := hR.of_drew
                simp only [depV, Region.wanted, cond_true]
                repeat (rintro _ rfl)
                try go_simp
              all_goals first
                | (with_reducible exact Grow.refl _)
                | exact ⟨Grow.alloc _ _, hG.size, BlockIs.new _ _ _⟩
                | skip
            · intro w7 hR
              have HG7 := Lib.hid hR.of_drew
              clear hR
              simp only [finVC, List.take_succ_cons, List.take_zero, List.drop_succ_cons, List.drop_zero]
              rintro v0 - _ rfl _ rfl _ rfl _ ⟨A1, c1, rfl, hown1⟩ _ rfl _ rfl _ rfl _ ⟨p', c', rfl, hp'⟩
              simp only [Act.put, List.setIfInBounds_toArray, List.set_cons_succ, List.set_cons_zero]
              have HP' := Lib.hid hp'
              have hz7 := HG7.out.size
              clear hp'
              go_wp2_with (at_builtin; refine wpList_append_own _ rfl _ _ 33 rfl w6.heap.size 62 j0 (.agg zeroE) 11 104 Tryz.underlying33 hj hy0 hy1 hy2 rfl (by decide) _ _ _ rfl hown1 p' (m - (f + 1)) c' (List.flatMap cellsL (ys.drop (f + 1))) rfl ?c0 ?c1 ?c2 ?c3 ?c4 ?c5 ?_)
              case c0 => rw [flat_length (k := 11) (fun _ => rfl), HDR.out]
              case c1 =>
                intro j u hu
                have hlt : f + 1 < m := by
                  rcases Nat.lt_or_ge (f + 1) m with h | h
                  · exact h
                  · rw [List.eq_nil_of_length_eq_zero (by rw [HDR.out]; omega : (ys.drop (f + 1)).length = 0)] at hu
                    simp at hu
                rw [HP'.out hlt]
                exact news_ents (ys := ys.drop (f + 1)) (fun i x hx j hj => by
                  rw [List.getElem?_drop] at hx
                  have h := (Below.cell (p := ⟨b, off + (f + 1 + i) * 11 + j, none⟩) HG7.out hb').trans (HC6.out _ x hx j hj)
                  rw [show off + (f + 1) * 11 + i * 11 + j = off + (f + 1 + i) * 11 + j by omega]
                  exact h) j u hu
              case c2 => exact one_ents _
              case c3 => unfold maxLen; omega
              case c4 => omega
              case c5 => first | exact hz7 | omega
              intro v' w8 hown8 hgrow _
              obtain ⟨A8, cap8, rfl⟩ := own_form hown8
              have hb8 : Below w6.heap.size w6 w8 := below_grown HG7.out hown1 hgrow hz7
              rw [← List.flatMap_append] at hown8
              obtain ⟨hen8, hln8, hcp8⟩ := own_entsT hown8
              have HEN8 := Lib.hid hen8
              have HLN8 := Lib.hid hln8
              have HCP8 := Lib.hid hcp8
              have HMV8 : Hid (∀ y ∈ ys.take f ++ ys.drop (f + 1), Ints w8 w2.heap.size y.A y.d.form.moves) := Lib.hid fun y hy => by
                have hyy : y ∈ ys := by
                  rcases List.mem_append.1 hy with h | h
                  · exact List.mem_of_mem_take h
                  · exact List.mem_of_mem_drop h
                exact (HMV6.out y hyy).below (hb8.mono hz6)
              have HO8 : Hid (w8.ownsRow w2.heap.size 3 1 (.slice A7 (p + 1) cap7) (p + 1) ((done ++ [z.d]).map fun y => Value.int .i64 y.id)) := Lib.hid (by
                have h := own_grow HO6.out hb8
                rw [List.map_append]
                exact h)
              have HB8 := Lib.hid (HB6.out.trans (hb8.mono hz6))
              have hpn := HPN.out
              clear hown8 hgrow hen8 hln8 hcp8 hown1 hb8
              go_wp2
              go_roundw
              case rel => exact ⟨A8, cap8, f + (m - (f + 1)), ys.take f ++ ys.drop (f + 1), done ++ [z.d], A7, cap7, p + 1, rfl, rfl, HLN8.out, by rw [List.length_append, HPD.out]; rfl, HCP8.out, by omega, by omega, HEN8.out, HMV8.out, HO8.out, HSEL2.out, HB8.out⟩
              case measure => simp; omega
  · have HBE := Lib.hid hbe
    generalize hbq : bookErr (l.map (·.d)) = be at HCK hbe
    have HBQ := Lib.hid hbq
    clear hbq
    go_enter Tryz.func26, Tryz.ntmps26
    go_wp2_with fail
    refine HCK.out.mono ?_
    rintro e w1 ⟨rfl, hb1⟩
    have HG1 : Hid (Grow w w1) := hb1
    clear hb1
    go_wp2_with fail
    go_ret2
    exact ⟨HG1.out, none, 0, [], (by rw [HBQ.out] <;> rfl), .inl rfl, fun _ => ⟨rfl, rfl⟩, fun h => absurd h HBE.out⟩

end Go.Proofs.YtfpmkolaiomabaaGreat
