/- signs.read: the book that a slice of entries stands for, or its first error. -/
import Derived.Test.YtjpnblflenlnaaaGreatBook
namespace Go.Proofs.YtjpnblflenlnaaaGreat
open Go.RowKit
open Go.ChangeMaps (setBlock)

def canonE (x : EntryD) : EntryD := { x with form := canonD x.form }
/-- one more entry, a canon already -/
def addD (b : List EntryD) (x : EntryD) : Option (List EntryD) := match b.find? fun y => y.id == x.id with
  | some y => if alikeC x y = true then some b else none
  | none => some (b ++ [x])
def readD : List EntryD → List EntryD → Option (List EntryD)
  | b, [] => some b
  | b, x :: l => match addD b (canonE x) with
    | some b' => readD b' l
    | none => none
/-- the first error of a book: 0 if there is none -/
def bookErr (l : List EntryD) : Int := if (decide (l.length ≤ 40) && l.all okEntry) = true then (if (readD [] l).isSome = true then 0 else 12) else 11
theorem readD_append (b : List EntryD) (l l' : List EntryD) : readD b (l ++ l') = match readD b l with
    | some b' => readD b' l'
    | none => none := by
  induction l generalizing b with
  | nil => rfl
  | cons x l ih =>
    simp only [List.cons_append, readD]
    cases addD b (canonE x) with
    | none => rfl
    | some b' => exact ih b'
theorem readD_snoc {b b' : List EntryD} {l : List EntryD} (h : readD b l = some b') (x : EntryD) : readD b (l ++ [x]) = addD b' (canonE x) := by
  rw [readD_append, h]
  simp only [readD]
  cases addD b' (canonE x) <;> rfl
theorem readD_none {b : List EntryD} {l : List EntryD} {k : Nat} (h : readD b (l.take k) = none) : readD b l = none := by
  have := readD_append b (l.take k) (l.drop k)
  rw [List.take_append_drop, h] at this
  exact this
theorem findE_map (l : List EntryR) (id : Int) : (l.map (·.d)).find? (fun y => y.id == id) = (findE l id).map (·.d) := by
  unfold findE
  rw [List.find?_map]
  rfl

/-- all the moves of a book's entries lie where they say, and are few -/
def MovesAll (w : World) (bk : List EntryR) : Prop := ∀ x, x ∈ bk → MovesAt w w.heap.size x ∧ x.d.form.moves.length ≤ 6
theorem MovesAt.grow {w w' : World} {x : EntryR} (h : MovesAt w w.heap.size x) (g : Grow w w') : MovesAt w' w'.heap.size x := (h.below g).more g.size
theorem MovesAll.grow {w w' : World} {bk : List EntryR} (h : MovesAll w bk) (g : Grow w w') : MovesAll w' bk := fun x hx => ⟨(h x hx).1.grow g, (h x hx).2⟩
theorem Ints.pastBook {w w' : World} {B m : Nat} {bk : List EntryR} {A : Option Addr} {xs : List Int} (h : Ints w B A xs) (hb : BookAt w m bk) (hg : w.grownBy w' (some m)) (hB : B ≤ w.heap.size) : Ints w' B A xs := by
  rcases h with rfl | ⟨b, off, rfl, hl, hc⟩
  · exact .inl rfl
  · refine .inr ⟨b, off, rfl, hl, fun j x hj => ?_⟩
    have h0 := hc j x hj
    have hne : b ≠ m := fun e => by
      subst e
      unfold BookAt at hb
      simp [World.cell?, hb] at h0
    exact (World.cell?_of_block (w := w) (a := ⟨b, off + j, none⟩) (hg.block b (by omega) (by simpa using hne))).trans h0
theorem MovesAll.pastBook {w w' : World} {m : Nat} {bk bk' : List EntryR} (h : MovesAll w bk') (hb : BookAt w m bk) (hg : w.grownBy w' (some m)) : MovesAll w' bk' :=
  fun x hx => ⟨⟨((h x hx).1.1.pastBook hb hg (Nat.le_refl _)).more hg.size, (h x hx).1.2⟩, (h x hx).2⟩

/-- the list xs at A lies in blocks from lo on -/
def FarA (lo : Nat) (A : Option Addr) (xs : List Int) : Prop := xs = [] ∨ ∃ b off, A = some ⟨b, off, none⟩ ∧ lo ≤ b
theorem IntsF.far {w : World} {lo lo' : Nat} {A : Option Addr} {xs : List Int} (h : IntsF w lo A xs) (hl : lo' ≤ lo) : FarA lo' A xs := by
  rcases h with h | ⟨b, off, h, h1, _⟩
  · exact .inl h
  · exact .inr ⟨b, off, h, Nat.le_trans hl h1⟩
def FarAll (lo : Nat) (bk : List EntryR) : Prop := ∀ x, x ∈ bk → FarA lo x.A x.d.form.moves
theorem FarAll.mono {lo lo' : Nat} {bk : List EntryR} (h : FarAll lo bk) (hl : lo' ≤ lo) : FarAll lo' bk := fun x hx => by
  rcases h x hx with h | ⟨b, off, h, h1⟩
  · exact .inl h
  · exact .inr ⟨b, off, h, Nat.le_trans hl h1⟩
theorem Ints.farCell {w : World} {B lo : Nat} {A : Option Addr} {xs : List Int} (h : Ints w B A xs) (hf : FarA lo A xs) {p : Addr} (hp : p.block < lo) (u : Value) : Ints (w.setCell p u) B A xs := by
  rcases h with h | ⟨b, off, rfl, hl, hc⟩
  · exact .inl h
  · rcases hf with h | ⟨b', off', he, h1⟩
    · exact .inl h
    · have : b' = b := by injection he with he; injection he with e1 _ _; exact e1.symm
      subst this
      refine .inr ⟨b', off, rfl, hl, fun j x hj => ?_⟩
      rw [World.cell?_setCell_other w p ⟨b', off + j, none⟩ u (fun e => by subst e; simp at hp; omega)]
      exact hc j x hj
theorem MovesAll.farCell {w : World} {lo : Nat} {bk : List EntryR} (h : MovesAll w bk) (hf : FarAll lo bk) {p : Addr} (hp : p.block < lo) (u : Value) : MovesAll (w.setCell p u) bk := fun x hx => by
  obtain ⟨⟨h1, h2⟩, h3⟩ := h x hx
  refine ⟨⟨(h1.farCell (hf x hx) hp u).more (by simp [World.setCell]), h2⟩, h3⟩

/-- what read leaves -/
def ReadPost (l : List EntryD) (w : World) (e : Ending) (w' : World) : Prop :=
  Below w.heap.size w w' ∧ ((bookErr l ≠ 0 ∧ e = .returned (.tuple #[.map none, .int .i64 (bookErr l)])) ∨
    (bookErr l = 0 ∧ ∃ m bk, e = .returned (.tuple #[.map (some m), .int .i64 0]) ∧ w.heap.size ≤ m ∧ BookAt w' m bk ∧ MovesAll w' bk ∧ FarAll w.heap.size bk ∧ readD [] l = some (bk.map (·.d))))

set_option maxRecDepth 100000 in
set_option maxHeartbeats 2000000 in
theorem read_any (A : Option Addr) (cap B : Nat) (l : List EntryR) (w : World) (hA : Ents w B A l) (hl : l.length ≤ 1000000) (hB : B ≤ w.heap.size) :
    Calls Tryz.prog 55 #[.slice A l.length cap] w (ReadPost (l.map (·.d)) w) := by
  have hAm := hA.more hB
  have HV := Lib.hid (allOfEntry_any A cap w.heap.size l 40 w hAm hl (Nat.le_refl _) 88 okEntry (fun _ _ => by kernel_rfl) (fun x w' hx hw => validEntry_any x w.heap.size w' ((hAm.2 x hx).below hw) hw.size))
  have HA := Lib.hid hAm
  clear hA hAm hB
  have hmm := @run_makeMap Tryz.prog
  go_enter Tryz.func55, Tryz.ntmps55
  go_wp2_with fail
  refine HV.out.mono ?_
  rintro e w1 ⟨rfl, hb1⟩
  cases hok : (decide ((l.length : Int) ≤ 40) && (l.map (·.d)).all okEntry) with
  | false =>
    have HOK := Lib.hid hok
    have HB1 := Lib.hid hb1
    clear hok hb1 hmm
    go_wp2
    go_ret2
    have he : bookErr (l.map (·.d)) = 11 := by
      have := HOK.out
      unfold bookErr
      rw [if_neg]
      rw [List.length_map]
      intro h
      rw [Bool.and_eq_true] at h
      rw [h.2] at this
      simp at this h
      omega
    exact ⟨HB1.out, .inl ⟨by rw [he]; decide, by rw [he]; rfl⟩⟩
  | true =>
    have HOK := Lib.hid hok
    have HB1 : Hid (Grow w w1) := hb1
    clear hok hb1
    go_wp2
    obtain ⟨W, hW, hgW, hbk, hsz⟩ : ∃ W, w1.alloc (.map #[] 0) = W ∧ Grow w1 W ∧ BookAt W w1.heap.size [] ∧ w1.heap.size < W.heap.size := ⟨_, rfl, Grow.alloc _ _, heap_alloc_new _ _, by simp⟩
    rw [hW]
    have hgm : Grow w W := HB1.out.trans hgW
    have hwm : w.heap.size ≤ w1.heap.size := HB1.out.size
    clear hW hmm hgW
    generalize w1.heap.size = m at *
    go_loopw [13] (fun i wr => ∃ (k : Nat) (bk : List EntryR), k ≤ l.length ∧ i = .int .i64 k ∧ readD [] ((l.map (·.d)).take k) = some (bk.map (·.d)) ∧ BookAt wr m bk ∧ MovesAll wr bk ∧ FarAll w.heap.size bk ∧ Below w.heap.size w wr) (fun i _ => l.length - (intOf i).toNat)
    case atStart => exact ⟨0, [], Nat.zero_le _, rfl, rfl, hbk, fun _ h => (by cases h), fun _ h => (by cases h), hgm⟩
    case round =>
      obtain ⟨k, bk, hk, rfl, hrd, hbk, hmv, hfar, hbw⟩ := hrel
      have HFAR := Lib.hid hfar
      clear hfar
      by_cases hlt : k < l.length
      · obtain ⟨b, off, x, rfl, hb, hc, hm, HX⟩ := (HA.out.below hbw).at_ hlt
        have e0 := hc 0 (by omega); have e1 := hc 1 (by omega); have e2 := hc 2 (by omega); have e3 := hc 3 (by omega); have e4 := hc 4 (by omega); have e5 := hc 5 (by omega)
        have e6 := hc 6 (by omega); have e7 := hc 7 (by omega); have e8 := hc 8 (by omega); have e9 := hc 9 (by omega); have e10 := hc 10 (by omega)
        rw [Nat.add_zero] at e0
        have hokx : okEntry x.d = true := by
          have h := HOK.out
          rw [Bool.and_eq_true, List.all_eq_true] at h
          exact h.2 _ (List.mem_map.2 ⟨x, List.mem_of_getElem? HX.out, rfl⟩)
        have hokf : okForm x.d.form = true := by
          simp only [okEntry, Bool.and_eq_true] at hokx
          exact hokx.2.2.2.2.2.2
        have HRD := Lib.hid hrd
        have HBK := Lib.hid hbk
        have HMV := Lib.hid hmv
        have HM := Lib.hid hm
        have HOKF := Lib.hid hokf
        have HBW := Lib.hid hbw
        clear hc hm hokx hrd hbk hmv hokf hbw hgm
        go_wp2_with fail
        obtain ⟨W2, hW2, hg2, hx2, hsz2⟩ := one_block wr 62 (cellsE x)
        rw [hW2]
        clear hW2 e0 e1 e2 e3 e4 e5 e6 e7 e8 e9 e10
        have hmx := (HM.out.more HBW.out.size).grow hg2
        refine (canon_any x.d.form x.A x.cap W2.heap.size W2 hmx.1 (Nat.le_refl _) HOKF.out).mono ?_
        rintro e w3 ⟨A3, cap3, rfl, hi3, hb3⟩
        have hx3 := hx2.below hb3 hsz2
        have hxc := hx3.cell
        have hxf := hx3.frozen
        have HI3 := Lib.hid hi3
        have HG3 : Hid (Grow wr w3) := hg2.trans hb3
        have HX3 := Lib.hid hx3
        have HZ2 := Lib.hid hsz2
        clear hi3 hb3 hg2 hx2 hmx hx3
        go_wp2_with fail
        obtain ⟨w4, hw4, hg4, hi4⟩ : ∃ w4, ((((((w3.setCell ⟨wr.heap.size, 3, none⟩ (.int .i64 (canonD x.d.form).right)).setCell ⟨wr.heap.size, 4, none⟩ (.int .i64 (canonD x.d.form).left)).setCell
            ⟨wr.heap.size, 5, none⟩ (.int .i64 (canonD x.d.form).column)).setCell ⟨wr.heap.size, 6, none⟩ (.int .i64 (canonD x.d.form).row)).setCell ⟨wr.heap.size, 7, none⟩ (.int .i64 (canonD x.d.form).face)).setCell
            ⟨wr.heap.size, 8, none⟩ (.slice A3 (canonD x.d.form).moves.length cap3)) = w4 ∧ Grow wr w4 ∧ IntsF w4 W2.heap.size A3 (canonD x.d.form).moves := by
          have hz := HZ2.out
          exact ⟨_, rfl, (((((((HG3.out.setC (by simp) _).setC (by simp) _).setC (by simp) _).setC (by simp) _).setC (by simp) _).setC (by simp) _)),
            ((((((HI3.out.setCell (by simp; omega) _).setCell (by simp; omega) _).setCell (by simp; omega) _).setCell (by simp; omega) _).setCell (by simp; omega) _).setCell (by simp; omega) _)⟩
        rw [hw4]
        clear hw4 hxc hxf
        obtain ⟨x', hx'⟩ : ∃ x' : EntryR, x' = ⟨canonE x.d, A3, cap3⟩ := ⟨_, rfl⟩
        have hxd : x'.d = canonE x.d := by rw [hx']
        have hlen6 : x'.d.form.moves.length ≤ 6 := by rw [hx']; exact okForm_len (okForm_canon HOKF.out)
        have hmx' : MovesAt w4 w4.heap.size x' := by rw [hx']; exact ⟨hi4.ints, by have := okForm_len (okForm_canon HOKF.out); simp [canonE]; omega⟩
        have hfx' : FarA w.heap.size x'.A x'.d.form.moves := by rw [hx']; exact hi4.far (by have := HBW.out.size; have := HZ2.out; omega)
        have hbk4 := HBK.out.grow hg4
        have hmv4 := HMV.out.grow hg4
        have hb4 : Below w.heap.size w w4 := HBW.out.trans (Below.mono (show Below wr.heap.size wr w4 from hg4) HBW.out.size)
        have hread : readD [] ((l.map (·.d)).take (k + 1)) = addD (bk.map (·.d)) x'.d := by
          have : (l.map (·.d))[k]? = some x.d := by rw [List.getElem?_map, HX.out]; rfl
          rw [take_snoc this, hxd]
          exact readD_snoc HRD.out x.d
        have hargs : (#[Value.map (some m), Value.agg #[.int .i64 x.d.id, .int .i64 x.d.sign, .int .i64 x.d.regions, .int .i64 (canonD x.d.form).right, .int .i64 (canonD x.d.form).left, .int .i64 (canonD x.d.form).column,
            .int .i64 (canonD x.d.form).row, .int .i64 (canonD x.d.form).face, .slice A3 (canonD x.d.form).moves.length cap3, .int .i64 x.d.low, .int .i64 x.d.high]] : Array Value) = #[.map (some m), entryV x'] := by rw [hx']; rfl
        rw [hargs]
        clear hargs
        unfold addD at hread
        rw [findE_map] at hread
        cases hfe : findE bk x'.d.id with
        | none =>
          rw [hfe] at hread
          have HR := Lib.hid hread
          refine (add_new m bk x' w4 hbk4 hfe).mono ?_
          rintro e w5 ⟨rfl, hbk5, hg5⟩
          have hmv5 : MovesAll w5 (bk ++ [x']) := (MovesAll.pastBook (bk' := bk ++ [x']) (fun y hy => by
            rcases List.mem_append.1 hy with h | h
            · exact hmv4 y h
            · have : y = x' := by simpa using h
              subst this
              exact ⟨hmx', hlen6⟩) hbk4 hg5)
          have hb5 : Below w.heap.size w w5 := hb4.grown hg5 hb4.size (fun q hq => by injection hq with hq; omega)
          have HBK5 := Lib.hid hbk5
          have HMV5 := Lib.hid hmv5
          have HB5 := Lib.hid hb5
          have HF5 : Hid (FarAll w.heap.size (bk ++ [x'])) := fun y hy => by
            rcases List.mem_append.1 hy with h | h
            · exact HFAR.out y h
            · have : y = x' := by simpa using h
              rw [this]
              exact hfx'
          clear hread hfe hbk5 hmv5 hb5 hg5 hbk4 hmv4 hb4 hmx' hlen6 hxd hx' hi4 hg4 hfx'
          go_wp2
          go_roundw
          case rel => exact ⟨k + 1, bk ++ [x'], by omega, by go_num, by rw [HR.out]; simp, HBK5.out, HMV5.out, HF5.out, HB5.out⟩
          case measure => simp [intOf]; omega
        | some y =>
          rw [hfe] at hread
          have hmem : y ∈ bk := List.mem_of_find?_eq_some hfe
          have HR := Lib.hid hread
          refine (add_old m bk x' y w4.heap.size w4 hbk4 hfe hmx' (hmv4 y hmem).1 (Nat.le_refl _) hlen6 (hmv4 y hmem).2).mono ?_
          rintro e w5 ⟨rfl, hb5⟩
          have HBK5 := Lib.hid (hbk4.grow hb5)
          have HMV5 := Lib.hid (hmv4.grow hb5)
          have HB5 := Lib.hid (hb4.trans (Below.mono hb5 hb4.size))
          clear hread hfe hb5 hbk4 hmv4 hb4 hmx' hlen6 hxd hx' hi4 hg4 hmem hfx'
          cases hal : alikeC x'.d y.d with
          | true =>
            have HAL := Lib.hid hal
            go_wp2
            go_roundw
            case rel => exact ⟨k + 1, bk, by omega, by go_num, by rw [HR.out]; simp [HAL.out], HBK5.out, HMV5.out, HFAR.out, HB5.out⟩
            case measure => simp [intOf]; omega
          | false =>
            have HAL := Lib.hid hal
            go_wp2
            go_ret2
            have hn : readD [] (l.map (·.d)) = none := readD_none (k := k + 1) (by rw [HR.out]; simp [HAL.out])
            have he : bookErr (l.map (·.d)) = 12 := by
              unfold bookErr
              rw [if_pos, hn]
              · rfl
              · have := HOK.out
                rw [Bool.and_eq_true] at this ⊢
                exact ⟨by have h := this.1; simp at h ⊢; omega, this.2⟩
            exact ⟨HB5.out, .inl ⟨by rw [he]; decide, by rw [he]; rfl⟩⟩
      · obtain rfl : k = l.length := by omega
        have HRD := Lib.hid hrd
        have HBK := Lib.hid hbk
        have HMV := Lib.hid hmv
        have HBW := Lib.hid hbw
        clear hrd hbk hmv hbw
        go_wp2
        go_ret2
        have hrd := HRD.out
        rw [List.take_of_length_le (by simp)] at hrd
        have he : bookErr (l.map (·.d)) = 0 := by
          unfold bookErr
          rw [if_pos, hrd]
          · rfl
          · have := HOK.out
            rw [Bool.and_eq_true] at this ⊢
            exact ⟨by have h := this.1; simp at h ⊢; omega, this.2⟩
        exact ⟨HBW.out, .inr ⟨he, m, bk, rfl, hwm, HBK.out, HMV.out, HFAR.out, hrd⟩⟩

end Go.Proofs.YtjpnblflenlnaaaGreat
