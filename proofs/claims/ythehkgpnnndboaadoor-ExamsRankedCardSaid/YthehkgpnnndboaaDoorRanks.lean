/- Ranks: the ranks that results leave, as spans. -/
import Derived.Test.YthehkgpnnndboaaDoorRowC
namespace Go.Proofs.YthehkgpnnndboaaDoor
open Go.RowKit

theorem set_same {cs : Array Value} {i : Nat} {v : Value} (h : cs[i]? = some v) : cs.setIfInBounds i v = cs := by
  apply Array.ext_getElem?
  intro j
  rw [Array.getElem?_setIfInBounds]
  by_cases e : i = j
  · subst e
    rw [if_pos rfl, h, if_pos (Array.getElem?_eq_some_iff.1 h).1]
  · rw [if_neg e]
theorem rowC_setLo (f : Nat → Int × Int) {n k : Nat} (v : Int) (hk : k < n) : (rowC f n).setIfInBounds (k * 2) (.int .i64 v) = rowC (updS f k (v, (f k).2)) n := by
  rw [← rowC_set f (v, (f k).2) hk]
  symm
  apply set_same
  rw [Array.getElem?_setIfInBounds, if_neg (by omega)]
  exact rowC_hi f hk
theorem rowC_setHi (f : Nat → Int × Int) {n k : Nat} (v : Int) (hk : k < n) : (rowC f n).setIfInBounds (k * 2 + 1) (.int .i64 v) = rowC (updS f k ((f k).1, v)) n := by
  rw [← rowC_set f ((f k).1, v) hk, set_same (rowC_lo f hk)]
/-- how many of the first k lie beyond -/
def lowTo (l : List (Int × Int)) (own : Int × Int) (k : Nat) : Nat := (List.range k).countP fun j => decide (own.2 < (l.getD j (0, 0)).1)
def highTo (l : List (Int × Int)) (i : Nat) (own : Int × Int) (k : Nat) : Nat := (List.range k).countP fun j => decide (j ≠ i) && decide (own.1 < (l.getD j (0, 0)).2)
theorem lowTo_succ (l : List (Int × Int)) (own : Int × Int) (k : Nat) {x : Int × Int} (hx : l[k]? = some x) : lowTo l own (k + 1) = lowTo l own k + if own.2 < x.1 then 1 else 0 := by
  unfold lowTo
  rw [List.range_succ, List.countP_append, List.countP_singleton, show l.getD k (0, 0) = x by rw [List.getD_eq_getElem?_getD, hx]; rfl]
  simp only [decide_eq_true_eq]
theorem highTo_succ (l : List (Int × Int)) (i : Nat) (own : Int × Int) (k : Nat) {x : Int × Int} (hx : l[k]? = some x) : highTo l i own (k + 1) = highTo l i own k + if k ≠ i ∧ own.1 < x.2 then 1 else 0 := by
  unfold highTo
  rw [List.range_succ, List.countP_append, List.countP_singleton, show l.getD k (0, 0) = x by rw [List.getD_eq_getElem?_getD, hx]; rfl]
  simp only [Bool.and_eq_true, decide_eq_true_eq]
theorem lowTo_le (l : List (Int × Int)) (own : Int × Int) (k : Nat) : lowTo l own k ≤ k := by
  have := List.countP_le_length (p := fun j => decide (own.2 < (l.getD j (0, 0)).1)) (l := List.range k)
  rwa [List.length_range] at this
theorem highTo_le (l : List (Int × Int)) (i : Nat) (own : Int × Int) (k : Nat) : highTo l i own k ≤ k := by
  have := List.countP_le_length (p := fun j => decide (j ≠ i) && decide (own.1 < (l.getD j (0, 0)).2)) (l := List.range k)
  rwa [List.length_range] at this
/-- the rank of a paper, as a span -/
def rankF (l : List (Int × Int)) (i : Nat) : Int × Int := (1 + rankL l (l.getD i (0, 0)), 1 + rankH l i (l.getD i (0, 0)))
def finF (l : List (Int × Int)) (i j : Nat) : Int × Int := if j < i then rankF l j else (0, 0)
theorem finF_all (l : List (Int × Int)) {n j : Nat} (hj : j < n) : finF l n j = rankF l j := by unfold finF; rw [if_pos hj]

set_option maxRecDepth 100000 in
set_option maxHeartbeats 16000000 in
theorem ranks_any (l : List (Int × Int)) (A : Option Addr) (cap : Nat) (w : World) (hA : Flats cellsS 2 w w.heap.size A l) (hl : l.length ≤ 6) :
    Calls Tryd.prog 65 #[.slice A l.length cap] w fun e w' => ∃ b, e = .returned (.slice (some ⟨b, 0, none⟩) l.length l.length) ∧ BlockIs w' b 33 (rowC (rankF l) l.length) ∧ Below w.heap.size w w' := by
  have HPA := Lib.hid (fun (w0 : World) (hw : Below w.heap.size w w0) => hA.below hw)
  have hmk : ∀ w0, (Instr.makeSlice 36 (.int .i64 (l.length : Int)) (.int .i64 (l.length : Int))).run Tryd.prog w0 = .ok (.slice (some ⟨w0.heap.size, 0, none⟩) l.length l.length) (w0.alloc (.cells (rowC (fun _ => (0, 0)) l.length) 33)) := fun w0 => make_spans l.length w0 (by omega)
  have HFA := Lib.hid (fun j (hj : j < l.length) => finF_all l hj)
  clear hA
  go_enter Tryd.func65, Tryd.ntmps65
  go_upto_region 2 with fail
  obtain ⟨W, hW, hg, hb, hsz⟩ := one_block w 33 (rowC (fun _ => (0, 0)) l.length)
  rw [hW]
  clear hW hmk
  obtain ⟨rb, hrb⟩ : ∃ z, w.heap.size = z := ⟨_, rfl⟩
  have HRBQ := Lib.hid hrb
  rw [hrb] at hb hsz
  have HB := Lib.hid hb
  have HG := Lib.hid hg
  rw [hrb]
  clear hb hg hrb
  go_wp2_with fail
  go_loopw [13] (fun iv wr => ∃ i : Nat, i ≤ l.length ∧ iv = .int .i64 (i : Nat) ∧ BlockIs wr rb 33 (rowC (finF l i) l.length) ∧ Below w.heap.size w wr) (fun iv _ => l.length - (intOf iv).toNat)
  case atStart => exact ⟨0, Nat.zero_le _, rfl, by rw [show rowC (finF l 0) l.length = rowC (fun _ => (0, 0)) l.length from rowC_congr fun j _ => by unfold finF; rw [if_neg (by omega)]]; exact HB.out, HG.out⟩
  case round =>
    obtain ⟨i, hi, rfl, hbk, hbe⟩ := hrel
    rename World => wr
    have HBK := Lib.hid hbk
    have HBE := Lib.hid hbe
    clear hbk hbe
    by_cases hlt : i < l.length
    · have hd : decide ((i : Int) < (l.length : Int)) = true := decide_eq_true (by omega)
      have hi0 : (0 : Int) ≤ (i : Int) := by omega
      have hi1 : (i : Int) < (l.length : Int) := by omega
      obtain ⟨b, off, own, rfl, hbb, hcc, HX⟩ := (HPA.out wr HBE.out).at_ hlt
      have c0 := hcc 0 (by omega)
      have c1 := hcc 1 (by omega)
      rw [Nat.add_zero] at c0
      have HOWN : Hid (l.getD i (0, 0) = own) := Lib.hid (by rw [List.getD_eq_getElem?_getD, HX.out]; rfl)
      clear hcc HX
      go_upto_region 5 with fail
      obtain ⟨W2, hW2, hg2, hf2, hs2⟩ := one_block wr 33 (cellsS own)
      rw [show wr.alloc (.cells (cellsS own) 33) = W2 from hW2]
      clear hW2
      obtain ⟨ob, hob⟩ : ∃ z, wr.heap.size = z := ⟨_, rfl⟩
      rw [hob] at hf2 hs2 ⊢
      have hro : rb < ob := by have := HBK.out.lt; omega
      have HOB2 := Lib.hid hf2
      have HBK2 := Lib.hid (hg2.block HBK.out)
      have HBE2 : Hid (Below w.heap.size w W2) := Lib.hid (HBE.out.trans (Below.mono hg2 HBE.out.size))
      have hrc := HBK2.out.cell
      have hrf := HBK2.out.frozen
      have hz0 := (hrc (i * 2)).trans (rowC_lo (finF l i) hlt)
      have hz1 := (hrc (i * 2 + 1)).trans (rowC_hi (finF l i) hlt)
      clear hg2 hf2 hob c0 c1 hrc
      go_upto_region 6 with fail
      obtain ⟨W3, hW3⟩ : ∃ z, (W2.setCell ⟨rb, i * 2, none⟩ (.int .i64 1)).setCell ⟨rb, i * 2 + 1, none⟩ (.int .i64 1) = z := ⟨_, rfl⟩
      have HBK3 : Hid (BlockIs W3 rb 33 (rowC (updS (finF l i) i (1, 1)) l.length)) := Lib.hid (by rw [← hW3, ← rowC_set _ _ hlt]; exact (HBK2.out.near _ _).near _ _)
      have HOB3 : Hid (BlockIs W3 ob 33 (cellsS own)) := Lib.hid (by rw [← hW3]; exact (HOB2.out.far (p := ⟨rb, i * 2, none⟩) (by show ob ≠ rb; omega) _).far (p := ⟨rb, i * 2 + 1, none⟩) (by show ob ≠ rb; omega) _)
      have HBE3 : Hid (Below w.heap.size w W3) := Lib.hid (by
        rw [← hW3]
        have hq := HRBQ.out
        exact (HBE2.out.setCell (p := ⟨rb, i * 2, none⟩) (by show w.heap.size ≤ rb; omega) _).setCell (p := ⟨rb, i * 2 + 1, none⟩) (by show w.heap.size ≤ rb; omega) _)
      rw [hW3]
      clear hW3 hz0 hz1 hrf HBK2 HOB2 HBE2
      go_wp2_with fail
      go_loopw [24] (fun jv wi => ∃ k : Nat, k ≤ l.length ∧ jv = .int .i64 (k : Nat) ∧ BlockIs wi rb 33 (rowC (updS (finF l i) i ((1 : Int) + (lowTo l own k : Nat), (1 : Int) + (highTo l i own k : Nat))) l.length) ∧ BlockIs wi ob 33 (cellsS own) ∧ Below w.heap.size w wi) (fun jv _ => l.length - (intOf jv).toNat)
      case atStart => exact ⟨0, Nat.zero_le _, rfl, HBK3.out, HOB3.out, HBE3.out⟩
      case round =>
        obtain ⟨k, hk, rfl, hbk, hob, hbe⟩ := hrel
        rename World => wi
        have HBKi := Lib.hid hbk
        have HOBi := Lib.hid hob
        have HBEi := Lib.hid hbe
        clear hbk hob hbe HBK3 HOB3 HBE3
        by_cases hkl : k < l.length
        · have hdk : decide ((k : Int) < (l.length : Int)) = true := decide_eq_true (by omega)
          have hk0 : (0 : Int) ≤ (k : Int) := by omega
          have hk1 : (k : Int) < (l.length : Int) := by omega
          obtain ⟨b2, off2, x, hA2, hbb2, hcc, HX⟩ := (HPA.out wi HBEi.out).at_ hkl
          cases hA2
          have c0 := hcc 0 (by omega)
          have c1 := hcc 1 (by omega)
          rw [Nat.add_zero] at c0
          have HL := Lib.hid (lowTo_succ l own k HX.out)
          have HH := Lib.hid (highTo_succ l i own k HX.out)
          have hle1 := lowTo_le l own k
          have hle2 := highTo_le l i own k
          obtain ⟨lo, hlo⟩ : ∃ z, lowTo l own k = z := ⟨_, rfl⟩
          obtain ⟨hh, hhh⟩ : ∃ z, highTo l i own k = z := ⟨_, rfl⟩
          rw [hlo] at HL HBKi hle1
          rw [hhh] at HH HBKi hle2
          obtain ⟨lo2, hlo2⟩ : ∃ z, lowTo l own (k + 1) = z := ⟨_, rfl⟩
          obtain ⟨hh2, hhh2⟩ : ∃ z, highTo l i own (k + 1) = z := ⟨_, rfl⟩
          rw [hlo2] at HL
          rw [hhh2] at HH
          have HL2 := Lib.hid hlo2
          have HH2 := Lib.hid hhh2
          clear hcc HX hlo hhh hlo2 hhh2
          obtain ⟨o1, o2⟩ := own
          obtain ⟨x1, x2⟩ := x
          dsimp only at HL HH c0 c1
          go_upto_region 9 with fail
          obtain ⟨W4, hW4, hg4, hf4, hs4⟩ := one_block wi 33 (cellsS (x1, x2))
          rw [show wi.alloc (.cells #[.int .i64 x1, .int .i64 x2] 33) = W4 from hW4]
          clear hW4
          obtain ⟨xb, hxb⟩ : ∃ z, wi.heap.size = z := ⟨_, rfl⟩
          rw [hxb] at hf4 hs4 ⊢
          have hrx : rb < xb := by have := HBKi.out.lt; omega
          have HXB4 := Lib.hid hf4
          have HOB4 := Lib.hid (hg4.block HOBi.out)
          have HBK4 := Lib.hid (hg4.block HBKi.out)
          have HBE4 : Hid (Below w.heap.size w W4) := Lib.hid (HBEi.out.trans (Below.mono hg4 HBEi.out.size))
          clear hg4 hf4 hxb c0 c1
          have hoc := HOB4.out.cell
          have hxc := HXB4.out.cell
          have hw1 : IntKind.i64.wrap ((1 : Int) + (lo : Int) + 1) = (1 : Int) + (lo : Int) + 1 := IntWalk.i64_in _ (by omega)
          have hw2 : IntKind.i64.wrap ((1 : Int) + (hh : Int) + 1) = (1 : Int) + (hh : Int) + 1 := IntWalk.i64_in _ (by omega)
          have HBK_W4 := Lib.hid HBK4.out
          have HXB_W4 := Lib.hid HXB4.out
          have HOB_W4 := Lib.hid HOB4.out
          have HBE_W4 := Lib.hid HBE4.out
          clear HBK4 HXB4 HOB4 HBE4 hoc hxc
          by_cases hgl : o2 < x1
          · have hdl : decide (o2 < x1) = true := decide_eq_true hgl
            have HE1 : Hid (lo2 = lo + 1) := Lib.hid (by rw [HL.out, if_pos hgl])
            have hrc := HBK_W4.out.cell
            have hrf := HBK_W4.out.frozen
            have hz0 : W4.cell? ⟨rb, i * 2, none⟩ = some (.int .i64 ((1 : Int) + (lo : Nat))) := (hrc (i * 2)).trans ((rowC_lo _ hlt).trans (by unfold updS; rw [if_pos rfl]))
            have hz1 : W4.cell? ⟨rb, i * 2 + 1, none⟩ = some (.int .i64 ((1 : Int) + (hh : Nat))) := (hrc (i * 2 + 1)).trans ((rowC_hi _ hlt).trans (by unfold updS; rw [if_pos rfl]))
            have hoc := HOB_W4.out.cell
            have hxc := HXB_W4.out.cell
            clear hrc
            go_upto_region 11 with fail
            obtain ⟨w6, hW5⟩ : ∃ z, W4.setCell ⟨rb, i * 2, none⟩ (.int .i64 ((1 : Int) + (lo : Nat) + 1)) = z := ⟨_, rfl⟩
            have HBK_w6 : Hid (BlockIs w6 rb 33 (rowC (updS (finF l i) i ((1 : Int) + (lo : Nat) + 1, (1 : Int) + (hh : Nat))) l.length)) := Lib.hid (by
              have h := HBK_W4.out.near (i * 2) (.int .i64 ((1 : Int) + (lo : Nat) + 1))
              rw [rowC_setLo _ _ hlt, hW5] at h
              rwa [rowC_congr (g := updS (finF l i) i ((1 : Int) + (lo : Nat) + 1, (1 : Int) + (hh : Nat))) fun j _ => by unfold updS; by_cases e : j = i <;> simp [e]] at h)
            have HXB_w6 : Hid (BlockIs w6 xb 33 (cellsS (x1, x2))) := Lib.hid (by rw [← hW5]; exact HXB_W4.out.far (p := ⟨rb, i * 2, none⟩) (by show xb ≠ rb; omega) _)
            have HOB_w6 : Hid (BlockIs w6 ob 33 (cellsS (o1, o2))) := Lib.hid (by rw [← hW5]; exact HOB_W4.out.far (p := ⟨rb, i * 2, none⟩) (by show ob ≠ rb; omega) _)
            have HBE_w6 : Hid (Below w.heap.size w w6) := Lib.hid (by
              rw [← hW5]
              have hq := HRBQ.out
              exact HBE_W4.out.setCell (p := ⟨rb, i * 2, none⟩) (by show w.heap.size ≤ rb; omega) _)
            rw [hW5]
            clear hW5 hrf hz0 hz1 hoc hxc
            by_cases hne : k = i
            · subst hne
              have hn1 : ((k : Int) != (k : Int)) = false := by simp
              have HE2 : Hid (hh2 = hh) := Lib.hid (by rw [HH.out, if_neg (by omega)]; rfl)
              have hrc := HBK_w6.out.cell
              have hrf := HBK_w6.out.frozen
              have hz0 : w6.cell? ⟨rb, k * 2, none⟩ = some (.int .i64 ((1 : Int) + (lo : Nat) + 1)) := (hrc (k * 2)).trans ((rowC_lo _ hlt).trans (by unfold updS; rw [if_pos rfl]))
              have hz1 : w6.cell? ⟨rb, k * 2 + 1, none⟩ = some (.int .i64 ((1 : Int) + (hh : Nat))) := (hrc (k * 2 + 1)).trans ((rowC_hi _ hlt).trans (by unfold updS; rw [if_pos rfl]))
              have hoc := HOB_w6.out.cell
              have hxc := HXB_w6.out.cell
              clear hrc
              clear hz0 hz1 hrf
              go_wp2_with fail
              go_roundw
              case rel => exact ⟨k + 1, by omega, by go_num, by
                rw [HL2.out, HH2.out, show ((1 : Int) + (lo2 : Nat), (1 : Int) + (hh2 : Nat)) = ((1 : Int) + (lo : Nat) + 1, (1 : Int) + (hh : Nat)) by have h1 := HE1.out; have h2 := HE2.out; subst h1 h2; first | rfl | (simp; done) | (simp; omega)]
                exact HBK_w6.out, HOB_w6.out, HBE_w6.out⟩
              case measure => simp [intOf]; omega
            have hn1 : ((k : Int) != (i : Int)) = true := by rw [bne_iff_ne]; omega
            have hn2 : ¬ (k : Int) = (i : Int) := by omega
            by_cases hgt : o1 < x2
            · have hdg : decide (o1 < x2) = true := decide_eq_true hgt
              have HE2 : Hid (hh2 = hh + 1) := Lib.hid (by rw [HH.out, if_pos ⟨hne, hgt⟩])
              have hrc := HBK_w6.out.cell
              have hrf := HBK_w6.out.frozen
              have hz0 : w6.cell? ⟨rb, i * 2, none⟩ = some (.int .i64 ((1 : Int) + (lo : Nat) + 1)) := (hrc (i * 2)).trans ((rowC_lo _ hlt).trans (by unfold updS; rw [if_pos rfl]))
              have hz1 : w6.cell? ⟨rb, i * 2 + 1, none⟩ = some (.int .i64 ((1 : Int) + (hh : Nat))) := (hrc (i * 2 + 1)).trans ((rowC_hi _ hlt).trans (by unfold updS; rw [if_pos rfl]))
              have hoc := HOB_w6.out.cell
              have hxc := HXB_w6.out.cell
              clear hrc
              go_upto_region 13 with fail
              obtain ⟨w7, hW5⟩ : ∃ z, w6.setCell ⟨rb, i * 2 + 1, none⟩ (.int .i64 ((1 : Int) + (hh : Nat) + 1)) = z := ⟨_, rfl⟩
              have HBK_w7 : Hid (BlockIs w7 rb 33 (rowC (updS (finF l i) i ((1 : Int) + (lo : Nat) + 1, (1 : Int) + (hh : Nat) + 1)) l.length)) := Lib.hid (by
                have h := HBK_w6.out.near (i * 2 + 1) (.int .i64 ((1 : Int) + (hh : Nat) + 1))
                rw [rowC_setHi _ _ hlt, hW5] at h
                rwa [rowC_congr (g := updS (finF l i) i ((1 : Int) + (lo : Nat) + 1, (1 : Int) + (hh : Nat) + 1)) fun j _ => by unfold updS; by_cases e : j = i <;> simp [e]] at h)
              have HXB_w7 : Hid (BlockIs w7 xb 33 (cellsS (x1, x2))) := Lib.hid (by rw [← hW5]; exact HXB_w6.out.far (p := ⟨rb, i * 2 + 1, none⟩) (by show xb ≠ rb; omega) _)
              have HOB_w7 : Hid (BlockIs w7 ob 33 (cellsS (o1, o2))) := Lib.hid (by rw [← hW5]; exact HOB_w6.out.far (p := ⟨rb, i * 2 + 1, none⟩) (by show ob ≠ rb; omega) _)
              have HBE_w7 : Hid (Below w.heap.size w w7) := Lib.hid (by
                rw [← hW5]
                have hq := HRBQ.out
                exact HBE_w6.out.setCell (p := ⟨rb, i * 2 + 1, none⟩) (by show w.heap.size ≤ rb; omega) _)
              rw [hW5]
              clear hW5 hrf hz0 hz1 hoc hxc
              go_wp2_with fail
              go_roundw
              case rel => exact ⟨k + 1, by omega, by go_num, by
                rw [HL2.out, HH2.out, show ((1 : Int) + (lo2 : Nat), (1 : Int) + (hh2 : Nat)) = ((1 : Int) + (lo : Nat) + 1, (1 : Int) + (hh : Nat) + 1) by have h1 := HE1.out; have h2 := HE2.out; subst h1 h2; first | rfl | (simp; done) | (simp; omega)]
                exact HBK_w7.out, HOB_w7.out, HBE_w7.out⟩
              case measure => simp [intOf]; omega
            · have hdg : decide (o1 < x2) = false := decide_eq_false hgt
              have HE2 : Hid (hh2 = hh) := Lib.hid (by rw [HH.out, if_neg (by omega)]; rfl)
              have hrc := HBK_w6.out.cell
              have hrf := HBK_w6.out.frozen
              have hz0 : w6.cell? ⟨rb, i * 2, none⟩ = some (.int .i64 ((1 : Int) + (lo : Nat) + 1)) := (hrc (i * 2)).trans ((rowC_lo _ hlt).trans (by unfold updS; rw [if_pos rfl]))
              have hz1 : w6.cell? ⟨rb, i * 2 + 1, none⟩ = some (.int .i64 ((1 : Int) + (hh : Nat))) := (hrc (i * 2 + 1)).trans ((rowC_hi _ hlt).trans (by unfold updS; rw [if_pos rfl]))
              have hoc := HOB_w6.out.cell
              have hxc := HXB_w6.out.cell
              clear hrc
              clear hz0 hz1 hrf
              go_wp2_with fail
              go_roundw
              case rel => exact ⟨k + 1, by omega, by go_num, by
                rw [HL2.out, HH2.out, show ((1 : Int) + (lo2 : Nat), (1 : Int) + (hh2 : Nat)) = ((1 : Int) + (lo : Nat) + 1, (1 : Int) + (hh : Nat)) by have h1 := HE1.out; have h2 := HE2.out; subst h1 h2; first | rfl | (simp; done) | (simp; omega)]
                exact HBK_w6.out, HOB_w6.out, HBE_w6.out⟩
              case measure => simp [intOf]; omega
          · have hdl : decide (o2 < x1) = false := decide_eq_false hgl
            have HE1 : Hid (lo2 = lo) := Lib.hid (by rw [HL.out, if_neg hgl]; rfl)
            by_cases hne : k = i
            · subst hne
              have hn1 : ((k : Int) != (k : Int)) = false := by simp
              have HE2 : Hid (hh2 = hh) := Lib.hid (by rw [HH.out, if_neg (by omega)]; rfl)
              have hrc := HBK_W4.out.cell
              have hrf := HBK_W4.out.frozen
              have hz0 : W4.cell? ⟨rb, k * 2, none⟩ = some (.int .i64 ((1 : Int) + (lo : Nat))) := (hrc (k * 2)).trans ((rowC_lo _ hlt).trans (by unfold updS; rw [if_pos rfl]))
              have hz1 : W4.cell? ⟨rb, k * 2 + 1, none⟩ = some (.int .i64 ((1 : Int) + (hh : Nat))) := (hrc (k * 2 + 1)).trans ((rowC_hi _ hlt).trans (by unfold updS; rw [if_pos rfl]))
              have hoc := HOB_W4.out.cell
              have hxc := HXB_W4.out.cell
              clear hrc
              clear hz0 hz1 hrf
              go_wp2_with fail
              go_roundw
              case rel => exact ⟨k + 1, by omega, by go_num, by
                rw [HL2.out, HH2.out, show ((1 : Int) + (lo2 : Nat), (1 : Int) + (hh2 : Nat)) = ((1 : Int) + (lo : Nat), (1 : Int) + (hh : Nat)) by have h1 := HE1.out; have h2 := HE2.out; subst h1 h2; first | rfl | (simp; done) | (simp; omega)]
                exact HBK_W4.out, HOB_W4.out, HBE_W4.out⟩
              case measure => simp [intOf]; omega
            have hn1 : ((k : Int) != (i : Int)) = true := by rw [bne_iff_ne]; omega
            have hn2 : ¬ (k : Int) = (i : Int) := by omega
            by_cases hgt : o1 < x2
            · have hdg : decide (o1 < x2) = true := decide_eq_true hgt
              have HE2 : Hid (hh2 = hh + 1) := Lib.hid (by rw [HH.out, if_pos ⟨hne, hgt⟩])
              have hrc := HBK_W4.out.cell
              have hrf := HBK_W4.out.frozen
              have hz0 : W4.cell? ⟨rb, i * 2, none⟩ = some (.int .i64 ((1 : Int) + (lo : Nat))) := (hrc (i * 2)).trans ((rowC_lo _ hlt).trans (by unfold updS; rw [if_pos rfl]))
              have hz1 : W4.cell? ⟨rb, i * 2 + 1, none⟩ = some (.int .i64 ((1 : Int) + (hh : Nat))) := (hrc (i * 2 + 1)).trans ((rowC_hi _ hlt).trans (by unfold updS; rw [if_pos rfl]))
              have hoc := HOB_W4.out.cell
              have hxc := HXB_W4.out.cell
              clear hrc
              go_upto_region 13 with fail
              obtain ⟨w7, hW5⟩ : ∃ z, W4.setCell ⟨rb, i * 2 + 1, none⟩ (.int .i64 ((1 : Int) + (hh : Nat) + 1)) = z := ⟨_, rfl⟩
              have HBK_w7 : Hid (BlockIs w7 rb 33 (rowC (updS (finF l i) i ((1 : Int) + (lo : Nat), (1 : Int) + (hh : Nat) + 1)) l.length)) := Lib.hid (by
                have h := HBK_W4.out.near (i * 2 + 1) (.int .i64 ((1 : Int) + (hh : Nat) + 1))
                rw [rowC_setHi _ _ hlt, hW5] at h
                rwa [rowC_congr (g := updS (finF l i) i ((1 : Int) + (lo : Nat), (1 : Int) + (hh : Nat) + 1)) fun j _ => by unfold updS; by_cases e : j = i <;> simp [e]] at h)
              have HXB_w7 : Hid (BlockIs w7 xb 33 (cellsS (x1, x2))) := Lib.hid (by rw [← hW5]; exact HXB_W4.out.far (p := ⟨rb, i * 2 + 1, none⟩) (by show xb ≠ rb; omega) _)
              have HOB_w7 : Hid (BlockIs w7 ob 33 (cellsS (o1, o2))) := Lib.hid (by rw [← hW5]; exact HOB_W4.out.far (p := ⟨rb, i * 2 + 1, none⟩) (by show ob ≠ rb; omega) _)
              have HBE_w7 : Hid (Below w.heap.size w w7) := Lib.hid (by
                rw [← hW5]
                have hq := HRBQ.out
                exact HBE_W4.out.setCell (p := ⟨rb, i * 2 + 1, none⟩) (by show w.heap.size ≤ rb; omega) _)
              rw [hW5]
              clear hW5 hrf hz0 hz1 hoc hxc
              go_wp2_with fail
              go_roundw
              case rel => exact ⟨k + 1, by omega, by go_num, by
                rw [HL2.out, HH2.out, show ((1 : Int) + (lo2 : Nat), (1 : Int) + (hh2 : Nat)) = ((1 : Int) + (lo : Nat), (1 : Int) + (hh : Nat) + 1) by have h1 := HE1.out; have h2 := HE2.out; subst h1 h2; first | rfl | (simp; done) | (simp; omega)]
                exact HBK_w7.out, HOB_w7.out, HBE_w7.out⟩
              case measure => simp [intOf]; omega
            · have hdg : decide (o1 < x2) = false := decide_eq_false hgt
              have HE2 : Hid (hh2 = hh) := Lib.hid (by rw [HH.out, if_neg (by omega)]; rfl)
              have hrc := HBK_W4.out.cell
              have hrf := HBK_W4.out.frozen
              have hz0 : W4.cell? ⟨rb, i * 2, none⟩ = some (.int .i64 ((1 : Int) + (lo : Nat))) := (hrc (i * 2)).trans ((rowC_lo _ hlt).trans (by unfold updS; rw [if_pos rfl]))
              have hz1 : W4.cell? ⟨rb, i * 2 + 1, none⟩ = some (.int .i64 ((1 : Int) + (hh : Nat))) := (hrc (i * 2 + 1)).trans ((rowC_hi _ hlt).trans (by unfold updS; rw [if_pos rfl]))
              have hoc := HOB_W4.out.cell
              have hxc := HXB_W4.out.cell
              clear hrc
              clear hz0 hz1 hrf
              go_wp2_with fail
              go_roundw
              case rel => exact ⟨k + 1, by omega, by go_num, by
                rw [HL2.out, HH2.out, show ((1 : Int) + (lo2 : Nat), (1 : Int) + (hh2 : Nat)) = ((1 : Int) + (lo : Nat), (1 : Int) + (hh : Nat)) by have h1 := HE1.out; have h2 := HE2.out; subst h1 h2; first | rfl | (simp; done) | (simp; omega)]
                exact HBK_W4.out, HOB_W4.out, HBE_W4.out⟩
              case measure => simp [intOf]; omega
        · obtain rfl : k = l.length := by omega
          have hdk : decide ((l.length : Int) < (l.length : Int)) = false := decide_eq_false (by omega)
          have HEN : Hid (rowC (updS (finF l i) i ((1 : Int) + (lowTo l own l.length : Nat), (1 : Int) + (highTo l i own l.length : Nat))) l.length = rowC (finF l (i + 1)) l.length) := Lib.hid (rowC_congr fun j hj => by
            unfold updS finF
            by_cases e : j = i
            · subst e
              rw [if_pos rfl, if_pos (by omega)]
              unfold rankF
              rw [HOWN.out]
              rfl
            · rw [if_neg e]
              by_cases h2 : j < i
              · rw [if_pos h2, if_pos (by omega)]
              · rw [if_neg h2, if_neg (by omega)])
          have HBF : Hid (BlockIs wi rb 33 (rowC (finF l (i + 1)) l.length)) := Lib.hid (by rw [← HEN.out]; exact HBKi.out)
          go_wp2_with fail
          go_roundw
          case rel => exact ⟨i + 1, by omega, by go_num, HBF.out, HBEi.out⟩
          case measure => simp [intOf]; omega
    · obtain rfl : i = l.length := by omega
      have hd : decide ((l.length : Int) < (l.length : Int)) = false := decide_eq_false (by omega)
      go_wp2_with fail
      go_ret
      exact ⟨rb, rfl, by rw [← rowC_congr fun j hj => HFA.out j hj]; exact HBK.out, HBE.out⟩

end Go.Proofs.YthehkgpnnndboaaDoor
