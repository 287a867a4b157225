/- RanksApi: rows of papers in memory; exams.Ranks. -/
import Derived.Test.YthehkgpnnndboaaDoorRanks
import Derived.Test.YthehkgpnnndboaaDoorRange
namespace Go.Proofs.YthehkgpnnndboaaDoor
open Go.RowKit

/-- a row of papers -/
structure PapersAt (w : World) (B : Nat) (A : Option Addr) (l : List PaperR) : Prop where
  row : Flats cellsP 4 w B A l
  each : ∀ x ∈ l, PaperAt w B x
theorem PapersAt.below {w w' : World} {B : Nat} {A : Option Addr} {l : List PaperR} (h : PapersAt w B A l) (hb : Below B w w') : PapersAt w' B A l := ⟨h.row.below hb, fun x hx => (h.each x hx).below hb⟩
theorem PapersAt.more {w : World} {B B' : Nat} {A : Option Addr} {l : List PaperR} (h : PapersAt w B A l) (hb : B ≤ B') : PapersAt w B' A l := ⟨h.row.more hb, fun x hx => (h.each x hx).more hb⟩
theorem PapersAt.at_ {w : World} {B : Nat} {A : Option Addr} {l : List PaperR} (h : PapersAt w B A l) {k : Nat} (hk : k < l.length) :
    ∃ b off x, A = some ⟨b, off, none⟩ ∧ b < B ∧ w.cell? ⟨b, off + k * 4, none⟩ = some (.slice x.ia x.items.length x.ic) ∧ w.cell? ⟨b, off + k * 4 + 1, none⟩ = some (.slice x.ja x.judges.length x.jc) ∧ w.cell? ⟨b, off + k * 4 + 2, none⟩ = some (.int .i64 x.wrong) ∧ w.cell? ⟨b, off + k * 4 + 3, none⟩ = some (.slice x.ga x.grades.length x.gc) ∧ Hid (l[k]? = some x) := by
  obtain ⟨b, off, x, h1, h2, h3, h4⟩ := h.row.at_ hk
  exact ⟨b, off, x, h1, h2, h3 0 (by omega), h3 1 (by omega), h3 2 (by omega), h3 3 (by omega), h4⟩
/-- the first error of some papers -/
def errL : List PaperR → Int
  | [] => 0
  | p :: l => if numErr p 0 0 = 0 then errL l else numErr p 0 0
theorem errL_first : ∀ {l : List PaperR} {k : Nat} {x : PaperR}, (∀ j y, j < k → l[j]? = some y → numErr y 0 0 = 0) → l[k]? = some x → numErr x 0 0 ≠ 0 → errL l = numErr x 0 0
  | p :: l, 0, x, _, hx, hn => by
    obtain rfl := Option.some.inj hx
    unfold errL
    rw [if_neg hn]
  | p :: l, k + 1, x, h, hx, hn => by
    unfold errL
    rw [if_pos (h 0 p (by omega) rfl)]
    exact errL_first (fun j y hj hy => h (j + 1) y (by omega) hy) hx hn
theorem errL_none : ∀ {l : List PaperR}, (∀ j y, j < l.length → l[j]? = some y → numErr y 0 0 = 0) → errL l = 0
  | [], _ => rfl
  | p :: l, h => by
    unfold errL
    rw [if_pos (h 0 p (by simp) rfl)]
    exact errL_none fun j y hj hy => h (j + 1) y (by simp; omega) hy
/-- the ranges of some papers -/
def rngL (l : List PaperR) : List (Int × Int) := l.map rangeV
def rngF (l : List PaperR) (k j : Nat) : Int × Int := if j < k then (rngL l).getD j (0, 0) else (0, 0)
theorem rngF_set (l : List PaperR) {k : Nat} {x : PaperR} (hx : l[k]? = some x) (j : Nat) : rngF l (k + 1) j = updS (rngF l k) k (rangeV x) j := by
  unfold rngF updS
  by_cases h : j = k
  · subst h
    rw [if_pos (by omega), if_pos rfl]
    unfold rngL
    rw [List.getD_eq_getElem?_getD, List.getElem?_map, hx]
    rfl
  · rw [if_neg h]
    dsimp only
    by_cases h2 : j < k
    · rw [if_pos (by omega), if_pos h2]
    · rw [if_neg (by omega), if_neg h2]
theorem rngF_list (l : List PaperR) : (List.range l.length).map (rngF l l.length) = rngL l := by
  apply List.ext_getElem?
  intro i
  rw [List.getElem?_map]
  by_cases hi : i < l.length
  · rw [List.getElem?_range hi]
    show some (rngF l l.length i) = _
    unfold rngF rngL
    rw [if_pos hi, List.getD_eq_getElem?_getD, List.getElem?_map, List.getElem?_eq_getElem hi]
    rfl
  · rw [List.getElem?_eq_none (by simp; omega)]
    unfold rngL
    rw [List.getElem?_map, List.getElem?_eq_none (by omega)]
    rfl
/-- what Ranks hands back -/
def ranksErr (l : List PaperR) : Int := if 6 < l.length then 1 else errL l
def RanksOut (l : List PaperR) (B : Option Addr) (n : Nat) (w' : World) : Prop := if ranksErr l = 0 then n = l.length ∧ ∃ b, B = some ⟨b, 0, none⟩ ∧ BlockIs w' b 33 (rowC (rankF (rngL l)) n) else B = none ∧ n = 0

set_option maxRecDepth 100000 in
set_option maxHeartbeats 16000000 in
theorem ranksApi_any (l : List PaperR) (A : Option Addr) (cap : Nat) (w : World) (hA : PapersAt w w.heap.size A l) (hs : ∀ x ∈ l, Short x) (hG : Glob w) (hlm : l.length ≤ 1000000) :
    Calls Tryd.prog 37 #[.slice A l.length cap] w fun e w' => (∃ B n, e = .returned (.tuple #[.slice B n n, .int .i64 (ranksErr l)]) ∧ Hid (RanksOut l B n w')) ∧ Below w.heap.size w w' := by
  by_cases h6 : 6 < l.length
  · have hre : ranksErr l = 1 := by unfold ranksErr; rw [if_pos h6]
    have HRO : Hid (∀ w', RanksOut l none 0 w') := Lib.hid (fun w' => by unfold RanksOut; rw [hre, if_neg (by decide)]; exact ⟨rfl, rfl⟩)
    have hd : decide ((6 : Int) < (l.length : Int)) = true := decide_eq_true (by omega)
    rw [hre]
    clear hre hA hs hG
    go_enter Tryd.func37, Tryd.ntmps37
    go_wp2
    go_ret2
    exact ⟨⟨none, 0, rfl, HRO.out _⟩, Below.refl _ _⟩
  have hre : ranksErr l = errL l := by unfold ranksErr; rw [if_neg h6]
  have HRO : Hid (∀ B n w', RanksOut l B n w' ↔ if errL l = 0 then n = l.length ∧ ∃ b, B = some ⟨b, 0, none⟩ ∧ BlockIs w' b 33 (rowC (rankF (rngL l)) n) else B = none ∧ n = 0) := Lib.hid (fun B n w' => by unfold RanksOut; rw [hre])
  have hl6 : l.length ≤ 6 := by omega
  have hd0 : decide ((6 : Int) < (l.length : Int)) = false := decide_eq_false (by omega)
  have HPA := Lib.hid (fun (w0 : World) (hw : Below w.heap.size w w0) => hA.below hw)
  have HRG := Lib.hid (fun (x : PaperR) (hx : x ∈ l) (w0 : World) (hw : Below w.heap.size w w0) => rangeApi_any x w0 (((hA.each x hx).below hw).more hw.size) (hs x hx) (hG.grow hw))
  have HFS := Lib.hid (fun (k : Nat) (x : PaperR) hx => rngF_set l (k := k) (x := x) hx)
  have HFL := Lib.hid (rngF_list l)
  have HE1 := Lib.hid (fun (k : Nat) (x : PaperR) h hx hn => errL_first (l := l) (k := k) (x := x) h hx hn)
  have HE0 := Lib.hid (fun h => errL_none (l := l) h)
  have hmk : ∀ w0, (Instr.makeSlice 36 (.int .i64 (l.length : Int)) (.int .i64 (l.length : Int))).run Tryd.prog w0 = .ok (.slice (some ⟨w0.heap.size, 0, none⟩) l.length l.length) (w0.alloc (.cells (rowC (fun _ => (0, 0)) l.length) 33)) := fun w0 => make_spans l.length w0 (by omega)
  rw [hre]
  obtain ⟨er, her⟩ : ∃ z, errL l = z := ⟨_, rfl⟩
  rw [her] at HRO HE1 HE0 ⊢
  clear hre hA hs hG her
  go_enter Tryd.func37, Tryd.ntmps37
  go_upto_region 4 with fail
  obtain ⟨W, hW, hg, hb, hsz⟩ := one_block w 33 (rowC (fun _ => (0, 0)) l.length)
  rw [hW]
  clear hW hmk hd0
  obtain ⟨rb, hrb⟩ : ∃ z, w.heap.size = z := ⟨_, rfl⟩
  have HRBQ := Lib.hid hrb
  rw [hrb] at hb hsz
  have HB := Lib.hid hb
  have HG := Lib.hid hg
  rw [hrb]
  clear hb hg hrb
  go_wp2_with fail
  go_loopw [17] (fun iv wr => ∃ k : Nat, k ≤ l.length ∧ iv = .int .i64 (k : Nat) ∧ BlockIs wr rb 33 (rowC (rngF l k) l.length) ∧ Hid (∀ j y, j < k → l[j]? = some y → numErr y 0 0 = 0) ∧ Below w.heap.size w wr) (fun iv _ => l.length - (intOf iv).toNat)
  case atStart => exact ⟨0, Nat.zero_le _, rfl, by rw [show rowC (rngF l 0) l.length = rowC (fun _ => (0, 0)) l.length from rowC_congr fun j _ => by unfold rngF; rw [if_neg (by omega)]]; exact HB.out, fun j y hj _ => by omega, HG.out⟩
  case round =>
    obtain ⟨k, hk, rfl, hbk, HNE, hbe⟩ := hrel
    rename World => wr
    have HBK := Lib.hid hbk
    have HBE := Lib.hid hbe
    clear hbk hbe
    have hk0 : (0 : Int) ≤ (k : Int) := by omega
    by_cases hlt : k < l.length
    · have hd : decide ((k : Int) < (l.length : Int)) = true := decide_eq_true (by omega)
      have hk1 : (k : Int) < (l.length : Int) := by omega
      obtain ⟨b, off, x, rfl, hbb, c0, c1, c2, c3, HX⟩ := (HPA.out wr HBE.out).at_ hlt
      have HR := Lib.hid (HRG.out x (List.mem_of_getElem? HX.out))
      have HNX := Lib.hid (HE1.out k x HNE.out HX.out)
      have HFX := Lib.hid (HFS.out k x HX.out)
      have HNE2 : Hid (numErr x 0 0 = 0 → ∀ j y, j < k + 1 → l[j]? = some y → numErr y 0 0 = 0) := Lib.hid (fun h j y hj hy => by
        by_cases e : j = k
        · subst e
          rw [HX.out] at hy
          cases hy
          exact h
        · exact HNE.out j y (by omega) hy)
      go_upto_region 7 with fail
      obtain ⟨W2, hW2, hg2, hf2, hs2⟩ := one_block wr 26 (cellsP x)
      rw [hW2]
      clear hW2
      obtain ⟨xb, hxb⟩ : ∃ z, wr.heap.size = z := ⟨_, rfl⟩
      rw [hxb] at hf2 hs2 ⊢
      have hrx : rb < xb := by have := HBK.out.lt; omega
      have HBE2 : Hid (Below w.heap.size w W2) := Lib.hid (HBE.out.trans (Below.mono hg2 HBE.out.size))
      have HBK2 := Lib.hid (hg2.block HBK.out)
      have hxc := hf2.cell
      clear hg2 hf2 hxb c0 c1 c2 c3
      go_wp2_with fail
      refine (HR.out W2 HBE2.out).mono ?_
      rintro e w3 ⟨rfl, hb3⟩
      have HG3 : Hid (Grow W2 w3) := Lib.hid hb3
      have HBK3 := Lib.hid (HG3.out.block HBK2.out)
      have HBE3 : Hid (Below w.heap.size w w3) := Lib.hid (HBE2.out.trans (Below.mono hb3 HBE2.out.size))
      obtain ⟨⟨r1, r2⟩, hrr⟩ : ∃ z, rangeV x = z := ⟨_, rfl⟩
      rw [hrr] at HFX ⊢
      obtain ⟨ex, hex⟩ : ∃ z, numErr x 0 0 = z := ⟨_, rfl⟩
      rw [hex] at HNX HNE2 ⊢
      clear hb3 hxc hrr hex
      go_upto_region 8 with fail
      obtain ⟨W4, hW4, hg4, hf4, hs4⟩ := one_block w3 33 #[.int .i64 r1, .int .i64 r2]
      rw [show w3.alloc (.cells #[.int .i64 r1, .int .i64 r2] 33) = W4 from hW4]
      clear hW4
      obtain ⟨sb, hsb⟩ : ∃ z, w3.heap.size = z := ⟨_, rfl⟩
      rw [hsb] at hf4 hs4 ⊢
      have hrs : rb < sb := by have := HBK3.out.lt; omega
      have HBE4 : Hid (Below w.heap.size w W4) := Lib.hid (HBE3.out.trans (Below.mono hg4 HBE3.out.size))
      have HBK4 := Lib.hid (hg4.block HBK3.out)
      have HSB4 := Lib.hid hf4
      clear hg4 hf4 hsb
      by_cases hz : ex = 0
      · subst hz
        have hsc := HSB4.out.cell
        have hrf := HBK4.out.frozen
        have hz0 := (HBK4.out.cell (k * 2)).trans (rowC_lo (rngF l k) hlt)
        have hz1 := (HBK4.out.cell (k * 2 + 1)).trans (rowC_hi (rngF l k) hlt)
        have HNEW := Lib.hid (HNE2.out rfl)
        have HROW : Hid (BlockIs ((W4.setCell ⟨rb, k * 2, none⟩ (.int .i64 r1)).setCell ⟨rb, k * 2 + 1, none⟩ (.int .i64 r2)) rb 33 (rowC (rngF l (k + 1)) l.length)) := Lib.hid (by
          rw [rowC_congr fun j _ => HFX.out j, ← rowC_set _ _ hlt]
          exact (HBK4.out.near _ _).near _ _)
        have HBEF : Hid (Below w.heap.size w ((W4.setCell ⟨rb, k * 2, none⟩ (.int .i64 r1)).setCell ⟨rb, k * 2 + 1, none⟩ (.int .i64 r2))) := Lib.hid (by
          have hq := HRBQ.out
          exact (HBE4.out.setCell (p := ⟨rb, k * 2, none⟩) (by show w.heap.size ≤ rb; omega) _).setCell (p := ⟨rb, k * 2 + 1, none⟩) (by show w.heap.size ≤ rb; omega) _)
        go_wp2_with fail
        go_roundw
        case rel => exact ⟨k + 1, by omega, by go_num, HROW.out, HNEW.out, HBEF.out⟩
        case measure => simp [intOf]; omega
      · have hne : (ex != 0) = true := by rw [bne_iff_ne]; exact hz
        have HEQ := Lib.hid (HNX.out hz)
        have HRN : Hid (RanksOut l none 0 W4) := Lib.hid ((HRO.out _ _ _).2 (by rw [if_neg (by rw [HEQ.out]; exact hz)]; exact ⟨rfl, rfl⟩))
        go_wp2_with fail
        go_ret2
        exact ⟨⟨none, 0, by rw [HEQ.out]; rfl, HRN.out⟩, HBE4.out⟩
    · obtain rfl : k = l.length := by omega
      have hd : decide ((l.length : Int) < (l.length : Int)) = false := decide_eq_false (by omega)
      have HEZ := Lib.hid (HE0.out HNE.out)
      have HRK := Lib.hid (ranks_any (rngL l) (some ⟨rb, 0, none⟩) l.length wr (by
        have h := rowC_flats HBK.out HBK.out.lt
        rwa [HFL.out] at h) (by unfold rngL; rw [List.length_map]; exact hl6))
      rw [show (rngL l).length = l.length from List.length_map _] at HRK
      go_wp2_with fail
      refine HRK.out.mono ?_
      rintro e w5 ⟨b, rfl, hb, hb5⟩
      have HBF := Lib.hid hb
      have HBE5 : Hid (Below w.heap.size w w5) := Lib.hid (HBE.out.trans (Below.mono hb5 HBE.out.size))
      clear hb hb5
      go_wp2_with fail
      go_ret2
      exact ⟨⟨some ⟨b, 0, none⟩, l.length, by rw [HEZ.out]; rfl, Lib.hid ((HRO.out _ _ _).2 (by rw [if_pos HEZ.out]; exact ⟨rfl, b, rfl, HBF.out⟩))⟩, HBE5.out⟩

end Go.Proofs.YthehkgpnnndboaaDoor
