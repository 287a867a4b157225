/- Widest: exams.widest: the greatest width that one more mark leaves. -/
import Derived.Test.YthehkgpnnndboaaDoorBlame
namespace Go.Proofs.YthehkgpnnndboaaDoor
open Go.RowKit

abbrev cellsS (s : Int × Int) : Array Value := #[.int .i64 s.1, .int .i64 s.2]
def segD (l : List (Int × Int)) (err mark : Nat) : List (Int × Int) := (l.take (min l.length (mark + err + 1))).drop (mark - err)
def leftK (l : List (Int × Int)) (err mark k : Nat) : Int × Int := ((segD l err mark).take k).foldl joinS noneS
theorem segD_len (l : List (Int × Int)) (err mark : Nat) : (segD l err mark).length = min l.length (mark + err + 1) - (mark - err) := by unfold segD; rw [List.length_drop, List.length_take]; omega
theorem segD_at {l : List (Int × Int)} {err mark k : Nat} (hk : k < (segD l err mark).length) : (segD l err mark)[k]? = l[mark - err + k]? := by
  rw [segD_len] at hk
  unfold segD
  rw [List.getElem?_drop, List.getElem?_take_of_lt (by omega)]
theorem leftK_succ {l : List (Int × Int)} {err mark k : Nat} {x : Int × Int} (hx : (segD l err mark)[k]? = some x) : leftK l err mark (k + 1) = joinS (leftK l err mark k) x := by
  unfold leftK
  rw [List.take_add_one, hx, List.foldl_append]
  rfl
theorem leftK_all (l : List (Int × Int)) (err mark : Nat) : leftK l err mark (segD l err mark).length = leftD l err mark := by unfold leftK; rw [List.take_length]; rfl
/-- spans of results -/
def inR (x : Int × Int) : Prop := (-1 ≤ x.1 ∧ x.1 ≤ 1201) ∧ (-1 ≤ x.2 ∧ x.2 ≤ 1201)
theorem inR_join {x y : Int × Int} (hx : inR x) (hy : inR y) : inR (joinS x y) := by
  unfold inR joinS at *
  omega
theorem inR_fold : ∀ (l : List (Int × Int)) (s : Int × Int), inR s → (∀ x ∈ l, inR x) → inR (l.foldl joinS s)
  | [], _, hs, _ => hs
  | x :: l, _, hs, h => inR_fold l _ (inR_join hs (h x List.mem_cons_self)) fun y hy => h y (List.mem_cons_of_mem _ hy)
theorem inR_left {l : List (Int × Int)} (h : ∀ x ∈ l, inR x) (err mark : Nat) : inR (leftD l err mark) :=
  inR_fold _ _ ⟨⟨by decide, by decide⟩, by decide, by decide⟩ fun x hx => h x (List.mem_of_mem_take (List.mem_of_mem_drop hx))
theorem widest_in {l : List (Int × Int)} (h : ∀ x ∈ l, inR x) (err : Nat) : ∀ k, 0 ≤ widestTo l err k ∧ widestTo l err k ≤ 1202
  | 0 => ⟨Int.le_refl _, by show (0 : Int) ≤ 1202; omega⟩
  | k + 1 => by
    have ih := widest_in h err k
    have h1 := inR_left h err k
    unfold inR at h1
    rw [widestTo]
    omega

set_option maxRecDepth 100000 in
set_option maxHeartbeats 16000000 in
theorem widest_any (l : List (Int × Int)) (A : Option Addr) (cap err : Nat) (w : World) (hA : Flats cellsS 2 w w.heap.size A l) (hl : l.length ≤ 31) (hc : l.length ≤ cap) (he : err ≤ 5) (hb : ∀ x ∈ l, inR x) (hG : Glob w) :
    Calls Tryd.prog 79 #[.slice A l.length cap, .int .i64 (err : Nat)] w fun e w' => e = .returned (.int .i64 (widestD l err)) ∧ Below w.heap.size w w' := by
  have HPA := Lib.hid (fun (w0 : World) (hw : Grow w w0) => hA.below hw)
  have HGL := Lib.hid (fun (w0 : World) (hw : Grow w w0) => hG.grow hw)
  have HLB := Lib.hid (fun k => inR_left hb err k)
  have HWB := Lib.hid (widest_in hb err)
  have HL0 : Hid (∀ m, leftK l err m 0 = noneS) := Lib.hid fun _ => rfl
  have HLS := Lib.hid (fun (m k : Nat) (x : Int × Int) hk (hx : l[m - err + k]? = some x) => leftK_succ (l := l) (err := err) (mark := m) (k := k) (x := x) ((segD_at hk).trans hx))
  have HLA := Lib.hid (fun m => leftK_all l err m)
  have HSL := Lib.hid (fun m => segD_len l err m)
  have HWS : Hid (∀ k, widestTo l err (k + 1) = max (widestTo l err k) ((leftD l err k).2 - (leftD l err k).1)) := Lib.hid fun _ => rfl
  have HWD : Hid (widestD l err = widestTo l err l.length) := rfl
  rw [HWD.out]
  have HW0 : Hid (widestTo l err 0 = 0) := rfl
  obtain ⟨lk, hlk⟩ : ∃ z, leftK l err = z := ⟨_, rfl⟩
  obtain ⟨ld, hld⟩ : ∃ z, leftD l err = z := ⟨_, rfl⟩
  obtain ⟨sl, hsl⟩ : ∃ z : Nat → Nat, (fun m => (segD l err m).length) = z := ⟨_, rfl⟩
  have hslm : ∀ m, (segD l err m).length = sl m := fun m => by rw [← hsl]
  obtain ⟨wt, hwt⟩ : ∃ z, widestTo l err = z := ⟨_, rfl⟩
  simp only [hslm] at HLS HLA HSL
  rw [hlk] at HL0 HLS HLA
  rw [hld] at HLA HWS HLB
  rw [hwt] at HWS HW0 HWB ⊢
  clear hlk hld hsl hslm hwt hA hG hb HWD
  go_enter Tryd.func79, Tryd.ntmps79
  go_wp2
  go_loopw [5, 12] (fun wv iv wr => ∃ m : Nat, m ≤ l.length ∧ iv = .int .i64 (m : Nat) ∧ wv = .int .i64 (wt m) ∧ Grow w wr) (fun _ iv _ => l.length - (intOf iv).toNat)
  case atStart => exact ⟨0, Nat.zero_le _, rfl, by rw [HW0.out], Grow.refl _⟩
  case round =>
    obtain ⟨m, hm, rfl, rfl, hgr⟩ := hrel
    have HGR := Lib.hid hgr
    clear hgr
    by_cases hlt : m < l.length
    · have hd : decide ((m : Int) < (l.length : Int)) = true := decide_eq_true (by omega)
      have hgl0 := (HGL.out wr HGR.out).lo
      have hgl1 := (HGL.out wr HGR.out).hi
      have hgl2 := (HGL.out wr HGR.out).lt
      obtain ⟨b, off, x0, rfl, hbb, hcc, HX0⟩ := (HPA.out wr HGR.out).at_ hlt
      clear hcc HX0 x0
      have hw1 : IntKind.i64.wrap ((m : Int) - (err : Int)) = (m : Int) - (err : Int) := IntWalk.i64_in _ (by omega)
      have hw2 : IntKind.i64.wrap ((m : Int) + (err : Int)) = (m : Int) + (err : Int) := IntWalk.i64_in _ (by omega)
      have hw3 : IntKind.i64.wrap ((m : Int) + (err : Int) + 1) = (m : Int) + (err : Int) + 1 := IntWalk.i64_in _ (by omega)
      have hsl := HSL.out m
      have HLS2 := Lib.hid (fun k x => HLS.out m k x)
      by_cases hmx : err < m
      · by_cases hmn : m + err + 1 < l.length
        · have h1 : (0 : Int) < (m : Int) - (err : Int) := by omega
          have h2 : ¬ ((m : Int) - (err : Int) < 0) := by omega
          have h3 : (m : Int) + (err : Int) + 1 < (l.length : Int) := by omega
          have h4 : ¬ ((l.length : Int) < (m : Int) + (err : Int) + 1) := by omega
          go_wp2_with fail
          have hq := hsl
          have hN : m + err + 1 - (m - err) = sl m := by omega
          obtain ⟨nn, hnn⟩ : ∃ z, sl m = z := ⟨_, rfl⟩
          rw [hnn] at hN HLS2
          rw [hN]
          have HBL0 := Lib.hid (BlockIs.new wr 33 (cellsS noneS))
          have HG0 : Hid (Grow w (wr.alloc (.cells (cellsS noneS) 33))) := Lib.hid (HGR.out.trans (Grow.alloc _ _))
          have hbl1 : wr.heap.size < (wr.alloc (.cells (cellsS noneS) 33)).heap.size := by simp
          obtain ⟨W0, hW0⟩ : ∃ z, wr.alloc (.cells (cellsS noneS) 33) = z := ⟨_, rfl⟩
          rw [show wr.alloc (.cells #[.int .i64 1201, .int .i64 (-1)] 33) = W0 from hW0]
          rw [hW0] at HBL0 HG0 hbl1
          have hnl : nn ≤ 31 := by omega
          have HLA2 : Hid (lk m nn = ld m) := Lib.hid (by have := HLA.out m; rwa [hnn] at this)
          have hlo : m - err + nn ≤ l.length := by omega
          obtain ⟨lb, hlb⟩ : ∃ z, wr.heap.size = z := ⟨_, rfl⟩
          have hlbw : w.heap.size ≤ lb := by have := HGR.out.size; omega
          rw [hlb] at HBL0 hbl1 ⊢
          clear hgl0 hgl1 hgl2 hw1 hw2 hw3 hsl hq hnn hW0 hlb hN h1 h2 h3 h4
          go_loopw [30] (fun iv wi => ∃ k : Nat, k ≤ nn ∧ iv = .int .i64 (k : Nat) ∧ BlockIs wi lb 33 (cellsS (lk m k)) ∧ Below w.heap.size w wi) (fun iv _ => nn - (intOf iv).toNat)
          case atStart => exact ⟨0, Nat.zero_le _, rfl, by rw [HL0.out]; exact HBL0.out, HG0.out⟩
          case round =>
            obtain ⟨k, hk, rfl, hblk, hbel⟩ := hrel
            rename World => wi
            have HBK := Lib.hid hblk
            have HBE := Lib.hid hbel
            have hlc := hblk.cell
            have hlf := hblk.frozen
            have hlt2 := hblk.lt
            clear hblk hbel
            by_cases hkn : k < nn
            · have hdk : decide ((k : Int) < (nn : Int)) = true := decide_eq_true (by omega)
              obtain ⟨b', off', x, hA', _, hcx, HX⟩ := (HPA.out wi HBE.out).at_ (i := m - err + k) (by omega)
              injection hA' with hA'
              injection hA' with hA1 hA2
              subst hA1 hA2
              have HNX := Lib.hid (HLS2.out k x hkn HX.out)
              have e0 := hcx 0 (by omega)
              have e1 := hcx 1 (by omega)
              rw [show off + (m - err + k) * 2 + 0 = off + (m - err) * 2 + k * 2 by omega] at e0
              rw [show off + (m - err + k) * 2 + 1 = off + (m - err) * 2 + k * 2 + 1 by omega] at e1
              have HJ := Lib.hid (fun w0 => join_any (lk m k) x w0)
              have hk0 : (0 : Int) ≤ (k : Int) := by omega
              have hk1 : (k : Int) < (nn : Int) := by omega
              obtain ⟨s, hs⟩ : ∃ z, lk m k = z := ⟨_, rfl⟩
              have HSK := Lib.hid hs
              rw [hs] at HJ HNX hlc
              obtain ⟨s1, s2⟩ := s
              obtain ⟨x1, x2⟩ := x
              obtain ⟨y, hy⟩ : ∃ z, joinS (s1, s2) (x1, x2) = z := ⟨_, rfl⟩
              rw [hy] at HJ HNX
              obtain ⟨y1, y2⟩ := y
              clear hcx hy hs
              go_upto_region 9 with fail
              obtain ⟨W5, hW5, hg5, hx5, _⟩ := one_block wi 33 #[.int .i64 x1, .int .i64 x2]
              rw [hW5]
              clear hW5
              have HB5 : Hid (Below w.heap.size w W5) := Lib.hid (HBE.out.trans (Below.mono hg5 HBE.out.size))
              have HL5 := Lib.hid (hg5.block HBK.out)
              rw [show lk m k = (s1, s2) from HSK.out] at HL5
              have hlc := HL5.out.cell
              have hxc := hx5.cell
              clear hg5 hx5
              go_wp2_with fail
              refine (HJ.out W5).mono ?_
              rintro e w6 ⟨rfl, hb6⟩
              have HL6 := Lib.hid ((show Grow W5 w6 from hb6).block HL5.out)
              have HB6 : Hid (Below w.heap.size w w6) := Lib.hid (HB5.out.trans (Below.mono hb6 HB5.out.size))
              have hlc := HL6.out.cell
              have hlf := HL6.out.frozen
              clear hb6
              go_wp2_with fail
              go_roundw
              case rel => exact ⟨k + 1, by omega, by go_num, by rw [HNX.out]; exact (HL6.out.near 0 _).near 1 _, ((HB6.out.setCell (p := ⟨lb, 0, none⟩) hlbw _).setCell (p := ⟨lb, 1, none⟩) hlbw _)⟩
              case measure => simp [intOf]; omega
            · obtain rfl : k = nn := by omega
              have hdk : decide ((k : Int) < (k : Int)) = false := decide_eq_false (by omega)
              rw [HLA2.out] at hlc
              have hdb := HLB.out m
              have hwb := HWB.out m
              have HN := Lib.hid (HWS.out m)
              obtain ⟨d, hd'⟩ : ∃ z, ld m = z := ⟨_, rfl⟩
              rw [hd'] at hdb HN hlc
              obtain ⟨d1, d2⟩ := d
              obtain ⟨v, hv⟩ : ∃ z, wt m = z := ⟨_, rfl⟩
              rw [hv] at HN hwb ⊢
              obtain ⟨⟨q1, q2⟩, q3, q4⟩ := hdb
              dsimp only at q1 q2 q3 q4
              have hwd : IntKind.i64.wrap (d2 - d1) = d2 - d1 := IntWalk.i64_in _ (by omega)
              clear hd' hv
              by_cases hvd : v < d2 - d1
              · have hvd2 : ¬ d2 - d1 < v := by omega
                have HN2 : Hid (wt (m + 1) = d2 - d1) := Lib.hid (by rw [HN.out]; show max v (d2 - d1) = d2 - d1; omega)
                go_wp2_with fail
                go_roundw
                case rel => exact ⟨m + 1, by omega, by go_num, by rw [HN2.out], HBE.out⟩
                case measure => simp [intOf]; omega
              · have HN2 : Hid (wt (m + 1) = v) := Lib.hid (by rw [HN.out]; show max v (d2 - d1) = v; omega)
                go_wp2_with fail
                all_goals
                  go_roundw
                  case rel => exact ⟨m + 1, by omega, by go_num, by rw [HN2.out]; try (first | rfl | (congr 1; omega)), HBE.out⟩
                  case measure => simp [intOf]; omega

        · have h1 : (0 : Int) < (m : Int) - (err : Int) := by omega
          have h2 : ¬ ((m : Int) - (err : Int) < 0) := by omega
          have h3 : ¬ ((m : Int) + (err : Int) + 1 < (l.length : Int)) := by omega
          go_wp2_with fail
          have hq := hsl
          have hN : l.length - (m - err) = sl m := by omega
          obtain ⟨nn, hnn⟩ : ∃ z, sl m = z := ⟨_, rfl⟩
          rw [hnn] at hN HLS2
          rw [hN]
          have HBL0 := Lib.hid (BlockIs.new wr 33 (cellsS noneS))
          have HG0 : Hid (Grow w (wr.alloc (.cells (cellsS noneS) 33))) := Lib.hid (HGR.out.trans (Grow.alloc _ _))
          have hbl1 : wr.heap.size < (wr.alloc (.cells (cellsS noneS) 33)).heap.size := by simp
          obtain ⟨W0, hW0⟩ : ∃ z, wr.alloc (.cells (cellsS noneS) 33) = z := ⟨_, rfl⟩
          rw [show wr.alloc (.cells #[.int .i64 1201, .int .i64 (-1)] 33) = W0 from hW0]
          rw [hW0] at HBL0 HG0 hbl1
          have hnl : nn ≤ 31 := by omega
          have HLA2 : Hid (lk m nn = ld m) := Lib.hid (by have := HLA.out m; rwa [hnn] at this)
          have hlo : m - err + nn ≤ l.length := by omega
          obtain ⟨lb, hlb⟩ : ∃ z, wr.heap.size = z := ⟨_, rfl⟩
          have hlbw : w.heap.size ≤ lb := by have := HGR.out.size; omega
          rw [hlb] at HBL0 hbl1 ⊢
          clear hgl0 hgl1 hgl2 hw1 hw2 hw3 hsl hq hnn hW0 hlb hN h1 h2 h3
          go_loopw [30] (fun iv wi => ∃ k : Nat, k ≤ nn ∧ iv = .int .i64 (k : Nat) ∧ BlockIs wi lb 33 (cellsS (lk m k)) ∧ Below w.heap.size w wi) (fun iv _ => nn - (intOf iv).toNat)
          case atStart => exact ⟨0, Nat.zero_le _, rfl, by rw [HL0.out]; exact HBL0.out, HG0.out⟩
          case round =>
            obtain ⟨k, hk, rfl, hblk, hbel⟩ := hrel
            rename World => wi
            have HBK := Lib.hid hblk
            have HBE := Lib.hid hbel
            have hlc := hblk.cell
            have hlf := hblk.frozen
            have hlt2 := hblk.lt
            clear hblk hbel
            by_cases hkn : k < nn
            · have hdk : decide ((k : Int) < (nn : Int)) = true := decide_eq_true (by omega)
              obtain ⟨b', off', x, hA', _, hcx, HX⟩ := (HPA.out wi HBE.out).at_ (i := m - err + k) (by omega)
              injection hA' with hA'
              injection hA' with hA1 hA2
              subst hA1 hA2
              have HNX := Lib.hid (HLS2.out k x hkn HX.out)
              have e0 := hcx 0 (by omega)
              have e1 := hcx 1 (by omega)
              rw [show off + (m - err + k) * 2 + 0 = off + (m - err) * 2 + k * 2 by omega] at e0
              rw [show off + (m - err + k) * 2 + 1 = off + (m - err) * 2 + k * 2 + 1 by omega] at e1
              have HJ := Lib.hid (fun w0 => join_any (lk m k) x w0)
              have hk0 : (0 : Int) ≤ (k : Int) := by omega
              have hk1 : (k : Int) < (nn : Int) := by omega
              obtain ⟨s, hs⟩ : ∃ z, lk m k = z := ⟨_, rfl⟩
              have HSK := Lib.hid hs
              rw [hs] at HJ HNX hlc
              obtain ⟨s1, s2⟩ := s
              obtain ⟨x1, x2⟩ := x
              obtain ⟨y, hy⟩ : ∃ z, joinS (s1, s2) (x1, x2) = z := ⟨_, rfl⟩
              rw [hy] at HJ HNX
              obtain ⟨y1, y2⟩ := y
              clear hcx hy hs
              go_upto_region 9 with fail
              obtain ⟨W5, hW5, hg5, hx5, _⟩ := one_block wi 33 #[.int .i64 x1, .int .i64 x2]
              rw [hW5]
              clear hW5
              have HB5 : Hid (Below w.heap.size w W5) := Lib.hid (HBE.out.trans (Below.mono hg5 HBE.out.size))
              have HL5 := Lib.hid (hg5.block HBK.out)
              rw [show lk m k = (s1, s2) from HSK.out] at HL5
              have hlc := HL5.out.cell
              have hxc := hx5.cell
              clear hg5 hx5
              go_wp2_with fail
              refine (HJ.out W5).mono ?_
              rintro e w6 ⟨rfl, hb6⟩
              have HL6 := Lib.hid ((show Grow W5 w6 from hb6).block HL5.out)
              have HB6 : Hid (Below w.heap.size w w6) := Lib.hid (HB5.out.trans (Below.mono hb6 HB5.out.size))
              have hlc := HL6.out.cell
              have hlf := HL6.out.frozen
              clear hb6
              go_wp2_with fail
              go_roundw
              case rel => exact ⟨k + 1, by omega, by go_num, by rw [HNX.out]; exact (HL6.out.near 0 _).near 1 _, ((HB6.out.setCell (p := ⟨lb, 0, none⟩) hlbw _).setCell (p := ⟨lb, 1, none⟩) hlbw _)⟩
              case measure => simp [intOf]; omega
            · obtain rfl : k = nn := by omega
              have hdk : decide ((k : Int) < (k : Int)) = false := decide_eq_false (by omega)
              rw [HLA2.out] at hlc
              have hdb := HLB.out m
              have hwb := HWB.out m
              have HN := Lib.hid (HWS.out m)
              obtain ⟨d, hd'⟩ : ∃ z, ld m = z := ⟨_, rfl⟩
              rw [hd'] at hdb HN hlc
              obtain ⟨d1, d2⟩ := d
              obtain ⟨v, hv⟩ : ∃ z, wt m = z := ⟨_, rfl⟩
              rw [hv] at HN hwb ⊢
              obtain ⟨⟨q1, q2⟩, q3, q4⟩ := hdb
              dsimp only at q1 q2 q3 q4
              have hwd : IntKind.i64.wrap (d2 - d1) = d2 - d1 := IntWalk.i64_in _ (by omega)
              clear hd' hv
              by_cases hvd : v < d2 - d1
              · have hvd2 : ¬ d2 - d1 < v := by omega
                have HN2 : Hid (wt (m + 1) = d2 - d1) := Lib.hid (by rw [HN.out]; show max v (d2 - d1) = d2 - d1; omega)
                go_wp2_with fail
                go_roundw
                case rel => exact ⟨m + 1, by omega, by go_num, by rw [HN2.out], HBE.out⟩
                case measure => simp [intOf]; omega
              · have HN2 : Hid (wt (m + 1) = v) := Lib.hid (by rw [HN.out]; show max v (d2 - d1) = v; omega)
                go_wp2_with fail
                all_goals
                  go_roundw
                  case rel => exact ⟨m + 1, by omega, by go_num, by rw [HN2.out]; try (first | rfl | (congr 1; omega)), HBE.out⟩
                  case measure => simp [intOf]; omega

      · by_cases hmn : m + err + 1 < l.length
        · have h2 : (m : Int) - (err : Int) < 0 ∨ (m : Int) - (err : Int) = 0 := by omega
          have h1 : ¬ (0 : Int) < (m : Int) - (err : Int) := by omega
          have h3 : (m : Int) + (err : Int) + 1 < (l.length : Int) := by omega
          have h4 : ¬ ((l.length : Int) < (m : Int) + (err : Int) + 1) := by omega
          go_wp2_with fail
          have hq := hsl
          have hN : m + err + 1 = sl m := by omega
          obtain ⟨nn, hnn⟩ : ∃ z, sl m = z := ⟨_, rfl⟩
          rw [hnn] at hN HLS2
          rw [hN, show (m : Int) + (err : Int) + 1 = (nn : Int) by omega]
          have HBL0 := Lib.hid (BlockIs.new wr 33 (cellsS noneS))
          have HG0 : Hid (Grow w (wr.alloc (.cells (cellsS noneS) 33))) := Lib.hid (HGR.out.trans (Grow.alloc _ _))
          have hbl1 : wr.heap.size < (wr.alloc (.cells (cellsS noneS) 33)).heap.size := by simp
          obtain ⟨W0, hW0⟩ : ∃ z, wr.alloc (.cells (cellsS noneS) 33) = z := ⟨_, rfl⟩
          rw [show wr.alloc (.cells #[.int .i64 1201, .int .i64 (-1)] 33) = W0 from hW0]
          rw [hW0] at HBL0 HG0 hbl1
          have hnl : nn ≤ 31 := by omega
          have HLA2 : Hid (lk m nn = ld m) := Lib.hid (by have := HLA.out m; rwa [hnn] at this)
          have hlo : m - err + nn ≤ l.length := by omega
          obtain ⟨lb, hlb⟩ : ∃ z, wr.heap.size = z := ⟨_, rfl⟩
          have hlbw : w.heap.size ≤ lb := by have := HGR.out.size; omega
          rw [hlb] at HBL0 hbl1 ⊢
          clear hgl0 hgl1 hgl2 hw1 hw2 hw3 hsl hq hnn hW0 hlb hN h1 h2 h3 h4
          go_loopw [30] (fun iv wi => ∃ k : Nat, k ≤ nn ∧ iv = .int .i64 (k : Nat) ∧ BlockIs wi lb 33 (cellsS (lk m k)) ∧ Below w.heap.size w wi) (fun iv _ => nn - (intOf iv).toNat)
          case atStart => exact ⟨0, Nat.zero_le _, rfl, by rw [HL0.out]; exact HBL0.out, HG0.out⟩
          case round =>
            obtain ⟨k, hk, rfl, hblk, hbel⟩ := hrel
            rename World => wi
            have HBK := Lib.hid hblk
            have HBE := Lib.hid hbel
            have hlc := hblk.cell
            have hlf := hblk.frozen
            have hlt2 := hblk.lt
            clear hblk hbel
            by_cases hkn : k < nn
            · have hdk : decide ((k : Int) < (nn : Int)) = true := decide_eq_true (by omega)
              obtain ⟨b', off', x, hA', _, hcx, HX⟩ := (HPA.out wi HBE.out).at_ (i := m - err + k) (by omega)
              injection hA' with hA'
              injection hA' with hA1 hA2
              subst hA1 hA2
              have HNX := Lib.hid (HLS2.out k x hkn HX.out)
              have e0 := hcx 0 (by omega)
              have e1 := hcx 1 (by omega)
              rw [show off + (m - err + k) * 2 + 0 = off + k * 2 by omega] at e0
              rw [show off + (m - err + k) * 2 + 1 = off + k * 2 + 1 by omega] at e1
              have HJ := Lib.hid (fun w0 => join_any (lk m k) x w0)
              have hk0 : (0 : Int) ≤ (k : Int) := by omega
              have hk1 : (k : Int) < (nn : Int) := by omega
              obtain ⟨s, hs⟩ : ∃ z, lk m k = z := ⟨_, rfl⟩
              have HSK := Lib.hid hs
              rw [hs] at HJ HNX hlc
              obtain ⟨s1, s2⟩ := s
              obtain ⟨x1, x2⟩ := x
              obtain ⟨y, hy⟩ : ∃ z, joinS (s1, s2) (x1, x2) = z := ⟨_, rfl⟩
              rw [hy] at HJ HNX
              obtain ⟨y1, y2⟩ := y
              clear hcx hy hs
              go_upto_region 9 with fail
              obtain ⟨W5, hW5, hg5, hx5, _⟩ := one_block wi 33 #[.int .i64 x1, .int .i64 x2]
              rw [hW5]
              clear hW5
              have HB5 : Hid (Below w.heap.size w W5) := Lib.hid (HBE.out.trans (Below.mono hg5 HBE.out.size))
              have HL5 := Lib.hid (hg5.block HBK.out)
              rw [show lk m k = (s1, s2) from HSK.out] at HL5
              have hlc := HL5.out.cell
              have hxc := hx5.cell
              clear hg5 hx5
              go_wp2_with fail
              refine (HJ.out W5).mono ?_
              rintro e w6 ⟨rfl, hb6⟩
              have HL6 := Lib.hid ((show Grow W5 w6 from hb6).block HL5.out)
              have HB6 : Hid (Below w.heap.size w w6) := Lib.hid (HB5.out.trans (Below.mono hb6 HB5.out.size))
              have hlc := HL6.out.cell
              have hlf := HL6.out.frozen
              clear hb6
              go_wp2_with fail
              go_roundw
              case rel => exact ⟨k + 1, by omega, by go_num, by rw [HNX.out]; exact (HL6.out.near 0 _).near 1 _, ((HB6.out.setCell (p := ⟨lb, 0, none⟩) hlbw _).setCell (p := ⟨lb, 1, none⟩) hlbw _)⟩
              case measure => simp [intOf]; omega
            · obtain rfl : k = nn := by omega
              have hdk : decide ((k : Int) < (k : Int)) = false := decide_eq_false (by omega)
              rw [HLA2.out] at hlc
              have hdb := HLB.out m
              have hwb := HWB.out m
              have HN := Lib.hid (HWS.out m)
              obtain ⟨d, hd'⟩ : ∃ z, ld m = z := ⟨_, rfl⟩
              rw [hd'] at hdb HN hlc
              obtain ⟨d1, d2⟩ := d
              obtain ⟨v, hv⟩ : ∃ z, wt m = z := ⟨_, rfl⟩
              rw [hv] at HN hwb ⊢
              obtain ⟨⟨q1, q2⟩, q3, q4⟩ := hdb
              dsimp only at q1 q2 q3 q4
              have hwd : IntKind.i64.wrap (d2 - d1) = d2 - d1 := IntWalk.i64_in _ (by omega)
              clear hd' hv
              by_cases hvd : v < d2 - d1
              · have hvd2 : ¬ d2 - d1 < v := by omega
                have HN2 : Hid (wt (m + 1) = d2 - d1) := Lib.hid (by rw [HN.out]; show max v (d2 - d1) = d2 - d1; omega)
                go_wp2_with fail
                go_roundw
                case rel => exact ⟨m + 1, by omega, by go_num, by rw [HN2.out], HBE.out⟩
                case measure => simp [intOf]; omega
              · have HN2 : Hid (wt (m + 1) = v) := Lib.hid (by rw [HN.out]; show max v (d2 - d1) = v; omega)
                go_wp2_with fail
                all_goals
                  go_roundw
                  case rel => exact ⟨m + 1, by omega, by go_num, by rw [HN2.out]; try (first | rfl | (congr 1; omega)), HBE.out⟩
                  case measure => simp [intOf]; omega

        · have h2 : (m : Int) - (err : Int) < 0 ∨ (m : Int) - (err : Int) = 0 := by omega
          have h1 : ¬ (0 : Int) < (m : Int) - (err : Int) := by omega
          have h3 : ¬ ((m : Int) + (err : Int) + 1 < (l.length : Int)) := by omega
          go_wp2_with fail
          have hq := hsl
          have hN : l.length = sl m := by omega
          have hnn : sl m = l.length := by omega
          rw [hnn] at HLS2
          have HBL0 := Lib.hid (BlockIs.new wr 33 (cellsS noneS))
          have HG0 : Hid (Grow w (wr.alloc (.cells (cellsS noneS) 33))) := Lib.hid (HGR.out.trans (Grow.alloc _ _))
          have hbl1 : wr.heap.size < (wr.alloc (.cells (cellsS noneS) 33)).heap.size := by simp
          obtain ⟨W0, hW0⟩ : ∃ z, wr.alloc (.cells (cellsS noneS) 33) = z := ⟨_, rfl⟩
          rw [show wr.alloc (.cells #[.int .i64 1201, .int .i64 (-1)] 33) = W0 from hW0]
          rw [hW0] at HBL0 HG0 hbl1
          have hnl : l.length ≤ 31 := by omega
          have HLA2 : Hid (lk m l.length = ld m) := Lib.hid (by have := HLA.out m; rwa [hnn] at this)
          have hlo : m - err + l.length ≤ l.length := by omega
          obtain ⟨lb, hlb⟩ : ∃ z, wr.heap.size = z := ⟨_, rfl⟩
          have hlbw : w.heap.size ≤ lb := by have := HGR.out.size; omega
          rw [hlb] at HBL0 hbl1 ⊢
          clear hgl0 hgl1 hgl2 hw1 hw2 hw3 hsl hq hnn hW0 hlb hN h1 h2 h3
          go_loopw [30] (fun iv wi => ∃ k : Nat, k ≤ l.length ∧ iv = .int .i64 (k : Nat) ∧ BlockIs wi lb 33 (cellsS (lk m k)) ∧ Below w.heap.size w wi) (fun iv _ => l.length - (intOf iv).toNat)
          case atStart => exact ⟨0, Nat.zero_le _, rfl, by rw [HL0.out]; exact HBL0.out, HG0.out⟩
          case round =>
            obtain ⟨k, hk, rfl, hblk, hbel⟩ := hrel
            rename World => wi
            have HBK := Lib.hid hblk
            have HBE := Lib.hid hbel
            have hlc := hblk.cell
            have hlf := hblk.frozen
            have hlt2 := hblk.lt
            clear hblk hbel
            by_cases hkn : k < l.length
            · have hdk : decide ((k : Int) < (l.length : Int)) = true := decide_eq_true (by omega)
              obtain ⟨b', off', x, hA', _, hcx, HX⟩ := (HPA.out wi HBE.out).at_ (i := m - err + k) (by omega)
              injection hA' with hA'
              injection hA' with hA1 hA2
              subst hA1 hA2
              have HNX := Lib.hid (HLS2.out k x hkn HX.out)
              have e0 := hcx 0 (by omega)
              have e1 := hcx 1 (by omega)
              rw [show off + (m - err + k) * 2 + 0 = off + k * 2 by omega] at e0
              rw [show off + (m - err + k) * 2 + 1 = off + k * 2 + 1 by omega] at e1
              have HJ := Lib.hid (fun w0 => join_any (lk m k) x w0)
              have hk0 : (0 : Int) ≤ (k : Int) := by omega
              have hk1 : (k : Int) < (l.length : Int) := by omega
              obtain ⟨s, hs⟩ : ∃ z, lk m k = z := ⟨_, rfl⟩
              have HSK := Lib.hid hs
              rw [hs] at HJ HNX hlc
              obtain ⟨s1, s2⟩ := s
              obtain ⟨x1, x2⟩ := x
              obtain ⟨y, hy⟩ : ∃ z, joinS (s1, s2) (x1, x2) = z := ⟨_, rfl⟩
              rw [hy] at HJ HNX
              obtain ⟨y1, y2⟩ := y
              clear hcx hy hs
              go_upto_region 9 with fail
              obtain ⟨W5, hW5, hg5, hx5, _⟩ := one_block wi 33 #[.int .i64 x1, .int .i64 x2]
              rw [hW5]
              clear hW5
              have HB5 : Hid (Below w.heap.size w W5) := Lib.hid (HBE.out.trans (Below.mono hg5 HBE.out.size))
              have HL5 := Lib.hid (hg5.block HBK.out)
              rw [show lk m k = (s1, s2) from HSK.out] at HL5
              have hlc := HL5.out.cell
              have hxc := hx5.cell
              clear hg5 hx5
              go_wp2_with fail
              refine (HJ.out W5).mono ?_
              rintro e w6 ⟨rfl, hb6⟩
              have HL6 := Lib.hid ((show Grow W5 w6 from hb6).block HL5.out)
              have HB6 : Hid (Below w.heap.size w w6) := Lib.hid (HB5.out.trans (Below.mono hb6 HB5.out.size))
              have hlc := HL6.out.cell
              have hlf := HL6.out.frozen
              clear hb6
              go_wp2_with fail
              go_roundw
              case rel => exact ⟨k + 1, by omega, by go_num, by rw [HNX.out]; exact (HL6.out.near 0 _).near 1 _, ((HB6.out.setCell (p := ⟨lb, 0, none⟩) hlbw _).setCell (p := ⟨lb, 1, none⟩) hlbw _)⟩
              case measure => simp [intOf]; omega
            · obtain rfl : k = l.length := by omega
              have hdk : decide ((l.length : Int) < (l.length : Int)) = false := decide_eq_false (by omega)
              rw [HLA2.out] at hlc
              have hdb := HLB.out m
              have hwb := HWB.out m
              have HN := Lib.hid (HWS.out m)
              obtain ⟨d, hd'⟩ : ∃ z, ld m = z := ⟨_, rfl⟩
              rw [hd'] at hdb HN hlc
              obtain ⟨d1, d2⟩ := d
              obtain ⟨v, hv⟩ : ∃ z, wt m = z := ⟨_, rfl⟩
              rw [hv] at HN hwb ⊢
              obtain ⟨⟨q1, q2⟩, q3, q4⟩ := hdb
              dsimp only at q1 q2 q3 q4
              have hwd : IntKind.i64.wrap (d2 - d1) = d2 - d1 := IntWalk.i64_in _ (by omega)
              clear hd' hv
              by_cases hvd : v < d2 - d1
              · have hvd2 : ¬ d2 - d1 < v := by omega
                have HN2 : Hid (wt (m + 1) = d2 - d1) := Lib.hid (by rw [HN.out]; show max v (d2 - d1) = d2 - d1; omega)
                go_wp2_with fail
                go_roundw
                case rel => exact ⟨m + 1, by omega, by go_num, by rw [HN2.out], HBE.out⟩
                case measure => simp [intOf]; omega
              · have HN2 : Hid (wt (m + 1) = v) := Lib.hid (by rw [HN.out]; show max v (d2 - d1) = v; omega)
                go_wp2_with fail
                all_goals
                  go_roundw
                  case rel => exact ⟨m + 1, by omega, by go_num, by rw [HN2.out]; try (first | rfl | (congr 1; omega)), HBE.out⟩
                  case measure => simp [intOf]; omega

    · obtain rfl : m = l.length := by omega
      have hd : decide ((l.length : Int) < (l.length : Int)) = false := decide_eq_false (by omega)
      go_wp2
      go_ret
      exact ⟨rfl, HGR.out⟩

end Go.Proofs.YthehkgpnnndboaaDoor
