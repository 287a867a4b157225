/- Longest: turns.task.longest, readMost. -/
import Derived.Test.YthlihchndmbkaaaLongM
namespace Go.Proofs.Ythlihchndmbkaaa
open Go.RowKit

theorem six_storesS {w : World} {b : Nat} {t : TypeId} {s : StD} (h : BlockIs w b t (cellsS s)) (r : StD) :
    BlockIs ((((((w.setCell ⟨b, 0, none⟩ (.int .i64 r.w0)).setCell ⟨b, 1, none⟩ (.int .i64 r.w1)).setCell ⟨b, 2, none⟩ (.int .i64 r.w2)).setCell ⟨b, 3, none⟩ (.int .i64 r.parts)).setCell ⟨b, 4, none⟩ (.int .i64 r.mis)).setCell ⟨b, 5, none⟩ (.int .i64 r.last)) b t (cellsS r) :=
  (((((h.near 0 _).near 1 _).near 2 _).near 3 _).near 4 _).near 5 _

set_option maxRecDepth 100000 in
set_option maxHeartbeats 8000000 in
theorem longest_any (t : TaskR) (hand : Nat) (most : Int) (n : Nat) (w : World) (ht : TaskAt w n t) (hn : n ≤ w.heap.size) (hok : okTask t.d = true) (hh : hand < t.d.hands.length) (hm : 0 ≤ most) :
    Calls Try.prog 52 #[taskV t, .int .i64 hand, .int .i64 most] w fun e w' => (∃ k : Nat, e = .returned (.int .i64 k) ∧ LongIs t.d hand most k) ∧ Below w.heap.size w w' := by
  have HT := Lib.hid (ht.more hn)
  have HOK := Lib.hid hok
  have HH := Lib.hid hh
  have hp := okTask_parts hok
  have hlim := hp.2.2.2.2.1
  have hpl := hp.2.2.1
  have hl3 := hp.1.2
  have HM0 : Hid (misA t.d hand 0 ≤ most) := Lib.hid (by rw [misA_zero]; exact hm)
  have HSO := Lib.hid (fun (k : Nat) (hk : k ≤ t.d.parts.length) => stA_ok hok hh hk)
  have HSS := Lib.hid (stA_succ t.d hand)
  have HLA : Hid (limA t.d = min t.d.limit.toNat t.d.parts.length) := rfl
  have HSI := Lib.hid (fun (k : Nat) (hk : k < t.d.parts.length) (w0 : World) (hw : Grow w w0) => sign_any true 68 67 endFn_high endFn_low t (stA t.d hand k) hand w.heap.size w0 ((ht.more hn).below hw) hw.size hok (stA_ok hok hh (by omega)).1 (by rw [(stA_ok hok hh (by omega)).2]; omega) hh)
  clear ht hn hok hp hm
  go_enter Try.func52, Try.ntmps52
  go_upto_region 1 with fail
  obtain ⟨W, hW, hg, hf, hsz⟩ := one_block w 67 (cellsT t)
  rw [hW]
  clear hW
  have htc := hf.cell
  have HG := Lib.hid hg
  have HF := Lib.hid hf
  clear hf hg
  go_wp2_with fail
  refine (worst_any t _).mono ?_
  rintro e w2 ⟨rfl, hb2⟩
  have HG2 : Hid (Grow W w2) := hb2
  clear htc hb2
  go_upto_region 2 with fail
  obtain ⟨W3, hW3, hg3, hc3, hsz3⟩ := one_block w2 80 (cellsC 68 67 t)
  rw [hW3]
  clear hW3
  obtain ⟨b7, e7⟩ : ∃ q, w2.heap.size = q := ⟨_, rfl⟩
  rw [e7] at hc3 hsz3 ⊢
  have HG3 : Hid (Grow W W3) := HG2.out.trans hg3
  have HC3 := Lib.hid hc3
  have hcc := hc3.cell
  have e7' := e7
  clear hg3 hc3 e7
  go_wp2_with fail
  refine (begin_any true 68 67 endFn_high t w.heap.size _ (HT.out.below (HG.out.trans HG3.out)) (HG.out.trans HG3.out).size hl3).mono ?_
  rintro e w4 ⟨rfl, hb4⟩
  have HG4 : Hid (Grow W w4) := HG3.out.trans hb4
  have HC4 := Lib.hid (HC3.out.below hb4 HC3.out.lt)
  clear hcc hb4 HC3
  go_upto_region 3 with fail
  obtain ⟨W5, hW5, hg5, hs5, hsz5⟩ := one_block w4 77 (cellsS (beginD true t.d))
  rw [hW5]
  clear hW5
  obtain ⟨b8, e8⟩ : ∃ q, w4.heap.size = q := ⟨_, rfl⟩
  have hlt1 : w.heap.size < b8 := by have := (HG.out.trans HG4.out).size; have := HG4.out.size; omega
  have hlt7 : b7 < b8 := by have := HC4.out.lt; omega
  rw [e8] at hs5 hsz5 ⊢
  have HG5 : Hid (Grow W W5) := HG4.out.trans hg5
  have HSZ : Hid (W.heap.size ≤ b7) := Lib.hid (by rw [← e7']; exact HG2.out.size)
  have HC5 := Lib.hid (HC4.out.below hg5 HC4.out.lt)
  have HS5 : Hid (BlockIs W5 b8 77 (cellsS (stA t.d hand 0))) := Lib.hid hs5
  clear hg5 hs5 HC4 e8 e7'
  go_loopw [] (fun wr => ∃ k : Nat, k ≤ limA t.d ∧ misA t.d hand k ≤ most ∧ BlockIs wr b8 77 (cellsS (stA t.d hand k)) ∧ Below b8 W5 wr ∧ W5.heap.size ≤ wr.heap.size) (fun wr => limA t.d - (intOf ((wr.cell? ⟨b8, 3, none⟩).getD undef)).toNat)
  case atStart => exact ⟨0, Nat.zero_le _, HM0.out, HS5.out, Below.refl _ _, Nat.le_refl _⟩
  case round =>
    obtain ⟨k, hk, hmk, hsk, hbw, hzw⟩ := hrel
    rename World => wr
    have hlen : limA t.d ≤ t.d.parts.length := by rw [HLA.out]; exact Nat.min_le_right _ _
    obtain ⟨⟨a0, a1, a2, ap, am, al⟩, hst⟩ : ∃ q, stA t.d hand k = q := ⟨_, rfl⟩
    have hpk := (HSO.out k (by omega)).2
    rw [hst] at hpk hsk
    dsimp only at hpk
    subst hpk
    have HGW : Hid (Grow W wr) := Lib.hid (HG5.out.trans' (Below.mono hbw (Nat.le_of_lt (Nat.lt_of_le_of_lt HSZ.out hlt7))))
    have HB := Lib.hid hbw
    have HSK := Lib.hid hsk
    have HMK := Lib.hid hmk
    have HST := Lib.hid hst
    have htc := (HGW.out.block HF.out).cell
    have hsc := hsk.cell
    have hcc := (HC5.out.below hbw hlt7).cell
    clear hbw hsk hmk hst
    go_upto_region 3 with fail
    go_cut [24] (fun v wx => v = .bool (decide (k < limA t.d)) ∧ wr = wx)
    case first =>
      go_wp2
      all_goals
        go_meet
        refine ⟨?_, rfl⟩
        congr 1
        rw [decide_eq_decide, HLA.out]
        omega
    case rest =>
      obtain ⟨rfl, rfl⟩ := hcut
      by_cases hlt : k < limA t.d
      · have hld : decide (k < limA t.d) = true := decide_eq_true hlt
        have hkp : k < t.d.parts.length := by omega
        have hsi := HSI.out k hkp wr (HG.out.trans HGW.out)
        rw [← HSS.out k, HST.out] at hsi
        obtain ⟨⟨n0, n1, n2, np, nm, nl⟩, hnx⟩ : ∃ q, stA t.d hand (k + 1) = q := ⟨_, rfl⟩
        have hnp := (HSO.out (k + 1) (by omega)).2
        rw [hnx] at hnp hsi
        dsimp only at hnp
        obtain rfl : np = (k : Int) + 1 := by omega
        clear hnp
        have HSIX := Lib.hid hsi
        have HNX := Lib.hid hnx
        clear hsi hnx
        rw [hld]
        go_wp2_with fail
        refine HSIX.out.mono ?_
        rintro e w6 ⟨rfl, hb6⟩
        have HG6 : Hid (Grow wr w6) := hb6
        clear hb6 htc hsc hcc
        go_upto_region 5 with fail
        obtain ⟨W7, hW7, hg7, hs7, hsz7⟩ := one_block w6 77 (cellsS ⟨n0, n1, n2, ((k : Int) + 1), nm, nl⟩)
        rw [hW7]
        clear hW7
        obtain ⟨b9, e9⟩ : ∃ q, w6.heap.size = q := ⟨_, rfl⟩
        rw [e9] at hs7 hsz7 ⊢
        have HG7 : Hid (Grow wr W7) := HG6.out.trans hg7
        have hS8 := HG7.out.block HSK.out
        have hsc := hS8.cell
        have hsf := hS8.frozen
        have hnc := hs7.cell
        have HS8 := Lib.hid hS8
        clear hg7 hs7 e9 hS8
        have HMN : Hid (misA t.d hand (k + 1) = nm) := Lib.hid (by unfold misA; rw [HNX.out])
        by_cases hmo : most < nm
        · have hmd : decide (most < nm) = true := decide_eq_true hmo
          go_wp2
          go_ret
          exact ⟨⟨k, rfl, hk, HMK.out, .inr (by rw [HMN.out]; exact hmo)⟩, HG.out.trans (HGW.out.trans HG7.out)⟩
        · have hmd : decide (most < nm) = false := decide_eq_false hmo
          have HS9 := Lib.hid (six_storesS HS8.out ⟨n0, n1, n2, ((k : Int) + 1), nm, nl⟩)
          have HB9 := Lib.hid ((HB.out.trans (Below.mono HG7.out (by have := HSK.out.lt; omega))).trans (six_below (w := W7) (B := b8) (b := b8) (Nat.le_refl _) (.int .i64 n0) (.int .i64 n1) (.int .i64 n2) (.int .i64 ((k : Int) + 1)) (.int .i64 nm) (.int .i64 nl)))
          have HMLE : Hid (misA t.d hand (k + 1) ≤ most) := Lib.hid (by rw [HMN.out]; omega)
          clear hmo
          go_wp2
          go_roundw
          case rel => exact ⟨k + 1, hlt, HMLE.out, by rw [HNX.out]; exact HS9.out, HB9.out, HB9.out.size⟩
          case measure =>
            have c1 := HS9.out.cell 3
            have c2 := HSK.out.cell 3
            simp only [List.getElem?_toArray, List.getElem?_cons_succ, List.getElem?_cons_zero] at c1 c2
            rw [c1, c2]
            simp [intOf]
            omega
      · have hld : decide (k < limA t.d) = false := decide_eq_false hlt
        rw [hld]
        go_wp2
        go_ret
        exact ⟨⟨k, rfl, hk, HMK.out, .inl (by omega)⟩, HG.out.trans HGW.out⟩

end Go.Proofs.Ythlihchndmbkaaa
