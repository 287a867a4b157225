/- LongM: mathematics of Longest. Longest: turns.task.longest, readMost. LongApi: turns.Longest. MostApi: readMost and turns.Longest where something is wrong. -/
import Derived.Test.YthlihchndmbkaaaJoined
namespace Go.Proofs.Ythlihchndmbkaaa
open Go.RowKit

/-- a hand alone, for n parts -/
def stA (t : TaskD) (hand n : Nat) : StD := afterD true t (List.replicate n hand)
def misA (t : TaskD) (hand n : Nat) : Int := (stA t hand n).mis
def limA (t : TaskD) : Nat := min t.limit.toNat t.parts.length
theorem stA_succ (t : TaskD) (hand n : Nat) : stA t hand (n + 1) = signD true t (stA t hand n) hand := by
  unfold stA
  rw [List.replicate_succ', afterD_snoc]
theorem stA_ok {t : TaskD} (ht : okTask t = true) {hand : Nat} (hh : hand < t.hands.length) {n : Nat} (hn : n ≤ t.parts.length) : StOK (stA t hand n) ∧ (stA t hand n).parts = n := by
  have h := afterD_ok' (hi := true) ht (first := List.replicate n hand) (fun x hx => by rw [(List.mem_replicate.1 hx).2]; exact hh) (by rw [List.length_replicate]; exact hn)
  rwa [List.length_replicate] at h
theorem misA_mono {t : TaskD} (ht : okTask t = true) {hand : Nat} (hh : hand < t.hands.length) : ∀ {n m : Nat}, n ≤ m → m ≤ t.parts.length → misA t hand n ≤ misA t hand m
  | n, 0, h, _ => by
    obtain rfl : n = 0 := by omega
    exact Int.le_refl _
  | n, m + 1, h, hm => by
    by_cases e : n = m + 1
    · subst e; exact Int.le_refl _
    · refine Int.le_trans (misA_mono ht hh (n := n) (m := m) (by omega) (by omega)) ?_
      unfold misA
      rw [stA_succ, signD_mis]
      exact misD_ge ht (stA_ok ht hh (by omega)).1 hand hh
/-- for k parts, and no longer, a hand can sign alone -/
def LongIs (t : TaskD) (hand : Nat) (most : Int) (k : Nat) : Prop := k ≤ limA t ∧ misA t hand k ≤ most ∧ (k = limA t ∨ most < misA t hand (k + 1))
theorem longIs_iff {t : TaskD} (ht : okTask t = true) {hand : Nat} (hh : hand < t.hands.length) {most : Int} {k : Nat} (h : LongIs t hand most k) {n : Nat} (hn : n ≤ limA t) (hk : n ≤ k + 1) : misA t hand n ≤ most ↔ n ≤ k := by
  obtain ⟨h1, h2, h3⟩ := h
  have hl : limA t ≤ t.parts.length := Nat.min_le_right _ _
  constructor
  · intro g
    by_cases e : n ≤ k
    · exact e
    · obtain rfl : n = k + 1 := by omega
      omega
  · intro g
    have := misA_mono ht hh g (by omega)
    omega
/-- the first n parts of a task -/
def cutT (t : TaskD) (n : Nat) : TaskD := ⟨t.hands, t.parts.take n, t.limit, t.rest, t.swap⟩
theorem runM_cut {t : TaskD} {W : Nat → Nat → Int} {rota : List Nat} {n : Nat} : ∀ i, i ≤ n → runM (cutT t n) W rota i = runM t W rota i
  | 0, _ => rfl
  | i + 1, hi => by
    unfold runM partM
    rw [runM_cut i (by omega)]
    have e : (cutT t n).parts.getD i 0 = t.parts.getD i 0 := by
      show (t.parts.take n).getD i 0 = _
      unfold List.getD
      rw [List.getElem?_take_of_lt (by omega)]
    rw [e]
    rfl
theorem cutT_ok {t : TaskD} (ht : okTask t = true) {n : Nat} (h1 : 1 ≤ n) (hn : n ≤ t.parts.length) : okTask (cutT t n) = true := by
  have hp := okTask_parts ht
  simp only [okTask, cutT, Bool.and_eq_true, inB_iff, List.all_eq_true, List.length_take]
  refine ⟨⟨⟨⟨by omega, hp.2.1⟩, by omega, fun p hpp => hp.2.2.2.1 p (List.mem_of_mem_take hpp)⟩, by omega, by omega⟩, by omega⟩
theorem alone_mist {t : TaskD} (ht : okTask t = true) {hand : Nat} (hh : hand < t.hands.length) {n : Nat} (h1 : 1 ≤ n) (hn : n ≤ t.parts.length) : ∃ b, mistD (cutT t n) (List.replicate n (hand : Int)) = (b, misA t hand n, 0) := by
  have hok := cutT_ok ht h1 hn
  have hl : (t.parts.take n).length = n := by rw [List.length_take]; omega
  have e : List.replicate n (hand : Int) = natsL (List.replicate n hand) := by simp
  have hf : ∀ h ∈ List.replicate n hand, h < t.hands.length := fun x hx => by rw [(List.mem_replicate.1 hx).2]; exact hh
  have ho := okRota_natsL hok (ms := List.replicate n hand) (by rw [List.length_replicate]; exact hl.symm) hf
  rw [e]
  have r1 := (after_run (hi := true) (t := cutT t n) (okTask_parts ht).1.2 hf (by rw [List.length_replicate]; exact Nat.le_of_eq hl.symm) n (by rw [List.length_replicate]; exact Nat.le_refl _)).2.1
  have r2 := (after_run (hi := true) (t := t) (okTask_parts ht).1.2 hf (by rw [List.length_replicate]; exact hn) n (by rw [List.length_replicate]; exact Nat.le_refl _)).2.1
  have e2 : (List.replicate n hand).take n = List.replicate n hand := List.take_of_length_le (by rw [List.length_replicate]; exact Nat.le_refl _)
  rw [e2] at r1 r2
  have e3 : misOf (cutT t n) (List.replicate n hand) = misA t hand n := by
    unfold misOf misA stA
    rw [r1, r2]
    exact runM_cut n (Nat.le_refl _)
  exact ⟨_, by rw [mistD_ok hok ho, natsOf_natsL, e3]⟩
theorem misA_zero (t : TaskD) (hand : Nat) : misA t hand 0 = 0 := (beginTo_zero true t.hands t.hands.length).1

end Go.Proofs.Ythlihchndmbkaaa

namespace Go.Proofs.Ythlihchndmbkaaa
open Go.RowKit

theorem six_storesS {w : World} {b : Nat} {t : TypeId} {s : StD} (h : BlockIs w b t (cellsS s)) (r : StD) :
    BlockIs ((((((w.setCell ⟨b, 0, none⟩ (.int .i64 r.w0)).setCell ⟨b, 1, none⟩ (.int .i64 r.w1)).setCell ⟨b, 2, none⟩ (.int .i64 r.w2)).setCell ⟨b, 3, none⟩ (.int .i64 r.parts)).setCell ⟨b, 4, none⟩ (.int .i64 r.mis)).setCell ⟨b, 5, none⟩ (.int .i64 r.last)) b t (cellsS r) :=
  (((((h.near 0 _).near 1 _).near 2 _).near 3 _).near 4 _).near 5 _

set_option maxRecDepth 100000 in
set_option maxHeartbeats 8000000 in
theorem longest_any (t : TaskR) (hand : Nat) (most : Int) (n : Nat) (w : World) (ht : TaskAt w n t) (hn : n ≤ w.heap.size) (hok : okTask t.d = true) (hh : hand < t.d.hands.length) (hm : 0 ≤ most) :
    Calls Try.prog 52 #[taskV t, .int .i64 hand, .int .i64 most] w fun e w' => (∃ k : Nat, e = .returned (.int .i64 k) ∧ LongIs t.d hand most k) ∧ Below w.heap.size w w' := by
  have HT := Lib.hid (ht.more hn)
  have HOK := Lib.hid hok
  have HH := Lib.hid hh
  have hp := okTask_parts hok
  have hlim := hp.2.2.2.2.1
  have hpl := hp.2.2.1
  have hl3 := hp.1.2
  have HM0 : Hid (misA t.d hand 0 ≤ most) := Lib.hid (by rw [misA_zero]; exact hm)
  have HSO := Lib.hid (fun (k : Nat) (hk : k ≤ t.d.parts.length) => stA_ok hok hh hk)
  have HSS := Lib.hid (stA_succ t.d hand)
  have HLA : Hid (limA t.d = min t.d.limit.toNat t.d.parts.length) := rfl
  have HSI := Lib.hid (fun (k : Nat) (hk : k < t.d.parts.length) (w0 : World) (hw : Grow w w0) => sign_any true 68 67 endFn_high endFn_low t (stA t.d hand k) hand w.heap.size w0 ((ht.more hn).below hw) hw.size hok (stA_ok hok hh (by omega)).1 (by rw [(stA_ok hok hh (by omega)).2]; omega) hh)
  clear ht hn hok hp hm
  go_enter Try.func52, Try.ntmps52
  go_upto_region 1 with fail
  obtain ⟨W, hW, hg, hf, hsz⟩ := one_block w 67 (cellsT t)
  rw [hW]
  clear hW
  have htc := hf.cell
  have HG := Lib.hid hg
  have HF := Lib.hid hf
  clear hf hg
  go_wp2_with fail
  refine (worst_any t _).mono ?_
  rintro e w2 ⟨rfl, hb2⟩
  have HG2 : Hid (Grow W w2) := hb2
  clear htc hb2
  go_upto_region 2 with fail
  obtain ⟨W3, hW3, hg3, hc3, hsz3⟩ := one_block w2 80 (cellsC 68 67 t)
  rw [hW3]
  clear hW3
  obtain ⟨b7, e7⟩ : ∃ q, w2.heap.size = q := ⟨_, rfl⟩
  rw [e7] at hc3 hsz3 ⊢
  have HG3 : Hid (Grow W W3) := HG2.out.trans hg3
  have HC3 := Lib.hid hc3
  have hcc := hc3.cell
  have e7' := e7
  clear hg3 hc3 e7
  go_wp2_with fail
  refine (begin_any true 68 67 endFn_high t w.heap.size _ (HT.out.below (HG.out.trans HG3.out)) (HG.out.trans HG3.out).size hl3).mono ?_
  rintro e w4 ⟨rfl, hb4⟩
  have HG4 : Hid (Grow W w4) := HG3.out.trans hb4
  have HC4 := Lib.hid (HC3.out.below hb4 HC3.out.lt)
  clear hcc hb4 HC3
  go_upto_region 3 with fail
  obtain ⟨W5, hW5, hg5, hs5, hsz5⟩ := one_block w4 77 (cellsS (beginD true t.d))
  rw [hW5]
  clear hW5
  obtain ⟨b8, e8⟩ : ∃ q, w4.heap.size = q := ⟨_, rfl⟩
  have hlt1 : w.heap.size < b8 := by have := (HG.out.trans HG4.out).size; have := HG4.out.size; omega
  have hlt7 : b7 < b8 := by have := HC4.out.lt; omega
  rw [e8] at hs5 hsz5 ⊢
  have HG5 : Hid (Grow W W5) := HG4.out.trans hg5
  have HSZ : Hid (W.heap.size ≤ b7) := Lib.hid (by rw [← e7']; exact HG2.out.size)
  have HC5 := Lib.hid (HC4.out.below hg5 HC4.out.lt)
  have HS5 : Hid (BlockIs W5 b8 77 (cellsS (stA t.d hand 0))) := Lib.hid hs5
  clear hg5 hs5 HC4 e8 e7'
  go_loopw [] (fun wr => ∃ k : Nat, k ≤ limA t.d ∧ misA t.d hand k ≤ most ∧ BlockIs wr b8 77 (cellsS (stA t.d hand k)) ∧ Below b8 W5 wr ∧ W5.heap.size ≤ wr.heap.size) (fun wr => limA t.d - (intOf ((wr.cell? ⟨b8, 3, none⟩).getD undef)).toNat)
  case atStart => exact ⟨0, Nat.zero_le _, HM0.out, HS5.out, Below.refl _ _, Nat.le_refl _⟩
  case round =>
    obtain ⟨k, hk, hmk, hsk, hbw, hzw⟩ := hrel
    rename World => wr
    have hlen : limA t.d ≤ t.d.parts.length := by rw [HLA.out]; exact Nat.min_le_right _ _
    obtain ⟨⟨a0, a1, a2, ap, am, al⟩, hst⟩ : ∃ q, stA t.d hand k = q := ⟨_, rfl⟩
    have hpk := (HSO.out k (by omega)).2
    rw [hst] at hpk hsk
    dsimp only at hpk
    subst hpk
    have HGW : Hid (Grow W wr) := Lib.hid (HG5.out.trans' (Below.mono hbw (Nat.le_of_lt (Nat.lt_of_le_of_lt HSZ.out hlt7))))
    have HB := Lib.hid hbw
    have HSK := Lib.hid hsk
    have HMK := Lib.hid hmk
    have HST := Lib.hid hst
    have htc := (HGW.out.block HF.out).cell
    have hsc := hsk.cell
    have hcc := (HC5.out.below hbw hlt7).cell
    clear hbw hsk hmk hst
    go_upto_region 3 with fail
    go_cut [24] (fun v wx => v = .bool (decide (k < limA t.d)) ∧ wr = wx)
    case first =>
      go_wp2
      all_goals
        go_meet
        refine ⟨?_, rfl⟩
        congr 1
        rw [decide_eq_decide, HLA.out]
        omega
    case rest =>
      obtain ⟨rfl, rfl⟩ := hcut
      by_cases hlt : k < limA t.d
      · have hld : decide (k < limA t.d) = true := decide_eq_true hlt
        have hkp : k < t.d.parts.length := by omega
        have hsi := HSI.out k hkp wr (HG.out.trans HGW.out)
        rw [← HSS.out k, HST.out] at hsi
        obtain ⟨⟨n0, n1, n2, np, nm, nl⟩, hnx⟩ : ∃ q, stA t.d hand (k + 1) = q := ⟨_, rfl⟩
        have hnp := (HSO.out (k + 1) (by omega)).2
        rw [hnx] at hnp hsi
        dsimp only at hnp
        obtain rfl : np = (k : Int) + 1 := by omega
        clear hnp
        have HSIX := Lib.hid hsi
        have HNX := Lib.hid hnx
        clear hsi hnx
        rw [hld]
        go_wp2_with fail
        refine HSIX.out.mono ?_
        rintro e w6 ⟨rfl, hb6⟩
        have HG6 : Hid (Grow wr w6) := hb6
        clear hb6 htc hsc hcc
        go_upto_region 5 with fail
        obtain ⟨W7, hW7, hg7, hs7, hsz7⟩ := one_block w6 77 (cellsS ⟨n0, n1, n2, ((k : Int) + 1), nm, nl⟩)
        rw [hW7]
        clear hW7
        obtain ⟨b9, e9⟩ : ∃ q, w6.heap.size = q := ⟨_, rfl⟩
        rw [e9] at hs7 hsz7 ⊢
        have HG7 : Hid (Grow wr W7) := HG6.out.trans hg7
        have hS8 := HG7.out.block HSK.out
        have hsc := hS8.cell
        have hsf := hS8.frozen
        have hnc := hs7.cell
        have HS8 := Lib.hid hS8
        clear hg7 hs7 e9 hS8
        have HMN : Hid (misA t.d hand (k + 1) = nm) := Lib.hid (by unfold misA; rw [HNX.out])
        by_cases hmo : most < nm
        · have hmd : decide (most < nm) = true := decide_eq_true hmo
          go_wp2
          go_ret
          exact ⟨⟨k, rfl, hk, HMK.out, .inr (by rw [HMN.out]; exact hmo)⟩, HG.out.trans (HGW.out.trans HG7.out)⟩
        · have hmd : decide (most < nm) = false := decide_eq_false hmo
          have HS9 := Lib.hid (six_storesS HS8.out ⟨n0, n1, n2, ((k : Int) + 1), nm, nl⟩)
          have HB9 := Lib.hid ((HB.out.trans (Below.mono HG7.out (by have := HSK.out.lt; omega))).trans (six_below (w := W7) (B := b8) (b := b8) (Nat.le_refl _) (.int .i64 n0) (.int .i64 n1) (.int .i64 n2) (.int .i64 ((k : Int) + 1)) (.int .i64 nm) (.int .i64 nl)))
          have HMLE : Hid (misA t.d hand (k + 1) ≤ most) := Lib.hid (by rw [HMN.out]; omega)
          clear hmo
          go_wp2
          go_roundw
          case rel => exact ⟨k + 1, hlt, HMLE.out, by rw [HNX.out]; exact HS9.out, HB9.out, HB9.out.size⟩
          case measure =>
            have c1 := HS9.out.cell 3
            have c2 := HSK.out.cell 3
            simp only [List.getElem?_toArray, List.getElem?_cons_succ, List.getElem?_cons_zero] at c1 c2
            rw [c1, c2]
            simp [intOf]
            omega
      · have hld : decide (k < limA t.d) = false := decide_eq_false hlt
        rw [hld]
        go_wp2
        go_ret
        exact ⟨⟨k, rfl, hk, HMK.out, .inl (by omega)⟩, HG.out.trans HGW.out⟩

end Go.Proofs.Ythlihchndmbkaaa

namespace Go.Proofs.Ythlihchndmbkaaa
open Go.RowKit

theorem results_task4' {fn : Func} (h : fn.results = #[.cell 4 67, .tmp 5]) (t : Array Value) (W : World) (b : Nat) (v0 v1 v2 v3 v4 u : Value)
    (hb : BlockIs W b 67 #[v0, v1, v2, v3, v4]) (ht : t.getD 4 undef = .pointer (some ⟨b, 0, none⟩)) (hu : t.getD 5 undef = u) :
    (results fn t).run Try.prog W = .ok (.tuple #[.agg #[v0, v1, v2, v3, v4], u]) W := by
  have hc := hb.cell
  simp only [results, h]
  simp at ht hu
  simp [go_sem, ht, hc, hu]

set_option maxRecDepth 100000 in
set_option maxHeartbeats 8000000 in
theorem readMost_any (t : TaskR) (most : Int) (n : Nat) (w : World) (ht : TaskAt w n t) (hn : n ≤ w.heap.size) (hok : okTask t.d = true) (hm : 0 ≤ most) :
    Calls Try.prog 50 #[taskV t, .int .i64 most] w fun e w' => e = .returned (.tuple #[taskV t, .int .i64 0]) ∧ Below w.heap.size w w' := by
  have HV := Lib.hid (fun (w0 : World) (hw : Grow w w0) => read_any t w.heap.size w0 ((ht.more hn).below hw) hw.size)
  rw [if_pos hok, if_pos hok] at HV
  have hmd : decide (most < 0) = false := decide_eq_false (by omega)
  clear ht hn hok hm
  go_enter Try.func50, Try.ntmps50
  go_upto_region 1 with fail
  obtain ⟨W, hW, hg, hf, hr, hsz⟩ := two_blocks w 25 67 (cellsT t) #[.slice none 0 0, .slice none 0 0, .int .i64 0, .int .i64 0, .int .i64 0]
  rw [hW]
  clear hW
  obtain ⟨b4, e4⟩ : ∃ q, w.heap.size + 1 = q := ⟨_, rfl⟩
  rw [e4] at hr hsz ⊢
  have hlt4 : w.heap.size < b4 := by omega
  have htc := hf.cell
  have HG := Lib.hid hg
  have HR := Lib.hid hr
  clear hf hg hr e4
  go_wp2_with fail
  refine (HV.out _ HG.out).mono ?_
  rintro e w2 ⟨rfl, hb2⟩
  have HG2 : Hid (Grow W w2) := hb2
  clear htc hb2
  go_upto_region 2 with fail
  obtain ⟨W3, hW3, hg3, hs3, hsz3⟩ := one_block w2 67 (cellsT t)
  rw [hW3]
  clear hW3
  have HG3 : Hid (Grow W W3) := HG2.out.trans hg3
  have hr3 := HG3.out.block HR.out
  have hsc := hs3.cell
  have hrc := hr3.cell
  have hrf := hr3.frozen
  have H5 := Lib.hid (five_storesT hr3 (.slice t.A t.d.hands.length t.ca) (.slice t.B t.d.parts.length t.cb) (.int .i64 t.d.limit) (.int .i64 t.d.rest) (.int .i64 t.d.swap))
  have HB5 := Lib.hid ((HG.out.trans HG3.out).trans' (five_belowT (w := W3) (B := w.heap.size) (b := b4) (by omega) (.slice t.A t.d.hands.length t.ca) (.slice t.B t.d.parts.length t.cb) (.int .i64 t.d.limit) (.int .i64 t.d.rest) (.int .i64 t.d.swap)))
  clear hg3 hs3 hr3
  go_wp2
  exact bodyPost_ret (results_task4' Try.results50 _ _ b4 _ _ _ _ _ _ H5.out rfl rfl) rfl ⟨rfl, HB5.out⟩

theorem make_full_int (ln : Nat) (w : World) (hl : ln ≤ 10) : (Instr.makeSlice 23 (.int .i64 (ln : Int)) (.int .i64 (ln : Int))).run Try.prog w = .ok (.slice (some ⟨w.heap.size, 0, none⟩) ln ln) (w.alloc (.cells (madeCells #[.int .i64 0] ln) 3)) := by
  obtain ⟨i0, hi, hz0, hz1, hz2⟩ := info_parts Try.infoInt
  have h := run_make (P := Try.prog) w 23 3 i0 (.int .i64 0) Try.underlying23 hi hz0 .i64 .i64 ln ln (by omega) (Int.le_refl _) (by rw [hz2]; omega) (by omega)
  rw [hz1, Int.toNat_natCast, Nat.mul_one] at h
  exact h
theorem RowAt.full {w : World} {lo b : Nat} {xs : List Int} (h : RowAt w b xs.length xs) (hb : lo ≤ b) : IntsFc w lo (some ⟨b, 0, none⟩) xs.length xs :=
  ⟨.inr ⟨b, 0, rfl, hb, h.lt, fun i x hi => by obtain ⟨cs, h1, _, h3⟩ := h; rw [Nat.zero_add, h1.cell]; exact h3 i x hi⟩, Nat.le_refl _⟩

set_option maxRecDepth 100000 in
set_option maxHeartbeats 8000000 in
theorem longApi_any (t : TaskR) (most : Int) (n : Nat) (w : World) (ht : TaskAt w n t) (hn : n ≤ w.heap.size) (hok : okTask t.d = true) (hm : 0 ≤ most) :
    Calls Try.prog 28 #[taskV t, .int .i64 most] w fun e w' => ∃ (A : Option Addr) (ks : List Nat), e = .returned (.tuple #[.slice A t.d.hands.length t.d.hands.length, .int .i64 0]) ∧ (ks.length = t.d.hands.length ∧ ∀ (i k : Nat), ks[i]? = some k → LongIs t.d i most k) ∧ IntsF w' w.heap.size A (natsL ks) ∧ Below w.heap.size w w' := by
  have HV := Lib.hid (fun (w0 : World) (hw : Grow w w0) => readMost_any t most w.heap.size w0 ((ht.more hn).below hw) hw.size hok hm)
  have HLO := Lib.hid (fun (i : Nat) (hi : i < t.d.hands.length) (w0 : World) (hw : Grow w w0) => longest_any t i most w.heap.size w0 ((ht.more hn).below hw) hw.size hok hi hm)
  have hl3 := (okTask_parts hok).1.2
  have HMK := Lib.hid (fun (w0 : World) => make_full_int t.d.hands.length w0 (by omega))
  clear ht hn hok hm
  obtain ⟨ln, hln⟩ : ∃ q, t.d.hands.length = q := ⟨_, rfl⟩
  have HLN := Lib.hid hln
  rw [hln] at HLO HMK hl3 ⊢
  clear hln
  go_enter Try.func28, Try.ntmps28
  go_upto_region 1 with fail
  obtain ⟨W, hW, hg, hf, hsz⟩ := one_block w 25 (cellsT t)
  rw [hW]
  clear hW
  have htc := hf.cell
  have HG := Lib.hid hg
  clear hf hg
  go_wp2_with fail
  refine (HV.out _ HG.out).mono ?_
  rintro e w2 ⟨rfl, hb2⟩
  have HG2 : Hid (Grow W w2) := hb2
  clear htc hb2
  go_upto_region 2 with fail
  obtain ⟨W3, hW3, hg3, hs3, hsz3⟩ := one_block w2 67 (cellsT t)
  rw [hW3]
  clear hW3
  obtain ⟨b6, e6⟩ : ∃ q, w2.heap.size = q := ⟨_, rfl⟩
  rw [e6] at hs3 hsz3 ⊢
  have HG3 : Hid (Grow W W3) := HG2.out.trans hg3
  have HS3 := Lib.hid hs3
  have hsc0 : W3.cell? ⟨b6, 0, none⟩ = some (.slice t.A ln t.ca) := by rw [← HLN.out]; exact hs3.cell 0
  clear hg3 hs3
  have hmk := HMK.out W3
  go_upto_region 5 with fail
  obtain ⟨W4, hW4⟩ : ∃ q, W3.alloc (.cells (madeCells #[.int .i64 0] ln) 3) = q := ⟨_, rfl⟩
  obtain ⟨bp, ep⟩ : ∃ q, W3.heap.size = q := ⟨_, rfl⟩
  have hrow0 : RowAt W4 bp ln (natsL []) := by
    rw [← hW4, ← ep]
    exact ⟨_, BlockIs.new _ _ _, size_madeCells _ _, fun i x hi => by simp at hi⟩
  have HG4 : Hid (Grow W W4) := Lib.hid (by rw [← hW4]; exact HG3.out.trans (Grow.alloc _ _))
  have HS4 : Hid (BlockIs W4 b6 67 (cellsT t)) := Lib.hid (by rw [← hW4]; exact (Grow.alloc _ _).block HS3.out)
  have hb6p : b6 < bp := by rw [← ep]; exact HS3.out.lt
  have hwp : w.heap.size ≤ bp := by have := (HG.out.trans HG3.out).size; omega
  rw [hW4, ep]
  have HROW := Lib.hid hrow0
  clear hW4 ep hmk hrow0 HS3 HG3 hsc0 e6 hsz3
  go_wp2_with fail
  go_loopw [26] (fun iv wr => ∃ ks : List Nat, iv = .int .i64 ks.length ∧ ks.length ≤ ln ∧ (∀ (i k : Nat), ks[i]? = some k → LongIs t.d i most k) ∧ RowAt wr bp ln (natsL ks) ∧ Below bp W4 wr) (fun i _ => ln - (intOf i).toNat)
  case atStart => exact ⟨[], rfl, Nat.zero_le _, by simp, HROW.out, Below.refl _ _⟩
  case round =>
    obtain ⟨ks, rfl, hk, hall, hrow, hbw⟩ := hrel
    rename World => wr
    obtain ⟨k, hkk⟩ : ∃ q, ks.length = q := ⟨_, rfl⟩
    rw [hkk] at hk ⊢
    have HKK := Lib.hid hkk
    have HALL := Lib.hid hall
    have HRW := Lib.hid hrow
    have HBW := Lib.hid hbw
    have hs4 := HS4.out.below hbw hb6p
    have hsc := hs4.cell
    have HGR : Hid (Grow w wr) := Lib.hid ((HG.out.trans HG4.out).trans' (Below.mono hbw hwp))
    clear hall hrow hbw hs4 hkk
    by_cases hlt : k < ln
    · have hld : decide ((k : Int) < (ln : Int)) = true := decide_eq_true (by omega)
      have hln' : decide (k < ln) = true := decide_eq_true hlt
      have hki : (k : Int) < (ln : Int) := by omega
      have hk0 : (0 : Int) ≤ (k : Int) := by omega
      have HL := Lib.hid (HLO.out k hlt wr HGR.out)
      go_wp2_with fail
      refine HL.out.mono ?_
      rintro e w5 ⟨⟨kk, rfl, hli⟩, hb5⟩
      have hg5 : Grow wr w5 := hb5
      have hr5 : RowAt w5 bp ln (natsL ks) := HRW.out.keep (Below.block hg5 bp HRW.out.lt)
      obtain ⟨⟨vf, hvf⟩, hff⟩ := hr5.spot hlt
      have hput := hr5.put (by rw [natsL_len, HKK.out]; exact hlt) (kk : Int)
      rw [natsL_len, HKK.out] at hput
      have HPUT : Hid (RowAt (w5.setCell ⟨bp, k, none⟩ (.int .i64 kk)) bp ln (natsL (ks ++ [kk]))) := Lib.hid (by
        have e : natsL (ks ++ [kk]) = natsL ks ++ [(kk : Int)] := by simp
        rw [e]
        exact hput)
      have HB6 : Hid (Below bp W4 (w5.setCell ⟨bp, k, none⟩ (.int .i64 kk))) := Lib.hid ((HBW.out.trans (Below.mono hg5 (by have := HRW.out.lt; omega))).setCell (p := ⟨bp, k, none⟩) (Nat.le_refl _) _)
      have HLI := Lib.hid hli
      have HALLN : Hid (∀ (i j : Nat), (ks ++ [kk])[i]? = some j → LongIs t.d i most j) := Lib.hid (fun i j hj => by
        by_cases e : i < ks.length
        · rw [List.getElem?_append_left e] at hj
          exact HALL.out i j hj
        · have hl := lt_of_at hj
          simp at hl
          obtain rfl : i = ks.length := by omega
          simp at hj
          subst hj
          rw [HKK.out]
          exact HLI.out)
      have HKN : Hid ((ks ++ [kk]).length = k + 1) := Lib.hid (by rw [List.length_append, HKK.out]; rfl)
      clear hsc hb5 hg5 hr5 hput hli
      go_wp2
      go_roundw
      case rel => exact ⟨ks ++ [kk], by rw [HKN.out]; go_num, by rw [HKN.out]; omega, HALLN.out, HPUT.out, HB6.out⟩
      case measure => simp [intOf]; omega
    · obtain rfl : k = ln := by omega
      have hld : decide ((k : Int) < (k : Int)) = false := by simp
      have HRF : Hid (IntsF wr w.heap.size (some ⟨bp, 0, none⟩) (natsL ks)) := Lib.hid (by
        have h := HRW.out
        rw [← HKK.out, ← natsL_len] at h
        exact (h.full hwp).1)
      go_wp2
      exact bodyPost_ret (v := .tuple #[.slice (some ⟨bp, 0, none⟩) k k, .int .i64 0]) (by simp [results, Try.results28, go_sem]) rfl ⟨some ⟨bp, 0, none⟩, ks, rfl, ⟨HKK.out, HALL.out⟩, HRF.out, HGR.out⟩

end Go.Proofs.Ythlihchndmbkaaa

namespace Go.Proofs.Ythlihchndmbkaaa
open Go.RowKit

/-- the first error of a task and a number of mistakes -/
def mostErr (t : TaskD) (most : Int) : Int := if okTask t = true then if most < 0 then 1 else 0 else 40
theorem mostErr_zero {t : TaskD} {most : Int} (h : mostErr t most = 0) : okTask t = true ∧ 0 ≤ most := by
  unfold mostErr at h
  by_cases hk : okTask t = true
  · rw [if_pos hk] at h
    refine ⟨hk, ?_⟩
    by_cases hm : most < 0
    · rw [if_pos hm] at h; exact absurd h (by decide)
    · omega
  · rw [if_neg hk] at h; exact absurd h (by decide)
theorem mostErr_ok {t : TaskD} {most : Int} (hk : okTask t = true) (hm : 0 ≤ most) : mostErr t most = 0 := by
  unfold mostErr
  rw [if_pos hk, if_neg (by omega)]
theorem mostErr_cases (t : TaskD) (most : Int) : (okTask t = true ∧ most < 0 ∧ mostErr t most = 1) ∨ (¬ okTask t = true ∧ mostErr t most = 40) ∨ (okTask t = true ∧ 0 ≤ most ∧ mostErr t most = 0) := by
  by_cases hk : okTask t = true
  · by_cases hm : most < 0
    · exact .inl ⟨hk, hm, by unfold mostErr; rw [if_pos hk, if_pos hm]⟩
    · exact .inr (.inr ⟨hk, by omega, mostErr_ok hk (by omega)⟩)
  · exact .inr (.inl ⟨hk, by unfold mostErr; rw [if_neg hk]⟩)

set_option maxRecDepth 100000 in
set_option maxHeartbeats 8000000 in
theorem readMost_less (t : TaskR) (most : Int) (n : Nat) (w : World) (ht : TaskAt w n t) (hn : n ≤ w.heap.size) (hok : okTask t.d = true) (hm : most < 0) :
    Calls Try.prog 50 #[taskV t, .int .i64 most] w fun e w' => e = .returned (.tuple #[zeroTV, .int .i64 1]) ∧ Below w.heap.size w w' := by
  have HV := Lib.hid (fun (w0 : World) (hw : Grow w w0) => read_any t w.heap.size w0 ((ht.more hn).below hw) hw.size)
  rw [if_pos hok, if_pos hok] at HV
  have hmd : decide (most < 0) = true := decide_eq_true hm
  clear ht hn hok hm
  go_enter Try.func50, Try.ntmps50
  go_upto_region 1 with fail
  obtain ⟨W, hW, hg, hf, hr, hsz⟩ := two_blocks w 25 67 (cellsT t) #[.slice none 0 0, .slice none 0 0, .int .i64 0, .int .i64 0, .int .i64 0]
  rw [hW]
  clear hW
  obtain ⟨b4, e4⟩ : ∃ q, w.heap.size + 1 = q := ⟨_, rfl⟩
  rw [e4] at hr hsz ⊢
  have hlt4 : w.heap.size < b4 := by omega
  have htc := hf.cell
  have HG := Lib.hid hg
  have HR := Lib.hid hr
  clear hf hg hr e4
  go_wp2_with fail
  refine (HV.out _ HG.out).mono ?_
  rintro e w2 ⟨rfl, hb2⟩
  have HG2 : Hid (Grow W w2) := hb2
  clear htc hb2
  go_upto_region 2 with fail
  obtain ⟨W3, hW3, hg3, hs3, hsz3⟩ := one_block w2 67 (cellsT t)
  rw [hW3]
  clear hW3
  have HG3 : Hid (Grow W W3) := HG2.out.trans hg3
  have hr3 := HG3.out.block HR.out
  have hrc := hr3.cell
  have hrf := hr3.frozen
  have H5 := Lib.hid (five_storesT hr3 (.slice none 0 0) (.slice none 0 0) (.int .i64 0) (.int .i64 0) (.int .i64 0))
  have HB5 := Lib.hid ((HG.out.trans HG3.out).trans' (five_belowT (w := W3) (B := w.heap.size) (b := b4) (by omega) (.slice none 0 0) (.slice none 0 0) (.int .i64 0) (.int .i64 0) (.int .i64 0)))
  clear hg3 hs3 hr3
  go_wp2
  exact bodyPost_ret (results_task4' Try.results50 _ _ b4 _ _ _ _ _ _ H5.out rfl rfl) rfl ⟨rfl, HB5.out⟩

set_option maxRecDepth 100000 in
set_option maxHeartbeats 8000000 in
theorem readMost_task (t : TaskR) (most : Int) (n : Nat) (w : World) (ht : TaskAt w n t) (hn : n ≤ w.heap.size) (hok : ¬ okTask t.d = true) :
    Calls Try.prog 50 #[taskV t, .int .i64 most] w fun e w' => e = .returned (.tuple #[zeroTV, .int .i64 40]) ∧ Below w.heap.size w w' := by
  have HV := Lib.hid (fun (w0 : World) (hw : Grow w w0) => read_any t w.heap.size w0 ((ht.more hn).below hw) hw.size)
  rw [if_neg hok, if_neg hok] at HV
  clear ht hn hok
  go_enter Try.func50, Try.ntmps50
  go_upto_region 1 with fail
  obtain ⟨W, hW, hg, hf, hr, hsz⟩ := two_blocks w 25 67 (cellsT t) #[.slice none 0 0, .slice none 0 0, .int .i64 0, .int .i64 0, .int .i64 0]
  rw [hW]
  clear hW
  obtain ⟨b4, e4⟩ : ∃ q, w.heap.size + 1 = q := ⟨_, rfl⟩
  rw [e4] at hr hsz ⊢
  have hlt4 : w.heap.size < b4 := by omega
  have htc := hf.cell
  have HG := Lib.hid hg
  have HR := Lib.hid hr
  clear hf hg hr e4
  go_wp2_with fail
  refine (HV.out _ HG.out).mono ?_
  rintro e w2 ⟨rfl, hb2⟩
  have HG2 : Hid (Grow W w2) := hb2
  clear htc hb2
  go_upto_region 2 with fail
  obtain ⟨W3, hW3, hg3, hs3, hsz3⟩ := one_block w2 67 #[.slice none 0 0, .slice none 0 0, .int .i64 0, .int .i64 0, .int .i64 0]
  rw [hW3]
  clear hW3
  have HG3 : Hid (Grow W W3) := HG2.out.trans hg3
  have hr3 := HG3.out.block HR.out
  have hrc := hr3.cell
  have hrf := hr3.frozen
  have H5 := Lib.hid (five_storesT hr3 (.slice none 0 0) (.slice none 0 0) (.int .i64 0) (.int .i64 0) (.int .i64 0))
  have HB5 := Lib.hid ((HG.out.trans HG3.out).trans' (five_belowT (w := W3) (B := w.heap.size) (b := b4) (by omega) (.slice none 0 0) (.slice none 0 0) (.int .i64 0) (.int .i64 0) (.int .i64 0)))
  clear hg3 hs3 hr3
  go_wp2
  exact bodyPost_ret (results_task4' Try.results50 _ _ b4 _ _ _ _ _ _ H5.out rfl rfl) rfl ⟨rfl, HB5.out⟩

theorem readMost_bad (t : TaskR) (most : Int) (n : Nat) (w : World) (ht : TaskAt w n t) (hn : n ≤ w.heap.size) (hb : mostErr t.d most ≠ 0) :
    Calls Try.prog 50 #[taskV t, .int .i64 most] w fun e w' => e = .returned (.tuple #[zeroTV, .int .i64 (mostErr t.d most)]) ∧ Below w.heap.size w w' := by
  rcases mostErr_cases t.d most with ⟨h1, h2, h3⟩ | ⟨h1, h3⟩ | ⟨_, _, h3⟩
  · rw [h3]; exact readMost_less t most n w ht hn h1 h2
  · rw [h3]; exact readMost_task t most n w ht hn h1
  · exact absurd h3 hb

theorem results_pair45 {fn : Func} (h : fn.results = #[.tmp 4, .tmp 5]) (t : Array Value) (W : World) (u1 u2 : Value) (h1 : t.getD 4 undef = u1) (h2 : t.getD 5 undef = u2) :
    (results fn t).run Try.prog W = .ok (.tuple #[u1, u2]) W := by
  simp only [results, h]
  simp at h1 h2
  simp [go_sem, h1, h2]

set_option maxRecDepth 100000 in
set_option maxHeartbeats 8000000 in
theorem longApi_bad (t : TaskR) (most : Int) (n : Nat) (w : World) (ht : TaskAt w n t) (hn : n ≤ w.heap.size) (hb : mostErr t.d most ≠ 0) :
    Calls Try.prog 28 #[taskV t, .int .i64 most] w fun e w' => e = .returned (.tuple #[.slice none 0 0, .int .i64 (mostErr t.d most)]) ∧ Below w.heap.size w w' := by
  have HV := Lib.hid (fun (w0 : World) (hw : Grow w w0) => readMost_bad t most w.heap.size w0 ((ht.more hn).below hw) hw.size hb)
  generalize mostErr t.d most = er at HV hb ⊢
  have hne : decide (er = 0) = false := decide_eq_false hb
  clear ht hn
  go_enter Try.func28, Try.ntmps28
  go_upto_region 1 with fail
  obtain ⟨W, hW, hg, hf, hsz⟩ := one_block w 25 (cellsT t)
  rw [hW]
  clear hW
  have htc := hf.cell
  have HG := Lib.hid hg
  clear hf hg
  go_wp2_with fail
  refine (HV.out _ HG.out).mono ?_
  rintro e w2 ⟨rfl, hb2⟩
  have HG2 : Hid (Grow W w2) := hb2
  clear htc hb2
  go_upto_region 2 with fail
  obtain ⟨W3, hW3, hg3, hs3, hsz3⟩ := one_block w2 67 #[.slice none 0 0, .slice none 0 0, .int .i64 0, .int .i64 0, .int .i64 0]
  rw [hW3]
  clear hW3
  have HG3 : Hid (Grow w W3) := Lib.hid (HG.out.trans (HG2.out.trans hg3))
  clear hg3 hs3
  go_wp2
  exact bodyPost_ret (v := .tuple #[.slice none 0 0, .int .i64 er]) (by simp [results, Try.results28, go_sem]) rfl ⟨rfl, HG3.out⟩

end Go.Proofs.Ythlihchndmbkaaa

