/- LongApi: turns.Longest. -/
import Derived.Test.YthlihchndmbkaaaLongest
namespace Go.Proofs.Ythlihchndmbkaaa
open Go.RowKit

theorem results_task4' {fn : Func} (h : fn.results = #[.cell 4 67, .tmp 5]) (t : Array Value) (W : World) (b : Nat) (v0 v1 v2 v3 v4 u : Value)
    (hb : BlockIs W b 67 #[v0, v1, v2, v3, v4]) (ht : t.getD 4 undef = .pointer (some ⟨b, 0, none⟩)) (hu : t.getD 5 undef = u) :
    (results fn t).run Try.prog W = .ok (.tuple #[.agg #[v0, v1, v2, v3, v4], u]) W := by
  have hc := hb.cell
  simp only [results, h]
  simp at ht hu
  simp [go_sem, ht, hc, hu]

set_option maxRecDepth 100000 in
set_option maxHeartbeats 8000000 in
theorem readMost_any (t : TaskR) (most : Int) (n : Nat) (w : World) (ht : TaskAt w n t) (hn : n ≤ w.heap.size) (hok : okTask t.d = true) (hm : 0 ≤ most) :
    Calls Try.prog 50 #[taskV t, .int .i64 most] w fun e w' => e = .returned (.tuple #[taskV t, .int .i64 0]) ∧ Below w.heap.size w w' := by
  have HV := Lib.hid (fun (w0 : World) (hw : Grow w w0) => read_any t w.heap.size w0 ((ht.more hn).below hw) hw.size)
  rw [if_pos hok, if_pos hok] at HV
  have hmd : decide (most < 0) = false := decide_eq_false (by omega)
  clear ht hn hok hm
  go_enter Try.func50, Try.ntmps50
  go_upto_region 1 with fail
  obtain ⟨W, hW, hg, hf, hr, hsz⟩ := two_blocks w 25 67 (cellsT t) #[.slice none 0 0, .slice none 0 0, .int .i64 0, .int .i64 0, .int .i64 0]
  rw [hW]
  clear hW
  obtain ⟨b4, e4⟩ : ∃ q, w.heap.size + 1 = q := ⟨_, rfl⟩
  rw [e4] at hr hsz ⊢
  have hlt4 : w.heap.size < b4 := by omega
  have htc := hf.cell
  have HG := Lib.hid hg
  have HR := Lib.hid hr
  clear hf hg hr e4
  go_wp2_with fail
  refine (HV.out _ HG.out).mono ?_
  rintro e w2 ⟨rfl, hb2⟩
  have HG2 : Hid (Grow W w2) := hb2
  clear htc hb2
  go_upto_region 2 with fail
  obtain ⟨W3, hW3, hg3, hs3, hsz3⟩ := one_block w2 67 (cellsT t)
  rw [hW3]
  clear hW3
  have HG3 : Hid (Grow W W3) := HG2.out.trans hg3
  have hr3 := HG3.out.block HR.out
  have hsc := hs3.cell
  have hrc := hr3.cell
  have hrf := hr3.frozen
  have H5 := Lib.hid (five_storesT hr3 (.slice t.A t.d.hands.length t.ca) (.slice t.B t.d.parts.length t.cb) (.int .i64 t.d.limit) (.int .i64 t.d.rest) (.int .i64 t.d.swap))
  have HB5 := Lib.hid ((HG.out.trans HG3.out).trans' (five_belowT (w := W3) (B := w.heap.size) (b := b4) (by omega) (.slice t.A t.d.hands.length t.ca) (.slice t.B t.d.parts.length t.cb) (.int .i64 t.d.limit) (.int .i64 t.d.rest) (.int .i64 t.d.swap)))
  clear hg3 hs3 hr3
  go_wp2
  exact bodyPost_ret (results_task4' Try.results50 _ _ b4 _ _ _ _ _ _ H5.out rfl rfl) rfl ⟨rfl, HB5.out⟩

theorem make_full_int (ln : Nat) (w : World) (hl : ln ≤ 10) : (Instr.makeSlice 23 (.int .i64 (ln : Int)) (.int .i64 (ln : Int))).run Try.prog w = .ok (.slice (some ⟨w.heap.size, 0, none⟩) ln ln) (w.alloc (.cells (madeCells #[.int .i64 0] ln) 3)) := by
  obtain ⟨i0, hi, hz0, hz1, hz2⟩ := info_parts Try.infoInt
  have h := run_make (P := Try.prog) w 23 3 i0 (.int .i64 0) Try.underlying23 hi hz0 .i64 .i64 ln ln (by omega) (Int.le_refl _) (by rw [hz2]; omega) (by omega)
  rw [hz1, Int.toNat_natCast, Nat.mul_one] at h
  exact h
theorem RowAt.full {w : World} {lo b : Nat} {xs : List Int} (h : RowAt w b xs.length xs) (hb : lo ≤ b) : IntsFc w lo (some ⟨b, 0, none⟩) xs.length xs :=
  ⟨.inr ⟨b, 0, rfl, hb, h.lt, fun i x hi => by obtain ⟨cs, h1, _, h3⟩ := h; rw [Nat.zero_add, h1.cell]; exact h3 i x hi⟩, Nat.le_refl _⟩

set_option maxRecDepth 100000 in
set_option maxHeartbeats 8000000 in
theorem longApi_any (t : TaskR) (most : Int) (n : Nat) (w : World) (ht : TaskAt w n t) (hn : n ≤ w.heap.size) (hok : okTask t.d = true) (hm : 0 ≤ most) :
    Calls Try.prog 28 #[taskV t, .int .i64 most] w fun e w' => ∃ (A : Option Addr) (ks : List Nat), e = .returned (.tuple #[.slice A t.d.hands.length t.d.hands.length, .int .i64 0]) ∧ (ks.length = t.d.hands.length ∧ ∀ (i k : Nat), ks[i]? = some k → LongIs t.d i most k) ∧ IntsF w' w.heap.size A (natsL ks) ∧ Below w.heap.size w w' := by
  have HV := Lib.hid (fun (w0 : World) (hw : Grow w w0) => readMost_any t most w.heap.size w0 ((ht.more hn).below hw) hw.size hok hm)
  have HLO := Lib.hid (fun (i : Nat) (hi : i < t.d.hands.length) (w0 : World) (hw : Grow w w0) => longest_any t i most w.heap.size w0 ((ht.more hn).below hw) hw.size hok hi hm)
  have hl3 := (okTask_parts hok).1.2
  have HMK := Lib.hid (fun (w0 : World) => make_full_int t.d.hands.length w0 (by omega))
  clear ht hn hok hm
  obtain ⟨ln, hln⟩ : ∃ q, t.d.hands.length = q := ⟨_, rfl⟩
  have HLN := Lib.hid hln
  rw [hln] at HLO HMK hl3 ⊢
  clear hln
  go_enter Try.func28, Try.ntmps28
  go_upto_region 1 with fail
  obtain ⟨W, hW, hg, hf, hsz⟩ := one_block w 25 (cellsT t)
  rw [hW]
  clear hW
  have htc := hf.cell
  have HG := Lib.hid hg
  clear hf hg
  go_wp2_with fail
  refine (HV.out _ HG.out).mono ?_
  rintro e w2 ⟨rfl, hb2⟩
  have HG2 : Hid (Grow W w2) := hb2
  clear htc hb2
  go_upto_region 2 with fail
  obtain ⟨W3, hW3, hg3, hs3, hsz3⟩ := one_block w2 67 (cellsT t)
  rw [hW3]
  clear hW3
  obtain ⟨b6, e6⟩ : ∃ q, w2.heap.size = q := ⟨_, rfl⟩
  rw [e6] at hs3 hsz3 ⊢
  have HG3 : Hid (Grow W W3) := HG2.out.trans hg3
  have HS3 := Lib.hid hs3
  have hsc0 : W3.cell? ⟨b6, 0, none⟩ = some (.slice t.A ln t.ca) := by rw [← HLN.out]; exact hs3.cell 0
  clear hg3 hs3
  have hmk := HMK.out W3
  go_upto_region 5 with fail
  obtain ⟨W4, hW4⟩ : ∃ q, W3.alloc (.cells (madeCells #[.int .i64 0] ln) 3) = q := ⟨_, rfl⟩
  obtain ⟨bp, ep⟩ : ∃ q, W3.heap.size = q := ⟨_, rfl⟩
  have hrow0 : RowAt W4 bp ln (natsL []) := by
    rw [← hW4, ← ep]
    exact ⟨_, BlockIs.new _ _ _, size_madeCells _ _, fun i x hi => by simp at hi⟩
  have HG4 : Hid (Grow W W4) := Lib.hid (by rw [← hW4]; exact HG3.out.trans (Grow.alloc _ _))
  have HS4 : Hid (BlockIs W4 b6 67 (cellsT t)) := Lib.hid (by rw [← hW4]; exact (Grow.alloc _ _).block HS3.out)
  have hb6p : b6 < bp := by rw [← ep]; exact HS3.out.lt
  have hwp : w.heap.size ≤ bp := by have := (HG.out.trans HG3.out).size; omega
  rw [hW4, ep]
  have HROW := Lib.hid hrow0
  clear hW4 ep hmk hrow0 HS3 HG3 hsc0 e6 hsz3
  go_wp2_with fail
  go_loopw [26] (fun iv wr => ∃ ks : List Nat, iv = .int .i64 ks.length ∧ ks.length ≤ ln ∧ (∀ (i k : Nat), ks[i]? = some k → LongIs t.d i most k) ∧ RowAt wr bp ln (natsL ks) ∧ Below bp W4 wr) (fun i _ => ln - (intOf i).toNat)
  case atStart => exact ⟨[], rfl, Nat.zero_le _, by simp, HROW.out, Below.refl _ _⟩
  case round =>
    obtain ⟨ks, rfl, hk, hall, hrow, hbw⟩ := hrel
    rename World => wr
    obtain ⟨k, hkk⟩ : ∃ q, ks.length = q := ⟨_, rfl⟩
    rw [hkk] at hk ⊢
    have HKK := Lib.hid hkk
    have HALL := Lib.hid hall
    have HRW := Lib.hid hrow
    have HBW := Lib.hid hbw
    have hs4 := HS4.out.below hbw hb6p
    have hsc := hs4.cell
    have HGR : Hid (Grow w wr) := Lib.hid ((HG.out.trans HG4.out).trans' (Below.mono hbw hwp))
    clear hall hrow hbw hs4 hkk
    by_cases hlt : k < ln
    · have hld : decide ((k : Int) < (ln : Int)) = true := decide_eq_true (by omega)
      have hln' : decide (k < ln) = true := decide_eq_true hlt
      have hki : (k : Int) < (ln : Int) := by omega
      have hk0 : (0 : Int) ≤ (k : Int) := by omega
      have HL := Lib.hid (HLO.out k hlt wr HGR.out)
      go_wp2_with fail
      refine HL.out.mono ?_
      rintro e w5 ⟨⟨kk, rfl, hli⟩, hb5⟩
      have hg5 : Grow wr w5 := hb5
      have hr5 : RowAt w5 bp ln (natsL ks) := HRW.out.keep (Below.block hg5 bp HRW.out.lt)
      obtain ⟨⟨vf, hvf⟩, hff⟩ := hr5.spot hlt
      have hput := hr5.put (by rw [natsL_len, HKK.out]; exact hlt) (kk : Int)
      rw [natsL_len, HKK.out] at hput
      have HPUT : Hid (RowAt (w5.setCell ⟨bp, k, none⟩ (.int .i64 kk)) bp ln (natsL (ks ++ [kk]))) := Lib.hid (by
        have e : natsL (ks ++ [kk]) = natsL ks ++ [(kk : Int)] := by simp
        rw [e]
        exact hput)
      have HB6 : Hid (Below bp W4 (w5.setCell ⟨bp, k, none⟩ (.int .i64 kk))) := Lib.hid ((HBW.out.trans (Below.mono hg5 (by have := HRW.out.lt; omega))).setCell (p := ⟨bp, k, none⟩) (Nat.le_refl _) _)
      have HLI := Lib.hid hli
      have HALLN : Hid (∀ (i j : Nat), (ks ++ [kk])[i]? = some j → LongIs t.d i most j) := Lib.hid (fun i j hj => by
        by_cases e : i < ks.length
        · rw [List.getElem?_append_left e] at hj
          exact HALL.out i j hj
        · have hl := lt_of_at hj
          simp at hl
          obtain rfl : i = ks.length := by omega
          simp at hj
          subst hj
          rw [HKK.out]
          exact HLI.out)
      have HKN : Hid ((ks ++ [kk]).length = k + 1) := Lib.hid (by rw [List.length_append, HKK.out]; rfl)
      clear hsc hb5 hg5 hr5 hput hli
      go_wp2
      go_roundw
      case rel => exact ⟨ks ++ [kk], by rw [HKN.out]; go_num, by rw [HKN.out]; omega, HALLN.out, HPUT.out, HB6.out⟩
      case measure => simp [intOf]; omega
    · obtain rfl : k = ln := by omega
      have hld : decide ((k : Int) < (k : Int)) = false := by simp
      have HRF : Hid (IntsF wr w.heap.size (some ⟨bp, 0, none⟩) (natsL ks)) := Lib.hid (by
        have h := HRW.out
        rw [← HKK.out, ← natsL_len] at h
        exact (h.full hwp).1)
      go_wp2
      exact bodyPost_ret (v := .tuple #[.slice (some ⟨bp, 0, none⟩) k k, .int .i64 0]) (by simp [results, Try.results28, go_sem]) rfl ⟨some ⟨bp, 0, none⟩, ks, rfl, ⟨HKK.out, HALL.out⟩, HRF.out, HGR.out⟩

end Go.Proofs.Ythlihchndmbkaaa
