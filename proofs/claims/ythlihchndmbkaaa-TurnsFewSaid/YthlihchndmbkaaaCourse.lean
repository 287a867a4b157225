/- Course: validSpan, low, high, worst, best, begin. -/
import Derived.Test.YthlihchndmbkaaaTask
import Derived.Deep.DeepCutAuto
import Derived.Shelf.Abstract
namespace Go.Proofs.Ythlihchndmbkaaa
open Go.RowKit

set_option maxHeartbeats 800000 in
theorem validSpan_any (lo hi most : Int) (w : World) :
    Calls Try.prog 83 #[spanV lo hi, .int .i64 most] w fun e w' => e = .returned (.bool (okSpan lo hi most)) ∧ Below w.heap.size w w' := by
  have HO : Hid (okSpan lo hi most = (decide (0 ≤ lo) && (decide (lo ≤ hi) && decide (hi ≤ most)))) := rfl
  generalize okSpan lo hi most = ok at HO ⊢
  go_enter Try.func83, Try.ntmps83
  go_upto_region 1 with fail
  obtain ⟨W, hW, hg, hf, hsz⟩ := one_block w 47 #[.int .i64 lo, .int .i64 hi]
  rw [hW]
  clear hW
  have HG := Lib.hid hg
  have hfc := hf.cell
  clear hg hf
  by_cases h1 : 0 ≤ lo
  · have d1 : decide (0 ≤ lo) = true := decide_eq_true h1
    by_cases h2 : lo ≤ hi
    · have d2 : decide (lo ≤ hi) = true := decide_eq_true h2
      by_cases h3 : hi ≤ most
      · have d3 : decide (hi ≤ most) = true := decide_eq_true h3
        go_wp2
        go_ret
        exact ⟨ret_bool (by rw [HO.out, d1, d2, d3]; rfl), HG.out⟩
      · have d3 : decide (hi ≤ most) = false := decide_eq_false h3
        go_wp2
        go_ret
        exact ⟨ret_bool (by rw [HO.out, d1, d2, d3]; rfl), HG.out⟩
    · have d2 : decide (lo ≤ hi) = false := decide_eq_false h2
      go_wp2
      go_ret
      exact ⟨ret_bool (by rw [HO.out, d1, d2]; rfl), HG.out⟩
  · have d1 : decide (0 ≤ lo) = false := decide_eq_false h1
    go_wp2
    go_ret
    exact ⟨ret_bool (by rw [HO.out, d1]; rfl), HG.out⟩

set_option maxHeartbeats 400000 in
theorem low_any (lo hi : Int) (w : World) : Calls Try.prog 67 #[spanV lo hi] w fun e w' => e = .returned (.int .i64 lo) ∧ Below w.heap.size w w' := by
  go_enter Try.func67, Try.ntmps67
  go_wp2
  go_ret
  exact ⟨rfl, Grow.alloc _ _⟩
set_option maxHeartbeats 400000 in
theorem high_any (lo hi : Int) (w : World) : Calls Try.prog 68 #[spanV lo hi] w fun e w' => e = .returned (.int .i64 hi) ∧ Below w.heap.size w w' := by
  go_enter Try.func68, Try.ntmps68
  go_wp2
  go_ret
  exact ⟨rfl, Grow.alloc _ _⟩

/-- f is a function that returns the upper end of a span (hi), or the lower one -/
structure EndFn (hi : Bool) (f : Nat) : Prop where
  enters : ∀ args w, (callFunc f args).run Try.prog w = .ok (.enter f args) w
  calls : ∀ (lo up : Int) (w : World), Calls Try.prog f #[spanV lo up] w fun e w' => e = .returned (.int .i64 (if hi = true then up else lo)) ∧ Below w.heap.size w w'
theorem endFn_high : EndFn true 68 := ⟨Go.Proofs.enters_of Try.func68 (by kernel_rfl) rfl, high_any⟩
theorem endFn_low : EndFn false 67 := ⟨Go.Proofs.enters_of Try.func67 (by kernel_rfl) rfl, low_any⟩
abbrev endV (f : Nat) : Value := .func (.func f) #[] #[]
abbrev cellsC (f g : Nat) (t : TaskR) : Array Value := #[.slice t.A t.d.hands.length t.ca, .slice t.B t.d.parts.length t.cb, .int .i64 t.d.limit, .int .i64 t.d.rest, .int .i64 t.d.swap, endV f, endV g]
abbrev courseV (f g : Nat) (t : TaskR) : Value := .agg (cellsC f g t)

theorem results_course {fn : Func} (h : fn.results = #[.cell 2 80]) (t : Array Value) (W : World) (b : Nat) (v0 v1 v2 v3 v4 v5 v6 : Value)
    (hb : BlockIs W b 80 #[v0, v1, v2, v3, v4, v5, v6]) (ht : t.getD 2 undef = .pointer (some ⟨b, 0, none⟩)) :
    (results fn t).run Try.prog W = .ok (.agg #[v0, v1, v2, v3, v4, v5, v6]) W := by
  have hc := hb.cell
  simp only [results, h]
  simp at ht
  simp [go_sem, ht, hc]
theorem results_state2 {fn : Func} (h : fn.results = #[.cell 2 77]) (t : Array Value) (W : World) (b : Nat) (v0 v1 v2 v3 v4 v5 : Value)
    (hb : BlockIs W b 77 #[v0, v1, v2, v3, v4, v5]) (ht : t.getD 2 undef = .pointer (some ⟨b, 0, none⟩)) :
    (results fn t).run Try.prog W = .ok (.agg #[v0, v1, v2, v3, v4, v5]) W := by
  have hc := hb.cell
  simp only [results, h]
  simp at ht
  simp [go_sem, ht, hc]

set_option maxRecDepth 100000 in
set_option maxHeartbeats 4000000 in
theorem begin_any (hi : Bool) (f g : Nat) (hf : EndFn hi f) (t : TaskR) (n : Nat) (w : World) (ht : TaskAt w n t) (hn : n ≤ w.heap.size) (hl : t.d.hands.length ≤ 3) :
    Calls Try.prog 64 #[courseV f g t] w fun e w' => e = .returned (stV (beginD hi t.d)) ∧ Below w.heap.size w w' := by
  obtain ⟨⟨hs, ps, limit, rest, swap⟩, A, ca, B, cb⟩ := t
  dsimp only at hl
  have HT := Lib.hid (ht.more hn)
  have HBD : Hid (beginD hi ⟨hs, ps, limit, rest, swap⟩ = beginTo hi hs hs.length) := rfl
  clear ht hn
  have HE := Lib.hid (fun (h : HandD) (w0 : World) => show Calls Try.prog f #[spanV h.s0 h.s1] w0 fun e w' => e = .returned (.int .i64 (startOf hi h)) ∧ Below w0.heap.size w0 w' from hf.calls h.s0 h.s1 w0)
  have hent := hf.enters
  clear hf
  go_enter Try.func64, Try.ntmps64
  go_upto_region 2 with fail
  obtain ⟨W, hW, hg, hC, hR, hS, hsz⟩ := three_blocks w 80 77 77 (cellsC f g ⟨⟨hs, ps, limit, rest, swap⟩, A, ca, B, cb⟩) #[.int .i64 0, .int .i64 0, .int .i64 0, .int .i64 0, .int .i64 0, .int .i64 0] #[.int .i64 0, .int .i64 0, .int .i64 0, .int .i64 0, .int .i64 0, .int .i64 0]
  rw [hW]
  clear hW
  have HG := Lib.hid hg
  have HC := Lib.hid hC
  have HR := Lib.hid hR
  obtain ⟨b2, e2⟩ : ∃ b, w.heap.size + 1 + 1 = b := ⟨_, rfl⟩
  rw [e2] at hS hsz ⊢
  obtain ⟨b1, e1⟩ : ∃ b, w.heap.size + 1 = b := ⟨_, rfl⟩
  rw [e1] at HR ⊢
  have h12 : b1 < b2 := by omega
  have h01 : w.heap.size < b1 := by omega
  clear e1 e2
  have HS := Lib.hid hS
  have hcc := hC.cell
  clear hg hC hR hS
  go_wp2_with fail
  clear hcc
  go_loopw [11] (fun iv wr => ∃ k : Nat, k ≤ hs.length ∧ iv = .int .i64 k ∧ BlockIs wr b2 77 (cellsS (beginTo hi hs k)) ∧ Below b2 W wr) (fun i _ => hs.length - (intOf i).toNat)
  case atStart => exact ⟨0, Nat.zero_le _, rfl, HS.out, Below.refl _ _⟩
  case round =>
    obtain ⟨k, hk, rfl, hSk, hbw⟩ := hrel
    rename World => wr
    have HB := Lib.hid hbw
    have HSk := Lib.hid hSk
    have hz := hbw.size
    have hcc := (HC.out.below hbw (by omega)).cell
    have HGw : Hid (Grow w wr) := HG.out.trans' (Below.mono hbw (by omega))
    clear hbw hSk
    by_cases hlt : k < hs.length
    · have hk3 : k < 3 := by omega
      obtain ⟨b, off, x, rfl, hb, hc, HX⟩ := (HT.out.below HGw.out).1.at_ hlt
      have e0 := hc 0 (by omega); have e1 := hc 1 (by omega); have e2 := hc 2 (by omega); have e3 := hc 3 (by omega); have e4 := hc 4 (by omega); have e5 := hc 5 (by omega); have e6 := hc 6 (by omega)
      rw [Nat.add_zero] at e0
      have HBS : Hid (beginTo hi hs (k + 1) = (beginTo hi hs k).set k (startOf hi x)) := Lib.hid (by
        show (beginTo hi hs k).set k _ = _
        rw [HX.out]
        rfl)
      have HEX := Lib.hid (HE.out x)
      clear hc hb
      go_upto_region 5 with fail
      obtain ⟨W3, hW3, hg3, hx3, hsz3⟩ := one_block wr 52 (cellsH x)
      rw [hW3]
      clear hW3 e0 e1 e2 e3 e4 e5 e6 hcc
      have hcc := (hg3.block (HC.out.below HB.out (by omega))).cell
      have hxc := hx3.cell
      have HG3 := Lib.hid hg3
      have HX3 := Lib.hid hx3
      have hz3 := hg3.size
      clear hg3 hx3
      go_wp2_with fail
      refine (HEX.out _).mono ?_
      rintro e w4 ⟨rfl, hb4⟩
      have hg4 : Grow wr w4 := HG3.out.trans hb4
      have hS4 := hg4.block HSk.out
      have hsc := (hS4.cell k).trans (StD.cell _ hk3)
      have hsf := hS4.frozen
      have HS5 : Hid (BlockIs (w4.setCell ⟨b2, k, none⟩ (.int .i64 (startOf hi x))) b2 77 (cellsS (beginTo hi hs (k + 1)))) := Lib.hid (by
        have h := hS4.near k (.int .i64 (startOf hi x))
        rw [StD.put _ hk3] at h
        rw [HBS.out]
        exact h)
      have HB5 : Hid (Below b2 W (w4.setCell ⟨b2, k, none⟩ (.int .i64 (startOf hi x)))) := Lib.hid ((HB.out.trans (Below.mono hg4 (by omega))).setCell (p := ⟨b2, k, none⟩) (Nat.le_refl _) _)
      clear hcc hxc hb4 hg4 hS4
      go_wp2
      go_roundw
      case rel => exact ⟨k + 1, by omega, by go_num, HS5.out, HB5.out⟩
      case measure => simp [intOf]; omega
    · obtain rfl : k = hs.length := by omega
      have hsc := HSk.out.cell
      have hR1 := HR.out.below HB.out h12
      have hrc := hR1.cell
      have hrf := hR1.frozen
      obtain ⟨r, hr⟩ : ∃ r, beginD hi ⟨hs, ps, limit, rest, swap⟩ = r := ⟨_, rfl⟩
      rw [← HBD.out, hr] at hsc
      have HRR := Lib.hid hr
      clear hr
      have H6 := Lib.hid (six_stores hR1 (.int .i64 r.w0) (.int .i64 r.w1) (.int .i64 r.w2) (.int .i64 r.parts) (.int .i64 r.mis) (.int .i64 r.last))
      have hb6 := six_below (w := wr) (B := w.heap.size) (b := b1) (by omega) (.int .i64 r.w0) (.int .i64 r.w1) (.int .i64 r.w2) (.int .i64 r.parts) (.int .i64 r.mis) (.int .i64 r.last)
      have HF : Hid (Below w.heap.size w _) := Lib.hid (HGw.out.trans' hb6)
      clear hR1 hb6 hcc
      go_wp2
      exact bodyPost_ret (results_state2 Try.results64 _ _ b1 _ _ _ _ _ _ H6.out rfl) rfl ⟨by rw [HRR.out], HF.out⟩

end Go.Proofs.Ythlihchndmbkaaa
