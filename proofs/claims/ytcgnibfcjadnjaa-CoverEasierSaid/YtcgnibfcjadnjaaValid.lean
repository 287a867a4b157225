/- Valid: whether a pool is valid, as the program says. -/
import Derived.Test.YtcgnibfcjadnjaaAll
import Derived.BigQuiet
import Derived.Laws.EntriesVeiled
namespace Go.Proofs.Ytcgnibfcjadnjaa
open Go.RowKit

theorem quiet_same {P : Program} {f : FuncId} {args : Array Value} {w : World} {n : Nat} {v : Value} (h : Calls P f args (w.drewN n) fun e w' => e = .returned v ∧ w.drewN n = w') :
    Calls P f args (w.drewN n) fun e w'' => e = .returned v ∧ ∃ m, w'' = w.drewN m := h.mono fun _ _ ⟨he, hk⟩ => ⟨he, n, hk.symm⟩
/-- no slice of a pool is too long for a walk -/
def Short (d : PoolI) : Prop := d.folk.length ≤ 1000000 ∧ d.needs.length ≤ 1000000 ∧ ∀ r, r ∈ d.needs → r.length ≤ 1000000

set_option maxHeartbeats 400000 in
theorem validNeed_any (n : Int) (w : World) : Calls Try.prog 80 #[.int .i64 n] w fun e w' => e = .returned (.bool (inB n 0 8)) ∧ w = w' := by
  go_enter Try.func80, Try.ntmps80
  go_wp2_with (first | (go_at_call 70; refine (within_any _ _ _ _).mono ?_; rintro e w' ⟨rfl, rfl⟩))
  go_ret
  exact ⟨rfl, rfl⟩
set_option maxHeartbeats 400000 in
theorem isSet_any (n : Int) (e : Nat) (w : World) (he : e ≤ 20) : Calls Try.prog 85 #[.int .i64 n, .int .i64 e] w fun e' w' => e' = .returned (.bool (inB n 0 (2 ^ e - 1))) ∧ w = w' := by
  have h0 : (0 : Int) ≤ (e : Int) := by omega
  have h64 : e ≤ 64 := by omega
  have hpI : ((2 : Int) ^ e) = ((2 ^ e : Nat) : Int) := (Int.natCast_pow 2 _).symm
  have hp : 2 ^ e ≤ 1048576 := Nat.le_trans (Nat.pow_le_pow_right (n := 2) (by omega) he) (by decide)
  have hp1 : 1 ≤ 2 ^ e := Nat.one_le_two_pow
  rw [hpI]
  obtain ⟨z, hz⟩ : ∃ z, 2 ^ e = z := ⟨_, rfl⟩
  rw [hz] at hpI hp hp1 ⊢
  have hwr : IntKind.i64.wrap ((2 : Int) ^ e) = (z : Int) := by rw [hpI]; exact IntWalk.i64_in _ (by omega)
  have HWI := Lib.hid (fun w0 => within_any n 0 ((z : Int) - 1) w0)
  generalize inB n 0 ((z : Int) - 1) = r at HWI ⊢
  clear hpI hz
  go_enter Try.func85, Try.ntmps85
  go_wp2_with fail
  refine (HWI.out _).mono ?_
  rintro e w' ⟨rfl, rfl⟩
  go_wp2
  go_ret
  exact ⟨rfl, rfl⟩
theorem row_first {w : World} {B : Nat} {h : PoolH} {d : PoolI} (hA : Rows w B h.na d.needs) (hn : 0 < d.needs.length) : ∃ b off a c, h.na = some ⟨b, off, none⟩ ∧ b < B ∧ w.cell? ⟨b, off, none⟩ = some (.slice a (tnI d) c) := by
  obtain ⟨b, off, xs, a, c, h1, h2, h3, h4, h5⟩ := hA.at_ hn
  refine ⟨b, off, a, c, h1, h2, ?_⟩
  have h5 : d.needs[0]? = some xs := h5
  have : tnI d = xs.length := by unfold tnI; rw [List.getD_eq_getElem?_getD, h5]; rfl
  rw [this]
  simpa using h3
set_option maxRecDepth 100000 in
set_option maxHeartbeats 4000000 in
theorem validRow_any (h : PoolH) (d : PoolI) (pb pf : Nat) (xs : List Int) (a : Option Addr) (c : Nat) (w : World) (hb : BlockIs w pb 25 (cellsP h d)) (hf : BlockIs w pf 81 #[.func (.func 80) #[] #[]])
    (hA : Rows w w.heap.size h.na d.needs) (hn : 0 < d.needs.length) (hx : Ints w w.heap.size a xs) (hl : xs.length ≤ 1000000) :
    Calls Try.prog 81 #[.slice a xs.length c, .pointer (some ⟨pb, 0, none⟩), .pointer (some ⟨pf, 0, none⟩)] w fun e w' => e = .returned (.bool (okRow (tnI d) xs)) ∧ Below w.heap.size w w' := by
  have HAL := Lib.hid (allInt_any a c w.heap.size xs 1 5 w hx hl (Nat.le_refl _) 80 (fun x => inB x 0 8) (fun _ _ => by kernel_rfl) (fun x w0 => validNeed_any x w0))
  have HOK : Hid (okRow (tnI d) xs = (decide (xs.length = tnI d) && (inB xs.length 1 5 && xs.all fun x => inB x 0 8))) := rfl
  obtain ⟨b, off, a0, c0, hna, hbl, hc0⟩ := row_first hA hn
  obtain ⟨fa, fc, na, nc⟩ := h
  obtain rfl : na = _ := hna
  obtain ⟨ok, hok⟩ : ∃ z, okRow (tnI d) xs = z := ⟨_, rfl⟩
  obtain ⟨al, hal⟩ : ∃ z, (inB xs.length 1 5 && xs.all fun x => inB x 0 8) = z := ⟨_, rfl⟩
  rw [hok, hal] at HOK
  rw [hal] at HAL
  rw [hok]
  obtain ⟨tn, htn⟩ : ∃ z, tnI d = z := ⟨_, rfl⟩
  rw [htn] at hc0 HOK
  have hcb := hb.cell
  have hcf := hf.cell 0
  have hn0 : (0 : Int) < (d.needs.length : Int) := by omega
  clear hok hal htn hb hf hx hA
  go_enter Try.func81, Try.ntmps81
  by_cases he : xs.length = tn
  · have hq : ((xs.length : Int) == (tn : Int)) = true := by rw [he]; exact beq_self_eq_true _
    have HE := Lib.hid he
    clear he
    go_wp2_with fail
    refine HAL.out.mono ?_
    rintro e w2 ⟨rfl, hb2⟩
    have HB2 : Hid (Grow w w2) := hb2
    clear hb2
    go_wp2
    go_ret
    exact ⟨ret_bool (by rw [HOK.out, HE.out]; simp), HB2.out⟩
  · have hq : ((xs.length : Int) == (tn : Int)) = false := by rw [beq_eq_false_iff_ne]; omega
    go_wp2
    go_ret
    exact ⟨ret_bool (by rw [HOK.out, decide_eq_false he]; rfl), Grow.refl _⟩
set_option maxRecDepth 100000 in
set_option maxHeartbeats 4000000 in
theorem validFolk_any (h : PoolH) (d : PoolI) (pb : Nat) (x : FolkI) (w : World) (hb : BlockIs w pb 25 (cellsP h d)) (hA : Rows w w.heap.size h.na d.needs) (hn : 0 < d.needs.length) (ht : tnI d ≤ 20) (hnl : d.needs.length ≤ 20) :
    Calls Try.prog 84 #[folkV x, .pointer (some ⟨pb, 0, none⟩)] w fun e w' => e = .returned (.bool (okFolk (tnI d) d.needs.length x)) ∧ Below w.heap.size w w' := by
  have H1 := Lib.hid (fun w0 => isSet_any x.t (tnI d) w0 ht)
  have H2 := Lib.hid (fun w0 => isSet_any x.s d.needs.length w0 hnl)
  have H3 := Lib.hid (fun w0 => within_any x.y 0 1000 w0)
  have HOK : Hid (okFolk (tnI d) d.needs.length x = (inB x.t 0 (2 ^ tnI d - 1) && inB x.s 0 (2 ^ d.needs.length - 1) && inB x.y 0 1000)) := by
    show okFolk _ _ _ = _
    unfold okFolk
    rw [Int.toNat_natCast, Int.toNat_natCast]
  obtain ⟨b, off, a0, c0, hna, hbl, hc0⟩ := row_first hA hn
  obtain ⟨fa, fc, na, nc⟩ := h
  obtain rfl : na = _ := hna
  obtain ⟨ok, hok⟩ : ∃ z, okFolk (tnI d) d.needs.length x = z := ⟨_, rfl⟩
  rw [hok] at HOK ⊢
  obtain ⟨tn, htn⟩ : ∃ z, tnI d = z := ⟨_, rfl⟩
  rw [htn] at hc0 HOK H1
  generalize inB x.t 0 (2 ^ tn - 1) = q1 at H1 HOK
  generalize inB x.s 0 (2 ^ d.needs.length - 1) = q2 at H2 HOK
  generalize inB x.y 0 1000 = q3 at H3 HOK
  have hn0 : (0 : Int) < (d.needs.length : Int) := by omega
  obtain ⟨xt, xs, xy⟩ := x
  clear hok htn hA
  go_enter Try.func84, Try.ntmps84
  go_upto_region 1 with fail
  obtain ⟨W, hW, hg, hf, hsz⟩ := one_block w 62 (cellsF ⟨xt, xs, xy⟩)
  rw [hW]
  clear hW
  have hcc := hf.cell
  have hcb := (hg.block hb).cell
  have hc0 := hg.cell hc0
  have HG := Lib.hid hg
  clear hf hg hb
  cases q1 with
  | false =>
    go_quiet (first | (go_at_call 85; exact quiet_same (H1.out _)))
    go_wp2
    go_ret
    exact ⟨ret_bool (by rw [HOK.out]; rfl), Below.drewN_ HG.out _⟩
  | true =>
    cases q2 with
    | false =>
      go_quiet (first | (go_at_call 85; first | exact quiet_same (H1.out _) | exact quiet_same (H2.out _)))
      go_wp2
      go_ret
      exact ⟨ret_bool (by rw [HOK.out]; rfl), Below.drewN_ HG.out _⟩
    | true =>
      go_quiet (first | (go_at_call 85; first | exact quiet_same (H1.out _) | exact quiet_same (H2.out _)) | (go_at_call 70; exact quiet_same (H3.out _)))
      go_wp2
      go_ret
      exact ⟨ret_bool (by rw [HOK.out]; simp), Below.drewN_ HG.out _⟩
theorem okRow_tn {d : PoolI} (h : (inB d.needs.length 1 6 && d.needs.all (okRow (tnI d))) = true) : 0 < d.needs.length ∧ d.needs.length ≤ 6 ∧ tnI d ≤ 5 := by
  rw [Bool.and_eq_true, List.all_eq_true, inB_iff] at h
  obtain ⟨h1, h2⟩ := h
  refine ⟨by omega, by omega, ?_⟩
  unfold tnI
  cases hn : d.needs with
  | nil => rw [hn] at h1; simp at h1
  | cons r l =>
    have := h2 r (by rw [hn]; simp)
    unfold okRow at this
    simp only [Bool.and_eq_true, inB_iff, decide_eq_true_eq] at this
    have := this.2.1.2
    show r.length ≤ 5
    omega
set_option maxRecDepth 100000 in
set_option maxHeartbeats 4000000 in
theorem validPool_any (h : PoolH) (d : PoolI) (w : World) (hA : PoolAt w w.heap.size h d) (hs : Short d) :
    Calls Try.prog 73 #[poolV h d] w fun e w' => e = .returned (.bool (okPool d)) ∧ Below w.heap.size w w' := by
  obtain ⟨s1, s2, s3⟩ := hs
  have HR := Lib.hid (fun (w0 : World) (pb pf : Nat) (hw : Grow w w0) (hb : BlockIs w0 pb 25 (cellsP h d)) (hf : BlockIs w0 pf 81 #[.func (.func 80) #[] #[]]) =>
    allRow_any h.na h.nc w0.heap.size d.needs 1 6 w0 (hA.grow hw).2 s2 (Nat.le_refl _) 81 #[.pointer (some ⟨pb, 0, none⟩), .pointer (some ⟨pf, 0, none⟩)] (okRow (tnI d)) (fun _ _ => by kernel_rfl)
      (fun x a ca w' hx hw' hxi => validRow_any h d pb pf x a ca w' (hw'.block hb) (hw'.block hf) (hA.grow (hw.trans hw')).2 (List.length_pos_of_mem hx) hxi (s3 x hx)))
  have HF := Lib.hid (fun (w0 : World) (pb : Nat) (hw : Grow w w0) (hb : BlockIs w0 pb 25 (cellsP h d)) (hok : (inB d.needs.length 1 6 && d.needs.all (okRow (tnI d))) = true) =>
    allFolk_any h.fa h.fc w0.heap.size d.folk 1 8 w0 (hA.grow hw).1 s1 (Nat.le_refl _) 84 #[.pointer (some ⟨pb, 0, none⟩)] (okFolk (tnI d) d.needs.length) (fun _ _ => by kernel_rfl)
      (fun x w' hx hw' => validFolk_any h d pb x w' (hw'.block hb) (hA.grow (hw.trans hw')).2 (okRow_tn hok).1 (by have := okRow_tn hok; omega) (by have := okRow_tn hok; omega)))
  have H1 := Lib.hid (fun w0 => within_any d.ill 0 3 w0)
  have H2 := Lib.hid (fun w0 => within_any d.most 0 6 w0)
  have HOK : Hid (okPool d = ((inB d.needs.length 1 6 && d.needs.all (okRow (tnI d))) && ((inB d.folk.length 1 8 && d.folk.all (okFolk (tnI d) d.needs.length)) && inB d.ill 0 3 && inB d.most 0 6))) := rfl
  obtain ⟨ok, hok⟩ : ∃ z, okPool d = z := ⟨_, rfl⟩
  rw [hok] at HOK ⊢
  generalize (inB d.needs.length 1 6 && d.needs.all (okRow (tnI d))) = q1 at HR HF HOK
  generalize (inB d.folk.length 1 8 && d.folk.all (okFolk (tnI d) d.needs.length)) = q2 at HF HOK
  generalize inB d.ill 0 3 = q3 at H1 HOK
  generalize inB d.most 0 6 = q4 at H2 HOK
  obtain ⟨fa, fc, na, nc⟩ := h
  clear hok hA
  go_enter Try.func73, Try.ntmps73
  go_upto_region 2 with fail
  obtain ⟨W, hW, hg, hf, hf2, hsz⟩ := two_blocks w 25 81 (cellsP ⟨fa, fc, na, nc⟩ d) #[.func (.func 80) #[] #[]]
  rw [hW]
  clear hW
  have hcc := hf.cell
  have HB := Lib.hid hf
  have HB2 := Lib.hid hf2
  have HG := Lib.hid hg
  clear hf hg hf2
  go_wp2_with fail
  refine (HR.out W _ _ HG.out HB.out HB2.out).mono ?_
  rintro e w1 ⟨rfl, hb1⟩
  have HG1 : Hid (Grow W w1) := hb1
  clear hb1 hcc
  have hcc := (HG1.out.block HB.out).cell
  cases q1 with
  | false =>
    go_wp2
    go_ret
    exact ⟨ret_bool (by rw [HOK.out]; rfl), HG.out.trans HG1.out⟩
  | true =>
    go_wp2_with fail
    refine (HF.out w1 _ (HG.out.trans HG1.out) (HG1.out.block HB.out) (by first | rfl | trivial)).mono ?_
    rintro e w2 ⟨rfl, hb2⟩
    have HG2 : Hid (Grow W w2) := Lib.hid (HG1.out.trans hb2)
    clear hb2 hcc
    have hcc := (HG2.out.block HB.out).cell
    cases q2 with
    | false =>
      go_wp2
      go_ret
      exact ⟨ret_bool (by rw [HOK.out]; rfl), HG.out.trans HG2.out⟩
    | true =>
      go_wp2_with fail
      refine (H1.out _).mono ?_
      rintro e w3 ⟨rfl, rfl⟩
      cases q3 with
      | false =>
        go_wp2
        go_ret
        exact ⟨ret_bool (by rw [HOK.out]; rfl), HG.out.trans HG2.out⟩
      | true =>
        go_wp2_with fail
        refine (H2.out _).mono ?_
        rintro e w3 ⟨rfl, rfl⟩
        go_wp2
        go_ret
        exact ⟨ret_bool (by rw [HOK.out]; simp), HG.out.trans HG2.out⟩

end Go.Proofs.Ytcgnibfcjadnjaa
