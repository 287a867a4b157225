/- ReadG: validMessages, hasFrame. -/
import Derived.Test.YtinlojealfbbfaaValidG
import Derived.Test.YtinlojealfbbfaaGather
namespace Go.Proofs.Ytinlojealfbbfaa
open Go.RowKit

set_option maxRecDepth 100000 in
set_option maxHeartbeats 2000000 in
theorem validMessages1_any (f : FilmsR) (m h : RowG) (g : GlossD) (b n : Nat) (w : World) (hb : BlockIs w b 71 (cellsN f m h)) (hf : Ints w n f.A f.d.frames) (hn : n ≤ w.heap.size) (hok : okFilms f.d = true) :
    Calls Try.prog 74 #[glossV g, .pointer (some ⟨b, 0, none⟩)] w fun e w' => e = .returned (.bool (!okGloss f.d g)) ∧ Below w.heap.size w w' := by
  have HV := Lib.hid (fun (w0 : World) (hw : Grow w w0) => validMessage_any f m h g w.heap.size w0 ((hf.more hn).below hw) hw.size hok)
  generalize okGloss f.d g = r at HV ⊢
  clear hf hn hok
  go_enter Try.func74, Try.ntmps74
  go_upto_region 1 with fail
  obtain ⟨W, hW, hg, hf, hsz⟩ := one_block w 55 (cellsG g)
  rw [hW]
  clear hW
  have hcc := (Grow.block hg hb).cell
  have hgc := hf.cell
  have HG := Lib.hid hg
  clear hf hg hb
  go_wp2_with fail
  refine (HV.out _ HG.out).mono ?_
  rintro e w2 ⟨rfl, hb2⟩
  have HG2 : Hid (Grow W w2) := hb2
  clear hcc hgc hb2
  go_wp2
  go_ret
  exact ⟨rfl, HG.out.trans HG2.out⟩

set_option maxRecDepth 100000 in
set_option maxHeartbeats 2000000 in
theorem validMessages_any (f : FilmsR) (m h : RowG) (l : List GlossD) (A : Option Addr) (c n : Nat) (w : World) (hf : Ints w n f.A f.d.frames) (hA : GlossAt w n A l) (hn : n ≤ w.heap.size) (hl : l.length ≤ 1000000) (hok : okFilms f.d = true) :
    Calls Try.prog 61 #[notesV f m h, .slice A l.length c] w fun e w' => e = .returned (.bool (okMsgs f.d l)) ∧ Below w.heap.size w w' := by
  have HC := Lib.hid (fun (w0 : World) (hw : Grow w w0) (b : Nat) (hb : BlockIs w0 b 71 (cellsN f m h)) => containsFuncGloss_any A c w0.heap.size l w0 (((hA.more hn).below hw).more hw.size) hl (Nat.le_refl _) 74 (.pointer (some ⟨b, 0, none⟩)) (fun x => !okGloss f.d x) (fun _ _ => by kernel_rfl) (fun x w1 _ hg => validMessages1_any f m h x b w1.heap.size w1 (hg.block hb) (((hf.more hn).below (hw.trans hg)).more (hw.trans hg).size) (Nat.le_refl _) hok))
  have hany : (l.any fun x => !okGloss f.d x) = !(l.all (okGloss f.d)) := by rw [List.all_eq_not_any_not, Bool.not_not]
  rw [hany] at HC
  have HO : Hid (okMsgs f.d l = (decide (l.length ≤ 40) && l.all (okGloss f.d))) := rfl
  generalize okMsgs f.d l = r at HO ⊢
  generalize l.all (okGloss f.d) = a at HC HO
  clear hf hA hn hok hany
  go_enter Try.func61, Try.ntmps61
  go_upto_region 1 with fail
  obtain ⟨W, hW, hg, hf, hsz⟩ := one_block w 71 (cellsN f m h)
  rw [hW]
  clear hW
  have HG := Lib.hid hg
  have HF := Lib.hid hf
  clear hf hg
  by_cases h40 : l.length ≤ 40
  · have d1 : decide ((l.length : Int) ≤ 40) = true := decide_eq_true (by omega)
    have d2 : decide (l.length ≤ 40) = true := decide_eq_true h40
    have HR : Hid (r = a) := Lib.hid (by rw [HO.out, d2]; rfl)
    clear h40
    go_wp2_with fail
    refine (HC.out _ HG.out _ HF.out).mono ?_
    rintro e w2 ⟨rfl, hb2⟩
    have HG2 : Hid (Grow W w2) := hb2
    clear hb2
    go_wp2
    go_ret
    exact ⟨ret_bool HR.out.symm, HG.out.trans HG2.out⟩
  · have d1 : decide ((l.length : Int) ≤ 40) = false := decide_eq_false (by omega)
    have d2 : decide (l.length ≤ 40) = false := decide_eq_false h40
    have HR : Hid (r = false) := Lib.hid (by rw [HO.out, d2]; rfl)
    clear h40
    go_wp2
    go_ret
    exact ⟨ret_bool HR.out.symm, HG.out⟩

set_option maxRecDepth 100000 in
set_option maxHeartbeats 2000000 in
theorem hasFrame_any (f : FilmsR) (m h : RowG) (k frame : Int) (n : Nat) (w : World) (hf : Ints w n f.A f.d.frames) (hn : n ≤ w.heap.size) (hok : okFilms f.d = true) :
    Calls Try.prog 47 #[notesV f m h, .int .i64 k, .int .i64 frame] w fun e w' => e = .returned (.bool (inB k 0 (f.d.frames.length - 1) && inB frame 0 (frameOf f.d k - 1))) ∧ Below w.heap.size w w' := by
  obtain ⟨⟨frames, signs⟩, A, ca⟩ := f
  have hln := (okFilms_parts hok).1
  dsimp only at hln hf
  have HF := Lib.hid (fun w0 => hasFilm_any ⟨⟨frames, signs⟩, A, ca⟩ m h k w0 (by dsimp only; omega))
  have HFR := Lib.hid (fun (h0 : 0 ≤ k) (h1 : k ≤ frames.length - 1) => frameOf_at (f := ⟨frames, signs⟩) hok h0 h1)
  have HW := Lib.hid (fun w0 => within_any frame 0 (frameOf ⟨frames, signs⟩ k - 1) w0)
  have HI := Lib.hid (hf.more hn)
  dsimp only at HF ⊢
  obtain ⟨c1, hc1⟩ : ∃ q, inB k 0 (frames.length - 1) = q := ⟨_, rfl⟩
  rw [hc1] at HF ⊢
  have HC1 := Lib.hid hc1
  clear hc1 hok hf hn
  obtain ⟨fr, hfr⟩ : ∃ q, frameOf ⟨frames, signs⟩ k = q := ⟨_, rfl⟩
  rw [hfr] at HFR HW ⊢
  generalize inB frame 0 (fr - 1) = c2 at HW ⊢
  clear hfr
  go_enter Try.func47, Try.ntmps47
  go_upto_region 1 with fail
  obtain ⟨W, hW, hg, hf, hsz⟩ := one_block w 71 (cellsN ⟨⟨frames, signs⟩, A, ca⟩ m h)
  rw [hW]
  clear hW
  have hcc := hf.cell
  have HG := Lib.hid hg
  have HB := Lib.hid hf
  clear hf hg
  go_wp2_with fail
  refine (HF.out _).mono ?_
  rintro e w2 ⟨rfl, hb2⟩
  have HG2 : Hid (Grow W w2) := hb2
  clear hb2
  cases c1
  · clear hcc
    go_wp2
    go_ret
    exact ⟨rfl, HG.out.trans HG2.out⟩
  · have hfi := inB_iff.1 HC1.out
    obtain ⟨j, rfl⟩ := Int.eq_ofNat_of_zero_le hfi.1
    have hfx := HFR.out (by omega) hfi.2
    rw [Int.toNat_natCast] at hfx
    have hjl : j < frames.length := lt_of_at hfx.1
    obtain ⟨bf, off, x, rfl, hbf, hxc, HX⟩ := (HI.out.below (HG.out.trans HG2.out)).at_ hjl
    have hxe : x = fr := by
      have h1 := HX.out
      have h2 := hfx.1
      try dsimp only at h1 h2
      rw [h2] at h1
      exact (Option.some.inj h1).symm
    subst hxe
    have hki : (j : Int) < (frames.length : Int) := by omega
    have hk0 : (0 : Int) ≤ (j : Int) := by omega
    have hx1 := hfx.2.1
    have hx2 := hfx.2.2
    have hcc := (HG2.out.block HB.out).cell
    clear hfx hbf
    go_wp2_with fail
    refine (HW.out _).mono ?_
    rintro e w3 ⟨rfl, rfl⟩
    go_wp2
    go_ret
    exact ⟨rfl, HG.out.trans HG2.out⟩

end Go.Proofs.Ytinlojealfbbfaa
