/- Hold: which glosses hold, and those of a frame. -/
import Derived.Test.YtinlojealfbbfaaPick
namespace Go.Proofs.Ytinlojealfbbfaa
open Go.RowKit

set_option maxRecDepth 100000 in
set_option maxHeartbeats 2000000 in
theorem replaces_any (x y : GlossD) (b : Nat) (w : World) (hb : BlockIs w b 55 (cellsG x)) (hx : SmallG x) (hy : SmallG y) :
    Calls Try.prog 81 #[glossV y, .pointer (some ⟨b, 0, none⟩)] w fun e w' => e = .returned (.bool (replD x y)) ∧ Below w.heap.size w w' := by
  have HC := Lib.hid (fun w0 => common_any x y w0 hx hy)
  have HO : Hid (replD x y = (((decide (y.author = x.author) && decide (y.film = x.film)) && decide (x.stamp < y.stamp)) && decide (0 < commonD x y))) := rfl
  generalize replD x y = r at HO ⊢
  generalize commonD x y = cm at HO HC
  clear hx hy
  go_enter Try.func81, Try.ntmps81
  go_upto_region 1 with fail
  obtain ⟨W, hW, hg, hf, hsz⟩ := one_block w 55 (cellsG y)
  rw [hW]
  clear hW
  have hxc := (Grow.block hg hb).cell
  have hyc := hf.cell
  have HG := Lib.hid hg
  clear hf hg hb
  by_cases h1 : y.author = x.author
  · have d1 : decide (y.author = x.author) = true := decide_eq_true h1
    have b1 : (y.author == x.author) = true := by simpa using h1
    clear h1
    by_cases h2 : y.film = x.film
    · have d2 : decide (y.film = x.film) = true := decide_eq_true h2
      have b2 : (y.film == x.film) = true := by simpa using h2
      clear h2
      by_cases h3 : x.stamp < y.stamp
      · have d3 : decide (x.stamp < y.stamp) = true := decide_eq_true h3
        have HR : Hid (r = decide (0 < cm)) := Lib.hid (by rw [HO.out, d1, d2, d3]; rfl)
        clear h3
        go_wp2_with fail
        refine (HC.out _).mono ?_
        rintro e w2 ⟨rfl, hb2⟩
        have HG2 : Hid (Grow W w2) := hb2
        clear hxc hyc hb2
        go_wp2
        go_ret
        exact ⟨ret_bool HR.out.symm, HG.out.trans HG2.out⟩
      · have d3 : decide (x.stamp < y.stamp) = false := decide_eq_false h3
        have HR : Hid (r = false) := Lib.hid (by rw [HO.out, d3]; simp)
        clear h3
        go_wp2
        go_ret
        exact ⟨ret_bool HR.out.symm, HG.out⟩
    · have d2 : decide (y.film = x.film) = false := decide_eq_false h2
      have b2 : (y.film == x.film) = false := by simpa using h2
      have HR : Hid (r = false) := Lib.hid (by rw [HO.out, d2]; simp)
      clear h2
      go_wp2
      go_ret
      exact ⟨ret_bool HR.out.symm, HG.out⟩
  · have d1 : decide (y.author = x.author) = false := decide_eq_false h1
    have b1 : (y.author == x.author) = false := by simpa using h1
    have HR : Hid (r = false) := Lib.hid (by rw [HO.out, d1]; simp)
    clear h1
    go_wp2
    go_ret
    exact ⟨ret_bool HR.out.symm, HG.out⟩

set_option maxRecDepth 100000 in
set_option maxHeartbeats 2000000 in
theorem holds_any (l : List GlossD) (x : GlossD) (A : Option Addr) (cap bm : Nat) (w : World) (hm : BlockIs w bm 25 #[.slice A l.length cap]) (hA : GlossAt w w.heap.size A l) (hl : l.length ≤ 1000) (hs : ∀ y ∈ l, SmallG y) (hx : SmallG x) :
    Calls Try.prog 80 #[glossV x, .pointer (some ⟨bm, 0, none⟩)] w fun e w' => e = .returned (.bool (holdsD l x)) ∧ Below w.heap.size w w' := by
  have HO : Hid (holdsD l x = (decide (x.signs ≠ 0) && !l.any (replD x))) := rfl
  have HCF := Lib.hid (fun (w0 : World) (hw : Grow w w0) (b : Nat) (hb : BlockIs w0 b 55 (cellsG x)) => containsFuncGloss_any A cap w0.heap.size l w0 ((hA.below hw).more hw.size) (by omega) (Nat.le_refl _) 81 (.pointer (some ⟨b, 0, none⟩)) (replD x) (fun _ _ => by kernel_rfl) (fun y w1 hy hg => replaces_any x y b w1 (hg.block hb) hx (hs y hy)))
  generalize holdsD l x = r at HO ⊢
  generalize l.any (replD x) = an at HO HCF
  clear hA hl hs hx
  go_enter Try.func80, Try.ntmps80
  go_upto_region 1 with fail
  obtain ⟨W, hW, hg, hf, hsz⟩ := one_block w 55 (cellsG x)
  rw [hW]
  clear hW
  have hmc : W.cell? ⟨bm, 0, none⟩ = some (.slice A l.length cap) := (Grow.block hg hm).cell 0
  have hyc := hf.cell
  have HG := Lib.hid hg
  have HF := Lib.hid hf
  clear hf hg hm
  by_cases h1 : x.signs = 0
  · have d1 : decide (x.signs = 0) = true := decide_eq_true h1
    have b1 : (x.signs != 0) = false := by simp [h1]
    have HR : Hid (r = false) := Lib.hid (by rw [HO.out]; simp [h1])
    clear h1
    go_wp2
    go_ret
    exact ⟨ret_bool HR.out.symm, HG.out⟩
  · have d1 : decide (x.signs = 0) = false := decide_eq_false h1
    have b1 : (x.signs != 0) = true := by simpa using h1
    have HR : Hid (r = !an) := Lib.hid (by rw [HO.out]; simp [h1])
    clear h1
    go_wp2_with fail
    refine (HCF.out _ HG.out _ HF.out).mono ?_
    rintro e w2 ⟨rfl, hb2⟩
    have HG2 : Hid (Grow W w2) := hb2
    clear hmc hyc hb2
    go_wp2
    go_ret
    exact ⟨ret_bool HR.out.symm, HG.out.trans HG2.out⟩

set_option maxRecDepth 100000 in
set_option maxHeartbeats 2000000 in
theorem holding_any (l : List GlossD) (A : Option Addr) (cap n : Nat) (w : World) (hA : GlossAt w n A l) (hn : n ≤ w.heap.size) (hl : l.length ≤ 1000) (hs : ∀ y ∈ l, SmallG y) :
    Calls Try.prog 63 #[.slice A l.length cap] w fun e w' => ∃ A' c', e = .returned (.slice A' (l.filter (holdsD l)).length c') ∧ GlossT w' w.heap.size A' c' (l.filter (holdsD l)) ∧ Below w.heap.size w w' := by
  have HP := Lib.hid (fun (w0 : World) (hw : Grow w w0) (bm : Nat) (hm : BlockIs w0 bm 25 #[.slice A l.length cap]) => pick1_any A cap w0.heap.size l w0 (((hA.more hn).below hw).more hw.size) hl (Nat.le_refl _) 80 (.pointer (some ⟨bm, 0, none⟩)) (holdsD l) (fun _ _ => by kernel_rfl) (fun x w1 hx hg => holds_any l x A cap bm w1 (hg.block hm) ((((hA.more hn).below hw).more hw.size).below hg |>.more hg.size) hl hs (hs x hx)))
  clear hA hn hl hs
  obtain ⟨hl2, hhl⟩ : ∃ z, l.filter (holdsD l) = z := ⟨_, rfl⟩
  rw [hhl] at HP ⊢
  clear hhl
  go_enter Try.func63, Try.ntmps63
  go_upto_region 1 with fail
  obtain ⟨W, hW, hg, hf, hsz⟩ := one_block w 25 #[.slice A l.length cap]
  rw [hW]
  clear hW
  have hmc : W.cell? ⟨w.heap.size, 0, none⟩ = some (.slice A l.length cap) := hf.cell 0
  have HG := Lib.hid hg
  have HF := Lib.hid hf
  clear hf hg
  go_wp2_with fail
  refine (HP.out _ HG.out _ HF.out).mono ?_
  rintro e w2 ⟨A', c', rfl, ht, hb2⟩
  have HT := Lib.hid (ht.mono HG.out.size)
  have HG2 : Hid (Grow W w2) := hb2
  clear hmc hb2 ht
  go_wp2
  go_ret
  exact ⟨A', c', rfl, HT.out, HG.out.trans HG2.out⟩

set_option maxRecDepth 100000 in
set_option maxHeartbeats 2000000 in
theorem at1_any (film frame : Int) (x : GlossD) (b1 b2 : Nat) (w : World) (h1 : w.cell? ⟨b1, 0, none⟩ = some (.int .i64 film)) (h2 : w.cell? ⟨b2, 0, none⟩ = some (.int .i64 frame)) :
    Calls Try.prog 67 #[glossV x, .pointer (some ⟨b1, 0, none⟩), .pointer (some ⟨b2, 0, none⟩)] w fun e w' => e = .returned (.bool (inD film frame x)) ∧ Below w.heap.size w w' := by
  have HO : Hid (inD film frame x = ((decide (x.film = film) && decide (x.frm ≤ frame)) && decide (frame < x.to))) := rfl
  generalize inD film frame x = r at HO ⊢
  go_enter Try.func67, Try.ntmps67
  go_upto_region 1 with fail
  obtain ⟨W, hW, hg, hf, hsz⟩ := one_block w 55 (cellsG x)
  rw [hW]
  clear hW
  have hyc := hf.cell
  have h1' := Grow.cell hg h1
  have h2' := Grow.cell hg h2
  have HG := Lib.hid hg
  clear hf hg h1 h2
  by_cases h1 : x.film = film
  · have d1 : decide (x.film = film) = true := decide_eq_true h1
    have b1 : (x.film == film) = true := by simpa using h1
    clear h1
    by_cases h3 : x.frm ≤ frame
    · have d3 : decide (x.frm ≤ frame) = true := decide_eq_true h3
      have HR : Hid (r = decide (frame < x.to)) := Lib.hid (by rw [HO.out, d1, d3]; rfl)
      clear h3
      go_wp2
      go_ret
      exact ⟨ret_bool HR.out.symm, HG.out⟩
    · have d3 : decide (x.frm ≤ frame) = false := decide_eq_false h3
      have HR : Hid (r = false) := Lib.hid (by rw [HO.out, d3]; simp)
      clear h3
      go_wp2
      go_ret
      exact ⟨ret_bool HR.out.symm, HG.out⟩
  · have d1 : decide (x.film = film) = false := decide_eq_false h1
    have b1 : (x.film == film) = false := by simpa using h1
    have HR : Hid (r = false) := Lib.hid (by rw [HO.out, d1]; simp)
    clear h1
    go_wp2
    go_ret
    exact ⟨ret_bool HR.out.symm, HG.out⟩

set_option maxRecDepth 100000 in
set_option maxHeartbeats 2000000 in
theorem at_any (f : FilmsR) (m h : RowG) (hl : List GlossD) (film frame : Int) (n : Nat) (w : World) (hA : GlossAt w n h.A hl) (hn : n ≤ w.heap.size) (hh : h.n = hl.length) (h1000 : hl.length ≤ 1000) :
    Calls Try.prog 45 #[notesV f m h, .int .i64 film, .int .i64 frame] w fun e w' => ∃ A' c', e = .returned (.slice A' (hl.filter (inD film frame)).length c') ∧ GlossT w' w.heap.size A' c' (hl.filter (inD film frame)) ∧ Below w.heap.size w w' := by
  obtain ⟨hA1, hn1, hc1⟩ := h
  dsimp only at hA hh
  subst hh
  have HP := Lib.hid (fun (w0 : World) (hw : Grow w w0) (b1 b2 : Nat) (h1 : BlockIs w0 b1 3 #[.int .i64 film]) (h2 : BlockIs w0 b2 3 #[.int .i64 frame]) => pick2_any hA1 hc1 w0.heap.size hl w0 (((hA.more hn).below hw).more hw.size) h1000 (Nat.le_refl _) 67 (.pointer (some ⟨b1, 0, none⟩)) (.pointer (some ⟨b2, 0, none⟩)) (inD film frame) (fun _ _ => by kernel_rfl) (fun x w1 hx hg => at1_any film frame x b1 b2 w1 ((hg.block h1).cell 0) ((hg.block h2).cell 0)))
  clear hA hn h1000
  obtain ⟨hl2, hhl⟩ : ∃ z, hl.filter (inD film frame) = z := ⟨_, rfl⟩
  rw [hhl] at HP ⊢
  clear hhl
  go_enter Try.func45, Try.ntmps45
  go_upto_region 1 with fail
  obtain ⟨W, hW, hg, hf, h1, h2, hsz⟩ := three_blocks w 71 3 3 (cellsN f m ⟨hA1, hl.length, hc1⟩) #[.int .i64 film] #[.int .i64 frame]
  rw [hW]
  clear hW
  have hmc := hf.cell
  have HG := Lib.hid hg
  have H1 := Lib.hid h1
  have H2 := Lib.hid h2
  clear hf hg h1 h2
  go_wp2_with fail
  refine (HP.out _ HG.out _ _ H1.out H2.out).mono ?_
  rintro e w2 ⟨A', c', rfl, ht, hb2⟩
  have HT := Lib.hid (ht.mono HG.out.size)
  have HG2 : Hid (Grow W w2) := hb2
  clear hmc hb2 ht
  go_wp2
  go_ret
  exact ⟨A', c', rfl, HT.out, HG.out.trans HG2.out⟩

end Go.Proofs.Ytinlojealfbbfaa
