/- Api: glosses.Check, Merge and Held. -/
import Derived.Test.YtinlojealfbbfaaRead
namespace Go.Proofs.Ytinlojealfbbfaa
open Go.RowKit

theorem read1_any (HSORT : SortGOK) (f : FilmsR) (l : List GlossD) (A : Option Addr) (c g n : Nat) (w : World) (hf : Ints w n f.A f.d.frames) (hA : GlossAt w n A l) (hn : n ≤ w.heap.size) (hb : BlockIs w g 25 #[.slice A l.length c]) (hfl : f.d.frames.length ≤ 1000000) (hl : l.length ≤ 1000) :
    Calls Try.prog 42 #[filmsV f, .slice (some ⟨g, 0, none⟩) 1 1] w fun e w' => ∃ v, e = .returned (.tuple #[v, .int .i64 (readErr f.d [l])]) ∧ ReadV f l w.heap.size v (readErr f.d [l]) w' ∧ Below w.heap.size w w' := by
  have h := read_any HSORT f [⟨A, c, l⟩] (some ⟨g, 0, none⟩) 1 w.heap.size w (hf.more hn) (lists_one (r := ⟨A, c, l⟩) hb (hA.more hn) (Nat.le_refl _)) (Nat.le_refl _) hfl (by simp) (fun r hr => by rw [List.mem_singleton.1 hr]; exact hl) (fun ho => by
    have h1 := ho ⟨A, c, l⟩ (by simp)
    simp only [okMsgs, Bool.and_eq_true, decide_eq_true_eq] at h1
    rw [msTo_all]
    simpa using h1.1)
  have e : ([⟨A, c, l⟩] : List LstR).map (·.l) = [l] := rfl
  have e2 : ([l] : List (List GlossD)).flatten = l := by simp
  rw [e, e2] at h
  exact h
theorem lists_two {w : World} {g : Nat} {r s : LstR} {B : Nat} (h : BlockIs w g 25 #[lstV r, lstV s]) (hr : GlossAt w B r.A r.l) (hs : GlossAt w B s.A s.l) (hB : B ≤ w.heap.size) : ListsAt w w.heap.size (some ⟨g, 0, none⟩) [r, s] := by
  refine ⟨.inr ⟨g, 0, rfl, h.lt, fun i x hi => ?_⟩, fun x hx => by
    rcases List.mem_cons.1 hx with rfl | hx
    · exact hr.more hB
    · rw [List.mem_singleton.1 hx]; exact hs.more hB⟩
  match i, hi with
  | 0, hi =>
    obtain rfl : r = x := by simpa using hi
    exact h.cell 0
  | 1, hi =>
    obtain rfl : s = x := by simpa using hi
    exact h.cell 1
theorem read2_any (HSORT : SortGOK) (f : FilmsR) (a b : List GlossD) (A B : Option Addr) (c d g n : Nat) (w : World) (hf : Ints w n f.A f.d.frames) (hA : GlossAt w n A a) (hB : GlossAt w n B b) (hn : n ≤ w.heap.size) (hb : BlockIs w g 25 #[.slice A a.length c, .slice B b.length d]) (hfl : f.d.frames.length ≤ 1000000) (ha : a.length ≤ 1000) (hb9 : b.length ≤ 1000) (h40 : okMsgs f.d a = true → okMsgs f.d b = true → a.length + b.length ≤ 40) :
    Calls Try.prog 42 #[filmsV f, .slice (some ⟨g, 0, none⟩) 2 2] w fun e w' => ∃ v, e = .returned (.tuple #[v, .int .i64 (readErr f.d [a, b])]) ∧ ReadV f (a ++ b) w.heap.size v (readErr f.d [a, b]) w' ∧ Below w.heap.size w w' := by
  have h := read_any HSORT f [⟨A, c, a⟩, ⟨B, d, b⟩] (some ⟨g, 0, none⟩) 2 w.heap.size w (hf.more hn) (lists_two (r := ⟨A, c, a⟩) (s := ⟨B, d, b⟩) hb (hA.more hn) (hB.more hn) (Nat.le_refl _)) (Nat.le_refl _) hfl (by simp) (fun r hr => by
    rcases List.mem_cons.1 hr with rfl | hr
    · exact ha
    · rw [List.mem_singleton.1 hr]; exact hb9) (fun ho => by
    have h1 := ho ⟨A, c, a⟩ (by simp)
    have h2 := ho ⟨B, d, b⟩ (by simp)
    rw [msTo_all]
    simpa using h40 h1 h2)
  have e : ([⟨A, c, a⟩, ⟨B, d, b⟩] : List LstR).map (·.l) = [a, b] := rfl
  have e2 : ([a, b] : List (List GlossD)).flatten = a ++ b := by simp
  rw [e, e2] at h
  exact h
theorem results_pair45 {fn : Func} (h : fn.results = #[.tmp 4, .tmp 5]) (t : Array Value) (W : World) (u1 u2 : Value) (h1 : t.getD 4 undef = u1) (h2 : t.getD 5 undef = u2) :
    (results fn t).run Try.prog W = .ok (.tuple #[u1, u2]) W := by
  simp only [results, h]
  simp at h1 h2
  simp [go_sem, h1, h2]
theorem results_pair67 {fn : Func} (h : fn.results = #[.tmp 6, .tmp 7]) (t : Array Value) (W : World) (u1 u2 : Value) (h1 : t.getD 6 undef = u1) (h2 : t.getD 7 undef = u2) :
    (results fn t).run Try.prog W = .ok (.tuple #[u1, u2]) W := by
  simp only [results, h]
  simp at h1 h2
  simp [go_sem, h1, h2]
/-- what Held answers -/
def HeldV (l : List GlossD) (lo : Nat) (v : Value) (er : Int) (w : World) : Prop :=
  (er ≠ 0 → v = .slice none 0 0) ∧ (er = 0 → ∃ A c all, v = .slice A (all.filter (holdsD all)).length c ∧ SortedG l all ∧ GlossT w lo A c (all.filter (holdsD all)))
/-- what Merge answers -/
def MergeV (l : List GlossD) (lo : Nat) (v : Value) (er : Int) (w : World) : Prop :=
  (er ≠ 0 → v = .slice none 0 0) ∧ (er = 0 → ∃ A c all, v = .slice A all.length c ∧ SortedG l all ∧ GlossT w lo A c all)
theorem GlossT.below_lo {w : World} {lo lo' : Nat} {A : Option Addr} {c : Nat} {l : List GlossD} (h : GlossT w lo A c l) (hl : lo' ≤ lo) : GlossT w lo' A c l := h.mono hl

set_option maxRecDepth 100000 in
set_option maxHeartbeats 4000000 in
theorem check_any (HSORT : SortGOK) (f : FilmsR) (l : List GlossD) (A : Option Addr) (c n : Nat) (w : World) (hf : Ints w n f.A f.d.frames) (hA : GlossAt w n A l) (hn : n ≤ w.heap.size) (hfl : f.d.frames.length ≤ 1000000) (hl : l.length ≤ 1000) :
    Calls Try.prog 33 #[filmsV f, .slice A l.length c] w fun e w' => e = .returned (.int .i64 (readErr f.d [l])) ∧ Below w.heap.size w w' := by
  have HRD := Lib.hid (fun (g : Nat) (w0 : World) (hw : Grow w w0) (hb : BlockIs w0 g 25 #[.slice A l.length c]) => read1_any HSORT f l A c g w.heap.size w0 ((hf.more hn).below hw) ((hA.more hn).below hw) hw.size hb hfl hl)
  obtain ⟨er, her⟩ : ∃ q, readErr f.d [l] = q := ⟨_, rfl⟩
  rw [her] at HRD ⊢
  have HER := Lib.hid her
  clear her
  go_enter Try.func33, Try.ntmps33
  go_upto_region 1 with fail
  obtain ⟨W, hW, hg, hf, hsz⟩ := one_block w 24 (cellsF f)
  rw [hW]
  clear hW
  have hcc := hf.cell
  have HG := Lib.hid hg
  clear hf hg
  have HRX := Lib.hid (HRD.out W.heap.size (W.alloc (.cells #[.slice A l.length c] 25)) (HG.out.trans (Grow.alloc _ _)) (BlockIs.new _ _ _))
  clear HRD
  go_wp2_with fail
  refine HRX.out.mono ?_
  rintro e w2 ⟨v, rfl, hrv, hb2⟩
  have HG2 : Hid (Grow W w2) := Lib.hid ((Grow.alloc _ _).trans hb2)
  have HWZ : Hid (w.heap.size ≤ (W.alloc (.cells #[.slice A l.length c] 25)).heap.size) := Lib.hid (HG.out.trans (Grow.alloc _ _)).size
  generalize (W.alloc (.cells #[.slice A l.length c] 25)).heap.size = lo at HWZ hrv
  clear hcc hb2 HRX
  by_cases h0 : er = 0
  · subst h0
    obtain ⟨Am, cm, Ah, ch, all, rfl, hso, hga, hgh⟩ := hrv.2 rfl
    have HSO := Lib.hid hso
    have HGA := Lib.hid hga
    have HGH := Lib.hid hgh
    clear hrv hso hga hgh
    go_upto_region 2 with fail
    obtain ⟨W3, hW3, hg3, hf3, hsz3⟩ := one_block w2 71 (cellsN f ⟨Am, all.length, cm⟩ ⟨Ah, (all.filter (holdsD all)).length, ch⟩)
    rw [hW3]
    clear hW3
    have HG3 : Hid (Grow W W3) := Lib.hid (HG2.out.trans hg3)
    have HH3 := Lib.hid hg3
    have hnc := hf3.cell
    clear hg3 hf3
    go_wp2
    go_ret
    exact ⟨rfl, HG.out.trans HG3.out⟩
  · have hz := hrv.1 h0
    subst hz
    have hne : decide (er = 0) = false := decide_eq_false h0
    have HNE := Lib.hid h0
    clear hrv h0
    go_upto_region 2 with fail
    obtain ⟨W3, hW3, hg3, hf3, hsz3⟩ := one_block w2 71 (zeroN)
    rw [hW3]
    clear hW3
    have HG3 : Hid (Grow W W3) := Lib.hid (HG2.out.trans hg3)
    have HH3 := Lib.hid hg3
    have hnc := hf3.cell
    clear hg3 hf3
    go_wp2
    go_ret
    exact ⟨rfl, HG.out.trans HG3.out⟩

set_option maxRecDepth 100000 in
set_option maxHeartbeats 4000000 in
theorem held_any (HSORT : SortGOK) (f : FilmsR) (l : List GlossD) (A : Option Addr) (c n : Nat) (w : World) (hf : Ints w n f.A f.d.frames) (hA : GlossAt w n A l) (hn : n ≤ w.heap.size) (hfl : f.d.frames.length ≤ 1000000) (hl : l.length ≤ 1000) :
    Calls Try.prog 15 #[filmsV f, .slice A l.length c] w fun e w' => ∃ v, e = .returned (.tuple #[v, .int .i64 (readErr f.d [l])]) ∧ HeldV l w.heap.size v (readErr f.d [l]) w' ∧ Below w.heap.size w w' := by
  have HRD := Lib.hid (fun (g : Nat) (w0 : World) (hw : Grow w w0) (hb : BlockIs w0 g 25 #[.slice A l.length c]) => read1_any HSORT f l A c g w.heap.size w0 ((hf.more hn).below hw) ((hA.more hn).below hw) hw.size hb hfl hl)
  obtain ⟨er, her⟩ : ∃ q, readErr f.d [l] = q := ⟨_, rfl⟩
  rw [her] at HRD ⊢
  have HER := Lib.hid her
  clear her
  go_enter Try.func15, Try.ntmps15
  go_upto_region 1 with fail
  obtain ⟨W, hW, hg, hf, hsz⟩ := one_block w 24 (cellsF f)
  rw [hW]
  clear hW
  have hcc := hf.cell
  have HG := Lib.hid hg
  clear hf hg
  have HRX := Lib.hid (HRD.out W.heap.size (W.alloc (.cells #[.slice A l.length c] 25)) (HG.out.trans (Grow.alloc _ _)) (BlockIs.new _ _ _))
  clear HRD
  go_wp2_with fail
  refine HRX.out.mono ?_
  rintro e w2 ⟨v, rfl, hrv, hb2⟩
  have HG2 : Hid (Grow W w2) := Lib.hid ((Grow.alloc _ _).trans hb2)
  have HWZ : Hid (w.heap.size ≤ (W.alloc (.cells #[.slice A l.length c] 25)).heap.size) := Lib.hid (HG.out.trans (Grow.alloc _ _)).size
  generalize (W.alloc (.cells #[.slice A l.length c] 25)).heap.size = lo at HWZ hrv
  clear hcc hb2 HRX
  by_cases h0 : er = 0
  · subst h0
    obtain ⟨Am, cm, Ah, ch, all, rfl, hso, hga, hgh⟩ := hrv.2 rfl
    have HSO := Lib.hid hso
    have HGA := Lib.hid hga
    have HGH := Lib.hid hgh
    clear hrv hso hga hgh
    go_upto_region 2 with fail
    obtain ⟨W3, hW3, hg3, hf3, hsz3⟩ := one_block w2 71 (cellsN f ⟨Am, all.length, cm⟩ ⟨Ah, (all.filter (holdsD all)).length, ch⟩)
    rw [hW3]
    clear hW3
    have HG3 : Hid (Grow W W3) := Lib.hid (HG2.out.trans hg3)
    have HH3 := Lib.hid hg3
    have hnc := hf3.cell
    clear hg3 hf3
    go_wp2
    exact bodyPost_ret (results_pair45 Try.results15 _ _ _ _ rfl rfl) rfl ⟨_, rfl, ⟨fun h => absurd rfl h, fun _ => ⟨Ah, ch, all, rfl, HSO.out, (HGH.out.grow HH3.out).mono HWZ.out⟩⟩, HG.out.trans HG3.out⟩
  · have hz := hrv.1 h0
    subst hz
    have hne : decide (er = 0) = false := decide_eq_false h0
    have HNE := Lib.hid h0
    clear hrv h0
    go_upto_region 2 with fail
    obtain ⟨W3, hW3, hg3, hf3, hsz3⟩ := one_block w2 71 (zeroN)
    rw [hW3]
    clear hW3
    have HG3 : Hid (Grow W W3) := Lib.hid (HG2.out.trans hg3)
    have HH3 := Lib.hid hg3
    have hnc := hf3.cell
    clear hg3 hf3
    go_wp2
    exact bodyPost_ret (results_pair45 Try.results15 _ _ _ _ rfl rfl) rfl ⟨_, rfl, ⟨fun _ => rfl, fun h => absurd h HNE.out⟩, HG.out.trans HG3.out⟩

set_option maxRecDepth 100000 in
set_option maxHeartbeats 4000000 in
theorem merge_any (HSORT : SortGOK) (f : FilmsR) (a b : List GlossD) (A B : Option Addr) (c d n : Nat) (w : World) (hf : Ints w n f.A f.d.frames) (hA : GlossAt w n A a) (hB : GlossAt w n B b) (hn : n ≤ w.heap.size) (hfl : f.d.frames.length ≤ 1000000) (ha : a.length ≤ 1000) (hb : b.length ≤ 1000) (h40 : okMsgs f.d a = true → okMsgs f.d b = true → a.length + b.length ≤ 40) :
    Calls Try.prog 19 #[filmsV f, .slice A a.length c, .slice B b.length d] w fun e w' => ∃ v, e = .returned (.tuple #[v, .int .i64 (readErr f.d [a, b])]) ∧ MergeV (a ++ b) w.heap.size v (readErr f.d [a, b]) w' ∧ Below w.heap.size w w' := by
  have HRD := Lib.hid (fun (g : Nat) (w0 : World) (hw : Grow w w0) (hbb : BlockIs w0 g 25 #[.slice A a.length c, .slice B b.length d]) => read2_any HSORT f a b A B c d g w.heap.size w0 ((hf.more hn).below hw) ((hA.more hn).below hw) ((hB.more hn).below hw) hw.size hbb hfl ha hb h40)
  obtain ⟨er, her⟩ : ∃ q, readErr f.d [a, b] = q := ⟨_, rfl⟩
  rw [her] at HRD ⊢
  have HER := Lib.hid her
  clear her
  go_enter Try.func19, Try.ntmps19
  go_upto_region 1 with fail
  obtain ⟨W, hW, hg, hf, hsz⟩ := one_block w 24 (cellsF f)
  rw [hW]
  clear hW
  have hcc := hf.cell
  have HG := Lib.hid hg
  clear hf hg
  have HRX := Lib.hid (HRD.out W.heap.size (W.alloc (.cells #[.slice A a.length c, .slice B b.length d] 25)) (HG.out.trans (Grow.alloc _ _)) (BlockIs.new _ _ _))
  clear HRD
  go_wp2_with fail
  refine HRX.out.mono ?_
  rintro e w2 ⟨v, rfl, hrv, hb2⟩
  have HG2 : Hid (Grow W w2) := Lib.hid ((Grow.alloc _ _).trans hb2)
  have HWZ : Hid (w.heap.size ≤ (W.alloc (.cells #[.slice A a.length c, .slice B b.length d] 25)).heap.size) := Lib.hid (HG.out.trans (Grow.alloc _ _)).size
  generalize (W.alloc (.cells #[.slice A a.length c, .slice B b.length d] 25)).heap.size = lo at HWZ hrv
  clear hcc hb2 HRX
  by_cases h0 : er = 0
  · subst h0
    obtain ⟨Am, cm, Ah, ch, all, rfl, hso, hga, hgh⟩ := hrv.2 rfl
    have HSO := Lib.hid hso
    have HGA := Lib.hid hga
    have HGH := Lib.hid hgh
    clear hrv hso hga hgh
    go_upto_region 2 with fail
    obtain ⟨W3, hW3, hg3, hf3, hsz3⟩ := one_block w2 71 (cellsN f ⟨Am, all.length, cm⟩ ⟨Ah, (all.filter (holdsD all)).length, ch⟩)
    rw [hW3]
    clear hW3
    have HG3 : Hid (Grow W W3) := Lib.hid (HG2.out.trans hg3)
    have HH3 := Lib.hid hg3
    have hnc := hf3.cell
    clear hg3 hf3
    go_wp2
    exact bodyPost_ret (results_pair67 Try.results19 _ _ _ _ rfl rfl) rfl ⟨_, rfl, ⟨fun h => absurd rfl h, fun _ => ⟨Am, cm, all, rfl, HSO.out, (HGA.out.grow HH3.out).mono HWZ.out⟩⟩, HG.out.trans HG3.out⟩
  · have hz := hrv.1 h0
    subst hz
    have hne : decide (er = 0) = false := decide_eq_false h0
    have HNE := Lib.hid h0
    clear hrv h0
    go_upto_region 2 with fail
    obtain ⟨W3, hW3, hg3, hf3, hsz3⟩ := one_block w2 71 (zeroN)
    rw [hW3]
    clear hW3
    have HG3 : Hid (Grow W W3) := Lib.hid (HG2.out.trans hg3)
    have HH3 := Lib.hid hg3
    have hnc := hf3.cell
    clear hg3 hf3
    go_wp2
    exact bodyPost_ret (results_pair67 Try.results19 _ _ _ _ rfl rfl) rfl ⟨_, rfl, ⟨fun _ => rfl, fun h => absurd h HNE.out⟩, HG.out.trans HG3.out⟩

end Go.Proofs.Ytinlojealfbbfaa
