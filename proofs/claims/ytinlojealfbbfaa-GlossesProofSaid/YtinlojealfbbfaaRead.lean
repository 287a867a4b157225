/- Read: glosses.read. -/
import Derived.Test.YtinlojealfbbfaaReadG
import Derived.Test.YtinlojealfbbfaaReadM
import Derived.Test.YtinlojealfbbfaaHold
namespace Go.Proofs.Ytinlojealfbbfaa
open Go.RowKit

abbrev zeroN : Array Value := #[.slice none 0 0, .int .i64 0, .slice none 0 0, .slice none 0 0]
theorem results_notes4 {fn : Func} (h : fn.results = #[.cell 4 71, .tmp 5]) (t : Array Value) (W : World) (b : Nat) (v0 v1 v2 v3 u : Value)
    (hb : BlockIs W b 71 #[v0, v1, v2, v3]) (ht : t.getD 4 undef = .pointer (some ⟨b, 0, none⟩)) (hu : t.getD 5 undef = u) :
    (results fn t).run Try.prog W = .ok (.tuple #[.agg #[v0, v1, v2, v3], u]) W := by
  have hc := hb.cell
  simp only [results, h]
  simp at ht hu
  simp [go_sem, ht, hc, hu]
theorem four_stores {w : World} {b : Nat} {t : TypeId} {c0 c1 c2 c3 : Value} (h : BlockIs w b t #[c0, c1, c2, c3]) (v0 v1 v2 v3 : Value) :
    BlockIs ((((w.setCell ⟨b, 0, none⟩ v0).setCell ⟨b, 1, none⟩ v1).setCell ⟨b, 2, none⟩ v2).setCell ⟨b, 3, none⟩ v3) b t #[v0, v1, v2, v3] := (((h.near 0 _).near 1 _).near 2 _).near 3 _
theorem four_below {w : World} {B b : Nat} (hb : B ≤ b) (v0 v1 v2 v3 : Value) :
    Below B w ((((w.setCell ⟨b, 0, none⟩ v0).setCell ⟨b, 1, none⟩ v1).setCell ⟨b, 2, none⟩ v2).setCell ⟨b, 3, none⟩ v3) :=
  ((((Below.refl B w).setCell (p := ⟨b, 0, none⟩) hb _).setCell (p := ⟨b, 1, none⟩) hb _).setCell (p := ⟨b, 2, none⟩) hb _).setCell (p := ⟨b, 3, none⟩) hb _
/-- what read answers -/
def ReadV (f : FilmsR) (ms : List GlossD) (lo : Nat) (v : Value) (er : Int) (w : World) : Prop :=
  (er ≠ 0 → v = .agg zeroN) ∧ (er = 0 → ∃ Am cm Ah ch all, v = notesV f ⟨Am, all.length, cm⟩ ⟨Ah, (all.filter (holdsD all)).length, ch⟩ ∧ SortedG ms all ∧ GlossT w lo Am cm all ∧ GlossT w lo Ah ch (all.filter (holdsD all)))
theorem msTo_all (Ls : List LstR) : msTo Ls Ls.length = (Ls.map (·.l)).flatten := by
  unfold msTo
  rw [List.take_length, List.flatMap_def]
theorem lists_one {w : World} {g : Nat} {r : LstR} {B : Nat} (h : BlockIs w g 25 #[lstV r]) (hr : GlossAt w B r.A r.l) (hB : B ≤ w.heap.size) : ListsAt w w.heap.size (some ⟨g, 0, none⟩) [r] := by
  refine ⟨.inr ⟨g, 0, rfl, h.lt, fun i x hi => ?_⟩, fun x hx => by rw [List.mem_singleton.1 hx]; exact hr.more hB⟩
  have hlt := lt_of_at hi
  obtain rfl : i = 0 := by simpa using hlt
  obtain rfl : r = x := by simpa using hi
  exact h.cell 0

set_option maxRecDepth 100000 in
set_option maxHeartbeats 16000000 in
theorem read_any (HSORT : SortGOK) (f : FilmsR) (Ls : List LstR) (A : Option Addr) (c n : Nat) (w : World) (hf : Ints w n f.A f.d.frames) (hL : ListsAt w n A Ls) (hn : n ≤ w.heap.size) (hfl : f.d.frames.length ≤ 1000000) (hl9 : Ls.length ≤ 1000) (hl : ∀ r ∈ Ls, r.l.length ≤ 1000) (h40 : (∀ r ∈ Ls, okMsgs f.d r.l = true) → (msTo Ls Ls.length).length ≤ 40) :
    Calls Try.prog 42 #[filmsV f, .slice A Ls.length c] w fun e w' => ∃ v, e = .returned (.tuple #[v, .int .i64 (readErr f.d (Ls.map (·.l)))]) ∧ ReadV f (Ls.map (·.l)).flatten w.heap.size v (readErr f.d (Ls.map (·.l))) w' ∧ Below w.heap.size w w' := by
  have HVF := Lib.hid (fun (w0 : World) (hw : Grow w w0) => validFilms_any f nilG nilG w.heap.size w0 ((hf.more hn).below hw) hw.size hfl)
  have HVM := Lib.hid (fun (hok : okFilms f.d = true) (r : LstR) (hr : r ∈ Ls) (w0 : World) (hw : Grow w w0) => validMessages_any f nilG nilG r.l r.A r.c w.heap.size w0 ((hf.more hn).below hw) (((hL.more hn).below hw).2 r hr) hw.size (by have := hl r hr; omega) hok)
  have HG1 := Lib.hid (fun (r : LstR) (hr : r ∈ Ls) (g : Nat) (w0 : World) (hw : Grow w w0) (hb : BlockIs w0 g 25 #[lstV r]) => gather_any HSORT [r] (some ⟨g, 0, none⟩) 1 w0.heap.size w0 (lists_one hb (((hL.more hn).below hw).2 r hr) hw.size) (Nat.le_refl _) (by rw [msTo_all]; simp; exact hl r hr) (by simp))
  have HGA := Lib.hid (fun (h : (msTo Ls Ls.length).length ≤ 40) (w0 : World) (hw : Grow w w0) => gather_any HSORT Ls A c w.heap.size w0 ((hL.more hn).below hw) hw.size (by omega) hl9)
  have HHO := Lib.hid (fun (hok : okFilms f.d = true) (all : List GlossD) (Am : Option Addr) (cm : Nat) (w0 : World) (lo : Nat) (ha : GlossT w0 lo Am cm all) (h9 : all.length ≤ 1000) (hs : ∀ x ∈ all, okGloss f.d x = true) => holding_any all Am cm w0.heap.size w0 ha.at_ (Nat.le_refl _) h9 (fun y hy => okGloss_small hok (hs y hy)))
  have HLL := Lib.hid (hL.more hn)
  have H40 := Lib.hid h40
  obtain ⟨er, her⟩ : ∃ q, readErr f.d (Ls.map (·.l)) = q := ⟨_, rfl⟩
  have HER := Lib.hid her
  rw [her]
  have HMA := Lib.hid (msTo_all Ls)
  obtain ⟨ms, hms⟩ : ∃ q, (Ls.map (·.l)).flatten = q := ⟨_, rfl⟩
  rw [hms] at HMA ⊢
  have HMS := Lib.hid hms
  clear hf hL hn hfl hl h40 her hms HSORT
  go_enter Try.func42, Try.ntmps42
  go_upto_region 2 with fail
  obtain ⟨W, hW, hg, h2, h4, h6, hsz⟩ := three_blocks w 24 71 71 (cellsF f) zeroN (cellsN f nilG nilG)
  rw [hW]
  clear hW
  obtain ⟨b4, e4⟩ : ∃ q, w.heap.size + 1 = q := ⟨_, rfl⟩
  rw [e4] at h4 ⊢
  obtain ⟨b6, e6⟩ : ∃ q, b4 + 1 = q := ⟨_, rfl⟩
  rw [show w.heap.size + 2 = b4 + 1 by omega] at h6 hsz
  rw [e6] at h6 hsz ⊢
  have hw4 : w.heap.size < b4 := by omega
  have h46 : b4 < b6 := by omega
  have hc6 := h6.cell
  have HG := Lib.hid hg
  have HB4 := Lib.hid h4
  have HB6 := Lib.hid h6
  clear hg h2 h4 h6 e4 e6
  go_wp2_with fail
  refine (HVF.out _ HG.out).mono ?_
  rintro e w2 ⟨rfl, hb2⟩
  have HG2 : Hid (Grow W w2) := hb2
  clear hc6 hb2
  obtain ⟨ok, hok⟩ : ∃ q, okFilms f.d = q := ⟨_, rfl⟩
  have HOK := Lib.hid hok
  rw [hok]
  clear hok
  cases ok with
  | false =>
    have hz := HG2.out.block HB4.out
    have HZ := Lib.hid (four_stores hz (.slice none 0 0) (.int .i64 0) (.slice none 0 0) (.slice none 0 0))
    have hzc := hz.cell
    have hzf := hz.frozen
    have HE : Hid (er = 20) := Lib.hid (by rw [← HER.out]; unfold readErr; rw [HOK.out]; rfl)
    have HBB := Lib.hid ((HG.out.trans HG2.out).trans' (four_below (w := w2) (B := w.heap.size) (b := b4) (by omega) (.slice none 0 0) (.int .i64 0) (.slice none 0 0) (.slice none 0 0)))
    clear hz
    go_wp2
    exact bodyPost_ret (results_notes4 Try.results42 _ _ b4 _ _ _ _ _ HZ.out rfl rfl) rfl ⟨.agg zeroN, congrArg (fun q => Ending.returned (Value.tuple #[.agg zeroN, .int .i64 q])) HE.out.symm, ⟨fun _ => rfl, fun h => absurd (HE.out.symm.trans h) (by decide)⟩, HBB.out⟩
  | true =>
    go_wp2_with fail
    go_loopw [21] (fun iv wr => ∃ i : Nat, iv = .int .i64 i ∧ i ≤ Ls.length ∧ (∀ j r, j < i → Ls[j]? = some r → listErr f.d r.l = 0) ∧ Grow W wr) (fun v _ => Ls.length - (intOf v).toNat)
    case atStart => exact ⟨0, rfl, Nat.zero_le _, fun j r h => by omega, HG2.out⟩
    case round =>
      obtain ⟨i, rfl, hi', hall, hgr⟩ := hrel
      rename World => wr
      have HALL := Lib.hid hall
      have HGR := Lib.hid hgr
      clear hall hgr
      by_cases hlt : i < Ls.length
      · have hld : decide ((i : Int) < (Ls.length : Int)) = true := decide_eq_true (by omega)
        have hldn : decide (i < Ls.length) = true := decide_eq_true hlt
        have hii : (i : Int) < (Ls.length : Int) := by omega
        have hi0 : (0 : Int) ≤ (i : Int) := by omega
        obtain ⟨b, off, r, rfl, hb, hrc, HR, _⟩ := (HLL.out.below (HG.out.trans HGR.out)).at_ hlt
        have hrm := List.mem_of_getElem? HR.out
        have HV := Lib.hid (HVM.out HOK.out r hrm)
        have HGG := Lib.hid (fun (g : Nat) (w0 : World) (hw : Grow w w0) => HG1.out r hrm g w0 hw)
        have HLE := Lib.hid (fun (h : listErr f.d r.l ≠ 0) => listsErr_at (f := f.d) (Ls := Ls.map (·.l)) (i := i) (l := r.l) (by rw [List.getElem?_map, HR.out]; rfl) (fun j k hj hk => by
          rw [List.getElem?_map] at hk
          cases hq : Ls[j]? with
          | none => rw [hq] at hk; cases hk
          | some q =>
            rw [hq] at hk
            obtain rfl := Option.some.inj hk
            exact HALL.out j q hj hq) h)
        have HRE := Lib.hid (fun (h : listErr f.d r.l ≠ 0) => show er = listErr f.d r.l by
          rw [← HER.out]
          unfold readErr
          rw [if_pos HOK.out, if_neg (by rw [HLE.out h]; exact h), HLE.out h])
        have HGC : Hid (∀ {v : Value} {cl : Bool} {w0 : World} {lo : Nat}, GatherV (msTo [r] 1) lo v cl w0 → cl = clashB r.l) := Lib.hid (fun h => by
          obtain ⟨_, _, _, _, _, _, _, hc, _⟩ := h
          have e : msTo [r] 1 = r.l := by unfold msTo; simp
          rw [e] at hc
          exact clashB_of hc)
        have HNX : Hid (∀ j q, j < i + 1 → Ls[j]? = some q → listErr f.d r.l = 0 → listErr f.d q.l = 0) := Lib.hid (fun j q hj hq h0 => by
          by_cases e : j = i
          · subst e
            rw [HR.out] at hq
            obtain rfl := Option.some.inj hq
            exact h0
          · exact HALL.out j q (by omega) hq)
        obtain ⟨⟨Ar, cr, lr⟩, hr⟩ : ∃ q, r = q := ⟨_, rfl⟩
        subst hr
        dsimp only at HV HRE HGC HNX
        replace hrc : wr.cell? ⟨b, off + i, none⟩ = some (.slice Ar lr.length cr) := hrc
        obtain ⟨om, hom⟩ : ∃ q, okMsgs f.d lr = q := ⟨_, rfl⟩
        have HOM := Lib.hid hom
        rw [hom] at HV
        clear hom hb hrm
        go_upto_region 7 with fail
        clear hrc
        have hc6 := (HGR.out.block HB6.out).cell
        go_wp2_with fail
        refine (HV.out _ (HG.out.trans HGR.out)).mono ?_
        rintro e w3 ⟨rfl, hb3⟩
        have HG3 : Hid (Grow W w3) := HGR.out.trans hb3
        clear hc6 hb3
        cases om with
        | false =>
          have hz := HG3.out.block HB4.out
          have HZ := Lib.hid (four_stores hz (.slice none 0 0) (.int .i64 0) (.slice none 0 0) (.slice none 0 0))
          have hzc := hz.cell
          have hzf := hz.frozen
          have h21 := listErr_bad HOM.out
          have HE : Hid (er = 21) := Lib.hid (by rw [HRE.out (by rw [h21]; decide), h21])
          have HBB := Lib.hid ((HG.out.trans HG3.out).trans' (four_below (w := w3) (B := w.heap.size) (b := b4) (by omega) (.slice none 0 0) (.int .i64 0) (.slice none 0 0) (.slice none 0 0)))
          clear hz h21
          go_wp2
          exact bodyPost_ret (results_notes4 Try.results42 _ _ b4 _ _ _ _ _ HZ.out rfl rfl) rfl ⟨.agg zeroN, congrArg (fun q => Ending.returned (Value.tuple #[.agg zeroN, .int .i64 q])) HE.out.symm, ⟨fun _ => rfl, fun h => absurd (HE.out.symm.trans h) (by decide)⟩, HBB.out⟩
        | true =>
          have hgx := HGG.out w3.heap.size (w3.alloc (.cells #[.slice Ar lr.length cr] 25)) (HG.out.trans (HG3.out.trans (Grow.alloc _ _))) (BlockIs.new _ _ _)
          have HGX := Lib.hid hgx
          clear hgx
          go_wp2_with fail
          refine HGX.out.mono ?_
          rintro e w4 ⟨v, cl, rfl, hgv, hb4'⟩
          have hcl := HGC.out hgv
          have HG4 : Hid (Grow W w4) := Lib.hid (HG3.out.trans ((Grow.alloc _ _).trans hb4'))
          clear hgv hb4'
          obtain ⟨cb, hcb⟩ : ∃ q, clashB lr = q := ⟨_, rfl⟩
          have HCB := Lib.hid hcb
          rw [hcb] at hcl
          subst hcl
          clear hcb
          cases cl with
          | true =>
            have hz := HG4.out.block HB4.out
            have HZ := Lib.hid (four_stores hz (.slice none 0 0) (.int .i64 0) (.slice none 0 0) (.slice none 0 0))
            have hzc := hz.cell
            have hzf := hz.frozen
            have h22 := listErr_clash HOM.out HCB.out
            have HE : Hid (er = 22) := Lib.hid (by rw [HRE.out (by rw [h22]; decide), h22])
            have HBB := Lib.hid ((HG.out.trans HG4.out).trans' (four_below (w := w4) (B := w.heap.size) (b := b4) (by omega) (.slice none 0 0) (.int .i64 0) (.slice none 0 0) (.slice none 0 0)))
            clear hz h22
            go_wp2
            exact bodyPost_ret (results_notes4 Try.results42 _ _ b4 _ _ _ _ _ HZ.out rfl rfl) rfl ⟨.agg zeroN, congrArg (fun q => Ending.returned (Value.tuple #[.agg zeroN, .int .i64 q])) HE.out.symm, ⟨fun _ => rfl, fun h => absurd (HE.out.symm.trans h) (by decide)⟩, HBB.out⟩
          | false =>
            have HN : Hid (∀ j q, j < i + 1 → Ls[j]? = some q → listErr f.d q.l = 0) := Lib.hid (fun j q hj hq => HNX.out j q hj hq (listErr_ok HOM.out HCB.out))
            go_wp2
            go_roundw
            case rel => exact ⟨i + 1, by go_num, hlt, HN.out, HG4.out⟩
            case measure => simp [intOf]; omega
      · obtain rfl : i = Ls.length := by omega
        have hld : decide ((Ls.length : Int) < (Ls.length : Int)) = false := by simp
        have hldn : decide (Ls.length < Ls.length) = false := by simp
        have hz0 : ∀ r ∈ Ls, listErr f.d r.l = 0 := fun r hr => by
          obtain ⟨j, hj⟩ := List.mem_iff_getElem?.1 hr
          exact HALL.out j r (lt_of_at hj) hj
        have hokm : ∀ r ∈ Ls, okMsgs f.d r.l = true := fun r hr => (listErr_zero (hz0 r hr)).1
        have h40 := H40.out hokm
        have HLZ : Hid (listsErr f.d (Ls.map (·.l)) = 0) := Lib.hid (listsErr_ok fun l hl => by
          obtain ⟨r, hr, rfl⟩ := List.mem_map.1 hl
          exact hz0 r hr)
        have HGS : Hid (∀ x ∈ ms, okGloss f.d x = true) := Lib.hid (fun x hx => by
          rw [← HMS.out] at hx
          obtain ⟨l, hl, hxl⟩ := List.mem_flatten.1 hx
          obtain ⟨r, hr, rfl⟩ := List.mem_map.1 hl
          have h1 := hokm r hr
          simp only [okMsgs, Bool.and_eq_true, List.all_eq_true] at h1
          exact h1.2 x hxl)
        have HGX := Lib.hid (HGA.out h40 wr (HG.out.trans HGR.out))
        rw [HMA.out] at HGX h40
        clear hlt hz0 hokm
        go_wp2_with fail
        refine HGX.out.mono ?_
        rintro e w3 ⟨v, cl, rfl, ⟨Am, cm, all, rfl, hgt, hle, hin, hcl, hso⟩, hb3⟩
        have HG3 : Hid (Grow W w3) := HGR.out.trans hb3
        have hal : all.length ≤ 40 := by omega
        have d1 : decide ((40 : Int) < (all.length : Int)) = false := decide_eq_false (by omega)
        have d2 : decide (40 < all.length) = false := decide_eq_false (by omega)
        have HCB := Lib.hid (clashB_of hcl)
        have HGT := Lib.hid hgt
        have HSO := Lib.hid hso
        have HIN := Lib.hid hin
        clear hb3 hgt hle hin hcl hso
        cases cl with
        | true =>
          have hz := HG3.out.block HB4.out
          have HZ := Lib.hid (four_stores hz (.slice none 0 0) (.int .i64 0) (.slice none 0 0) (.slice none 0 0))
          have hzc := hz.cell
          have hzf := hz.frozen
          have HE : Hid (er = 22) := Lib.hid (by rw [← HER.out]; unfold readErr; rw [if_pos HOK.out, if_pos HLZ.out, HMS.out, if_pos HCB.out.symm])
          have HBB := Lib.hid ((HG.out.trans HG3.out).trans' (four_below (w := w3) (B := w.heap.size) (b := b4) (by omega) (.slice none 0 0) (.int .i64 0) (.slice none 0 0) (.slice none 0 0)))
          clear hz
          go_wp2
          exact bodyPost_ret (results_notes4 Try.results42 _ _ b4 _ _ _ _ _ HZ.out rfl rfl) rfl ⟨.agg zeroN, congrArg (fun q => Ending.returned (Value.tuple #[.agg zeroN, .int .i64 q])) HE.out.symm, ⟨fun _ => rfl, fun h => absurd (HE.out.symm.trans h) (by decide)⟩, HBB.out⟩
        | false =>
          have HE : Hid (er = 0) := Lib.hid (by rw [← HER.out]; unfold readErr; rw [if_pos HOK.out, if_pos HLZ.out, HMS.out, if_neg (by rw [← HCB.out]; decide)])
          have HSG : Hid (SortedG ms all) := Lib.hid (HSO.out (fun h => by have h1 := clashB_iff.2 h; rw [← HCB.out] at h1; cases h1))
          have HHX := Lib.hid (HHO.out HOK.out all Am cm w3 _ HGT.out (by omega) (fun x hx => HGS.out x (HIN.out x hx)))
          go_wp2_with fail
          refine HHX.out.mono ?_
          rintro e w4 ⟨Ah, ch, rfl, hht, hb4'⟩
          have HG4 : Hid (Grow W w4) := HG3.out.trans hb4'
          have h6 := HG4.out.block HB6.out
          have h4 := HG4.out.block HB4.out
          have h6c := h6.cell
          have h6f := h6.frozen
          have hwr : W.heap.size ≤ wr.heap.size := HGR.out.size
          have hw3z : W.heap.size ≤ w3.heap.size := HG3.out.size
          have hgt4 := HGT.out.grow hb4'
          obtain ⟨hl, hhl⟩ : ∃ q, all.filter (holdsD all) = q := ⟨_, rfl⟩
          have HHL := Lib.hid hhl
          rw [hhl] at hht ⊢
          obtain ⟨hln, hhln⟩ : ∃ q, hl.length = q := ⟨_, rfl⟩
          have HHN := Lib.hid hhln
          obtain ⟨aln, haln⟩ : ∃ q, all.length = q := ⟨_, rfl⟩
          have HAN := Lib.hid haln
          rw [hhln, haln]
          go_upto_region 19 with fail
          obtain ⟨W5, hW5⟩ : ∃ q, (w4.setCell ⟨b6, 2, none⟩ (.slice Am aln cm)).setCell ⟨b6, 3, none⟩ (.slice Ah hln ch) = q := ⟨_, rfl⟩
          have k6 : BlockIs W5 b6 71 (cellsN f ⟨Am, aln, cm⟩ ⟨Ah, hln, ch⟩) := by rw [← hW5]; exact (h6.near 2 _).near 3 _
          have k4 : BlockIs W5 b4 71 zeroN := by rw [← hW5]; exact (h4.far (p := ⟨b6, 2, none⟩) (by show b4 ≠ b6; omega) _).far (p := ⟨b6, 3, none⟩) (by show b4 ≠ b6; omega) _
          have kb : Below w.heap.size w W5 := by rw [← hW5]; exact ((HG.out.trans HG4.out).setC (p := ⟨b6, 2, none⟩) (by show w.heap.size ≤ b6; omega) _).setCell (p := ⟨b6, 3, none⟩) (by show w.heap.size ≤ b6; omega) _
          have ka : GlossT W5 wr.heap.size Am cm all := by rw [← hW5]; exact (hgt4.far (p := ⟨b6, 2, none⟩) (by show b6 < wr.heap.size; omega) _).far (p := ⟨b6, 3, none⟩) (by show b6 < wr.heap.size; omega) _
          have kh : GlossT W5 w3.heap.size Ah ch hl := by rw [← hW5]; exact (hht.far (p := ⟨b6, 2, none⟩) (by show b6 < w3.heap.size; omega) _).far (p := ⟨b6, 3, none⟩) (by show b6 < w3.heap.size; omega) _
          rw [hW5]
          have HZ := Lib.hid (four_stores k4 (.slice f.A f.d.frames.length f.ca) (.int .i64 f.d.signs) (.slice Am aln cm) (.slice Ah hln ch))
          have HBB := Lib.hid (kb.trans (four_below (w := W5) (B := w.heap.size) (b := b4) (by omega) (.slice f.A f.d.frames.length f.ca) (.int .i64 f.d.signs) (.slice Am aln cm) (.slice Ah hln ch)))
          have HKA := Lib.hid ((((ka.far (p := ⟨b4, 0, none⟩) (by show b4 < wr.heap.size; omega) (.slice f.A f.d.frames.length f.ca)).far (p := ⟨b4, 1, none⟩) (by show b4 < wr.heap.size; omega) (.int .i64 f.d.signs)).far (p := ⟨b4, 2, none⟩) (by show b4 < wr.heap.size; omega) (.slice Am aln cm)).far (p := ⟨b4, 3, none⟩) (by show b4 < wr.heap.size; omega) (.slice Ah hln ch))
          have HKH := Lib.hid ((((kh.far (p := ⟨b4, 0, none⟩) (by show b4 < w3.heap.size; omega) (.slice f.A f.d.frames.length f.ca)).far (p := ⟨b4, 1, none⟩) (by show b4 < w3.heap.size; omega) (.int .i64 f.d.signs)).far (p := ⟨b4, 2, none⟩) (by show b4 < w3.heap.size; omega) (.slice Am aln cm)).far (p := ⟨b4, 3, none⟩) (by show b4 < w3.heap.size; omega) (.slice Ah hln ch))
          have HWW : Hid (w.heap.size ≤ W.heap.size) := Lib.hid HG.out.size
          have hc6 := k6.cell
          have hc4 := k4.cell
          have hf4 := k4.frozen
          clear hW5 k6 k4 kb ka kh h6 h4 h6c h6f hht hgt4 hb4' hhl hhln haln
          go_wp2
          refine bodyPost_ret (results_notes4 Try.results42 _ _ b4 _ _ _ _ _ HZ.out rfl rfl) rfl ⟨notesV f ⟨Am, aln, cm⟩ ⟨Ah, hln, ch⟩, congrArg (fun q => Ending.returned (Value.tuple #[notesV f ⟨Am, aln, cm⟩ ⟨Ah, hln, ch⟩, .int .i64 q])) HE.out.symm, ⟨fun h => absurd HE.out h, fun _ => ⟨Am, cm, Ah, ch, all, ?_, HSG.out, HKA.out.mono (by have := HWW.out; omega), by rw [HHL.out]; exact HKH.out.mono (by have := HWW.out; omega)⟩⟩, HBB.out⟩
          rw [HHL.out, HHN.out, HAN.out]

end Go.Proofs.Ytinlojealfbbfaa
