/- CourseM: courses as data and in memory; the specification's IsCourse. RunM: what the specification's Run asks of a course, and what it leaves; rows of its own. -/
import Derived.Test.YthlihchndmbkaaaWeary
namespace Go.Proofs.Ythlihchndmbkaaa
open Go.RowKit

structure RowR where
  A : Option Addr
  c : Nat
  xs : List Int
structure CourseR where
  st : List Int
  A : Option Addr
  ca : Nat
  rows : List RowR
  B : Option Addr
  cb : Nat
abbrev cellsK (x : CourseR) : Array Value := #[.slice x.A x.st.length x.ca, .slice x.B x.rows.length x.cb]
abbrev courseKV (x : CourseR) : Value := .agg (cellsK x)
def RowsAt (w : World) (n : Nat) (B : Option Addr) (rows : List RowR) : Prop :=
  (rows = [] ∨ ∃ b off, B = some ⟨b, off, none⟩ ∧ b < n ∧ ∀ (i : Nat) (r : RowR), rows[i]? = some r → w.cell? ⟨b, off + i, none⟩ = some (.slice r.A r.xs.length r.c)) ∧ ∀ r ∈ rows, Ints w n r.A r.xs
theorem RowsAt.below {w w' : World} {n : Nat} {B : Option Addr} {rows : List RowR} (h : RowsAt w n B rows) (hb : Below n w w') : RowsAt w' n B rows := by
  refine ⟨?_, fun r hr => (h.2 r hr).below hb⟩
  rcases h.1 with e | ⟨b, off, e, h1, h2⟩
  · exact .inl e
  · exact .inr ⟨b, off, e, h1, fun i r hr => (hb.cell (p := ⟨b, off + i, none⟩) h1).trans (h2 i r hr)⟩
theorem RowsAt.more {w : World} {n n' : Nat} {B : Option Addr} {rows : List RowR} (h : RowsAt w n B rows) (hn : n ≤ n') : RowsAt w n' B rows := by
  refine ⟨?_, fun r hr => (h.2 r hr).more hn⟩
  rcases h.1 with e | ⟨b, off, e, h1, h2⟩
  · exact .inl e
  · exact .inr ⟨b, off, e, by omega, h2⟩
theorem RowsAt.at_ {w : World} {n : Nat} {B : Option Addr} {rows : List RowR} (h : RowsAt w n B rows) {k : Nat} (hk : k < rows.length) :
    ∃ b off r, B = some ⟨b, off, none⟩ ∧ b < n ∧ w.cell? ⟨b, off + k, none⟩ = some (.slice r.A r.xs.length r.c) ∧ Ints w n r.A r.xs ∧ Hid (rows[k]? = some r) := by
  rcases h.1 with e | ⟨b, off, e, h1, h2⟩
  · rw [e] at hk; simp at hk
  · have hx := List.getElem?_eq_getElem hk
    exact ⟨b, off, rows[k], e, h1, h2 k _ hx, h.2 _ (List.mem_of_getElem? hx), hx⟩
def CourseAt (w : World) (n : Nat) (x : CourseR) : Prop := Ints w n x.A x.st ∧ RowsAt w n x.B x.rows
theorem CourseAt.below {w w' : World} {n : Nat} {x : CourseR} (h : CourseAt w n x) (hb : Below n w w') : CourseAt w' n x := ⟨h.1.below hb, h.2.below hb⟩
theorem CourseAt.more {w : World} {n n' : Nat} {x : CourseR} (h : CourseAt w n x) (hn : n ≤ n') : CourseAt w n' x := ⟨h.1.more hn, h.2.more hn⟩

/-- a start of a hand that can be -/
def startK (t : TaskD) (st : List Int) (h : Nat) : Bool := match t.hands[h]? with
  | some y => inB (st.getD h 0) y.s0 y.s1
  | none => false
/-- a step of a hand that can be, if r signs -/
def stepK (t : TaskD) (r : Int) (xs : List Int) (h : Nat) : Bool := match t.hands[h]? with
  | some y => if r = (h : Int) then inB (xs.getD h 0) y.t0 y.t1 else inB (xs.getD h 0) y.e0 y.e1
  | none => false
def rowK (t : TaskD) (r : Int) (xs : List Int) : Bool := decide (xs.length = t.hands.length) && (List.range t.hands.length).all (stepK t r xs)
def isCourseD (t : TaskD) (rota st : List Int) (steps : List (List Int)) : Bool :=
  decide (st.length = t.hands.length) && (decide (steps.length = rota.length) && ((List.range t.hands.length).all (startK t st) && (List.range rota.length).all fun i => rowK t (rota.getD i 0) (steps.getD i [])))
theorem all_range_succ (p : Nat → Bool) (k : Nat) : (List.range (k + 1)).all p = ((List.range k).all p && p k) := by
  rw [List.range_succ, List.all_append]
  simp
theorem all_range_false {p : Nat → Bool} {k n : Nat} (hk : k < n) (h : p k = false) : (List.range n).all p = false := List.all_eq_false.2 ⟨k, List.mem_range.2 hk, by rw [h]; simp⟩

theorem quiet_plain {P : Program} {f : FuncId} {args : Array Value} {w : World} {n : Nat} {v : Value} (h : Calls P f args (w.drewN n) fun e w' => e = .returned v ∧ w.drewN n = w') :
    Calls P f args (w.drewN n) fun e w'' => e = .returned v ∧ ∃ m, w'' = w.drewN m := h.mono fun _ _ ⟨he, hk⟩ => ⟨he, n, hk.symm⟩

set_option maxRecDepth 100000 in
set_option maxHeartbeats 16000000 in
theorem isCourse_any (t : TaskR) (xs : List Int) (A1 : Option Addr) (c1 : Nat) (x : CourseR) (n : Nat) (w : World) (ht : TaskAt w n t) (h1 : Ints w n A1 xs) (hx : CourseAt w n x) (hn : n ≤ w.heap.size) (hl : xs.length ≤ 20) (hh : t.d.hands.length ≤ 3) :
    Calls Try.prog 20 #[taskV t, .slice A1 xs.length c1, courseKV x] w fun e w' => e = .returned (.bool (isCourseD t.d xs x.st (x.rows.map (·.xs)))) ∧ Below w.heap.size w w' := by
  have HT := Lib.hid (ht.more hn)
  have HI := Lib.hid (h1.more hn)
  have HK := Lib.hid (hx.more hn)
  have HO : Hid (isCourseD t.d xs x.st (x.rows.map (·.xs)) = (decide (x.st.length = t.d.hands.length) && (decide ((x.rows.map (·.xs)).length = xs.length) && ((List.range t.d.hands.length).all (startK t.d x.st) && (List.range xs.length).all fun i => rowK t.d (xs.getD i 0) ((x.rows.map (·.xs)).getD i []))))) := rfl
  generalize isCourseD t.d xs x.st (x.rows.map (·.xs)) = ok at HO ⊢
  have HML : Hid ((x.rows.map (·.xs)).length = x.rows.length) := Lib.hid (List.length_map ..)
  clear ht h1 hx hn
  obtain ⟨hs, hhs⟩ : ∃ q, t.d.hands = q := ⟨_, rfl⟩
  have HHS := Lib.hid hhs
  rw [hhs] at hh
  obtain ⟨st, Ast, cast, rows, Brw, cbrw⟩ := x
  dsimp only at HK HO HML
  have HTH : Hid (HandsAt w w.heap.size t.A hs) := Lib.hid (by rw [← hhs]; exact HT.out.1)
  rw [hhs] at HO
  clear HT hhs
  go_enter Try.func20, Try.ntmps20
  go_upto_region 1 with fail
  obtain ⟨W, hW, hg, hf, hx, hsz⟩ := two_blocks w 25 39 (cellsT t) (cellsK ⟨st, Ast, cast, rows, Brw, cbrw⟩)
  rw [hW]
  clear hW
  have htc0 : W.cell? ⟨w.heap.size, 0, none⟩ = some (.slice t.A hs.length t.ca) := by rw [← HHS.out]; exact hf.cell 0
  have HTC := Lib.hid (fun (w0 : World) (hw : Grow W w0) => hw.cell htc0)
  have hxc := hx.cell
  have HX := Lib.hid hx
  have HG := Lib.hid hg
  clear hf hg hx
  by_cases c1' : st.length = hs.length
  case neg =>
    have q1 : decide ((st.length : Int) = (hs.length : Int)) = false := decide_eq_false (by omega)
    have q2 : ((st.length : Int) == (hs.length : Int)) = false := by simpa using q1
    have q3 : ((st.length : Int) != (hs.length : Int)) = true := by rw [bne_iff_ne]; omega
    have HF0 : Hid (ok = false) := Lib.hid (by rw [HO.out, decide_eq_false c1']; rfl)
    clear c1'
    go_wp2
    go_ret
    exact ⟨ret_bool HF0.out.symm, HG.out⟩
  have q1 : decide ((st.length : Int) = (hs.length : Int)) = true := decide_eq_true (by omega)
  have q2 : ((st.length : Int) != (hs.length : Int)) = false := by rw [bne_eq_false_iff_eq]; omega
  by_cases c2' : rows.length = xs.length
  case neg =>
    have r1 : decide ((rows.length : Int) = (xs.length : Int)) = false := decide_eq_false (by omega)
    have r3 : ((rows.length : Int) != (xs.length : Int)) = true := by rw [bne_iff_ne]; omega
    have HF0 : Hid (ok = false) := Lib.hid (by rw [HO.out, HML.out, decide_eq_false c2']; simp)
    clear c1' c2'
    go_wp2
    go_ret
    exact ⟨ret_bool HF0.out.symm, HG.out⟩
  have r1 : decide ((rows.length : Int) = (xs.length : Int)) = true := decide_eq_true (by omega)
  have r2 : ((rows.length : Int) != (xs.length : Int)) = false := by rw [bne_eq_false_iff_eq]; omega
  have HSL := Lib.hid c1'
  have HRL := Lib.hid c2'
  have HO2 : Hid (ok = ((List.range hs.length).all (startK t.d st) && (List.range xs.length).all fun i => rowK t.d (xs.getD i 0) ((rows.map (·.xs)).getD i []))) := Lib.hid (by rw [HO.out, HML.out, decide_eq_true c1', decide_eq_true c2']; rfl)
  clear c1' c2' HO
  have HKW := Lib.hid (fun (w0 : World) (hw : Grow W w0) => HK.out.below (HG.out.trans hw))
  have HTW := Lib.hid (fun (w0 : World) (hw : Grow W w0) => HTH.out.below (HG.out.trans hw))
  have HIW := Lib.hid (fun (w0 : World) (hw : Grow W w0) => HI.out.below (HG.out.trans hw))
  go_upto_region 4 with fail
  go_loopw [7] (fun iv wr => ∃ h : Nat, iv = .int .i64 h ∧ h ≤ hs.length ∧ (List.range h).all (startK t.d st) = true ∧ Grow W wr) (fun i _ => hs.length - (intOf i).toNat)
  case atStart => exact ⟨0, rfl, Nat.zero_le _, rfl, Grow.refl _⟩
  case round => as_aux_lemma =>
    obtain ⟨h, rfl, hle, hall, hgr⟩ := hrel
    rename World => wr
    have HALL := Lib.hid hall
    have HGR := Lib.hid hgr
    clear hall hgr hxc htc0
    have hxc := (HGR.out.block HX.out).cell
    have htc0 := HTC.out wr HGR.out
    by_cases hlt : h < hs.length
    · have hls : h < st.length := by have := HSL.out; omega
      have hhi : (h : Int) < (hs.length : Int) := by omega
      have hsi : (h : Int) < (st.length : Int) := by omega
      have hh0 : (0 : Int) ≤ (h : Int) := by omega
      have hld : decide ((h : Int) < (st.length : Int)) = true := decide_eq_true hsi
      have hldn : decide (h < st.length) = true := decide_eq_true hls
      obtain ⟨bs, os, v, hse, hbs, hsc, HV⟩ := (HKW.out wr HGR.out).1.at_ hls
      subst hse
      obtain ⟨bh, oh, y, hae, hbh, hyc, HY⟩ := (HTW.out wr HGR.out).at_ hlt
      rw [hae] at htc0
      have e0 := hyc 0 (by omega); have e1 := hyc 1 (by omega)
      rw [Nat.add_zero] at e0
      have HSK : Hid (startK t.d st h = inB v y.s0 y.s1) := Lib.hid (by unfold startK; rw [HHS.out, HY.out, getD_at HV.out])
      have HB := Lib.hid (fun w0 => rwithin_any v y.s0 y.s1 w0)
      generalize inB v y.s0 y.s1 = bv at HSK HB
      clear hyc hbh hbs
      go_upto_region 6 with fail
      cases bv
      · have HF0 : Hid (ok = false) := Lib.hid (by rw [HO2.out, all_range_false hlt HSK.out]; rfl)
        go_quiet ((go_at_call 42; exact quiet_plain (HB.out _)))
        go_wp2
        go_ret
        exact ⟨ret_bool HF0.out.symm, HG.out.trans (HGR.out.trans (Below.drewN_ (Below.refl _ _) _))⟩
      · go_quiet ((go_at_call 42; exact quiet_plain (HB.out _)))
        go_wp2
        go_roundw
        case rel => exact ⟨h + 1, by go_num, hlt, by rw [all_range_succ, HALL.out, HSK.out]; rfl, HGR.out.trans (Below.drewN_ (Below.refl _ _) _)⟩
        case measure => simp [intOf]; omega
    · obtain rfl : h = hs.length := by omega
      have HO3 : Hid (ok = (List.range xs.length).all fun i => rowK t.d (xs.getD i 0) ((rows.map (·.xs)).getD i [])) := Lib.hid (by rw [HO2.out, HALL.out, Bool.true_and])
      have hld : decide ((hs.length : Int) < (st.length : Int)) = false := decide_eq_false (by have := HSL.out; omega)
      have hldn : decide (hs.length < st.length) = false := decide_eq_false (by have := HSL.out; omega)
      clear HO2
      go_wp2_with fail
      go_loopw [8] (fun iv wi => ∃ i : Nat, iv = .int .i64 i ∧ i ≤ xs.length ∧ ((List.range i).all fun i => rowK t.d (xs.getD i 0) ((rows.map (·.xs)).getD i [])) = true ∧ Grow W wi) (fun i _ => xs.length - (intOf i).toNat)
      case atStart => exact ⟨0, rfl, Nat.zero_le _, rfl, HGR.out⟩
      case round => as_aux_lemma =>
        obtain ⟨i, rfl, hil, hall, hgr⟩ := hrel
        rename World => wi
        have HALI := Lib.hid hall
        have HGI := Lib.hid hgr
        clear hall hgr hxc htc0 hld hldn
        have hxc := (HGI.out.block HX.out).cell
        have htc0 := HTC.out wi HGI.out
        by_cases hit : i < xs.length
        · have hir : i < rows.length := by have := HRL.out; omega
          have hii : (i : Int) < (xs.length : Int) := by omega
          have hri : (i : Int) < (rows.length : Int) := by omega
          have hi0 : (0 : Int) ≤ (i : Int) := by omega
          have hid : decide ((i : Int) < (xs.length : Int)) = true := decide_eq_true hii
          have hidn : decide (i < xs.length) = true := decide_eq_true hit
          obtain ⟨brw, orw, r, hbe, hbb, hrc, _, HR⟩ := (HKW.out wi HGI.out).2.at_ hir
          subst hbe
          obtain ⟨y, HYI⟩ : ∃ y, Hid (xs[i]? = some y) := ⟨_, Lib.hid (List.getElem?_eq_getElem hit)⟩
          have HRK : Hid (rowK t.d (xs.getD i 0) ((rows.map (·.xs)).getD i []) = (decide (r.xs.length = hs.length) && (List.range hs.length).all (stepK t.d y r.xs))) := Lib.hid (by
            have e : (rows.map (·.xs))[i]? = some r.xs := by rw [List.getElem?_map, HR.out]; rfl
            rw [getD_at HYI.out, getD_at e]
            unfold rowK
            rw [HHS.out])
          have HFB : Hid (rowK t.d (xs.getD i 0) ((rows.map (·.xs)).getD i []) = false → ok = false) := fun h => by rw [HO3.out]; exact all_range_false (p := fun i => rowK t.d (xs.getD i 0) ((rows.map (·.xs)).getD i [])) hit h
          have HIT := Lib.hid hit
          have HIR := Lib.hid hir
          clear hbb
          by_cases hlen : r.xs.length = hs.length
          case neg =>
            have p1 : decide ((r.xs.length : Int) = (hs.length : Int)) = false := decide_eq_false (by omega)
            have p2 : ((r.xs.length : Int) != (hs.length : Int)) = true := by rw [bne_iff_ne]; omega
            have HF0 : Hid (ok = false) := Lib.hid (HFB.out (by rw [HRK.out, decide_eq_false hlen]; rfl))
            clear hlen
            go_upto_region 11 with fail
            go_quiet (fail)
            go_wp2
            go_ret
            exact ⟨ret_bool HF0.out.symm, HG.out.trans (HGI.out.trans (Below.drewN_ (Below.refl _ _) _))⟩
          have p1 : decide ((r.xs.length : Int) = (hs.length : Int)) = true := decide_eq_true (by omega)
          have p2 : ((r.xs.length : Int) != (hs.length : Int)) = false := by rw [bne_eq_false_iff_eq]; omega
          have HRL2 := Lib.hid hlen
          have HRK2 : Hid (rowK t.d (xs.getD i 0) ((rows.map (·.xs)).getD i []) = (List.range hs.length).all (stepK t.d y r.xs)) := Lib.hid (by rw [HRK.out, decide_eq_true hlen, Bool.true_and])
          clear hlen HRK
          go_upto_region 11 with fail
          go_quiet (fail)
          go_wp2_with fail
          go_loopw [9] (fun jv wj => ∃ h : Nat, jv = .int .i64 h ∧ h ≤ hs.length ∧ (List.range h).all (stepK t.d y r.xs) = true ∧ Grow W wj) (fun i _ => hs.length - (intOf i).toNat)
          case atStart => exact ⟨0, rfl, Nat.zero_le _, rfl, HGI.out.trans (Below.drewN_ (Below.refl _ _) _)⟩
          case round => as_aux_lemma =>
            obtain ⟨h, rfl, hhl, hall, hgr⟩ := hrel
            rename World => wj
            have HALJ := Lib.hid hall
            have HGJ := Lib.hid hgr
            clear hall hgr hxc htc0 hrc hid hidn p1 p2
            have hxc := (HGJ.out.block HX.out).cell
            have htc0 := HTC.out wj HGJ.out
            by_cases hht : h < hs.length
            · have hhi : (h : Int) < (hs.length : Int) := by omega
              have hh0 : (0 : Int) ≤ (h : Int) := by omega
              have hjd : decide ((h : Int) < (hs.length : Int)) = true := decide_eq_true hhi
              have hjdn : decide (h < hs.length) = true := decide_eq_true hht
              obtain ⟨bh, oh, z, hae, hbh, hzc, HZ⟩ := (HTW.out wj HGJ.out).at_ hht
              rw [hae] at htc0
              have e2 := hzc 2 (by omega); have e3 := hzc 3 (by omega); have e4 := hzc 4 (by omega); have e5 := hzc 5 (by omega)
              have hhr : h < r.xs.length := by have := HRL2.out; omega
              have hhri : (h : Int) < (r.xs.length : Int) := by omega
              obtain ⟨v, HVV⟩ : ∃ v, Hid (r.xs[h]? = some v) := ⟨_, Lib.hid (List.getElem?_eq_getElem hhr)⟩
              obtain ⟨bx, ox, u, hxe, hbx, hyc, HU⟩ := (HIW.out wj HGJ.out).at_ HIT.out
              obtain rfl : u = y := Option.some.inj (HU.out.symm.trans HYI.out)
              subst hxe
              have HBYC := Lib.hid (fun (w0 : World) (hw : Grow wj w0) => hw.cell hyc)
              have HSK : Hid (stepK t.d u r.xs h = if u = (h : Int) then inB v z.t0 z.t1 else inB v z.e0 z.e1) := Lib.hid (by unfold stepK; rw [HHS.out, HZ.out, getD_at HVV.out])
              have HFC : Hid (stepK t.d u r.xs h = false → ok = false) := fun hq => HFB.out (by rw [HRK2.out]; exact all_range_false hht hq)
              have HREL : Hid ((List.range (h + 1)).all (stepK t.d u r.xs) = stepK t.d u r.xs h) := Lib.hid (by rw [all_range_succ, HALJ.out, Bool.true_and])
              generalize stepK t.d u r.xs h = sk at HSK HFC HREL
              clear hbh hbx hzc
              go_upto_region 17 with fail
              obtain ⟨W5, hW5, hg5, hs5, hsz5⟩ := one_block wj 47 #[.int .i64 z.e0, .int .i64 z.e1]
              rw [hW5]
              clear hW5
              obtain ⟨bsp, ebs⟩ : ∃ q, wj.heap.size = q := ⟨_, rfl⟩
              rw [ebs] at hs5 hsz5 ⊢
              have HG5 := Lib.hid hg5
              have HS5 := Lib.hid hs5
              have HZ5 : Hid (wj.heap.size ≤ bsp) := Lib.hid (Nat.le_of_eq ebs)
              have hyc5 := HBYC.out W5 hg5
              clear hg5 hs5 hyc ebs
              by_cases hy : u = (h : Int)
              · have dy : decide (u = (h : Int)) = true := decide_eq_true hy
                have dyb : (u == (h : Int)) = true := by simpa using hy
                have hsk : inB v z.t0 z.t1 = sk := by rw [HSK.out, if_pos hy]
                have e2' := HG5.out.cell e2
                have e3' := HG5.out.cell e3
                have htc5 : W5.cell? ⟨w.heap.size, 0, none⟩ = some (.slice (some ⟨bh, oh, none⟩) hs.length t.ca) := by rw [← hae]; exact HTC.out W5 (HGJ.out.trans HG5.out)
                have hsc := HS5.out.cell
                have hsf := HS5.out.frozen
                clear hy e2 e3 e4 e5
                go_upto_region 19 with fail
                obtain ⟨w6, hw6⟩ : ∃ q, (W5.setCell ⟨bsp, 0, none⟩ (.int .i64 z.t0)).setCell ⟨bsp, 1, none⟩ (.int .i64 z.t1) = q := ⟨_, rfl⟩
                have HS6 : Hid (BlockIs w6 bsp 47 #[.int .i64 z.t0, .int .i64 z.t1]) := Lib.hid (by rw [← hw6]; exact (HS5.out.near 0 _).near 1 _)
                have HGW6 : Hid (Grow W w6) := Lib.hid (HGJ.out.trans (by rw [← hw6]; exact (HG5.out.setC (p := ⟨bsp, 0, none⟩) HZ5.out _).setC (p := ⟨bsp, 1, none⟩) HZ5.out _))
                rw [hw6]
                clear hw6 e2' e3' htc5 hsc hsf
                obtain ⟨b', o', r', hbe', _, hrc6, hri6, HR6⟩ := (HKW.out w6 HGW6.out).2.at_ HIR.out
                obtain rfl : r' = r := Option.some.inj (HR6.out.symm.trans HR.out)
                injection hbe' with hbe'
                injection hbe' with hb1 hb2
                subst hb1
                subst hb2
                obtain ⟨bv, ov, v', hAe, _, hvc, HV6⟩ := hri6.at_ hhr
                obtain rfl : v' = v := Option.some.inj (HV6.out.symm.trans HVV.out)
                rw [hAe] at hrc6
                have hx6 := (HGW6.out.block HX.out).cell
                have hsc6 := HS6.out.cell
                have HB := Lib.hid (fun w0 => rwithin_any v' z.t0 z.t1 w0)
                rw [hsk] at HB
                clear hri6 HR6 hAe HV6 hyc5 hxc htc0 hsk
                cases sk
                · have HF0 : Hid (ok = false) := Lib.hid (HFC.out rfl)
                  go_quiet ((go_at_call 42; exact quiet_plain (HB.out _)))
                  go_wp2
                  go_ret
                  exact ⟨ret_bool HF0.out.symm, HG.out.trans (HGW6.out.trans (Below.drewN_ (Below.refl _ _) _))⟩
                · go_quiet ((go_at_call 42; exact quiet_plain (HB.out _)))
                  go_wp2
                  go_roundw
                  case rel => exact ⟨h + 1, by go_num, hht, HREL.out, HGW6.out.trans (Below.drewN_ (Below.refl _ _) _)⟩
                  case measure => simp [intOf]; omega
              · have dy : decide (u = (h : Int)) = false := decide_eq_false hy
                have dyb : (u == (h : Int)) = false := by simpa using hy
                have hsk : inB v z.e0 z.e1 = sk := by rw [HSK.out, if_neg hy]
                have HS6 := HS5
                have HGW6 : Hid (Grow W W5) := Lib.hid (HGJ.out.trans HG5.out)
                clear hy e2 e3 e4 e5
                go_upto_region 19 with fail
                obtain ⟨b', o', r', hbe', _, hrc6, hri6, HR6⟩ := (HKW.out W5 HGW6.out).2.at_ HIR.out
                obtain rfl : r' = r := Option.some.inj (HR6.out.symm.trans HR.out)
                injection hbe' with hbe'
                injection hbe' with hb1 hb2
                subst hb1
                subst hb2
                obtain ⟨bv, ov, v', hAe, _, hvc, HV6⟩ := hri6.at_ hhr
                obtain rfl : v' = v := Option.some.inj (HV6.out.symm.trans HVV.out)
                rw [hAe] at hrc6
                have hx6 := (HGW6.out.block HX.out).cell
                have hsc6 := HS6.out.cell
                have HB := Lib.hid (fun w0 => rwithin_any v' z.e0 z.e1 w0)
                rw [hsk] at HB
                clear hri6 HR6 hAe HV6 hyc5 hxc htc0 hsk
                cases sk
                · have HF0 : Hid (ok = false) := Lib.hid (HFC.out rfl)
                  go_quiet ((go_at_call 42; exact quiet_plain (HB.out _)))
                  go_wp2
                  go_ret
                  exact ⟨ret_bool HF0.out.symm, HG.out.trans (HGW6.out.trans (Below.drewN_ (Below.refl _ _) _))⟩
                · go_quiet ((go_at_call 42; exact quiet_plain (HB.out _)))
                  go_wp2
                  go_roundw
                  case rel => exact ⟨h + 1, by go_num, hht, HREL.out, HGW6.out.trans (Below.drewN_ (Below.refl _ _) _)⟩
                  case measure => simp [intOf]; omega
            · obtain rfl : h = hs.length := by omega
              have hjd : decide ((hs.length : Int) < (hs.length : Int)) = false := by simp
              have HRI : Hid (((List.range (i + 1)).all fun i => rowK t.d (xs.getD i 0) ((rows.map (·.xs)).getD i [])) = true) := Lib.hid (by rw [all_range_succ, HALI.out, Bool.true_and, HRK2.out]; exact HALJ.out)
              go_wp2
              go_roundw
              case rel => exact ⟨i + 1, by go_num, HIT.out, HRI.out, HGJ.out⟩
              case measure => have := HIT.out; simp [intOf]; omega
        · obtain rfl : i = xs.length := by omega
          have hid : decide ((xs.length : Int) < (xs.length : Int)) = false := by simp
          have HF1 : Hid (ok = true) := Lib.hid (by rw [HO3.out]; exact HALI.out)
          go_wp2
          go_ret
          exact ⟨ret_bool HF1.out.symm, HG.out.trans HGI.out⟩

end Go.Proofs.Ythlihchndmbkaaa

namespace Go.Proofs.Ythlihchndmbkaaa
open Go.RowKit

/-- a course that Run can follow: as long as the rota, its numbers in bounds -/
structure RunOK (t : TaskD) (rota : List Nat) (st : List Int) (steps : List (List Int)) : Prop where
  ok : okTask t = true
  hands : ∀ h ∈ rota, h < t.hands.length
  len : rota.length ≤ t.parts.length
  l1 : st.length = t.hands.length
  l2 : steps.length = rota.length
  l3 : ∀ r ∈ steps, List.length r = t.hands.length
  b1 : ∀ v ∈ st, 0 ≤ v ∧ v ≤ 100
  b2 : ∀ r ∈ steps, ∀ v ∈ r, 0 ≤ v ∧ v ≤ 20
def stF (st : List Int) (k : Nat) : Int := st.getD k 0
def spF (steps : List (List Int)) (i k : Nat) : Int := (steps.getD i []).getD k 0
abbrev runF (rota : List Nat) (st : List Int) (steps : List (List Int)) : Nat → Nat → Int := runW (stF st) (spF steps) rota
theorem getD_mem {α : Type} {l : List α} {i : Nat} {d : α} (h : i < l.length) : l.getD i d ∈ l := by
  rw [getD_at (List.getElem?_eq_getElem h)]
  exact List.getElem_mem h
theorem RunOK.step {t : TaskD} {rota : List Nat} {st : List Int} {steps : List (List Int)} (h : RunOK t rota st steps) {i k : Nat} (hi : i < rota.length) (hk : k < t.hands.length) : 0 ≤ spF steps i k ∧ spF steps i k ≤ 20 := by
  have h1 := getD_mem (d := ([] : List Int)) (show i < steps.length by rw [h.l2]; exact hi)
  exact h.b2 _ h1 _ (getD_mem (by rw [h.l3 _ h1]; exact hk))
theorem RunOK.wear {t : TaskD} {rota : List Nat} {st : List Int} {steps : List (List Int)} (h : RunOK t rota st steps) : ∀ i, i ≤ rota.length → ∀ k, k < t.hands.length → 0 ≤ runF rota st steps i k ∧ runF rota st steps i k ≤ 100 + 20 * (i : Int)
  | 0, _, k, hk => by
    have := h.b1 _ (getD_mem (d := 0) (show k < st.length by rw [h.l1]; exact hk))
    show 0 ≤ stF st k ∧ stF st k ≤ 100 + 20 * ((0 : Nat) : Int)
    unfold stF
    omega
  | i + 1, hi, k, hk => by
    have ih := h.wear i (by omega) k hk
    have hs := h.step (show i < rota.length by omega) hk
    show 0 ≤ (if rota[i]? = some k then runF rota st steps i k + spF steps i k else max 0 (runF rota st steps i k - spF steps i k)) ∧ (if rota[i]? = some k then runF rota st steps i k + spF steps i k else max 0 (runF rota st steps i k - spF steps i k)) ≤ _
    split <;> omega
theorem RunOK.part {t : TaskD} {rota : List Nat} {st : List Int} {steps : List (List Int)} (h : RunOK t rota st steps) {i : Nat} (hi : i < rota.length) : 0 ≤ partM t (runF rota st steps) rota i ∧ partM t (runF rota st steps) rota i ≤ 5000 := by
  have hp := okTask_parts h.ok
  have hr : rota.getD i 0 < t.hands.length := h.hands _ (getD_mem hi)
  have hw := h.wear i (by omega) _ hr
  have hl : (i : Int) ≤ 9 := by have := h.len; omega
  have hpt := hp.2.2.2.1 _ (getD_mem (d := 0) (show i < t.parts.length by have := h.len; omega))
  have hsl : 0 ≤ slipAt t (rota.getD i 0) ∧ slipAt t (rota.getD i 0) ≤ 100 := by
    unfold slipAt
    rw [List.getElem?_eq_getElem hr]
    have := okHand_parts (hp.2.1 _ (List.getElem_mem hr))
    dsimp only
    omega
  unfold partM
  have := mul_le hpt.1 hpt.2 (a := slipAt t (rota.getD i 0) + runF rota st steps i (rota.getD i 0)) (by omega) (by omega)
  split <;> omega
theorem RunOK.mist {t : TaskD} {rota : List Nat} {st : List Int} {steps : List (List Int)} (h : RunOK t rota st steps) : ∀ i, i ≤ rota.length → 0 ≤ runM t (runF rota st steps) rota i ∧ runM t (runF rota st steps) rota i ≤ 5000 * (i : Int)
  | 0, _ => ⟨Int.le_refl _, by show (0 : Int) ≤ 5000 * ((0 : Nat) : Int); decide⟩
  | i + 1, hi => by
    have ih := h.mist i (by omega)
    have hp := h.part (show i < rota.length by omega)
    show 0 ≤ runM t _ rota i + partM t _ rota i ∧ runM t _ rota i + partM t _ rota i ≤ _
    omega
/-- the weariness of all hands before the part i -/
def wearRow (n : Nat) (W : Nat → Nat → Int) (i : Nat) : List Int := (List.range n).map (W i)
/-- and while the part i is worked off: the first h hands have gone on -/
def wearMid (n : Nat) (W : Nat → Nat → Int) (i h : Nat) : List Int := (List.range n).map fun k => if k < h then W (i + 1) k else W i k
theorem wearMid_zero (n : Nat) (W : Nat → Nat → Int) (i : Nat) : wearMid n W i 0 = wearRow n W i := by simp [wearMid, wearRow]
theorem wearMid_all (n : Nat) (W : Nat → Nat → Int) (i : Nat) : wearMid n W i n = wearRow n W (i + 1) := by
  unfold wearMid wearRow
  exact List.map_congr_left fun k hk => by rw [if_pos (List.mem_range.1 hk)]
theorem wearMid_len (n : Nat) (W : Nat → Nat → Int) (i h : Nat) : (wearMid n W i h).length = n := by simp [wearMid]
theorem wearMid_at {n : Nat} {W : Nat → Nat → Int} {i h k : Nat} (hk : k < n) : (wearMid n W i h)[k]? = some (if k < h then W (i + 1) k else W i k) := by simp [wearMid, hk]
theorem wearMid_set (n : Nat) (W : Nat → Nat → Int) (i h : Nat) (hh : h < n) : (wearMid n W i h).set h (W (i + 1) h) = wearMid n W i (h + 1) := by
  refine List.ext_getElem? fun k => ?_
  by_cases hk : k < n
  · by_cases e : h = k
    · subst e
      rw [List.getElem?_set_self (by rw [wearMid_len]; exact hh), wearMid_at hk, if_pos (by omega)]
    · rw [List.getElem?_set_ne e, wearMid_at hk, wearMid_at hk]
      by_cases g : k < h
      · rw [if_pos g, if_pos (by omega)]
      · rw [if_neg g, if_neg (by omega)]
  · rw [List.getElem?_eq_none (by rw [List.length_set, wearMid_len]; omega), List.getElem?_eq_none (by rw [wearMid_len]; omega)]

/-- integers in a block of integers that lies at lo or behind it -/
def IntsT (w : World) (lo : Nat) (A : Option Addr) (xs : List Int) : Prop :=
  xs = [] ∨ ∃ b cs, A = some ⟨b, 0, none⟩ ∧ lo ≤ b ∧ BlockIs w b 3 cs ∧ ∀ (i : Nat) (x : Int), xs[i]? = some x → cs[i]? = some (Value.int .i64 x)
theorem IntsT.grow {w w' : World} {lo : Nat} {A : Option Addr} {xs : List Int} (h : IntsT w lo A xs) (hg : Grow w w') : IntsT w' lo A xs := by
  rcases h with h | ⟨b, cs, e, h1, h2, h3⟩
  · exact .inl h
  · exact .inr ⟨b, cs, e, h1, hg.block h2, h3⟩
theorem IntsT.grown {w w' : World} {lo : Nat} {A : Option Addr} {xs : List Int} (h : IntsT w lo A xs) {base e size n : Nat} {v : Value} {ys : List Value} (ho : w.ownsRow base e size v n ys) (he : 3 ≠ e) (hg : w.grownBy w' v.ownBlock) : IntsT w' lo A xs := by
  rcases h with h | ⟨b, cs, e', h1, h2, h3⟩
  · exact .inl h
  · exact .inr ⟨b, cs, e', h1, h2.grown hg (fun q => own_type ho h2 he q.symm), h3⟩
theorem IntsT.far {w : World} {lo : Nat} {A : Option Addr} {xs : List Int} (h : IntsT w lo A xs) {p : Addr} (hp : p.block < lo) (v : Value) : IntsT (w.setCell p v) lo A xs := by
  rcases h with h | ⟨b, cs, e, h1, h2, h3⟩
  · exact .inl h
  · exact .inr ⟨b, cs, e, h1, h2.far (by omega) v, h3⟩
theorem IntsT.ints {w : World} {lo : Nat} {A : Option Addr} {xs : List Int} (h : IntsT w lo A xs) : Ints w w.heap.size A xs := by
  rcases h with h | ⟨b, cs, e, h1, h2, h3⟩
  · exact .inl h
  · exact .inr ⟨b, 0, e, h2.lt, fun i x hi => by rw [Nat.zero_add, h2.cell]; exact h3 i x hi⟩
theorem own_row {w : World} {base cap : Nat} {A : Option Addr} {xs : List Int} (h : w.ownsRow base 3 1 (.slice A xs.length cap) xs.length (xs.map (Value.int .i64))) (h0 : 0 < xs.length) : ∃ g, A = some ⟨g, 0, none⟩ ∧ base ≤ g ∧ RowAt w g cap xs ∧ xs.length ≤ cap := by
  have h' := h
  rcases h.2 with ⟨e, e2⟩ | ⟨g, c, cur, hv, hg, hh, h2, h3, h4, h5⟩
  · omega
  · injection hv with e1 e2 e3
    subst e1 e3
    refine ⟨g, rfl, hg, ⟨cur, hh, by omega, fun i x hi => ?_⟩, h2⟩
    have hc := World.ownsRow.cells (g := g) h' rfl i (.int .i64 x) (by rw [List.getElem?_map, hi]; rfl)
    have hB : BlockIs w g 3 cur := hh
    rw [show (⟨g, 0, none⟩ : Addr).add i = ⟨g, i, none⟩ by (simp [Addr.add]; try omega), hB.cell] at hc
    exact hc
theorem own_intsT {w : World} {base cap : Nat} {A : Option Addr} {xs : List Int} (h : w.ownsRow base 3 1 (.slice A xs.length cap) xs.length (xs.map (Value.int .i64))) (h0 : 0 < xs.length) : IntsT w base A xs := by
  obtain ⟨g, e, hg, ⟨cs, h1, _, h3⟩, _⟩ := own_row h h0
  exact .inr ⟨g, cs, e, hg, h1, h3⟩
abbrev rowV (r : RowR) : Value := .slice r.A r.xs.length r.c
theorem own_rows {w : World} {base cap : Nat} {A : Option Addr} {R : List RowR} (h : w.ownsRow base 23 1 (.slice A R.length cap) R.length (R.map rowV)) {lo : Nat} (hr : ∀ r ∈ R, IntsT w lo r.A r.xs) : RowsAt w w.heap.size A R := by
  refine ⟨?_, fun r hr' => (hr r hr').ints⟩
  have h' := h
  rcases h.2 with ⟨e, e2⟩ | ⟨g, c, cur, hv, hg, hh, h2, h3, h4, h5⟩
  · exact .inl (List.eq_nil_of_length_eq_zero e2)
  · injection hv with e1 e2 e3
    subst e1 e3
    refine .inr ⟨g, 0, rfl, (Array.getElem?_eq_some_iff.1 hh).1, fun i r hi => ?_⟩
    have hc := World.ownsRow.cells (g := g) h' rfl i (rowV r) (by rw [List.getElem?_map, hi]; rfl)
    rw [show (⟨g, 0, none⟩ : Addr).add i = ⟨g, 0 + i, none⟩ by (simp [Addr.add]; try omega)] at hc
    exact hc
theorem RowAt.set {w : World} {b r : Nat} {xs : List Int} (h : RowAt w b r xs) {k : Nat} (hk : k < xs.length) (hr : k < r) (x : Int) : RowAt (w.setCell ⟨b, k, none⟩ (.int .i64 x)) b r (xs.set k x) := by
  obtain ⟨cs, h1, h2, h3⟩ := h
  refine ⟨_, h1.near k (.int .i64 x), by rw [Array.size_setIfInBounds]; exact h2, fun i y hi => ?_⟩
  rw [Array.getElem?_setIfInBounds]
  by_cases e : k = i
  · subst e
    rw [List.getElem?_set_self hk] at hi
    obtain rfl := Option.some.inj hi
    rw [if_pos rfl, if_pos (by omega)]
  · rw [List.getElem?_set_ne e] at hi
    rw [if_neg e]
    exact h3 i y hi
theorem Try.infoInts : (Try.prog.info? 23).map (fun i => (i.zero, i.size, i.bytes)) = some (some (.slice none 0 0), 1, 24) := by kernel_rfl

end Go.Proofs.Ythlihchndmbkaaa

