/- RNeed: who is missing, and for how many ill a slot is covered, as the specification reckons. -/
import Derived.Test.YtcgnibfcjadnjaaOkWatch
namespace Go.Proofs.Ytcgnibfcjadnjaa
open Go.RowKit

theorem tn_row {p : Pool} (G : Good p) : (p.row 0).length = p.tn ∧ 0 < p.needs.length := ⟨rfl, by have := G.n1; omega⟩
theorem row0 {w : World} {B : Nat} {A : Option Addr} {p : Pool} (G : Good p) (h : Rows w B A (p.needs.map natsL)) :
    ∃ b off a c, A = some ⟨b, off, none⟩ ∧ b < B ∧ w.cell? ⟨b, off, none⟩ = some (.slice a p.tn c) := by
  obtain ⟨b, off, a, c, h1, h2, h3, h4⟩ := row_at h (tn_row G).2
  exact ⟨b, off, a, c, h1, h2, by rw [Nat.add_zero] at h3; exact h3⟩
set_option maxRecDepth 100000 in
set_option maxHeartbeats 1000000 in
theorem rTongues_any (h : PoolH) (p : Pool) (G : Good p) (w : World) (hA : PoolAt w w.heap.size h p.i) :
    Calls Try.prog 19 #[poolN h p] w fun e w' => e = .returned (.int .i64 (p.tn : Nat)) ∧ Below w.heap.size w w' := by
  obtain ⟨b, off, a, c, hna, hb, hc0⟩ := row0 G hA.2
  obtain ⟨fa, fc, na, nc⟩ := h
  obtain rfl : na = _ := hna
  have hn0 : (0 : Int) < (p.needs.length : Int) := by have := G.n1; omega
  generalize p.tn = tn at hc0 ⊢
  clear hA
  go_enter Try.func19, Try.ntmps19
  go_upto_region 1 with fail
  obtain ⟨W, hW, hg, hf, hsz⟩ := one_block w 25 (cellsN ⟨fa, fc, some ⟨b, off, none⟩, nc⟩ p)
  rw [hW]
  clear hW
  have hcc := hf.cell
  have hc0 := hg.cell hc0
  have HG := Lib.hid hg
  clear hf hg
  go_wp2
  go_ret
  exact ⟨rfl, HG.out⟩
theorem row_tn {p : Pool} (G : Good p) {s : Nat} (hs : s < p.needs.length) : (p.row s).length = p.tn := row_len G hs
theorem needed_tn {p : Pool} (G : Good p) {s : Nat} (hs : s < p.needs.length) (T : Nat) : needed (p.row s) T = neededTo (p.row s) T p.tn := by
  unfold needed
  rw [row_tn G hs]
set_option maxRecDepth 100000 in
set_option maxHeartbeats 8000000 in
theorem rMissing_any (h : PoolH) (p : Pool) (G : Good p) (s g T : Nat) (w : World) (hA : PoolAt w w.heap.size h p.i) (hs : s < p.needs.length) (hg : g < 1048576) (hT : T < 1048576) :
    Calls Try.prog 20 #[poolN h p, .int .i64 s, .int .i64 g, .int .i64 T] w fun e w' => e = .returned (.int .i64 (miss p s g T)) ∧ Below w.heap.size w w' := by
  have HF := Lib.hid (fun (w0 : World) (hw : Grow w w0) => (hA.grow hw).1)
  have HT := Lib.hid (fun (w0 : World) (hw : Grow w w0) => rTongues_any h p G w0 (hA.grow hw))
  have HR := Lib.hid (fun (w0 : World) (hw : Grow w w0) => row_at (hA.grow hw).2 hs)
  obtain ⟨hl3, hx8⟩ := row_ok G hs
  have HB := Lib.hid (neededTo_le T hx8)
  have HRT := Lib.hid (row_tn G hs)
  have ht3 := G.t3
  have hl5 := G.f5
  have hs0 : (0 : Int) ≤ (s : Int) := by omega
  have hs1 : (s : Int) < (p.needs.length : Int) := by omega
  have HMI : Hid (miss p s g T = (neededTo (p.row s) T p.tn : Int) - cntTo p.folk g T p.folk.length) := Lib.hid (by unfold miss; rw [needed_tn G hs]; rfl)
  obtain ⟨mi, hmi⟩ : ∃ z, miss p s g T = z := ⟨_, rfl⟩
  rw [hmi] at HMI ⊢
  obtain ⟨r, hr⟩ : ∃ z, p.row s = z := ⟨_, rfl⟩
  rw [hr] at HR HB HRT HMI hx8 hl3
  obtain ⟨tn, htn⟩ : ∃ z, p.tn = z := ⟨_, rfl⟩
  rw [htn] at HT HRT ht3 HMI
  clear hmi hr hA
  have HTN := Lib.hid htn
  clear htn
  obtain ⟨fa, fc, na, nc⟩ := h
  go_enter Try.func20, Try.ntmps20
  go_upto_region 1 with fail
  obtain ⟨W, hW, hgr, hf, hsz⟩ := one_block w 25 (cellsN ⟨fa, fc, na, nc⟩ p)
  rw [hW]
  clear hW
  have HFR := Lib.hid hf
  have HG := Lib.hid hgr
  clear hf hgr
  go_wp2_with fail
  go_loopw [9, 10] (fun nv iv wr => ∃ (k m : Nat), k ≤ tn ∧ iv = .int .i64 (k : Nat) ∧ nv = .int .i64 (m : Nat) ∧ Hid (m = neededTo r T k) ∧ m ≤ 24 ∧ Grow W wr) (fun _ iv _ => tn - (intOf iv).toNat)
  case atStart => exact ⟨0, 0, Nat.zero_le _, rfl, rfl, rfl, by omega, Grow.refl _⟩
  case round =>
    obtain ⟨k, m, hk, rfl, rfl, HM, hm, hgr⟩ := hrel
    rename World => wr
    have HGR := Lib.hid hgr
    have hcc := (Grow.block hgr HFR.out).cell
    clear hgr
    go_wp2_with fail
    refine (HT.out _ (HG.out.trans HGR.out)).mono ?_
    rintro e w2 ⟨rfl, hb2⟩
    have HG2 : Hid (Grow W w2) := Lib.hid (HGR.out.trans hb2)
    clear hb2 hcc
    have hcc := (HG2.out.block HFR.out).cell
    by_cases hlt : k < tn
    · have hd : decide ((k : Int) < (tn : Int)) = true := decide_eq_true (by omega)
      have h00 : (0 : Int) ≤ (k : Int) := by omega
      have hkr : k < r.length := by rw [HRT.out]; exact hlt
      have hk1 : (k : Int) < (r.length : Int) := by omega
      obtain ⟨b, off, a, c, rfl, hbl, hcr, hri⟩ := HR.out w2 (HG.out.trans HG2.out)
      obtain ⟨rb, ro, x, rfl, hrb, hrx, HX⟩ := ints_nat hri hkr
      have hx9 := hx8 x (List.mem_of_getElem? HX.out)
      have HS : Hid (neededTo r T (k + 1) = if hasN T k then m + x else m) := Lib.hid (by
        show (if hasN T k = true then _ else _) = _
        rw [getD_at HX.out, HM.out])
      have hb24 := HB.out (k + 1)
      rw [HS.out] at hb24
      have HH := Lib.hid (fun w0 => rHas_any T k w0 hT (by omega))
      obtain ⟨hb, hhb⟩ : ∃ z, hasN T k = z := ⟨_, rfl⟩
      rw [hhb] at HS HH hb24
      clear hhb hri
      cases hb with
      | false =>
        have HS : Hid (neededTo r T (k + 1) = m) := Lib.hid (by rw [HS.out]; simp)
        clear hb24
        go_wp2_with fail
        refine (HH.out _).mono ?_
        rintro e w3 ⟨rfl, rfl⟩
        go_wp2
        go_roundw
        case rel => exact ⟨k + 1, m, by omega, by go_num, rfl, HS.out.symm, by omega, HG2.out⟩
        case measure => simp [intOf]; omega
      | true =>
        have HS : Hid (neededTo r T (k + 1) = m + x) := Lib.hid (by rw [HS.out]; simp)
        rw [if_pos rfl] at hb24
        go_wp2_with fail
        refine (HH.out _).mono ?_
        rintro e w3 ⟨rfl, rfl⟩
        go_wp2
        go_roundw
        case rel => exact ⟨k + 1, m + x, by omega, by go_num, by go_num, HS.out.symm, by omega, HG2.out⟩
        case measure => simp [intOf]; omega
    · obtain rfl : k = tn := by omega
      have hd : decide ((k : Int) < (k : Int)) = false := decide_eq_false (by omega)
      have HNM : Hid (m = neededTo r T k) := HM
      have HXN : Hid (mi = (m : Int) - cntTo p.folk g T p.folk.length) := Lib.hid (by rw [HNM.out]; exact HMI.out)
      clear HNM HM HMI HB hx8 HRT
      go_wp2_with fail
      clear hcc
      go_loopw [9, 11] (fun nv iv wr => ∃ (k : Nat) (q : Int), k ≤ p.folk.length ∧ iv = .int .i64 (k : Nat) ∧ nv = .int .i64 q ∧ Hid (q = (m : Int) - cntTo p.folk g T k) ∧ -10 ≤ q ∧ q ≤ 24 ∧ Grow W wr) (fun _ iv _ => p.folk.length - (intOf iv).toNat)
      case atStart => exact ⟨0, m, Nat.zero_le _, rfl, rfl, by simp [Hid, cntTo], by omega, by omega, HG2.out⟩
      case round =>
        obtain ⟨i, q, hi, rfl, rfl, HQ, hq1, hq2, hgr⟩ := hrel
        rename World => wx
        have HGX := Lib.hid hgr
        have hcc := (Grow.block hgr HFR.out).cell
        clear hgr
        by_cases hlt : i < p.folk.length
        · obtain ⟨b, off, x, rfl, hbl, e0, e1, e2, HX⟩ := folk_at (HF.out wx (HG.out.trans HGX.out)) hlt
          have h00 : (0 : Int) ≤ (i : Int) := by omega
          have hi1 : (i : Int) < (p.folk.length : Int) := by omega
          have hd2 : decide ((i : Int) < (p.folk.length : Int)) = true := decide_eq_true hi1
          have hxt := (folk_ok G HX.out).1
          have hxg : p.folk.getD i nof = x := by rw [List.getD_eq_getElem?_getD, HX.out]; rfl
          have HS : Hid (cntTo p.folk g T (i + 1) = if (hasN g i && decide (x.t &&& T ≠ 0)) then cntTo p.folk g T i + 1 else cntTo p.folk g T i) := Lib.hid (by
            show (if ableB p.folk g T i = true then _ else _) = _
            unfold ableB
            rw [hxg])
          have hcl := cntTo_le p.folk g T i
          have hand := and_i64 x.t T (by omega) (by omega)
          have HH := Lib.hid (fun w0 => rHas_any g i w0 hg (by omega))
          obtain ⟨u, hu⟩ : ∃ z, x.t &&& T = z := ⟨_, rfl⟩
          rw [hu] at hand HS
          obtain ⟨hb, hhb⟩ : ∃ z, hasN g i = z := ⟨_, rfl⟩
          rw [hhb] at HS HH
          have hq5 : -5 ≤ q := by rw [HQ.out]; omega
          clear hu hhb hxg hcl
          cases hb with
          | false =>
            have HS : Hid (cntTo p.folk g T (i + 1) = cntTo p.folk g T i) := Lib.hid (by rw [HS.out]; simp)
            go_wp2_with fail
            refine (HH.out _).mono ?_
            rintro e w3 ⟨rfl, rfl⟩
            go_wp2
            go_roundw
            case rel => exact ⟨i + 1, q, by omega, by go_num, rfl, by rw [Hid, HS.out]; exact HQ, by omega, by omega, HGX.out⟩
            case measure => simp [intOf]; omega
          | true =>
            by_cases hu0 : u = 0
            · subst hu0
              have HS : Hid (cntTo p.folk g T (i + 1) = cntTo p.folk g T i) := Lib.hid (by rw [HS.out]; simp)
              go_wp2_with fail
              refine (HH.out _).mono ?_
              rintro e w3 ⟨rfl, rfl⟩
              go_wp2
              go_roundw
              case rel => exact ⟨i + 1, q, by omega, by go_num, rfl, by rw [Hid, HS.out]; exact HQ, by omega, by omega, HGX.out⟩
              case measure => simp [intOf]; omega
            · have HS : Hid (cntTo p.folk g T (i + 1) = cntTo p.folk g T i + 1) := Lib.hid (by rw [HS.out]; simp [hu0])
              have hne : (((u : Nat) : Int) != 0) = true := by simpa using hu0
              go_wp2_with fail
              refine (HH.out _).mono ?_
              rintro e w3 ⟨rfl, rfl⟩
              go_wp2
              go_roundw
              case rel => exact ⟨i + 1, q - 1, by omega, by go_num, by go_num, by rw [Hid, HS.out, HQ.out]; omega, by omega, by omega, HGX.out⟩
              case measure => simp [intOf]; omega
        · obtain rfl : i = p.folk.length := by omega
          have HX : Hid (q = mi) := Lib.hid (by rw [HQ.out, HXN.out])
          go_wp2
          go_ret
          exact ⟨ret_int HX.out, HG.out.trans HGX.out⟩

end Go.Proofs.Ytcgnibfcjadnjaa
