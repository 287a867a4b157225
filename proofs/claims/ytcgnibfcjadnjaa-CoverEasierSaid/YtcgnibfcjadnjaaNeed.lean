/- Need: how many are needed, and how many are missing, as the program reckons. -/
import Derived.Test.YtcgnibfcjadnjaaSets
import Derived.Deep.DeepCutAuto
namespace Go.Proofs.Ytcgnibfcjadnjaa
open Go.RowKit

theorem neededTo_le {r : List Nat} (T : Nat) (hr : ∀ x, x ∈ r → x ≤ 8) : ∀ k, neededTo r T k ≤ 8 * k
  | 0 => Nat.le_refl _
  | k + 1 => by
    have ih := neededTo_le T hr k
    have : r.getD k 0 ≤ 8 := by
      rw [List.getD_eq_getElem?_getD]
      cases h : r[k]? with
      | none => exact Nat.zero_le _
      | some x => exact hr x (List.mem_of_getElem? h)
    unfold neededTo
    split <;> omega
theorem cntTo_le (l : List FolkN) (g T : Nat) : ∀ k, cntTo l g T k ≤ k
  | 0 => Nat.le_refl _
  | k + 1 => by have := cntTo_le l g T k; unfold cntTo; split <;> omega
theorem row_ok {p : Pool} (G : Good p) {s : Nat} (hs : s < p.needs.length) : (p.row s).length ≤ 3 ∧ ∀ x, x ∈ p.row s → x ≤ 8 := by
  refine ⟨by rw [row_len G hs]; exact G.t3, fun x hx => ?_⟩
  unfold Pool.row at hx
  rw [List.getD_eq_getElem?_getD, List.getElem?_eq_getElem hs] at hx
  exact (G.rows _ (List.getElem_mem hs)).2 x hx
theorem needed_le {p : Pool} (G : Good p) {s : Nat} (hs : s < p.needs.length) (T : Nat) : needed (p.row s) T ≤ 24 := by
  obtain ⟨h1, h2⟩ := row_ok G hs
  have := neededTo_le T h2 (p.row s).length
  unfold needed
  omega
theorem cnt_le5 {p : Pool} (G : Good p) (g T : Nat) : cnt p.folk g T ≤ 5 := Nat.le_trans (cntTo_le _ _ _ _) G.f5
theorem miss_bounds {p : Pool} (G : Good p) {s : Nat} (hs : s < p.needs.length) (g T : Nat) : -5 ≤ miss p s g T ∧ miss p s g T ≤ 24 := by
  have := needed_le G hs T
  have := cnt_le5 G g T
  unfold miss
  omega
theorem getD_at {l : List Nat} {k x : Nat} (h : l[k]? = some x) : l.getD k 0 = x := by rw [List.getD_eq_getElem?_getD, h]; rfl
theorem neededTo_succ (r : List Nat) (T k : Nat) : neededTo r T (k + 1) = neededTo r T k + (if hasN T k then r.getD k 0 else 0) := by
  show (if hasN T k = true then _ else _) = _
  split <;> simp
theorem ints_nat {w : World} {B : Nat} {A : Option Addr} {l : List Nat} (h : Ints w B A (natsL l)) {k : Nat} (hk : k < l.length) :
    ∃ b off x, A = some ⟨b, off, none⟩ ∧ b < B ∧ w.cell? ⟨b, off + k, none⟩ = some (.int .i64 (x : Nat)) ∧ Hid (l[k]? = some x) := by
  obtain ⟨b, off, z, rfl, hb, hc, hz⟩ := h.at_ (k := k) (by rw [natsL_length]; exact hk)
  have hz : (natsL l)[k]? = some z := hz
  rw [natsL_at (List.getElem?_eq_getElem hk)] at hz
  obtain rfl := Option.some.inj hz
  exact ⟨b, off, l[k], rfl, hb, hc, List.getElem?_eq_getElem hk⟩

set_option maxRecDepth 100000 in
set_option maxHeartbeats 2000000 in
theorem needed_any (h : PoolH) (p : Pool) (G : Good p) (s T : Nat) (w : World) (hA : PoolAt w w.heap.size h p.i) (hs : s < p.needs.length) (hT : T < 1048576) :
    Calls Try.prog 71 #[poolN h p, .int .i64 s, .int .i64 T] w fun e w' => e = .returned (.int .i64 (needed (p.row s) T : Nat)) ∧ Below w.heap.size w w' := by
  obtain ⟨b, off, a, c, hna, hb, hcr, hi⟩ := row_at hA.2 hs
  obtain ⟨fa, fc, na, nc⟩ := h
  obtain rfl : na = _ := hna
  obtain ⟨hl3, hx8⟩ := row_ok G hs
  have HB := Lib.hid (neededTo_le T hx8)
  obtain ⟨r, hr⟩ : ∃ z, p.row s = z := ⟨_, rfl⟩
  rw [hr] at hcr hi hl3 hx8 HB ⊢
  have hs0 : (0 : Int) ≤ (s : Int) := by omega
  have hs1 : (s : Int) < (p.needs.length : Int) := by omega
  have HNE : Hid (needed r T = neededTo r T r.length) := Lib.hid rfl
  obtain ⟨nd, hnd⟩ : ∃ z, needed r T = z := ⟨_, rfl⟩
  rw [hnd] at HNE ⊢
  clear hnd hr hA
  have HI := Lib.hid (fun (w0 : World) (hw : Below w.heap.size w w0) => hi.below hw)
  go_enter Try.func71, Try.ntmps71
  go_upto_region 1 with fail
  obtain ⟨W, hW, hg, hf, hsz⟩ := one_block w 73 (cellsN ⟨fa, fc, some ⟨b, off, none⟩, nc⟩ p)
  rw [hW]
  clear hW
  have hcc := hf.cell
  have hcr := hg.cell hcr
  have HG := Lib.hid hg
  clear hf hg hi
  go_wp2
  go_loopw [7, 17] (fun nv iv wr => ∃ k m : Nat, k ≤ r.length ∧ iv = .int .i64 (k : Nat) ∧ nv = .int .i64 (m : Nat) ∧ Hid (m = neededTo r T k) ∧ m ≤ 24 ∧ wr = W) (fun _ iv _ => r.length - (intOf iv).toNat)
  case atStart => exact ⟨0, 0, Nat.zero_le _, rfl, rfl, rfl, by omega, rfl⟩
  case round =>
    obtain ⟨k, m, hk, rfl, rfl, HM, hm, rfl⟩ := hrel
    rename World => W
    by_cases hlt : k < r.length
    · obtain ⟨rb, ro, x, rfl, hrb, hrx, HX⟩ := ints_nat (HI.out W HG.out) hlt
      have hx9 := hx8 x (List.mem_of_getElem? HX.out)
      have HS : Hid (neededTo r T (k + 1) = m + (if hasN T k then x else 0)) := Lib.hid (by rw [neededTo_succ, getD_at HX.out, HM.out])
      have hsh := shr_and (s := T) (e := k) hT
      have h00 : (0 : Int) ≤ (k : Int) := by omega
      have h64 : k ≤ 64 := by omega
      have hk1 : (k : Int) < (r.length : Int) := by omega
      have hd : decide ((k : Int) < (r.length : Int)) = true := decide_eq_true hk1
      have hb24 := HB.out (k + 1)
      rw [HS.out] at hb24
      unfold hasN at HS hb24
      generalize T / 2 ^ k % 2 = q at hsh HS hb24
      by_cases hq : q = 1
      · subst hq
        rw [decide_eq_true rfl, if_pos rfl] at hb24
        have HS : Hid (neededTo r T (k + 1) = m + x) := Lib.hid (by rw [HS.out]; simp)
        go_wp2
        go_roundw
        case rel => exact ⟨k + 1, m + x, by omega, by go_num, by go_num, HS.out.symm, by omega, by first | rfl | trivial⟩
        case measure => simp [intOf]; omega
      · have hq0 : (((q : Nat) : Int) == 1) = false := by simpa using (by omega : ¬ (q : Int) = 1)
        have HS : Hid (neededTo r T (k + 1) = m) := Lib.hid (by rw [HS.out, decide_eq_false hq]; simp)
        clear hb24
        go_wp2
        go_roundw
        case rel => exact ⟨k + 1, m, by omega, by go_num, by go_num, HS.out.symm, by omega, by first | rfl | trivial⟩
        case measure => simp [intOf]; omega
    · obtain rfl : k = r.length := by omega
      have HX : Hid ((m : Int) = (nd : Int)) := Lib.hid (by rw [HM.out, HNE.out])
      go_wp2
      go_ret
      exact ⟨ret_int HX.out, HG.out⟩

set_option maxRecDepth 100000 in
set_option maxHeartbeats 4000000 in
theorem missing_any (h : PoolH) (p : Pool) (G : Good p) (s g T : Nat) (w : World) (hA : PoolAt w w.heap.size h p.i) (hs : s < p.needs.length) (hg : g < 1048576) (hT : T < 1048576) :
    Calls Try.prog 69 #[poolN h p, .int .i64 s, .int .i64 g, .int .i64 T] w fun e w' => e = .returned (.int .i64 (miss p s g T)) ∧ Below w.heap.size w w' := by
  have HF := Lib.hid (fun (w0 : World) (hw : Grow w w0) => (hA.grow hw).1)
  have HN := Lib.hid (fun (w0 : World) (hw : Grow w w0) => needed_any h p G s T w0 (hA.grow hw) hs hT)
  have hnd := needed_le G hs T
  have hl5 := G.f5
  have HMI : Hid (miss p s g T = (needed (p.row s) T : Int) - cntTo p.folk g T p.folk.length) := Lib.hid rfl
  obtain ⟨mi, hmi⟩ : ∃ z, miss p s g T = z := ⟨_, rfl⟩
  rw [hmi] at HMI ⊢
  obtain ⟨nd, hnd'⟩ : ∃ z, needed (p.row s) T = z := ⟨_, rfl⟩
  rw [hnd'] at HMI HN hnd
  clear hmi hnd' hA
  obtain ⟨fa, fc, na, nc⟩ := h
  go_enter Try.func69, Try.ntmps69
  go_upto_region 1 with fail
  obtain ⟨W, hW, hgr, hf, hsz⟩ := one_block w 73 (cellsN ⟨fa, fc, na, nc⟩ p)
  rw [hW]
  clear hW
  have hcc := hf.cell
  have HFR := Lib.hid hf
  have HG := Lib.hid hgr
  clear hf hgr
  go_wp2_with fail
  refine (HN.out W HG.out).mono ?_
  rintro e w1 ⟨rfl, hb1⟩
  have HG1 : Hid (Grow w w1) := Lib.hid (HG.out.trans hb1)
  have hcc1 := ((show Grow W w1 from hb1).block HFR.out).cell
  clear hb1 hcc HN
  go_wp2
  clear hcc1
  go_loopw [9, 20] (fun nv iv wr => ∃ (k : Nat) (m : Int), k ≤ p.folk.length ∧ iv = .int .i64 (k : Nat) ∧ nv = .int .i64 m ∧ Hid (m = (nd : Int) - cntTo p.folk g T k) ∧ -10 ≤ m ∧ m ≤ 24 ∧ Grow w wr) (fun _ iv _ => p.folk.length - (intOf iv).toNat)
  case atStart => exact ⟨0, nd, Nat.zero_le _, rfl, rfl, by simp [Hid, cntTo], by omega, by omega, HG1.out⟩
  case round =>
    obtain ⟨k, m, hk, rfl, rfl, HM, hm1, hm2, hgr⟩ := hrel
    rename World => wr
    have HGR := Lib.hid hgr
    clear hgr
    by_cases hlt : k < p.folk.length
    · obtain ⟨b, off, x, rfl, hbl, e0, e1, e2, HX⟩ := folk_at (HF.out wr HGR.out) hlt
      have h00 : (0 : Int) ≤ (k : Int) := by omega
      have hk1 : (k : Int) < (p.folk.length : Int) := by omega
      have hd : decide ((k : Int) < (p.folk.length : Int)) = true := decide_eq_true hk1
      have hxt : x.t < 1048576 := by
        have := (G.folk x (List.mem_of_getElem? HX.out)).1
        have h3 := G.t3
        have : 2 ^ p.tn ≤ 2 ^ 3 := Nat.pow_le_pow_right (by omega) h3
        omega
      have hxg : p.folk.getD k nof = x := by rw [List.getD_eq_getElem?_getD, HX.out]; rfl
      have HS : Hid (cntTo p.folk g T (k + 1) = if (hasN g k && decide (x.t &&& T ≠ 0)) then cntTo p.folk g T k + 1 else cntTo p.folk g T k) := Lib.hid (by
        show (if ableB p.folk g T k = true then _ else _) = _
        unfold ableB
        rw [hxg])
      have hcl := cntTo_le p.folk g T k
      have hand := and_i64 x.t T (by omega) (by omega)
      have HH := Lib.hid (fun w0 => has_any g k w0 hg (by omega))
      obtain ⟨u, hu⟩ : ∃ z, x.t &&& T = z := ⟨_, rfl⟩
      rw [hu] at hand HS
      obtain ⟨hb, hhb⟩ : ∃ z, hasN g k = z := ⟨_, rfl⟩
      rw [hhb] at HS HH
      have HMB : Hid (-5 ≤ (nd : Int) - (cntTo p.folk g T k : Int)) := Lib.hid (by omega)
      have hm5 : -5 ≤ m := by rw [HM.out]; exact HMB.out
      clear hu hhb hxg hcl HMB
      obtain ⟨W2, hW2, hg2, hf2, hsz2⟩ := one_block wr 62 (cellsF ⟨x.t, x.s, x.y⟩)
      have hpc := hf2.cell
      have HG2 : Hid (Grow w W2) := Lib.hid (HGR.out.trans hg2)
      clear hg2 hf2 hsz2
      subst hW2
      cases hb with
      | false =>
        have HS : Hid (cntTo p.folk g T (k + 1) = cntTo p.folk g T k) := Lib.hid (by rw [HS.out]; simp)
        go_wp2_with fail
        refine (HH.out _).mono ?_
        rintro e w2 ⟨rfl, rfl⟩
        go_wp2
        go_roundw
        case rel => exact ⟨k + 1, m, by omega, by go_num, rfl, by rw [Hid, HS.out]; exact HM, by omega, by omega, HG2.out⟩
        case measure => simp [intOf]; omega
      | true =>
        by_cases hu0 : u = 0
        · subst hu0
          have HS : Hid (cntTo p.folk g T (k + 1) = cntTo p.folk g T k) := Lib.hid (by rw [HS.out]; simp)
          go_wp2_with fail
          refine (HH.out _).mono ?_
          rintro e w2 ⟨rfl, rfl⟩
          go_wp2
          go_roundw
          case rel => exact ⟨k + 1, m, by omega, by go_num, rfl, by rw [Hid, HS.out]; exact HM, by omega, by omega, HG2.out⟩
          case measure => simp [intOf]; omega
        · have HS : Hid (cntTo p.folk g T (k + 1) = cntTo p.folk g T k + 1) := Lib.hid (by rw [HS.out]; simp [hu0])
          have hne : (((u : Nat) : Int) != 0) = true := by simpa using hu0
          go_wp2_with fail
          refine (HH.out _).mono ?_
          rintro e w2 ⟨rfl, rfl⟩
          go_wp2
          go_roundw
          case rel => exact ⟨k + 1, m - 1, by omega, by go_num, by go_num, by rw [Hid, HS.out, HM.out]; omega, by omega, by omega, HG2.out⟩
          case measure => simp [intOf]; omega
    · obtain rfl : k = p.folk.length := by omega
      have HX : Hid (m = mi) := Lib.hid (by rw [HM.out, HMI.out])
      go_wp2
      go_ret
      exact ⟨ret_int HX.out, HGR.out⟩

end Go.Proofs.Ytcgnibfcjadnjaa
