/- MayApi: the people who keep the rules for one member, as the program finds them. -/
import Derived.Test.YticeekkfdkfcgaaTeamApi
namespace Go.Proofs.Yticeekkfdkfcgaa
open Go.RowKit

/-- the numbers below k at which the list has a 0 -/
def zerosTo (b : List Nat) (k : Nat) : List Nat := (List.range k).filter fun i => decide (b[i]? = some 0)
theorem zeros_in {b : List Nat} {k : Nat} (h : b[k]? = some 0) : zerosTo b (k + 1) = zerosTo b k ++ [k] := by
  unfold zerosTo
  rw [List.range_succ, List.filter_append]
  simp [h]
theorem zeros_out {b : List Nat} {k : Nat} (h : b[k]? ≠ some 0) : zerosTo b (k + 1) = zerosTo b k := by
  unfold zerosTo
  rw [List.range_succ, List.filter_append]
  simp [h]
theorem zeros_len (b : List Nat) (k : Nat) : (zerosTo b k).length ≤ k := by
  unfold zerosTo
  exact Nat.le_trans (List.length_filter_le _ _) (by simp)
theorem zeros_mem {b : List Nat} {k i : Nat} : i ∈ zerosTo b k ↔ i < k ∧ b[i]? = some 0 := by
  unfold zerosTo
  simp
theorem natsL_snoc (l : List Nat) (k : Nat) : natsL (l ++ [k]) = natsL l ++ [(k : Int)] := by simp [natsL]
theorem nil_own (w : World) (base e : Nat) : w.ownsRow base e 1 (.slice none 0 0) 0 [] := ⟨rfl, .inl ⟨rfl, rfl⟩⟩
abbrev setsL (c : CrewR) (j : JobD) : List Nat := c.people.map fun x => breakD j x.d
/-- the result of May -/
def mayL (c : CrewR) (j : JobD) : List Nat := if crewErr c.d j ≠ 0 then [] else zerosTo (setsL c j) c.people.length

set_option maxRecDepth 100000 in
set_option maxHeartbeats 16000000 in
/-- the program's May -/
theorem mayApi_any (c : CrewR) (j : JobD) (n : Nat) (w : World) (hA : CrewAt w n c) (hn : n ≤ w.heap.size) (hs : Short c) :
    Calls Try.prog 15 #[crewV c, jobV j] w fun e w' => ∃ A cap, e = .returned (.tuple #[.slice A (mayL c j).length cap, .int .i64 (crewErr c.d j)]) ∧ Ints w' w'.heap.size A (natsL (mayL c j)) ∧ Below w.heap.size w w' := by
  obtain ⟨i0, hi, hz0, hz1, hz2⟩ := info_parts Try.infoInt
  have HAT := Lib.hid (fun (w0 : World) (hw : Grow w w0) => ((hA.more hn).below hw).more hw.size)
  have HR := Lib.hid (fun (w0 : World) (hw : Grow w w0) => read_any c j w0.heap.size w0 (HAT.out w0 hw) (Nat.le_refl _) hs)
  have HML : Hid (mayL c j = if crewErr c.d j ≠ 0 then [] else zerosTo (setsL c j) c.people.length) := Lib.hid rfl
  obtain ⟨ml, hml⟩ : ∃ z, mayL c j = z := ⟨_, rfl⟩
  obtain ⟨er, her⟩ : ∃ z, crewErr c.d j = z := ⟨_, rfl⟩
  rw [hml, her] at HML
  rw [her] at HR
  rw [hml, her]
  clear hA hn her hml HAT
  go_enter Try.func15, Try.ntmps15
  go_upto_region 1 with fail
  obtain ⟨W, hW, hg, hf, hs1, hsz⟩ := two_blocks w 25 27 (cellsC c) (cellsJ j)
  rw [hW]
  clear hW
  have hcc := hf.cell
  have hjc := hs1.cell
  have HG := Lib.hid hg
  clear hf hs1 hg
  go_wp2_with fail
  refine (HR.out W HG.out).mono ?_
  rintro e w1 ⟨v, rfl, hv, hb1⟩
  have HG1 : Hid (Grow W w1) := hb1
  clear hb1 hcc hjc HR
  by_cases h0 : er = 0
  · subst h0
    obtain ⟨hk1, hk2, sb, rfl, hsb, hbk⟩ := hv.2 rfl
    have HSB := Lib.hid hbk
    have hl8 := (good_ok hk1 hk2).len
    have HM1 : Hid (ml = zerosTo (setsL c j) c.people.length) := HML
    obtain ⟨law, hlaw⟩ : ∃ z, lawOf c.d j = z := ⟨_, rfl⟩
    obtain ⟨bl, hbl⟩ : ∃ z, setsL c j = z := ⟨_, rfl⟩
    have hblen : bl.length = c.people.length := by rw [← hbl, List.length_map]
    rw [hlaw]
    have hbl' : (c.people.map fun x => breakD j x.d) = bl := hbl
    rw [hbl'] at HSB
    rw [hbl] at HM1
    have HBLEN := Lib.hid hblen
    clear hv hlaw hbl hbl' hsb hbk hk1 hk2 HML hblen
    go_upto_region 2 with fail
    obtain ⟨w2, hw2, hg2, hf2, _⟩ := one_block w1 63 (cellsT c j law (some ⟨sb, 0, none⟩) c.people.length)
    have HG2 : Hid (Grow W w2) := Lib.hid (HG1.out.trans hg2)
    have HSB2 := Lib.hid (Grow.block hg2 HSB.out)
    have htc := hf2.cell
    rw [hw2]
    clear hw2 hg2 hf2 HSB
    go_upto_region 6 with fail
    clear htc
    go_loopw [8, 23] (fun v iv wr => ∃ (k : Nat) (A : Option Addr) (cap n : Nat), k ≤ c.people.length ∧ iv = .int .i64 k ∧ v = .slice A n cap ∧ Hid (n = (zerosTo bl k).length) ∧ n ≤ 8 ∧ wr.ownsRow w2.heap.size 3 1 (.slice A n cap) n ((natsL (zerosTo bl k)).map (Value.int .i64)) ∧ Grow w2 wr) (fun _ v _ => c.people.length - (intOf v).toNat)
    case atStart => exact ⟨0, none, 0, 0, by omega, rfl, rfl, rfl, by omega, nil_own _ _ _, Grow.refl _⟩
    case round =>
      obtain ⟨k, A, cap, n, hk, rfl, rfl, HN, hn8, hown, hgr⟩ := hrel
      rename World => wr
      have HOW := Lib.hid hown
      have HGR := Lib.hid hgr
      clear hown hgr
      by_cases hlt : k < c.people.length
      · have hk0 : (0 : Int) ≤ (k : Int) := by omega
        have hk1 : (k : Int) < (c.people.length : Int) := by omega
        have hd : decide ((k : Int) < (c.people.length : Int)) = true := decide_eq_true hk1
        have hkb : k < bl.length := by have := HBLEN.out; omega
        obtain ⟨bv, hbv⟩ : ∃ bv, bl[k]? = some bv := ⟨_, List.getElem?_eq_getElem hkb⟩
        have hcb : wr.cell? ⟨sb, k, none⟩ = some (.int .i64 (bv : Nat)) := by
          rw [(Grow.block HGR.out HSB2.out).cell, natCells, List.getElem?_toArray, List.getElem?_map, hbv]; rfl
        by_cases hz : bv = 0
        · subst hz
          have HIN := Lib.hid (zeros_in hbv)
          have HOW2 := Lib.hid (own_grow HOW.out (Grow.alloc wr (.cells #[.int .i64 k] 3)))
          clear hbv hkb
          go_wp2_with (at_builtin; go_loud (refine wpList_append_own _ rfl _ _ 33 rfl w2.heap.size 3 i0 (.int .i64 0) 1 8 Try.underlying33 hi hz0 hz1 hz2 rfl (by omega) _ n ((natsL (zerosTo bl k)).map (Value.int .i64)) rfl ?d0 ⟨wr.heap.size, 0, none⟩ 1 1 [.int .i64 k] rfl rfl ?d1 ?d2 ?d3 ?d4 ?d5 ?_))
          case d0 => exact HOW2.out
          case d1 => exact news_one (BlockIs.new _ _ _)
          case d2 => simp [Value.oneCell']
          case d3 => unfold maxLen; omega
          case d4 => omega
          case d5 => have := HGR.out.size; simp; omega
          intro v' w3 hown hgr _
          obtain ⟨Aw, cw, rfl⟩ := own_form hown
          have HOW3 : Hid (w3.ownsRow w2.heap.size 3 1 (.slice Aw (n + 1) cw) (n + 1) ((natsL (zerosTo bl (k + 1))).map (Value.int .i64))) := Lib.hid (by
            rw [HIN.out, natsL_snoc, List.map_append]
            simpa using hown)
          have HG3 : Hid (Grow w2 w3) := Lib.hid (below_grown (HGR.out.trans (Grow.alloc _ _)) HOW2.out hgr (by have := HGR.out.size; simp; omega))
          have HN3 : Hid (n + 1 = (zerosTo bl (k + 1)).length) := Lib.hid (by rw [HIN.out, List.length_append, ← HN.out]; rfl)
          have hn4 : n + 1 ≤ 8 := by have h1 := HN3.out; have h2 := zeros_len bl (k + 1); omega
          clear hown hgr HOW2 hcb
          go_wp2
          go_roundw
          case rel => exact ⟨k + 1, Aw, cw, n + 1, by omega, by go_num, rfl, HN3.out, hn4, HOW3.out, HG3.out⟩
          case measure => simp [intOf]; omega
        · have hzb : (((bv : Nat) : Int) == 0) = false := by simpa using hz
          have HOUT := Lib.hid (zeros_out (b := bl) (k := k) (by rw [hbv]; simpa using hz))
          clear hbv hkb
          go_wp2
          go_roundw
          case rel => exact ⟨k + 1, A, cap, n, by omega, by go_num, rfl, by rw [HOUT.out]; exact HN.out, hn8, by rw [HOUT.out]; exact HOW.out, HGR.out⟩
          case measure => simp [intOf]; omega
      · have hq : decide ((k : Int) < (c.people.length : Int)) = false := decide_eq_false (by omega)
        have hke : k = c.people.length := by omega
        have HE : Hid (n = ml.length ∧ natsL (zerosTo bl k) = natsL ml) := Lib.hid (by rw [HM1.out, HN.out, hke]; exact ⟨rfl, rfl⟩)
        clear hke
        go_wp2
        all_goals (refine bodyPost_ret (results_pair45 Try.results15 _ _ _ _ rfl rfl) rfl ?_; refine ⟨A, cap, ?_, ?_, HG.out.trans (HG2.out.trans HGR.out)⟩)
        · rw [← HE.out.1]; rfl
        · rw [← HE.out.2]; exact (own_ints HOW.out).1
  · have HMN : Hid (ml = []) := Lib.hid (HML.out.trans (if_pos h0))
    obtain rfl := hv.1 h0
    have hne : (er != 0) = true := by simpa using h0
    clear hv
    go_upto_region 2 with fail
    obtain ⟨w2, hw2, hg2, hf2, hz2⟩ := one_block w1 63 zeroT
    have HG2 : Hid (Grow w w2) := Lib.hid (HG.out.trans (HG1.out.trans hg2))
    rw [hw2]
    clear hw2 hg2 hf2 hz2
    go_wp2
    all_goals (refine bodyPost_ret (results_pair45 Try.results15 _ _ _ _ rfl rfl) rfl ?_; refine ⟨none, 0, ?_, ?_, HG2.out⟩)
    · rw [HMN.out]; rfl
    · rw [HMN.out]; exact .inl rfl

end Go.Proofs.Yticeekkfdkfcgaa
