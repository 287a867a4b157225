/- Least: how many signs a set has at least that agrees; written by wip/tools/least02.py. ProofF: the program's proof: the first of the fewest glosses that need as many signs. -/
import Derived.Test.YtinlojealfbbfaaWhyM
import Derived.Test.YtinlojealfbbfaaRSmall
namespace Go.Proofs.Ytinlojealfbbfaa
open Go.RowKit

set_option maxRecDepth 100000 in
set_option maxHeartbeats 4000000 in
theorem size_any (f : FilmsR) (m h : RowG) (l : List GlossD) (A1 : Option Addr) (c1 n : Nat) (w : World) (hA : GlossAt w n A1 l) (hn : n ≤ w.heap.size) (hl : l.length ≤ 1000) (hs : ∀ x ∈ l, SignsOK x) (sn : Nat) (hsn : f.d.signs = sn) (h10 : sn ≤ 10) (hq : ∀ x ∈ l, x.signs.toNat ≠ 0 ∧ x.signs.toNat < 2 ^ sn) :
    Calls Try.prog 69 #[notesV f m h, .slice A1 l.length c1] w fun e w' => e = .returned (.int .i64 (sizeD sn l : Nat)) ∧ Below w.heap.size w w' := by
  have HRD := Lib.hid (fun (w0 : World) (hw : Grow w w0) => readings_any f m h l A1 c1 w0.heap.size w0 (((hA.more hn).below hw).more hw.size) (Nat.le_refl _) hl hs sn hsn h10)
  have hne := readD_ne h10 hq
  have hff := firstD_facts hne
  have HFS := Lib.hid (firstD_at hne)
  have hsl := List.length_pos_iff.2 hne
  have hlt : firstD sn l < 1024 := by
    have h1 : (2 : Nat) ^ sn ≤ 2 ^ 10 := Nat.pow_le_pow_right (by omega) (by omega)
    have := hff.1
    omega
  have HCN := Lib.hid (fun (w0 : World) => count_any (firstD sn l) w0 hlt)
  rw [hff.2.2.1] at HCN
  obtain ⟨S, hS⟩ : ∃ q, readD sn l = q := ⟨_, rfl⟩
  rw [hS] at HRD HFS hsl
  obtain ⟨ss, hss⟩ : ∃ q, firstD sn l = q := ⟨_, rfl⟩
  rw [hss] at HFS HCN
  obtain ⟨z, hz⟩ : ∃ q, sizeD sn l = q := ⟨_, rfl⟩
  rw [hz] at HCN ⊢
  clear hA hn hl hs hsn h10 hq hne hff hlt hS hss hz
  go_enter Try.func69, Try.ntmps69
  go_upto_region 1 with fail
  obtain ⟨W, hW, hg, hf, hsz⟩ := one_block w 71 (cellsN f m h)
  rw [hW]
  clear hW
  have hcc := hf.cell
  have HG := Lib.hid hg
  clear hf hg
  go_wp2_with fail
  refine (HRD.out W HG.out).mono ?_
  rintro e w1 ⟨A5, c5, rfl, ho, hb1⟩
  have HG1 : Hid (Grow w w1) := Lib.hid (HG.out.trans hb1)
  have hs5 := (own_ints ho).1
  obtain ⟨b5, o5, y5, rfl, _, hy5, HY5⟩ := hs5.at_ (k := 0) (by rw [List.length_map]; exact hsl)
  have hys : y5 = (ss : Int) := by
    have h1 := HY5.out
    rw [List.getElem?_map, HFS.out] at h1
    exact (Option.some.inj h1).symm
  rw [hys] at hy5
  have hy6 : w1.cell? ⟨b5, o5, none⟩ = some (.int .i64 (ss : Nat)) := by simpa using hy5
  have hs0 : decide ((0 : Int) < (S.length : Int)) = true := decide_eq_true (by omega)
  have hs1 : (0 : Int) < (S.length : Int) := by omega
  clear hs5 hy5 HY5 hcc ho hb1 HRD
  go_wp2_with fail
  refine (HCN.out _).mono ?_
  rintro e w2 ⟨rfl, rfl⟩
  go_wp2
  go_ret
  exact ⟨rfl, HG1.out⟩

set_option maxRecDepth 100000 in
set_option maxHeartbeats 4000000 in
theorem rLeast_any (f : FilmsR) (l : List GlossD) (A1 : Option Addr) (c1 n : Nat) (w : World) (hA : GlossAt w n A1 l) (hn : n ≤ w.heap.size) (hl : l.length ≤ 1000) (hs : ∀ x ∈ l, SignsOK x) (sn : Nat) (hsn : f.d.signs = sn) (h10 : sn ≤ 10) (hq : ∀ x ∈ l, x.signs.toNat ≠ 0 ∧ x.signs.toNat < 2 ^ sn) :
    Calls Try.prog 27 #[filmsV f, .slice A1 l.length c1] w fun e w' => e = .returned (.int .i64 (sizeD sn l : Nat)) ∧ Below w.heap.size w w' := by
  have HRD := Lib.hid (fun (w0 : World) (hw : Grow w w0) => rsmall_any f l A1 c1 w0.heap.size w0 (((hA.more hn).below hw).more hw.size) (Nat.le_refl _) hl hs sn hsn h10)
  have hne := readD_ne h10 hq
  have hff := firstD_facts hne
  have HFS := Lib.hid (firstD_at hne)
  have hsl := List.length_pos_iff.2 hne
  have hlt : firstD sn l < 1024 := by
    have h1 : (2 : Nat) ^ sn ≤ 2 ^ 10 := Nat.pow_le_pow_right (by omega) (by omega)
    have := hff.1
    omega
  have HCN := Lib.hid (fun (w0 : World) => rSize_any (firstD sn l) w0 hlt)
  rw [hff.2.2.1] at HCN
  obtain ⟨S, hS⟩ : ∃ q, readD sn l = q := ⟨_, rfl⟩
  rw [hS] at HRD HFS hsl
  obtain ⟨ss, hss⟩ : ∃ q, firstD sn l = q := ⟨_, rfl⟩
  rw [hss] at HFS HCN
  obtain ⟨z, hz⟩ : ∃ q, sizeD sn l = q := ⟨_, rfl⟩
  rw [hz] at HCN ⊢
  clear hA hn hl hs hsn h10 hq hne hff hlt hS hss hz
  go_enter Try.func27, Try.ntmps27
  go_upto_region 1 with fail
  obtain ⟨W, hW, hg, hf, hsz⟩ := one_block w 24 (cellsF f)
  rw [hW]
  clear hW
  have hcc := hf.cell
  have HG := Lib.hid hg
  clear hf hg
  go_wp2_with fail
  refine (HRD.out W HG.out).mono ?_
  rintro e w1 ⟨A5, c5, rfl, ho, hb1⟩
  have HG1 : Hid (Grow w w1) := Lib.hid (HG.out.trans hb1)
  have hs5 := (own_ints ho).1
  obtain ⟨b5, o5, y5, rfl, _, hy5, HY5⟩ := hs5.at_ (k := 0) (by rw [List.length_map]; exact hsl)
  have hys : y5 = (ss : Int) := by
    have h1 := HY5.out
    rw [List.getElem?_map, HFS.out] at h1
    exact (Option.some.inj h1).symm
  rw [hys] at hy5
  have hy6 : w1.cell? ⟨b5, o5, none⟩ = some (.int .i64 (ss : Nat)) := by simpa using hy5
  have hs0 : decide ((0 : Int) < (S.length : Int)) = true := decide_eq_true (by omega)
  have hs1 : (0 : Int) < (S.length : Int) := by omega
  clear hs5 hy5 HY5 hcc ho hb1 HRD
  go_wp2_with fail
  refine (HCN.out _).mono ?_
  rintro e w2 ⟨rfl, rfl⟩
  go_wp2
  go_ret
  exact ⟨rfl, HG1.out⟩

end Go.Proofs.Ytinlojealfbbfaa

namespace Go.Proofs.Ytinlojealfbbfaa
open Go.RowKit

/-- a choice needs as many signs as all -/
def okD (sn : Nat) (l : List GlossD) (k : Nat) : Bool := decide (sizeD sn (subD l k) = sizeD sn l)
theorem subD_len (l : List GlossD) (k : Nat) : (subD l k).length ≤ l.length := (subD_sub l k).length_le
theorem bestP_len (l : List GlossD) (ok : Nat → Bool) : ∀ k, (bestP l ok k).length ≤ l.length
  | 0 => Nat.le_refl _
  | k + 1 => by
    unfold bestP
    split
    · exact subD_len l k
    · exact bestP_len l ok k

/-- an own row lies within its room -/
theorem GlossT.room {w : World} {lo cap : Nat} {A : Option Addr} {l : List GlossD} (h : GlossT w lo A cap l) : l.length ≤ cap := by
  rcases h.2 with ⟨h1, h2⟩ | ⟨g, c, cur, hv, _, _, h3, _⟩
  · injection h1 with _ e1 e2; omega
  · injection hv with _ e1 e2; omega

set_option maxRecDepth 100000 in
set_option maxHeartbeats 8000000 in
theorem proof_any (f : FilmsR) (m h : RowG) (l : List GlossD) (A1 : Option Addr) (c1 n : Nat) (w : World) (hA : GlossAt w n A1 l) (hn : n ≤ w.heap.size) (hc1 : l.length ≤ c1) (hl : l.length ≤ 12) (hs : ∀ x ∈ l, SignsOK x) (sn : Nat) (hsn : f.d.signs = sn) (h10 : sn ≤ 10) (hq : ∀ x ∈ l, x.signs.toNat ≠ 0 ∧ x.signs.toNat < 2 ^ sn) :
    Calls Try.prog 49 #[notesV f m h, .slice A1 l.length c1] w fun e w' => ∃ A' c', e = .returned (.slice A' (bestP l (okD sn l) (2 ^ l.length)).length c') ∧ (bestP l (okD sn l) (2 ^ l.length)).length ≤ c' ∧ GlossAt w' w'.heap.size A' (bestP l (okD sn l) (2 ^ l.length)) ∧ Below w.heap.size w w' := by
  have HL := Lib.hid (fun (w0 : World) (hw : Grow w w0) => ((hA.more hn).below hw).more hw.size)
  have HSZ0 := Lib.hid (fun (w0 : World) (hw : Grow w w0) => size_any f m h l A1 c1 w0.heap.size w0 (HL.out w0 hw) (Nat.le_refl _) (by omega) hs sn hsn h10 hq)
  have HSB := Lib.hid (fun (k : Nat) (hk : k < 4096) (w0 : World) (hw : Grow w w0) => show Calls Try.prog 70 #[.slice A1 l.length c1, .int .i64 k] w0 fun e w' => ∃ A' c', e = .returned (.slice A' (subD l k).length c') ∧ GlossT w' w0.heap.size A' c' (subD l k) ∧ Below w0.heap.size w0 w' from by
    have h1 := subset_any (k : Int) l _ A1 c1 w0.heap.size w0 (HL.out w0 hw) (by omega) (Nat.le_refl _) (takes_sub l k (by omega))
    simpa only [List.take_length] using h1)
  have HSZ := Lib.hid (fun (k : Nat) (A' : Option Addr) (c' : Nat) (w0 : World) (ht : GlossAt w0 w0.heap.size A' (subD l k)) => size_any f m h (subD l k) A' c' w0.heap.size w0 ht (Nat.le_refl _) (by have := subD_len l k; omega) (fun x hx => hs x ((subD_sub l k).subset hx)) sn hsn h10 (fun x hx => hq x ((subD_sub l k).subset hx)))
  have HLS := Lib.hid (subD_len l)
  have HLB := Lib.hid (bestP_len l (okD sn l))
  have HOK := Lib.hid (fun k => show okD sn l k = decide (sizeD sn (subD l k) = sizeD sn l) from rfl)
  have HST := Lib.hid (fun k => show bestP l (okD sn l) (k + 1) = if (beforeD (subD l k) (bestP l (okD sn l) k) && okD sn l k) = true then subD l k else bestP l (okD sn l) k from rfl)
  have HB0 : Hid (bestP l (okD sn l) 0 = l) := rfl
  generalize okD sn l = ok at HLB HOK HST HB0 ⊢
  have hp9 : 2 ^ l.length ≤ 4096 := Nat.le_trans (Nat.pow_le_pow_right (n := 2) (by omega) hl) (by decide)
  obtain ⟨la, hla⟩ : ∃ q, l.length = q := ⟨_, rfl⟩
  have HLA := Lib.hid hla
  rw [hla] at HLS HLB HSZ0 HSB hl hp9 hc1 ⊢
  obtain ⟨pw, hpw⟩ : ∃ q, 2 ^ la = q := ⟨_, rfl⟩
  have HWR : Hid (wrap64 ((2 : Int) ^ la) = (pw : Int)) := Lib.hid (by
    have h : ((2 : Int) ^ la) = ((2 ^ la : Nat) : Int) := (Int.natCast_pow 2 la).symm
    rw [h, hpw]
    exact IntWalk.wrap64_in _ (by omega))
  rw [hpw] at hp9 ⊢
  obtain ⟨sl, hsl⟩ : ∃ q, sizeD sn l = q := ⟨_, rfl⟩
  rw [hsl] at HSZ0 HOK
  clear hA hn hs hsn h10 hq hla hpw hsl
  go_enter Try.func49, Try.ntmps49
  go_upto_region 1 with fail
  obtain ⟨W, hW, hg, hf, hsz⟩ := one_block w 71 (cellsN f m h)
  rw [hW]
  clear hW
  have hcc := hf.cell
  have HF := Lib.hid hf
  have HG := Lib.hid hg
  clear hf hg
  go_wp2_with fail
  refine (HSZ0.out W HG.out).mono ?_
  rintro e w1 ⟨rfl, hb1⟩
  have HG1 : Hid (Grow W w1) := hb1
  clear hb1 hcc HSZ0
  go_upto_region 3 with fail
  rw [HWR.out]
  go_wp2_with fail
  go_loopw [6, 16] (fun v iv wr => ∃ (k n : Nat) (A' : Option Addr) (c' : Nat), k ≤ pw ∧ iv = .int .i64 k ∧ v = .slice A' n c' ∧ n ≤ c' ∧ Hid (n = (bestP l ok k).length) ∧ Hid (GlossAt wr wr.heap.size A' (bestP l ok k)) ∧ Grow W wr) (fun _ v _ => pw - (intOf v).toNat)
  case atStart => exact ⟨0, la, A1, c1, Nat.zero_le _, rfl, rfl, hc1, Lib.hid (by rw [HB0.out, HLA.out]), Lib.hid (by rw [HB0.out]; exact HL.out _ (HG.out.trans HG1.out)), HG1.out⟩
  case round =>
    obtain ⟨k, n, A', c', hk, rfl, rfl, hnc, HN, HAT, hgr⟩ := hrel
    have HNC := Lib.hid hnc
    clear hnc
    rename World => wr
    have HGR : Hid (Grow W wr) := Lib.hid hgr
    clear hgr
    by_cases hlt : k < pw
    · have hld : decide ((k : Int) < (pw : Int)) = true := decide_eq_true (by omega)
      have hldn : decide (k < pw) = true := decide_eq_true hlt
      have HLT := Lib.hid hlt
      have HSBk := Lib.hid (HSB.out k (by omega))
      have HSZk := Lib.hid (HSZ.out k)
      have HSTk := Lib.hid (HST.out k)
      have HOKk := Lib.hid (HOK.out k)
      have hs12 : (subD l k).length ≤ 1000 := by have := HLS.out k; omega
      have hb12 : (bestP l ok k).length ≤ 1000 := by have := HLB.out k; omega
      rw [HOKk.out] at HSTk
      obtain ⟨sub, hsub⟩ : ∃ q, subD l k = q := ⟨_, rfl⟩
      rw [hsub] at HSBk HSZk HSTk hs12
      obtain ⟨best, hbest⟩ : ∃ q, bestP l ok k = q := ⟨_, rfl⟩
      rw [hbest] at HSTk HN HAT hb12
      obtain ⟨sk, hsk⟩ : ∃ q, sizeD sn sub = q := ⟨_, rfl⟩
      rw [hsk] at HSZk HSTk
      have hn := HN.out
      subst hn
      clear hlt hsub hbest hsk HOKk HN
      go_wp2_with fail
      refine (HSBk.out wr (HG.out.trans HGR.out)).mono ?_
      rintro e w4 ⟨A4, c4, rfl, ht4, hb4⟩
      have HG4 : Hid (Grow W w4) := Lib.hid (HGR.out.trans hb4)
      have HR4 := Lib.hid ht4.room
      have HT4 : Hid (GlossAt w4 w4.heap.size A4 sub) := Lib.hid ht4.at_
      have HT5 : Hid (GlossAt w4 w4.heap.size A' best) := Lib.hid ((HAT.out.below hb4).more hb4.size)
      have HBF := Lib.hid (before_any sub best A4 A' c4 c' w4.heap.size w4.heap.size w4 HT4.out HT5.out (Nat.le_refl _) (Nat.le_refl _) hs12 hb12)
      obtain ⟨bf, hbf⟩ : ∃ q, beforeD sub best = q := ⟨_, rfl⟩
      rw [hbf] at HBF HSTk
      clear ht4 hb4 hbf HAT HSBk
      go_wp2_with fail
      refine HBF.out.mono ?_
      rintro e w5 ⟨rfl, hb5⟩
      have HG5 : Hid (Grow W w5) := Lib.hid (HG4.out.trans hb5)
      have HT6 : Hid (GlossAt w5 w5.heap.size A4 sub) := Lib.hid ((HT4.out.below hb5).more hb5.size)
      have HT7 : Hid (GlossAt w5 w5.heap.size A' best) := Lib.hid ((HT5.out.below hb5).more hb5.size)
      clear hb5 HBF HT4 HT5
      cases bf with
      | false =>
        have HNX : Hid (bestP l ok (k + 1) = best) := Lib.hid (by rw [HSTk.out]; rfl)
        go_wp2
        go_roundw
        case rel => exact ⟨k + 1, best.length, A', c', HLT.out, by go_num, rfl, HNC.out, Lib.hid (by rw [HNX.out]), Lib.hid (by rw [HNX.out]; exact HT7.out), HG5.out⟩
        case measure => have := HLT.out; simp [intOf]; omega
      | true =>
        have hcc := (HG5.out.block HF.out).cell
        go_wp2_with fail
        refine (HSZk.out A4 c4 w5 HT6.out).mono ?_
        rintro e w6 ⟨rfl, hb6⟩
        have HG6 : Hid (Grow W w6) := Lib.hid (HG5.out.trans hb6)
        have HT8 : Hid (GlossAt w6 w6.heap.size A4 sub) := Lib.hid ((HT6.out.below hb6).more hb6.size)
        have HT9 : Hid (GlossAt w6 w6.heap.size A' best) := Lib.hid ((HT7.out.below hb6).more hb6.size)
        clear hb6 hcc HT6 HT7
        by_cases hz : sk = sl
        · have d1 : decide (sk = sl) = true := decide_eq_true hz
          have d2 : ((sk : Int) == (sl : Int)) = true := by rw [hz]; simp
          have HNX : Hid (bestP l ok (k + 1) = sub) := Lib.hid (by rw [HSTk.out, d1]; rfl)
          clear hz
          go_wp2
          go_roundw
          case rel => exact ⟨k + 1, sub.length, A4, c4, HLT.out, by go_num, rfl, HR4.out, Lib.hid (by rw [HNX.out]), Lib.hid (by rw [HNX.out]; exact HT8.out), HG6.out⟩
          case measure => have := HLT.out; simp [intOf]; omega
        · have d1 : decide (sk = sl) = false := decide_eq_false hz
          have d2 : ((sk : Int) == (sl : Int)) = false := by rw [beq_eq_false_iff_ne]; omega
          have HNX : Hid (bestP l ok (k + 1) = best) := Lib.hid (by rw [HSTk.out, d1]; rfl)
          clear hz
          go_wp2
          go_roundw
          case rel => exact ⟨k + 1, best.length, A', c', HLT.out, by go_num, rfl, HNC.out, Lib.hid (by rw [HNX.out]), Lib.hid (by rw [HNX.out]; exact HT9.out), HG6.out⟩
          case measure => have := HLT.out; simp [intOf]; omega
    · obtain rfl : k = pw := by omega
      have hld : decide ((k : Int) < (k : Int)) = false := by simp
      have hldn : decide (k < k) = false := by simp
      clear hlt
      go_wp2
      go_ret
      exact ⟨A', c', congrArg (fun z => Ending.returned (Value.slice A' z c')) HN.out, by rw [← HN.out]; exact HNC.out, HAT.out, HG.out.trans HGR.out⟩

end Go.Proofs.Ytinlojealfbbfaa

