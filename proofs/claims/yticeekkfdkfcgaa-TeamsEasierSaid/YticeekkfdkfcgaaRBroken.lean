/- RBroken: the rules that a team does not keep, as the specification finds them; written by wip/tools/rbroken3.py. -/
import Derived.Test.YticeekkfdkfcgaaRFar
import Derived.Test.YticeekkfdkfcgaaRFits
import Derived.Test.YticeekkfdkfcgaaChainG
import Derived.Test.YticeekkfdkfcgaaRegionP
namespace Go.Proofs.Yticeekkfdkfcgaa
open Go.RowKit

/-- a row of the steps -/
def FarV (n f : Nat) (v : Value) (w : World) : Prop := ∃ g cap, v = .slice (some ⟨g, 0, none⟩) n cap ∧ FarAt w g n f
theorem FarV.grow {n f : Nat} {v : Value} {a b : World} (h : FarV n f v a) (g : Grow a b) : FarV n f v b := by
  obtain ⟨x, cap, e, q⟩ := h
  exact ⟨x, cap, e, q.grow g⟩
def FarP (n f k : Nat) (v : Value) (w : World) : Prop := ∃ g, v = .pointer (some ⟨g, k, none⟩) ∧ FarAt w g n f
theorem FarP.grow {n f k : Nat} {v : Value} {a b : World} (h : FarP n f k v a) (g : Grow a b) : FarP n f k v b := by
  obtain ⟨x, e, q⟩ := h
  exact ⟨x, e, q.grow g⟩
theorem break_or (j : JobD) (p : PersonD) (s : Nat) : s ||| breakD j p = ((s ||| (if tiedD p j.client then 1 else 0)) ||| (if hasN p.fields.toNat j.field.toNat then 0 else 2)) ||| (if hasN p.clears.toNat j.kind.toNat then 0 else 4) := by
  unfold breakD brkD
  rw [Nat.or_assoc, Nat.or_assoc]
  congr 1
  cases tiedD p j.client <;> cases hasN p.fields.toNat j.field.toNat <;> cases hasN p.clears.toNat j.kind.toNat <;> decide

set_option maxRecDepth 100000 in
set_option maxHeartbeats 16000000 in
theorem rBroken_any' (c : CrewR) (fr dst jf jk team n : Nat) (cl sz lv ls : Int) (ld : Bool) (w : World) (hA : CrewAt w w.heap.size c) (hl : c.people.length ≤ 8) (ht : team < 1024) (hn : c.languages = (n : Int)) (hn2 : 2 ≤ n) (hn5 : n ≤ 5) (hfn : fr < n) (hdn : dst < n) (hne : fr ≠ dst) (hv : ∀ x ∈ c.people, x.d.levels.length = n) (hok : ∀ x ∈ c.people, PersonOK x.d) (hjf : jf ≤ 7) (hjk : jk ≤ 3) (hlw : c.laws[jk]? = some ⟨lv, ls, ld⟩) :
    Calls Try.prog 44 #[crewV c, jobV ⟨(fr : Nat), (dst : Nat), cl, (jf : Nat), (jk : Nat), sz⟩, .int .i64 (team : Nat)] w fun e w' => e = .returned (.int .i64 (brokenL ⟨(fr : Nat), (dst : Nat), cl, (jf : Nat), (jk : Nat), sz⟩ ⟨lv, ls, ld⟩ n fr dst team (membersL c.people team) : Nat)) ∧ Below w.heap.size w w' := by
  have HP := Lib.hid (fun (w0 : World) (hw : Grow w w0) => (hA.1.below hw).more hw.size)
  have HLA := Lib.hid (fun (w0 : World) (hw : Grow w w0) => hA.2.below hw)
  have HFA := Lib.hid (fun (w0 : World) (hw : Grow w w0) => rFar_any c team n fr lv w0 ((hA.1.below hw).more hw.size) hl ht hn hn5 hfn hv)
  have HHAS := Lib.hid (fun k (hk : k ≤ 40) w0 => rHas_any team k w0 (by omega) hk)
  have HSZ := Lib.hid (fun w0 => rsize_any team w0 ht)
  have HOK := Lib.hid hok
  have HLW := Lib.hid hlw
  have HFN := Lib.hid (far_none hn2 hn5 (adj := fun a b => joinsL lv a b (membersL c.people team)) (fun a b => joinsL_symm lv (membersL c.people team) a b) hfn hdn hne)
  obtain ⟨jd, hjd⟩ : ∃ z : JobD, (⟨(fr : Nat), (dst : Nat), cl, (jf : Nat), (jk : Nat), sz⟩ : JobD) = z := ⟨_, rfl⟩
  have HBO : Hid (∀ (p : PersonD) (s : Nat), s ||| breakD jd p = ((s ||| (if tiedD p cl then 1 else 0)) ||| (if hasN p.fields.toNat jf then 0 else 2)) ||| (if hasN p.clears.toNat jk then 0 else 4)) := Lib.hid (fun p s => by
    have h := break_or jd p s
    rw [← hjd] at h ⊢
    exact h)
  have HBL : Hid (brokenL jd ⟨lv, ls, ld⟩ n fr dst team (membersL c.people team) = ((ruleO jd (membersL c.people team) ||| (if (popD team : Int) = max sz ls then 0 else 8)) ||| (if (ld && !deafL (membersL c.people team)) = true then 16 else 0)) ||| (if chainD n (fun a b => joinsL lv a b (membersL c.people team)) fr dst = none then 32 else 0)) := Lib.hid (by rw [← hjd]; rfl)
  have HME : Hid (membersL c.people team = memTo c.people team c.people.length) := Lib.hid rfl
  rw [hjd]
  rw [show jobV jd = jobV ⟨(fr : Nat), (dst : Nat), cl, (jf : Nat), (jk : Nat), sz⟩ by rw [hjd]]
  obtain ⟨bl, hbl⟩ : ∃ z, brokenL jd ⟨lv, ls, ld⟩ n fr dst team (membersL c.people team) = z := ⟨_, rfl⟩
  rw [hbl] at HBL ⊢
  have hl4 : jk < c.laws.length := lt_of_at hlw
  clear hA hn hv hok hbl hlw hjd hne
  go_enter Try.func44, Try.ntmps44
  go_upto_region 1 with fail
  obtain ⟨W, hW, hg, hfr, hs1, hsz⟩ := two_blocks w 25 27 (cellsC c) (cellsJ ⟨(fr : Nat), (dst : Nat), cl, (jf : Nat), (jk : Nat), sz⟩)
  rw [hW]
  clear hW
  have HG := Lib.hid hg
  have HF := Lib.hid hfr
  have HS := Lib.hid hs1
  have hcc := hfr.cell
  have hjc := hs1.cell
  have HZ : Hid (w.heap.size + 1 < W.heap.size) := Lib.hid hsz
  obtain ⟨lb, lo, lx, hla, hlb, hlc, HLX⟩ := (HLA.out W hg).at_ hl4
  obtain rfl : lx = ⟨lv, ls, ld⟩ := by
    have h := HLX.out
    rw [HLW.out] at h
    exact (Option.some.inj h).symm
  have l0 := hlc 0 (by omega)
  have l1 := hlc 1 (by omega)
  have l2 := hlc 2 (by omega)
  rw [Nat.add_zero] at l0
  have hk0 : (0 : Int) ≤ (jk : Int) := by omega
  have hk1 : (jk : Int) < (c.laws.length : Int) := by omega
  clear hg hfr hs1 hsz hlc HLX HLW HLA hlb
  go_upto_region 2 with fail
  obtain ⟨W1, hW1, hg1, hl1, hsz1⟩ := one_block W 58 (cellsL ⟨lv, ls, ld⟩)
  rw [hW1]
  have HG1 := Lib.hid hg1
  have HLB := Lib.hid hl1
  clear hW1 hg1 hl1 hsz1 hcc hjc l0 l1 l2 hla hk0 hk1
  go_upto_region 5 with fail
  go_loopw [8, 9, 10] (fun sv dv iv wr => ∃ k : Nat, k ≤ c.people.length ∧ iv = .int .i64 k ∧ sv = .int .i64 (ruleO jd (memTo c.people team k) : Nat) ∧ dv = .bool (deafL (memTo c.people team k)) ∧ Grow W1 wr) (fun _ _ v _ => c.people.length - (intOf v).toNat)
  case atStart => exact ⟨0, by omega, rfl, rfl, rfl, Grow.refl _⟩
  case round =>
    obtain ⟨k, hk, rfl, rfl, rfl, hgr⟩ := hrel
    rename World => wr
    have HGR : Hid (Grow W wr) := Lib.hid (HG1.out.trans hgr)
    have HR1 := Lib.hid hgr
    have hcc := (Grow.block (HG1.out.trans hgr) HF.out).cell
    clear hgr
    by_cases hlt : k < c.people.length
    · have hd : decide ((k : Int) < (c.people.length : Int)) = true := decide_eq_true (by omega)
      have HH := Lib.hid (fun w0 => HHAS.out k (by omega) w0)
      obtain ⟨pb, off, x, hpa, hbl, hcx, hpx, HX⟩ := (HP.out _ (HG.out.trans HGR.out)).at_ hlt
      have HNY := Lib.hid (fun h => memTo_yes (team := team) HX.out h)
      have HNN := Lib.hid (fun h => memTo_no (P := c.people) (team := team) (k := k) h)
      have hs8 := ruleO_lt jd (memTo c.people team k)
      have HRS := Lib.hid (ruleO_snoc jd (memTo c.people team k) ⟨(k, x), HX.out⟩)
      have HDS := Lib.hid (deafL_snoc (memTo c.people team k) ⟨(k, x), HX.out⟩)
      obtain ⟨s, hs⟩ : ∃ z, ruleO jd (memTo c.people team k) = z := ⟨_, rfl⟩
      obtain ⟨dv, hdv⟩ : ∃ z, deafL (memTo c.people team k) = z := ⟨_, rfl⟩
      obtain ⟨m, hm⟩ : ∃ z, hasN team k = z := ⟨_, rfl⟩
      have HSE := Lib.hid hs
      have HDE := Lib.hid hdv
      rw [hs] at hs8 HRS ⊢
      rw [hdv] at HDS ⊢
      rw [hm] at HH HNY HNN
      clear hs hdv hm
      cases m with
      | false =>
        have HN := Lib.hid (HNN.out rfl)
        clear hcx hpx hpa hbl
        go_wp2_with fail
        refine (HH.out _).mono ?_
        rintro e w2 ⟨rfl, rfl⟩
        go_wp2
        go_roundw
        case rel => exact ⟨k + 1, by omega, by simp, by rw [HN.out, HSE.out], by rw [HN.out, HDE.out], HR1.out⟩
        case measure => simp [intOf]; omega
      | true =>
        have HN := Lib.hid (HNY.out rfl)
        obtain ⟨b1, b2, b3, b4, b5⟩ := HOK.out x (List.mem_of_getElem? HX.out)
        obtain ⟨f, hf⟩ := Int.eq_ofNat_of_zero_le b2
        obtain ⟨g, hg⟩ := Int.eq_ofNat_of_zero_le b4
        have HFX : Hid (x.d.fields = (f : Int)) := Lib.hid hf
        have HCX : Hid (x.d.clears = (g : Int)) := Lib.hid hg
        have HH1 := Lib.hid (fun w0 => rHas_any f jf w0 (by omega) (by omega))
        have HH2 := Lib.hid (fun w0 => rHas_any g jk w0 (by omega) (by omega))
        have HB := Lib.hid (HBO.out x.d s)
        rw [hf, hg, Int.toNat_natCast, Int.toNat_natCast] at HB
        have HTI := Lib.hid (fun (w0 : World) (hw : Grow wr w0) => rTied_any x cl w0.heap.size w0 ((hpx.below (Below.mono hw (by have := (HG.out.trans HGR.out).size; omega))).more hw.size) (Nat.le_refl _) b1)
        have e0 := hcx 0 (by omega); have e1 := hcx 1 (by omega); have e2 := hcx 2 (by omega); have e3 := hcx 3 (by omega); have e4 := hcx 4 (by omega); have e5 := hcx 5 (by omega)
        rw [Nat.add_zero] at e0
        have hk0 : (0 : Int) ≤ (k : Int) := by omega
        have hk1 : (k : Int) < (c.people.length : Int) := by omega
        obtain ⟨tv, htv⟩ : ∃ z, tiedD x.d cl = z := ⟨_, rfl⟩
        obtain ⟨g1, hg1⟩ : ∃ z, hasN f jf = z := ⟨_, rfl⟩
        obtain ⟨g2, hg2⟩ : ∃ z, hasN g jk = z := ⟨_, rfl⟩
        rw [htv] at HB HTI
        rw [hg1] at HB HH1
        rw [hg2] at HB HH2
        obtain ⟨s1, hs1⟩ : ∃ z, s ||| (if tv = true then 1 else 0) = z := ⟨_, rfl⟩
        have hs1l : s1 < 8 := by rw [← hs1]; exact orN_lt hs8 (by split <;> omega)
        rw [hs1] at HB
        obtain ⟨s2, hs2⟩ : ∃ z, s1 ||| (if g1 = true then 0 else 2) = z := ⟨_, rfl⟩
        have hs2l : s2 < 8 := by rw [← hs2]; exact orN_lt hs1l (by split <;> omega)
        rw [hs2] at HB
        obtain ⟨s3, hs3⟩ : ∃ z, s2 ||| (if g2 = true then 0 else 4) = z := ⟨_, rfl⟩
        rw [hs3] at HB
        have HQ : Hid (ruleO jd (memTo c.people team (k + 1)) = s3) := Lib.hid (by rw [HN.out, HRS.out]; exact HB.out)
        have HD : Hid (deafL (memTo c.people team (k + 1)) = (dv || x.d.deaf)) := Lib.hid (by rw [HN.out, HDS.out])
        have HS1 := Lib.hid hs1
        have HS2 := Lib.hid hs2
        have HS3 := Lib.hid hs3
        clear hf hg htv hg1 hg2 hs1 hs2 hs3 b1 b2 b3 b4 b5 hcx hpx HNY HNN HRS HDS HB
        go_wp2_with fail
        refine (HH.out _).mono ?_
        rintro e w2 ⟨rfl, rfl⟩
        go_upto_region 9 with fail
        obtain ⟨W2, hW2, hg2, hp2, hz2⟩ := one_block wr 52 (cellsP x)
        rw [hW2]
        have HG2 := Lib.hid hg2
        have HPB := Lib.hid hp2
        have hpc := hp2.cell
        have hjc := ((HGR.out.trans hg2).block HS.out).cell
        clear hW2 hg2 hp2 hz2 hcc e0 e1 e2 e3 e4 e5 hpa hbl hd hk0 hk1
        go_wp2_with fail
        refine (HTI.out W2 HG2.out).mono ?_
        rintro e w3 ⟨rfl, hg3⟩
        have HG3 : Hid (Grow W2 w3) := hg3
        have c1 : w3.cell? ⟨wr.heap.size, 1, none⟩ = some (.int .i64 (f : Nat)) := by rw [(HG3.out.block HPB.out).cell, ← HFX.out]; rfl
        have c2 : w3.cell? ⟨wr.heap.size, 2, none⟩ = some (.int .i64 (g : Nat)) := by rw [(HG3.out.block HPB.out).cell, ← HCX.out]; rfl
        have c4 : w3.cell? ⟨wr.heap.size, 4, none⟩ = some (.bool x.d.deaf) := (HG3.out.block HPB.out).cell 4
        have j3 : w3.cell? ⟨w.heap.size + 1, 3, none⟩ = some (.int .i64 (jf : Nat)) := (((HGR.out.trans HG2.out).trans HG3.out).block HS.out).cell 3
        have j4 : w3.cell? ⟨w.heap.size + 1, 4, none⟩ = some (.int .i64 (jk : Nat)) := (((HGR.out.trans HG2.out).trans HG3.out).block HS.out).cell 4
        have HG4 : Hid (Grow W1 w3) := Lib.hid (HR1.out.trans (HG2.out.trans HG3.out))
        clear hg3 hpc hjc
        go_upto_if 37 with fail
        go_cut [8] (fun v wy => v = .int .i64 (s1 : Nat) ∧ wy = w3)
        case first =>
          cases tv with
          | true =>
            have ho : bits .or .i64 ((s : Nat) : Int) 1 = ((s1 : Nat) : Int) := by rw [← HS1.out]; exact or_i64 s 1 (by omega) (by omega)
            go_wp2
            go_meet
            exact ⟨rfl, rfl⟩
          | false =>
            obtain rfl : s = s1 := by have h := HS1.out; simpa using h
            go_wp2
            go_meet
            exact ⟨rfl, rfl⟩
        case rest =>
          obtain ⟨rfl, rfl⟩ := hcut
          rename World => w3
          go_wp2_with fail
          refine (HH1.out _).mono ?_
          rintro e w4 ⟨rfl, rfl⟩
          go_upto_if 45 with fail
          go_cut [8] (fun v wy => v = .int .i64 (s2 : Nat) ∧ wy = w3)
          case first =>
            cases g1 with
            | false =>
              have ho : bits .or .i64 ((s1 : Nat) : Int) 2 = ((s2 : Nat) : Int) := by rw [← HS2.out]; exact or_i64 s1 2 (by omega) (by omega)
              go_wp2
              go_meet
              exact ⟨rfl, rfl⟩
            | true =>
              obtain rfl : s1 = s2 := by have h := HS2.out; simpa using h
              go_wp2
              go_meet
              exact ⟨rfl, rfl⟩
          case rest =>
            obtain ⟨rfl, rfl⟩ := hcut
            rename World => w3
            go_wp2_with fail
            refine (HH2.out _).mono ?_
            rintro e w4 ⟨rfl, rfl⟩
            go_upto_if 53 with fail
            go_cut [8] (fun v wy => v = .int .i64 (s3 : Nat) ∧ wy = w3)
            case first =>
              cases g2 with
              | false =>
                have ho : bits .or .i64 ((s2 : Nat) : Int) 4 = ((s3 : Nat) : Int) := by rw [← HS3.out]; exact or_i64 s2 4 (by omega) (by omega)
                go_wp2
                go_meet
                exact ⟨rfl, rfl⟩
              | true =>
                obtain rfl : s2 = s3 := by have h := HS3.out; simpa using h
                go_wp2
                go_meet
                exact ⟨rfl, rfl⟩
            case rest =>
              obtain ⟨rfl, rfl⟩ := hcut
              rename World => w3
              cases dv with
              | true =>
                go_wp2
                go_roundw
                case rel => exact ⟨k + 1, by omega, by go_num, by rw [HQ.out], by rw [HD.out]; rfl, HG4.out⟩
                case measure => simp [intOf]; omega
              | false =>
                go_wp2
                go_roundw
                case rel => exact ⟨k + 1, by omega, by go_num, by rw [HQ.out], by rw [HD.out]; rfl, HG4.out⟩
                case measure => simp [intOf]; omega
    · have hd : decide ((k : Int) < (c.people.length : Int)) = false := decide_eq_false (by omega)
      obtain rfl : k = c.people.length := by omega
      have HBL2 : Hid (bl = ((ruleO jd (memTo c.people team c.people.length) ||| (if (popD team : Int) = max sz ls then 0 else 8)) ||| (if (ld && !deafL (memTo c.people team c.people.length)) = true then 16 else 0)) ||| (if dig (farD n (fun a b => joinsL lv a b (membersL c.people team)) fr) dst = 0 then 32 else 0)) := Lib.hid (by
        rw [HBL.out, ← HME.out]
        congr 1
        by_cases h0 : dig (farD n (fun a b => joinsL lv a b (membersL c.people team)) fr) dst = 0
        · rw [if_pos h0, if_pos (HFN.out.1 h0)]
        · rw [if_neg h0, if_neg (fun h => h0 (HFN.out.2 h))])
      have hs8 := ruleO_lt jd (memTo c.people team c.people.length)
      obtain ⟨ov, hov⟩ : ∃ z, ruleO jd (memTo c.people team c.people.length) = z := ⟨_, rfl⟩
      obtain ⟨dv, hdv⟩ : ∃ z, deafL (memTo c.people team c.people.length) = z := ⟨_, rfl⟩
      obtain ⟨mx, hmx⟩ : ∃ z, max sz ls = z := ⟨_, rfl⟩
      obtain ⟨fd, hfd⟩ : ∃ z, farD n (fun a b => joinsL lv a b (membersL c.people team)) fr = z := ⟨_, rfl⟩
      have HMX := Lib.hid hmx
      rw [hov, hdv, hmx, hfd] at HBL2
      rw [hov] at hs8
      rw [hov, hdv]
      have HFA1 : Hid (∀ w0, Grow w w0 → Calls Try.prog 46 #[crewV c, .int .i64 (team : Nat), .int .i64 lv, .int .i64 (fr : Nat)] w0 fun e w' => ∃ v, e = .returned v ∧ FarV n fd v w' ∧ Grow w0 w') := Lib.hid (fun w0 hw => (HFA.out w0 hw).mono (by
        rintro e w' ⟨g, cap, rfl, _, hq, hb⟩
        rw [hfd] at hq
        exact ⟨_, rfl, ⟨g, cap, rfl, hq⟩, hb⟩))
      clear hov hdv hmx hfd HBL HFN HFA HOK HBO HHAS
      go_upto_region 16 with fail
      clear hcc hd
      have HSZT := Lib.hid (fun w0 => HSZ.out w0)
      refine wp_region_lit 8 [[], [(0, 61)], [], [(2, 63)], [], [(4, 65)], [(3, 64), (5, 66)], [(1, 62), (6, 67)]] Grow (fun qi v w' => match qi with
          | 0 => v = .int .i64 (team : Nat)
          | 1 => v = .int .i64 (popD team : Nat)
          | 2 => v = .pointer (some ⟨w.heap.size + 1, 5, none⟩)
          | 3 => v = .int .i64 sz
          | 4 => v = .pointer (some ⟨W.heap.size, 1, none⟩)
          | 5 => v = .int .i64 ls
          | 6 => v = .int .i64 mx
          | 7 => v = .bool ((popD team : Int) != mx)
          | _ => False) (by kernel_rfl) (by kernel_rfl) (fun _ _ _ => Grow.trans) Grow.refl ?_ ?_ ?_
      · intro i v y y' h k
        match i, h with
        | 0, h | 1, h | 2, h | 3, h | 4, h | 5, h | 6, h | 7, h => exact h
      · simp only [StepsLit, List.take_succ_cons, List.take_zero]
        refine ⟨?_, ?_, ?_, ?_, ?_, ?_, ?_, ?_, trivial⟩
        · intro w5 hR
          have hGw : Grow wr w5 := hR.of_drew
          have HGW := Lib.hid hGw
          have cJ := ((HGR.out.trans HGW.out).block HS.out).cell
          have cL := ((HR1.out.trans HGW.out).block HLB.out).cell
          clear hR hGw
          simp only [depV]
          try go_simp
          all_goals first
            | (with_reducible exact Grow.refl _)
            | (with_reducible exact ⟨Grow.refl _, rfl⟩)
        · intro w5 hR
          have hGw : Grow wr w5 := hR.of_drew
          have HGW := Lib.hid hGw
          have cJ := ((HGR.out.trans HGW.out).block HS.out).cell
          have cL := ((HR1.out.trans HGW.out).block HLB.out).cell
          clear hR hGw
          simp only [depV]
          rintro _ rfl
          try go_simp
          refine (HSZT.out _).mono ?_
          rintro e w6 ⟨rfl, rfl⟩
          exact ⟨Grow.refl _, rfl⟩
        · intro w5 hR
          have hGw : Grow wr w5 := hR.of_drew
          have HGW := Lib.hid hGw
          have cJ := ((HGR.out.trans HGW.out).block HS.out).cell
          have cL := ((HR1.out.trans HGW.out).block HLB.out).cell
          clear hR hGw
          simp only [depV]
          try go_simp
          all_goals first
            | (with_reducible exact Grow.refl _)
            | (with_reducible exact ⟨Grow.refl _, rfl⟩)
        · intro w5 hR
          have hGw : Grow wr w5 := hR.of_drew
          have HGW := Lib.hid hGw
          have cJ := ((HGR.out.trans HGW.out).block HS.out).cell
          have cL := ((HR1.out.trans HGW.out).block HLB.out).cell
          clear hR hGw
          simp only [depV]
          rintro _ rfl
          try go_simp
          all_goals first
            | (with_reducible exact Grow.refl _)
            | (with_reducible exact ⟨Grow.refl _, rfl⟩)
        · intro w5 hR
          have hGw : Grow wr w5 := hR.of_drew
          have HGW := Lib.hid hGw
          have cJ := ((HGR.out.trans HGW.out).block HS.out).cell
          have cL := ((HR1.out.trans HGW.out).block HLB.out).cell
          clear hR hGw
          simp only [depV]
          try go_simp
          all_goals first
            | (with_reducible exact Grow.refl _)
            | (with_reducible exact ⟨Grow.refl _, rfl⟩)
        · intro w5 hR
          have hGw : Grow wr w5 := hR.of_drew
          have HGW := Lib.hid hGw
          have cJ := ((HGR.out.trans HGW.out).block HS.out).cell
          have cL := ((HR1.out.trans HGW.out).block HLB.out).cell
          clear hR hGw
          simp only [depV]
          rintro _ rfl
          try go_simp
          all_goals first
            | (with_reducible exact Grow.refl _)
            | (with_reducible exact ⟨Grow.refl _, rfl⟩)
        · intro w5 hR
          have hGw : Grow wr w5 := hR.of_drew
          have HGW := Lib.hid hGw
          have cJ := ((HGR.out.trans HGW.out).block HS.out).cell
          have cL := ((HR1.out.trans HGW.out).block HLB.out).cell
          clear hR hGw
          simp only [depV]
          rintro _ rfl
          rintro _ rfl
          try go_simp
          exact ⟨Grow.refl _, by have h := HMX.out; rw [← h]; split <;> omega⟩
        · intro w5 hR
          have hGw : Grow wr w5 := hR.of_drew
          have HGW := Lib.hid hGw
          have cJ := ((HGR.out.trans HGW.out).block HS.out).cell
          have cL := ((HR1.out.trans HGW.out).block HLB.out).cell
          clear hR hGw
          simp only [depV]
          rintro _ rfl
          rintro _ rfl
          try go_simp
          all_goals first
            | (with_reducible exact Grow.refl _)
            | (with_reducible exact ⟨Grow.refl _, rfl⟩)
      · intro w5 hR
        have HG5 : Hid (Grow wr w5) := Lib.hid hR.of_drew
        clear hR
        simp only [finVC, List.take_succ_cons, List.take_zero, List.drop_succ_cons, List.drop_zero]
        rintro _ rfl
        rintro _ rfl
        rintro _ rfl
        rintro _ rfl
        rintro _ rfl
        rintro _ rfl
        rintro _ rfl
        rintro _ rfl
        simp only [Act.put, List.setIfInBounds_toArray, List.set_cons_succ, List.set_cons_zero]
        obtain ⟨ne, hne⟩ : ∃ z, ((popD team : Int) != mx) = z := ⟨_, rfl⟩
        have HIF : Hid ((if (popD team : Int) = mx then 0 else 8) = if ne = true then 8 else 0) := Lib.hid (by
          rw [← hne]
          by_cases h : (popD team : Int) = mx
          · simp [h]
          · simp [h])
        rw [HIF.out] at HBL2
        rw [hne]
        clear hne HIF
        obtain ⟨s1, hs1⟩ : ∃ z, ov ||| (if ne = true then 8 else 0) = z := ⟨_, rfl⟩
        have hs1l : s1 < 64 := by rw [← hs1]; exact Nat.or_lt_two_pow (n := 6) (by omega) (by split <;> omega)
        obtain ⟨s2, hs2⟩ : ∃ z, s1 ||| (if (ld && !dv) = true then 16 else 0) = z := ⟨_, rfl⟩
        have hs2l : s2 < 64 := by rw [← hs2]; exact Nat.or_lt_two_pow (n := 6) (by omega) (by split <;> omega)
        rw [hs1, hs2] at HBL2
        have HS1 := Lib.hid hs1
        have HS2 := Lib.hid hs2
        have HR5 : Hid (Grow W1 w5) := Lib.hid (HR1.out.trans HG5.out)
        clear hs1 hs2 HG5
        simp only [wpList]
        go_upto_if 68 with fail
        go_cut [8] (fun v wy => v = .int .i64 (s1 : Nat) ∧ wy = w5)
        case first =>
          cases ne with
          | true =>
            have ho : bits .or .i64 ((ov : Nat) : Int) 8 = ((s1 : Nat) : Int) := by rw [← HS1.out]; exact or_i64 ov 8 (by omega) (by omega)
            go_wp2
            go_meet
            exact ⟨rfl, rfl⟩
          | false =>
            obtain rfl : ov = s1 := by have h := HS1.out; simpa using h
            go_wp2
            go_meet
            exact ⟨rfl, rfl⟩
        case rest =>
          obtain ⟨rfl, rfl⟩ := hcut
          rename World => w5
          have cL2 : w5.cell? ⟨W.heap.size, 2, none⟩ = some (.bool ld) := (HR5.out.block HLB.out).cell 2
          have HQ2 : Hid (s2 = s1 ||| (if (ld && !dv) = true then 16 else 0)) := Lib.hid HS2.out.symm
          clear HS1 HS2
          go_upto_region 18 with fail
          go_cut [76] (fun v wy => v = .bool (ld && !dv) ∧ wy = w5)
          case first =>
            cases ld with
            | true =>
              go_wp2
              go_meet
              exact ⟨rfl, rfl⟩
            | false =>
              go_wp2
              go_meet
              exact ⟨rfl, rfl⟩
          case rest =>
            obtain ⟨rfl, rfl⟩ := hcut
            rename World => w5
            obtain ⟨ddv, hddv⟩ : ∃ z, (ld && !dv) = z := ⟨_, rfl⟩
            rw [hddv] at HQ2 ⊢
            clear hddv cL2
            go_upto_if 76 with fail
            go_cut [8] (fun v wy => v = .int .i64 (s2 : Nat) ∧ wy = w5)
            case first =>
              cases ddv with
              | true =>
                have ho : bits .or .i64 ((s1 : Nat) : Int) 16 = ((s2 : Nat) : Int) := by rw [HQ2.out]; exact or_i64 s1 16 (by omega) (by omega)
                go_wp2
                go_meet
                exact ⟨rfl, rfl⟩
              | false =>
                obtain rfl : s2 = s1 := by have h := HQ2.out; simpa using h
                go_wp2
                go_meet
                exact ⟨rfl, rfl⟩
            case rest =>
              obtain ⟨rfl, rfl⟩ := hcut
              rename World => w5
              go_upto_region 20 with fail
              refine wp_region_lit 12 [[], [], [], [(2, 81)], [], [(4, 83)], [(0, 79), (1, 80), (3, 82), (5, 84)], [], [(7, 86)], [(6, 85), (8, 87)], [(9, 88)], [(10, 89)]] Grow (fun qi v w' => match qi with
                  | 0 => v = crewV c
                  | 1 => v = .int .i64 (team : Nat)
                  | 2 => v = .pointer (some ⟨W.heap.size, 0, none⟩)
                  | 3 => v = .int .i64 lv
                  | 4 => v = .pointer (some ⟨w.heap.size + 1, 0, none⟩)
                  | 5 => v = .int .i64 (fr : Nat)
                  | 6 => FarV n fd v w'
                  | 7 => v = .pointer (some ⟨w.heap.size + 1, 1, none⟩)
                  | 8 => v = .int .i64 (dst : Nat)
                  | 9 => FarP n fd dst v w'
                  | 10 => v = .int .i64 ((dig fd dst : Int) - 1)
                  | 11 => v = .bool (decide ((dig fd dst : Int) - 1 < 0))
                  | _ => False) (by kernel_rfl) (by kernel_rfl) (fun _ _ _ => Grow.trans) Grow.refl ?_ ?_ ?_
              · intro i v y y' h k
                match i, h with
                | 6, h => exact h.grow k
                | 9, h => exact h.grow k
                | 0, h | 1, h | 2, h | 3, h | 4, h | 5, h | 7, h | 8, h | 10, h | 11, h => exact h
              · simp only [StepsLit, List.take_succ_cons, List.take_zero]
                refine ⟨?_, ?_, ?_, ?_, ?_, ?_, ?_, ?_, ?_, ?_, ?_, ?_, trivial⟩
                · intro w7 hR
                  have hGw : Grow w5 w7 := hR.of_drew
                  have HGW := Lib.hid hGw
                  have cC := ((HG1.out.trans (HR5.out.trans HGW.out)).block HF.out).cell
                  have cJ := ((HG1.out.trans (HR5.out.trans HGW.out)).block HS.out).cell
                  have cL := ((HR5.out.trans HGW.out).block HLB.out).cell
                  clear hR hGw
                  simp only [depV]
                  try go_simp
                  all_goals first
                    | (with_reducible exact Grow.refl _)
                    | (with_reducible exact ⟨Grow.refl _, rfl⟩)
                · intro w7 hR
                  have hGw : Grow w5 w7 := hR.of_drew
                  have HGW := Lib.hid hGw
                  have cC := ((HG1.out.trans (HR5.out.trans HGW.out)).block HF.out).cell
                  have cJ := ((HG1.out.trans (HR5.out.trans HGW.out)).block HS.out).cell
                  have cL := ((HR5.out.trans HGW.out).block HLB.out).cell
                  clear hR hGw
                  simp only [depV]
                  try go_simp
                  all_goals first
                    | (with_reducible exact Grow.refl _)
                    | (with_reducible exact ⟨Grow.refl _, rfl⟩)
                · intro w7 hR
                  have hGw : Grow w5 w7 := hR.of_drew
                  have HGW := Lib.hid hGw
                  have cC := ((HG1.out.trans (HR5.out.trans HGW.out)).block HF.out).cell
                  have cJ := ((HG1.out.trans (HR5.out.trans HGW.out)).block HS.out).cell
                  have cL := ((HR5.out.trans HGW.out).block HLB.out).cell
                  clear hR hGw
                  simp only [depV]
                  try go_simp
                  all_goals first
                    | (with_reducible exact Grow.refl _)
                    | (with_reducible exact ⟨Grow.refl _, rfl⟩)
                · intro w7 hR
                  have hGw : Grow w5 w7 := hR.of_drew
                  have HGW := Lib.hid hGw
                  have cC := ((HG1.out.trans (HR5.out.trans HGW.out)).block HF.out).cell
                  have cJ := ((HG1.out.trans (HR5.out.trans HGW.out)).block HS.out).cell
                  have cL := ((HR5.out.trans HGW.out).block HLB.out).cell
                  clear hR hGw
                  simp only [depV]
                  rintro _ rfl
                  try go_simp
                  all_goals first
                    | (with_reducible exact Grow.refl _)
                    | (with_reducible exact ⟨Grow.refl _, rfl⟩)
                · intro w7 hR
                  have hGw : Grow w5 w7 := hR.of_drew
                  have HGW := Lib.hid hGw
                  have cC := ((HG1.out.trans (HR5.out.trans HGW.out)).block HF.out).cell
                  have cJ := ((HG1.out.trans (HR5.out.trans HGW.out)).block HS.out).cell
                  have cL := ((HR5.out.trans HGW.out).block HLB.out).cell
                  clear hR hGw
                  simp only [depV]
                  try go_simp
                  all_goals first
                    | (with_reducible exact Grow.refl _)
                    | (with_reducible exact ⟨Grow.refl _, rfl⟩)
                · intro w7 hR
                  have hGw : Grow w5 w7 := hR.of_drew
                  have HGW := Lib.hid hGw
                  have cC := ((HG1.out.trans (HR5.out.trans HGW.out)).block HF.out).cell
                  have cJ := ((HG1.out.trans (HR5.out.trans HGW.out)).block HS.out).cell
                  have cL := ((HR5.out.trans HGW.out).block HLB.out).cell
                  clear hR hGw
                  simp only [depV]
                  rintro _ rfl
                  try go_simp
                  all_goals first
                    | (with_reducible exact Grow.refl _)
                    | (with_reducible exact ⟨Grow.refl _, rfl⟩)
                · intro w7 hR
                  have hGw : Grow w5 w7 := hR.of_drew
                  have HGW := Lib.hid hGw
                  have cC := ((HG1.out.trans (HR5.out.trans HGW.out)).block HF.out).cell
                  have cJ := ((HG1.out.trans (HR5.out.trans HGW.out)).block HS.out).cell
                  have cL := ((HR5.out.trans HGW.out).block HLB.out).cell
                  clear hR hGw
                  simp only [depV]
                  rintro _ rfl
                  rintro _ rfl
                  rintro _ rfl
                  rintro _ rfl
                  try go_simp
                  refine (HFA1.out _ (HG.out.trans (HG1.out.trans (HR5.out.trans HGW.out)))).mono ?_
                  rintro e w6 ⟨v, rfl, hfv, hg6⟩
                  exact ⟨hg6, hfv⟩
                · intro w7 hR
                  have hGw : Grow w5 w7 := hR.of_drew
                  have HGW := Lib.hid hGw
                  have cC := ((HG1.out.trans (HR5.out.trans HGW.out)).block HF.out).cell
                  have cJ := ((HG1.out.trans (HR5.out.trans HGW.out)).block HS.out).cell
                  have cL := ((HR5.out.trans HGW.out).block HLB.out).cell
                  clear hR hGw
                  simp only [depV]
                  try go_simp
                  all_goals first
                    | (with_reducible exact Grow.refl _)
                    | (with_reducible exact ⟨Grow.refl _, rfl⟩)
                · intro w7 hR
                  have hGw : Grow w5 w7 := hR.of_drew
                  have HGW := Lib.hid hGw
                  have cC := ((HG1.out.trans (HR5.out.trans HGW.out)).block HF.out).cell
                  have cJ := ((HG1.out.trans (HR5.out.trans HGW.out)).block HS.out).cell
                  have cL := ((HR5.out.trans HGW.out).block HLB.out).cell
                  clear hR hGw
                  simp only [depV]
                  rintro _ rfl
                  try go_simp
                  all_goals first
                    | (with_reducible exact Grow.refl _)
                    | (with_reducible exact ⟨Grow.refl _, rfl⟩)
                · intro w7 hR
                  have hGw : Grow w5 w7 := hR.of_drew
                  have HGW := Lib.hid hGw
                  have cC := ((HG1.out.trans (HR5.out.trans HGW.out)).block HF.out).cell
                  have cJ := ((HG1.out.trans (HR5.out.trans HGW.out)).block HS.out).cell
                  have cL := ((HR5.out.trans HGW.out).block HLB.out).cell
                  clear hR hGw
                  simp only [depV]
                  intro v6 hv6
                  rintro _ rfl
                  obtain ⟨gq, cq, rfl, hfq⟩ := hv6
                  have hd0 : (0 : Int) ≤ (dst : Int) := by omega
                  have hd1 : (dst : Int) < (n : Int) := by omega
                  have HFQ := Lib.hid hfq
                  clear hfq
                  try go_simp
                  exact ⟨Grow.refl _, gq, rfl, HFQ.out⟩
                · intro w7 hR
                  have hGw : Grow w5 w7 := hR.of_drew
                  have HGW := Lib.hid hGw
                  have cC := ((HG1.out.trans (HR5.out.trans HGW.out)).block HF.out).cell
                  have cJ := ((HG1.out.trans (HR5.out.trans HGW.out)).block HS.out).cell
                  have cL := ((HR5.out.trans HGW.out).block HLB.out).cell
                  clear hR hGw
                  simp only [depV]
                  intro v9 hv9
                  obtain ⟨gq, rfl, hfq⟩ := hv9
                  have hcq := hfq.cell hdn
                  clear hfq
                  try go_simp
                  all_goals first
                    | (with_reducible exact Grow.refl _)
                    | (with_reducible exact ⟨Grow.refl _, rfl⟩)
                · intro w7 hR
                  have hGw : Grow w5 w7 := hR.of_drew
                  have HGW := Lib.hid hGw
                  have cC := ((HG1.out.trans (HR5.out.trans HGW.out)).block HF.out).cell
                  have cJ := ((HG1.out.trans (HR5.out.trans HGW.out)).block HS.out).cell
                  have cL := ((HR5.out.trans HGW.out).block HLB.out).cell
                  clear hR hGw
                  simp only [depV]
                  rintro _ rfl
                  try go_simp
                  all_goals first
                    | (with_reducible exact Grow.refl _)
                    | (with_reducible exact ⟨Grow.refl _, rfl⟩)
              · intro w6 hR
                have HG6 : Hid (Grow w5 w6) := Lib.hid hR.of_drew
                clear hR
                simp only [finVC, List.take_succ_cons, List.take_zero, List.drop_succ_cons, List.drop_zero]
                rintro _ rfl
                rintro _ rfl
                rintro _ rfl
                rintro _ rfl
                rintro _ rfl
                rintro _ rfl
                intro v6 hv6
                rintro _ rfl
                rintro _ rfl
                intro v9 hv9
                rintro _ rfl
                rintro _ rfl
                simp only [Act.put, List.setIfInBounds_toArray, List.set_cons_succ, List.set_cons_zero]
                obtain ⟨zb, hzb⟩ : ∃ z, decide ((dig fd dst : Int) - 1 < 0) = z := ⟨_, rfl⟩
                have HB3 : Hid (bl = s2 ||| (if zb = true then 32 else 0)) := Lib.hid (by
                  rw [HBL2.out, ← hzb]
                  congr 1
                  by_cases h0 : dig fd dst = 0
                  · simp [h0]
                  · rw [if_neg h0, if_neg (by simp; omega)])
                rw [hzb]
                have HGE : Hid (Grow w w6) := Lib.hid (HG.out.trans (HG1.out.trans (HR5.out.trans HG6.out)))
                clear hzb HG6 hv6 hv9
                simp only [wpList]
                cases zb with
                | true =>
                  have ho : bits .or .i64 ((s2 : Nat) : Int) 32 = ((bl : Nat) : Int) := by rw [HB3.out]; exact or_i64 s2 32 (by omega) (by omega)
                  go_wp2
                  go_ret
                  exact ⟨rfl, HGE.out⟩
                | false =>
                  obtain rfl : bl = s2 := by have h := HB3.out; simpa using h
                  go_wp2
                  go_ret
                  exact ⟨rfl, HGE.out⟩

theorem rBroken_any (c : CrewR) (j : JobD) (team : Nat) (w : World) (hA : CrewAt w w.heap.size c) (ht : team < 1024) (h1 : okCrew c.d = true) (h2 : okJob c.languages j = true) :
    Calls Try.prog 44 #[crewV c, jobV j, .int .i64 (team : Nat)] w fun e w' => e = .returned (.int .i64 (brokenT c j team : Nat)) ∧ Below w.heap.size w w' := by
  have g := good_ok h1 h2
  have hc := g.crew
  have hj := g.job
  have hlw := lawOf_at hc hj
  unfold brokenT
  obtain ⟨jf, hjf⟩ := Int.eq_ofNat_of_zero_le hj.field.1
  obtain ⟨jk, hjk⟩ := Int.eq_ofNat_of_zero_le hj.kind.1
  have e1 := g.frI
  have e2 := g.dstI
  have hf7 := hj.field.2
  have hk3 := hj.kind.2
  have hnq : j.fr.toNat ≠ j.dest.toNat := fun e => hj.ne (by rw [e1, e2, e])
  have hlw2 : c.laws[jk]? = some (lawOf c.d j) := by
    have h := hlw
    rw [hjk, Int.toNat_natCast] at h
    exact h
  have hok : ∀ x ∈ c.people, PersonOK x.d := fun x hx => okPerson_ok (hc.people x.d (List.mem_map.2 ⟨x, hx, rfl⟩))
  have q := rBroken_any' c j.fr.toNat j.dest.toNat jf jk team c.languages.toNat j.client j.size (lawOf c.d j).level (lawOf c.d j).size (lawOf c.d j).deaf w hA g.len ht g.lang g.n2 g.n5 g.frn g.dstn hnq g.levels hok (by omega) (by omega) hlw2
  have ej : (⟨((j.fr.toNat : Nat) : Int), ((j.dest.toNat : Nat) : Int), j.client, (jf : Nat), (jk : Nat), j.size⟩ : JobD) = j := by
    rw [← e1, ← e2, ← hjf, ← hjk]
  rw [ej] at q
  exact q
theorem crewErr_ok' {c : CrewD} {j : JobD} (h : crewErr c j = 0) : okCrew c = true ∧ okJob c.languages j = true := by
  have h1 : okCrew c = true := by
    cases hk : okCrew c with
    | true => rfl
    | false => rw [crewErr, if_pos hk] at h; cases h
  refine ⟨h1, ?_⟩
  cases hk : okJob c.languages j with
  | true => rfl
  | false => rw [crewErr, if_neg (by rw [h1]; decide), if_pos hk] at h; cases h
theorem rb_any {c : CrewR} {j : JobD} {n : Nat} {w : World} (hA : CrewAt w n c) (hn : n ≤ w.heap.size) (h : crewErr c.d j = 0) : RB c j (brokenT c j) w := by
  intro t w0 ht hw
  have h1 : okCrew c.d = true := by
    cases hk : okCrew c.d with
    | true => rfl
    | false => rw [crewErr, if_pos hk] at h; cases h
  have h2 : okJob c.languages j = true := by
    cases hk : okJob c.languages j with
    | true => rfl
    | false => rw [crewErr, if_neg (by rw [h1]; decide), if_pos hk] at h; cases h
  exact rBroken_any c j t w0 (((hA.more hn).below hw).more hw.size) ht h1 h2

end Go.Proofs.Yticeekkfdkfcgaa
