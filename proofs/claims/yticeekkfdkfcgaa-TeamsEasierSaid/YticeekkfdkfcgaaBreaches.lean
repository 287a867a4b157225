/- Breaches: the walk of breaches. -/
import Derived.Test.YticeekkfdkfcgaaBreach
import Derived.Test.YticeekkfdkfcgaaRegion
import Derived.Deep.DeepCutAuto
namespace Go.Proofs.Yticeekkfdkfcgaa
open Go.RowKit
open Go.ChangeMaps (setBlock)

set_option maxRecDepth 100000 in
set_option maxHeartbeats 16000000 in
theorem breaches_any (c : CrewR) (j : JobD) (n : Nat) (w : World) (hA : CrewAt w n c) (hn : n ≤ w.heap.size) (hl : c.people.length ≤ 8) (ho : ∀ x ∈ c.people, PersonOK x.d) (hj : JobOK j) :
    Calls Try.prog 56 #[crewV c, jobV j] w fun e w' => ∃ sb, e = .returned (.slice (some ⟨sb, 0, none⟩) c.people.length c.people.length) ∧ w.heap.size ≤ sb ∧ BlockIs w' sb 3 (natCells (c.people.map fun x => breakD j x.d)) ∧ Below w.heap.size w w' := by
  have HP := Lib.hid (fun (w0 : World) (hw : Grow w w0) => ((hA.1.more hn).below hw).more hw.size)
  have HO := Lib.hid ho
  have HJ := Lib.hid hj
  have hl10 : c.people.length ≤ 10 := by omega
  clear hA hn ho hj
  go_enter Try.func56, Try.ntmps56
  go_upto_region 1 with fail
  obtain ⟨W, hW, hg, hf, hs, hsz⟩ := two_blocks w 25 27 (cellsC c) (cellsJ j)
  rw [hW]
  clear hW
  have hcc := hf.cell
  have HG := Lib.hid hg
  have HF := Lib.hid hf
  have HS := Lib.hid hs
  clear hf hs hg
  have hmk := make_full_int c.people.length W hl10
  rw [madeNats] at hmk
  go_upto_region 2 with fail
  obtain ⟨W1, hW1, hg1, hb1, hsz1⟩ := one_block W 3 (natCells (List.replicate c.people.length 0))
  rw [hW1]
  have HG1 := Lib.hid hg1
  have HB1 := Lib.hid hb1
  clear hmk hcc hW1 hg1 hb1
  have hjc := (HG1.out.block HS.out).cell
  go_wp2_with fail
  refine (alone_any j W1).mono ?_
  rintro e w2 ⟨m, jb, rfl, hm2, hj2, hg2⟩
  have HG2 : Hid (Grow W1 w2) := hg2
  have hrg : (Instr.range 90 (.map (some m))).run Try.prog w2 = .ok (.pointer (some ⟨w2.heap.size, 0, none⟩)) (w2.alloc (.mapIter (some m) 3 #[] 3)) := run_range_map (P := Try.prog) w2 90 _ _ m (entF jb) 3 Try.underlying90 hm2
  obtain ⟨w3, hw3⟩ : ∃ z, w2.alloc (.mapIter (some m) 3 #[] 3) = z := ⟨_, rfl⟩
  have hz3 : w3.heap.size = w2.heap.size + 1 := by rw [← hw3]; simp
  have H3 : Hid (BrS W w3 w2.heap.size m jb W.heap.size j #[] (c.people.map fun x => orS j #[] x.d)) := Lib.hid (by
    have g3 : Grow w2 w3 := by rw [← hw3]; exact Grow.alloc _ _
    have hb3 := (HG2.out.trans g3).block HB1.out
    refine ⟨by rw [← hw3]; exact heap_alloc_new w2 _, (Below.block g3 m (lt_heap hm2)).trans hm2, g3.block hj2, ?_, HG1.out.trans' (Below.mono (HG2.out.trans g3) HG1.out.size)⟩
    rw [show (c.people.map fun x => orS j #[] x.d) = List.replicate c.people.length 0 from ?_]
    · exact hb3
    · rw [show (fun x : PersonR => orS j #[] x.d) = fun _ => 0 from funext fun x => orS_none j x.d]
      exact List.map_const' ..)
  have hi2 : W.heap.size ≤ w2.heap.size := by have := HG2.out.size; omega
  rw [hw3] at hrg
  clear hw3 hm2 hj2 hg2 hjc
  go_upto_region 3 with fail
  clear hrg
  obtain ⟨it, hit⟩ : ∃ z, w2.heap.size = z := ⟨_, rfl⟩
  obtain ⟨sb, hsb⟩ : ∃ z, W.heap.size = z := ⟨_, rfl⟩
  have HSB := Lib.hid hsb
  rw [hit] at H3 hi2 hz3 ⊢
  rw [hsb] at H3 ⊢
  clear hit hsb
  go_wp2_with fail
  go_loopw [6] (fun _ wr => ∃ seen : Array Nat, BrS W wr it m jb sb j seen (c.people.map fun x => orS j seen x.d)) (fun _ wr => (leftOf (entF jb) (wr.iterSeen it)).size)
  case atStart => exact ⟨#[], H3.out⟩
  case round => as_aux_lemma =>
    obtain ⟨seen, hbr⟩ := hrel
    rename World => wr
    have HBR := Lib.hid hbr
    clear hbr H3
    rcases next_rule 0 HBR.out.iter HBR.out.map with ⟨hall, hn⟩ | ⟨r, hr3, hrn, w1, hw1, hn⟩
    · have hnx : ∀ ty, (Instr.next (.pointer (some ⟨it, 0, none⟩)) false ty).run Try.prog wr = _ := fun _ => hn
      have HX : Hid (BlockIs wr sb 3 (natCells (c.people.map fun x => breakD j x.d)) ∧ Below w.heap.size w wr) := Lib.hid ⟨by
        have h := HBR.out.sets
        rw [show (fun x : PersonR => orS j seen x.d) = fun x => breakD j x.d from funext fun x => orS_all j seen x.d hall] at h
        exact h, HG.out.trans HBR.out.below⟩
      have HWS : Hid (w.heap.size ≤ sb) := Lib.hid (by rw [← HSB.out]; exact HG.out.size)
      clear hn hall
      go_wp2
      go_ret
      exact ⟨sb, rfl, HWS.out, HX.out.1, HX.out.2⟩
    · obtain ⟨hst, hzst⟩ := HBR.out.step (r := r) hi2 hw1
      have HMS := Lib.hid (left_rule (jb := jb) hr3 hrn)
      have HOLD := Lib.hid HBR.out.iter.seen
      have HPU := Lib.hid (fun p => orS_push j seen p r hr3 hrn)
      generalize setBlock w1 it (.mapIter (some m) 3 (seen.push r) 3) = w4 at hn hst hzst
      have hnx : ∀ ty, (Instr.next (.pointer (some ⟨it, 0, none⟩)) false ty).run Try.prog wr = _ := fun _ => hn
      have hen := entry_rule hst.iter hst.map hr3
      have HST := Lib.hid hst
      have HC4 : Hid (BlockIs w4 w.heap.size 25 (cellsC c)) := Lib.hid (HF.out.below HST.out.below HF.out.lt)
      have hcc4 := HC4.out.cell
      have HI0 := Lib.hid HBR.out.iter
      clear hn hw1 hst
      go_upto_region 6 with fail
      clear hcc4 hnx hen
      have HRE := Lib.hid (ruleF_enter r)
      have HRC := Lib.hid (fun (x : PersonR) (hx : x ∈ c.people) (w0 : World) (hb : BlockIs w0 jb 27 (cellsJ j)) (hg : Grow w w0) => rule_any j jb r x w0 hb ((HP.out w0 hg).2 x hx) (HO.out x hx) HJ.out)
      generalize ruleF r = fn at HRE HRC ⊢
      go_wp2_with fail
      go_loopw [25] (fun kv wx => ∃ k : Nat, k ≤ c.people.length ∧ kv = .int .i64 k ∧ BrS W wx it m jb sb j (seen.push r) (mixS (fun x : PersonR => orS j (seen.push r) x.d) (fun x => orS j seen x.d) c.people k)) (fun kv _ => c.people.length - (intOf kv).toNat)
      case atStart => exact ⟨0, Nat.zero_le _, rfl, by rw [mixS_zero]; exact HST.out⟩
      case round =>
        obtain ⟨k, hk, rfl, hbk⟩ := hrel
        rename World => wx
        have HBK := Lib.hid hbk
        clear hbk
        by_cases hlt : k < c.people.length
        · have hd1 : decide ((k : Int) < (c.people.length : Int)) = true := decide_eq_true (by omega)
          have hd2 : decide (k < c.people.length) = true := decide_eq_true hlt
          have hk0 : (0 : Int) ≤ (k : Int) := by omega
          have hk1 : (k : Int) < (c.people.length : Int) := by omega
          have hgx : Grow w wx := HG.out.trans HBK.out.below
          obtain ⟨b, off, x, hpa, hbl, hcx, hpx, HX⟩ := (HP.out wx hgx).at_ hlt
          have hxm : x ∈ c.people := List.mem_of_getElem? HX.out
          have e0 := hcx 0 (by omega); have e1 := hcx 1 (by omega); have e2 := hcx 2 (by omega); have e3 := hcx 3 (by omega); have e4 := hcx 4 (by omega); have e5 := hcx 5 (by omega)
          rw [Nat.add_zero] at e0
          have HLT := Lib.hid hlt
          have HGX := Lib.hid hgx
          rw [hpa]
          go_upto_region 8 with fail
          obtain ⟨W5, hW5, hg5, hf5, hsz5⟩ := one_block wx 52 (cellsP x)
          rw [hW5]
          have hpc := hf5.cell
          have HB5 := Lib.hid (HBK.out.grow hg5)
          have HG5 := Lib.hid hg5
          clear hW5 hg5 hf5 e0 e1 e2 e3 e4 e5 hcx hbl hpx hd1 hd2
          have heq : ∀ args w, (callFunc fn args).run Try.prog w = .ok (.enter fn args) w := HRE.out
          go_wp2_with fail
          refine (HRC.out x hxm W5 HB5.out.job (HGX.out.trans HG5.out)).mono ?_
          rintro e w6 ⟨rfl, hb6⟩
          have HB6 := Lib.hid (HB5.out.grow hb6)
          clear hb6 hpc heq
          have HML := Lib.hid (mixS_at (f := fun x : PersonR => orS j (seen.push r) x.d) (g := fun x => orS j seen x.d) HX.out)
          have HSU := Lib.hid (mixS_succ (f := fun x : PersonR => orS j (seen.push r) x.d) (g := fun x => orS j seen x.d) HX.out)
          have HSA := Lib.hid (mixS_same (f := fun x : PersonR => orS j (seen.push r) x.d) (g := fun x => orS j seen x.d) HX.out)
          have HPX := Lib.hid (HPU.out x.d)
          have hov := orS_lt j seen x.d
          obtain ⟨ov, hovd⟩ : ∃ z, orS j seen x.d = z := ⟨_, rfl⟩
          obtain ⟨nv, hnvd⟩ : ∃ z, orS j (seen.push r) x.d = z := ⟨_, rfl⟩
          rw [hovd] at HML HSA HPX hov
          rw [hnvd] at HSU HSA HPX
          clear hovd hnvd
          obtain ⟨bk, hbk⟩ : ∃ z, brkD j x.d r = z := ⟨_, rfl⟩
          rw [hbk] at HPX ⊢
          clear hbk
          cases bk with
          | false =>
            have HN : Hid (BrS W w6 it m jb sb j (seen.push r) (mixS (fun x : PersonR => orS j (seen.push r) x.d) (fun x => orS j seen x.d) c.people (k + 1))) := Lib.hid (by
              rw [HSA.out HPX.out]; exact HB6.out)
            clear HML HSU HSA
            go_wp2
            go_roundw
            case rel => exact ⟨k + 1, HLT.out, by go_num, HN.out⟩
            case measure => have := HLT.out; simp [intOf]; omega
          | true =>
            have hnv : nv = ov ||| 2 ^ r := HPX.out
            have hpr : 2 ^ r ≤ 4 := by
              rcases (show r = 0 ∨ r = 1 ∨ r = 2 by omega) with rfl | rfl | rfl <;> decide
            have hcell : w6.cell? ⟨sb, k, none⟩ = some (.int .i64 (ov : Nat)) := by
              rw [HB6.out.sets.cell k]
              have h := HML.out
              simp only [natCells, List.getElem?_toArray, List.getElem?_map, h, Option.map_some]
            have hfr : w6.frozen? ⟨sb, k, none⟩ = false := HB6.out.sets.frozen k
            have hr0 : (0 : Int) ≤ (r : Int) := by omega
            have hr64 : r ≤ 64 := by omega
            have hpI : ((2 : Int) ^ r) = ((2 ^ r : Nat) : Int) := (Int.natCast_pow 2 r).symm
            obtain ⟨pw, hpw⟩ : ∃ z, 2 ^ r = z := ⟨_, rfl⟩
            rw [hpw] at hpI hpr hnv
            have hshl : IntKind.i64.wrap ((2 : Int) ^ r) = (pw : Int) := by
              rw [hpI]
              exact IntWalk.i64_in _ (by omega)
            clear hpI hpw
            have hor := or_i64 ov pw (by omega) (by omega)
            rw [← hnv] at hor
            have HSU2 := Lib.hid HSU.out
            clear HML HSU HSA hnv
            have HCE := Lib.hid hcell
            have HFR := Lib.hid hfr
            have hsbw : W.heap.size ≤ sb := by rw [HSB.out]; exact Nat.le_refl _
            clear hcell hfr
            go_upto_region 9 with fail
            refine wp_region_lit 8 [[], [], [(0, 34), (1, 35)], [(2, 36)], [], [(4, 38)], [(3, 37), (5, 39)], [(0, 34), (1, 35)]] Grow (fun qi v w' => match qi with
                | 0 => v = .slice (some ⟨sb, 0, none⟩) c.people.length c.people.length
                | 1 => v = .int .i64 (k : Nat)
                | 2 => v = .pointer (some ⟨sb, k, none⟩)
                | 3 => v = .int .i64 (ov : Nat)
                | 4 => v = .int .i64 (r : Nat)
                | 5 => v = .int .i64 (pw : Nat)
                | 6 => v = .int .i64 (nv : Nat)
                | 7 => v = .pointer (some ⟨sb, k, none⟩)
                | _ => False) (by kernel_rfl) (by kernel_rfl) (fun _ _ _ => Grow.trans) Grow.refl ?_ ?_ ?_
            · intro i v y y' h k
              match i, h with
              | 0, h | 1, h | 2, h | 3, h | 4, h | 5, h | 6, h | 7, h => exact h
            · simp only [StepsLit, List.take_succ_cons, List.take_zero]
              refine ⟨?_, ?_, ?_, ?_, ?_, ?_, ?_, ?_, trivial⟩
              · intro w5 hR
                have hGw : Grow w6 w5 := hR.of_drew
                have HGW := Lib.hid hGw
                have hcell := HGW.out.cell HCE.out
                clear hR hGw
                simp only [depV]
                try go_simp
                all_goals first
                  | (with_reducible exact Grow.refl _)
                  | (with_reducible exact ⟨Grow.refl _, rfl⟩)
              · intro w5 hR
                have hGw : Grow w6 w5 := hR.of_drew
                have HGW := Lib.hid hGw
                have hcell := HGW.out.cell HCE.out
                clear hR hGw
                simp only [depV]
                try go_simp
                all_goals first
                  | (with_reducible exact Grow.refl _)
                  | (with_reducible exact ⟨Grow.refl _, rfl⟩)
              · intro w5 hR
                have hGw : Grow w6 w5 := hR.of_drew
                have HGW := Lib.hid hGw
                have hcell := HGW.out.cell HCE.out
                clear hR hGw
                simp only [depV]
                rintro _ rfl
                rintro _ rfl
                try go_simp
                all_goals first
                  | (with_reducible exact Grow.refl _)
                  | (with_reducible exact ⟨Grow.refl _, rfl⟩)
              · intro w5 hR
                have hGw : Grow w6 w5 := hR.of_drew
                have HGW := Lib.hid hGw
                have hcell := HGW.out.cell HCE.out
                clear hR hGw
                simp only [depV]
                rintro _ rfl
                try go_simp
                all_goals first
                  | (with_reducible exact Grow.refl _)
                  | (with_reducible exact ⟨Grow.refl _, rfl⟩)
              · intro w5 hR
                have hGw : Grow w6 w5 := hR.of_drew
                have HGW := Lib.hid hGw
                have hcell := HGW.out.cell HCE.out
                clear hR hGw
                simp only [depV]
                try go_simp
                all_goals first
                  | (with_reducible exact Grow.refl _)
                  | (with_reducible exact ⟨Grow.refl _, rfl⟩)
              · intro w5 hR
                have hGw : Grow w6 w5 := hR.of_drew
                have HGW := Lib.hid hGw
                have hcell := HGW.out.cell HCE.out
                clear hR hGw
                simp only [depV]
                rintro _ rfl
                try go_simp
                all_goals first
                  | (with_reducible exact Grow.refl _)
                  | (with_reducible exact ⟨Grow.refl _, rfl⟩)
              · intro w5 hR
                have hGw : Grow w6 w5 := hR.of_drew
                have HGW := Lib.hid hGw
                have hcell := HGW.out.cell HCE.out
                clear hR hGw
                simp only [depV]
                rintro _ rfl
                rintro _ rfl
                try go_simp
                all_goals first
                  | (with_reducible exact Grow.refl _)
                  | (with_reducible exact ⟨Grow.refl _, rfl⟩)
              · intro w5 hR
                have hGw : Grow w6 w5 := hR.of_drew
                have HGW := Lib.hid hGw
                have hcell := HGW.out.cell HCE.out
                clear hR hGw
                simp only [depV]
                rintro _ rfl
                rintro _ rfl
                try go_simp
                all_goals first
                  | (with_reducible exact Grow.refl _)
                  | (with_reducible exact ⟨Grow.refl _, rfl⟩)
            · intro w5 hR
              have HG5 : Hid (Grow w6 w5) := Lib.hid hR.of_drew
              clear hR
              simp only [finVC, List.take_succ_cons, List.take_zero, List.drop_succ_cons, List.drop_zero]
              rintro _ rfl
              rintro _ rfl
              rintro _ rfl
              rintro _ rfl
              rintro _ rfl
              rintro _ rfl
              rintro _ rfl
              rintro _ rfl
              simp only [Act.put, List.setIfInBounds_toArray, List.set_cons_succ, List.set_cons_zero]
              have hB5 := (HB6.out.grow HG5.out)
              have HN5 : Hid (BrS W (w5.setCell ⟨sb, k, none⟩ (.int .i64 (nv : Nat))) it m jb sb j (seen.push r) (mixS (fun x : PersonR => orS j (seen.push r) x.d) (fun x => orS j seen x.d) c.people (k + 1))) := Lib.hid (by rw [HSU2.out]; exact hB5.store hsbw k nv)
              have hcell5 := HG5.out.cell HCE.out
              have hfr5 : w5.frozen? ⟨sb, k, none⟩ = false := hB5.sets.frozen k
              clear hB5 HG5
              go_wp2
              go_roundw
              case rel => exact ⟨k + 1, HLT.out, by go_num, HN5.out⟩
              case measure => have := HLT.out; simp [intOf]; omega
        · obtain rfl : k = c.people.length := by omega
          have hd1 : decide ((c.people.length : Int) < (c.people.length : Int)) = false := by simp
          have hd2 : decide (c.people.length < c.people.length) = false := by simp
          have HN : Hid (BrS W wx it m jb sb j (seen.push r) (c.people.map fun x => orS j (seen.push r) x.d)) := Lib.hid (by
            have h := HBK.out
            rwa [mixS_all] at h)
          have HSN := Lib.hid HN.out.iter.seen
          clear hlt
          go_wp2
          go_roundw
          case rel => exact ⟨seen.push r, HN.out⟩
          case measure => rw [HSN.out, HOLD.out]; exact HMS.out

end Go.Proofs.Yticeekkfdkfcgaa
